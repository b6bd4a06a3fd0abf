/- The symmetric merge: one element on the left, one on the right. -/
import Derived.Test.YthfkmmgckiijcaaLF
set_option linter.unusedVariables false
namespace Go.Proofs.Ythfkmmgckiijcaa.Lnk
open Go.RowKit Go.Sort

theorem cmpAt (x y : VL) (W : World) : Calls Try.prog 42 #[.agg #[.int .i64 x.1.1, .int .i64 x.1.2.1, .int .i64 x.1.2.2], .agg #[.int .i64 y.1.1, .int .i64 y.1.2.1, .int .i64 y.1.2.2]] W (OutG W (.int .i64 (cmpV x y))) := bestC_any x.1 y.1 x.2 y.2 W
theorem enB : ∀ args w, (callFunc 42 args).run Try.prog w = .ok (.enter 42 args) w := enters_of Try.func42 (by kernel_rfl) rfl
theorem u64_nat2 (i j : Nat) (h : i + j < 18446744073709551616) : IntKind.u64.wrap ((i : Int) + (j : Int)) = (i : Int) + (j : Int) := by
  show ((i : Int) + (j : Int)) % 18446744073709551616 = _
  omega
theorem i64_nat (h : Nat) (hh : h ≤ 9223372036854775807) : IntKind.i64.wrap (h : Int) = (h : Int) := by rw [IntKind.wrap_i64]; omega
/-- What a merge hands back. -/
def OutS (lt : VL → VL → Bool) (w0 : World) (blk a b : Nat) (d : Array VL) (e : Ending) (w' : World) : Prop := e = .returned (.tuple #[]) ∧ ∃ d', PermIn a b d d' ∧ SortedIn lt a b d' ∧ SWV w0 blk d' w'
variable {lt : VL → VL → Bool}

set_option maxRecDepth 100000 in
set_option maxHeartbeats 1000000 in
theorem symA_any (hO : SWO lt) (blk cap a m b : Nat) (d0 d : Array VL) (w0 w : World) (R : RowK encV 3 w0 blk 0 d0) (hs : d.size = d0.size) (S : SWV w0 blk d w) (h1 : m = a + 1) (hmb : m < b) (hb : b ≤ d.size) (hsz : d.size ≤ 1000000)
    (hr : SortedIn lt m b d) (hg : Agr lt (ltOf cmpV) a m b d) :
    Calls Try.prog 56 #[.slice (some ⟨blk, 0, none⟩) d.size cap, .int .i64 a, .int .i64 m, .int .i64 b, .func (.func 42) #[] #[]] w (OutS lt w0 blk a b d) := by
  have S0 := Lib.hid S
  have HS := Lib.hid hs
  have HR := Lib.hid hr
  have HG := Lib.hid hg
  have t1 : ((m : Int) - (a : Int) == 1) = true := by simp; omega
  have hm1 : m ≤ a + 1 := by omega
  have hm2 : a + 1 ≤ m := by omega
  have eg := enB
  clear S hs hr hg h1
  go_enter Try.func56, Try.ntmps56
  go_wp2_with fail
  go_loopw [10, 11] (fun vi vj wr => ∃ i j : Nat, vi = .int .i64 i ∧ vj = .int .i64 j ∧ m ≤ i ∧ i ≤ j ∧ j ≤ b ∧ Hid (∀ p, m ≤ p → p < i → lt d[p]! d[a]! = true) ∧ Hid (∀ p, j ≤ p → p < b → lt d[p]! d[a]! = false) ∧ SWV w0 blk d wr) (fun vi vj _ => (intOf vj - intOf vi).toNat)
  case atStart => exact ⟨m, b, rfl, rfl, Nat.le_refl _, by omega, Nat.le_refl _, Lib.hid (fun p h1 h2 => by omega), Lib.hid (fun p h1 h2 => by omega), S0.out⟩
  case round =>
    clear S0
    obtain ⟨i, j, rfl, rfl, hmi, hij, hjb, HL, HH, hS⟩ := hrel
    have SS := Lib.hid hS
    by_cases hlt : i < j
    · obtain ⟨h, hh⟩ : ∃ h, h = (i + j) / 2 := ⟨_, rfl⟩
      have h1 : i ≤ h := by omega
      have h2 : h < j := by omega
      have u1 := u64_nat2 i j (by omega)
      have eH : ((i : Int) + (j : Int)) / 2 = (h : Int) := by omega
      have wH := i64_nat h (by omega)
      have bh : (h : Int) < (d.size : Int) := by omega
      have ba : (a : Int) < (d.size : Int) := by omega
      have AG := Lib.hid (HG.out a h (Nat.le_refl _) (by omega) (by omega) (by omega))
      have C := fun n os => sw_cell (hS.grown n os) R HS.out h (by omega)
      have c0 := fun n os => (C n os).1
      have c1 := fun n os => (C n os).2.1
      have c2 := fun n os => (C n os).2.2
      have C' := fun n os => sw_cell (hS.grown n os) R HS.out a (by omega)
      have e0 := fun n os => (C' n os).1
      have e1 := fun n os => (C' n os).2.1
      have e2 := fun n os => (C' n os).2.2
      have KC := Lib.hid (fun W => cmpAt d[h]! d[a]! W)
      have AG := Lib.hid (show decide (cmpV d[h]! d[a]! < 0) = lt d[h]! d[a]! from AG.out)
      clear C C' hS hh
      generalize cmpV d[h]! d[a]! = r at *
      generalize d[h]!.1.1 = x0 at *
      generalize d[h]!.1.2.1 = x1 at *
      generalize d[h]!.1.2.2 = x2 at *
      generalize d[a]!.1.1 = y0 at *
      generalize d[a]!.1.2.1 = y1 at *
      generalize d[a]!.1.2.2 = y2 at *
      by_cases hr : r < 0
      · have d1 := dt hr
        have LT := Lib.hid (show lt d[h]! d[a]! = true by rw [← AG.out]; exact d1)
        clear AG
        go_wp2_with fail
        have mixed := mixedB
        go_quiet_grown (first | (go_at_call 42; exact grown_out (KC.out _)) | fail)
        go_wp2_with fail
        go_roundw
        case rel => exact ⟨h + 1, j, by go_num, rfl, by omega, by omega, hjb, Lib.hid (fun p p1 p2 => lt_low hO (sorted_le hO HR.out p1 (show p ≤ h by omega) (by omega)) LT.out), HH, SS.out.grown _ _⟩
        case measure => simp [intOf]; omega
      · have d1 := df hr
        have LT := Lib.hid (show lt d[h]! d[a]! = false by rw [← AG.out]; exact d1)
        clear AG
        go_wp2_with fail
        have mixed := mixedB
        go_quiet_grown (first | (go_at_call 42; exact grown_out (KC.out _)) | fail)
        go_wp2_with fail
        go_roundw
        case rel => exact ⟨i, h, rfl, rfl, hmi, by omega, by omega, HL, Lib.hid (fun p p1 p2 => hO.ntrans _ _ _ (sorted_le hO HR.out (by omega) (show h ≤ p by omega) p2) LT.out), SS.out.grown _ _⟩
        case measure => simp [intOf]; omega
    · have HH := Lib.hid (show ∀ p, i ≤ p → p < b → lt d[p]! d[a]! = false from fun p p1 p2 => HH.out p (by omega) p2)
      clear hS
      go_wp2_with fail
      go_loopw [13] (fun vk wr => ∃ (k : Nat) (dk : Array VL), vk = .int .i64 k ∧ a ≤ k ∧ k + 1 ≤ i ∧ Hid (dk.size = d.size ∧ Mvu d a k dk ∧ PermIn a b d dk) ∧ SWV w0 blk dk wr) (fun vk _ => i - (intOf vk).toNat)
      case atStart => exact ⟨a, d, rfl, Nat.le_refl _, by omega, Lib.hid ⟨rfl, mvu_zero d a, permIn_refl _ _ _⟩, SS.out⟩
      case round =>
        clear SS
        obtain ⟨k, dk, rfl, hak, hki, HD, hS⟩ := hrel
        have hz1 : dk.size ≤ d.size := Nat.le_of_eq HD.out.1
        have hz2 : d.size ≤ dk.size := Nat.le_of_eq HD.out.1.symm
        by_cases hlt2 : k + 1 < i
        · have HD2 := Lib.hid (show (swp dk k (k + 1)).size = d.size ∧ Mvu d a (k + 1) (swp dk k (k + 1)) ∧ PermIn a b d (swp dk k (k + 1)) from
            ⟨by rw [size_swp]; exact HD.out.1, mvu_succ hak (by omega) HD.out.2.1, permIn_trans _ _ _ _ _ HD.out.2.2 (swp_permIn dk a b k (k + 1) (by omega) (by omega) (by omega) (by omega) (by omega))⟩)
          have HN := Lib.hid (sw_swap hS R k (k + 1) (by omega) (by omega))
          obtain ⟨c0, c1, c2⟩ := sw_cell hS R (HD.out.1.trans HS.out) k (by omega)
          obtain ⟨e0, e1, e2⟩ := sw_cell hS R (HD.out.1.trans HS.out) (k + 1) (by omega)
          obtain ⟨f0, f1, f2⟩ := sw_fr hS R (HD.out.1.trans HS.out) k (by omega)
          obtain ⟨g0, g1, g2⟩ := sw_fr hS R (HD.out.1.trans HS.out) (k + 1) (by omega)
          have ta := dt (show (k : Int) < (i : Int) - 1 by omega)
          have ea : ((k : Int) + 1).toNat = k + 1 := by omega
          have pa : (0 : Int) ≤ (k : Int) + 1 := by omega
          have ba : (k : Int) + 1 < (d.size : Int) := by omega
          have bb : (k : Int) < (d.size : Int) := by omega
          have ra : IntKind.i64.wrap ((k : Int) + 1) = (k : Int) + 1 := by rw [IntKind.wrap_i64]; omega
          clear hS
          generalize dk[k]!.1.1 = x0 at *
          generalize dk[k]!.1.2.1 = x1 at *
          generalize dk[k]!.1.2.2 = x2 at *
          generalize dk[k + 1]!.1.1 = y0 at *
          generalize dk[k + 1]!.1.2.1 = y1 at *
          generalize dk[k + 1]!.1.2.2 = y2 at *
          go_wp2_with fail
          have mixed := mixedB
          go_big_region_o
          go_wp2_with fail
          go_roundw
          case rel => exact ⟨k + 1, _, by go_num, by omega, by omega, HD2, HN.out⟩
          case measure => simp [intOf]; omega
        · have ta := df (show ¬ (k : Int) < (i : Int) - 1 by omega)
          have SS := Lib.hid hS
          clear hS
          go_wp2_with fail
          go_end0
          refine ⟨rfl, dk, HD.out.2.2, ?_, SS.out⟩
          have HM := HD.out.2.1
          rw [show k = i - 1 by omega] at HM
          rw [show m = a + 1 by omega] at HR HL
          exact mvu_sorted hO (by omega) (by omega) HR.out HL.out HH.out HM
end Go.Proofs.Ythfkmmgckiijcaa.Lnk
