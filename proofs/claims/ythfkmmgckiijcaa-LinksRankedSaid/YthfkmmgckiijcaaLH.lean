/- The symmetric merge: one element on the right. -/
import Derived.Test.YthfkmmgckiijcaaLG
set_option linter.unusedVariables false
namespace Go.Proofs.Ythfkmmgckiijcaa.Lnk
open Go.RowKit Go.Sort
variable {lt : VL → VL → Bool}

set_option maxRecDepth 100000 in
set_option maxHeartbeats 1000000 in
theorem symB_any (hO : SWO lt) (blk cap a m b : Nat) (d0 d : Array VL) (w0 w : World) (R : RowK encV 3 w0 blk 0 d0) (hs : d.size = d0.size) (S : SWV w0 blk d w) (h0 : a + 1 < m) (h1 : b = m + 1) (hb : b ≤ d.size) (hsz : d.size ≤ 1000000)
    (hl : SortedIn lt a m d) (hg : Agr lt (ltOf cmpV) a m b d) :
    Calls Try.prog 56 #[.slice (some ⟨blk, 0, none⟩) d.size cap, .int .i64 a, .int .i64 m, .int .i64 b, .func (.func 42) #[] #[]] w (OutS lt w0 blk a b d) := by
  have S0 := Lib.hid S
  have HS := Lib.hid hs
  have HR := Lib.hid hl
  have HG := Lib.hid hg
  have t1 : ((m : Int) - (a : Int) == 1) = false := by simp; omega
  have t2 : ((b : Int) - (m : Int) == 1) = true := by simp; omega
  have hm1 : b ≤ m + 1 := by omega
  have hm2 : m + 1 ≤ b := by omega
  have eg := enB
  clear S hs hl hg h1
  go_enter Try.func56, Try.ntmps56
  go_wp2_with fail
  go_loopw [14, 15] (fun vi vj wr => ∃ i j : Nat, vi = .int .i64 i ∧ vj = .int .i64 j ∧ a ≤ i ∧ i ≤ j ∧ j ≤ m ∧ Hid (∀ p, a ≤ p → p < i → lt d[m]! d[p]! = false) ∧ Hid (∀ p, j ≤ p → p < m → lt d[m]! d[p]! = true) ∧ SWV w0 blk d wr) (fun vi vj _ => (intOf vj - intOf vi).toNat)
  case atStart => exact ⟨a, m, rfl, rfl, Nat.le_refl _, by omega, Nat.le_refl _, Lib.hid (fun p h1 h2 => by omega), Lib.hid (fun p h1 h2 => by omega), S0.out⟩
  case round =>
    clear S0
    obtain ⟨i, j, rfl, rfl, hai, hij, hjm, HL, HH, hS⟩ := hrel
    have SS := Lib.hid hS
    by_cases hlt : i < j
    · obtain ⟨h, hh⟩ : ∃ h, h = (i + j) / 2 := ⟨_, rfl⟩
      have h1 : i ≤ h := by omega
      have h2 : h < j := by omega
      have u1 := u64_nat2 i j (by omega)
      have eH : ((i : Int) + (j : Int)) / 2 = (h : Int) := by omega
      have wH := i64_nat h (by omega)
      have bh : (h : Int) < (d.size : Int) := by omega
      have bm : (m : Int) < (d.size : Int) := by omega
      have C := fun n os => sw_cell (hS.grown n os) R HS.out h (by omega)
      have c0 := fun n os => (C n os).1
      have c1 := fun n os => (C n os).2.1
      have c2 := fun n os => (C n os).2.2
      have C' := fun n os => sw_cell (hS.grown n os) R HS.out m (by omega)
      have e0 := fun n os => (C' n os).1
      have e1 := fun n os => (C' n os).2.1
      have e2 := fun n os => (C' n os).2.2
      have KC := Lib.hid (fun W => cmpAt d[m]! d[h]! W)
      have AG := Lib.hid (show decide (cmpV d[m]! d[h]! < 0) = lt d[m]! d[h]! from HG.out h m (by omega) (by omega) (Nat.le_refl _) (by omega))
      clear C C' hS hh
      generalize cmpV d[m]! d[h]! = r at *
      generalize d[h]!.1.1 = x0 at *
      generalize d[h]!.1.2.1 = x1 at *
      generalize d[h]!.1.2.2 = x2 at *
      generalize d[m]!.1.1 = y0 at *
      generalize d[m]!.1.2.1 = y1 at *
      generalize d[m]!.1.2.2 = y2 at *
      by_cases hr : r < 0
      · have d1 := dt hr
        have LT := Lib.hid (show lt d[m]! d[h]! = true by rw [← AG.out]; exact d1)
        clear AG
        go_wp2_with fail
        have mixed := mixedB
        go_quiet_grown (first | (go_at_call 42; exact grown_out (KC.out _)) | fail)
        go_wp2_with fail
        go_roundw
        case rel => exact ⟨i, h, rfl, rfl, hai, by omega, by omega, HL, Lib.hid (fun p p1 p2 => lt_high hO (sorted_le hO HR.out (by omega) (show h ≤ p by omega) p2) LT.out), SS.out.grown _ _⟩
        case measure => simp [intOf]; omega
      · have d1 := df hr
        have LT := Lib.hid (show lt d[m]! d[h]! = false by rw [← AG.out]; exact d1)
        clear AG
        go_wp2_with fail
        have mixed := mixedB
        go_quiet_grown (first | (go_at_call 42; exact grown_out (KC.out _)) | fail)
        go_wp2_with fail
        go_roundw
        case rel => exact ⟨h + 1, j, by go_num, rfl, by omega, by omega, hjm, Lib.hid (fun p p1 p2 => hO.ntrans _ _ _ LT.out (sorted_le hO HR.out p1 (show p ≤ h by omega) (by omega))), HH, SS.out.grown _ _⟩
        case measure => simp [intOf]; omega
    · have HH := Lib.hid (show ∀ p, i ≤ p → p < m → lt d[m]! d[p]! = true from fun p p1 p2 => HH.out p (by omega) p2)
      clear hS
      go_wp2_with fail
      go_loopw [17] (fun vk wr => ∃ (k : Nat) (dk : Array VL), vk = .int .i64 k ∧ i ≤ k ∧ k ≤ m ∧ Hid (dk.size = d.size ∧ Mvd d k m dk ∧ PermIn a b d dk) ∧ SWV w0 blk dk wr) (fun vk _ => (intOf vk).toNat - i)
      case atStart => exact ⟨m, d, rfl, by omega, Nat.le_refl _, Lib.hid ⟨rfl, mvd_zero d m, permIn_refl _ _ _⟩, SS.out⟩
      case round =>
        clear SS
        obtain ⟨k, dk, rfl, hik, hkm, HD, hS⟩ := hrel
        have hz1 : dk.size ≤ d.size := Nat.le_of_eq HD.out.1
        have hz2 : d.size ≤ dk.size := Nat.le_of_eq HD.out.1.symm
        by_cases hlt2 : i < k
        · obtain ⟨q, hkq⟩ : ∃ q, k = q + 1 := ⟨k - 1, by omega⟩
          have HD2 := Lib.hid (show (swp dk k q).size = d.size ∧ Mvd d q m (swp dk k q) ∧ PermIn a b d (swp dk k q) from
            ⟨by rw [size_swp]; exact HD.out.1, by have := HD.out.2.1; rw [hkq] at this ⊢; exact mvd_succ (by omega) (by omega) this, permIn_trans _ _ _ _ _ HD.out.2.2 (swp_permIn dk a b k q (by omega) (by omega) (by omega) (by omega) (by omega))⟩)
          have HN := Lib.hid (sw_swap hS R k q (by omega) (by omega))
          obtain ⟨c0, c1, c2⟩ := sw_cell hS R (HD.out.1.trans HS.out) k (by omega)
          obtain ⟨e0, e1, e2⟩ := sw_cell hS R (HD.out.1.trans HS.out) q (by omega)
          obtain ⟨f0, f1, f2⟩ := sw_fr hS R (HD.out.1.trans HS.out) k (by omega)
          obtain ⟨g0, g1, g2⟩ := sw_fr hS R (HD.out.1.trans HS.out) q (by omega)
          have ea : (k : Int) - 1 = (q : Int) := by omega
          have pa : (0 : Int) ≤ (q : Int) := by omega
          have ba : (q : Int) < (d.size : Int) := by omega
          have bb : (k : Int) < (d.size : Int) := by omega
          have ra := i64_nat q (by omega)
          have hne : k ≠ q := by omega
          have hne2 : q ≠ k := by omega
          have hq1 : i ≤ q := by omega
          have hq2 : q + 1 ≤ k := by omega
          have hq3 : k ≤ q + 1 := by omega
          clear hS hkq
          generalize dk[k]!.1.1 = x0 at *
          generalize dk[k]!.1.2.1 = x1 at *
          generalize dk[k]!.1.2.2 = x2 at *
          generalize dk[q]!.1.1 = y0 at *
          generalize dk[q]!.1.2.1 = y1 at *
          generalize dk[q]!.1.2.2 = y2 at *
          go_wp2_with fail
          have mixed := mixedB
          go_big_region_o
          go_wp2_with fail
          go_roundw
          case rel => exact ⟨q, _, by first | rfl | go_num, hq1, by omega, HD2, HN.out⟩
          case measure => simp [intOf]; omega
        · have SS := Lib.hid hS
          clear hS
          go_wp2_with fail
          go_end0
          refine ⟨rfl, dk, HD.out.2.2, ?_, SS.out⟩
          have HM := HD.out.2.1
          rw [show k = i by omega] at HM
          have := mvd_sorted hO hai (by omega) HR.out HL.out HH.out HM
          rw [show m + 1 = b by omega] at this
          exact this
end Go.Proofs.Ythfkmmgckiijcaa.Lnk
