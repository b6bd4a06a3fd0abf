/- A row of entries while it is sorted: insertion, exchange of two parts, rotation. -/
import Derived.Test.YthfkmmgckiijcaaLE
import Derived.Test.YthfkmmgckiijcaaLSort
import Derived.Test.YthfkmmgckiijcaaLSort0
import Derived.Deep.LoopGhost
import Derived.BigRegion
set_option linter.unusedVariables false
namespace Go.Proofs.Ythfkmmgckiijcaa.Lnk
open Go.RowKit Go.Sort

/-- Entries in range. -/
abbrev VL := {x : Lk // Ok1 x}
instance : Inhabited VL := ⟨⟨(0, 0, 0), ok_empty ⟨by omega, by omega⟩⟩⟩
def encV (x : VL) : List Value := [.int .i64 x.1.1, .int .i64 x.1.2.1, .int .i64 x.1.2.2]
def cmpV (x y : VL) : Int := cmpB x.1 y.1
theorem cmpLaysB (blk off size : Nat) (w : World) : CmpLays Try.prog 42 #[] encV 3 cmpV blk off size w := fun _ _ _ _ x y => bestC_any x.1 y.1 x.2 y.2 _
theorem rowV {w : World} {blk : Nat} {d : Array VL} (hH : HoldsK encV 3 w blk 0 d) (hb : blk < w.heap.size) : RowK encV 3 w blk 0 d :=
  ⟨fun _ => rfl, fun x v hv => by simp [encV] at hv; rcases hv with rfl | rfl | rfl <;> rfl, hH, hb⟩
abbrev SWV (w0 : World) (blk : Nat) (dk : Array VL) (W : World) : Prop := SWK encV 3 w0 blk 0 dk W
section
variable {w0 W : World} {blk : Nat} {d0 dk : Array VL}
theorem sw_cell (h : SWV w0 blk dk W) (R : RowK encV 3 w0 blk 0 d0) (hs : dk.size = d0.size) (i : Nat) (hi : i < dk.size) :
    W.cell? ⟨blk, i * 3, none⟩ = some (.int .i64 dk[i]!.1.1) ∧ W.cell? ⟨blk, i * 3 + 1, none⟩ = some (.int .i64 dk[i]!.1.2.1) ∧ W.cell? ⟨blk, i * 3 + 2, none⟩ = some (.int .i64 dk[i]!.1.2.2) := by
  have hH := h.holds R.hblk R.hH hs
  have c0 := (hH.cell hi (c := 0) (by decide)).1
  have c1 := (hH.cell hi (c := 1) (by decide)).1
  have c2 := (hH.cell hi (c := 2) (by decide)).1
  rw [Nat.zero_add] at c0 c1 c2
  exact ⟨c0, c1, c2⟩
theorem sw_fr (h : SWV w0 blk dk W) (R : RowK encV 3 w0 blk 0 d0) (hs : dk.size = d0.size) (i : Nat) (hi : i < dk.size) :
    W.frozen? ⟨blk, i * 3, none⟩ = false ∧ W.frozen? ⟨blk, i * 3 + 1, none⟩ = false ∧ W.frozen? ⟨blk, i * 3 + 2, none⟩ = false := by
  have hH := h.holds R.hblk R.hH hs
  have c0 := (hH.cell hi (c := 0) (by decide)).2
  have c1 := (hH.cell hi (c := 1) (by decide)).2
  have c2 := (hH.cell hi (c := 2) (by decide)).2
  rw [Nat.zero_add] at c0 c1 c2
  exact ⟨c0, c1, c2⟩
theorem sw_swap (h : SWV w0 blk dk W) (R : RowK encV 3 w0 blk 0 d0) (i j : Nat) (hi : i < dk.size) (hj : j < dk.size) :
    SWV w0 blk (swp dk i j) ((((((W.setCell ⟨blk, i * 3, none⟩ (.int .i64 dk[j]!.1.1)).setCell ⟨blk, i * 3 + 1, none⟩ (.int .i64 dk[j]!.1.2.1)).setCell ⟨blk, i * 3 + 2, none⟩ (.int .i64 dk[j]!.1.2.2)).setCell ⟨blk, j * 3, none⟩ (.int .i64 dk[i]!.1.1)).setCell ⟨blk, j * 3 + 1, none⟩ (.int .i64 dk[i]!.1.2.1)).setCell ⟨blk, j * 3 + 2, none⟩ (.int .i64 dk[i]!.1.2.2)).drew := by
  have := (h.swap R.hk R.hblk i j hi hj).drew
  rw [Nat.zero_add, Nat.zero_add] at this
  exact this
end

theorem insV_any (fv : Unit) (blk cap a b : Nat) (d0 d : Array VL) (w0 w : World) (R : RowK encV 3 w0 blk 0 d0) (hs : d.size = d0.size) (S : SWV w0 blk d w) (hO : SWO (ltOf cmpV)) (hab : a ≤ b) (hb : b ≤ d.size) (hsz : d.size ≤ 1000000) :
    Calls Try.prog 55 #[.slice (some ⟨blk, 0, none⟩) d.size cap, .int .i64 a, .int .i64 b, .func (.func 42) #[] #[]] w fun e w' => e = .returned (.tuple #[]) ∧ SWV w0 blk (Sort.insertionSort (ltOf cmpV) d a b) w' := by
  have hs' : (Sort.insertionSort (ltOf cmpV) d a b).size = d.size := (insertionSort_holds hO d a b hab hb).1.1
  have eg : ∀ args w, (callFunc 42 args).run Try.prog w = .ok (.enter 42 args) w := enters_of Try.func42 (by kernel_rfl) rfl
  have h := AnyQ.insertionSortCmpFunc Try.insT 3 Try.isAgg38 Try.sizeOf38 encV R.hk R.h1 cmpV 42 #[] blk 0 cap a b d w eg (cmpLaysB blk 0 _ w) (S.holds R.hblk R.hH hs) (S.lt R.hblk) hab hb (by omega)
  refine Calls.mono (show Calls Try.prog 55 _ _ _ from h) ?_
  rintro e w' ⟨rfl, n, os, rfl⟩
  exact ⟨rfl, S.on R.hblk n _ os hs'⟩

set_option maxRecDepth 100000 in
set_option maxHeartbeats 1000000 in
theorem swapRange_any (fv : Value) (blk cap a b n : Nat) (d0 d : Array VL) (w0 w : World) (R : RowK encV 3 w0 blk 0 d0) (hs : d.size = d0.size) (S : SWV w0 blk d w) (hab : a + n ≤ b) (hb : b + n ≤ d.size) (hsz : d.size ≤ 1000000) :
    Calls Try.prog 58 #[.slice (some ⟨blk, 0, none⟩) d.size cap, .int .i64 a, .int .i64 b, .int .i64 n, fv] w fun e w' => e = .returned (.tuple #[]) ∧ ∃ d', Swr d a b n d' ∧ PermIn a (b + n) d d' ∧ SWV w0 blk d' w' := by
  have S0 := Lib.hid S
  clear S
  go_enter Try.func58, Try.ntmps58
  go_wp2_with fail
  go_loopw [10] (fun i wr => ∃ (q : Nat) (dk : Array VL), i = .int .i64 q ∧ q ≤ n ∧ dk.size = d.size ∧ Swr d a b q dk ∧ PermIn a (b + n) d dk ∧ SWV w0 blk dk wr) (fun i _ => n - (intOf i).toNat)
  case atStart => exact ⟨0, d, rfl, Nat.zero_le _, rfl, swr_zero d a b, permIn_refl _ _ _, S0.out⟩
  case round =>
    clear S0
    obtain ⟨q, dk, rfl, hq, hds, hw, hp, hS⟩ := hrel
    by_cases hlt : q < n
    · have HW := Lib.hid (swr_succ (by omega) (by omega) hw)
      have HP := Lib.hid (permIn_trans _ _ _ _ _ hp (swp_permIn dk a (b + n) (a + q) (b + q) (by omega) (by omega) (by omega) (by omega) (by omega)))
      have HN := Lib.hid (sw_swap hS R (a + q) (b + q) (by omega) (by omega))
      have HD := Lib.hid (show (swp dk (a + q) (b + q)).size = d.size by rw [size_swp]; exact hds)
      obtain ⟨c0, c1, c2⟩ := sw_cell hS R (by omega) (a + q) (by omega)
      obtain ⟨e0, e1, e2⟩ := sw_cell hS R (by omega) (b + q) (by omega)
      obtain ⟨f0, f1, f2⟩ := sw_fr hS R (by omega) (a + q) (by omega)
      obtain ⟨g0, g1, g2⟩ := sw_fr hS R (by omega) (b + q) (by omega)
      have ea : ((a : Int) + (q : Int)).toNat = a + q := by omega
      have eb : ((b : Int) + (q : Int)).toNat = b + q := by omega
      have pa : (0 : Int) ≤ (a : Int) + (q : Int) := by omega
      have pb : (0 : Int) ≤ (b : Int) + (q : Int) := by omega
      have ba : (a : Int) + (q : Int) < (d.size : Int) := by omega
      have bb : (b : Int) + (q : Int) < (d.size : Int) := by omega
      have ra : IntKind.i64.wrap ((a : Int) + (q : Int)) = (a : Int) + (q : Int) := by rw [IntKind.wrap_i64]; omega
      have rb : IntKind.i64.wrap ((b : Int) + (q : Int)) = (b : Int) + (q : Int) := by rw [IntKind.wrap_i64]; omega
      have hne : a + q ≠ b + q := by omega
      have mixed := mixedB
      clear hw hp hS
      generalize dk[a + q]!.1.1 = x0 at *
      generalize dk[a + q]!.1.2.1 = x1 at *
      generalize dk[a + q]!.1.2.2 = x2 at *
      generalize dk[b + q]!.1.1 = y0 at *
      generalize dk[b + q]!.1.2.1 = y1 at *
      generalize dk[b + q]!.1.2.2 = y2 at *
      go_wp2_with fail
      go_big_region_o
      go_wp2_with fail
      go_roundw
      case rel => exact ⟨q + 1, _, by go_num, hlt, HD.out, HW.out, HP.out, HN.out⟩
      case measure => simp [intOf]; omega
    · obtain rfl : q = n := by omega
      go_wp2_with fail
      go_end0
      exact ⟨rfl, dk, hw, hp, hS⟩

set_option maxRecDepth 100000 in
set_option maxHeartbeats 1000000 in
theorem rotate_any (fv : Value) (blk cap a m b : Nat) (d0 d : Array VL) (w0 w : World) (R : RowK encV 3 w0 blk 0 d0) (hs : d.size = d0.size) (S : SWV w0 blk d w) (ham : a < m) (hmb : m < b) (hb : b ≤ d.size) (hsz : d.size ≤ 1000000) :
    Calls Try.prog 57 #[.slice (some ⟨blk, 0, none⟩) d.size cap, .int .i64 a, .int .i64 m, .int .i64 b, fv] w fun e w' => e = .returned (.tuple #[]) ∧ ∃ d', Rot d a m b d' ∧ PermIn a b d d' ∧ SWV w0 blk d' w' := by
  have S0 := Lib.hid S
  have HS := Lib.hid hs
  clear S hs
  go_enter Try.func57, Try.ntmps57
  go_wp2_with fail
  go_loopw [10, 11] (fun vi vj wr => ∃ (i j : Nat) (dk : Array VL), vi = .int .i64 i ∧ vj = .int .i64 j ∧ 0 < i ∧ 0 < j ∧ a + i ≤ m ∧ m + j ≤ b ∧ dk.size = d.size ∧ PermIn a b d dk ∧ Hid (∀ d', Rot dk (m - i) m (m + j) d' → Rot d a m b d') ∧ SWV w0 blk dk wr) (fun vi vj _ => (intOf vi + intOf vj).toNat)
  case atStart => exact ⟨m - a, b - m, d, by go_num, by go_num, by omega, by omega, by omega, by omega, rfl, permIn_refl _ _ _, Lib.hid (fun d' h => by rw [show m - (m - a) = a by omega, show m + (b - m) = b by omega] at h; exact h), S0.out⟩
  case round =>
    clear S0
    obtain ⟨i, j, dk, rfl, rfl, hi0, hj0, ham2, hmb2, hds, hp, HR, hS⟩ := hrel
    have HP := Lib.hid hp
    have HDS := Lib.hid hds
    clear hp hds
    have hz1 : dk.size ≤ d.size := Nat.le_of_eq HDS.out
    have hz2 : d.size ≤ dk.size := Nat.le_of_eq HDS.out.symm
    rcases Nat.lt_trichotomy i j with hij | hij | hij
    · have hc := swapRange_any fv blk cap (m - i) (m + j - i) i d0 dk w0 wr R (HDS.out.trans HS.out) hS (by omega) (by omega) (by omega)
      rw [HDS.out, show ((m - i : Nat) : Int) = (m : Int) - (i : Int) by omega, show ((m + j - i : Nat) : Int) = (m : Int) + (j : Int) - (i : Int) by omega] at hc
      have HC := Lib.hid hc
      have t1 : ((i : Int) != (j : Int)) = true := by simp; omega
      have t2 := df (show ¬ j < i by omega)
      clear hc hS
      go_wp2_with fail
      refine HC.out.mono ?_
      rintro _ w2 ⟨rfl, d1, hw1, hp1, hS1⟩
      have HW := Lib.hid hw1
      have HP1 := Lib.hid hp1
      have HS1 := Lib.hid hS1
      clear hw1 hp1 hS1
      go_wp2_with fail
      go_roundw
      case rel => exact ⟨i, j - i, d1, rfl, by go_num, hi0, by omega, by omega, by omega, HP1.out.1.trans HDS.out, permIn_trans _ _ _ _ _ HP.out (permIn_mono _ _ (m - i) (m + j - i + i) a b (by omega) (by omega) (by omega) HP1.out), Lib.hid (fun d' h => HR.out d' (rot_right (by omega) (by omega) HW.out h)), HS1.out⟩
      case measure => simp [intOf]; omega
    · subst hij
      have hc := swapRange_any fv blk cap (m - i) m i d0 dk w0 wr R (HDS.out.trans HS.out) hS (by omega) (by omega) (by omega)
      rw [HDS.out, show ((m - i : Nat) : Int) = (m : Int) - (i : Int) by omega] at hc
      have HC := Lib.hid hc
      have t1 : ((i : Int) != (i : Int)) = false := by simp
      clear hc hS
      go_wp2_with fail
      refine HC.out.mono ?_
      rintro _ w2 ⟨rfl, d1, hw1, hp1, hS1⟩
      have HW := Lib.hid hw1
      have HP1 := Lib.hid hp1
      have HS1 := Lib.hid hS1
      clear hw1 hp1 hS1
      go_wp2_with fail
      go_end0
      exact ⟨rfl, d1, HR.out d1 (rot_even (by omega) HW.out), permIn_trans _ _ _ _ _ HP.out (permIn_mono _ _ (m - i) (m + i) a b (by omega) (by omega) (by omega) HP1.out), HS1.out⟩
    · have hc := swapRange_any fv blk cap (m - i) m j d0 dk w0 wr R (HDS.out.trans HS.out) hS (by omega) (by omega) (by omega)
      rw [HDS.out, show ((m - i : Nat) : Int) = (m : Int) - (i : Int) by omega] at hc
      have HC := Lib.hid hc
      have t1 : ((i : Int) != (j : Int)) = true := by simp; omega
      have t2 := dt (show j < i by omega)
      clear hc hS
      go_wp2_with fail
      refine HC.out.mono ?_
      rintro _ w2 ⟨rfl, d1, hw1, hp1, hS1⟩
      have HW := Lib.hid hw1
      have HP1 := Lib.hid hp1
      have HS1 := Lib.hid hS1
      clear hw1 hp1 hS1
      go_wp2_with fail
      go_roundw
      case rel => exact ⟨i - j, j, d1, by go_num, rfl, by omega, hj0, by omega, by omega, HP1.out.1.trans HDS.out, permIn_trans _ _ _ _ _ HP.out (permIn_mono _ _ (m - i) (m + j) a b (by omega) (by omega) (by omega) HP1.out), Lib.hid (fun d' h => HR.out d' (rot_left (by omega) (by omega) HW.out h)), HS1.out⟩
      case measure => simp [intOf]; omega
end Go.Proofs.Ythfkmmgckiijcaa.Lnk
