/- Contracts of clock's functions of years and months: they read the table of the days before each month. -/
import Derived.Test.YtoodfiicoplbhaaDoorCA
set_option linter.unusedVariables false
namespace Go.Proofs.YtoodfiicoplbhaaDoor
open Go.RowKit

/-- The table of the days before each month lies as it was laid. -/
def Tab (w : World) : Prop := ∀ i, i < 13 → w.cell? ⟨0, i, none⟩ = some (.int .i64 (cum i))
theorem Tab.below {w w' : World} (h : Tab w) (hb : Below w.heap.size w w') : Tab w' := fun i hi => (hb.cell (World.block_lt_of_cell? w _ (h i hi))).trans (h i hi)
theorem Tab.drewN {w : World} (h : Tab w) (n : Nat) : Tab (w.drewN n) := h

set_option maxHeartbeats 400000 in
theorem dby_any (y : Int) (w : World) (h0 : 1900 ≤ y) (h1 : y ≤ 10000) (hT : Tab w) :
    Calls Tryd.prog 32 #[.int .i64 y] w fun e w' => e = .returned (.int .i64 (dby y)) ∧ w = w' := by
  have c : w.cell? ⟨0, 12, none⟩ = some (.int .i64 365) := hT 12 (by decide)
  have f1 := Lib.hid (flo_plain (-(y - 2000)) 4 (by omega) (by omega) (by omega) (by omega))
  have f2 := Lib.hid (flo_plain (-(y - 2000)) 100 (by omega) (by omega) (by omega) (by omega))
  have f3 := Lib.hid (flo_plain (-(y - 2000)) 400 (by omega) (by omega) (by omega) (by omega))
  have b1 := flo_bd (-(y - 2000)) 4
  have b2 := flo_bd (-(y - 2000)) 100
  have b3 := flo_bd (-(y - 2000)) 400
  clear hT
  go_enter Tryd.func32, Tryd.ntmps32
  go_wp2_with (go_at_call 45; refine (nceil_any _ _ _).mono ?_; rintro e w' ⟨rfl, rfl⟩)
  go_ret
  refine ⟨ret_int ?_, rfl⟩
  rw [f1.out, f2.out, f3.out]
  unfold dby
  omega

set_option maxHeartbeats 400000 in
theorem dbm_any (y : Int) (k : Nat) (w : World) (h0 : 0 ≤ y) (hk : k < 13) (hT : Tab w) :
    Calls Tryd.prog 33 #[.int .i64 y, .int .i64 ((k : Int) + 1)] w fun e w' => e = .returned (.int .i64 (dbm y ((k : Int) + 1))) ∧ w = w' := by
  have c := hT k hk
  have b := cum_in k
  have E := Lib.hid (show dbm y ((k : Int) + 1) = cum k + if 2 < (k : Int) + 1 then lp y else 0 by unfold dbm; rw [show ((k : Int) + 1 - 1).toNat = k by omega])
  have L := Lib.hid (lp_lpB y)
  generalize cum k = q at *
  clear hT
  go_enter Tryd.func33, Tryd.ntmps33
  go_wp2_with (go_at_call 46; refine (leap_any _ _ (by omega)).mono ?_; rintro e w' ⟨rfl, rfl⟩)
  all_goals (go_ret; refine ⟨ret_int ?_, rfl⟩; rw [E.out, L.out]; (repeat' split) <;> first | omega | simp_all)

set_option maxHeartbeats 400000 in
theorem yearof_any (d : Int) (w : World) (h0 : 0 ≤ d) (h1 : d ≤ 1000000) (hT : Tab w) :
    Calls Tryd.prog 38 #[.int .i64 d] w fun e w' => e = .returned (.int .i64 (yr d)) ∧ w = w' := by
  have c : w.cell? ⟨0, 12, none⟩ = some (.int .i64 365) := hT 12 (by decide)
  have T := Lib.hid hT
  clear hT
  go_enter Tryd.func38, Tryd.ntmps38
  go_wp2_with fail
  go_loop [3] (fun y => ∃ Y : Int, y = .int .i64 Y ∧ 2000 ≤ Y ∧ Y ≤ 6000 ∧ d < dby (Y + 1)) (fun y => (intOf y).toNat)
  case atStart =>
    refine ⟨_, rfl, by omega, by omega, ?_⟩
    have := dby_far (2000 + d / 365 + 1) (by omega)
    omega
  case round =>
    obtain ⟨Y, rfl, hy0, hy1, hlt⟩ := hrel
    have L := Lib.hid hlt
    by_cases hg : d < dby Y
    · have M := Lib.hid (show 2000 < Y by
        rcases ilt_or 2000 Y with h | h
        · exact h
        · have := dby_mono Y 2000 h; have := dby_zero; omega)
      have hg2 : decide (d < dby Y) = true := decide_eq_true hg
      clear hlt hg
      go_wp2_with (go_at_call 32; refine (dby_any _ _ (by omega) (by omega) T.out).mono ?_; rintro e w' ⟨rfl, rfl⟩)
      go_round
      case rel => exact ⟨Y - 1, rfl, by have := M.out; omega, by omega, by rw [show Y - 1 + 1 = Y by omega]; exact of_decide_eq_true hg2⟩
      case measure => simp [intOf]; omega
    · have E := Lib.hid (yr_eq ⟨by omega, hlt⟩ : yr d = Y)
      have hg2 : decide (d < dby Y) = false := decide_eq_false hg
      clear hlt hg
      go_wp2_with (go_at_call 32; refine (dby_any _ _ (by omega) (by omega) T.out).mono ?_; rintro e w' ⟨rfl, rfl⟩)
      go_ret
      exact ⟨ret_int E.out.symm, rfl⟩

set_option maxHeartbeats 400000 in
theorem monthof_any (y r : Int) (w : World) (hy : 0 ≤ y) (h0 : 0 ≤ r) (h1 : r < 365 + lp y) (hT : Tab w) :
    Calls Tryd.prog 39 #[.int .i64 y, .int .i64 r] w fun e w' => e = .returned (.int .i64 (mo y r)) ∧ w = w' := by
  have T := Lib.hid hT
  have M := Lib.hid h1
  clear hT h1
  go_enter Tryd.func39, Tryd.ntmps39
  go_wp2_with fail
  go_loop [5] (fun m => ∃ k : Nat, m = .int .i64 ((k : Int) + 1) ∧ k ≤ 11 ∧ r < dbm y ((k : Int) + 1 + 1)) (fun m => (intOf m).toNat)
  case atStart => exact ⟨11, rfl, by omega, by have := dbm_end y; have := M.out; rw [show ((11 : Nat) : Int) + 1 + 1 = 13 by rfl]; omega⟩
  case round =>
    obtain ⟨k, rfl, hk, hlt⟩ := hrel
    have L := Lib.hid hlt
    by_cases hg : r < dbm y ((k : Int) + 1)
    · have P := Lib.hid (show 1 ≤ k by
        rcases Nat.eq_zero_or_pos k with h | h
        · subst h; have := dbm_one y; simp at hg; omega
        · exact h)
      have hg2 : decide (r < dbm y ((k : Int) + 1)) = true := decide_eq_true hg
      clear hlt hg
      go_wp2_with (go_at_call 33; refine (dbm_any _ _ _ (by omega) (by omega) T.out).mono ?_; rintro e w' ⟨rfl, rfl⟩)
      go_round
      case rel => exact ⟨k - 1, val_int (by have := P.out; omega), by omega, by have := P.out; rw [show ((k - 1 : Nat) : Int) + 1 + 1 = (k : Int) + 1 by omega]; exact of_decide_eq_true hg2⟩
      case measure => have := P.out; simp [intOf] <;> omega
    · have E := Lib.hid (mo_eq ⟨by omega, by omega, by omega, hlt⟩ : mo y r = (k : Int) + 1)
      have hg2 : decide (r < dbm y ((k : Int) + 1)) = false := decide_eq_false hg
      clear hlt hg
      go_wp2_with (go_at_call 33; refine (dbm_any _ _ _ (by omega) (by omega) T.out).mono ?_; rintro e w' ⟨rfl, rfl⟩)
      go_ret
      exact ⟨ret_int E.out.symm, rfl⟩
end Go.Proofs.YtoodfiicoplbhaaDoor
