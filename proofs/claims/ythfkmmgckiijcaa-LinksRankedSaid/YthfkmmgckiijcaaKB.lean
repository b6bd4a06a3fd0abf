/- Contracts of num's Sat, Floor and Ceil. -/
import Derived.Test.YthfkmmgckiijcaaKA
set_option linter.unusedVariables false
namespace Go.Proofs.Ythfkmmgckiijcaa
open Go.RowKit

set_option maxHeartbeats 400000 in
theorem nsat_any (a : Int) (w : World) :
    Calls Try.prog 48 #[.int .i64 a] w fun e w' => e = .returned (.int .i64 (sat a)) ∧ w = w' := by
  go_enter Try.func48, Try.ntmps48
  go_wp2_with (go_at_call 52; refine (clamp_any _ _ _ _).mono ?_; rintro e w' ⟨rfl, rfl⟩)
  go_ret; refine ⟨ret_int ?_, rfl⟩; unfold sat; (repeat' split) <;> omega

set_option maxHeartbeats 400000 in
theorem nfloor_any (a b : Int) (w : World) :
    Calls Try.prog 38 #[.int .i64 a, .int .i64 b] w fun e w' => e = .returned (.int .i64 (flo a b)) ∧ w = w' := by
  by_cases hb : b = 0
  · subst hb
    have h0 : (sat 0 == 0) = true := rfl
    go_enter Try.func38, Try.ntmps38
    go_wp2_with (go_at_call 48; refine (nsat_any _ _).mono ?_; rintro e w' ⟨rfl, rfl⟩)
    all_goals (go_ret; exact ⟨rfl, rfl⟩)
  · have hy := sat_ne b hb
    have hsb : (sat b == 0) = false := by simpa using hy
    have hsb0 : (b == 0) = false := by simpa using hb
    have bx := sat_in a
    have bd := tdiv_bd (sat a) (sat b) bx.1 bx.2
    obtain ⟨bd1, bd2⟩ := bd
    have F : Hid (flo a b = (sat a).fdiv (sat b)) := Lib.hid (flo_nz a b hb)
    clear hb bx
    go_enter Try.func38, Try.ntmps38
    go_wp2_with (go_at_call 48; refine (nsat_any _ _).mono ?_; rintro e w' ⟨rfl, rfl⟩)
    all_goals (go_ret; refine ⟨ret_int ?_, rfl⟩; rw [F.out]; first | exact fdiv_t1 _ _ hy ‹_› | exact fdiv_t2 _ _ hy ‹_› | exact fdiv_t3 _ _ hy ‹_›)

set_option maxHeartbeats 400000 in
theorem nceil_any (a b : Int) (w : World) :
    Calls Try.prog 46 #[.int .i64 a, .int .i64 b] w fun e w' => e = .returned (.int .i64 (-flo (-a) b)) ∧ w = w' := by
  have h1 := sat_in a
  have h2 := flo_bd (-sat a) b
  have F : Hid (flo (-sat a) b = flo (-a) b) := Lib.hid (by unfold flo; rw [← sat_opp, sat_sat])
  go_enter Try.func46, Try.ntmps46
  go_wp2_with (first | (go_at_call 48; refine (nsat_any _ _).mono ?_; rintro e w' ⟨rfl, rfl⟩) | (go_at_call 38; refine (nfloor_any _ _ _).mono ?_; rintro e w' ⟨rfl, rfl⟩))
  go_ret; refine ⟨ret_int ?_, rfl⟩; rw [F.out]
theorem flo_plain (a b : Int) (ha : -1099511627776 ≤ a) (ha2 : a ≤ 1099511627776) (hb : 0 < b) (hb2 : b ≤ 1099511627776) : flo a b = a / b := by
  rw [flo_nz a b (by omega), sat_id a ha ha2, sat_id b (by omega) hb2]
  exact Int.fdiv_eq_ediv_of_nonneg a (by omega)
end Go.Proofs.Ythfkmmgckiijcaa
