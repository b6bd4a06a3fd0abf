/- The contract of lives, and the walks of the laws. -/
import Derived.Test.YtkgbmoiolgpmoaaWalkG
set_option linter.unusedVariables false
namespace Go.Proofs.Ytkgbmoiolgpmoaa
open Go.RowKit

theorem p_m12 (w : World) : Calls Try.prog 29 #[.string ⟨#[45, 49, 50]⟩] w fun e w' => e = .returned (.tuple #[.int .i64 (-12), .bool true]) ∧ Grown w w' :=
  (nparse_any ⟨#[45, 49, 50]⟩ w (by decide)).mono fun _ _ ⟨h1, h2⟩ => ⟨by rw [h1, parsed_yes _ (by decide +kernel), show valS ⟨#[45, 49, 50]⟩ = -12 by decide +kernel], h2⟩
theorem p_007 (w : World) : Calls Try.prog 29 #[.string ⟨#[48, 48, 55]⟩] w fun e w' => e = .returned (.tuple #[.int .i64 0, .bool false]) ∧ Grown w w' :=
  (nparse_any ⟨#[48, 48, 55]⟩ w (by decide)).mono fun _ _ ⟨h1, h2⟩ => ⟨by rw [h1, parsed_no _ (by decide +kernel)], h2⟩
theorem d_m12 (w : World) : Calls Try.prog 31 #[.int .i64 (-12)] w fun e w' => e = .returned (.string ⟨#[45, 49, 50]⟩) ∧ Grown w w' :=
  (ndig_any (-12) w (by unfold I64; omega)).mono fun _ _ ⟨h1, h2⟩ => ⟨by rw [h1, show digS (-12) = ⟨#[45, 49, 50]⟩ by decide +kernel], h2⟩
theorem s_50 (w : World) : Calls Try.prog 12 #[.int .i64 1125899906842624] w fun e w' => e = .returned (.int .i64 1099511627776) ∧ w = w' :=
  (nsat_any 1125899906842624 w).mono fun _ _ ⟨h1, h2⟩ => ⟨by rw [h1, show sat 1125899906842624 = 1099511627776 by decide +kernel], h2⟩
theorem a_50 (w : World) : Calls Try.prog 14 #[.int .i64 1125899906842624, .int .i64 (-1125899906842619)] w fun e w' => e = .returned (.int .i64 5) ∧ w = w' :=
  (nadd_any 1125899906842624 (-1125899906842619) w (by unfold I64; omega) (by unfold I64; omega)).mono fun _ _ ⟨h1, h2⟩ => ⟨by rw [h1, show sat (1125899906842624 + -1125899906842619) = 5 by decide +kernel], h2⟩
theorem f_m7 (w : World) : Calls Try.prog 21 #[.int .i64 (-7), .int .i64 2] w fun e w' => e = .returned (.int .i64 (-4)) ∧ w = w' :=
  (nfloor_any (-7) 2 w).mono fun _ _ ⟨h1, h2⟩ => ⟨by rw [h1, show flo (-7) 2 = -4 by decide +kernel], h2⟩
theorem c_m7 (w : World) : Calls Try.prog 25 #[.int .i64 (-7), .int .i64 10, .int .i64 4] w fun e w' => e = .returned (.int .i64 (-18)) ∧ Grown w w' :=
  (nscale_any (-7) 10 4 w).mono fun _ _ ⟨h1, h2⟩ => ⟨by rw [h1, show scl (-7) 10 4 = -18 by decide +kernel], h2⟩

set_option maxHeartbeats 1000000 in
theorem lives_any (w : World) :
    Calls Try.prog 18 #[] w fun e w' => e = .returned (.bool true) ∧ Grown w w' := by
  have h1 := Lib.hid (@p_m12)
  go_enter Try.func18, Try.ntmps18
  go_wp2_with fail
  refine (p_m12 _).mono ?_
  rintro e w1 ⟨rfl, g1⟩
  go_wp2_with fail
  refine (p_007 _).mono ?_
  rintro e w2 ⟨rfl, g2⟩
  go_wp2_with fail
  refine (s_50 _).mono ?_
  rintro e w3 ⟨rfl, rfl⟩
  go_wp2_with fail
  refine (a_50 _).mono ?_
  rintro e w3 ⟨rfl, rfl⟩
  go_wp2_with fail
  refine (f_m7 _).mono ?_
  rintro e w3 ⟨rfl, rfl⟩
  go_wp2_with fail
  refine (c_m7 _).mono ?_
  rintro e w3 ⟨rfl, g3⟩
  go_wp2_with fail
  refine (d_m12 _).mono ?_
  rintro e w4 ⟨rfl, g4⟩
  go_wp2_with fail
  go_ret
  exact ⟨rfl, grown_trans g1 (grown_trans g2 (grown_trans g3 g4))⟩

set_option maxHeartbeats 1000000 in
theorem law_sums (a b : Int) (w : World) (ha : I64 a) (hb : I64 b) :
    Calls Try.prog 3 #[.int .i64 a, .int .i64 b] w fun e w' => e = .returned (.bool true) ∧ Grown w w' := by
  go_enter Try.func3, Try.ntmps3
  go_wp2_with (first
    | (go_at_call 12; refine (nsat_any _ _).mono ?_; rintro e w' ⟨rfl, rfl⟩)
    | (go_at_call 13; refine (rsat_any _ _).mono ?_; rintro e w' ⟨rfl, rfl⟩)
    | (go_at_call 14; refine (nadd_any _ _ _ ha hb).mono ?_; rintro e w' ⟨rfl, rfl⟩)
    | (go_at_call 15; refine (radd_any _ _ _ ha hb).mono ?_; rintro e w' ⟨rfl, rfl⟩)
    | (go_at_call 16; refine (nsub_any _ _ _ ha hb).mono ?_; rintro e w' ⟨rfl, rfl⟩)
    | (go_at_call 17; refine (rsub_any _ _ _ ha hb).mono ?_; rintro e w' ⟨rfl, rfl⟩)
    | (go_at_call 18; refine (lives_any _).mono ?_; rintro e w' ⟨rfl, hg⟩))
  go_ret
  exact ⟨rfl, hg⟩
end Go.Proofs.Ytkgbmoiolgpmoaa
