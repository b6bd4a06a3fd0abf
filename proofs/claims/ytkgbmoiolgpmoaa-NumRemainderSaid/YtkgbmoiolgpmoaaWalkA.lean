/- Contracts of the small functions of num and of the reference. -/
import Derived.Test.YtkgbmoiolgpmoaaRows
import Derived.Test.YtkgbmoiolgpmoaaPlain
import Derived.WalkKit
import Derived.WalkSpells
import Derived.WalkLawsBesides
import Derived.Lib.Hide
set_option linter.unusedVariables false
namespace Go.Proofs.Ytkgbmoiolgpmoaa
open Go.RowKit

theorem ret_int {k : IntKind} {a b : Int} (h : a = b) : Ending.returned (.int k a) = .returned (.int k b) := by rw [h]

/-- The number fits an int. -/
def I64 (n : Int) : Prop := -9223372036854775808 ≤ n ∧ n ≤ 9223372036854775807

set_option maxHeartbeats 400000 in
theorem clamp_any (a lo hi : Int) (w : World) :
    Calls Try.prog 27 #[.int .i64 a, .int .i64 lo, .int .i64 hi] w fun e w' => e = .returned (.int .i64 (min (max a lo) hi)) ∧ w = w' := by
  go_enter Try.func27, Try.ntmps27
  go_wp2
  all_goals (go_ret; refine ⟨ret_int ?_, rfl⟩; (repeat' split at *) <;> omega)

set_option maxHeartbeats 400000 in
theorem rclamp_any (a lo hi : Int) (w : World) :
    Calls Try.prog 28 #[.int .i64 a, .int .i64 lo, .int .i64 hi] w fun e w' => e = .returned (.int .i64 (min (max a lo) hi)) ∧ w = w' := by
  go_enter Try.func28, Try.ntmps28
  go_wp2
  all_goals (go_ret; refine ⟨ret_int ?_, rfl⟩; omega)

set_option maxHeartbeats 400000 in
theorem nsat_any (a : Int) (w : World) :
    Calls Try.prog 12 #[.int .i64 a] w fun e w' => e = .returned (.int .i64 (sat a)) ∧ w = w' := by
  go_enter Try.func12, Try.ntmps12
  go_wp2_with (go_at_call 27; refine (clamp_any _ _ _ _).mono ?_; rintro e w' ⟨rfl, rfl⟩)
  go_ret; refine ⟨ret_int ?_, rfl⟩; unfold sat; (repeat' split) <;> omega

set_option maxHeartbeats 400000 in
theorem rsat_any (a : Int) (w : World) :
    Calls Try.prog 13 #[.int .i64 a] w fun e w' => e = .returned (.int .i64 (sat a)) ∧ w = w' := by
  go_enter Try.func13, Try.ntmps13
  go_wp2
  all_goals (go_ret; refine ⟨ret_int ?_, rfl⟩; unfold sat; (repeat' split) <;> omega)

theorem rabs_any (a : Int) (w : World) (h : -1099511627776 ≤ a ∧ a ≤ 1099511627776) :
    Calls Try.prog 33 #[.int .i64 a] w fun e w' => e = .returned (.int .i64 (a.natAbs : Int)) ∧ w = w' := by
  obtain ⟨h1, h2⟩ := h
  go_enter Try.func33, Try.ntmps33
  go_wp2
  all_goals (go_ret; refine ⟨ret_int ?_, rfl⟩; omega)

set_option maxHeartbeats 400000 in
theorem nadd_any (a b : Int) (w : World) (ha : I64 a) (hb : I64 b) :
    Calls Try.prog 14 #[.int .i64 a, .int .i64 b] w fun e w' => e = .returned (.int .i64 (sat (a + b))) ∧ w = w' := by
  go_enter Try.func14, Try.ntmps14
  go_wp2_with (go_at_call 12; refine (nsat_any _ _).mono ?_; rintro e w' ⟨rfl, rfl⟩)
  all_goals (go_ret; refine ⟨ret_int ?_, rfl⟩; unfold I64 at *; unfold wrap64 at *; unfold sat; (repeat' split) <;> omega)

set_option maxHeartbeats 400000 in
theorem radd_any (a b : Int) (w : World) (ha : I64 a) (hb : I64 b) :
    Calls Try.prog 15 #[.int .i64 a, .int .i64 b] w fun e w' => e = .returned (.int .i64 (sat (a + b))) ∧ w = w' := by
  go_enter Try.func15, Try.ntmps15
  go_wp2_with (go_at_call 13; refine (rsat_any _ _).mono ?_; rintro e w' ⟨rfl, rfl⟩)
  all_goals (go_ret; refine ⟨ret_int ?_, rfl⟩; unfold I64 at *; unfold wrap64 at *; unfold sat; (repeat' split) <;> omega)

set_option maxHeartbeats 400000 in
theorem nsub_any (a b : Int) (w : World) (ha : I64 a) (hb : I64 b) :
    Calls Try.prog 16 #[.int .i64 a, .int .i64 b] w fun e w' => e = .returned (.int .i64 (sat (a - b))) ∧ w = w' := by
  go_enter Try.func16, Try.ntmps16
  go_wp2_with (go_at_call 12; refine (nsat_any _ _).mono ?_; rintro e w' ⟨rfl, rfl⟩)
  all_goals (go_ret; refine ⟨ret_int ?_, rfl⟩; unfold I64 at *; unfold wrap64 at *; unfold sat; (repeat' split) <;> omega)

set_option maxHeartbeats 400000 in
theorem rsub_any (a b : Int) (w : World) (ha : I64 a) (hb : I64 b) :
    Calls Try.prog 17 #[.int .i64 a, .int .i64 b] w fun e w' => e = .returned (.int .i64 (sat (a - b))) ∧ w = w' := by
  go_enter Try.func17, Try.ntmps17
  go_wp2_with (go_at_call 13; refine (rsat_any _ _).mono ?_; rintro e w' ⟨rfl, rfl⟩)
  all_goals (go_ret; refine ⟨ret_int ?_, rfl⟩; unfold I64 at *; unfold wrap64 at *; unfold sat; (repeat' split) <;> omega)

set_option maxHeartbeats 400000 in
theorem nfloor_any (a b : Int) (w : World) :
    Calls Try.prog 21 #[.int .i64 a, .int .i64 b] w fun e w' => e = .returned (.int .i64 (flo a b)) ∧ w = w' := by
  by_cases hb : b = 0
  · subst hb
    have h0 : (sat 0 == 0) = true := rfl
    go_enter Try.func21, Try.ntmps21
    go_wp2_with (go_at_call 12; refine (nsat_any _ _).mono ?_; rintro e w' ⟨rfl, rfl⟩)
    all_goals (go_ret; exact ⟨rfl, rfl⟩)
  · have hy := sat_ne b hb
    have hsb : (sat b == 0) = false := by simpa using hy
    have hsb0 : (b == 0) = false := by simpa using hb
    have bx := sat_in a
    have bd := tdiv_bd (sat a) (sat b) bx.1 bx.2
    obtain ⟨bd1, bd2⟩ := bd
    have F : Hid (flo a b = (sat a).fdiv (sat b)) := Lib.hid (flo_nz a b hb)
    clear hb bx
    go_enter Try.func21, Try.ntmps21
    go_wp2_with (go_at_call 12; refine (nsat_any _ _).mono ?_; rintro e w' ⟨rfl, rfl⟩)
    all_goals (go_ret; refine ⟨ret_int ?_, rfl⟩; rw [F.out]; first | exact fdiv_t1 _ _ hy ‹_› | exact fdiv_t2 _ _ hy ‹_› | exact fdiv_t3 _ _ hy ‹_›)

set_option maxHeartbeats 400000 in
theorem rfloor_any (a b : Int) (w : World) :
    Calls Try.prog 22 #[.int .i64 a, .int .i64 b] w fun e w' => e = .returned (.int .i64 (flo a b)) ∧ w = w' := by
  by_cases hb : b = 0
  · subst hb
    have h0 : (sat 0 == 0) = true := rfl
    go_enter Try.func22, Try.ntmps22
    go_wp2_with (go_at_call 13; refine (rsat_any _ _).mono ?_; rintro e w' ⟨rfl, rfl⟩)
    all_goals (go_ret; exact ⟨rfl, rfl⟩)
  · have hy := sat_ne b hb
    have hsb : (sat b == 0) = false := by simpa using hy
    have hsb0 : (b == 0) = false := by simpa using hb
    have bx := sat_in a
    have bd := tdiv_bd (sat a) (sat b) bx.1 bx.2
    obtain ⟨bd1, bd2⟩ := bd
    have F : Hid (flo a b = (sat a).fdiv (sat b)) := Lib.hid (flo_nz a b hb)
    clear hb bx
    go_enter Try.func22, Try.ntmps22
    go_wp2_with (go_at_call 13; refine (rsat_any _ _).mono ?_; rintro e w' ⟨rfl, rfl⟩)
    all_goals (go_ret; refine ⟨ret_int ?_, rfl⟩; rw [F.out]; first | exact fdiv_t1 _ _ hy ‹_› | exact fdiv_t2 _ _ hy ‹_› | exact fdiv_t3 _ _ hy ‹_›)

set_option maxHeartbeats 400000 in
theorem nceil_any (a b : Int) (w : World) :
    Calls Try.prog 23 #[.int .i64 a, .int .i64 b] w fun e w' => e = .returned (.int .i64 (-flo (-a) b)) ∧ w = w' := by
  have h1 := sat_in a
  have h2 := flo_bd (-sat a) b
  have F : Hid (flo (-sat a) b = flo (-a) b) := Lib.hid (by unfold flo; rw [← sat_opp, sat_sat])
  go_enter Try.func23, Try.ntmps23
  go_wp2_with (first | (go_at_call 12; refine (nsat_any _ _).mono ?_; rintro e w' ⟨rfl, rfl⟩) | (go_at_call 21; refine (nfloor_any _ _ _).mono ?_; rintro e w' ⟨rfl, rfl⟩))
  go_ret; refine ⟨ret_int ?_, rfl⟩; rw [F.out]

set_option maxHeartbeats 400000 in
theorem rceil_any (a b : Int) (w : World) :
    Calls Try.prog 24 #[.int .i64 a, .int .i64 b] w fun e w' => e = .returned (.int .i64 (-flo (-a) b)) ∧ w = w' := by
  have h1 := sat_in a
  have h2 := flo_bd (-sat a) b
  have F : Hid (flo (-sat a) b = flo (-a) b) := Lib.hid (by unfold flo; rw [← sat_opp, sat_sat])
  go_enter Try.func24, Try.ntmps24
  go_wp2_with (first | (go_at_call 13; refine (rsat_any _ _).mono ?_; rintro e w' ⟨rfl, rfl⟩) | (go_at_call 22; refine (rfloor_any _ _ _).mono ?_; rintro e w' ⟨rfl, rfl⟩))
  go_ret; refine ⟨ret_int ?_, rfl⟩; rw [F.out]

end Go.Proofs.Ytkgbmoiolgpmoaa
