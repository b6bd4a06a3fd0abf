/- The walks of the laws on numbers. -/
import Derived.Test.YtkgbmoiolgpmoaaWalkH
set_option linter.unusedVariables false
namespace Go.Proofs.Ytkgbmoiolgpmoaa
open Go.RowKit

theorem sclF_comm (a b : Int) : scl b a 1 = scl a b 1 := by
  rw [scl1, scl1, Nat.mul_comm]
  cases decide (a < 0) <;> cases decide (b < 0) <;> rfl
theorem nmul_back (a b : Int) (w : World) :
    Calls Try.prog 19 #[.int .i64 b, .int .i64 a] w fun e w' => e = .returned (.int .i64 (scl a b 1)) ∧ Grown w w' :=
  (nmul_any b a w).mono fun _ _ ⟨h1, h2⟩ => ⟨by rw [h1, sclF_comm], h2⟩

set_option maxHeartbeats 1000000 in
theorem law_products (a b : Int) (w : World) :
    Calls Try.prog 4 #[.int .i64 a, .int .i64 b] w fun e w' => e = .returned (.bool true) ∧ Grown w w' := by
  go_enter Try.func4, Try.ntmps4
  go_wp2_with fail
  refine (nmul_any a b _).mono ?_
  rintro e w1 ⟨rfl, g1⟩
  go_wp2_with fail
  refine (rmul_any a b _).mono ?_
  rintro e w2 ⟨rfl, rfl⟩
  go_wp2_with fail
  refine (nmul_back a b _).mono ?_
  rintro e w2 ⟨rfl, g2⟩
  go_wp2_with fail
  refine (rmul_any a b _).mono ?_
  rintro e w3 ⟨rfl, rfl⟩
  go_wp2_with fail
  refine (lives_any _).mono ?_
  rintro e w3 ⟨rfl, g3⟩
  go_wp2_with fail
  go_ret
  exact ⟨rfl, grown_trans g1 (grown_trans g2 g3)⟩

set_option maxHeartbeats 1000000 in
theorem law_quotients (a b : Int) (w : World) :
    Calls Try.prog 5 #[.int .i64 a, .int .i64 b] w fun e w' => e = .returned (.bool true) ∧ Grown w w' := by
  go_enter Try.func5, Try.ntmps5
  go_wp2_with (first
    | (go_at_call 21; refine (nfloor_any _ _ _).mono ?_; rintro e w' ⟨rfl, rfl⟩)
    | (go_at_call 22; refine (rfloor_any _ _ _).mono ?_; rintro e w' ⟨rfl, rfl⟩)
    | (go_at_call 23; refine (nceil_any _ _ _).mono ?_; rintro e w' ⟨rfl, rfl⟩)
    | (go_at_call 24; refine (rceil_any _ _ _).mono ?_; rintro e w' ⟨rfl, rfl⟩)
    | (go_at_call 18; refine (lives_any _).mono ?_; rintro e w' ⟨rfl, hg⟩))
  go_ret
  exact ⟨rfl, hg⟩

set_option maxHeartbeats 1000000 in
theorem law_scales (n a b : Int) (w : World) :
    Calls Try.prog 6 #[.int .i64 n, .int .i64 a, .int .i64 b] w fun e w' => e = .returned (.bool true) ∧ Grown w w' := by
  go_enter Try.func6, Try.ntmps6
  go_wp2_with (first
    | (go_at_call 25; refine (nscale_any _ _ _ _).mono ?_; rintro e w' ⟨rfl, hg0⟩)
    | (go_at_call 26; refine (rscale_any _ _ _ _).mono ?_; rintro e w' ⟨rfl, rfl⟩)
    | (go_at_call 18; refine (lives_any _).mono ?_; rintro e w' ⟨rfl, hg⟩))
  go_ret
  exact ⟨rfl, grown_trans hg0 hg⟩

set_option maxHeartbeats 1000000 in
theorem law_clamps (n lo hi : Int) (w : World) :
    Calls Try.prog 7 #[.int .i64 n, .int .i64 lo, .int .i64 hi] w fun e w' => e = .returned (.bool true) ∧ Grown w w' := by
  go_enter Try.func7, Try.ntmps7
  go_wp2_with (first
    | (go_at_call 27; refine (clamp_any _ _ _ _).mono ?_; rintro e w' ⟨rfl, rfl⟩)
    | (go_at_call 28; refine (rclamp_any _ _ _ _).mono ?_; rintro e w' ⟨rfl, rfl⟩)
    | (go_at_call 18; refine (lives_any _).mono ?_; rintro e w' ⟨rfl, hg⟩))
  go_ret
  exact ⟨rfl, hg⟩

theorem sat_mono (a b : Int) (h : a ≤ b) : sat a ≤ sat b := by unfold sat; (repeat' split) <;> omega
theorem i64_sat (a : Int) : I64 (sat a) := by have := sat_in a; unfold I64; omega

set_option maxHeartbeats 1000000 in
theorem law_order (a b c : Int) (w : World) (ha : I64 a) (hb : I64 b) (hc : I64 c) :
    Calls Try.prog 11 #[.int .i64 a, .int .i64 b, .int .i64 c] w fun e w' => e = .returned (.bool true) ∧ Grown w w' := by
  have hcomm : sat (b + a) = sat (a + b) := by rw [Int.add_comm]
  have hm : a ≤ c → sat (a + b) ≤ sat (c + b) := fun h => sat_mono _ _ (by omega)
  have hs1 : -549755813888 ≤ a ∧ a ≤ 549755813888 ∧ -549755813888 ≤ b ∧ b ≤ 549755813888 → sat (sat (a + b) - b) = a ∧ sat (sat (a + b) - a) = b := by
    intro h
    rw [sat_id (a + b) (by omega) (by omega), sat_id (a + b - b) (by omega) (by omega), sat_id (a + b - a) (by omega) (by omega)]
    omega
  have HS := Lib.hid hs1
  clear hs1
  have hcases : (a < -549755813888 ∨ 549755813888 < a ∨ b < -549755813888 ∨ 549755813888 < b) ∨ (-549755813888 ≤ a ∧ a ≤ 549755813888 ∧ -549755813888 ≤ b ∧ b ≤ 549755813888) := by omega
  have HC := Lib.hid hcases
  clear hcases
  by_cases hac : a ≤ c
  · have hm2 := hm hac
    clear hm
    rcases HC.out with h | h
    · clear HC HS
      rcases h with h | h | h | h
      all_goals
        go_enter Try.func11, Try.ntmps11
        go_wp2_with (first
          | (go_at_call 14; refine (nadd_any _ _ _ (by assumption) (by assumption)).mono ?_; rintro e w' ⟨rfl, rfl⟩)
          | (go_at_call 18; refine (lives_any _).mono ?_; rintro e w' ⟨rfl, hg⟩))
        all_goals (go_ret; exact ⟨rfl, hg⟩)
    · obtain ⟨e1, e2⟩ := HS.out h
      obtain ⟨h1, h2, h3, h4⟩ := h
      have hsi := i64_sat (a + b)
      clear HC HS
      go_enter Try.func11, Try.ntmps11
      go_wp2_with (first
        | (go_at_call 14; refine (nadd_any _ _ _ (by assumption) (by assumption)).mono ?_; rintro e w' ⟨rfl, rfl⟩)
        | (go_at_call 16; refine (nsub_any _ _ _ (by assumption) (by assumption)).mono ?_; rintro e w' ⟨rfl, rfl⟩)
        | (go_at_call 18; refine (lives_any _).mono ?_; rintro e w' ⟨rfl, hg⟩))
      go_ret
      exact ⟨rfl, hg⟩
  · clear hm
    rcases HC.out with h | h
    · clear HC HS
      rcases h with h | h | h | h
      all_goals
        go_enter Try.func11, Try.ntmps11
        go_wp2_with (first
          | (go_at_call 14; refine (nadd_any _ _ _ (by assumption) (by assumption)).mono ?_; rintro e w' ⟨rfl, rfl⟩)
          | (go_at_call 18; refine (lives_any _).mono ?_; rintro e w' ⟨rfl, hg⟩))
        all_goals (go_ret; exact ⟨rfl, hg⟩)
    · obtain ⟨e1, e2⟩ := HS.out h
      obtain ⟨h1, h2, h3, h4⟩ := h
      have hsi := i64_sat (a + b)
      clear HC HS
      go_enter Try.func11, Try.ntmps11
      go_wp2_with (first
        | (go_at_call 14; refine (nadd_any _ _ _ (by assumption) (by assumption)).mono ?_; rintro e w' ⟨rfl, rfl⟩)
        | (go_at_call 16; refine (nsub_any _ _ _ (by assumption) (by assumption)).mono ?_; rintro e w' ⟨rfl, rfl⟩)
        | (go_at_call 18; refine (lives_any _).mono ?_; rintro e w' ⟨rfl, hg⟩))
      go_ret
      exact ⟨rfl, hg⟩


/-- What a rounded quotient keeps. -/
theorem rem_facts (a b : Int) (hb : b ≠ 0) : (0 < sat b → 0 ≤ sat a - flo (sat a) (sat b) * sat b ∧ sat a - flo (sat a) (sat b) * sat b < sat b) ∧ (sat b < 0 → sat a - flo (sat a) (sat b) * sat b ≤ 0 ∧ sat b < sat a - flo (sat a) (sat b) * sat b) ∧
    flo (sat a) (sat b) ≤ (sat a).tdiv (sat b) ∧ (sat a).tdiv (sat b) - 1 ≤ flo (sat a) (sat b) := by
  have hy := sat_ne b hb
  have e : flo (sat a) (sat b) = (sat a).fdiv (sat b) := by rw [flo_nz _ _ hy, sat_sat, sat_sat]
  rw [e]
  have hr := Int.fmod_add_fdiv_mul (sat a) (sat b)
  generalize sat a = x at *
  generalize sat b = y at *
  have hf : x.fdiv y = x.tdiv y ∨ x.fdiv y = x.tdiv y - 1 := by
    by_cases hm : x.tmod y = 0
    · exact Or.inl (fdiv_same _ _ hy (Or.inl hm))
    · by_cases hs : (x < 0 ↔ y < 0)
      · exact Or.inl (fdiv_same _ _ hy (Or.inr hs))
      · exact Or.inr (fdiv_less _ _ hy hm hs)
  refine ⟨fun h => ?_, fun h => ?_, ?_, ?_⟩
  · have h1 := Int.fmod_nonneg_of_pos x h
    have h2 := Int.fmod_lt_of_pos x h
    omega
  · have h1 := Int.fmod_nonneg_of_pos (-x) (show 0 < -y by omega)
    have h2 := Int.fmod_lt_of_pos (-x) (show 0 < -y by omega)
    rw [Int.neg_fmod_neg] at h1 h2
    omega
  · omega
  · omega
theorem le_both {p q : Int} (h : p = q) : p ≤ q ∧ q ≤ p := by omega

set_option maxHeartbeats 1000000 in
theorem law_remainder (a b : Int) (w : World) :
    Calls Try.prog 10 #[.int .i64 a, .int .i64 b] w fun e w' => e = .returned (.bool true) ∧ Grown w w' := by
  by_cases hb : b = 0
  · subst hb
    have h0 : sat 0 = 0 := rfl
    have h1 : flo (sat a) 0 = 0 := rfl
    have h2 : flo (-sat a) 0 = 0 := rfl
    go_enter Try.func10, Try.ntmps10
    go_wp2_with (first
      | (go_at_call 13; refine (rsat_any _ _).mono ?_; rintro e w' ⟨rfl, rfl⟩)
      | (go_at_call 21; refine (nfloor_any _ _ _).mono ?_; rintro e w' ⟨rfl, rfl⟩)
      | (go_at_call 23; refine (nceil_any _ _ _).mono ?_; rintro e w' ⟨rfl, rfl⟩)
      | (go_at_call 18; refine (lives_any _).mono ?_; rintro e w' ⟨rfl, hg⟩))
    go_ret
    exact ⟨rfl, hg⟩
  · have hy := sat_ne b hb
    have hsb : (sat b == 0) = false := by simpa using hy
    obtain ⟨f1, f2, f3, f4⟩ := rem_facts a b hb
    have bx := sat_in a
    have by' := sat_in b
    have bf := flo_bd (sat a) (sat b)
    have bf2 := flo_bd (-sat a) (sat b)
    have bt := tdiv_bd (sat a) (sat b) bx.1 bx.2
    obtain ⟨bt1, bt2⟩ := bt
    clear hb
    by_cases hx : sat a < 0
    · by_cases hys : sat b < 0
      · obtain ⟨g1, g2⟩ := f2 hys
        obtain ⟨q1, q2⟩ := le_both (show (-sat a) / (-sat b) = (sat a).tdiv (sat b) by rw [← Int.tdiv_eq_ediv_of_nonneg (by omega), Int.neg_tdiv, Int.tdiv_neg, Int.neg_neg])
        have q3 : 0 ≤ (-sat a) / (-sat b) := Int.ediv_nonneg (by omega) (by omega)
        clear f1 f2
        go_enter Try.func10, Try.ntmps10
        go_wp2_with (first
          | (go_at_call 13; refine (rsat_any _ _).mono ?_; rintro e w' ⟨rfl, rfl⟩)
          | (go_at_call 21; refine (nfloor_any _ _ _).mono ?_; rintro e w' ⟨rfl, rfl⟩)
          | (go_at_call 23; refine (nceil_any _ _ _).mono ?_; rintro e w' ⟨rfl, rfl⟩)
          | (go_at_call 18; refine (lives_any _).mono ?_; rintro e w' ⟨rfl, hg⟩))
        go_ret
        exact ⟨rfl, hg⟩
      · obtain ⟨g1, g2⟩ := f1 (by omega)
        obtain ⟨q1, q2⟩ := le_both (show (-sat a) / sat b = -(sat a).tdiv (sat b) by rw [← Int.tdiv_eq_ediv_of_nonneg (by omega), Int.neg_tdiv])
        have q3 : 0 ≤ (-sat a) / sat b := Int.ediv_nonneg (by omega) (by omega)
        clear f1 f2
        go_enter Try.func10, Try.ntmps10
        go_wp2_with (first
          | (go_at_call 13; refine (rsat_any _ _).mono ?_; rintro e w' ⟨rfl, rfl⟩)
          | (go_at_call 21; refine (nfloor_any _ _ _).mono ?_; rintro e w' ⟨rfl, rfl⟩)
          | (go_at_call 23; refine (nceil_any _ _ _).mono ?_; rintro e w' ⟨rfl, rfl⟩)
          | (go_at_call 18; refine (lives_any _).mono ?_; rintro e w' ⟨rfl, hg⟩))
        go_ret
        exact ⟨rfl, hg⟩
    · by_cases hys : sat b < 0
      · obtain ⟨g1, g2⟩ := f2 hys
        obtain ⟨q1, q2⟩ := le_both (show sat a / (-sat b) = -(sat a).tdiv (sat b) by rw [← Int.tdiv_eq_ediv_of_nonneg (by omega), Int.tdiv_neg])
        have q3 : 0 ≤ sat a / (-sat b) := Int.ediv_nonneg (by omega) (by omega)
        clear f1 f2
        go_enter Try.func10, Try.ntmps10
        go_wp2_with (first
          | (go_at_call 13; refine (rsat_any _ _).mono ?_; rintro e w' ⟨rfl, rfl⟩)
          | (go_at_call 21; refine (nfloor_any _ _ _).mono ?_; rintro e w' ⟨rfl, rfl⟩)
          | (go_at_call 23; refine (nceil_any _ _ _).mono ?_; rintro e w' ⟨rfl, rfl⟩)
          | (go_at_call 18; refine (lives_any _).mono ?_; rintro e w' ⟨rfl, hg⟩))
        go_ret
        exact ⟨rfl, hg⟩
      · obtain ⟨g1, g2⟩ := f1 (by omega)
        obtain ⟨q1, q2⟩ := le_both (show sat a / sat b = (sat a).tdiv (sat b) by rw [← Int.tdiv_eq_ediv_of_nonneg (by omega)])
        have q3 : 0 ≤ sat a / sat b := Int.ediv_nonneg (by omega) (by omega)
        clear f1 f2
        go_enter Try.func10, Try.ntmps10
        go_wp2_with (first
          | (go_at_call 13; refine (rsat_any _ _).mono ?_; rintro e w' ⟨rfl, rfl⟩)
          | (go_at_call 21; refine (nfloor_any _ _ _).mono ?_; rintro e w' ⟨rfl, rfl⟩)
          | (go_at_call 23; refine (nceil_any _ _ _).mono ?_; rintro e w' ⟨rfl, rfl⟩)
          | (go_at_call 18; refine (lives_any _).mono ?_; rintro e w' ⟨rfl, hg⟩))
        go_ret
        exact ⟨rfl, hg⟩
end Go.Proofs.Ytkgbmoiolgpmoaa
