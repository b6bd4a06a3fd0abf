/- Contracts of the reference's Sat, Add, Sub, Scale and Mul. -/
import Derived.Test.YtekcknpgpfeijaaKC
set_option linter.unusedVariables false
namespace Go.Proofs.Ytekcknpgpfeijaa
open Go.RowKit

set_option maxHeartbeats 400000 in
theorem rsat_any (a : Int) (w : World) :
    Calls Try.prog 35 #[.int .i64 a] w fun e w' => e = .returned (.int .i64 (sat a)) ∧ w = w' := by
  go_enter Try.func35, Try.ntmps35
  go_wp2
  all_goals (go_ret; refine ⟨ret_int ?_, rfl⟩; unfold sat; (repeat' split) <;> omega)

theorem rabs_any (a : Int) (w : World) (h : -1099511627776 ≤ a ∧ a ≤ 1099511627776) :
    Calls Try.prog 48 #[.int .i64 a] w fun e w' => e = .returned (.int .i64 (a.natAbs : Int)) ∧ w = w' := by
  obtain ⟨h1, h2⟩ := h
  go_enter Try.func48, Try.ntmps48
  go_wp2
  all_goals (go_ret; refine ⟨ret_int ?_, rfl⟩; omega)

set_option maxHeartbeats 400000 in
theorem radd_any (a b : Int) (w : World) (ha : I64 a) (hb : I64 b) :
    Calls Try.prog 39 #[.int .i64 a, .int .i64 b] w fun e w' => e = .returned (.int .i64 (sat (a + b))) ∧ w = w' := by
  go_enter Try.func39, Try.ntmps39
  go_wp2_with (go_at_call 35; refine (rsat_any _ _).mono ?_; rintro e w' ⟨rfl, rfl⟩)
  all_goals (go_ret; refine ⟨ret_int ?_, rfl⟩; unfold I64 at *; unfold wrap64 at *; unfold sat; (repeat' split) <;> omega)

set_option maxHeartbeats 1000000 in
theorem rscale_any (n a b : Int) (w : World) :
    Calls Try.prog 42 #[.int .i64 n, .int .i64 a, .int .i64 b] w fun e w' => e = .returned (.int .i64 (scl n a b)) ∧ w = w' := by
  by_cases hb : b = 0
  · subst hb
    have h0 : (sat 0 == 0) = true := rfl
    go_enter Try.func42, Try.ntmps42
    go_wp2_with (go_at_call 35; refine (rsat_any _ _).mono ?_; rintro e w' ⟨rfl, rfl⟩)
    go_ret; exact ⟨rfl, rfl⟩
  · have hb0 : (sat b == 0) = false := by simpa using sat_ne b hb
    have hb1 : 1 ≤ (sat b).natAbs := by have := sat_ne b hb; omega
    have i1 := sat_in n
    have i2 := sat_in a
    have i3 := sat_in b
    have F := Lib.hid ((scl_nz n a b hb).trans (by rw [xor3]))
    have x1 : (sat n).natAbs ≤ 1099511627776 := by omega
    have x2 : (sat a).natAbs ≤ 1099511627776 := by omega
    have x3 : (sat b).natAbs ≤ 1099511627776 := by omega
    clear hb
    go_enter Try.func42, Try.ntmps42
    go_wp2_with (first
      | (go_at_call 35; refine (rsat_any _ _).mono ?_; rintro e w' ⟨rfl, rfl⟩)
      | (go_at_call 48; refine (rabs_any _ _ (by omega)).mono ?_; rintro e w' ⟨rfl, rfl⟩))
    generalize (sat n).natAbs = X at *
    generalize (sat a).natAbs = Y at *
    generalize (sat b).natAbs = Z at *
    generalize hs : (!(decide (sat n < 0) == !decide (sat a < 0) == decide (sat b < 0))) = s at *
    go_loop [11, 12, 13] (fun q r i => ∃ j : Nat, j ≤ 41 ∧ i = .int .i64 ((j : Int) - 1) ∧ q = .int .i64 (sQ X Y Z j : Nat) ∧ r = .int .i64 (sR X Y Z j : Nat)) (fun _ _ i => (intOf i + 1).toNat)
    case atStart =>
      have h0 := s_start X Y Z x2
      exact ⟨41, by omega, rfl, by rw [h0.1]; rfl, by rw [h0.2]; rfl⟩
    case round =>
      obtain ⟨j, hj, hi, hq, hr⟩ := hrel
      cases j with
      | zero =>
        subst hi hq hr
        have q1 := sQ_le X Y Z 0
        go_wp2_with (go_at_call 35; refine (rsat_any _ _).mono ?_; rintro e w' ⟨rfl, rfl⟩)
        all_goals (go_ret; refine ⟨ret_int ?_, rfl⟩)
        all_goals rw [F.out]
        all_goals clear F hs
        · rw [show s = true from ‹_›]; exact s_up X Y Z ‹_›
        · rw [show s = true from ‹_›]; exact s_dn X Y Z ‹_›
        · rw [show s = false by simpa using ‹¬ s = true›]; exact s_ps X Y Z
      | succ m =>
        rw [show ((m + 1 : Nat) : Int) - 1 = (m : Int) by omega] at hi
        subst hi hq hr
        have q1 := sQ_le X Y Z (m + 1)
        have r1 := sR_lt X Y Z (m + 1) hb1
        by_cases hbit : Y / 2 ^ m % 2 = 1
        · have hB : (bits BinOp.and IntKind.i64 ((Y : Int) / 2 ^ m) 1 == 1) = true := by rw [bit_test, decide_eq_true hbit]
          obtain ⟨S1, S2⟩ := s_one X Y Z m hb1 hbit
          have S1 := Lib.hid S1; have S2 := Lib.hid S2
          generalize sQ X Y Z (m + 1) = Q at *
          generalize sR X Y Z (m + 1) = R at *
          have d := quo_le (2 * R + X) Z hb1
          rw [show ((2 * R + X : Nat) : Int) = 2 * (R : Int) + (X : Int) by omega] at d
          obtain ⟨d1, d2⟩ := d
          clear hbit
          have E := Lib.hid (show (((2 * R + X) / Z : Nat) : Int) = (2 * (R : Int) + (X : Int)) / (Z : Int) by simp)
          have E2 := Lib.hid (show (((2 * R + X) % Z : Nat) : Int) = (2 * (R : Int) + (X : Int)) % (Z : Int) by simp)
          go_wp2_with fail
          all_goals go_round
          all_goals first
            | (simp [intOf] <;> omega)
            | exact ⟨m, by omega, rfl, val_int (by have e1 := S2.out; have e2 := E.out; omega), val_int (by rw [S1.out, E2.out])⟩
        · have hB : (bits BinOp.and IntKind.i64 ((Y : Int) / 2 ^ m) 1 == 1) = false := by rw [bit_test, decide_eq_false hbit]
          obtain ⟨S1, S2⟩ := s_zero X Y Z m hb1 (by omega)
          have S1 := Lib.hid S1; have S2 := Lib.hid S2
          generalize sQ X Y Z (m + 1) = Q at *
          generalize sR X Y Z (m + 1) = R at *
          have d := quo_le (2 * R) Z hb1
          rw [show ((2 * R : Nat) : Int) = 2 * (R : Int) by omega] at d
          obtain ⟨d1, d2⟩ := d
          clear hbit
          have E := Lib.hid (show (((2 * R) / Z : Nat) : Int) = (2 * (R : Int)) / (Z : Int) by simp)
          have E2 := Lib.hid (show (((2 * R) % Z : Nat) : Int) = (2 * (R : Int)) % (Z : Int) by simp)
          go_wp2_with fail
          all_goals go_round
          all_goals first
            | (simp [intOf] <;> omega)
            | exact ⟨m, by omega, rfl, val_int (by have e1 := S2.out; have e2 := E.out; omega), val_int (by rw [S1.out, E2.out])⟩

end Go.Proofs.Ytekcknpgpfeijaa
