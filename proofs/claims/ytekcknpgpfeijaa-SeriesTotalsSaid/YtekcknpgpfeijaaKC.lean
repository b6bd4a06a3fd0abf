/- Contracts of num's Add, Sub, Scale and Mul. -/
import Derived.Test.YtekcknpgpfeijaaKB
import Derived.ChangeAlike
set_option linter.unusedVariables false
namespace Go.Proofs.Ytekcknpgpfeijaa
open Go.RowKit

set_option maxHeartbeats 400000 in
theorem nadd_any (a b : Int) (w : World) (ha : I64 a) (hb : I64 b) :
    Calls Try.prog 38 #[.int .i64 a, .int .i64 b] w fun e w' => e = .returned (.int .i64 (sat (a + b))) ∧ w = w' := by
  go_enter Try.func38, Try.ntmps38
  go_wp2_with (go_at_call 33; refine (nsat_any _ _).mono ?_; rintro e w' ⟨rfl, rfl⟩)
  all_goals (go_ret; refine ⟨ret_int ?_, rfl⟩; unfold I64 at *; unfold wrap64 at *; unfold sat; (repeat' split) <;> omega)

theorem ret_two {k l : IntKind} {a b c d : Int} (h : a = b) (h2 : c = d) : Ending.returned (.tuple #[.int k a, .int l c]) = .returned (.tuple #[.int k b, .int l d]) := by rw [h, h2]

set_option maxHeartbeats 400000 in
theorem mag_any (a : Int) (w : World) (ha : I64 a) :
    Calls Try.prog 47 #[.int .i64 a] w fun e w' => e = .returned (.int .u64 (a.natAbs : Int)) ∧ w = w' := by
  go_enter Try.func47, Try.ntmps47
  go_wp2
  all_goals (go_ret; refine ⟨ret_int ?_, rfl⟩; unfold I64 at *)
  · rw [u64_neg _ (by omega) (by omega)]; omega
  · rw [u64_in _ (by omega) (by omega)]; omega

set_option maxHeartbeats 400000 in
theorem smag_any (n a b : Nat) (w : World) (hn : n ≤ 1099511627776) (ha : a ≤ 1099511627776) (hb : b ≤ 1099511627776) (hz : 1 ≤ b) :
    Calls Try.prog 46 #[.int .u64 n, .int .u64 a, .int .u64 b] w fun e w' => e = .returned (.tuple #[.int .i64 (smq n a b : Nat), .int .u64 ((n * a % b : Nat) : Int)]) ∧ ∃ m, w' = w.drewN m := by
  have hand := and_mask20 a ha
  have hU : (n : Int) * ((a : Int) / 1048576) ≤ 1152921504606846976 := by
    have := prod_bd n (a / 1048576) 1099511627776 1048576 hn (by omega)
    have e : ((n * (a / 1048576) : Nat) : Int) = (n : Int) * ((a : Int) / 1048576) := by simp
    omega
  have hU0 : 0 ≤ (n : Int) * ((a : Int) / 1048576) := by
    have e : ((n * (a / 1048576) : Nat) : Int) = (n : Int) * ((a : Int) / 1048576) := by simp
    omega
  have hM : (n : Int) * ((a : Int) / 1048576) % (b : Int) ≤ 1099511627775 := by
    have := Int.emod_lt_of_pos ((n : Int) * ((a : Int) / 1048576)) (show (0 : Int) < b by omega)
    omega
  have hM0 : 0 ≤ (n : Int) * ((a : Int) / 1048576) % (b : Int) := Int.emod_nonneg _ (by omega)
  have hV : (n : Int) * ((a : Int) % 1048576) ≤ 1152921504606846976 := by
    have := prod_bd n (a % 1048576) 1099511627776 1048576 hn (by omega)
    have e : ((n * (a % 1048576) : Nat) : Int) = (n : Int) * ((a : Int) % 1048576) := by simp
    omega
  have hV0 : 0 ≤ (n : Int) * ((a : Int) % 1048576) := by
    have e : ((n * (a % 1048576) : Nat) : Int) = (n : Int) * ((a : Int) % 1048576) := by simp
    omega
  have hQ0 : 0 ≤ (n : Int) * ((a : Int) / 1048576) / (b : Int) := Int.ediv_nonneg hU0 (by omega)
  have hL0 : 0 ≤ ((n : Int) * ((a : Int) / 1048576) % (b : Int) * 1048576 + (n : Int) * ((a : Int) % 1048576)) / (b : Int) := Int.ediv_nonneg (by omega) (by omega)
  have hL : ((n : Int) * ((a : Int) / 1048576) % (b : Int) * 1048576 + (n : Int) * ((a : Int) % 1048576)) / (b : Int) ≤ 2305843009213693952 := by
    have := Int.ediv_le_self (b := (b : Int)) (show 0 ≤ (n : Int) * ((a : Int) / 1048576) % (b : Int) * 1048576 + (n : Int) * ((a : Int) % 1048576) by omega)
    omega
  have E1 := Lib.hid (smq_int n a b)
  have E2 := Lib.hid (rem_int n a b)
  go_enter Try.func46, Try.ntmps46
  go_wp2
  go_quiet (fail)
  go_wp2
  all_goals
    go_quiet (fail)
    go_wp2
    go_ret2
    exact ⟨ret_two (by rw [E1.out]; omega) (by rw [E2.out]), ⟨_, World.drewN_drewN _ _ _⟩⟩

set_option maxHeartbeats 400000 in
theorem nscale_any (n a b : Int) (w : World) :
    Calls Try.prog 41 #[.int .i64 n, .int .i64 a, .int .i64 b] w fun e w' => e = .returned (.int .i64 (scl n a b)) ∧ ∃ m, w' = w.drewN m := by
  by_cases hb : b = 0
  · subst hb
    go_enter Try.func41, Try.ntmps41
    go_wp2_with fail
    go_ret; exact ⟨rfl, 0, rfl⟩
  · have hb0 : (b == 0) = false := by simpa using hb
    have hb1 : 1 ≤ (sat b).natAbs := by have := sat_ne b hb; omega
    have i1 := sat_in n
    have i2 := sat_in a
    have i3 := sat_in b
    have hq : ((smq (sat n).natAbs (sat a).natAbs (sat b).natAbs : Nat) : Int) ≤ 4611686018427387904 := by
      have := smq_bd (sat n).natAbs (sat a).natAbs (sat b).natAbs (by omega) (by omega) hb1
      omega
    have F := Lib.hid ((scl_nz n a b hb).trans (sclF_smq _ _ _ _ _ hb1).symm)
    clear hb
    go_enter Try.func41, Try.ntmps41
    go_wp2_with (first
      | (go_at_call 33; refine (nsat_any _ _).mono ?_; rintro e w' ⟨rfl, rfl⟩)
      | (go_at_call 47; refine (mag_any _ _ (by unfold I64; omega)).mono ?_; rintro e w' ⟨rfl, rfl⟩)
      | (go_at_call 46; refine (smag_any _ _ _ _ (by omega) (by omega) (by omega) (by omega)).mono ?_; rintro e w' ⟨rfl, hg⟩))
    all_goals (go_ret; refine ⟨ret_int (Eq.trans ?_ F.out.symm), hg⟩)
    · exact sclF_pos _ _ _ ‹_›
    · exact sclF_up _ _ _ _ _ ‹_› ‹_›
    · exact sclF_at _ _ _ _ _ ‹_› ‹_›

end Go.Proofs.Ytekcknpgpfeijaa
