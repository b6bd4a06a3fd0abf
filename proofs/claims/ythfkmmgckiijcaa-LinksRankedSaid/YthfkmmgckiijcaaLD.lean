/- Contracts of the count of ones and of the successes. -/
import Derived.Test.YthfkmmgckiijcaaLC
import Derived.Test.YthfkmmgckiijcaaLOnes
import Derived.Laws.BitsAllLaws
set_option linter.unusedVariables false
namespace Go.Proofs.Ythfkmmgckiijcaa.Lnk
open Go.RowKit

theorem u64_sum (a b c : Nat) (h : a + b = c) (hc : c < 18446744073709551616) : IntKind.u64.wrap ((a : Int) + (b : Int)) = (c : Int) := by
  show ((a : Int) + (b : Int)) % 18446744073709551616 = (c : Int)
  omega
set_option maxRecDepth 100000 in
set_option maxHeartbeats 1000000 in
theorem ones64_any (b : Nat) (hb : b < 65536) (w : World) : Calls Try.prog 54 #[.int .u64 b] w fun e w' => e = .returned (.int .i64 (ones 16 b : Nat)) ∧ w = w' := by
  obtain ⟨s1, s2, s3, s4, e1, e2, e3, e4, l1, l2, l3, l4, e5⟩ := ones_steps b hb
  obtain ⟨a1, h1⟩ : ∃ a, a = b / 2 &&& 6148914691236517205 := ⟨_, rfl⟩
  obtain ⟨a2, h2⟩ : ∃ a, a = b &&& 6148914691236517205 := ⟨_, rfl⟩
  obtain ⟨a3, h3⟩ : ∃ a, a = s1 / 4 &&& 3689348814741910323 := ⟨_, rfl⟩
  obtain ⟨a4, h4⟩ : ∃ a, a = s1 &&& 3689348814741910323 := ⟨_, rfl⟩
  rw [← h1, ← h2] at e1
  rw [← h3, ← h4] at e2
  have f1 : bits .and .u64 ((b : Int) / 2) 6148914691236517205 = (a1 : Int) := by
    have := u64_and_nat (b / 2) 6148914691236517205 (by omega) (by omega); rw [← h1] at this; exact this
  have f2 : bits .and .u64 (b : Int) 6148914691236517205 = (a2 : Int) := by
    have := u64_and_nat b 6148914691236517205 (by omega) (by omega); rw [← h2] at this; exact this
  have f3 : bits .and .u64 ((s1 : Int) / 4) 3689348814741910323 = (a3 : Int) := by
    have := u64_and_nat (s1 / 4) 3689348814741910323 (by omega) (by omega); rw [← h3] at this; exact this
  have f4 : bits .and .u64 (s1 : Int) 3689348814741910323 = (a4 : Int) := by
    have := u64_and_nat s1 3689348814741910323 (by omega) (by omega); rw [← h4] at this; exact this
  obtain ⟨a5, h5⟩ : ∃ a, a = s2 / 16 + s2 := ⟨_, rfl⟩
  rw [← h5] at e3
  have f5 : bits .and .u64 (a5 : Int) 1085102592571150095 = (s3 : Int) := by
    have := u64_and_nat a5 1085102592571150095 (by omega) (by omega); rw [e3] at this; exact this
  have w1 := u64_sum a1 a2 s1 e1 (by omega)
  have w2 := u64_sum a3 a4 s2 e2 (by omega)
  have w3 : IntKind.u64.wrap ((s2 : Int) / 16 + (s2 : Int)) = (a5 : Int) := u64_sum (s2 / 16) s2 a5 h5.symm (by omega)
  have w4 : IntKind.u64.wrap ((s3 : Int) + (s3 : Int) / 256) = (s4 : Int) := u64_sum s3 (s3 / 256) s4 e4 (by omega)
  have w5 : IntKind.u64.wrap ((s4 : Int) + (s4 : Int) / 65536) = (s4 : Int) := u64_sum s4 (s4 / 65536) s4 (by omega) (by omega)
  have w6 : IntKind.u64.wrap ((s4 : Int) + (s4 : Int) / 4294967296) = (s4 : Int) := u64_sum s4 (s4 / 4294967296) s4 (by omega) (by omega)
  have f6 : bits .and .i64 (s4 : Int) 127 = (s4 : Int) % 128 := by
    have h1 : (BitVec.ofInt 64 127).toNat = 2 ^ 7 - 1 := by decide
    have key : (BitVec.ofInt 64 (s4 : Int) &&& BitVec.ofInt 64 127).toNat = ((s4 : Int) % ((2 ^ 64 : Nat) : Int)).toNat % 2 ^ 7 := by
      rw [BitVec.toNat_and, BitVec.toNat_ofInt, h1, Nat.and_two_pow_sub_one_eq_mod]
    show IntKind.i64.wrap ((BitVec.ofInt 64 (s4 : Int) &&& BitVec.ofInt 64 127).toNat : Nat) = (s4 : Int) % 128
    have q : ((s4 : Int) % ((2 ^ 64 : Nat) : Int)).toNat = s4 := by
      rw [show ((2 ^ 64 : Nat) : Int) = 18446744073709551616 from rfl]
      omega
    rw [key, q, IntKind.wrap_i64, show (2 : Nat) ^ 7 = 128 from rfl]
    omega
  have w7 : IntKind.i64.wrap (s4 : Int) = (s4 : Int) := by rw [IntKind.wrap_i64]; omega
  have R := Lib.hid (show (s4 : Int) % 128 = (ones 16 b : Nat) by omega)
  clear e1 e2 e3 e4 e5 h1 h2 h3 h4 h5
  generalize ones 16 b = r at *
  go_enter Try.func54, Try.ntmps54
  go_wp2_with fail
  go_ret
  exact ⟨ret_int R.out, rfl⟩
set_option maxHeartbeats 400000 in
theorem ones_any (b : Nat) (hb : b < 65536) (w : World) : Calls Try.prog 49 #[.int .u64 b] w fun e w' => e = .returned (.int .i64 (ones 16 b : Nat)) ∧ w = w' := by
  have K := Lib.hid (fun w => ones64_any b hb w)
  generalize ones 16 b = r at *
  go_enter Try.func49, Try.ntmps49
  go_wp2_with (go_at_call 54; refine (K.out _).mono ?_; rintro e w' ⟨rfl, rfl⟩)
  go_ret
  exact ⟨rfl, rfl⟩
set_option maxHeartbeats 400000 in
theorem lsucc_any (x : Lk) (hx : Ok1 x) (w : World) : Calls Try.prog 39 #[lkV x] w (OutI w (scc x)) := by
  obtain ⟨n, b, c⟩ := x
  have hb := bits_lt hx
  obtain ⟨bn, hbn⟩ : ∃ bn : Nat, b = (bn : Int) := ⟨b.toNat, by have := hb.1; simp only at this; omega⟩
  subst hbn
  have K := Lib.hid (fun w => ones_any bn (by have := hb.2; simp only at this; omega) w)
  have R := Lib.hid (show scc (n, (bn : Int), c) = (ones 16 bn : Nat) from rfl)
  have w1 : IntKind.u64.wrap (bn : Int) = (bn : Int) := by
    show (bn : Int) % 18446744073709551616 = bn
    have := hb.2; simp only at this; omega
  clear hb hx
  rw [R.out]
  generalize ones 16 bn = r at *
  go_enter Try.func39, Try.ntmps39
  go_wp2_with (go_at_call 49; refine (K.out _).mono ?_; rintro e w' ⟨rfl, rfl⟩)
  go_ret
  exact outI rfl (alloc_below _ _)
end Go.Proofs.Ythfkmmgckiijcaa.Lnk
