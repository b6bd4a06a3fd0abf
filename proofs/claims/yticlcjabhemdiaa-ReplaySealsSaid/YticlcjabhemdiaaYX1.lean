/- Package replay: limited, isNumber, hasTop, hasNoneBelowZero, bitOf, isInRange, New. -/
import Derived.Test.YticlcjabhemdiaaYB
import Derived.WalkSmall
import Derived.ChangeKeysEq
set_option linter.unusedVariables false
namespace Go.Proofs.Yticlcjabhemdiaa.Rpl
open Go.RowKit

theorem low_bit (b : Nat) (hb : b < 18446744073709551616) : bits .and .u64 (b : Int) 1 = ((b % 2 : Nat) : Int) := by
  have h := u64_and_nat b 1 hb (by decide)
  rw [Nat.and_one_is_mod] at h
  exact h
theorem low_test (b : Nat) : (((b % 2 : Nat) : Int) != 0) = b.testBit 0 := by
  rw [Nat.testBit_zero]
  rcases Nat.mod_two_eq_zero_or_one b with h | h
  · rw [h]; rfl
  · rw [h]; rfl
/-- No number below 0 is recorded. -/
def NoNeg (t : Int) (b : Nat) : Prop := ∀ k, k < 64 → b.testBit k = true → (k : Int) ≤ t
instance (t : Int) (b : Nat) : Decidable (NoNeg t b) := by unfold NoNeg; infer_instance
theorem noNeg_div (t : Int) (b : Nat) (hb : b < 18446744073709551616) (ht : 0 ≤ t) : ((b : Int) / 2 ^ min (t + 1).toNat 64 == 0) = decide (NoNeg t b) := by
  have e : ((b : Int) / 2 ^ min (t + 1).toNat 64 == 0) = decide (b < 2 ^ min (t + 1).toNat 64) := by
    rw [show (b : Int) / 2 ^ min (t + 1).toNat 64 = ((b / 2 ^ min (t + 1).toNat 64 : Nat) : Int) by simp]
    have hp : 0 < 2 ^ min (t + 1).toNat 64 := Nat.two_pow_pos _
    by_cases h : b < 2 ^ min (t + 1).toNat 64
    · rw [decide_eq_true h, Nat.div_eq_of_lt h]; rfl
    · rw [decide_eq_false h]
      have : 0 < b / 2 ^ min (t + 1).toNat 64 := Nat.div_pos (by omega) hp
      simp only [beq_eq_false_iff_ne]
      omega
  rw [e]
  congr 1
  apply propext
  constructor
  · intro h k hk hbit
    have h1 : 2 ^ k ≤ b := Nat.ge_two_pow_of_testBit hbit
    have h2 : k < min (t + 1).toNat 64 := (Nat.pow_lt_pow_iff_right (by decide)).1 (Nat.lt_of_le_of_lt h1 h)
    omega
  · intro h
    apply Nat.lt_pow_two_of_testBit
    intro i hi
    by_cases hi64 : 64 ≤ i
    · exact Nat.testBit_lt_two_pow (Nat.lt_of_lt_of_le (show b < 2 ^ 64 from hb) (Nat.pow_le_pow_right (by decide) hi64))
    · cases hbit : b.testBit i with
      | false => rfl
      | true => have := h i (by omega) hbit; omega
/-- The bit of a number that is not above Top. -/
def bo (d : Int) : Nat := if d ≤ 63 then 2 ^ d.toNat else 0
theorem bo_lt (d : Int) : bo d < 18446744073709551616 := by
  unfold bo
  split
  · exact show 2 ^ d.toNat < 2 ^ 64 from Nat.pow_lt_pow_right (by decide) (by omega)
  · decide
theorem bo_shl (d : Int) (h : 0 ≤ d) : IntKind.u64.wrap (2 ^ min d.toNat 64) = (bo d : Int) := by
  unfold bo
  by_cases h1 : d ≤ 63
  · rw [if_pos h1, Nat.min_eq_left (by omega)]
    have hp : 2 ^ d.toNat < 18446744073709551616 := show 2 ^ d.toNat < 2 ^ 64 from Nat.pow_lt_pow_right (by decide) (by omega)
    rw [show (2 : Int) ^ d.toNat = ((2 ^ d.toNat : Nat) : Int) by simp, IntKind.wrap_u64]
    exact Int.emod_eq_of_lt (Int.natCast_nonneg _) (Int.ofNat_lt.2 hp)
  · rw [if_neg h1, Nat.min_eq_right (by omega)]
    decide
theorem plim_any (n m : Int) (w : World) : Calls Try.prog 38 #[.int .i64 n, .int .i64 m] w fun e w' => e = .returned (.int .i64 (min (max n 0) m)) ∧ w = w' := by
  go_enter Try.func38, Try.ntmps38
  go_wp2_with fail
  go_ret
  exact ⟨rfl, rfl⟩
theorem pnum_any (n : Int) (w : World) : Calls Try.prog 19 #[.int .i64 n] w fun e w' => e = .returned (.bool (decide (In n))) ∧ w = w' := by
  have R := Lib.hid (show (n == min (max n 0) 1099511627776) = decide (In n) by
    by_cases h : In n
    · rw [dt h]; unfold In at h; simp; omega
    · rw [df h]; unfold In at h; simp; omega)
  have K := Lib.hid (plim_any n 1099511627776 w)
  generalize min (max n 0) 1099511627776 = m at *
  go_enter Try.func19, Try.ntmps19
  go_wp2_with fail
  refine K.out.mono ?_
  rintro _ _ ⟨rfl, rfl⟩
  go_wp2_with fail
  go_ret
  exact ⟨ret_bool R.out, rfl⟩
theorem ptop_any (t : Int) (b : Nat) (w : World) (hb : b < 18446744073709551616) : Calls Try.prog 22 #[.agg #[.int .i64 t, .int .u64 (b : Int)]] w (OutB w (b.testBit 0)) := by
  have E := low_bit b hb
  have R := Lib.hid (low_test b)
  generalize b % 2 = x at *
  go_enter Try.func22, Try.ntmps22
  go_wp2_with fail
  go_ret
  exact outB R.out (alloc_below _ _)
theorem pneg_any (t : Int) (b : Nat) (w : World) (hb : b < 18446744073709551616) (ht : In t) : Calls Try.prog 23 #[.agg #[.int .i64 t, .int .u64 (b : Int)]] w (OutB w (decide (NoNeg t b))) := by
  unfold In at ht
  have R := Lib.hid (noNeg_div t b hb ht.1)
  have s1 : IntKind.i64.wrap (t + 1) = t + 1 := by rw [IntKind.wrap_i64]; omega
  have h0 : 0 ≤ t + 1 := by omega
  clear ht
  generalize decide (NoNeg t b) = V at *
  go_enter Try.func23, Try.ntmps23
  go_wp2_with fail
  go_ret
  exact outB R.out (alloc_below _ _)
theorem pbit_any (t n : Int) (b : Nat) (w : World) (h : n ≤ t) (h2 : t - n ≤ 9223372036854775807) : Calls Try.prog 20 #[.agg #[.int .i64 t, .int .u64 (b : Int)], .int .i64 n] w fun e w' => e = .returned (.int .u64 (bo (t - n) : Int)) ∧ Below w.heap.size w w' := by
  have h0 : 0 ≤ t - n := by omega
  have R := Lib.hid (bo_shl (t - n) h0)
  have s1 : IntKind.i64.wrap (t - n) = t - n := by rw [IntKind.wrap_i64]; omega
  clear h2
  generalize bo (t - n) = x at *
  go_enter Try.func20, Try.ntmps20
  go_wp2_with fail
  go_ret
  exact ⟨ret_int R.out, alloc_below _ _⟩
/-- Node and number are in range. -/
def Hd (a n : Int) : Prop := (0 ≤ a ∧ a ≤ 250) ∧ In n
instance (a n : Int) : Decidable (Hd a n) := by unfold Hd; infer_instance
theorem hd_eq (a b c d : Int) (W : World) : (binOp .eql 50 (.agg #[.int .i64 a, .int .i64 b]) (.agg #[.int .i64 c, .int .i64 d])).run Try.prog W = .ok (.bool ((a == c) && (b == d))) W := by
  have hu : Try.prog.underlying 50 = some (.array 2 3) := by kernel_rfl
  obtain ⟨i, hi, _⟩ := info_get (P := Try.prog) (T := 3) (z := some (.int .i64 0)) (n := 1) (m := 8) (by kernel_rfl)
  have hc : Try.prog.cellsOf 3 = 1 := by kernel_rfl
  have hk : Try.prog.underlying 3 = some (.int .i64) := by kernel_rfl
  rw [run_eql_struct, run_equalIn_array W 9999 _ _ hu hi, hc, show List.range 2 = [0, 1] from rfl]
  have q0 := run_equalIn_int W 9998 3 .i64 .i64 a c hk
  have q1 := run_equalIn_int W 9998 3 .i64 .i64 b d hk
  unfold Op.eqItems Op.eqItems Op.eqItems
  go_simp
  by_cases h1 : a = c <;> by_cases h2 : b = d <;> simp [h1, h2]
theorem pin_any (a n : Int) (w : World) : Calls Try.prog 24 #[.agg #[.int .i64 a, .int .i64 n]] w (OutB w (decide (Hd a n))) := by
  have R := Lib.hid (show ((a == min (max a 0) 250) && (n == min (max n 0) 1099511627776)) = decide (Hd a n) by
    have e1 : (a == min (max a 0) 250) = decide (0 ≤ a ∧ a ≤ 250) := by
      by_cases h : 0 ≤ a ∧ a ≤ 250
      · rw [dt h]; simp; omega
      · rw [df h]; simp; omega
    have e2 : (n == min (max n 0) 1099511627776) = decide (In n) := by
      by_cases h : In n
      · rw [dt h]; unfold In at h; simp; omega
      · rw [df h]; unfold In at h; simp; omega
    rw [e1, e2]
    unfold Hd
    by_cases h1 : 0 ≤ a ∧ a ≤ 250 <;> by_cases h2 : In n <;> simp [h1, h2])
  generalize decide (Hd a n) = V at *
  have KL := Lib.hid (fun n m w => plim_any n m w)
  obtain ⟨f, hf⟩ : ∃ f : Int → Int → Int, ∀ n m, min (max n 0) m = f n m := ⟨_, fun _ _ => rfl⟩
  simp only [hf] at KL R
  clear hf
  have EQ := fun W => hd_eq a n (f a 250) (f n 1099511627776) W
  go_enter Try.func24, Try.ntmps24
  go_wp2_with fail
  go_quiet ((go_at_call 38; exact quiet_same (KL.out _ _ _)))
  go_wp2_with fail
  go_ret
  exact outB R.out (below_drewN (alloc_below _ _) _)
theorem pnew_any (W : World) : Calls Try.prog 18 #[] W fun e W' => e = .returned (.agg #[.int .i64 (-1), .int .u64 0]) ∧ Below W.heap.size W W' := by
  go_enter Try.func18, Try.ntmps18
  go_wp2_with fail
  refine bodyPost_ret (v := .agg #[.int .i64 (-1), .int .u64 0]) (by simp [results, Try.results18, go_sem]) rfl ⟨rfl, ?_⟩
  exact alloc_below _ _
end Go.Proofs.Yticlcjabhemdiaa.Rpl
