/- Contracts of the reference's Digits. -/
import Derived.Test.YtkgbmoiolgpmoaaWalkC
import Derived.Test.YtkgbmoiolgpmoaaPlainD
import Derived.LoopTactic
set_option linter.unusedVariables false
namespace Go.Proofs.Ytkgbmoiolgpmoaa
open Go.RowKit

set_option maxHeartbeats 400000 in
theorem rdig_small (n : Int) (w : World) (hn : 0 ≤ n) (hn2 : n ≤ 9) :
    Calls Try.prog 32 #[.int .i64 n] w fun e w' => e = .returned (.string (strOfNums [48 + n])) ∧ Grown w w' := by
  have kc := run_convert_bytes_arg (P := Try.prog) (w.alloc (.cells #[.int .u8 (48 + n)] 5)) 38 5 Try.underlying38 Try.underlying5 w.heap.size 0 1 1 [48 + n] rfl (fun i hi => by
    obtain rfl : i = 0 := by omega
    simp) 9 Try.underlying9
  go_enter Try.func32, Try.ntmps32
  go_wp2_with fail
  go_ret
  exact ⟨rfl, (Grown.refl _).alloc _ _⟩

theorem nums_app (xs ys : List Int) : strOfNums xs ++ strOfNums ys = strOfNums (xs ++ ys) := by
  apply ByteArray.ext
  simp [strOfNums, ByteArray.data_append]
theorem nums_45 : (⟨#[45]⟩ : ByteArray) = strOfNums [45] := rfl
theorem ret_str {a b : ByteArray} (h : a = b) : Ending.returned (.string a) = .returned (.string b) := by rw [h]

set_option maxHeartbeats 400000 in
theorem rdig_nsmall (n : Int) (w : World) (hn : -10 < n) (hn2 : n < 0) :
    Calls Try.prog 32 #[.int .i64 n] w fun e w' => e = .returned (.string (strOfNums [45, 48 - n])) ∧ Grown w w' := by
  go_enter Try.func32, Try.ntmps32
  go_wp2_with (go_at_call 32; refine (rdig_small _ _ (by omega) (by omega)).mono ?_; rintro e w' ⟨rfl, hg⟩)
  go_ret
  exact ⟨ret_str (by rw [nums_45, nums_app, Int.sub_eq_add_neg]; rfl), hg⟩

theorem dec_len (f m : Nat) : (dec f m).length ≤ f := by
  induction f generalizing m with
  | zero => simp [dec]
  | succ f ih => by_cases h : m < 10 <;> simp [dec, h]; have := ih (m / 10); omega
theorem decN_len (m : Nat) : (decN m).length ≤ 20 := dec_len 20 m
theorem digS_size (n : Int) : (digS n).size ≤ 21 := by
  unfold digS digL; rw [strOfNums_size]
  have := decN_len n.natAbs
  split <;> simp <;> omega

set_option maxHeartbeats 400000 in
theorem rdig_ind (f : Nat) : ∀ (n : Int) (w : World), I64 n → n.natAbs < 10 ^ (f + 1) → 
    Calls Try.prog 32 #[.int .i64 n] w fun e w' => e = .returned (.string (digS n)) ∧ Grown w w' := by
  induction f with
  | zero =>
    intro n w _ hn
    have hn' : n.natAbs < 10 := by simpa using hn
    by_cases h0 : 0 ≤ n
    · refine (rdig_small n w h0 (by omega)).mono ?_
      rintro e w' ⟨rfl, hg⟩
      refine ⟨ret_str ?_, hg⟩
      unfold digS digL; rw [if_neg (by omega), decN_small _ hn', show ((n.natAbs : Nat) : Int) = n by omega]
    · refine (rdig_nsmall n w (by omega) (by omega)).mono ?_
      rintro e w' ⟨rfl, hg⟩
      refine ⟨ret_str ?_, hg⟩
      unfold digS digL; rw [if_pos (by omega), decN_small _ hn', show ((n.natAbs : Nat) : Int) = -n by omega, Int.sub_eq_add_neg]
  | succ f ih =>
    intro n w hi hn
    by_cases hs : n.natAbs < 10
    · exact ih n w hi (Nat.lt_of_lt_of_le hs (by rw [Nat.pow_succ]; have : 0 < 10 ^ f := Nat.pow_pos (by omega); omega))
    unfold I64 at hi
    have hq : n.natAbs / 10 < 10 ^ (f + 1) := by rw [Nat.div_lt_iff_lt_mul (by omega)]; rw [Nat.pow_succ] at hn; exact hn
    by_cases h0 : 0 ≤ n
    · have s1 := digS_size (n / 10)
      have s2 := strOfNums_size [48 + n % 10]
      have s3 : (strOfNums [48 + n % 10]).size ≤ 1 := by rw [s2]; simp
      have E : Hid (digS (n / 10) ++ strOfNums [48 + n % 10] = digS n) := Lib.hid (by
        unfold digS digL
        rw [if_neg (by omega), if_neg (by omega), nums_app, decN_step n.natAbs (by omega) (by omega), decN_small (n.natAbs % 10) (by omega)]
        rw [show (n / 10).natAbs = n.natAbs / 10 by omega, show ((n.natAbs % 10 : Nat) : Int) = n % 10 by omega])
      clear s2
      have hq2 : (n / 10).natAbs < 10 ^ (f + 1) := by rw [show (n / 10).natAbs = n.natAbs / 10 by omega]; exact hq
      have ih := Lib.hid ih
      have hq3 := Lib.hid hq2
      clear hq hq2 hn
      go_enter Try.func32, Try.ntmps32
      go_wp2_with fail
      refine (ih.out (n / 10) _ (by unfold I64; omega) hq3.out).mono ?_
      rintro e w1 ⟨rfl, hg⟩
      go_wp2_with fail
      refine (rdig_small (n % 10) _ (by omega) (by omega)).mono ?_
      rintro e w2 ⟨rfl, hg2⟩
      go_wp2_with fail
      go_ret
      exact ⟨ret_str E.out, grown_trans hg hg2⟩
    · have e1 : (n.tdiv 10).natAbs = n.natAbs / 10 := Int.natAbs_tdiv n 10
      have e2 : (n.tmod 10).natAbs = n.natAbs % 10 := Int.natAbs_tmod n 10
      have q1 : n.tdiv 10 = -((-n) / 10) := by rw [← Int.tdiv_eq_ediv_of_nonneg (by omega : 0 ≤ -n), ← Int.neg_tdiv, Int.neg_neg]
      have q2 : n.tmod 10 = -((-n) % 10) := by rw [← Int.tmod_eq_emod_of_nonneg (by omega : 0 ≤ -n), ← Int.neg_tmod, Int.neg_neg]
      have e3 : n.tmod 10 ≤ 0 := by omega
      have e4 : n.tdiv 10 < 0 := by omega
      have s1 := digS_size (n.tdiv 10)
      have s2 := strOfNums_size [48 + -n.tmod 10]
      have s3 : (strOfNums [48 + -n.tmod 10]).size ≤ 1 := by rw [s2]; simp
      have E : Hid (digS (n.tdiv 10) ++ strOfNums [48 + -n.tmod 10] = digS n) := Lib.hid (by
        unfold digS digL
        rw [if_pos (by omega), if_pos (by omega), nums_app, decN_step n.natAbs (by omega) (by omega), decN_small (n.natAbs % 10) (by omega)]
        rw [e1, show ((n.natAbs % 10 : Nat) : Int) = -n.tmod 10 by omega]; rfl)
      clear s2
      have hq3 : Hid ((n.tdiv 10).natAbs < 10 ^ (f + 1)) := Lib.hid (by rw [e1]; exact hq)
      have hi2 : -9223372036854775808 ≤ n.tdiv 10 := by omega
      have hm : -10 < n.tmod 10 := by omega
      have ih := Lib.hid ih
      clear hq hn e1 e2 q1 q2
      go_enter Try.func32, Try.ntmps32
      go_wp2_with fail
      refine (ih.out (n.tdiv 10) _ (by unfold I64; omega) hq3.out).mono ?_
      rintro e w1 ⟨rfl, hg⟩
      go_wp2_with fail
      refine (rdig_small (-n.tmod 10) _ (by omega) (by omega)).mono ?_
      rintro e w2 ⟨rfl, hg2⟩
      go_wp2_with fail
      go_ret
      exact ⟨ret_str E.out, grown_trans hg hg2⟩

theorem rdig_any (n : Int) (w : World) (hn : I64 n) :
    Calls Try.prog 32 #[.int .i64 n] w fun e w' => e = .returned (.string (digS n)) ∧ Grown w w' :=
  rdig_ind 18 n w hn (by unfold I64 at hn; omega)
end Go.Proofs.Ytkgbmoiolgpmoaa
