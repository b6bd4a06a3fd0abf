/- The reference's bit, Check, Accept. -/
import Derived.Test.YticlcjabhemdiaaSh
import Derived.Test.YticlcjabhemdiaaYPlain
set_option linter.unusedVariables false
namespace Go.Proofs.Yticlcjabhemdiaa.Rpl
open Go.RowKit

abbrev wiV (w : Wi) : Value := .agg #[.int .i64 w.1, .int .u64 (w.2 : Int)]
theorem bit_int (b n : Nat) : (((b : Int) / 2 ^ n).tmod 2 == 1) = b.testBit n := by
  rw [Nat.testBit_eq_decide_div_mod_eq]
  have e : ((b : Int) / 2 ^ n).tmod 2 = ((b / 2 ^ n % 2 : Nat) : Int) := by
    rw [show (b : Int) / 2 ^ n = ((b / 2 ^ n : Nat) : Int) by simp]
    rfl
  rw [e]
  rcases Nat.mod_two_eq_zero_or_one (b / 2 ^ n) with h | h
  · rw [h]; rfl
  · rw [h]; rfl
/-- Bit k of b, if k is one of 64. -/
def rb (b : Nat) (k : Int) : Bool := decide (0 ≤ k ∧ k ≤ 63) && b.testBit k.toNat
theorem rb_in (b n : Nat) (h : n < 64) : rb b (n : Int) = b.testBit n := by
  unfold rb
  rw [decide_eq_true (by omega), Int.toNat_natCast, Bool.true_and]
theorem rb_low (b : Nat) (k : Int) (h : ¬ 0 ≤ k) : rb b k = false := by unfold rb; rw [decide_eq_false (by omega)]; rfl
theorem rb_high (b : Nat) (k : Int) (h : ¬ k ≤ 63) : rb b k = false := by unfold rb; rw [decide_eq_false (by omega)]; rfl
set_option maxRecDepth 100000 in
theorem rbit_any (t : Int) (b : Nat) (k : Int) (W : World) (hb : b < 18446744073709551616) :
    Calls Try.prog 21 #[.agg #[.int .i64 t, .int .u64 (b : Int)], .int .i64 k] W (OutB W (rb b k)) := by
  by_cases h0 : 0 ≤ k
  · have d0 := dt h0
    by_cases h1 : k ≤ 63
    · have d1 := dt h1
      obtain ⟨n, rfl⟩ : ∃ n : Nat, k = (n : Int) := ⟨k.toNat, by omega⟩
      have R := Lib.hid ((bit_int b n).trans (rb_in b n (by omega)).symm)
      have hn : n < 64 := by omega
      go_enter Try.func21, Try.ntmps21
      go_wp2_with fail
      go_ret
      exact outB R.out (alloc_below _ _)
    · have d1 := df h1
      have R := Lib.hid (rb_high b k h1).symm
      go_enter Try.func21, Try.ntmps21
      go_wp2_with fail
      go_ret
      exact outB R.out (alloc_below _ _)
  · have d0 := df h0
    have R := Lib.hid (rb_low b k h0).symm
    go_enter Try.func21, Try.ntmps21
    go_wp2_with fail
    go_ret
    exact outB R.out (alloc_below _ _)
theorem upto_next {b k : Nat} {t : Int} (hj : ∀ j, j < k → b.testBit j = true → (j : Int) ≤ t) (h : b.testBit k = true → (k : Int) ≤ t) : ∀ j, j < k + 1 → b.testBit j = true → (j : Int) ≤ t := fun j hjk hjb => by
  by_cases e : j = k
  · subst e; exact h hjb
  · exact hj j (by omega) hjb
/-- Check. -/
def chk (w : Wi) : Int := if Val w then 0 else 2
set_option maxRecDepth 100000 in
set_option maxHeartbeats 2000000 in
theorem rcheck_any (t : Int) (b : Nat) (W : World) (hb : b < 18446744073709551616) :
    Calls Try.prog 12 #[.agg #[.int .i64 t, .int .u64 (b : Int)]] W (OutI W (chk (t, b))) := by
  have KB := Lib.hid (fun k W => rbit_any t b k W hb)
  unfold OutB at KB
  by_cases h0 : t < -1
  · have R := Lib.hid (show chk (t, b) = 2 from if_neg (by unfold Val; dsimp only; omega))
    have d0 := dt h0
    go_enter Try.func12, Try.ntmps12
    go_wp2_with fail
    go_ret
    exact outI R.out.symm (alloc_below _ _)
  have d0 := df h0
  by_cases h1 : 1099511627776 < t
  · have R := Lib.hid (show chk (t, b) = 2 from if_neg (by unfold Val; dsimp only; omega))
    have d1 := dt h1
    go_enter Try.func12, Try.ntmps12
    go_wp2_with fail
    go_ret
    exact outI R.out.symm (alloc_below _ _)
  have d1 := df h1
  by_cases h2 : t = -1
  · by_cases h3 : b = 0
    · have RC : ((∀ k, k < 64 → b.testBit k = true → (k : Int) ≤ t) → chk (t, b) = 0) ∧ ((∃ k, k < 64 ∧ b.testBit k = true ∧ ¬ (k : Int) ≤ t) → chk (t, b) = 2) := ⟨fun _ => if_pos (Or.inl ⟨h2, h3⟩), fun ⟨k, _, h, _⟩ => by rw [h3] at h; simp at h⟩
      have d2 : (t == -1) = true := by simpa using h2
      have d3 : decide (0 ≤ t) = false := df (by omega)
      have d4 : ((b : Int) != 0) = false := by simp; omega
      have d5 : (b != 0) = false := by simpa using h3
      clear h0 h1 h2 h3
      go_enter Try.func12, Try.ntmps12
      go_wp2_with fail
      have CB := Lib.hid (fun (k : Nat) (hk : k < 64) W => (by have := KB.out (k : Int) W; rw [rb_in b k hk] at this; exact this : Calls Try.prog 21 #[.agg #[.int .i64 t, .int .u64 (b : Int)], .int .i64 k] W (fun e W' => e = .returned (.bool (b.testBit k)) ∧ Below W.heap.size W W')))
      have R0 := Lib.hid RC.1
      have R2 := Lib.hid RC.2
      clear KB RC
      go_loopw [3] (fun vk wr => ∃ k : Nat, vk = .int .i64 k ∧ k ≤ 64 ∧ Hid (∀ j, j < k → b.testBit j = true → (j : Int) ≤ t) ∧ Hid (wr.heap[W.heap.size]? = some (.cells #[.int .i64 t, .int .u64 (b : Int)] 24 (0, 0))) ∧ W.heap.size < wr.heap.size ∧ Below W.heap.size W wr) (fun vk _ => 64 - (intOf vk).toNat)
      case atStart => exact ⟨0, rfl, by omega, Lib.hid (fun j h => absurd h (by omega)), Lib.hid (blk_new W _), by simp, alloc_below _ _⟩
      case round =>
        obtain ⟨k, rfl, hk, hj, hx, hz, hb⟩ := hrel
        have B := Lib.hid hb
        clear hb
        have e0 := blk_cell hx.out 0 (v := .int .i64 t) rfl
        have e1 := blk_cell hx.out 1 (v := .int .u64 (b : Int)) rfl
        by_cases hlt : k < 64
        · have d9 : decide ((k : Int) ≤ 63) = true := dt (by omega)
          have K1 := Lib.hid (CB.out k hlt wr)
          by_cases hbit : b.testBit k = true
          · have hbit := Lib.hid hbit
            rw [hbit.out] at K1
            by_cases hkt : (k : Int) ≤ t
            · have d8 : decide (t < (k : Int)) = false := df (by omega)
              clear CB R0 R2
              go_wp2_with fail
              refine K1.out.mono ?_
              rintro _ w2 ⟨rfl, hb⟩
              have X2 := Lib.hid (blk_below hx.out hb hz)
              have B2 := Lib.hid (B.out.trans (hb.mono B.out.size))
              have hz2 := Nat.lt_of_lt_of_le hz hb.size
              clear hb K1 e0 e1 hx B
              have e0 := blk_cell X2.out 0 (v := .int .i64 t) rfl
              have e1 := blk_cell X2.out 1 (v := .int .u64 (b : Int)) rfl
              go_wp2_with fail
              go_round
              case rel => exact ⟨k + 1, by go_num, hlt, Lib.hid (upto_next hj.out (fun _ => hkt)), X2, hz2, B2.out⟩
              case measure => simp [intOf]; omega
            · have d8 : decide (t < (k : Int)) = true := dt (by omega)
              have R := Lib.hid (R2.out ⟨k, hlt, hbit.out, by omega⟩)
              clear CB R0 R2
              go_wp2_with fail
              refine K1.out.mono ?_
              rintro _ w2 ⟨rfl, hb⟩
              have X2 := Lib.hid (blk_below hx.out hb hz)
              have B2 := Lib.hid (B.out.trans (hb.mono B.out.size))
              clear hb K1 e0 e1 hx B
              have e0 := blk_cell X2.out 0 (v := .int .i64 t) rfl
              have e1 := blk_cell X2.out 1 (v := .int .u64 (b : Int)) rfl
              go_wp2_with fail
              go_ret
              exact outI R.out.symm B2.out
          · have hbit := Lib.hid (show b.testBit k = false by simpa using hbit)
            rw [hbit.out] at K1
            clear CB R0 R2
            go_wp2_with fail
            refine K1.out.mono ?_
            rintro _ w2 ⟨rfl, hb⟩
            have X2 := Lib.hid (blk_below hx.out hb hz)
            have B2 := Lib.hid (B.out.trans (hb.mono B.out.size))
            have hz2 := Nat.lt_of_lt_of_le hz hb.size
            clear hb K1 e0 e1 hx B
            go_wp2_with fail
            go_round
            case rel => exact ⟨k + 1, by go_num, hlt, Lib.hid (upto_next hj.out (fun h => by rw [hbit.out] at h; cases h)), X2, hz2, B2.out⟩
            case measure => simp [intOf]; omega
        · obtain rfl : k = 64 := by omega
          have R := Lib.hid (R0.out (fun j h => hj.out j h))
          clear CB R0 R2 hx
          go_wp2_with fail
          go_ret
          exact outI R.out.symm B.out
    · have R := Lib.hid (show chk (t, b) = 2 from if_neg (by unfold Val; dsimp only; omega))
      have d2 : (t == -1) = true := by simpa using h2
      have d4 : ((b : Int) != 0) = true := by simp; omega
      have d5 : (b != 0) = true := by simpa using h3
      clear h0 h1 h2 h3
      go_enter Try.func12, Try.ntmps12
      go_wp2_with fail
      go_ret
      exact outI R.out.symm (alloc_below _ _)
  have d2 : (t == -1) = false := by simpa using h2
  have h3 : 0 ≤ t := by omega
  have d3 := dt h3
  have K0 := KB.out 0
  by_cases h4 : b.testBit 0 = true
  rotate_left
  · have R := Lib.hid (show chk (t, b) = 2 from if_neg fun h => h.elim (fun h => h2 h.1) (fun h => h4 h.2.2.1))
    rw [show rb b 0 = false from (rb_in b 0 (by decide)).trans (by simpa using h4)] at K0
    have K0 := Lib.hid K0
    clear KB h4
    go_enter Try.func12, Try.ntmps12
    go_wp2_with fail
    refine (K0.out _).mono ?_
    rintro _ w1 ⟨rfl, hb1⟩
    have B1 := Lib.hid (box_below hb1)
    clear hb1
    go_wp2_with fail
    go_ret
    exact outI R.out.symm B1.out
  have RC : ((∀ k, k < 64 → b.testBit k = true → (k : Int) ≤ t) → chk (t, b) = 0) ∧ ((∃ k, k < 64 ∧ b.testBit k = true ∧ ¬ (k : Int) ≤ t) → chk (t, b) = 2) := ⟨fun h => if_pos (Or.inr ⟨h3, by omega, h4, h⟩), fun ⟨k, hk, hb, hn⟩ => if_neg fun h => h.elim (fun h => h2 h.1) (fun h => hn (h.2.2.2 k hk hb))⟩
  rw [show rb b 0 = true from (rb_in b 0 (by decide)).trans h4] at K0
  have K0 := Lib.hid K0
  clear h0 h1 h2 h3 h4
  go_enter Try.func12, Try.ntmps12
  go_wp2_with fail
  refine (K0.out _).mono ?_
  rintro _ w1 ⟨rfl, hb1⟩
  have X1 := Lib.hid (show w1.heap[W.heap.size]? = some (.cells #[.int .i64 t, .int .u64 (b : Int)] 24 (0, 0)) from (hb1.block W.heap.size (by simp)).trans (blk_new W _))
  have hz1 : W.heap.size < w1.heap.size := by have := hb1.size; simp at this; omega
  have B1 := Lib.hid (box_below hb1)
  clear hb1 K0
  go_wp2_with fail
  have CB := Lib.hid (fun (k : Nat) (hk : k < 64) W => (by have := KB.out (k : Int) W; rw [rb_in b k hk] at this; exact this : Calls Try.prog 21 #[.agg #[.int .i64 t, .int .u64 (b : Int)], .int .i64 k] W (fun e W' => e = .returned (.bool (b.testBit k)) ∧ Below W.heap.size W W')))
  have R0 := Lib.hid RC.1
  have R2 := Lib.hid RC.2
  clear KB RC
  go_loopw [3] (fun vk wr => ∃ k : Nat, vk = .int .i64 k ∧ k ≤ 64 ∧ Hid (∀ j, j < k → b.testBit j = true → (j : Int) ≤ t) ∧ Hid (wr.heap[W.heap.size]? = some (.cells #[.int .i64 t, .int .u64 (b : Int)] 24 (0, 0))) ∧ W.heap.size < wr.heap.size ∧ Below W.heap.size W wr) (fun vk _ => 64 - (intOf vk).toNat)
  case atStart => exact ⟨0, rfl, by omega, Lib.hid (fun j h => absurd h (by omega)), Lib.hid (X1.out), hz1, B1.out⟩
  case round =>
    obtain ⟨k, rfl, hk, hj, hx, hz, hb⟩ := hrel
    have B := Lib.hid hb
    clear hb
    have e0 := blk_cell hx.out 0 (v := .int .i64 t) rfl
    have e1 := blk_cell hx.out 1 (v := .int .u64 (b : Int)) rfl
    by_cases hlt : k < 64
    · have d9 : decide ((k : Int) ≤ 63) = true := dt (by omega)
      have K1 := Lib.hid (CB.out k hlt wr)
      by_cases hbit : b.testBit k = true
      · have hbit := Lib.hid hbit
        rw [hbit.out] at K1
        by_cases hkt : (k : Int) ≤ t
        · have d8 : decide (t < (k : Int)) = false := df (by omega)
          clear CB R0 R2
          go_wp2_with fail
          refine K1.out.mono ?_
          rintro _ w2 ⟨rfl, hb⟩
          have X2 := Lib.hid (blk_below hx.out hb hz)
          have B2 := Lib.hid (B.out.trans (hb.mono B.out.size))
          have hz2 := Nat.lt_of_lt_of_le hz hb.size
          clear hb K1 e0 e1 hx B
          have e0 := blk_cell X2.out 0 (v := .int .i64 t) rfl
          have e1 := blk_cell X2.out 1 (v := .int .u64 (b : Int)) rfl
          go_wp2_with fail
          go_round
          case rel => exact ⟨k + 1, by go_num, hlt, Lib.hid (upto_next hj.out (fun _ => hkt)), X2, hz2, B2.out⟩
          case measure => simp [intOf]; omega
        · have d8 : decide (t < (k : Int)) = true := dt (by omega)
          have R := Lib.hid (R2.out ⟨k, hlt, hbit.out, by omega⟩)
          clear CB R0 R2
          go_wp2_with fail
          refine K1.out.mono ?_
          rintro _ w2 ⟨rfl, hb⟩
          have X2 := Lib.hid (blk_below hx.out hb hz)
          have B2 := Lib.hid (B.out.trans (hb.mono B.out.size))
          clear hb K1 e0 e1 hx B
          have e0 := blk_cell X2.out 0 (v := .int .i64 t) rfl
          have e1 := blk_cell X2.out 1 (v := .int .u64 (b : Int)) rfl
          go_wp2_with fail
          go_ret
          exact outI R.out.symm B2.out
      · have hbit := Lib.hid (show b.testBit k = false by simpa using hbit)
        rw [hbit.out] at K1
        clear CB R0 R2
        go_wp2_with fail
        refine K1.out.mono ?_
        rintro _ w2 ⟨rfl, hb⟩
        have X2 := Lib.hid (blk_below hx.out hb hz)
        have B2 := Lib.hid (B.out.trans (hb.mono B.out.size))
        have hz2 := Nat.lt_of_lt_of_le hz hb.size
        clear hb K1 e0 e1 hx B
        go_wp2_with fail
        go_round
        case rel => exact ⟨k + 1, by go_num, hlt, Lib.hid (upto_next hj.out (fun h => by rw [hbit.out] at h; cases h)), X2, hz2, B2.out⟩
        case measure => simp [intOf]; omega
    · obtain rfl : k = 64 := by omega
      have R := Lib.hid (R0.out (fun j h => hj.out j h))
      clear CB R0 R2 hx
      go_wp2_with fail
      go_ret
      exact outI R.out.symm B.out
end Go.Proofs.Yticlcjabhemdiaa.Rpl
