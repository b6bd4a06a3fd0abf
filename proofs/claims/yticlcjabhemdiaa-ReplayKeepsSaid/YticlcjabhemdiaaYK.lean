/- The law Keeps. -/
import Derived.Test.YticlcjabhemdiaaYL
set_option linter.unusedVariables false
namespace Go.Proofs.Yticlcjabhemdiaa.Rpl
open Go.RowKit

theorem bit_zero (b n : Nat) : (((b : Int) / 2 ^ n).tmod 2 == 0) = !b.testBit n := by
  rw [← bit_int]
  have e : ((b : Int) / 2 ^ n).tmod 2 = ((b / 2 ^ n % 2 : Nat) : Int) := by
    rw [show (b : Int) / 2 ^ n = ((b / 2 ^ n : Nat) : Int) by simp]
    rfl
  rw [e]
  rcases Nat.mod_two_eq_zero_or_one (b / 2 ^ n) with h | h
  · rw [h]; rfl
  · rw [h]; rfl
set_option maxRecDepth 100000 in
set_option maxHeartbeats 8000000 in
theorem law_keeps (KL0 : ∀ w, Calls Try.prog 13 #[] w (OutB w true)) (w : World) (t : Int) (b : Nat) (n : Int) (bk : Nat) (hb0 : b < 18446744073709551616) (hn : I64 n) (hk : bk < 256) :
    Calls Try.prog 7 #[.agg #[.int .i64 t, .int .u64 (b : Int)], .int .i64 n, .int .u8 (bk : Int)] w (OutB w true) := by
  have KL := Lib.hid KL0
  unfold OutB at KL
  clear KL0
  have CR := Lib.hid (fun w => rcheck_any t b w hb0)
  unfold OutI at CR
  by_cases hv : Val (t, b)
  rotate_left
  · rw [show chk (t, b) = 2 from if_neg hv] at CR
    clear hv
    go_enter Try.func7, Try.ntmps7
    go_wp2_with fail
    refine (CR.out _).mono ?_
    rintro _ w1 ⟨rfl, hb⟩
    have X1 := Lib.hid (show w1.heap[w.heap.size]? = some (bxW t b) from (hb.block w.heap.size (by simp)).trans (blk_new w _))
    have hz1 : w.heap.size < w1.heap.size := by have := hb.size; simp at this; omega
    have B1 := Lib.hid (box_below hb)
    have x0 := blk_cell X1.out 0 (v := .int .i64 t) rfl
    have x1 := blk_cell X1.out 1 (v := .int .u64 (b : Int)) rfl
    clear hb CR
    go_wp2_with fail
    refine (KL.out _).mono ?_
    rintro _ w9 ⟨rfl, hb⟩
    have B9 := Lib.hid (B1.out.trans (hb.mono B1.out.size))
    clear hb
    go_wp2_with fail
    go_ret
    exact outB rfl B9.out
  rw [show chk (t, b) = 0 from if_pos hv] at CR
  have KP := Lib.hid (fun w => paccept_any t b n w hb0 hn)
  have V1 := acc_val n hv
  have L1 : (acc (t, b) n).1.2 < 18446744073709551616 := acc_lt (w := (t, b)) n hb0
  have T1 := acc_top (t, b) n
  have KE := Lib.hid (fun (m : Int) (h : rec (t, b) m = true) => keeps (n := n) h)
  have ht : -1 ≤ t ∧ t ≤ 1099511627776 := by unfold Val at hv; dsimp only at hv; omega
  unfold OutA at KP
  clear hv
  generalize acc (t, b) n = r at *
  obtain ⟨⟨t1, b1⟩, ok⟩ := r
  simp only at KP V1 L1 T1 KE
  have CP := Lib.hid (fun w => pcheck_any t1 b1 w L1)
  unfold OutI at CP
  rw [show chk (t1, b1) = 0 from if_pos V1] at CP
  have KA := Lib.hid (fun m w (hm : I64 m) => paccept_any t1 b1 m w L1 hm)
  unfold OutA at KA
  obtain ⟨t2, t3⟩ := T1
  have d1 : decide (t1 < t) = false := df (by omega)
  obtain ⟨kk, hkk⟩ : ∃ kk, bk % 64 = kk := ⟨_, rfl⟩
  have m1 : (bk : Int).tmod 64 = (kk : Int) := by rw [← hkk]; rfl
  have m2 : IntKind.i64.wrap (kk : Int) = (kk : Int) := by rw [IntKind.wrap_i64]; omega
  have hk64 : kk < 64 := by omega
  clear hkk V1
  cases ok with
  | false =>
    clear t3
    by_cases g0 : t < 0
    · have g1 := dt g0
      clear KA
      go_enter Try.func7, Try.ntmps7
      go_wp2_with fail
      refine (CR.out _).mono ?_
      rintro _ w1 ⟨rfl, hb⟩
      have X1 := Lib.hid (show w1.heap[w.heap.size]? = some (bxW t b) from (hb.block w.heap.size (by simp)).trans (blk_new w _))
      have hz1 : w.heap.size < w1.heap.size := by have := hb.size; simp at this; omega
      have B1 := Lib.hid (box_below hb)
      have x0 := blk_cell X1.out 0 (v := .int .i64 t) rfl
      have x1 := blk_cell X1.out 1 (v := .int .u64 (b : Int)) rfl
      clear hb CR
      go_wp2_with fail
      refine (KP.out _).mono ?_
      rintro _ w2 ⟨rfl, hb⟩
      have X2 := Lib.hid (blk_below X1.out hb hz1)
      have hz2 := Nat.lt_of_lt_of_le hz1 hb.size
      have B2 := Lib.hid (B1.out.trans (hb.mono B1.out.size))
      clear hb KP x0 x1
      go_wp2_with fail
      refine (CP.out _).mono ?_
      rintro _ w3 ⟨rfl, hb⟩
      have X3 := Lib.hid (blk_below (blk_alloc X2.out (bxW t1 b1)) hb (by simp; omega))
      have Y3 := Lib.hid (show w3.heap[w2.heap.size]? = some (bxW t1 b1) from blk_below (blk_new w2 _) hb (by simp))
      have B3 := Lib.hid (B2.out.trans ((box_below hb).mono B2.out.size))
      have x0 := blk_cell X3.out 0 (v := .int .i64 t) rfl
      have x1 := blk_cell X3.out 1 (v := .int .u64 (b : Int)) rfl
      have y0 := blk_cell Y3.out 0 (v := .int .i64 t1) rfl
      have y1 := blk_cell Y3.out 1 (v := .int .u64 (b1 : Int)) rfl
      clear hb CP
      go_wp2_with fail
      refine (KL.out _).mono ?_
      rintro _ w9 ⟨rfl, hb⟩
      have B9 := Lib.hid (B3.out.trans (hb.mono B3.out.size))
      clear hb
      go_wp2_with fail
      go_ret
      exact outB rfl B9.out
    have g1 := df g0
    by_cases g2 : b.testBit kk = true
    rotate_left
    · have g3 : (((b : Int) / 2 ^ kk).tmod 2 == 0) = true := by rw [bit_zero]; simpa using g2
      clear KA
      go_enter Try.func7, Try.ntmps7
      go_wp2_with fail
      refine (CR.out _).mono ?_
      rintro _ w1 ⟨rfl, hb⟩
      have X1 := Lib.hid (show w1.heap[w.heap.size]? = some (bxW t b) from (hb.block w.heap.size (by simp)).trans (blk_new w _))
      have hz1 : w.heap.size < w1.heap.size := by have := hb.size; simp at this; omega
      have B1 := Lib.hid (box_below hb)
      have x0 := blk_cell X1.out 0 (v := .int .i64 t) rfl
      have x1 := blk_cell X1.out 1 (v := .int .u64 (b : Int)) rfl
      clear hb CR
      go_wp2_with fail
      refine (KP.out _).mono ?_
      rintro _ w2 ⟨rfl, hb⟩
      have X2 := Lib.hid (blk_below X1.out hb hz1)
      have hz2 := Nat.lt_of_lt_of_le hz1 hb.size
      have B2 := Lib.hid (B1.out.trans (hb.mono B1.out.size))
      clear hb KP x0 x1
      go_wp2_with fail
      refine (CP.out _).mono ?_
      rintro _ w3 ⟨rfl, hb⟩
      have X3 := Lib.hid (blk_below (blk_alloc X2.out (bxW t1 b1)) hb (by simp; omega))
      have Y3 := Lib.hid (show w3.heap[w2.heap.size]? = some (bxW t1 b1) from blk_below (blk_new w2 _) hb (by simp))
      have B3 := Lib.hid (B2.out.trans ((box_below hb).mono B2.out.size))
      have x0 := blk_cell X3.out 0 (v := .int .i64 t) rfl
      have x1 := blk_cell X3.out 1 (v := .int .u64 (b : Int)) rfl
      have y0 := blk_cell Y3.out 0 (v := .int .i64 t1) rfl
      have y1 := blk_cell Y3.out 1 (v := .int .u64 (b1 : Int)) rfl
      clear hb CP
      go_wp2_with fail
      refine (KL.out _).mono ?_
      rintro _ w9 ⟨rfl, hb⟩
      have B9 := Lib.hid (B3.out.trans (hb.mono B3.out.size))
      clear hb
      go_wp2_with fail
      go_ret
      exact outB rfl B9.out
    have g3 : (((b : Int) / 2 ^ kk).tmod 2 == 0) = false := by rw [bit_zero, g2]; rfl
    have s2 : IntKind.i64.wrap (t - (kk : Int)) = t - (kk : Int) := by rw [IntKind.wrap_i64]; omega
    have KA := Lib.hid (fun w => (by have := KA.out (t - (kk : Int)) w (by unfold I64; omega); rw [KE.out _ (rec_of (by dsimp only; omega) (by dsimp only; omega) (by dsimp only; rw [show (t - (t - (kk : Int))).toNat = kk by omega]; exact g2))] at this; exact this : Calls Try.prog 9 #[.agg #[.int .i64 t1, .int .u64 (b1 : Int)], .int .i64 (t - (kk : Int))] w (fun e w' => e = .returned (.tuple #[wiV (t1, b1), .bool false]) ∧ Below w.heap.size w w')))
    clear KE g2
    go_enter Try.func7, Try.ntmps7
    go_wp2_with fail
    refine (CR.out _).mono ?_
    rintro _ w1 ⟨rfl, hb⟩
    have X1 := Lib.hid (show w1.heap[w.heap.size]? = some (bxW t b) from (hb.block w.heap.size (by simp)).trans (blk_new w _))
    have hz1 : w.heap.size < w1.heap.size := by have := hb.size; simp at this; omega
    have B1 := Lib.hid (box_below hb)
    have x0 := blk_cell X1.out 0 (v := .int .i64 t) rfl
    have x1 := blk_cell X1.out 1 (v := .int .u64 (b : Int)) rfl
    clear hb CR
    go_wp2_with fail
    refine (KP.out _).mono ?_
    rintro _ w2 ⟨rfl, hb⟩
    have X2 := Lib.hid (blk_below X1.out hb hz1)
    have hz2 := Nat.lt_of_lt_of_le hz1 hb.size
    have B2 := Lib.hid (B1.out.trans (hb.mono B1.out.size))
    clear hb KP x0 x1
    go_wp2_with fail
    refine (CP.out _).mono ?_
    rintro _ w3 ⟨rfl, hb⟩
    have X3 := Lib.hid (blk_below (blk_alloc X2.out (bxW t1 b1)) hb (by simp; omega))
    have Y3 := Lib.hid (show w3.heap[w2.heap.size]? = some (bxW t1 b1) from blk_below (blk_new w2 _) hb (by simp))
    have B3 := Lib.hid (B2.out.trans ((box_below hb).mono B2.out.size))
    have x0 := blk_cell X3.out 0 (v := .int .i64 t) rfl
    have x1 := blk_cell X3.out 1 (v := .int .u64 (b : Int)) rfl
    have y0 := blk_cell Y3.out 0 (v := .int .i64 t1) rfl
    have y1 := blk_cell Y3.out 1 (v := .int .u64 (b1 : Int)) rfl
    clear hb CP
    go_wp2_with fail
    refine (KA.out _).mono ?_
    rintro _ w4 ⟨rfl, hb⟩
    have B4 := Lib.hid (B3.out.trans (hb.mono B3.out.size))
    clear hb KA
    go_wp2_with fail
    refine (KL.out _).mono ?_
    rintro _ w9 ⟨rfl, hb⟩
    have B9 := Lib.hid (B4.out.trans ((box_below hb).mono B4.out.size))
    clear hb
    go_wp2_with fail
    go_ret
    exact outB rfl B9.out
  | true =>
    have t3 := t3 rfl
    by_cases c1 : t1 = n
    · have c2 : (t1 != n) = false := by simpa using c1
      clear t3 c1
      by_cases g0 : t < 0
      · have g1 := dt g0
        clear KA
        go_enter Try.func7, Try.ntmps7
        go_wp2_with fail
        refine (CR.out _).mono ?_
        rintro _ w1 ⟨rfl, hb⟩
        have X1 := Lib.hid (show w1.heap[w.heap.size]? = some (bxW t b) from (hb.block w.heap.size (by simp)).trans (blk_new w _))
        have hz1 : w.heap.size < w1.heap.size := by have := hb.size; simp at this; omega
        have B1 := Lib.hid (box_below hb)
        have x0 := blk_cell X1.out 0 (v := .int .i64 t) rfl
        have x1 := blk_cell X1.out 1 (v := .int .u64 (b : Int)) rfl
        clear hb CR
        go_wp2_with fail
        refine (KP.out _).mono ?_
        rintro _ w2 ⟨rfl, hb⟩
        have X2 := Lib.hid (blk_below X1.out hb hz1)
        have hz2 := Nat.lt_of_lt_of_le hz1 hb.size
        have B2 := Lib.hid (B1.out.trans (hb.mono B1.out.size))
        clear hb KP x0 x1
        go_wp2_with fail
        refine (CP.out _).mono ?_
        rintro _ w3 ⟨rfl, hb⟩
        have X3 := Lib.hid (blk_below (blk_alloc X2.out (bxW t1 b1)) hb (by simp; omega))
        have Y3 := Lib.hid (show w3.heap[w2.heap.size]? = some (bxW t1 b1) from blk_below (blk_new w2 _) hb (by simp))
        have B3 := Lib.hid (B2.out.trans ((box_below hb).mono B2.out.size))
        have x0 := blk_cell X3.out 0 (v := .int .i64 t) rfl
        have x1 := blk_cell X3.out 1 (v := .int .u64 (b : Int)) rfl
        have y0 := blk_cell Y3.out 0 (v := .int .i64 t1) rfl
        have y1 := blk_cell Y3.out 1 (v := .int .u64 (b1 : Int)) rfl
        clear hb CP
        go_wp2_with fail
        refine (KL.out _).mono ?_
        rintro _ w9 ⟨rfl, hb⟩
        have B9 := Lib.hid (B3.out.trans (hb.mono B3.out.size))
        clear hb
        go_wp2_with fail
        go_ret
        exact outB rfl B9.out
      have g1 := df g0
      by_cases g2 : b.testBit kk = true
      rotate_left
      · have g3 : (((b : Int) / 2 ^ kk).tmod 2 == 0) = true := by rw [bit_zero]; simpa using g2
        clear KA
        go_enter Try.func7, Try.ntmps7
        go_wp2_with fail
        refine (CR.out _).mono ?_
        rintro _ w1 ⟨rfl, hb⟩
        have X1 := Lib.hid (show w1.heap[w.heap.size]? = some (bxW t b) from (hb.block w.heap.size (by simp)).trans (blk_new w _))
        have hz1 : w.heap.size < w1.heap.size := by have := hb.size; simp at this; omega
        have B1 := Lib.hid (box_below hb)
        have x0 := blk_cell X1.out 0 (v := .int .i64 t) rfl
        have x1 := blk_cell X1.out 1 (v := .int .u64 (b : Int)) rfl
        clear hb CR
        go_wp2_with fail
        refine (KP.out _).mono ?_
        rintro _ w2 ⟨rfl, hb⟩
        have X2 := Lib.hid (blk_below X1.out hb hz1)
        have hz2 := Nat.lt_of_lt_of_le hz1 hb.size
        have B2 := Lib.hid (B1.out.trans (hb.mono B1.out.size))
        clear hb KP x0 x1
        go_wp2_with fail
        refine (CP.out _).mono ?_
        rintro _ w3 ⟨rfl, hb⟩
        have X3 := Lib.hid (blk_below (blk_alloc X2.out (bxW t1 b1)) hb (by simp; omega))
        have Y3 := Lib.hid (show w3.heap[w2.heap.size]? = some (bxW t1 b1) from blk_below (blk_new w2 _) hb (by simp))
        have B3 := Lib.hid (B2.out.trans ((box_below hb).mono B2.out.size))
        have x0 := blk_cell X3.out 0 (v := .int .i64 t) rfl
        have x1 := blk_cell X3.out 1 (v := .int .u64 (b : Int)) rfl
        have y0 := blk_cell Y3.out 0 (v := .int .i64 t1) rfl
        have y1 := blk_cell Y3.out 1 (v := .int .u64 (b1 : Int)) rfl
        clear hb CP
        go_wp2_with fail
        refine (KL.out _).mono ?_
        rintro _ w9 ⟨rfl, hb⟩
        have B9 := Lib.hid (B3.out.trans (hb.mono B3.out.size))
        clear hb
        go_wp2_with fail
        go_ret
        exact outB rfl B9.out
      have g3 : (((b : Int) / 2 ^ kk).tmod 2 == 0) = false := by rw [bit_zero, g2]; rfl
      have s2 : IntKind.i64.wrap (t - (kk : Int)) = t - (kk : Int) := by rw [IntKind.wrap_i64]; omega
      have KA := Lib.hid (fun w => (by have := KA.out (t - (kk : Int)) w (by unfold I64; omega); rw [KE.out _ (rec_of (by dsimp only; omega) (by dsimp only; omega) (by dsimp only; rw [show (t - (t - (kk : Int))).toNat = kk by omega]; exact g2))] at this; exact this : Calls Try.prog 9 #[.agg #[.int .i64 t1, .int .u64 (b1 : Int)], .int .i64 (t - (kk : Int))] w (fun e w' => e = .returned (.tuple #[wiV (t1, b1), .bool false]) ∧ Below w.heap.size w w')))
      clear KE g2
      go_enter Try.func7, Try.ntmps7
      go_wp2_with fail
      refine (CR.out _).mono ?_
      rintro _ w1 ⟨rfl, hb⟩
      have X1 := Lib.hid (show w1.heap[w.heap.size]? = some (bxW t b) from (hb.block w.heap.size (by simp)).trans (blk_new w _))
      have hz1 : w.heap.size < w1.heap.size := by have := hb.size; simp at this; omega
      have B1 := Lib.hid (box_below hb)
      have x0 := blk_cell X1.out 0 (v := .int .i64 t) rfl
      have x1 := blk_cell X1.out 1 (v := .int .u64 (b : Int)) rfl
      clear hb CR
      go_wp2_with fail
      refine (KP.out _).mono ?_
      rintro _ w2 ⟨rfl, hb⟩
      have X2 := Lib.hid (blk_below X1.out hb hz1)
      have hz2 := Nat.lt_of_lt_of_le hz1 hb.size
      have B2 := Lib.hid (B1.out.trans (hb.mono B1.out.size))
      clear hb KP x0 x1
      go_wp2_with fail
      refine (CP.out _).mono ?_
      rintro _ w3 ⟨rfl, hb⟩
      have X3 := Lib.hid (blk_below (blk_alloc X2.out (bxW t1 b1)) hb (by simp; omega))
      have Y3 := Lib.hid (show w3.heap[w2.heap.size]? = some (bxW t1 b1) from blk_below (blk_new w2 _) hb (by simp))
      have B3 := Lib.hid (B2.out.trans ((box_below hb).mono B2.out.size))
      have x0 := blk_cell X3.out 0 (v := .int .i64 t) rfl
      have x1 := blk_cell X3.out 1 (v := .int .u64 (b : Int)) rfl
      have y0 := blk_cell Y3.out 0 (v := .int .i64 t1) rfl
      have y1 := blk_cell Y3.out 1 (v := .int .u64 (b1 : Int)) rfl
      clear hb CP
      go_wp2_with fail
      refine (KA.out _).mono ?_
      rintro _ w4 ⟨rfl, hb⟩
      have B4 := Lib.hid (B3.out.trans (hb.mono B3.out.size))
      clear hb KA
      go_wp2_with fail
      refine (KL.out _).mono ?_
      rintro _ w9 ⟨rfl, hb⟩
      have B9 := Lib.hid (B4.out.trans ((box_below hb).mono B4.out.size))
      clear hb
      go_wp2_with fail
      go_ret
      exact outB rfl B9.out
    have c2 : (t1 != n) = true := by simpa using c1
    have c3 : (t1 != t) = false := by have : t1 = t := by omega
                                      simpa using this
    clear t3 c1
    by_cases g0 : t < 0
    · have g1 := dt g0
      clear KA
      go_enter Try.func7, Try.ntmps7
      go_wp2_with fail
      refine (CR.out _).mono ?_
      rintro _ w1 ⟨rfl, hb⟩
      have X1 := Lib.hid (show w1.heap[w.heap.size]? = some (bxW t b) from (hb.block w.heap.size (by simp)).trans (blk_new w _))
      have hz1 : w.heap.size < w1.heap.size := by have := hb.size; simp at this; omega
      have B1 := Lib.hid (box_below hb)
      have x0 := blk_cell X1.out 0 (v := .int .i64 t) rfl
      have x1 := blk_cell X1.out 1 (v := .int .u64 (b : Int)) rfl
      clear hb CR
      go_wp2_with fail
      refine (KP.out _).mono ?_
      rintro _ w2 ⟨rfl, hb⟩
      have X2 := Lib.hid (blk_below X1.out hb hz1)
      have hz2 := Nat.lt_of_lt_of_le hz1 hb.size
      have B2 := Lib.hid (B1.out.trans (hb.mono B1.out.size))
      clear hb KP x0 x1
      go_wp2_with fail
      refine (CP.out _).mono ?_
      rintro _ w3 ⟨rfl, hb⟩
      have X3 := Lib.hid (blk_below (blk_alloc X2.out (bxW t1 b1)) hb (by simp; omega))
      have Y3 := Lib.hid (show w3.heap[w2.heap.size]? = some (bxW t1 b1) from blk_below (blk_new w2 _) hb (by simp))
      have B3 := Lib.hid (B2.out.trans ((box_below hb).mono B2.out.size))
      have x0 := blk_cell X3.out 0 (v := .int .i64 t) rfl
      have x1 := blk_cell X3.out 1 (v := .int .u64 (b : Int)) rfl
      have y0 := blk_cell Y3.out 0 (v := .int .i64 t1) rfl
      have y1 := blk_cell Y3.out 1 (v := .int .u64 (b1 : Int)) rfl
      clear hb CP
      go_wp2_with fail
      refine (KL.out _).mono ?_
      rintro _ w9 ⟨rfl, hb⟩
      have B9 := Lib.hid (B3.out.trans (hb.mono B3.out.size))
      clear hb
      go_wp2_with fail
      go_ret
      exact outB rfl B9.out
    have g1 := df g0
    by_cases g2 : b.testBit kk = true
    rotate_left
    · have g3 : (((b : Int) / 2 ^ kk).tmod 2 == 0) = true := by rw [bit_zero]; simpa using g2
      clear KA
      go_enter Try.func7, Try.ntmps7
      go_wp2_with fail
      refine (CR.out _).mono ?_
      rintro _ w1 ⟨rfl, hb⟩
      have X1 := Lib.hid (show w1.heap[w.heap.size]? = some (bxW t b) from (hb.block w.heap.size (by simp)).trans (blk_new w _))
      have hz1 : w.heap.size < w1.heap.size := by have := hb.size; simp at this; omega
      have B1 := Lib.hid (box_below hb)
      have x0 := blk_cell X1.out 0 (v := .int .i64 t) rfl
      have x1 := blk_cell X1.out 1 (v := .int .u64 (b : Int)) rfl
      clear hb CR
      go_wp2_with fail
      refine (KP.out _).mono ?_
      rintro _ w2 ⟨rfl, hb⟩
      have X2 := Lib.hid (blk_below X1.out hb hz1)
      have hz2 := Nat.lt_of_lt_of_le hz1 hb.size
      have B2 := Lib.hid (B1.out.trans (hb.mono B1.out.size))
      clear hb KP x0 x1
      go_wp2_with fail
      refine (CP.out _).mono ?_
      rintro _ w3 ⟨rfl, hb⟩
      have X3 := Lib.hid (blk_below (blk_alloc X2.out (bxW t1 b1)) hb (by simp; omega))
      have Y3 := Lib.hid (show w3.heap[w2.heap.size]? = some (bxW t1 b1) from blk_below (blk_new w2 _) hb (by simp))
      have B3 := Lib.hid (B2.out.trans ((box_below hb).mono B2.out.size))
      have x0 := blk_cell X3.out 0 (v := .int .i64 t) rfl
      have x1 := blk_cell X3.out 1 (v := .int .u64 (b : Int)) rfl
      have y0 := blk_cell Y3.out 0 (v := .int .i64 t1) rfl
      have y1 := blk_cell Y3.out 1 (v := .int .u64 (b1 : Int)) rfl
      clear hb CP
      go_wp2_with fail
      refine (KL.out _).mono ?_
      rintro _ w9 ⟨rfl, hb⟩
      have B9 := Lib.hid (B3.out.trans (hb.mono B3.out.size))
      clear hb
      go_wp2_with fail
      go_ret
      exact outB rfl B9.out
    have g3 : (((b : Int) / 2 ^ kk).tmod 2 == 0) = false := by rw [bit_zero, g2]; rfl
    have s2 : IntKind.i64.wrap (t - (kk : Int)) = t - (kk : Int) := by rw [IntKind.wrap_i64]; omega
    have KA := Lib.hid (fun w => (by have := KA.out (t - (kk : Int)) w (by unfold I64; omega); rw [KE.out _ (rec_of (by dsimp only; omega) (by dsimp only; omega) (by dsimp only; rw [show (t - (t - (kk : Int))).toNat = kk by omega]; exact g2))] at this; exact this : Calls Try.prog 9 #[.agg #[.int .i64 t1, .int .u64 (b1 : Int)], .int .i64 (t - (kk : Int))] w (fun e w' => e = .returned (.tuple #[wiV (t1, b1), .bool false]) ∧ Below w.heap.size w w')))
    clear KE g2
    go_enter Try.func7, Try.ntmps7
    go_wp2_with fail
    refine (CR.out _).mono ?_
    rintro _ w1 ⟨rfl, hb⟩
    have X1 := Lib.hid (show w1.heap[w.heap.size]? = some (bxW t b) from (hb.block w.heap.size (by simp)).trans (blk_new w _))
    have hz1 : w.heap.size < w1.heap.size := by have := hb.size; simp at this; omega
    have B1 := Lib.hid (box_below hb)
    have x0 := blk_cell X1.out 0 (v := .int .i64 t) rfl
    have x1 := blk_cell X1.out 1 (v := .int .u64 (b : Int)) rfl
    clear hb CR
    go_wp2_with fail
    refine (KP.out _).mono ?_
    rintro _ w2 ⟨rfl, hb⟩
    have X2 := Lib.hid (blk_below X1.out hb hz1)
    have hz2 := Nat.lt_of_lt_of_le hz1 hb.size
    have B2 := Lib.hid (B1.out.trans (hb.mono B1.out.size))
    clear hb KP x0 x1
    go_wp2_with fail
    refine (CP.out _).mono ?_
    rintro _ w3 ⟨rfl, hb⟩
    have X3 := Lib.hid (blk_below (blk_alloc X2.out (bxW t1 b1)) hb (by simp; omega))
    have Y3 := Lib.hid (show w3.heap[w2.heap.size]? = some (bxW t1 b1) from blk_below (blk_new w2 _) hb (by simp))
    have B3 := Lib.hid (B2.out.trans ((box_below hb).mono B2.out.size))
    have x0 := blk_cell X3.out 0 (v := .int .i64 t) rfl
    have x1 := blk_cell X3.out 1 (v := .int .u64 (b : Int)) rfl
    have y0 := blk_cell Y3.out 0 (v := .int .i64 t1) rfl
    have y1 := blk_cell Y3.out 1 (v := .int .u64 (b1 : Int)) rfl
    clear hb CP
    go_wp2_with fail
    refine (KA.out _).mono ?_
    rintro _ w4 ⟨rfl, hb⟩
    have B4 := Lib.hid (B3.out.trans (hb.mono B3.out.size))
    clear hb KA
    go_wp2_with fail
    refine (KL.out _).mono ?_
    rintro _ w9 ⟨rfl, hb⟩
    have B9 := Lib.hid (B4.out.trans ((box_below hb).mono B4.out.size))
    clear hb
    go_wp2_with fail
    go_ret
    exact outB rfl B9.out
end Go.Proofs.Yticlcjabhemdiaa.Rpl
