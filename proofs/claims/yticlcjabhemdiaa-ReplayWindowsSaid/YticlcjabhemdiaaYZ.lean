/- The law Back. -/
import Derived.Test.YticlcjabhemdiaaYW
set_option linter.unusedVariables false
namespace Go.Proofs.Yticlcjabhemdiaa.Rpl
open Go.RowKit

set_option maxRecDepth 100000 in
set_option maxHeartbeats 8000000 in
theorem law_back (w : World) (k : Nat) (node n : Int) (s o : ByteArray) (t : Int) (b : Nat) (ot : Nat) (hk : k < 18446744073709551616) (hb0 : b < 18446744073709551616) (hot : ot < 256) :
    Calls Try.prog 8 #[.agg #[.int .u64 (k : Int), .int .i64 node, .int .i64 n, .string s, .string o], .agg #[.int .i64 t, .int .u64 (b : Int)], .int .u8 (ot : Int)] w (OutB w true) := by
  have Z2 : ∀ x y : Obj, Below w.heap.size w ((w.alloc x).alloc y) := fun x y => (alloc_below w x).alloc (by simp) y
  by_cases h1 : 1000 < s.size
  · have d1 : decide ((1000 : Int) < (s.size : Int)) = true := dt (by omega)
    go_enter Try.func8, Try.ntmps8
    go_wp2_with fail
    refine (awake_any _).mono ?_
    rintro _ w9 ⟨rfl, hb⟩
    have B9 := Lib.hid ((Z2 _ _).trans (hb.mono (by simp; omega)))
    clear hb
    go_wp2_with fail
    go_ret
    exact outB rfl B9.out
  have d1 : decide ((1000 : Int) < (s.size : Int)) = false := df (by omega)
  by_cases h2 : node < 0
  · have d2 := dt h2
    go_enter Try.func8, Try.ntmps8
    go_wp2_with fail
    refine (awake_any _).mono ?_
    rintro _ w9 ⟨rfl, hb⟩
    have B9 := Lib.hid ((Z2 _ _).trans (hb.mono (by simp; omega)))
    clear hb
    go_wp2_with fail
    go_ret
    exact outB rfl B9.out
  have d2 := df h2
  by_cases h3 : 250 < node
  · have d3 := dt h3
    go_enter Try.func8, Try.ntmps8
    go_wp2_with fail
    refine (awake_any _).mono ?_
    rintro _ w9 ⟨rfl, hb⟩
    have B9 := Lib.hid ((Z2 _ _).trans (hb.mono (by simp; omega)))
    clear hb
    go_wp2_with fail
    go_ret
    exact outB rfl B9.out
  have d3 := df h3
  by_cases h4 : n < 0
  · have d4 := dt h4
    go_enter Try.func8, Try.ntmps8
    go_wp2_with fail
    refine (awake_any _).mono ?_
    rintro _ w9 ⟨rfl, hb⟩
    have B9 := Lib.hid ((Z2 _ _).trans (hb.mono (by simp; omega)))
    clear hb
    go_wp2_with fail
    go_ret
    exact outB rfl B9.out
  have d4 := df h4
  by_cases h5 : 1099511627776 < n
  · have d5 := dt h5
    go_enter Try.func8, Try.ntmps8
    go_wp2_with fail
    refine (awake_any _).mono ?_
    rintro _ w9 ⟨rfl, hb⟩
    have B9 := Lib.hid ((Z2 _ _).trans (hb.mono (by simp; omega)))
    clear hb
    go_wp2_with fail
    go_ret
    exact outB rfl B9.out
  have d5 := df h5
  have i1 : 0 ≤ node ∧ node ≤ 250 := by omega
  have i2 : In n := by unfold In; omega
  have i3 : s.size ≤ 1000 := by omega
  have n1 : I64 node := by unfold I64; omega
  have n2 : I64 n := by unfold I64; omega
  have zq : (Digest.bs (Digest.seald k (pay node n s).data.toList)).size ≤ 20000 := by
    rw [seald_size]
    have h1 := pay_size node n s
    have h2 : (pay node n s).data.toList.length = (pay node n s).size := Array.length_toList
    omega
  have PS := Lib.hid (fun w => (by have := pseal_any k node n s w hk n1 n2 (by omega); rw [show sl k node n s = (Digest.bs (Digest.seald k (pay node n s).data.toList), 0) by unfold sl; rw [if_neg (by omega), if_neg (by omega)]] at this; exact this : Calls Try.prog 14 #[.int .u64 (k : Int), .int .i64 node, .int .i64 n, .string s] w (OutSl w (Digest.bs (Digest.seald k (pay node n s).data.toList), 0))))
  have RA := Lib.hid (fun w => raccept_any t b n w hb0 n2)
  have P1 : ∀ to tw, op k to tw (Digest.bs (Digest.seald k (pay node n s).data.toList)) = _ := fun to tw => op_sl k node to n tw s i1 i2 i3
  have L1 : (acc (t, b) n).1.2 < 18446744073709551616 := acc_lt (w := (t, b)) n hb0
  have TW := Lib.hid (fun (h : (acc (t, b) n).2 = true) => acc_twice h)
  unfold OutSl at PS
  unfold OutA at RA
  generalize Digest.bs (Digest.seald k (pay node n s).data.toList) = q at *
  have O0 := fun to t b w ht hb => popen_any k to t b q w hk ht hb zq
  unfold OutOp at O0
  have O1r := fun w => O0 node t b w n1 hb0
  rw [P1 node (t, b), if_neg (fun h => h rfl)] at O1r
  clear h1 h2 h3 h4 h5 zq
  cases hok : (acc (t, b) n).2 with
  | false =>
    rw [if_pos hok] at O1r
    have O1 := Lib.hid O1r
    clear O1r
    generalize acc (t, b) n = r at *
    obtain ⟨⟨t1, b1⟩, ok⟩ := r
    simp only at hok RA
    subst hok
    clear O0 P1 L1 TW
    go_enter Try.func8, Try.ntmps8
    go_wp2_with fail
    refine (PS.out _).mono ?_
    rintro _ w1 ⟨rfl, hb⟩
    have XC1 := Lib.hid (show w1.heap[w.heap.size]? = some (.cells #[.int .u64 (k : Int), .int .i64 node, .int .i64 n, .string s, .string o] 32 (0, 0)) from (hb.block w.heap.size (by simp; omega)).trans (blk_alloc (blk_new w _) _))
    have XW1 := Lib.hid (show w1.heap[w.heap.size + 1]? = some (bxW t b) from (hb.block (w.heap.size + 1) (by simp)).trans (two_new w _ _))
    have z1 : w.heap.size + 1 < w1.heap.size := by have := hb.size; simp at this; omega
    have B1 := Lib.hid (show Below w.heap.size w w1 from (Z2 _ _).trans (hb.mono (by simp; omega)))
    clear hb PS
    have c0 := blk_cell XC1.out 0 (v := .int .u64 (k : Int)) rfl
    have c1 := blk_cell XC1.out 1 (v := .int .i64 node) rfl
    have c2 := blk_cell XC1.out 2 (v := .int .i64 n) rfl
    have c3 := blk_cell XC1.out 3 (v := .string s) rfl
    have x0 := blk_cell XW1.out 0 (v := .int .i64 t) rfl
    have x1 := blk_cell XW1.out 1 (v := .int .u64 (b : Int)) rfl
    go_wp2_with fail
    refine (RA.out _).mono ?_
    rintro _ w2 ⟨rfl, hb⟩
    have XC2 := Lib.hid (blk_below XC1.out hb (by omega))
    have XW2 := Lib.hid (blk_below XW1.out hb z1)
    have z2 := Nat.lt_of_lt_of_le z1 hb.size
    have B2 := Lib.hid (B1.out.trans (hb.mono B1.out.size))
    clear hb RA c0 c1 c2 c3 x0 x1
    have c0 := fun x => blk_cell (blk_alloc XC2.out x) 0 (v := .int .u64 (k : Int)) rfl
    have c1 := fun x => blk_cell (blk_alloc XC2.out x) 1 (v := .int .i64 node) rfl
    have c2 := fun x => blk_cell (blk_alloc XC2.out x) 2 (v := .int .i64 n) rfl
    have c3 := fun x => blk_cell (blk_alloc XC2.out x) 3 (v := .string s) rfl
    have x0 := fun x => blk_cell (blk_alloc XW2.out x) 0 (v := .int .i64 t) rfl
    have x1 := fun x => blk_cell (blk_alloc XW2.out x) 1 (v := .int .u64 (b : Int)) rfl
    go_wp2_with fail
    refine (O1.out _).mono ?_
    rintro _ w3 ⟨rfl, hb⟩
    have XC3 := Lib.hid (blk_below (blk_alloc XC2.out (bxW t1 b1)) hb (by simp; omega))
    have XW3 := Lib.hid (blk_below (blk_alloc XW2.out (bxW t1 b1)) hb (by simp; omega))
    have z3 : w.heap.size + 1 < w3.heap.size := by have := hb.size; simp at this; omega
    have B3 := Lib.hid (B2.out.trans ((box_below hb).mono B2.out.size))
    clear hb O1
    clear c0 c1 c2 c3 x0 x1
    have c0 := fun x => blk_cell (blk_alloc XC3.out x) 0 (v := .int .u64 (k : Int)) rfl
    have c1 := fun x => blk_cell (blk_alloc XC3.out x) 1 (v := .int .i64 node) rfl
    have c2 := fun x => blk_cell (blk_alloc XC3.out x) 2 (v := .int .i64 n) rfl
    have c3 := fun x => blk_cell (blk_alloc XC3.out x) 3 (v := .string s) rfl
    have x0 := fun x => blk_cell (blk_alloc XW3.out x) 0 (v := .int .i64 t) rfl
    have x1 := fun x => blk_cell (blk_alloc XW3.out x) 1 (v := .int .u64 (b : Int)) rfl
    go_wp2_with fail
    refine (awake_any _).mono ?_
    rintro _ w9 ⟨rfl, hb⟩
    have B9 := Lib.hid (B3.out.trans ((box_below hb).mono B3.out.size))
    clear hb
    go_wp2_with fail
    go_ret
    exact outB rfl B9.out
  | true =>
    rw [if_neg (by rw [hok]; decide)] at O1r
    have O1 := Lib.hid O1r
    have TX := TW.out hok
    clear O1r TW
    generalize acc (t, b) n = r at *
    obtain ⟨⟨t1, b1⟩, ok⟩ := r
    simp only at hok RA TX L1 O1
    subst hok
    have O2r := fun w => O0 node t1 b1 w n1 L1
    rw [P1 node (t1, b1), if_neg (fun h => h rfl), TX, if_pos rfl] at O2r
    have O2 := Lib.hid O2r
    clear O2r TX
    obtain ⟨m, hm⟩ : ∃ m, ot % 251 = m := ⟨_, rfl⟩
    have m1 : (ot : Int).tmod 251 = (m : Int) := by rw [← hm]; rfl
    have m2 : IntKind.i64.wrap (ot : Int) = (ot : Int) := by rw [IntKind.wrap_i64]; omega
    have m3 : m < 251 := by omega
    by_cases hmn : (m : Int) = node
    · have g1 : ((m : Int) == node) = true := by simpa using hmn
      clear O0 P1 L1 hm hmn
      go_enter Try.func8, Try.ntmps8
      go_wp2_with fail
      refine (PS.out _).mono ?_
      rintro _ w1 ⟨rfl, hb⟩
      have XC1 := Lib.hid (show w1.heap[w.heap.size]? = some (.cells #[.int .u64 (k : Int), .int .i64 node, .int .i64 n, .string s, .string o] 32 (0, 0)) from (hb.block w.heap.size (by simp; omega)).trans (blk_alloc (blk_new w _) _))
      have XW1 := Lib.hid (show w1.heap[w.heap.size + 1]? = some (bxW t b) from (hb.block (w.heap.size + 1) (by simp)).trans (two_new w _ _))
      have z1 : w.heap.size + 1 < w1.heap.size := by have := hb.size; simp at this; omega
      have B1 := Lib.hid (show Below w.heap.size w w1 from (Z2 _ _).trans (hb.mono (by simp; omega)))
      clear hb PS
      have c0 := blk_cell XC1.out 0 (v := .int .u64 (k : Int)) rfl
      have c1 := blk_cell XC1.out 1 (v := .int .i64 node) rfl
      have c2 := blk_cell XC1.out 2 (v := .int .i64 n) rfl
      have c3 := blk_cell XC1.out 3 (v := .string s) rfl
      have x0 := blk_cell XW1.out 0 (v := .int .i64 t) rfl
      have x1 := blk_cell XW1.out 1 (v := .int .u64 (b : Int)) rfl
      go_wp2_with fail
      refine (RA.out _).mono ?_
      rintro _ w2 ⟨rfl, hb⟩
      have XC2 := Lib.hid (blk_below XC1.out hb (by omega))
      have XW2 := Lib.hid (blk_below XW1.out hb z1)
      have z2 := Nat.lt_of_lt_of_le z1 hb.size
      have B2 := Lib.hid (B1.out.trans (hb.mono B1.out.size))
      clear hb RA c0 c1 c2 c3 x0 x1
      have c0 := fun x => blk_cell (blk_alloc XC2.out x) 0 (v := .int .u64 (k : Int)) rfl
      have c1 := fun x => blk_cell (blk_alloc XC2.out x) 1 (v := .int .i64 node) rfl
      have c2 := fun x => blk_cell (blk_alloc XC2.out x) 2 (v := .int .i64 n) rfl
      have c3 := fun x => blk_cell (blk_alloc XC2.out x) 3 (v := .string s) rfl
      have x0 := fun x => blk_cell (blk_alloc XW2.out x) 0 (v := .int .i64 t) rfl
      have x1 := fun x => blk_cell (blk_alloc XW2.out x) 1 (v := .int .u64 (b : Int)) rfl
      go_wp2_with fail
      refine (O1.out _).mono ?_
      rintro _ w3 ⟨rfl, hb⟩
      have XC3 := Lib.hid (blk_below (blk_alloc XC2.out (bxW t1 b1)) hb (by simp; omega))
      have XW3 := Lib.hid (blk_below (blk_alloc XW2.out (bxW t1 b1)) hb (by simp; omega))
      have z3 : w.heap.size + 1 < w3.heap.size := by have := hb.size; simp at this; omega
      have B3 := Lib.hid (B2.out.trans ((box_below hb).mono B2.out.size))
      clear hb O1
      clear c0 c1 c2 c3 x0 x1
      have c0 := fun x => blk_cell (blk_alloc XC3.out x) 0 (v := .int .u64 (k : Int)) rfl
      have c1 := fun x => blk_cell (blk_alloc XC3.out x) 1 (v := .int .i64 node) rfl
      have c2 := fun x => blk_cell (blk_alloc XC3.out x) 2 (v := .int .i64 n) rfl
      have c3 := fun x => blk_cell (blk_alloc XC3.out x) 3 (v := .string s) rfl
      have x0 := fun x => blk_cell (blk_alloc XW3.out x) 0 (v := .int .i64 t) rfl
      have x1 := fun x => blk_cell (blk_alloc XW3.out x) 1 (v := .int .u64 (b : Int)) rfl
      go_wp2_with fail
      refine (O2.out _).mono ?_
      rintro _ w4 ⟨rfl, hb⟩
      have XC4 := Lib.hid (blk_below (blk_alloc XC3.out (bxW t1 b1)) hb (by simp; omega))
      have XW4 := Lib.hid (blk_below (blk_alloc XW3.out (bxW t1 b1)) hb (by simp; omega))
      have z4 : w.heap.size + 1 < w4.heap.size := by have := hb.size; simp at this; omega
      have B4 := Lib.hid (B3.out.trans ((box_below hb).mono B3.out.size))
      have Y4 := Lib.hid (show w4.heap[w3.heap.size]? = some (bxW t1 b1) from blk_below (blk_new w3 _) hb (by simp))
      have y0 := fun x => blk_cell (blk_alloc Y4.out x) 0 (v := .int .i64 t1) rfl
      have y1 := fun x => blk_cell (blk_alloc Y4.out x) 1 (v := .int .u64 (b1 : Int)) rfl
      clear hb O2
      clear c0 c1 c2 c3 x0 x1
      have c0 := fun x => blk_cell (blk_alloc XC4.out x) 0 (v := .int .u64 (k : Int)) rfl
      have c1 := fun x => blk_cell (blk_alloc XC4.out x) 1 (v := .int .i64 node) rfl
      have c2 := fun x => blk_cell (blk_alloc XC4.out x) 2 (v := .int .i64 n) rfl
      have c3 := fun x => blk_cell (blk_alloc XC4.out x) 3 (v := .string s) rfl
      have x0 := fun x => blk_cell (blk_alloc XW4.out x) 0 (v := .int .i64 t) rfl
      have x1 := fun x => blk_cell (blk_alloc XW4.out x) 1 (v := .int .u64 (b : Int)) rfl
      go_wp2_with fail
      refine (awake_any _).mono ?_
      rintro _ w9 ⟨rfl, hb⟩
      have B9 := Lib.hid (B4.out.trans ((box_below hb).mono B4.out.size))
      clear hb
      go_wp2_with fail
      go_ret
      exact outB rfl B9.out
    · have g1 : ((m : Int) == node) = false := by simpa using hmn
      have O3r := fun w => O0 m t b w (by unfold I64; omega) hb0
      rw [P1 m (t, b), if_pos (fun h => hmn h.symm)] at O3r
      have O3 := Lib.hid O3r
      clear O3r
      clear O0 P1 L1 hm hmn
      go_enter Try.func8, Try.ntmps8
      go_wp2_with fail
      refine (PS.out _).mono ?_
      rintro _ w1 ⟨rfl, hb⟩
      have XC1 := Lib.hid (show w1.heap[w.heap.size]? = some (.cells #[.int .u64 (k : Int), .int .i64 node, .int .i64 n, .string s, .string o] 32 (0, 0)) from (hb.block w.heap.size (by simp; omega)).trans (blk_alloc (blk_new w _) _))
      have XW1 := Lib.hid (show w1.heap[w.heap.size + 1]? = some (bxW t b) from (hb.block (w.heap.size + 1) (by simp)).trans (two_new w _ _))
      have z1 : w.heap.size + 1 < w1.heap.size := by have := hb.size; simp at this; omega
      have B1 := Lib.hid (show Below w.heap.size w w1 from (Z2 _ _).trans (hb.mono (by simp; omega)))
      clear hb PS
      have c0 := blk_cell XC1.out 0 (v := .int .u64 (k : Int)) rfl
      have c1 := blk_cell XC1.out 1 (v := .int .i64 node) rfl
      have c2 := blk_cell XC1.out 2 (v := .int .i64 n) rfl
      have c3 := blk_cell XC1.out 3 (v := .string s) rfl
      have x0 := blk_cell XW1.out 0 (v := .int .i64 t) rfl
      have x1 := blk_cell XW1.out 1 (v := .int .u64 (b : Int)) rfl
      go_wp2_with fail
      refine (RA.out _).mono ?_
      rintro _ w2 ⟨rfl, hb⟩
      have XC2 := Lib.hid (blk_below XC1.out hb (by omega))
      have XW2 := Lib.hid (blk_below XW1.out hb z1)
      have z2 := Nat.lt_of_lt_of_le z1 hb.size
      have B2 := Lib.hid (B1.out.trans (hb.mono B1.out.size))
      clear hb RA c0 c1 c2 c3 x0 x1
      have c0 := fun x => blk_cell (blk_alloc XC2.out x) 0 (v := .int .u64 (k : Int)) rfl
      have c1 := fun x => blk_cell (blk_alloc XC2.out x) 1 (v := .int .i64 node) rfl
      have c2 := fun x => blk_cell (blk_alloc XC2.out x) 2 (v := .int .i64 n) rfl
      have c3 := fun x => blk_cell (blk_alloc XC2.out x) 3 (v := .string s) rfl
      have x0 := fun x => blk_cell (blk_alloc XW2.out x) 0 (v := .int .i64 t) rfl
      have x1 := fun x => blk_cell (blk_alloc XW2.out x) 1 (v := .int .u64 (b : Int)) rfl
      go_wp2_with fail
      refine (O1.out _).mono ?_
      rintro _ w3 ⟨rfl, hb⟩
      have XC3 := Lib.hid (blk_below (blk_alloc XC2.out (bxW t1 b1)) hb (by simp; omega))
      have XW3 := Lib.hid (blk_below (blk_alloc XW2.out (bxW t1 b1)) hb (by simp; omega))
      have z3 : w.heap.size + 1 < w3.heap.size := by have := hb.size; simp at this; omega
      have B3 := Lib.hid (B2.out.trans ((box_below hb).mono B2.out.size))
      clear hb O1
      clear c0 c1 c2 c3 x0 x1
      have c0 := fun x => blk_cell (blk_alloc XC3.out x) 0 (v := .int .u64 (k : Int)) rfl
      have c1 := fun x => blk_cell (blk_alloc XC3.out x) 1 (v := .int .i64 node) rfl
      have c2 := fun x => blk_cell (blk_alloc XC3.out x) 2 (v := .int .i64 n) rfl
      have c3 := fun x => blk_cell (blk_alloc XC3.out x) 3 (v := .string s) rfl
      have x0 := fun x => blk_cell (blk_alloc XW3.out x) 0 (v := .int .i64 t) rfl
      have x1 := fun x => blk_cell (blk_alloc XW3.out x) 1 (v := .int .u64 (b : Int)) rfl
      go_wp2_with fail
      refine (O2.out _).mono ?_
      rintro _ w4 ⟨rfl, hb⟩
      have XC4 := Lib.hid (blk_below (blk_alloc XC3.out (bxW t1 b1)) hb (by simp; omega))
      have XW4 := Lib.hid (blk_below (blk_alloc XW3.out (bxW t1 b1)) hb (by simp; omega))
      have z4 : w.heap.size + 1 < w4.heap.size := by have := hb.size; simp at this; omega
      have B4 := Lib.hid (B3.out.trans ((box_below hb).mono B3.out.size))
      have Y4 := Lib.hid (show w4.heap[w3.heap.size]? = some (bxW t1 b1) from blk_below (blk_new w3 _) hb (by simp))
      have y0 := fun x => blk_cell (blk_alloc Y4.out x) 0 (v := .int .i64 t1) rfl
      have y1 := fun x => blk_cell (blk_alloc Y4.out x) 1 (v := .int .u64 (b1 : Int)) rfl
      clear hb O2
      clear c0 c1 c2 c3 x0 x1
      have c0 := fun x => blk_cell (blk_alloc XC4.out x) 0 (v := .int .u64 (k : Int)) rfl
      have c1 := fun x => blk_cell (blk_alloc XC4.out x) 1 (v := .int .i64 node) rfl
      have c2 := fun x => blk_cell (blk_alloc XC4.out x) 2 (v := .int .i64 n) rfl
      have c3 := fun x => blk_cell (blk_alloc XC4.out x) 3 (v := .string s) rfl
      have x0 := fun x => blk_cell (blk_alloc XW4.out x) 0 (v := .int .i64 t) rfl
      have x1 := fun x => blk_cell (blk_alloc XW4.out x) 1 (v := .int .u64 (b : Int)) rfl
      go_wp2_with fail
      refine (O3.out _).mono ?_
      rintro _ w5 ⟨rfl, hb⟩
      have XC5 := Lib.hid (blk_below (blk_alloc XC4.out (bxW t1 b1)) hb (by simp; omega))
      have XW5 := Lib.hid (blk_below (blk_alloc XW4.out (bxW t1 b1)) hb (by simp; omega))
      have z5 : w.heap.size + 1 < w5.heap.size := by have := hb.size; simp at this; omega
      have B5 := Lib.hid (B4.out.trans ((box_below hb).mono B4.out.size))
      clear hb O3
      clear c0 c1 c2 c3 x0 x1
      have c0 := fun x => blk_cell (blk_alloc XC5.out x) 0 (v := .int .u64 (k : Int)) rfl
      have c1 := fun x => blk_cell (blk_alloc XC5.out x) 1 (v := .int .i64 node) rfl
      have c2 := fun x => blk_cell (blk_alloc XC5.out x) 2 (v := .int .i64 n) rfl
      have c3 := fun x => blk_cell (blk_alloc XC5.out x) 3 (v := .string s) rfl
      have x0 := fun x => blk_cell (blk_alloc XW5.out x) 0 (v := .int .i64 t) rfl
      have x1 := fun x => blk_cell (blk_alloc XW5.out x) 1 (v := .int .u64 (b : Int)) rfl
      go_wp2_with fail
      refine (awake_any _).mono ?_
      rintro _ w9 ⟨rfl, hb⟩
      have B9 := Lib.hid (B5.out.trans ((box_below hb).mono B5.out.size))
      clear hb
      go_wp2_with fail
      go_ret
      exact outB rfl B9.out
end Go.Proofs.Yticlcjabhemdiaa.Rpl
