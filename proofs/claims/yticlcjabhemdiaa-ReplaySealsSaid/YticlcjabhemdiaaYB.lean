/- The reference's Accept. -/
import Derived.Test.YticlcjabhemdiaaYA
set_option linter.unusedVariables false
namespace Go.Proofs.Yticlcjabhemdiaa.Rpl
open Go.RowKit

def OutA (W : World) (r : Wi × Bool) (e : Ending) (W' : World) : Prop := e = .returned (.tuple #[wiV r.1, .bool r.2]) ∧ Below W.heap.size W W'
abbrev bxW (t : Int) (b : Nat) : Obj := .cells #[.int .i64 t, .int .u64 (b : Int)] 24
theorem nb_one (t : Int) (b : Nat) (n : Int) : nb (nxt (t, b) n) 1 = 1 := by
  rw [show nb (nxt (t, b) n) 1 = nb (nxt (t, b) n) 0 ||| (if nxt (t, b) n 0 = true then 2 ^ 0 else 0) from rfl, if_pos (by unfold nxt; simp), show nb (nxt (t, b) n) 0 = 0 from rfl]
  decide
/-- A window is written over another. -/
def put2 (w : World) (k : Nat) (t : Int) (b : Nat) : World := (w.setCell ⟨k, 0, none⟩ (.int .i64 t)).setCell ⟨k, 1, none⟩ (.int .u64 (b : Int))
theorem put2_blk {w : World} {k : Nat} {t0 : Int} {b0 : Nat} (h : w.heap[k]? = some (bxW t0 b0)) (t : Int) (b : Nat) : (put2 w k t b).heap[k]? = some (bxW t b) := by
  unfold put2
  have h1 := blk_set h 0 (.int .i64 t)
  rw [show (#[.int .i64 t0, .int .u64 (b0 : Int)] : Array Value).setIfInBounds 0 (.int .i64 t) = #[.int .i64 t, .int .u64 (b0 : Int)] from rfl] at h1
  have h2 := blk_set h1 1 (.int .u64 (b : Int))
  rw [show (#[.int .i64 t, .int .u64 (b0 : Int)] : Array Value).setIfInBounds 1 (.int .u64 (b : Int)) = #[.int .i64 t, .int .u64 (b : Int)] from rfl] at h2
  exact h2
theorem put2_below {B : Nat} {a w : World} (h : Below B a w) {k : Nat} (hk : B ≤ k) (t : Int) (b : Nat) : Below B a (put2 w k t b) := (h.setCell hk _).setCell hk _
theorem put2_other (w : World) {k j : Nat} (hj : j ≠ k) (t : Int) (b : Nat) : (put2 w k t b).heap[j]? = w.heap[j]? := by
  unfold put2
  rw [Below.heap_setCell _ _ _ j hj, Below.heap_setCell _ _ _ j hj]
theorem two_new (W : World) (o p : Obj) : ((W.alloc o).alloc p).heap[W.heap.size + 1]? = some p := by
  have h := blk_new (W.alloc o) p
  rw [show (W.alloc o).heap.size = W.heap.size + 1 by simp] at h
  exact h
theorem put1_blk {w : World} {k : Nat} {t : Int} {b0 : Nat} (h : w.heap[k]? = some (bxW t b0)) (b : Nat) : (w.setCell ⟨k, 1, none⟩ (.int .u64 (b : Int))).heap[k]? = some (bxW t b) := by
  have h1 := blk_set h 1 (.int .u64 (b : Int))
  rw [show (#[.int .i64 t, .int .u64 (b0 : Int)] : Array Value).setIfInBounds 1 (.int .u64 (b : Int)) = #[.int .i64 t, .int .u64 (b : Int)] from rfl] at h1
  exact h1
theorem or_pow (b k : Nat) (hb : b < 18446744073709551616) (hk : k < 64) : bits .or .u64 (b : Int) (IntKind.u64.wrap (2 ^ k)) = ((b ||| 2 ^ k : Nat) : Int) := by
  have h : 2 ^ k < 18446744073709551616 := show 2 ^ k < 2 ^ 64 from Nat.pow_lt_pow_right (by decide) hk
  have e : IntKind.u64.wrap (2 ^ k) = ((2 ^ k : Nat) : Int) := by
    rw [show (2 : Int) ^ k = ((2 ^ k : Nat) : Int) by simp, IntKind.wrap_u64]
    exact Int.emod_eq_of_lt (Int.natCast_nonneg _) (Int.ofNat_lt.2 h)
  rw [e]
  exact u64_or_nat b (2 ^ k) hb h
theorem rec_rb (t : Int) (b : Nat) (m : Int) : rec (t, b) m = rb b (t - m) := by
  unfold rec rb
  dsimp only
  congr 1
  by_cases h : m ≤ t ∧ t - m ≤ 63
  · rw [decide_eq_true h, decide_eq_true (by omega)]
  · rw [decide_eq_false h, decide_eq_false (by omega)]
theorem nxt_pos (t : Int) (b : Nat) (n : Int) (k : Nat) (hk : 1 ≤ k) : nxt (t, b) n k = rb b (t - (n - (k : Int))) := by
  unfold nxt
  rw [rec_rb, show (k == 0) = false by simp; omega, Bool.false_or]
theorem nb_64 (f : Nat → Bool) (k : Nat) (hk : k ≤ 64) : nb f k < 18446744073709551616 := Nat.lt_of_lt_of_le (nb_lt f k) (show 2 ^ k ≤ 2 ^ 64 from Nat.pow_le_pow_right (by decide) hk)
theorem nb_yes (f : Nat → Bool) (k : Nat) (h : f k = true) : nb f (k + 1) = nb f k ||| 2 ^ k := by
  rw [show nb f (k + 1) = nb f k ||| (if f k = true then 2 ^ k else 0) from rfl, if_pos h]
theorem nb_not (f : Nat → Bool) (k : Nat) (h : f k = false) : nb f (k + 1) = nb f k := by
  rw [show nb f (k + 1) = nb f k ||| (if f k = true then 2 ^ k else 0) from rfl, if_neg (by rw [h]; decide), Nat.or_zero]
set_option maxRecDepth 100000 in
set_option maxHeartbeats 4000000 in
theorem raccept_any (t : Int) (b : Nat) (n : Int) (W : World) (hb : b < 18446744073709551616) (hn : I64 n) :
    Calls Try.prog 10 #[.agg #[.int .i64 t, .int .u64 (b : Int)], .int .i64 n] W (OutA W (acc (t, b) n)) := by
  have KC := Lib.hid (fun W => rcheck_any t b W hb)
  have KB := Lib.hid (fun k W => rbit_any t b k W hb)
  unfold OutI at KC
  unfold OutB at KB
  by_cases hv : Val (t, b)
  rotate_left
  · have R := Lib.hid (acc_out (w := (t, b)) (n := n) fun h => hv h.1)
    have C := Lib.hid (show chk (t, b) = 2 from if_neg hv)
    rw [C.out] at KC
    clear hv KB
    go_enter Try.func10, Try.ntmps10
    go_wp2_with fail
    refine (KC.out _).mono ?_
    rintro _ w1 ⟨rfl, hb1⟩
    have hbx : Below W.heap.size W w1 := ((alloc_below W (bxW t b)).alloc (by simp) (bxW 0 0)).trans (hb1.mono (by simp; omega))
    have X1 := Lib.hid (show w1.heap[W.heap.size]? = some (bxW t b) from (hb1.block W.heap.size (by simp; omega)).trans (blk_alloc (blk_new W _) _))
    have Y1 := Lib.hid (show w1.heap[W.heap.size + 1]? = some (bxW 0 0) from (hb1.block (W.heap.size + 1) (by simp)).trans (two_new W _ _))
    have hz1 : W.heap.size + 1 < w1.heap.size := by have := hb1.size; simp at this; omega
    have B1 := Lib.hid hbx
    clear hb1 KC hbx
    have e0 := blk_cell X1.out 0 (v := .int .i64 t) rfl
    have e1 := blk_cell X1.out 1 (v := .int .u64 (b : Int)) rfl
    have y0 := blk_cell Y1.out 0 (v := .int .i64 0) rfl
    have y1 := blk_cell Y1.out 1 (v := .int .u64 0) rfl
    have f0 := blk_fr Y1.out 0
    have f1 := blk_fr Y1.out 1
    obtain ⟨V, hV⟩ : ∃ V, V = put2 w1 (W.heap.size + 1) t b := ⟨_, rfl⟩
    have HV := hV ▸ put2_blk Y1.out t b
    have BV := Lib.hid (show Below W.heap.size W V from hV ▸ put2_below B1.out (by omega) t b)
    unfold put2 at hV
    go_wp2_with fail
    rw [← hV]
    have c0 := blk_cell HV 0 (v := .int .i64 t) rfl
    have c1 := blk_cell HV 1 (v := .int .u64 (b : Int)) rfl
    refine bodyPost_ret (v := .tuple #[wiV (t, b), .bool false]) (by simp [results, Try.results10, go_sem, c0, c1]) rfl ⟨by rw [R.out], BV.out⟩
  have C := Lib.hid (show chk (t, b) = 0 from if_pos hv)
  rw [C.out] at KC
  clear C
  by_cases h0 : n < 0
  · have R := Lib.hid (acc_out (w := (t, b)) (n := n) fun h => by have := h.2; unfold In at this; omega)
    have d0 := dt h0
    clear hv KB
    go_enter Try.func10, Try.ntmps10
    go_wp2_with fail
    refine (KC.out _).mono ?_
    rintro _ w1 ⟨rfl, hb1⟩
    have hbx : Below W.heap.size W w1 := ((alloc_below W (bxW t b)).alloc (by simp) (bxW 0 0)).trans (hb1.mono (by simp; omega))
    have X1 := Lib.hid (show w1.heap[W.heap.size]? = some (bxW t b) from (hb1.block W.heap.size (by simp; omega)).trans (blk_alloc (blk_new W _) _))
    have Y1 := Lib.hid (show w1.heap[W.heap.size + 1]? = some (bxW 0 0) from (hb1.block (W.heap.size + 1) (by simp)).trans (two_new W _ _))
    have hz1 : W.heap.size + 1 < w1.heap.size := by have := hb1.size; simp at this; omega
    have B1 := Lib.hid hbx
    clear hb1 KC hbx
    have e0 := blk_cell X1.out 0 (v := .int .i64 t) rfl
    have e1 := blk_cell X1.out 1 (v := .int .u64 (b : Int)) rfl
    have y0 := blk_cell Y1.out 0 (v := .int .i64 0) rfl
    have y1 := blk_cell Y1.out 1 (v := .int .u64 0) rfl
    have f0 := blk_fr Y1.out 0
    have f1 := blk_fr Y1.out 1
    obtain ⟨V, hV⟩ : ∃ V, V = put2 w1 (W.heap.size + 1) t b := ⟨_, rfl⟩
    have HV := hV ▸ put2_blk Y1.out t b
    have BV := Lib.hid (show Below W.heap.size W V from hV ▸ put2_below B1.out (by omega) t b)
    unfold put2 at hV
    go_wp2_with fail
    rw [← hV]
    have c0 := blk_cell HV 0 (v := .int .i64 t) rfl
    have c1 := blk_cell HV 1 (v := .int .u64 (b : Int)) rfl
    refine bodyPost_ret (v := .tuple #[wiV (t, b), .bool false]) (by simp [results, Try.results10, go_sem, c0, c1]) rfl ⟨by rw [R.out], BV.out⟩
  have d0 := df h0
  by_cases h1 : 1099511627776 < n
  · have R := Lib.hid (acc_out (w := (t, b)) (n := n) fun h => by have := h.2; unfold In at this; omega)
    have d1 := dt h1
    clear hv KB
    go_enter Try.func10, Try.ntmps10
    go_wp2_with fail
    refine (KC.out _).mono ?_
    rintro _ w1 ⟨rfl, hb1⟩
    have hbx : Below W.heap.size W w1 := ((alloc_below W (bxW t b)).alloc (by simp) (bxW 0 0)).trans (hb1.mono (by simp; omega))
    have X1 := Lib.hid (show w1.heap[W.heap.size]? = some (bxW t b) from (hb1.block W.heap.size (by simp; omega)).trans (blk_alloc (blk_new W _) _))
    have Y1 := Lib.hid (show w1.heap[W.heap.size + 1]? = some (bxW 0 0) from (hb1.block (W.heap.size + 1) (by simp)).trans (two_new W _ _))
    have hz1 : W.heap.size + 1 < w1.heap.size := by have := hb1.size; simp at this; omega
    have B1 := Lib.hid hbx
    clear hb1 KC hbx
    have e0 := blk_cell X1.out 0 (v := .int .i64 t) rfl
    have e1 := blk_cell X1.out 1 (v := .int .u64 (b : Int)) rfl
    have y0 := blk_cell Y1.out 0 (v := .int .i64 0) rfl
    have y1 := blk_cell Y1.out 1 (v := .int .u64 0) rfl
    have f0 := blk_fr Y1.out 0
    have f1 := blk_fr Y1.out 1
    obtain ⟨V, hV⟩ : ∃ V, V = put2 w1 (W.heap.size + 1) t b := ⟨_, rfl⟩
    have HV := hV ▸ put2_blk Y1.out t b
    have BV := Lib.hid (show Below W.heap.size W V from hV ▸ put2_below B1.out (by omega) t b)
    unfold put2 at hV
    go_wp2_with fail
    rw [← hV]
    have c0 := blk_cell HV 0 (v := .int .i64 t) rfl
    have c1 := blk_cell HV 1 (v := .int .u64 (b : Int)) rfl
    refine bodyPost_ret (v := .tuple #[wiV (t, b), .bool false]) (by simp [results, Try.results10, go_sem, c0, c1]) rfl ⟨by rw [R.out], BV.out⟩
  have d1 := df h1
  have hi : In n := by unfold In; omega
  have ht : -1 ≤ t ∧ t ≤ 1099511627776 := by unfold Val at hv; dsimp only at hv; omega
  by_cases h2 : n ≤ t
  · have d2 := dt h2
    have s2 : IntKind.i64.wrap (t - n) = t - n := by rw [IntKind.wrap_i64]; omega
    by_cases h3 : 63 < t - n
    · have R := Lib.hid (acc_old (w := (t, b)) (n := n) h2 fun h => by have := h.1; dsimp only at this; omega)
      have d3 := dt h3
      clear hv KB
      go_enter Try.func10, Try.ntmps10
      go_wp2_with fail
      refine (KC.out _).mono ?_
      rintro _ w1 ⟨rfl, hb1⟩
      have hbx : Below W.heap.size W w1 := ((alloc_below W (bxW t b)).alloc (by simp) (bxW 0 0)).trans (hb1.mono (by simp; omega))
      have X1 := Lib.hid (show w1.heap[W.heap.size]? = some (bxW t b) from (hb1.block W.heap.size (by simp; omega)).trans (blk_alloc (blk_new W _) _))
      have Y1 := Lib.hid (show w1.heap[W.heap.size + 1]? = some (bxW 0 0) from (hb1.block (W.heap.size + 1) (by simp)).trans (two_new W _ _))
      have hz1 : W.heap.size + 1 < w1.heap.size := by have := hb1.size; simp at this; omega
      have B1 := Lib.hid hbx
      clear hb1 KC hbx
      have e0 := blk_cell X1.out 0 (v := .int .i64 t) rfl
      have e1 := blk_cell X1.out 1 (v := .int .u64 (b : Int)) rfl
      have y0 := blk_cell Y1.out 0 (v := .int .i64 0) rfl
      have y1 := blk_cell Y1.out 1 (v := .int .u64 0) rfl
      have f0 := blk_fr Y1.out 0
      have f1 := blk_fr Y1.out 1
      obtain ⟨V, hV⟩ : ∃ V, V = put2 w1 (W.heap.size + 1) t b := ⟨_, rfl⟩
      have HV := hV ▸ put2_blk Y1.out t b
      have BV := Lib.hid (show Below W.heap.size W V from hV ▸ put2_below B1.out (by omega) t b)
      unfold put2 at hV
      go_wp2_with fail
      rw [← hV]
      have c0 := blk_cell HV 0 (v := .int .i64 t) rfl
      have c1 := blk_cell HV 1 (v := .int .u64 (b : Int)) rfl
      refine bodyPost_ret (v := .tuple #[wiV (t, b), .bool false]) (by simp [results, Try.results10, go_sem, c0, c1]) rfl ⟨by rw [R.out], BV.out⟩
    have d3 := df h3
    obtain ⟨k, hk⟩ : ∃ k : Nat, t - n = (k : Int) := ⟨(t - n).toNat, by omega⟩
    have hk64 : k < 64 := by omega
    have K0 := KB.out (k : Int)
    rw [rb_in b k hk64] at K0
    by_cases h4 : b.testBit k = true
    · have R := Lib.hid (acc_old (w := (t, b)) (n := n) h2 fun h => by have := h.2; dsimp only at this; rw [hk, Int.toNat_natCast, h4] at this; cases this)
      rw [h4] at K0
      have K0 := Lib.hid K0
      rw [hk] at s2 d3
      clear hv KB h4
      go_enter Try.func10, Try.ntmps10
      go_wp2_with fail
      refine (KC.out _).mono ?_
      rintro _ w1 ⟨rfl, hb1⟩
      have hbx : Below W.heap.size W w1 := ((alloc_below W (bxW t b)).alloc (by simp) (bxW 0 0)).trans (hb1.mono (by simp; omega))
      have X1 := Lib.hid (show w1.heap[W.heap.size]? = some (bxW t b) from (hb1.block W.heap.size (by simp; omega)).trans (blk_alloc (blk_new W _) _))
      have Y1 := Lib.hid (show w1.heap[W.heap.size + 1]? = some (bxW 0 0) from (hb1.block (W.heap.size + 1) (by simp)).trans (two_new W _ _))
      have hz1 : W.heap.size + 1 < w1.heap.size := by have := hb1.size; simp at this; omega
      have B1 := Lib.hid hbx
      clear hb1 KC hbx
      have e0 := blk_cell X1.out 0 (v := .int .i64 t) rfl
      have e1 := blk_cell X1.out 1 (v := .int .u64 (b : Int)) rfl
      go_wp2_with fail
      refine (K0.out _).mono ?_
      rintro _ w2 ⟨rfl, hb2⟩
      have X2 := Lib.hid (blk_below X1.out hb2 (by omega))
      have Y2 := Lib.hid (blk_below Y1.out hb2 hz1)
      have B2 := Lib.hid (B1.out.trans (hb2.mono B1.out.size))
      clear hb2 e0 e1 K0
      have e0 := blk_cell X2.out 0 (v := .int .i64 t) rfl
      have e1 := blk_cell X2.out 1 (v := .int .u64 (b : Int)) rfl
      have y0 := blk_cell Y2.out 0 (v := .int .i64 0) rfl
      have y1 := blk_cell Y2.out 1 (v := .int .u64 0) rfl
      have f0 := blk_fr Y2.out 0
      have f1 := blk_fr Y2.out 1
      obtain ⟨V, hV⟩ : ∃ V, V = put2 w2 (W.heap.size + 1) t b := ⟨_, rfl⟩
      have HV := hV ▸ put2_blk Y2.out t b
      have BV := Lib.hid (show Below W.heap.size W V from hV ▸ put2_below B2.out (by omega) t b)
      unfold put2 at hV
      go_wp2_with fail
      rw [← hV]
      have c0 := blk_cell HV 0 (v := .int .i64 t) rfl
      have c1 := blk_cell HV 1 (v := .int .u64 (b : Int)) rfl
      refine bodyPost_ret (v := .tuple #[wiV (t, b), .bool false]) (by simp [results, Try.results10, go_sem, c0, c1]) rfl ⟨by rw [R.out], BV.out⟩
    have R := Lib.hid (acc_low (w := (t, b)) hv hi h2 (by dsimp only; omega) (by dsimp only; rw [hk, Int.toNat_natCast]; simpa using h4))
    have O := Lib.hid (or_pow b k hb hk64)
    rw [show b.testBit k = false by simpa using h4] at K0
    have K0 := Lib.hid K0
    dsimp only at R
    rw [hk, Int.toNat_natCast] at R
    rw [hk] at s2 d3
    clear hv KB h4
    go_enter Try.func10, Try.ntmps10
    go_wp2_with fail
    refine (KC.out _).mono ?_
    rintro _ w1 ⟨rfl, hb1⟩
    have hbx : Below W.heap.size W w1 := ((alloc_below W (bxW t b)).alloc (by simp) (bxW 0 0)).trans (hb1.mono (by simp; omega))
    have X1 := Lib.hid (show w1.heap[W.heap.size]? = some (bxW t b) from (hb1.block W.heap.size (by simp; omega)).trans (blk_alloc (blk_new W _) _))
    have Y1 := Lib.hid (show w1.heap[W.heap.size + 1]? = some (bxW 0 0) from (hb1.block (W.heap.size + 1) (by simp)).trans (two_new W _ _))
    have hz1 : W.heap.size + 1 < w1.heap.size := by have := hb1.size; simp at this; omega
    have B1 := Lib.hid hbx
    clear hb1 KC hbx
    have e0 := blk_cell X1.out 0 (v := .int .i64 t) rfl
    have e1 := blk_cell X1.out 1 (v := .int .u64 (b : Int)) rfl
    go_wp2_with fail
    refine (K0.out _).mono ?_
    rintro _ w2 ⟨rfl, hb2⟩
    have X2 := Lib.hid (blk_below X1.out hb2 (by omega))
    have Y2 := Lib.hid (blk_below Y1.out hb2 hz1)
    have B2 := Lib.hid (B1.out.trans (hb2.mono B1.out.size))
    clear hb2 e0 e1 K0
    have e0 := blk_cell X2.out 0 (v := .int .i64 t) rfl
    have e1 := blk_cell X2.out 1 (v := .int .u64 (b : Int)) rfl
    have y0 := blk_cell Y2.out 0 (v := .int .i64 0) rfl
    have y1 := blk_cell Y2.out 1 (v := .int .u64 0) rfl
    have f0 := blk_fr Y2.out 0
    have f1 := blk_fr Y2.out 1
    go_wp2_with fail
    go_region
    rw [O.out]
    obtain ⟨V, hV⟩ : ∃ V, V = put2 w2 (W.heap.size + 1) t (b ||| 2 ^ k) := ⟨_, rfl⟩
    have HV := hV ▸ put2_blk Y2.out t (b ||| 2 ^ k)
    have BV := Lib.hid (show Below W.heap.size W V from hV ▸ put2_below B2.out (by omega) t (b ||| 2 ^ k))
    unfold put2 at hV
    rw [← hV]
    have c0 : V.drew.cell? ⟨W.heap.size + 1, 0, none⟩ = some (.int .i64 t) := blk_cell (w := V.drew) HV 0 rfl
    have c1 : V.drew.cell? ⟨W.heap.size + 1, 1, none⟩ = some (.int .u64 ((b ||| 2 ^ k : Nat) : Int)) := blk_cell (w := V.drew) HV 1 rfl
    generalize b ||| 2 ^ k = x at *
    clear hV O
    go_wp2_with fail
    refine bodyPost_ret (v := .tuple #[wiV (t, x), .bool true]) (by simp [results, Try.results10, go_sem, c0, c1]) rfl ⟨by rw [R.out], below_drewN BV.out 1⟩
  have d2 := df h2
  have R := Lib.hid (acc_high (w := (t, b)) hv hi (by dsimp only; omega))
  have FK := Lib.hid (fun (k : Nat) (h : 1 ≤ k) => nxt_pos t b n k h)
  have F0 := Lib.hid (show nb (nxt (t, b) n) 1 = 1 from nb_one t b n)
  have NL := Lib.hid (fun k hk => nb_64 (nxt (t, b) n) k hk)
  have NY := Lib.hid (fun k h => nb_yes (nxt (t, b) n) k h)
  have NN := Lib.hid (fun k h => nb_not (nxt (t, b) n) k h)
  have HB := Lib.hid (show t < 0 → b = 0 from fun h => by unfold Val at hv; dsimp only at hv; omega)
  clear hv
  generalize nxt (t, b) n = f at *
  go_enter Try.func10, Try.ntmps10
  go_wp2_with fail
  refine (KC.out _).mono ?_
  rintro _ w1 ⟨rfl, hb1⟩
  have hbx : Below W.heap.size W w1 := ((alloc_below W (bxW t b)).alloc (by simp) (bxW 0 0)).trans (hb1.mono (by simp; omega))
  have X1 := Lib.hid (show w1.heap[W.heap.size]? = some (bxW t b) from (hb1.block W.heap.size (by simp; omega)).trans (blk_alloc (blk_new W _) _))
  have Y1 := Lib.hid (show w1.heap[W.heap.size + 1]? = some (bxW 0 0) from (hb1.block (W.heap.size + 1) (by simp)).trans (two_new W _ _))
  have hz1 : W.heap.size + 1 < w1.heap.size := by have := hb1.size; simp at this; omega
  have B1 := Lib.hid hbx
  clear hb1 KC hbx
  have e0 := blk_cell X1.out 0 (v := .int .i64 t) rfl
  go_wp2_with fail
  clear e0
  go_loopw [7] (fun vk wr => ∃ k : Nat, vk = .int .i64 k ∧ 1 ≤ k ∧ k ≤ 64 ∧ Hid (wr.heap[W.heap.size]? = some (bxW t b) ∧ wr.heap[W.heap.size + 1]? = some (bxW 0 0) ∧ wr.heap[w1.heap.size]? = some (bxW n (nb f k))) ∧ w1.heap.size < wr.heap.size ∧ Hid (Below W.heap.size W wr)) (fun vk _ => 64 - (intOf vk).toNat)
  case atStart => exact ⟨1, rfl, by omega, by omega, Lib.hid ⟨blk_alloc X1.out _, blk_alloc Y1.out _, by rw [F0.out]; exact blk_new w1 _⟩, by simp, Lib.hid (B1.out.alloc B1.out.size _)⟩
  case round =>
    obtain ⟨k, rfl, hk1, hk, HX, hz, B⟩ := hrel
    have e0 := blk_cell HX.out.1 0 (v := .int .i64 t) rfl
    have e1 := blk_cell HX.out.1 1 (v := .int .u64 (b : Int)) rfl
    have g0 := blk_cell HX.out.2.2 0 (v := .int .i64 n) rfl
    have g1 := blk_cell HX.out.2.2 1 (v := .int .u64 (nb f k : Int)) rfl
    by_cases hlt : k < 64
    · have d9 : decide ((k : Int) ≤ 63) = true := dt (by omega)
      have NK := NL.out k hk
      by_cases h5 : 0 ≤ t
      · have d5 := dt h5
        have s1 : IntKind.i64.wrap (n - (k : Int)) = n - (k : Int) := by rw [IntKind.wrap_i64]; omega
        have s2 : IntKind.i64.wrap (t - (n - (k : Int))) = t - (n - (k : Int)) := by rw [IntKind.wrap_i64]; omega
        have K0 := KB.out (t - (n - (k : Int)))
        rw [← FK.out k hk1] at K0
        by_cases hf : f k = true
        · rw [hf] at K0
          have K0 := Lib.hid K0
          have N := Lib.hid (NY.out k hf)
          have O := Lib.hid (or_pow (nb f k) k NK hlt)
          clear KB FK F0 NL NY NN R hf
          go_wp2_with fail
          refine (K0.out _).mono ?_
          rintro _ w2 ⟨rfl, hb2⟩
          have X2 := Lib.hid (blk_below HX.out.1 hb2 (by omega))
          have Y2 := Lib.hid (blk_below HX.out.2.1 hb2 (by omega))
          have G2 := Lib.hid (blk_below HX.out.2.2 hb2 hz)
          have B2 := Lib.hid (B.out.trans (hb2.mono B.out.size))
          have hz2 := Nat.lt_of_lt_of_le hz hb2.size
          clear hb2 e0 e1 g0 g1 K0 HX B
          have g0 := blk_cell G2.out 0 (v := .int .i64 n) rfl
          have g1 := blk_cell G2.out 1 (v := .int .u64 (nb f k : Int)) rfl
          have f1 := blk_fr G2.out 1
          go_wp2_with fail
          go_region
          rw [O.out, ← N.out]
          obtain ⟨V, hV⟩ : ∃ V, V = w2.setCell ⟨w1.heap.size, 1, none⟩ (.int .u64 (nb f (k + 1) : Int)) := ⟨_, rfl⟩
          have GV := Lib.hid (hV ▸ put1_blk G2.out (nb f (k + 1)))
          have XV := Lib.hid (show V.heap[W.heap.size]? = some (bxW t b) from hV ▸ blk_other X2.out (by simp; omega) _)
          have YV := Lib.hid (show V.heap[W.heap.size + 1]? = some (bxW 0 0) from hV ▸ blk_other Y2.out (by simp; omega) _)
          have BV := Lib.hid (show Below W.heap.size W V from hV ▸ B2.out.setCell (by simp; omega) _)
          have zV : w1.heap.size < V.heap.size := by rw [hV]; simpa using hz2
          rw [← hV]
          clear hV N O g0 g1 f1
          go_wp2_with fail
          go_round
          case rel => exact ⟨k + 1, by go_num, by omega, hlt, Lib.hid ⟨XV.out, YV.out, GV.out⟩, zV, Lib.hid (below_drewN BV.out 1)⟩
          case measure => simp [intOf]; omega
        · have hf : f k = false := by simpa using hf
          rw [hf] at K0
          have K0 := Lib.hid K0
          have N := Lib.hid (NN.out k hf)
          clear KB FK F0 NL NY NN R hf
          go_wp2_with fail
          refine (K0.out _).mono ?_
          rintro _ w2 ⟨rfl, hb2⟩
          have X2 := Lib.hid (blk_below HX.out.1 hb2 (by omega))
          have Y2 := Lib.hid (blk_below HX.out.2.1 hb2 (by omega))
          have G2 := Lib.hid (blk_below HX.out.2.2 hb2 hz)
          have B2 := Lib.hid (B.out.trans (hb2.mono B.out.size))
          have hz2 := Nat.lt_of_lt_of_le hz hb2.size
          clear hb2 e0 e1 g0 g1 K0 HX B
          go_wp2_with fail
          go_round
          case rel => exact ⟨k + 1, by go_num, by omega, hlt, Lib.hid ⟨X2.out, Y2.out, by rw [N.out]; exact G2.out⟩, hz2, B2⟩
          case measure => simp [intOf]; omega
      · have d5 := df h5
        have N := Lib.hid (NN.out k (by rw [FK.out k hk1, HB.out (by omega)]; unfold rb; simp))
        clear KB FK F0 NL NY NN R
        go_wp2_with fail
        go_round
        case rel => exact ⟨k + 1, by go_num, by omega, hlt, Lib.hid ⟨HX.out.1, HX.out.2.1, by rw [N.out]; exact HX.out.2.2⟩, hz, B⟩
        case measure => simp [intOf]; omega
    · obtain rfl : k = 64 := by omega
      generalize nb f 64 = x at *
      have y0 := blk_cell HX.out.2.1 0 (v := .int .i64 0) rfl
      have y1 := blk_cell HX.out.2.1 1 (v := .int .u64 0) rfl
      have f0 := blk_fr HX.out.2.1 0
      have f1 := blk_fr HX.out.2.1 1
      obtain ⟨V, hV⟩ : ∃ V, V = put2 wr (W.heap.size + 1) n x := ⟨_, rfl⟩
      have HV := hV ▸ put2_blk HX.out.2.1 n x
      have BV := Lib.hid (show Below W.heap.size W V from hV ▸ put2_below B.out (by omega) n x)
      unfold put2 at hV
      clear KB FK F0 NL NY NN HX B
      go_wp2_with fail
      rw [← hV]
      have c0 := blk_cell HV 0 (v := .int .i64 n) rfl
      have c1 := blk_cell HV 1 (v := .int .u64 (x : Int)) rfl
      refine bodyPost_ret (v := .tuple #[wiV (n, x), .bool true]) (by simp [results, Try.results10, go_sem, c0, c1]) rfl ⟨by rw [R.out], BV.out⟩
end Go.Proofs.Yticlcjabhemdiaa.Rpl
