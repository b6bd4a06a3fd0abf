/- Package replay: Open. -/
import Derived.Test.YticlcjabhemdiaaYX4
set_option linter.unusedVariables false
namespace Go.Proofs.Yticlcjabhemdiaa.Rpl
open Go.RowKit

set_option maxRecDepth 100000 in
set_option maxHeartbeats 4000000 in
theorem popen_any (k : Nat) (node t : Int) (b : Nat) (s : ByteArray) (W : World) (hk : k < 18446744073709551616) (h1 : I64 node) (hb : b < 18446744073709551616) (hs : s.size ≤ 20000) :
    Calls Try.prog 16 #[.int .u64 (k : Int), .int .i64 node, .agg #[.int .i64 t, .int .u64 (b : Int)], .string s] W (OutOp W (op k node (t, b) s)) := by
  have KO := Lib.hid (fun W => Digest.open_any k s W hk (by omega))
  unfold Digest.OutO at KO
  have hL := opn_len k s.data.toList
  by_cases h2 : (Digest.opn k s.data.toList).2 ≠ 0
  · have R := Lib.hid (show op k node (t, b) s = (⟨#[]⟩, (t, b), (Digest.opn k s.data.toList).2) from if_pos h2)
    generalize Digest.opn k s.data.toList = o at *
    obtain ⟨L, e⟩ := o
    simp only at h2 R KO
    have d2 : (e != 0) = true := by simpa using h2
    clear h2 hL
    go_enter Try.func16, Try.ntmps16
    go_wp2_with fail
    refine (KO.out _).mono ?_
    rintro _ w1 ⟨rfl, hb1⟩
    have hbx : Below W.heap.size W w1 := ((alloc_below W (bxW t b)).alloc (by simp) (bxW 0 0)).trans (hb1.mono (by simp; omega))
    have T1 := Lib.hid (show Two w1 W.heap.size t b from ⟨(hb1.block W.heap.size (by simp; omega)).trans (blk_alloc (blk_new W _) _), (hb1.block (W.heap.size + 1) (by simp)).trans (two_new W _ _)⟩)
    have hz1 : W.heap.size + 1 < w1.heap.size := by have := hb1.size; simp at this; omega
    have B1 := Lib.hid hbx
    clear hb1 KO hbx
    have x0 := blk_cell T1.out.1 0 (v := .int .i64 t) rfl
    have x1 := blk_cell T1.out.1 1 (v := .int .u64 (b : Int)) rfl
    have y0 := blk_cell T1.out.2 0 (v := .int .i64 0) rfl
    have y1 := blk_cell T1.out.2 1 (v := .int .u64 0) rfl
    have f0 := blk_fr T1.out.2 0
    have f1 := blk_fr T1.out.2 1
    go_wp2_with fail
    go_region
    obtain ⟨V, hV⟩ : ∃ V, V = put2 w1 (W.heap.size + 1) t b := ⟨_, rfl⟩
    have HV := hV ▸ put2_blk T1.out.2 t b
    have BV := Lib.hid (show Below W.heap.size W V from hV ▸ put2_below B1.out (by omega) t b)
    unfold put2 at hV
    rw [← hV]
    have c0 : V.drew.cell? ⟨W.heap.size + 1, 0, none⟩ = some (.int .i64 t) := blk_cell (w := V.drew) HV 0 rfl
    have c1 : V.drew.cell? ⟨W.heap.size + 1, 1, none⟩ = some (.int .u64 (b : Int)) := blk_cell (w := V.drew) HV 1 rfl
    clear hV
    go_wp2_with fail
    refine bodyPost_ret (v := .tuple #[.string ⟨#[]⟩, wiV (t, b), .int .i64 e]) (by simp [results, Try.results16, go_sem, c0, c1]) rfl (outOp R.out (below_drewN BV.out 1))
  have R0 : op k node (t, b) s = _ := if_neg h2
  generalize Digest.opn k s.data.toList = o at *
  obtain ⟨L, e⟩ := o
  simp only at h2 R0 KO hL
  obtain rfl : e = 0 := by omega
  have hp : (Digest.bs L).size ≤ 100000 := by rw [Digest.bs_size]; have : s.data.toList.length = s.size := Array.length_toList; omega
  clear h2 hL hs
  generalize Digest.bs L = p at *
  have KR := Lib.hid (fun W => pread_any p W hp)
  unfold OutRd at KR
  generalize rdP p = q at *
  obtain ⟨q1, q2, q3, e⟩ := q
  simp only at R0 KR
  by_cases h3 : e ≠ 0
  · have R := Lib.hid (R0.trans (if_pos h3))
    have d3 : (e != 0) = true := by simpa using h3
    clear R0 h3
    go_enter Try.func16, Try.ntmps16
    go_wp2_with fail
    refine (KO.out _).mono ?_
    rintro _ w1 ⟨rfl, hb1⟩
    have hbx : Below W.heap.size W w1 := ((alloc_below W (bxW t b)).alloc (by simp) (bxW 0 0)).trans (hb1.mono (by simp; omega))
    have T1 := Lib.hid (show Two w1 W.heap.size t b from ⟨(hb1.block W.heap.size (by simp; omega)).trans (blk_alloc (blk_new W _) _), (hb1.block (W.heap.size + 1) (by simp)).trans (two_new W _ _)⟩)
    have hz1 : W.heap.size + 1 < w1.heap.size := by have := hb1.size; simp at this; omega
    have B1 := Lib.hid hbx
    clear hb1 KO hbx
    go_wp2_with fail
    refine (KR.out _).mono ?_
    rintro _ w2 ⟨a, n, tx, rfl, hb2, hx⟩
    have T2 := Lib.hid (T1.out.below hb2 hz1)
    have B2 := Lib.hid (B1.out.trans (hb2.mono B1.out.size))
    have hz2 := Nat.lt_of_lt_of_le hz1 hb2.size
    clear hb2 KR
    clear hx
    go_wp2_with fail
    obtain ⟨w3, hw⟩ : ∃ w3, w3 = w2.alloc (bxH a n) := ⟨_, rfl⟩
    have T3 := Lib.hid (show Two w3 W.heap.size t b by rw [hw]; exact ⟨blk_alloc T2.out.1 _, blk_alloc T2.out.2 _⟩)
    have B3 := Lib.hid (show Below W.heap.size W w3 by rw [hw]; exact B2.out.alloc B2.out.size _)
    rw [← hw]
    clear hw
    have x0 := blk_cell T3.out.1 0 (v := .int .i64 t) rfl
    have x1 := blk_cell T3.out.1 1 (v := .int .u64 (b : Int)) rfl
    have y0 := blk_cell T3.out.2 0 (v := .int .i64 0) rfl
    have y1 := blk_cell T3.out.2 1 (v := .int .u64 0) rfl
    have f0 := blk_fr T3.out.2 0
    have f1 := blk_fr T3.out.2 1
    go_wp2_with fail
    go_region
    obtain ⟨V, hV⟩ : ∃ V, V = put2 w3 (W.heap.size + 1) t b := ⟨_, rfl⟩
    have HV := hV ▸ put2_blk T3.out.2 t b
    have BV := Lib.hid (show Below W.heap.size W V from hV ▸ put2_below B3.out (by omega) t b)
    unfold put2 at hV
    rw [← hV]
    have c0 : V.drew.cell? ⟨W.heap.size + 1, 0, none⟩ = some (.int .i64 t) := blk_cell (w := V.drew) HV 0 rfl
    have c1 : V.drew.cell? ⟨W.heap.size + 1, 1, none⟩ = some (.int .u64 (b : Int)) := blk_cell (w := V.drew) HV 1 rfl
    clear hV
    go_wp2_with fail
    refine bodyPost_ret (v := .tuple #[.string ⟨#[]⟩, wiV (t, b), .int .i64 e]) (by simp [results, Try.results16, go_sem, c0, c1]) rfl (outOp R.out (below_drewN BV.out 1))
  obtain rfl : e = 0 := by omega
  have R1 := Lib.hid (R0.trans (if_neg h3))
  clear R0 h3
  go_enter Try.func16, Try.ntmps16
  go_wp2_with fail
  refine (KO.out _).mono ?_
  rintro _ w1 ⟨rfl, hb1⟩
  have hbx : Below W.heap.size W w1 := ((alloc_below W (bxW t b)).alloc (by simp) (bxW 0 0)).trans (hb1.mono (by simp; omega))
  have T1 := Lib.hid (show Two w1 W.heap.size t b from ⟨(hb1.block W.heap.size (by simp; omega)).trans (blk_alloc (blk_new W _) _), (hb1.block (W.heap.size + 1) (by simp)).trans (two_new W _ _)⟩)
  have hz1 : W.heap.size + 1 < w1.heap.size := by have := hb1.size; simp at this; omega
  have B1 := Lib.hid hbx
  clear hb1 KO hbx
  go_wp2_with fail
  refine (KR.out _).mono ?_
  rintro _ w2 ⟨a, n, tx, rfl, hb2, hx⟩
  have T2 := Lib.hid (T1.out.below hb2 hz1)
  have B2 := Lib.hid (B1.out.trans (hb2.mono B1.out.size))
  have hz2 := Nat.lt_of_lt_of_le hz1 hb2.size
  clear hb2 KR
  obtain ⟨rfl, rfl, rfl⟩ : q1 = a ∧ q2 = n ∧ q3 = tx := by
    have := hx trivial
    simp only [Prod.mk.injEq] at this
    exact ⟨this.1, this.2.1, this.2.2.1⟩
  clear hx
  by_cases c1 : q1 ≠ node
  · have R := Lib.hid (R1.out.trans (if_pos (Or.inl c1)))
    have d4 : (q1 != node) = true := by simpa using c1
    clear R1 c1
    go_wp2_with fail
    obtain ⟨w3, hw⟩ : ∃ w3, w3 = w2.alloc (bxH q1 q2) := ⟨_, rfl⟩
    have T3 := Lib.hid (show Two w3 W.heap.size t b by rw [hw]; exact ⟨blk_alloc T2.out.1 _, blk_alloc T2.out.2 _⟩)
    have B3 := Lib.hid (show Below W.heap.size W w3 by rw [hw]; exact B2.out.alloc B2.out.size _)
    rw [← hw]
    clear hw
    have x0 := blk_cell T3.out.1 0 (v := .int .i64 t) rfl
    have x1 := blk_cell T3.out.1 1 (v := .int .u64 (b : Int)) rfl
    have y0 := blk_cell T3.out.2 0 (v := .int .i64 0) rfl
    have y1 := blk_cell T3.out.2 1 (v := .int .u64 0) rfl
    have f0 := blk_fr T3.out.2 0
    have f1 := blk_fr T3.out.2 1
    go_wp2_with fail
    go_region
    obtain ⟨V, hV⟩ : ∃ V, V = put2 w3 (W.heap.size + 1) t b := ⟨_, rfl⟩
    have HV := hV ▸ put2_blk T3.out.2 t b
    have BV := Lib.hid (show Below W.heap.size W V from hV ▸ put2_below B3.out (by omega) t b)
    unfold put2 at hV
    rw [← hV]
    have c0 : V.drew.cell? ⟨W.heap.size + 1, 0, none⟩ = some (.int .i64 t) := blk_cell (w := V.drew) HV 0 rfl
    have c1 : V.drew.cell? ⟨W.heap.size + 1, 1, none⟩ = some (.int .u64 (b : Int)) := blk_cell (w := V.drew) HV 1 rfl
    clear hV
    go_wp2_with fail
    refine bodyPost_ret (v := .tuple #[.string ⟨#[]⟩, wiV (t, b), .int .i64 2]) (by simp [results, Try.results16, go_sem, c0, c1]) rfl (outOp R.out (below_drewN BV.out 1))
  have d4 : (q1 != node) = false := by simpa using c1
  have KI := Lib.hid (fun W => pin_any q1 q2 W)
  unfold OutB at KI
  by_cases c2 : Hd q1 q2
  rotate_left
  · have R := Lib.hid (R1.out.trans (if_pos (by unfold Hd In at c2; omega)))
    rw [df c2] at KI
    clear R1 c1 c2
    go_wp2_with fail
    refine (KI.out _).mono ?_
    rintro _ w3 ⟨rfl, hb3⟩
    have b3 := box_below hb3
    have T3 := Lib.hid (T2.out.below b3 hz2)
    have B3 := Lib.hid (B2.out.trans (b3.mono B2.out.size))
    have Q3 := (hb3.block w2.heap.size (by simp)).trans (blk_new w2 (bxH q1 q2))
    obtain ⟨m, hm⟩ : ∃ m, m = w2.heap.size := ⟨_, rfl⟩
    rw [← hm] at Q3 ⊢
    have q0 := blk_cell Q3 0 (v := .int .i64 q1) rfl
    have q1' := blk_cell Q3 1 (v := .int .i64 q2) rfl
    clear hm b3 hb3 KI Q3
    have x0 := blk_cell T3.out.1 0 (v := .int .i64 t) rfl
    have x1 := blk_cell T3.out.1 1 (v := .int .u64 (b : Int)) rfl
    have y0 := blk_cell T3.out.2 0 (v := .int .i64 0) rfl
    have y1 := blk_cell T3.out.2 1 (v := .int .u64 0) rfl
    have f0 := blk_fr T3.out.2 0
    have f1 := blk_fr T3.out.2 1
    go_wp2_with fail
    go_region
    obtain ⟨V, hV⟩ : ∃ V, V = put2 w3 (W.heap.size + 1) t b := ⟨_, rfl⟩
    have HV := hV ▸ put2_blk T3.out.2 t b
    have BV := Lib.hid (show Below W.heap.size W V from hV ▸ put2_below B3.out (by omega) t b)
    unfold put2 at hV
    rw [← hV]
    have c0 : V.drew.cell? ⟨W.heap.size + 1, 0, none⟩ = some (.int .i64 t) := blk_cell (w := V.drew) HV 0 rfl
    have c1 : V.drew.cell? ⟨W.heap.size + 1, 1, none⟩ = some (.int .u64 (b : Int)) := blk_cell (w := V.drew) HV 1 rfl
    clear hV
    go_wp2_with fail
    refine bodyPost_ret (v := .tuple #[.string ⟨#[]⟩, wiV (t, b), .int .i64 2]) (by simp [results, Try.results16, go_sem, c0, c1]) rfl (outOp R.out (below_drewN BV.out 1))
  have hn : In q2 := c2.2
  have KA := Lib.hid (fun W => paccept_any t b q2 W hb (by unfold In at hn; unfold I64; omega))
  unfold OutA at KA
  have R2 := Lib.hid (R1.out.trans (if_neg (by unfold Hd In at c2; omega)))
  rw [dt c2] at KI
  clear R1 c1 c2 hn
  generalize acc (t, b) q2 = r at *
  obtain ⟨⟨t1, b1⟩, ok⟩ := r
  simp only at R2 KA
  go_wp2_with fail
  refine (KI.out _).mono ?_
  rintro _ w3 ⟨rfl, hb3⟩
  have b3 := box_below hb3
  have T3 := Lib.hid (T2.out.below b3 hz2)
  have B3 := Lib.hid (B2.out.trans (b3.mono B2.out.size))
  have Q3 := (hb3.block w2.heap.size (by simp)).trans (blk_new w2 (bxH q1 q2))
  obtain ⟨m, hm⟩ : ∃ m, m = w2.heap.size := ⟨_, rfl⟩
  rw [← hm] at Q3 ⊢
  have q0 := blk_cell Q3 0 (v := .int .i64 q1) rfl
  have q1' := blk_cell Q3 1 (v := .int .i64 q2) rfl
  clear hm b3 hb3 KI Q3
  have x0 := blk_cell T3.out.1 0 (v := .int .i64 t) rfl
  have x1 := blk_cell T3.out.1 1 (v := .int .u64 (b : Int)) rfl
  have y0 := blk_cell T3.out.2 0 (v := .int .i64 0) rfl
  have y1 := blk_cell T3.out.2 1 (v := .int .u64 0) rfl
  have f0 := blk_fr T3.out.2 0
  have f1 := blk_fr T3.out.2 1
  go_wp2_with fail
  refine (KA.out _).mono ?_
  rintro _ w4 ⟨rfl, hb4⟩
  have T4 := Lib.hid (T3.out.below hb4 (by have := blk_lt T3.out.2; omega))
  have B4 := Lib.hid (B3.out.trans (hb4.mono B3.out.size))
  clear hb4 KA x0 x1 y0 y1 f0 f1 q0 q1'
  cases ok with
  | false =>
    have R := Lib.hid (R2.out.trans (if_pos rfl))
    clear R2
    go_wp2_with fail
    obtain ⟨w5, hw⟩ : ∃ w5, w5 = w4.alloc (bxW t1 b1) := ⟨_, rfl⟩
    have T5 := Lib.hid (show Two w5 W.heap.size t b by rw [hw]; exact ⟨blk_alloc T4.out.1 _, blk_alloc T4.out.2 _⟩)
    have B5 := Lib.hid (show Below W.heap.size W w5 by rw [hw]; exact B4.out.alloc B4.out.size _)
    rw [← hw]
    clear hw
    have x0 := blk_cell T5.out.1 0 (v := .int .i64 t) rfl
    have x1 := blk_cell T5.out.1 1 (v := .int .u64 (b : Int)) rfl
    have y0 := blk_cell T5.out.2 0 (v := .int .i64 0) rfl
    have y1 := blk_cell T5.out.2 1 (v := .int .u64 0) rfl
    have f0 := blk_fr T5.out.2 0
    have f1 := blk_fr T5.out.2 1
    go_wp2_with fail
    go_region
    obtain ⟨V, hV⟩ : ∃ V, V = put2 w5 (W.heap.size + 1) t b := ⟨_, rfl⟩
    have HV := hV ▸ put2_blk T5.out.2 t b
    have BV := Lib.hid (show Below W.heap.size W V from hV ▸ put2_below B5.out (by omega) t b)
    unfold put2 at hV
    rw [← hV]
    have c0 : V.drew.cell? ⟨W.heap.size + 1, 0, none⟩ = some (.int .i64 t) := blk_cell (w := V.drew) HV 0 rfl
    have c1 : V.drew.cell? ⟨W.heap.size + 1, 1, none⟩ = some (.int .u64 (b : Int)) := blk_cell (w := V.drew) HV 1 rfl
    clear hV
    go_wp2_with fail
    refine bodyPost_ret (v := .tuple #[.string ⟨#[]⟩, wiV (t, b), .int .i64 18]) (by simp [results, Try.results16, go_sem, c0, c1]) rfl (outOp R.out (below_drewN BV.out 1))
  | true =>
    have R := Lib.hid (R2.out.trans (if_neg (by decide)))
    clear R2
    go_wp2_with fail
    obtain ⟨w5, hw⟩ : ∃ w5, w5 = w4.alloc (bxW t1 b1) := ⟨_, rfl⟩
    have T5 := Lib.hid (show Two w5 W.heap.size t b by rw [hw]; exact ⟨blk_alloc T4.out.1 _, blk_alloc T4.out.2 _⟩)
    have B5 := Lib.hid (show Below W.heap.size W w5 by rw [hw]; exact B4.out.alloc B4.out.size _)
    have NB := show w5.heap[w4.heap.size]? = some (bxW t1 b1) by rw [hw]; exact blk_new _ _
    obtain ⟨m4, hm4⟩ : ∃ m4, m4 = w4.heap.size := ⟨_, rfl⟩
    rw [← hm4] at NB ⊢
    rw [← hw]
    clear hw
    have g0 := blk_cell NB 0 (v := .int .i64 t1) rfl
    have g1 := blk_cell NB 1 (v := .int .u64 (b1 : Int)) rfl
    clear hm4 NB
    have x0 := blk_cell T5.out.1 0 (v := .int .i64 t) rfl
    have x1 := blk_cell T5.out.1 1 (v := .int .u64 (b : Int)) rfl
    have y0 := blk_cell T5.out.2 0 (v := .int .i64 0) rfl
    have y1 := blk_cell T5.out.2 1 (v := .int .u64 0) rfl
    have f0 := blk_fr T5.out.2 0
    have f1 := blk_fr T5.out.2 1
    go_wp2_with fail
    go_region
    obtain ⟨V, hV⟩ : ∃ V, V = put2 w5 (W.heap.size + 1) t1 b1 := ⟨_, rfl⟩
    have HV := hV ▸ put2_blk T5.out.2 t1 b1
    have BV := Lib.hid (show Below W.heap.size W V from hV ▸ put2_below B5.out (by omega) t1 b1)
    unfold put2 at hV
    rw [← hV]
    have c0 : V.drew.cell? ⟨W.heap.size + 1, 0, none⟩ = some (.int .i64 t1) := blk_cell (w := V.drew) HV 0 rfl
    have c1 : V.drew.cell? ⟨W.heap.size + 1, 1, none⟩ = some (.int .u64 (b1 : Int)) := blk_cell (w := V.drew) HV 1 rfl
    clear hV
    go_wp2_with fail
    refine bodyPost_ret (v := .tuple #[.string q3, wiV (t1, b1), .int .i64 0]) (by simp [results, Try.results16, go_sem, c0, c1]) rfl (outOp R.out (below_drewN BV.out 1))
end Go.Proofs.Yticlcjabhemdiaa.Rpl
