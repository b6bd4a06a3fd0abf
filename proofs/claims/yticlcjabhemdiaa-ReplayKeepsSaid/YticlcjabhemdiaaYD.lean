/- The reference's Open. -/
import Derived.Test.YticlcjabhemdiaaYC
set_option linter.unusedVariables false
namespace Go.Proofs.Yticlcjabhemdiaa.Rpl
open Go.RowKit

def OutOp (W : World) (r : ByteArray × Wi × Int) (e : Ending) (W' : World) : Prop := e = .returned (.tuple #[.string r.1, wiV r.2.1, .int .i64 r.2.2]) ∧ Below W.heap.size W W'
theorem outOp {W W' : World} {r : ByteArray × Wi × Int} {s : ByteArray} {t n : Int} {b : Nat} (h : r = (s, (t, b), n)) (hb : Below W.heap.size W W') : OutOp W r (.returned (.tuple #[.string s, .agg #[.int .i64 t, .int .u64 (b : Int)], .int .i64 n])) W' := by subst h; exact ⟨rfl, hb⟩
theorem below_gr {B c : Nat} {a w w' : World} (h : Below B a w) (hg : w.grownBy w' (some c)) (hB : B ≤ w.heap.size) (hc : B ≤ c) : Below B a w' :=
  ⟨hg.os.trans h.os, hg.tape.trans h.tape, hg.output.trans h.output, Nat.le_trans h.size hg.size, fun k hk => (hg.block k (Nat.lt_of_lt_of_le hk hB) (fun e => by cases e; omega)).trans (h.block k hk)⟩
theorem rdP_ways {p r1 r2 r3 tx : ByteArray} {v1 e1 v2 e2 e3 : Int} (h1 : Wire.fInt p = (v1, r1, e1)) (h2 : Wire.fInt r1 = (v2, r2, e2)) (h3 : Wire.fText 1000 r2 = (tx, r3, e3)) :
    rdP p = if e1 ≠ 0 then (0, 0, ByteArray.empty, e1) else if e2 ≠ 0 then (0, 0, ByteArray.empty, e2) else if e3 ≠ 0 then (0, 0, ByteArray.empty, e3) else (v1, v2, tx, if r3.size = 0 then 0 else 23) := by
  unfold rdP
  rw [h1]
  dsimp only
  rw [h2]
  dsimp only
  rw [h3]
theorem opn_len (k : Nat) (l : List UInt8) : (Digest.opn k l).1.length ≤ l.length := by
  unfold Digest.opn
  split
  · simp
  · split
    · rw [List.length_take]; omega
    · simp
/-- The two boxes of Open. -/
def Two (w : World) (k : Nat) (t : Int) (b : Nat) : Prop := w.heap[k]? = some (bxW t b) ∧ w.heap[k + 1]? = some (bxW 0 0)
theorem Two.below {w w' : World} {k B : Nat} {t : Int} {b : Nat} (h : Two w k t b) (hb : Below B w w') (hB : k + 1 < B) : Two w' k t b := ⟨blk_below h.1 hb (by omega), blk_below h.2 hb hB⟩
theorem Two.kept {w w' : World} {k c : Nat} {t : Int} {b : Nat} (h : Two w k t b) (hg : w.grownBy w' (some c)) (hc : k + 1 < c) : Two w' k t b := ⟨blk_grown h.1 hg (fun e => by cases e; omega), blk_grown h.2 hg (fun e => by cases e; omega)⟩
set_option maxRecDepth 100000 in
set_option maxHeartbeats 4000000 in
theorem ropen_any (k : Nat) (node t : Int) (b : Nat) (s : ByteArray) (W : World) (hk : k < 18446744073709551616) (h1 : I64 node) (hb : b < 18446744073709551616) (hs : s.size ≤ 20000) :
    Calls Try.prog 17 #[.int .u64 (k : Int), .int .i64 node, .agg #[.int .i64 t, .int .u64 (b : Int)], .string s] W (OutOp W (op k node (t, b) s)) := by
  have KO := Lib.hid (fun W => Digest.ropen_any k s W hk (by omega))
  unfold Digest.OutO at KO
  have hL := opn_len k s.data.toList
  by_cases h2 : (Digest.opn k s.data.toList).2 ≠ 0
  · have R := Lib.hid (show op k node (t, b) s = (⟨#[]⟩, (t, b), (Digest.opn k s.data.toList).2) from if_pos h2)
    generalize Digest.opn k s.data.toList = o at *
    obtain ⟨L, e⟩ := o
    simp only at h2 R KO
    have d2 : (e != 0) = true := by simpa using h2
    clear h2 hL
    go_enter Try.func17, Try.ntmps17
    go_wp2_with fail
    refine (KO.out _).mono ?_
    rintro _ w1 ⟨rfl, hb1⟩
    have hbx : Below W.heap.size W w1 := ((alloc_below W (bxW t b)).alloc (by simp) (bxW 0 0)).trans (hb1.mono (by simp; omega))
    have T1 := Lib.hid (show Two w1 W.heap.size t b from ⟨(hb1.block W.heap.size (by simp; omega)).trans (blk_alloc (blk_new W _) _), (hb1.block (W.heap.size + 1) (by simp)).trans (two_new W _ _)⟩)
    have hz1 : W.heap.size + 1 < w1.heap.size := by have := hb1.size; simp at this; omega
    have B1 := Lib.hid hbx
    clear hb1 KO hbx
    have x0 := blk_cell T1.out.1 0 (v := .int .i64 t) rfl
    have x1 := blk_cell T1.out.1 1 (v := .int .u64 (b : Int)) rfl
    have y0 := blk_cell T1.out.2 0 (v := .int .i64 0) rfl
    have y1 := blk_cell T1.out.2 1 (v := .int .u64 0) rfl
    have f0 := blk_fr T1.out.2 0
    have f1 := blk_fr T1.out.2 1
    go_wp2_with fail
    go_region
    obtain ⟨V, hV⟩ : ∃ V, V = put2 w1 (W.heap.size + 1) t b := ⟨_, rfl⟩
    have HV := hV ▸ put2_blk T1.out.2 t b
    have BV := Lib.hid (show Below W.heap.size W V from hV ▸ put2_below B1.out (by omega) t b)
    unfold put2 at hV
    rw [← hV]
    have c0 : V.drew.cell? ⟨W.heap.size + 1, 0, none⟩ = some (.int .i64 t) := blk_cell (w := V.drew) HV 0 rfl
    have c1 : V.drew.cell? ⟨W.heap.size + 1, 1, none⟩ = some (.int .u64 (b : Int)) := blk_cell (w := V.drew) HV 1 rfl
    clear hV
    go_wp2_with fail
    refine bodyPost_ret (v := .tuple #[.string ⟨#[]⟩, wiV (t, b), .int .i64 e]) (by simp [results, Try.results17, go_sem, c0, c1]) rfl (outOp R.out (below_drewN BV.out 1))
  have R0 : op k node (t, b) s = _ := if_neg h2
  generalize Digest.opn k s.data.toList = o at *
  obtain ⟨L, e⟩ := o
  simp only at h2 R0 KO hL
  obtain rfl : e = 0 := by omega
  have hp : (Digest.bs L).size ≤ 100000 := by rw [Digest.bs_size]; have : s.data.toList.length = s.size := Array.length_toList; omega
  clear h2 hL hs
  generalize Digest.bs L = p at *
  have KN := Lib.hid (fun W => Wire.rnew_any p W)
  have KI := Lib.hid (fun c a w q (hq : p.extract a p.size = q) ha h => hq ▸ Wire.rint_live c p a w hp ha h)
  have KT := Lib.hid (fun c a w q (hq : p.extract a p.size = q) ha h => hq ▸ Wire.rtext_live c p a 1000 w hp (by decide) ha h)
  have Q0 := Lib.hid (show p.extract 0 p.size = p by apply Wire.of_data; simp)
  obtain ⟨v1, r1, e1, hv1⟩ : ∃ v r e, Wire.fInt p = (v, r, e) := ⟨_, _, _, rfl⟩
  obtain ⟨v2, r2, e2, hv2⟩ : ∃ v r e, Wire.fInt r1 = (v, r, e) := ⟨_, _, _, rfl⟩
  obtain ⟨tx, r3, e3, hv3⟩ : ∃ v r e, Wire.fText 1000 r2 = (v, r, e) := ⟨_, _, _, rfl⟩
  have RP := rdP_ways hv1 hv2 hv3
  have S1 := Lib.hid (fun c a w hq ha h => (by have := KI.out c a w p hq ha h; rw [hv1] at this; exact this : Calls Try.prog 35 #[Wire.pt c] w (Wire.OutR c p w (.int .i64 v1) r1 e1)))
  have S2 := Lib.hid (fun c a w hq ha h => (by have := KI.out c a w r1 hq ha h; rw [hv2] at this; exact this : Calls Try.prog 35 #[Wire.pt c] w (Wire.OutR c p w (.int .i64 v2) r2 e2)))
  have S3 := Lib.hid (fun c a w hq ha h => (by have := KT.out c a w r2 hq ha h; rw [hv3] at this; exact this : Calls Try.prog 36 #[Wire.pt c, .int .i64 1000] w (Wire.OutR c p w (.string tx) r3 e3)))
  unfold Wire.OutR at S1 S2 S3
  clear KI KT hv1 hv2 hv3
  by_cases h3 : e1 ≠ 0
  · rw [if_pos h3] at RP
    have R := Lib.hid (show op k node (t, b) s = (⟨#[]⟩, (t, b), e1) from R0.trans (by rw [RP]; exact if_pos h3))
    have d3 : (e1 != 0) = true := by simpa using h3
    clear R0 RP S2 S3
    go_enter Try.func17, Try.ntmps17
    go_wp2_with fail
    refine (KO.out _).mono ?_
    rintro _ w1 ⟨rfl, hb1⟩
    have hbx : Below W.heap.size W w1 := ((alloc_below W (bxW t b)).alloc (by simp) (bxW 0 0)).trans (hb1.mono (by simp; omega))
    have T1 := Lib.hid (show Two w1 W.heap.size t b from ⟨(hb1.block W.heap.size (by simp; omega)).trans (blk_alloc (blk_new W _) _), (hb1.block (W.heap.size + 1) (by simp)).trans (two_new W _ _)⟩)
    have hz1 : W.heap.size + 1 < w1.heap.size := by have := hb1.size; simp at this; omega
    have B1 := Lib.hid hbx
    clear hb1 KO hbx
    go_wp2_with fail
    refine (KN.out _).mono ?_
    rintro _ w2 ⟨rfl, hR, hb2⟩
    have T2 := Lib.hid (T1.out.below hb2 hz1)
    have B2 := Lib.hid (B1.out.trans (hb2.mono B1.out.size))
    obtain ⟨c, hc⟩ : ∃ c, c = w1.heap.size := ⟨_, rfl⟩
    rw [← hc] at hR ⊢
    have H2 := Lib.hid hR
    have hc1 : W.heap.size + 1 < c := by omega
    clear hR hb2 KN hc
    go_wp2_with fail
    refine (S1.out c 0 _ Q0.out (Nat.zero_le _) H2.out).mono ?_
    rintro _ w3 ⟨rfl, ⟨a3, ha3, hR, hs3⟩, hg⟩
    have T3 := Lib.hid (T2.out.kept hg hc1)
    have B3 := Lib.hid (below_gr B2.out hg B2.out.size (by omega))
    have H3 := Lib.hid hR
    have Q3 := Lib.hid hs3
    clear hR hs3 hg
    go_wp2_with fail
    refine (Wire.rint_dead c p a3 e1 _ H3.out h3).mono ?_
    rintro _ _ ⟨rfl, rfl⟩
    go_wp2_with fail
    refine (Wire.rtext_dead c p a3 e1 1000 _ H3.out h3).mono ?_
    rintro _ _ ⟨rfl, rfl⟩
    go_wp2_with fail
    refine (Wire.rend_dead c p a3 e1 _ H3.out h3).mono ?_
    rintro _ _ ⟨rfl, rfl⟩
    go_wp2_with fail
    have x0 := blk_cell T3.out.1 0 (v := .int .i64 t) rfl
    have x1 := blk_cell T3.out.1 1 (v := .int .u64 (b : Int)) rfl
    have y0 := blk_cell T3.out.2 0 (v := .int .i64 0) rfl
    have y1 := blk_cell T3.out.2 1 (v := .int .u64 0) rfl
    have f0 := blk_fr T3.out.2 0
    have f1 := blk_fr T3.out.2 1
    go_wp2_with fail
    go_region_with (go_at_call 37; refine (Wire.rend_dead c p a3 e1 _ (H3.out.drewN 1) h3).mono ?_; rintro _ _ ⟨rfl, rfl⟩)
    all_goals
      obtain ⟨V, hV⟩ : ∃ V, V = put2 (w3.drewN 1) (W.heap.size + 1) t b := ⟨_, rfl⟩
      have HV := hV ▸ put2_blk (show (w3.drewN 1).heap[W.heap.size + 1]? = some (bxW 0 0) from T3.out.2) t b
      have BV := Lib.hid (show Below W.heap.size W V from hV ▸ put2_below (show Below W.heap.size W (w3.drewN 1) from below_drewN B3.out 1) (by omega) t b)
      unfold put2 at hV
      rw [← hV]
      have c0 := blk_cell HV 0 (v := .int .i64 t) rfl
      have c1 := blk_cell HV 1 (v := .int .u64 (b : Int)) rfl
      clear hV
      go_wp2_with fail
      refine bodyPost_ret (v := .tuple #[.string ⟨#[]⟩, wiV (t, b), .int .i64 e1]) (by simp [results, Try.results17, go_sem, c0, c1]) rfl (outOp R.out BV.out)
  obtain rfl : e1 = 0 := by omega
  rw [if_neg h3] at RP
  clear h3
  by_cases h4 : e2 ≠ 0
  · rw [if_pos h4] at RP
    have R := Lib.hid (show op k node (t, b) s = (⟨#[]⟩, (t, b), e2) from R0.trans (by rw [RP]; exact if_pos h4))
    have d4 : (e2 != 0) = true := by simpa using h4
    clear R0 RP S3
    go_enter Try.func17, Try.ntmps17
    go_wp2_with fail
    refine (KO.out _).mono ?_
    rintro _ w1 ⟨rfl, hb1⟩
    have hbx : Below W.heap.size W w1 := ((alloc_below W (bxW t b)).alloc (by simp) (bxW 0 0)).trans (hb1.mono (by simp; omega))
    have T1 := Lib.hid (show Two w1 W.heap.size t b from ⟨(hb1.block W.heap.size (by simp; omega)).trans (blk_alloc (blk_new W _) _), (hb1.block (W.heap.size + 1) (by simp)).trans (two_new W _ _)⟩)
    have hz1 : W.heap.size + 1 < w1.heap.size := by have := hb1.size; simp at this; omega
    have B1 := Lib.hid hbx
    clear hb1 KO hbx
    go_wp2_with fail
    refine (KN.out _).mono ?_
    rintro _ w2 ⟨rfl, hR, hb2⟩
    have T2 := Lib.hid (T1.out.below hb2 hz1)
    have B2 := Lib.hid (B1.out.trans (hb2.mono B1.out.size))
    obtain ⟨c, hc⟩ : ∃ c, c = w1.heap.size := ⟨_, rfl⟩
    rw [← hc] at hR ⊢
    have H2 := Lib.hid hR
    have hc1 : W.heap.size + 1 < c := by omega
    clear hR hb2 KN hc
    go_wp2_with fail
    refine (S1.out c 0 _ Q0.out (Nat.zero_le _) H2.out).mono ?_
    rintro _ w3 ⟨rfl, ⟨a3, ha3, hR, hs3⟩, hg⟩
    have T3 := Lib.hid (T2.out.kept hg hc1)
    have B3 := Lib.hid (below_gr B2.out hg B2.out.size (by omega))
    have H3 := Lib.hid hR
    have Q3 := Lib.hid hs3
    clear hR hs3 hg
    go_wp2_with fail
    refine (S2.out c a3 _ (Q3.out (by trivial)).symm ha3 H3.out).mono ?_
    rintro _ w4 ⟨rfl, ⟨a4, ha4, hR, hs4⟩, hg⟩
    have T4 := Lib.hid (T3.out.kept hg hc1)
    have B4 := Lib.hid (below_gr B3.out hg B3.out.size (by omega))
    have H4 := Lib.hid hR
    have Q4 := Lib.hid hs4
    clear hR hs4 hg
    go_wp2_with fail
    refine (Wire.rtext_dead c p a4 e2 1000 _ H4.out h4).mono ?_
    rintro _ _ ⟨rfl, rfl⟩
    go_wp2_with fail
    refine (Wire.rend_dead c p a4 e2 _ H4.out h4).mono ?_
    rintro _ _ ⟨rfl, rfl⟩
    go_wp2_with fail
    have x0 := blk_cell T4.out.1 0 (v := .int .i64 t) rfl
    have x1 := blk_cell T4.out.1 1 (v := .int .u64 (b : Int)) rfl
    have y0 := blk_cell T4.out.2 0 (v := .int .i64 0) rfl
    have y1 := blk_cell T4.out.2 1 (v := .int .u64 0) rfl
    have f0 := blk_fr T4.out.2 0
    have f1 := blk_fr T4.out.2 1
    go_wp2_with fail
    go_region_with (go_at_call 37; refine (Wire.rend_dead c p a4 e2 _ (H4.out.drewN 1) h4).mono ?_; rintro _ _ ⟨rfl, rfl⟩)
    all_goals
      obtain ⟨V, hV⟩ : ∃ V, V = put2 (w4.drewN 1) (W.heap.size + 1) t b := ⟨_, rfl⟩
      have HV := hV ▸ put2_blk (show (w4.drewN 1).heap[W.heap.size + 1]? = some (bxW 0 0) from T4.out.2) t b
      have BV := Lib.hid (show Below W.heap.size W V from hV ▸ put2_below (show Below W.heap.size W (w4.drewN 1) from below_drewN B4.out 1) (by omega) t b)
      unfold put2 at hV
      rw [← hV]
      have c0 := blk_cell HV 0 (v := .int .i64 t) rfl
      have c1 := blk_cell HV 1 (v := .int .u64 (b : Int)) rfl
      clear hV
      go_wp2_with fail
      refine bodyPost_ret (v := .tuple #[.string ⟨#[]⟩, wiV (t, b), .int .i64 e2]) (by simp [results, Try.results17, go_sem, c0, c1]) rfl (outOp R.out BV.out)
  obtain rfl : e2 = 0 := by omega
  rw [if_neg h4] at RP
  clear h4
  by_cases h5 : e3 ≠ 0
  · rw [if_pos h5] at RP
    have R := Lib.hid (show op k node (t, b) s = (⟨#[]⟩, (t, b), e3) from R0.trans (by rw [RP]; exact if_pos h5))
    have d5 : (e3 != 0) = true := by simpa using h5
    clear R0 RP
    go_enter Try.func17, Try.ntmps17
    go_wp2_with fail
    refine (KO.out _).mono ?_
    rintro _ w1 ⟨rfl, hb1⟩
    have hbx : Below W.heap.size W w1 := ((alloc_below W (bxW t b)).alloc (by simp) (bxW 0 0)).trans (hb1.mono (by simp; omega))
    have T1 := Lib.hid (show Two w1 W.heap.size t b from ⟨(hb1.block W.heap.size (by simp; omega)).trans (blk_alloc (blk_new W _) _), (hb1.block (W.heap.size + 1) (by simp)).trans (two_new W _ _)⟩)
    have hz1 : W.heap.size + 1 < w1.heap.size := by have := hb1.size; simp at this; omega
    have B1 := Lib.hid hbx
    clear hb1 KO hbx
    go_wp2_with fail
    refine (KN.out _).mono ?_
    rintro _ w2 ⟨rfl, hR, hb2⟩
    have T2 := Lib.hid (T1.out.below hb2 hz1)
    have B2 := Lib.hid (B1.out.trans (hb2.mono B1.out.size))
    obtain ⟨c, hc⟩ : ∃ c, c = w1.heap.size := ⟨_, rfl⟩
    rw [← hc] at hR ⊢
    have H2 := Lib.hid hR
    have hc1 : W.heap.size + 1 < c := by omega
    clear hR hb2 KN hc
    go_wp2_with fail
    refine (S1.out c 0 _ Q0.out (Nat.zero_le _) H2.out).mono ?_
    rintro _ w3 ⟨rfl, ⟨a3, ha3, hR, hs3⟩, hg⟩
    have T3 := Lib.hid (T2.out.kept hg hc1)
    have B3 := Lib.hid (below_gr B2.out hg B2.out.size (by omega))
    have H3 := Lib.hid hR
    have Q3 := Lib.hid hs3
    clear hR hs3 hg
    go_wp2_with fail
    refine (S2.out c a3 _ (Q3.out (by trivial)).symm ha3 H3.out).mono ?_
    rintro _ w4 ⟨rfl, ⟨a4, ha4, hR, hs4⟩, hg⟩
    have T4 := Lib.hid (T3.out.kept hg hc1)
    have B4 := Lib.hid (below_gr B3.out hg B3.out.size (by omega))
    have H4 := Lib.hid hR
    have Q4 := Lib.hid hs4
    clear hR hs4 hg
    go_wp2_with fail
    refine (S3.out c a4 _ (Q4.out (by trivial)).symm ha4 H4.out).mono ?_
    rintro _ w5 ⟨rfl, ⟨a5, ha5, hR, hs5⟩, hg⟩
    have T5 := Lib.hid (T4.out.kept hg hc1)
    have B5 := Lib.hid (below_gr B4.out hg B4.out.size (by omega))
    have H5 := Lib.hid hR
    have Q5 := Lib.hid hs5
    clear hR hs5 hg
    go_wp2_with fail
    refine (Wire.rend_dead c p a5 e3 _ H5.out h5).mono ?_
    rintro _ _ ⟨rfl, rfl⟩
    go_wp2_with fail
    have x0 := blk_cell T5.out.1 0 (v := .int .i64 t) rfl
    have x1 := blk_cell T5.out.1 1 (v := .int .u64 (b : Int)) rfl
    have y0 := blk_cell T5.out.2 0 (v := .int .i64 0) rfl
    have y1 := blk_cell T5.out.2 1 (v := .int .u64 0) rfl
    have f0 := blk_fr T5.out.2 0
    have f1 := blk_fr T5.out.2 1
    go_wp2_with fail
    go_region_with (go_at_call 37; refine (Wire.rend_dead c p a5 e3 _ (H5.out.drewN 1) h5).mono ?_; rintro _ _ ⟨rfl, rfl⟩)
    all_goals
      obtain ⟨V, hV⟩ : ∃ V, V = put2 (w5.drewN 1) (W.heap.size + 1) t b := ⟨_, rfl⟩
      have HV := hV ▸ put2_blk (show (w5.drewN 1).heap[W.heap.size + 1]? = some (bxW 0 0) from T5.out.2) t b
      have BV := Lib.hid (show Below W.heap.size W V from hV ▸ put2_below (show Below W.heap.size W (w5.drewN 1) from below_drewN B5.out 1) (by omega) t b)
      unfold put2 at hV
      rw [← hV]
      have c0 := blk_cell HV 0 (v := .int .i64 t) rfl
      have c1 := blk_cell HV 1 (v := .int .u64 (b : Int)) rfl
      clear hV
      go_wp2_with fail
      refine bodyPost_ret (v := .tuple #[.string ⟨#[]⟩, wiV (t, b), .int .i64 e3]) (by simp [results, Try.results17, go_sem, c0, c1]) rfl (outOp R.out BV.out)
  obtain rfl : e3 = 0 := by omega
  rw [if_neg h5] at RP
  clear h5
  by_cases h6 : r3.size = 0
  rotate_left
  · rw [if_neg h6] at RP
    have R := Lib.hid (show op k node (t, b) s = (⟨#[]⟩, (t, b), 23) from R0.trans (by rw [RP]; exact if_pos (show (23 : Int) ≠ 0 by decide)))
    clear R0 RP
    go_enter Try.func17, Try.ntmps17
    go_wp2_with fail
    refine (KO.out _).mono ?_
    rintro _ w1 ⟨rfl, hb1⟩
    have hbx : Below W.heap.size W w1 := ((alloc_below W (bxW t b)).alloc (by simp) (bxW 0 0)).trans (hb1.mono (by simp; omega))
    have T1 := Lib.hid (show Two w1 W.heap.size t b from ⟨(hb1.block W.heap.size (by simp; omega)).trans (blk_alloc (blk_new W _) _), (hb1.block (W.heap.size + 1) (by simp)).trans (two_new W _ _)⟩)
    have hz1 : W.heap.size + 1 < w1.heap.size := by have := hb1.size; simp at this; omega
    have B1 := Lib.hid hbx
    clear hb1 KO hbx
    go_wp2_with fail
    refine (KN.out _).mono ?_
    rintro _ w2 ⟨rfl, hR, hb2⟩
    have T2 := Lib.hid (T1.out.below hb2 hz1)
    have B2 := Lib.hid (B1.out.trans (hb2.mono B1.out.size))
    obtain ⟨c, hc⟩ : ∃ c, c = w1.heap.size := ⟨_, rfl⟩
    rw [← hc] at hR ⊢
    have H2 := Lib.hid hR
    have hc1 : W.heap.size + 1 < c := by omega
    clear hR hb2 KN hc
    go_wp2_with fail
    refine (S1.out c 0 _ Q0.out (Nat.zero_le _) H2.out).mono ?_
    rintro _ w3 ⟨rfl, ⟨a3, ha3, hR, hs3⟩, hg⟩
    have T3 := Lib.hid (T2.out.kept hg hc1)
    have B3 := Lib.hid (below_gr B2.out hg B2.out.size (by omega))
    have H3 := Lib.hid hR
    have Q3 := Lib.hid hs3
    clear hR hs3 hg
    go_wp2_with fail
    refine (S2.out c a3 _ (Q3.out (by trivial)).symm ha3 H3.out).mono ?_
    rintro _ w4 ⟨rfl, ⟨a4, ha4, hR, hs4⟩, hg⟩
    have T4 := Lib.hid (T3.out.kept hg hc1)
    have B4 := Lib.hid (below_gr B3.out hg B3.out.size (by omega))
    have H4 := Lib.hid hR
    have Q4 := Lib.hid hs4
    clear hR hs4 hg
    go_wp2_with fail
    refine (S3.out c a4 _ (Q4.out (by trivial)).symm ha4 H4.out).mono ?_
    rintro _ w5 ⟨rfl, ⟨a5, ha5, hR, hs5⟩, hg⟩
    have T5 := Lib.hid (T4.out.kept hg hc1)
    have B5 := Lib.hid (below_gr B4.out hg B4.out.size (by omega))
    have H5 := Lib.hid hR
    have Q5 := Lib.hid hs5
    clear hR hs5 hg
    go_wp2_with fail
    have Z := show r3.size = p.size - a5 from (congrArg ByteArray.size (Q5.out (by trivial))).trans (Wire.sub_size p a5 ha5)
    have EN := Lib.hid (fun w (h : Wire.RB w c p a5 0) => (by have := Wire.rend_live c p a5 w hp ha5 h; rw [show (if p.size - a5 = 0 then (0 : Int) else 23) = 23 from if_neg (by omega)] at this; exact this : Calls Try.prog 37 #[Wire.pt c] w (fun r w' => r = .returned (.int .i64 23) ∧ Wire.Same w w')))
    refine (EN.out _ H5.out).mono ?_
    rintro _ w6 ⟨rfl, hs⟩
    have T6 := Lib.hid (show Two w6 W.heap.size t b by obtain ⟨m, rfl⟩ := hs; exact T5.out)
    have B6 := Lib.hid (show Below W.heap.size W w6 by obtain ⟨m, rfl⟩ := hs; exact below_drewN B5.out m)
    have H6 := Lib.hid (show Wire.RB w6 c p a5 0 by obtain ⟨m, rfl⟩ := hs; exact H5.out)
    have hz6 : W.heap.size + 1 < w6.heap.size := by have := H6.out.lt; omega
    clear hs
    have x0 := blk_cell T6.out.1 0 (v := .int .i64 t) rfl
    have x1 := blk_cell T6.out.1 1 (v := .int .u64 (b : Int)) rfl
    have y0 := blk_cell T6.out.2 0 (v := .int .i64 0) rfl
    have y1 := blk_cell T6.out.2 1 (v := .int .u64 0) rfl
    have f0 := blk_fr T6.out.2 0
    have f1 := blk_fr T6.out.2 1
    go_wp2_with fail
    go_region_with (go_at_call 37; refine (EN.out _ (H6.out.drewN 1)).mono ?_; rintro _ w7 ⟨rfl, hs⟩; have T7 := Lib.hid (show Two w7 W.heap.size t b by obtain ⟨m, rfl⟩ := hs; exact T6.out); have BW := Lib.hid (show Below W.heap.size W w7 by obtain ⟨m, rfl⟩ := hs; exact below_drewN (below_drewN B6.out 1) m); have x0 := blk_cell T7.out.1 0 (v := .int .i64 t) rfl; have x1 := blk_cell T7.out.1 1 (v := .int .u64 (b : Int)) rfl; have y0 := blk_cell T7.out.2 0 (v := .int .i64 0) rfl; have y1 := blk_cell T7.out.2 1 (v := .int .u64 0) rfl; have f0 := blk_fr T7.out.2 0; have f1 := blk_fr T7.out.2 1)
    all_goals
      obtain ⟨V, hV⟩ : ∃ V, V = put2 w7 (W.heap.size + 1) t b := ⟨_, rfl⟩
      have HV := hV ▸ put2_blk (show w7.heap[W.heap.size + 1]? = some (bxW 0 0) from T7.out.2) t b
      have BV := Lib.hid (show Below W.heap.size W V from hV ▸ put2_below (show Below W.heap.size W w7 from BW.out) (by omega) t b)
      unfold put2 at hV
      rw [← hV]
      have c0 := blk_cell HV 0 (v := .int .i64 t) rfl
      have c1 := blk_cell HV 1 (v := .int .u64 (b : Int)) rfl
      clear hV
      go_wp2_with fail
      refine bodyPost_ret (v := .tuple #[.string ⟨#[]⟩, wiV (t, b), .int .i64 23]) (by simp [results, Try.results17, go_sem, c0, c1]) rfl (outOp R.out BV.out)
  rw [if_pos h6] at RP
  have R1 : op k node (t, b) s = if v1 ≠ node ∨ v1 < 0 ∨ 250 < v1 ∨ v2 < 0 ∨ 1099511627776 < v2 then (⟨#[]⟩, (t, b), 2) else if (acc (t, b) v2).2 = false then (⟨#[]⟩, (t, b), 18) else (tx, (acc (t, b) v2).1, 0) := R0.trans (by rw [RP]; exact if_neg (show ¬ (0 : Int) ≠ 0 by decide))
  clear R0 RP
  by_cases c1 : v1 ≠ node
  · have q1 : (v1 != node) = true := by simpa using c1
    have R := Lib.hid (R1.trans (if_pos (Or.inl c1)))
    clear R1
    go_enter Try.func17, Try.ntmps17
    go_wp2_with fail
    refine (KO.out _).mono ?_
    rintro _ w1 ⟨rfl, hb1⟩
    have hbx : Below W.heap.size W w1 := ((alloc_below W (bxW t b)).alloc (by simp) (bxW 0 0)).trans (hb1.mono (by simp; omega))
    have T1 := Lib.hid (show Two w1 W.heap.size t b from ⟨(hb1.block W.heap.size (by simp; omega)).trans (blk_alloc (blk_new W _) _), (hb1.block (W.heap.size + 1) (by simp)).trans (two_new W _ _)⟩)
    have hz1 : W.heap.size + 1 < w1.heap.size := by have := hb1.size; simp at this; omega
    have B1 := Lib.hid hbx
    clear hb1 KO hbx
    go_wp2_with fail
    refine (KN.out _).mono ?_
    rintro _ w2 ⟨rfl, hR, hb2⟩
    have T2 := Lib.hid (T1.out.below hb2 hz1)
    have B2 := Lib.hid (B1.out.trans (hb2.mono B1.out.size))
    obtain ⟨c, hc⟩ : ∃ c, c = w1.heap.size := ⟨_, rfl⟩
    rw [← hc] at hR ⊢
    have H2 := Lib.hid hR
    have hc1 : W.heap.size + 1 < c := by omega
    clear hR hb2 KN hc
    go_wp2_with fail
    refine (S1.out c 0 _ Q0.out (Nat.zero_le _) H2.out).mono ?_
    rintro _ w3 ⟨rfl, ⟨a3, ha3, hR, hs3⟩, hg⟩
    have T3 := Lib.hid (T2.out.kept hg hc1)
    have B3 := Lib.hid (below_gr B2.out hg B2.out.size (by omega))
    have H3 := Lib.hid hR
    have Q3 := Lib.hid hs3
    clear hR hs3 hg
    go_wp2_with fail
    refine (S2.out c a3 _ (Q3.out (by trivial)).symm ha3 H3.out).mono ?_
    rintro _ w4 ⟨rfl, ⟨a4, ha4, hR, hs4⟩, hg⟩
    have T4 := Lib.hid (T3.out.kept hg hc1)
    have B4 := Lib.hid (below_gr B3.out hg B3.out.size (by omega))
    have H4 := Lib.hid hR
    have Q4 := Lib.hid hs4
    clear hR hs4 hg
    go_wp2_with fail
    refine (S3.out c a4 _ (Q4.out (by trivial)).symm ha4 H4.out).mono ?_
    rintro _ w5 ⟨rfl, ⟨a5, ha5, hR, hs5⟩, hg⟩
    have T5 := Lib.hid (T4.out.kept hg hc1)
    have B5 := Lib.hid (below_gr B4.out hg B4.out.size (by omega))
    have H5 := Lib.hid hR
    have Q5 := Lib.hid hs5
    clear hR hs5 hg
    go_wp2_with fail
    have Z := show r3.size = p.size - a5 from (congrArg ByteArray.size (Q5.out (by trivial))).trans (Wire.sub_size p a5 ha5)
    have EN := Lib.hid (fun w (h : Wire.RB w c p a5 0) => (by have := Wire.rend_live c p a5 w hp ha5 h; rw [show (if p.size - a5 = 0 then (0 : Int) else 23) = 0 from if_pos (by omega)] at this; exact this : Calls Try.prog 37 #[Wire.pt c] w (fun r w' => r = .returned (.int .i64 0) ∧ Wire.Same w w')))
    refine (EN.out _ H5.out).mono ?_
    rintro _ w6 ⟨rfl, hs⟩
    have T6 := Lib.hid (show Two w6 W.heap.size t b by obtain ⟨m, rfl⟩ := hs; exact T5.out)
    have B6 := Lib.hid (show Below W.heap.size W w6 by obtain ⟨m, rfl⟩ := hs; exact below_drewN B5.out m)
    have H6 := Lib.hid (show Wire.RB w6 c p a5 0 by obtain ⟨m, rfl⟩ := hs; exact H5.out)
    have hz6 : W.heap.size + 1 < w6.heap.size := by have := H6.out.lt; omega
    clear hs
    have x0 := blk_cell T6.out.1 0 (v := .int .i64 t) rfl
    have x1 := blk_cell T6.out.1 1 (v := .int .u64 (b : Int)) rfl
    have y0 := blk_cell T6.out.2 0 (v := .int .i64 0) rfl
    have y1 := blk_cell T6.out.2 1 (v := .int .u64 0) rfl
    have f0 := blk_fr T6.out.2 0
    have f1 := blk_fr T6.out.2 1
    go_wp2_with fail
    go_region
    obtain ⟨V, hV⟩ : ∃ V, V = put2 w6 (W.heap.size + 1) t b := ⟨_, rfl⟩
    have HV := hV ▸ put2_blk T6.out.2 t b
    have BV := Lib.hid (show Below W.heap.size W V from hV ▸ put2_below B6.out (by omega) t b)
    unfold put2 at hV
    rw [← hV]
    have c0 : V.drew.cell? ⟨W.heap.size + 1, 0, none⟩ = some (.int .i64 t) := blk_cell (w := V.drew) HV 0 rfl
    have c1 : V.drew.cell? ⟨W.heap.size + 1, 1, none⟩ = some (.int .u64 (b : Int)) := blk_cell (w := V.drew) HV 1 rfl
    clear hV
    go_wp2_with fail
    refine bodyPost_ret (v := .tuple #[.string ⟨#[]⟩, wiV (t, b), .int .i64 2]) (by simp [results, Try.results17, go_sem, c0, c1]) rfl (outOp R.out (below_drewN BV.out 1))
  have q1 : (v1 != node) = false := by simpa using c1
  by_cases c2 : v1 < 0
  · have q2 := dt c2
    have R := Lib.hid (R1.trans (if_pos (Or.inr (Or.inl c2))))
    clear R1
    go_enter Try.func17, Try.ntmps17
    go_wp2_with fail
    refine (KO.out _).mono ?_
    rintro _ w1 ⟨rfl, hb1⟩
    have hbx : Below W.heap.size W w1 := ((alloc_below W (bxW t b)).alloc (by simp) (bxW 0 0)).trans (hb1.mono (by simp; omega))
    have T1 := Lib.hid (show Two w1 W.heap.size t b from ⟨(hb1.block W.heap.size (by simp; omega)).trans (blk_alloc (blk_new W _) _), (hb1.block (W.heap.size + 1) (by simp)).trans (two_new W _ _)⟩)
    have hz1 : W.heap.size + 1 < w1.heap.size := by have := hb1.size; simp at this; omega
    have B1 := Lib.hid hbx
    clear hb1 KO hbx
    go_wp2_with fail
    refine (KN.out _).mono ?_
    rintro _ w2 ⟨rfl, hR, hb2⟩
    have T2 := Lib.hid (T1.out.below hb2 hz1)
    have B2 := Lib.hid (B1.out.trans (hb2.mono B1.out.size))
    obtain ⟨c, hc⟩ : ∃ c, c = w1.heap.size := ⟨_, rfl⟩
    rw [← hc] at hR ⊢
    have H2 := Lib.hid hR
    have hc1 : W.heap.size + 1 < c := by omega
    clear hR hb2 KN hc
    go_wp2_with fail
    refine (S1.out c 0 _ Q0.out (Nat.zero_le _) H2.out).mono ?_
    rintro _ w3 ⟨rfl, ⟨a3, ha3, hR, hs3⟩, hg⟩
    have T3 := Lib.hid (T2.out.kept hg hc1)
    have B3 := Lib.hid (below_gr B2.out hg B2.out.size (by omega))
    have H3 := Lib.hid hR
    have Q3 := Lib.hid hs3
    clear hR hs3 hg
    go_wp2_with fail
    refine (S2.out c a3 _ (Q3.out (by trivial)).symm ha3 H3.out).mono ?_
    rintro _ w4 ⟨rfl, ⟨a4, ha4, hR, hs4⟩, hg⟩
    have T4 := Lib.hid (T3.out.kept hg hc1)
    have B4 := Lib.hid (below_gr B3.out hg B3.out.size (by omega))
    have H4 := Lib.hid hR
    have Q4 := Lib.hid hs4
    clear hR hs4 hg
    go_wp2_with fail
    refine (S3.out c a4 _ (Q4.out (by trivial)).symm ha4 H4.out).mono ?_
    rintro _ w5 ⟨rfl, ⟨a5, ha5, hR, hs5⟩, hg⟩
    have T5 := Lib.hid (T4.out.kept hg hc1)
    have B5 := Lib.hid (below_gr B4.out hg B4.out.size (by omega))
    have H5 := Lib.hid hR
    have Q5 := Lib.hid hs5
    clear hR hs5 hg
    go_wp2_with fail
    have Z := show r3.size = p.size - a5 from (congrArg ByteArray.size (Q5.out (by trivial))).trans (Wire.sub_size p a5 ha5)
    have EN := Lib.hid (fun w (h : Wire.RB w c p a5 0) => (by have := Wire.rend_live c p a5 w hp ha5 h; rw [show (if p.size - a5 = 0 then (0 : Int) else 23) = 0 from if_pos (by omega)] at this; exact this : Calls Try.prog 37 #[Wire.pt c] w (fun r w' => r = .returned (.int .i64 0) ∧ Wire.Same w w')))
    refine (EN.out _ H5.out).mono ?_
    rintro _ w6 ⟨rfl, hs⟩
    have T6 := Lib.hid (show Two w6 W.heap.size t b by obtain ⟨m, rfl⟩ := hs; exact T5.out)
    have B6 := Lib.hid (show Below W.heap.size W w6 by obtain ⟨m, rfl⟩ := hs; exact below_drewN B5.out m)
    have H6 := Lib.hid (show Wire.RB w6 c p a5 0 by obtain ⟨m, rfl⟩ := hs; exact H5.out)
    have hz6 : W.heap.size + 1 < w6.heap.size := by have := H6.out.lt; omega
    clear hs
    have x0 := blk_cell T6.out.1 0 (v := .int .i64 t) rfl
    have x1 := blk_cell T6.out.1 1 (v := .int .u64 (b : Int)) rfl
    have y0 := blk_cell T6.out.2 0 (v := .int .i64 0) rfl
    have y1 := blk_cell T6.out.2 1 (v := .int .u64 0) rfl
    have f0 := blk_fr T6.out.2 0
    have f1 := blk_fr T6.out.2 1
    go_wp2_with fail
    go_region
    obtain ⟨V, hV⟩ : ∃ V, V = put2 w6 (W.heap.size + 1) t b := ⟨_, rfl⟩
    have HV := hV ▸ put2_blk T6.out.2 t b
    have BV := Lib.hid (show Below W.heap.size W V from hV ▸ put2_below B6.out (by omega) t b)
    unfold put2 at hV
    rw [← hV]
    have c0 : V.drew.cell? ⟨W.heap.size + 1, 0, none⟩ = some (.int .i64 t) := blk_cell (w := V.drew) HV 0 rfl
    have c1 : V.drew.cell? ⟨W.heap.size + 1, 1, none⟩ = some (.int .u64 (b : Int)) := blk_cell (w := V.drew) HV 1 rfl
    clear hV
    go_wp2_with fail
    refine bodyPost_ret (v := .tuple #[.string ⟨#[]⟩, wiV (t, b), .int .i64 2]) (by simp [results, Try.results17, go_sem, c0, c1]) rfl (outOp R.out (below_drewN BV.out 1))
  have q2 := df c2
  by_cases c3 : 250 < v1
  · have q3 := dt c3
    have R := Lib.hid (R1.trans (if_pos (Or.inr (Or.inr (Or.inl c3)))))
    clear R1
    go_enter Try.func17, Try.ntmps17
    go_wp2_with fail
    refine (KO.out _).mono ?_
    rintro _ w1 ⟨rfl, hb1⟩
    have hbx : Below W.heap.size W w1 := ((alloc_below W (bxW t b)).alloc (by simp) (bxW 0 0)).trans (hb1.mono (by simp; omega))
    have T1 := Lib.hid (show Two w1 W.heap.size t b from ⟨(hb1.block W.heap.size (by simp; omega)).trans (blk_alloc (blk_new W _) _), (hb1.block (W.heap.size + 1) (by simp)).trans (two_new W _ _)⟩)
    have hz1 : W.heap.size + 1 < w1.heap.size := by have := hb1.size; simp at this; omega
    have B1 := Lib.hid hbx
    clear hb1 KO hbx
    go_wp2_with fail
    refine (KN.out _).mono ?_
    rintro _ w2 ⟨rfl, hR, hb2⟩
    have T2 := Lib.hid (T1.out.below hb2 hz1)
    have B2 := Lib.hid (B1.out.trans (hb2.mono B1.out.size))
    obtain ⟨c, hc⟩ : ∃ c, c = w1.heap.size := ⟨_, rfl⟩
    rw [← hc] at hR ⊢
    have H2 := Lib.hid hR
    have hc1 : W.heap.size + 1 < c := by omega
    clear hR hb2 KN hc
    go_wp2_with fail
    refine (S1.out c 0 _ Q0.out (Nat.zero_le _) H2.out).mono ?_
    rintro _ w3 ⟨rfl, ⟨a3, ha3, hR, hs3⟩, hg⟩
    have T3 := Lib.hid (T2.out.kept hg hc1)
    have B3 := Lib.hid (below_gr B2.out hg B2.out.size (by omega))
    have H3 := Lib.hid hR
    have Q3 := Lib.hid hs3
    clear hR hs3 hg
    go_wp2_with fail
    refine (S2.out c a3 _ (Q3.out (by trivial)).symm ha3 H3.out).mono ?_
    rintro _ w4 ⟨rfl, ⟨a4, ha4, hR, hs4⟩, hg⟩
    have T4 := Lib.hid (T3.out.kept hg hc1)
    have B4 := Lib.hid (below_gr B3.out hg B3.out.size (by omega))
    have H4 := Lib.hid hR
    have Q4 := Lib.hid hs4
    clear hR hs4 hg
    go_wp2_with fail
    refine (S3.out c a4 _ (Q4.out (by trivial)).symm ha4 H4.out).mono ?_
    rintro _ w5 ⟨rfl, ⟨a5, ha5, hR, hs5⟩, hg⟩
    have T5 := Lib.hid (T4.out.kept hg hc1)
    have B5 := Lib.hid (below_gr B4.out hg B4.out.size (by omega))
    have H5 := Lib.hid hR
    have Q5 := Lib.hid hs5
    clear hR hs5 hg
    go_wp2_with fail
    have Z := show r3.size = p.size - a5 from (congrArg ByteArray.size (Q5.out (by trivial))).trans (Wire.sub_size p a5 ha5)
    have EN := Lib.hid (fun w (h : Wire.RB w c p a5 0) => (by have := Wire.rend_live c p a5 w hp ha5 h; rw [show (if p.size - a5 = 0 then (0 : Int) else 23) = 0 from if_pos (by omega)] at this; exact this : Calls Try.prog 37 #[Wire.pt c] w (fun r w' => r = .returned (.int .i64 0) ∧ Wire.Same w w')))
    refine (EN.out _ H5.out).mono ?_
    rintro _ w6 ⟨rfl, hs⟩
    have T6 := Lib.hid (show Two w6 W.heap.size t b by obtain ⟨m, rfl⟩ := hs; exact T5.out)
    have B6 := Lib.hid (show Below W.heap.size W w6 by obtain ⟨m, rfl⟩ := hs; exact below_drewN B5.out m)
    have H6 := Lib.hid (show Wire.RB w6 c p a5 0 by obtain ⟨m, rfl⟩ := hs; exact H5.out)
    have hz6 : W.heap.size + 1 < w6.heap.size := by have := H6.out.lt; omega
    clear hs
    have x0 := blk_cell T6.out.1 0 (v := .int .i64 t) rfl
    have x1 := blk_cell T6.out.1 1 (v := .int .u64 (b : Int)) rfl
    have y0 := blk_cell T6.out.2 0 (v := .int .i64 0) rfl
    have y1 := blk_cell T6.out.2 1 (v := .int .u64 0) rfl
    have f0 := blk_fr T6.out.2 0
    have f1 := blk_fr T6.out.2 1
    go_wp2_with fail
    go_region
    obtain ⟨V, hV⟩ : ∃ V, V = put2 w6 (W.heap.size + 1) t b := ⟨_, rfl⟩
    have HV := hV ▸ put2_blk T6.out.2 t b
    have BV := Lib.hid (show Below W.heap.size W V from hV ▸ put2_below B6.out (by omega) t b)
    unfold put2 at hV
    rw [← hV]
    have c0 : V.drew.cell? ⟨W.heap.size + 1, 0, none⟩ = some (.int .i64 t) := blk_cell (w := V.drew) HV 0 rfl
    have c1 : V.drew.cell? ⟨W.heap.size + 1, 1, none⟩ = some (.int .u64 (b : Int)) := blk_cell (w := V.drew) HV 1 rfl
    clear hV
    go_wp2_with fail
    refine bodyPost_ret (v := .tuple #[.string ⟨#[]⟩, wiV (t, b), .int .i64 2]) (by simp [results, Try.results17, go_sem, c0, c1]) rfl (outOp R.out (below_drewN BV.out 1))
  have q3 := df c3
  by_cases c4 : v2 < 0
  · have q4 := dt c4
    have R := Lib.hid (R1.trans (if_pos (Or.inr (Or.inr (Or.inr (Or.inl c4))))))
    clear R1
    go_enter Try.func17, Try.ntmps17
    go_wp2_with fail
    refine (KO.out _).mono ?_
    rintro _ w1 ⟨rfl, hb1⟩
    have hbx : Below W.heap.size W w1 := ((alloc_below W (bxW t b)).alloc (by simp) (bxW 0 0)).trans (hb1.mono (by simp; omega))
    have T1 := Lib.hid (show Two w1 W.heap.size t b from ⟨(hb1.block W.heap.size (by simp; omega)).trans (blk_alloc (blk_new W _) _), (hb1.block (W.heap.size + 1) (by simp)).trans (two_new W _ _)⟩)
    have hz1 : W.heap.size + 1 < w1.heap.size := by have := hb1.size; simp at this; omega
    have B1 := Lib.hid hbx
    clear hb1 KO hbx
    go_wp2_with fail
    refine (KN.out _).mono ?_
    rintro _ w2 ⟨rfl, hR, hb2⟩
    have T2 := Lib.hid (T1.out.below hb2 hz1)
    have B2 := Lib.hid (B1.out.trans (hb2.mono B1.out.size))
    obtain ⟨c, hc⟩ : ∃ c, c = w1.heap.size := ⟨_, rfl⟩
    rw [← hc] at hR ⊢
    have H2 := Lib.hid hR
    have hc1 : W.heap.size + 1 < c := by omega
    clear hR hb2 KN hc
    go_wp2_with fail
    refine (S1.out c 0 _ Q0.out (Nat.zero_le _) H2.out).mono ?_
    rintro _ w3 ⟨rfl, ⟨a3, ha3, hR, hs3⟩, hg⟩
    have T3 := Lib.hid (T2.out.kept hg hc1)
    have B3 := Lib.hid (below_gr B2.out hg B2.out.size (by omega))
    have H3 := Lib.hid hR
    have Q3 := Lib.hid hs3
    clear hR hs3 hg
    go_wp2_with fail
    refine (S2.out c a3 _ (Q3.out (by trivial)).symm ha3 H3.out).mono ?_
    rintro _ w4 ⟨rfl, ⟨a4, ha4, hR, hs4⟩, hg⟩
    have T4 := Lib.hid (T3.out.kept hg hc1)
    have B4 := Lib.hid (below_gr B3.out hg B3.out.size (by omega))
    have H4 := Lib.hid hR
    have Q4 := Lib.hid hs4
    clear hR hs4 hg
    go_wp2_with fail
    refine (S3.out c a4 _ (Q4.out (by trivial)).symm ha4 H4.out).mono ?_
    rintro _ w5 ⟨rfl, ⟨a5, ha5, hR, hs5⟩, hg⟩
    have T5 := Lib.hid (T4.out.kept hg hc1)
    have B5 := Lib.hid (below_gr B4.out hg B4.out.size (by omega))
    have H5 := Lib.hid hR
    have Q5 := Lib.hid hs5
    clear hR hs5 hg
    go_wp2_with fail
    have Z := show r3.size = p.size - a5 from (congrArg ByteArray.size (Q5.out (by trivial))).trans (Wire.sub_size p a5 ha5)
    have EN := Lib.hid (fun w (h : Wire.RB w c p a5 0) => (by have := Wire.rend_live c p a5 w hp ha5 h; rw [show (if p.size - a5 = 0 then (0 : Int) else 23) = 0 from if_pos (by omega)] at this; exact this : Calls Try.prog 37 #[Wire.pt c] w (fun r w' => r = .returned (.int .i64 0) ∧ Wire.Same w w')))
    refine (EN.out _ H5.out).mono ?_
    rintro _ w6 ⟨rfl, hs⟩
    have T6 := Lib.hid (show Two w6 W.heap.size t b by obtain ⟨m, rfl⟩ := hs; exact T5.out)
    have B6 := Lib.hid (show Below W.heap.size W w6 by obtain ⟨m, rfl⟩ := hs; exact below_drewN B5.out m)
    have H6 := Lib.hid (show Wire.RB w6 c p a5 0 by obtain ⟨m, rfl⟩ := hs; exact H5.out)
    have hz6 : W.heap.size + 1 < w6.heap.size := by have := H6.out.lt; omega
    clear hs
    have x0 := blk_cell T6.out.1 0 (v := .int .i64 t) rfl
    have x1 := blk_cell T6.out.1 1 (v := .int .u64 (b : Int)) rfl
    have y0 := blk_cell T6.out.2 0 (v := .int .i64 0) rfl
    have y1 := blk_cell T6.out.2 1 (v := .int .u64 0) rfl
    have f0 := blk_fr T6.out.2 0
    have f1 := blk_fr T6.out.2 1
    go_wp2_with fail
    go_region
    obtain ⟨V, hV⟩ : ∃ V, V = put2 w6 (W.heap.size + 1) t b := ⟨_, rfl⟩
    have HV := hV ▸ put2_blk T6.out.2 t b
    have BV := Lib.hid (show Below W.heap.size W V from hV ▸ put2_below B6.out (by omega) t b)
    unfold put2 at hV
    rw [← hV]
    have c0 : V.drew.cell? ⟨W.heap.size + 1, 0, none⟩ = some (.int .i64 t) := blk_cell (w := V.drew) HV 0 rfl
    have c1 : V.drew.cell? ⟨W.heap.size + 1, 1, none⟩ = some (.int .u64 (b : Int)) := blk_cell (w := V.drew) HV 1 rfl
    clear hV
    go_wp2_with fail
    refine bodyPost_ret (v := .tuple #[.string ⟨#[]⟩, wiV (t, b), .int .i64 2]) (by simp [results, Try.results17, go_sem, c0, c1]) rfl (outOp R.out (below_drewN BV.out 1))
  have q4 := df c4
  by_cases c5 : 1099511627776 < v2
  · have q5 := dt c5
    have R := Lib.hid (R1.trans (if_pos (Or.inr (Or.inr (Or.inr (Or.inr c5))))))
    clear R1
    go_enter Try.func17, Try.ntmps17
    go_wp2_with fail
    refine (KO.out _).mono ?_
    rintro _ w1 ⟨rfl, hb1⟩
    have hbx : Below W.heap.size W w1 := ((alloc_below W (bxW t b)).alloc (by simp) (bxW 0 0)).trans (hb1.mono (by simp; omega))
    have T1 := Lib.hid (show Two w1 W.heap.size t b from ⟨(hb1.block W.heap.size (by simp; omega)).trans (blk_alloc (blk_new W _) _), (hb1.block (W.heap.size + 1) (by simp)).trans (two_new W _ _)⟩)
    have hz1 : W.heap.size + 1 < w1.heap.size := by have := hb1.size; simp at this; omega
    have B1 := Lib.hid hbx
    clear hb1 KO hbx
    go_wp2_with fail
    refine (KN.out _).mono ?_
    rintro _ w2 ⟨rfl, hR, hb2⟩
    have T2 := Lib.hid (T1.out.below hb2 hz1)
    have B2 := Lib.hid (B1.out.trans (hb2.mono B1.out.size))
    obtain ⟨c, hc⟩ : ∃ c, c = w1.heap.size := ⟨_, rfl⟩
    rw [← hc] at hR ⊢
    have H2 := Lib.hid hR
    have hc1 : W.heap.size + 1 < c := by omega
    clear hR hb2 KN hc
    go_wp2_with fail
    refine (S1.out c 0 _ Q0.out (Nat.zero_le _) H2.out).mono ?_
    rintro _ w3 ⟨rfl, ⟨a3, ha3, hR, hs3⟩, hg⟩
    have T3 := Lib.hid (T2.out.kept hg hc1)
    have B3 := Lib.hid (below_gr B2.out hg B2.out.size (by omega))
    have H3 := Lib.hid hR
    have Q3 := Lib.hid hs3
    clear hR hs3 hg
    go_wp2_with fail
    refine (S2.out c a3 _ (Q3.out (by trivial)).symm ha3 H3.out).mono ?_
    rintro _ w4 ⟨rfl, ⟨a4, ha4, hR, hs4⟩, hg⟩
    have T4 := Lib.hid (T3.out.kept hg hc1)
    have B4 := Lib.hid (below_gr B3.out hg B3.out.size (by omega))
    have H4 := Lib.hid hR
    have Q4 := Lib.hid hs4
    clear hR hs4 hg
    go_wp2_with fail
    refine (S3.out c a4 _ (Q4.out (by trivial)).symm ha4 H4.out).mono ?_
    rintro _ w5 ⟨rfl, ⟨a5, ha5, hR, hs5⟩, hg⟩
    have T5 := Lib.hid (T4.out.kept hg hc1)
    have B5 := Lib.hid (below_gr B4.out hg B4.out.size (by omega))
    have H5 := Lib.hid hR
    have Q5 := Lib.hid hs5
    clear hR hs5 hg
    go_wp2_with fail
    have Z := show r3.size = p.size - a5 from (congrArg ByteArray.size (Q5.out (by trivial))).trans (Wire.sub_size p a5 ha5)
    have EN := Lib.hid (fun w (h : Wire.RB w c p a5 0) => (by have := Wire.rend_live c p a5 w hp ha5 h; rw [show (if p.size - a5 = 0 then (0 : Int) else 23) = 0 from if_pos (by omega)] at this; exact this : Calls Try.prog 37 #[Wire.pt c] w (fun r w' => r = .returned (.int .i64 0) ∧ Wire.Same w w')))
    refine (EN.out _ H5.out).mono ?_
    rintro _ w6 ⟨rfl, hs⟩
    have T6 := Lib.hid (show Two w6 W.heap.size t b by obtain ⟨m, rfl⟩ := hs; exact T5.out)
    have B6 := Lib.hid (show Below W.heap.size W w6 by obtain ⟨m, rfl⟩ := hs; exact below_drewN B5.out m)
    have H6 := Lib.hid (show Wire.RB w6 c p a5 0 by obtain ⟨m, rfl⟩ := hs; exact H5.out)
    have hz6 : W.heap.size + 1 < w6.heap.size := by have := H6.out.lt; omega
    clear hs
    have x0 := blk_cell T6.out.1 0 (v := .int .i64 t) rfl
    have x1 := blk_cell T6.out.1 1 (v := .int .u64 (b : Int)) rfl
    have y0 := blk_cell T6.out.2 0 (v := .int .i64 0) rfl
    have y1 := blk_cell T6.out.2 1 (v := .int .u64 0) rfl
    have f0 := blk_fr T6.out.2 0
    have f1 := blk_fr T6.out.2 1
    go_wp2_with fail
    go_region
    obtain ⟨V, hV⟩ : ∃ V, V = put2 w6 (W.heap.size + 1) t b := ⟨_, rfl⟩
    have HV := hV ▸ put2_blk T6.out.2 t b
    have BV := Lib.hid (show Below W.heap.size W V from hV ▸ put2_below B6.out (by omega) t b)
    unfold put2 at hV
    rw [← hV]
    have c0 : V.drew.cell? ⟨W.heap.size + 1, 0, none⟩ = some (.int .i64 t) := blk_cell (w := V.drew) HV 0 rfl
    have c1 : V.drew.cell? ⟨W.heap.size + 1, 1, none⟩ = some (.int .u64 (b : Int)) := blk_cell (w := V.drew) HV 1 rfl
    clear hV
    go_wp2_with fail
    refine bodyPost_ret (v := .tuple #[.string ⟨#[]⟩, wiV (t, b), .int .i64 2]) (by simp [results, Try.results17, go_sem, c0, c1]) rfl (outOp R.out (below_drewN BV.out 1))
  have q5 := df c5
  have R2 := R1.trans (if_neg (by omega))
  have KA := Lib.hid (fun W => raccept_any t b v2 W hb (by unfold I64; omega))
  unfold OutA at KA
  clear R1
  generalize acc (t, b) v2 = r at *
  obtain ⟨⟨t1, b1⟩, ok⟩ := r
  simp only at R2 KA
  cases ok with
  | false =>
    have R := Lib.hid (R2.trans (if_pos rfl))
    clear R2
    go_enter Try.func17, Try.ntmps17
    go_wp2_with fail
    refine (KO.out _).mono ?_
    rintro _ w1 ⟨rfl, hb1⟩
    have hbx : Below W.heap.size W w1 := ((alloc_below W (bxW t b)).alloc (by simp) (bxW 0 0)).trans (hb1.mono (by simp; omega))
    have T1 := Lib.hid (show Two w1 W.heap.size t b from ⟨(hb1.block W.heap.size (by simp; omega)).trans (blk_alloc (blk_new W _) _), (hb1.block (W.heap.size + 1) (by simp)).trans (two_new W _ _)⟩)
    have hz1 : W.heap.size + 1 < w1.heap.size := by have := hb1.size; simp at this; omega
    have B1 := Lib.hid hbx
    clear hb1 KO hbx
    go_wp2_with fail
    refine (KN.out _).mono ?_
    rintro _ w2 ⟨rfl, hR, hb2⟩
    have T2 := Lib.hid (T1.out.below hb2 hz1)
    have B2 := Lib.hid (B1.out.trans (hb2.mono B1.out.size))
    obtain ⟨c, hc⟩ : ∃ c, c = w1.heap.size := ⟨_, rfl⟩
    rw [← hc] at hR ⊢
    have H2 := Lib.hid hR
    have hc1 : W.heap.size + 1 < c := by omega
    clear hR hb2 KN hc
    go_wp2_with fail
    refine (S1.out c 0 _ Q0.out (Nat.zero_le _) H2.out).mono ?_
    rintro _ w3 ⟨rfl, ⟨a3, ha3, hR, hs3⟩, hg⟩
    have T3 := Lib.hid (T2.out.kept hg hc1)
    have B3 := Lib.hid (below_gr B2.out hg B2.out.size (by omega))
    have H3 := Lib.hid hR
    have Q3 := Lib.hid hs3
    clear hR hs3 hg
    go_wp2_with fail
    refine (S2.out c a3 _ (Q3.out (by trivial)).symm ha3 H3.out).mono ?_
    rintro _ w4 ⟨rfl, ⟨a4, ha4, hR, hs4⟩, hg⟩
    have T4 := Lib.hid (T3.out.kept hg hc1)
    have B4 := Lib.hid (below_gr B3.out hg B3.out.size (by omega))
    have H4 := Lib.hid hR
    have Q4 := Lib.hid hs4
    clear hR hs4 hg
    go_wp2_with fail
    refine (S3.out c a4 _ (Q4.out (by trivial)).symm ha4 H4.out).mono ?_
    rintro _ w5 ⟨rfl, ⟨a5, ha5, hR, hs5⟩, hg⟩
    have T5 := Lib.hid (T4.out.kept hg hc1)
    have B5 := Lib.hid (below_gr B4.out hg B4.out.size (by omega))
    have H5 := Lib.hid hR
    have Q5 := Lib.hid hs5
    clear hR hs5 hg
    go_wp2_with fail
    have Z := show r3.size = p.size - a5 from (congrArg ByteArray.size (Q5.out (by trivial))).trans (Wire.sub_size p a5 ha5)
    have EN := Lib.hid (fun w (h : Wire.RB w c p a5 0) => (by have := Wire.rend_live c p a5 w hp ha5 h; rw [show (if p.size - a5 = 0 then (0 : Int) else 23) = 0 from if_pos (by omega)] at this; exact this : Calls Try.prog 37 #[Wire.pt c] w (fun r w' => r = .returned (.int .i64 0) ∧ Wire.Same w w')))
    refine (EN.out _ H5.out).mono ?_
    rintro _ w6 ⟨rfl, hs⟩
    have T6 := Lib.hid (show Two w6 W.heap.size t b by obtain ⟨m, rfl⟩ := hs; exact T5.out)
    have B6 := Lib.hid (show Below W.heap.size W w6 by obtain ⟨m, rfl⟩ := hs; exact below_drewN B5.out m)
    have H6 := Lib.hid (show Wire.RB w6 c p a5 0 by obtain ⟨m, rfl⟩ := hs; exact H5.out)
    have hz6 : W.heap.size + 1 < w6.heap.size := by have := H6.out.lt; omega
    clear hs
    have x0 := blk_cell T6.out.1 0 (v := .int .i64 t) rfl
    have x1 := blk_cell T6.out.1 1 (v := .int .u64 (b : Int)) rfl
    go_wp2_with fail
    refine (KA.out _).mono ?_
    rintro _ w7 ⟨rfl, hb7⟩
    have T7 := Lib.hid (T6.out.below hb7 hz6)
    have B7 := Lib.hid (B6.out.trans (hb7.mono B6.out.size))
    have hz7 := Nat.lt_of_lt_of_le hz6 hb7.size
    obtain ⟨w8, hw8⟩ : ∃ w8, w8 = w7.alloc (.cells #[.int .i64 t1, .int .u64 (b1 : Int)] 24) := ⟨_, rfl⟩
    have T8 := Lib.hid (show Two w8 W.heap.size t b from hw8 ▸ T7.out.below (alloc_below w7 _) hz7)
    have B8 := Lib.hid (show Below W.heap.size W w8 from hw8 ▸ B7.out.alloc B7.out.size _)
    have X8 := Lib.hid (show w8.heap[w7.heap.size]? = some (bxW t1 b1) from hw8 ▸ blk_new w7 _)
    have z0 := blk_cell X8.out 0 (v := .int .i64 t1) rfl
    have z1 := blk_cell X8.out 1 (v := .int .u64 (b1 : Int)) rfl
    clear hb7 x0 x1 KA
    go_wp2_with fail
    rw [← hw8]
    clear hw8
    have x0 := blk_cell T8.out.1 0 (v := .int .i64 t) rfl
    have x1 := blk_cell T8.out.1 1 (v := .int .u64 (b : Int)) rfl
    have y0 := blk_cell T8.out.2 0 (v := .int .i64 0) rfl
    have y1 := blk_cell T8.out.2 1 (v := .int .u64 0) rfl
    have f0 := blk_fr T8.out.2 0
    have f1 := blk_fr T8.out.2 1
    go_region
    obtain ⟨V, hV⟩ : ∃ V, V = put2 w8 (W.heap.size + 1) t b := ⟨_, rfl⟩
    have HV := hV ▸ put2_blk T8.out.2 t b
    have BV := Lib.hid (show Below W.heap.size W V from hV ▸ put2_below B8.out (by omega) t b)
    unfold put2 at hV
    rw [← hV]
    have c0 : V.drew.cell? ⟨W.heap.size + 1, 0, none⟩ = some (.int .i64 t) := blk_cell (w := V.drew) HV 0 rfl
    have c1 : V.drew.cell? ⟨W.heap.size + 1, 1, none⟩ = some (.int .u64 (b : Int)) := blk_cell (w := V.drew) HV 1 rfl
    clear hV
    go_wp2_with fail
    refine bodyPost_ret (v := .tuple #[.string ⟨#[]⟩, wiV (t, b), .int .i64 18]) (by simp [results, Try.results17, go_sem, c0, c1]) rfl (outOp R.out (below_drewN BV.out 1))
  | true =>
    have R := Lib.hid (R2.trans (if_neg (by decide)))
    clear R2
    go_enter Try.func17, Try.ntmps17
    go_wp2_with fail
    refine (KO.out _).mono ?_
    rintro _ w1 ⟨rfl, hb1⟩
    have hbx : Below W.heap.size W w1 := ((alloc_below W (bxW t b)).alloc (by simp) (bxW 0 0)).trans (hb1.mono (by simp; omega))
    have T1 := Lib.hid (show Two w1 W.heap.size t b from ⟨(hb1.block W.heap.size (by simp; omega)).trans (blk_alloc (blk_new W _) _), (hb1.block (W.heap.size + 1) (by simp)).trans (two_new W _ _)⟩)
    have hz1 : W.heap.size + 1 < w1.heap.size := by have := hb1.size; simp at this; omega
    have B1 := Lib.hid hbx
    clear hb1 KO hbx
    go_wp2_with fail
    refine (KN.out _).mono ?_
    rintro _ w2 ⟨rfl, hR, hb2⟩
    have T2 := Lib.hid (T1.out.below hb2 hz1)
    have B2 := Lib.hid (B1.out.trans (hb2.mono B1.out.size))
    obtain ⟨c, hc⟩ : ∃ c, c = w1.heap.size := ⟨_, rfl⟩
    rw [← hc] at hR ⊢
    have H2 := Lib.hid hR
    have hc1 : W.heap.size + 1 < c := by omega
    clear hR hb2 KN hc
    go_wp2_with fail
    refine (S1.out c 0 _ Q0.out (Nat.zero_le _) H2.out).mono ?_
    rintro _ w3 ⟨rfl, ⟨a3, ha3, hR, hs3⟩, hg⟩
    have T3 := Lib.hid (T2.out.kept hg hc1)
    have B3 := Lib.hid (below_gr B2.out hg B2.out.size (by omega))
    have H3 := Lib.hid hR
    have Q3 := Lib.hid hs3
    clear hR hs3 hg
    go_wp2_with fail
    refine (S2.out c a3 _ (Q3.out (by trivial)).symm ha3 H3.out).mono ?_
    rintro _ w4 ⟨rfl, ⟨a4, ha4, hR, hs4⟩, hg⟩
    have T4 := Lib.hid (T3.out.kept hg hc1)
    have B4 := Lib.hid (below_gr B3.out hg B3.out.size (by omega))
    have H4 := Lib.hid hR
    have Q4 := Lib.hid hs4
    clear hR hs4 hg
    go_wp2_with fail
    refine (S3.out c a4 _ (Q4.out (by trivial)).symm ha4 H4.out).mono ?_
    rintro _ w5 ⟨rfl, ⟨a5, ha5, hR, hs5⟩, hg⟩
    have T5 := Lib.hid (T4.out.kept hg hc1)
    have B5 := Lib.hid (below_gr B4.out hg B4.out.size (by omega))
    have H5 := Lib.hid hR
    have Q5 := Lib.hid hs5
    clear hR hs5 hg
    go_wp2_with fail
    have Z := show r3.size = p.size - a5 from (congrArg ByteArray.size (Q5.out (by trivial))).trans (Wire.sub_size p a5 ha5)
    have EN := Lib.hid (fun w (h : Wire.RB w c p a5 0) => (by have := Wire.rend_live c p a5 w hp ha5 h; rw [show (if p.size - a5 = 0 then (0 : Int) else 23) = 0 from if_pos (by omega)] at this; exact this : Calls Try.prog 37 #[Wire.pt c] w (fun r w' => r = .returned (.int .i64 0) ∧ Wire.Same w w')))
    refine (EN.out _ H5.out).mono ?_
    rintro _ w6 ⟨rfl, hs⟩
    have T6 := Lib.hid (show Two w6 W.heap.size t b by obtain ⟨m, rfl⟩ := hs; exact T5.out)
    have B6 := Lib.hid (show Below W.heap.size W w6 by obtain ⟨m, rfl⟩ := hs; exact below_drewN B5.out m)
    have H6 := Lib.hid (show Wire.RB w6 c p a5 0 by obtain ⟨m, rfl⟩ := hs; exact H5.out)
    have hz6 : W.heap.size + 1 < w6.heap.size := by have := H6.out.lt; omega
    clear hs
    have x0 := blk_cell T6.out.1 0 (v := .int .i64 t) rfl
    have x1 := blk_cell T6.out.1 1 (v := .int .u64 (b : Int)) rfl
    go_wp2_with fail
    refine (KA.out _).mono ?_
    rintro _ w7 ⟨rfl, hb7⟩
    have T7 := Lib.hid (T6.out.below hb7 hz6)
    have B7 := Lib.hid (B6.out.trans (hb7.mono B6.out.size))
    have hz7 := Nat.lt_of_lt_of_le hz6 hb7.size
    obtain ⟨w8, hw8⟩ : ∃ w8, w8 = w7.alloc (.cells #[.int .i64 t1, .int .u64 (b1 : Int)] 24) := ⟨_, rfl⟩
    have T8 := Lib.hid (show Two w8 W.heap.size t b from hw8 ▸ T7.out.below (alloc_below w7 _) hz7)
    have B8 := Lib.hid (show Below W.heap.size W w8 from hw8 ▸ B7.out.alloc B7.out.size _)
    have X8 := Lib.hid (show w8.heap[w7.heap.size]? = some (bxW t1 b1) from hw8 ▸ blk_new w7 _)
    have z0 := blk_cell X8.out 0 (v := .int .i64 t1) rfl
    have z1 := blk_cell X8.out 1 (v := .int .u64 (b1 : Int)) rfl
    clear hb7 x0 x1 KA
    go_wp2_with fail
    rw [← hw8]
    clear hw8
    have x0 := blk_cell T8.out.1 0 (v := .int .i64 t) rfl
    have x1 := blk_cell T8.out.1 1 (v := .int .u64 (b : Int)) rfl
    have y0 := blk_cell T8.out.2 0 (v := .int .i64 0) rfl
    have y1 := blk_cell T8.out.2 1 (v := .int .u64 0) rfl
    have f0 := blk_fr T8.out.2 0
    have f1 := blk_fr T8.out.2 1
    go_region
    obtain ⟨V, hV⟩ : ∃ V, V = put2 w8 (W.heap.size + 1) t1 b1 := ⟨_, rfl⟩
    have HV := hV ▸ put2_blk T8.out.2 t1 b1
    have BV := Lib.hid (show Below W.heap.size W V from hV ▸ put2_below B8.out (by omega) t1 b1)
    unfold put2 at hV
    rw [← hV]
    have c0 : V.drew.cell? ⟨W.heap.size + 1, 0, none⟩ = some (.int .i64 t1) := blk_cell (w := V.drew) HV 0 rfl
    have c1 : V.drew.cell? ⟨W.heap.size + 1, 1, none⟩ = some (.int .u64 (b1 : Int)) := blk_cell (w := V.drew) HV 1 rfl
    clear hV
    go_wp2_with fail
    refine bodyPost_ret (v := .tuple #[.string tx, wiV (t1, b1), .int .i64 0]) (by simp [results, Try.results17, go_sem, c0, c1]) rfl (outOp R.out (below_drewN BV.out 1))
end Go.Proofs.Yticlcjabhemdiaa.Rpl
