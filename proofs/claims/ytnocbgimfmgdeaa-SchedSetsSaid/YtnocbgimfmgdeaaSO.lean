/- The chapter's examples: contract of awake. -/
import Derived.Test.YtnocbgimfmgdeaaSN
set_option linter.unusedVariables false
namespace Go.Proofs.Ytnocbgimfmgdeaa
open Go.RowKit

/-- A literal of spans. -/
theorem lit_at {w : World} {b : Nat} {l : List Spn} {T : TypeId} (h : w.heap[b]? = some (.cells (flS l).toArray T (0, 0))) (hl : ∀ s ∈ l, I64 s.1 ∧ I64 s.2) : SpAt w w.heap.size (some ⟨b, 0, none⟩) l := fun i hi => by
  obtain ⟨e0, e1⟩ := flS_get l i hi
  obtain ⟨b0, b1⟩ := hl l[i] (List.getElem_mem _)
  exact ⟨b, 0, rfl, blk_lt h, by rw [Nat.zero_add]; exact blk_cell h _ (by simpa using e0), by rw [Nat.zero_add]; exact blk_cell h _ (by simpa using e1), b0, b1⟩
theorem small_list {l : List Spn} (h : ∀ s ∈ l, (-1000000000000 ≤ s.1 ∧ s.1 ≤ 1000000000000) ∧ (-1000000000000 ≤ s.2 ∧ s.2 ≤ 1000000000000)) : ∀ s ∈ l, I64 s.1 ∧ I64 s.2 := fun s hs => ⟨i64_small (h s hs).1, i64_small (h s hs).2⟩
abbrev L0 : List Spn := [(10, 20), (5, 10), (30, 40), (35, 36), (7, 7)]
abbrev L1 : List Spn := [(0, 100)]
abbrev L2 : List Spn := [(50, 150), (90, 95)]
abbrev L3 : List Spn := [(0, 1)]
structure Aw (w wr : World) : Prop where
  h0 : wr.heap[w.heap.size]? = some (.cells (flS L0).toArray 37 (0, 0))
  h1 : wr.heap[w.heap.size + 1]? = some (.cells (flS L1).toArray 37 (0, 0))
  h2 : wr.heap[w.heap.size + 2]? = some (.cells (flS L2).toArray 37 (0, 0))
  h3 : wr.heap[w.heap.size + 3]? = some (.cells (flS L3).toArray 37 (0, 0))
  below : Below w.heap.size w wr
namespace Aw
variable {w wr wt : World}
theorem next (h : Aw w wr) (hb : Below wr.heap.size wr wt) : Aw w wt :=
  have := blk_lt h.h3
  ⟨blk_below h.h0 hb (by omega), blk_below h.h1 hb (by omega), blk_below h.h2 hb (by omega), blk_below h.h3 hb (by omega), h.below.trans (hb.mono (by omega))⟩
theorem s0 (h : Aw w wr) : SpAt wr wr.heap.size (some ⟨w.heap.size, 0, none⟩) L0 := lit_at h.h0 (small_list (by decide))
theorem s1 (h : Aw w wr) : SpAt wr wr.heap.size (some ⟨w.heap.size + 1, 0, none⟩) L1 := lit_at h.h1 (small_list (by decide))
theorem s2 (h : Aw w wr) : SpAt wr wr.heap.size (some ⟨w.heap.size + 2, 0, none⟩) L2 := lit_at h.h2 (small_list (by decide))
theorem s3 (h : Aw w wr) : SpAt wr wr.heap.size (some ⟨w.heap.size + 3, 0, none⟩) L3 := lit_at h.h3 (small_list (by decide))
end Aw
theorem inS_eq {k l : List Spn} {m : Int} (h : (∃ s ∈ k, inO s m = true) ↔ (∃ s ∈ l, inO s m = true)) : inS k m = inS l m := by rw [Bool.eq_iff_iff, inS_iff, inS_iff]; exact h
theorem nf_0 : NF [(5, 20), (30, 40)] (inS L0) := by
  refine ⟨by simp [ascS], fun m => ?_⟩
  rw [Bool.eq_iff_iff]
  simp only [inS, Bool.or_eq_true, inO_iff, Bool.false_eq_true, or_false]
  omega
theorem nf_1 : NF [(50, 100)] (fun m => inS L1 m && inS L2 m) := by
  refine ⟨by simp [ascS], fun m => ?_⟩
  rw [Bool.eq_iff_iff]
  simp only [inS, Bool.or_eq_true, Bool.and_eq_true, inO_iff, Bool.false_eq_true, or_false]
  omega
theorem nf_2 : NF [(0, 50)] (fun m => inS L1 m && !inS L2 m) := by
  refine ⟨by simp [ascS], fun m => ?_⟩
  rw [Bool.eq_iff_iff]
  simp only [inS, Bool.or_eq_true, Bool.and_eq_true, Bool.not_eq_true', Bool.or_eq_false_iff, inO_iff, Bool.false_eq_true, or_false]
  rw [Bool.eq_false_iff, Bool.eq_false_iff, ne_eq, ne_eq, inO_iff, inO_iff]
  simp
  omega
theorem nf_3 : NF [(0, 150)] (fun m => inS L1 m || inS L2 m) := by
  refine ⟨by simp [ascS], fun m => ?_⟩
  rw [Bool.eq_iff_iff]
  simp only [inS, Bool.or_eq_true, inO_iff, Bool.false_eq_true, or_false]
  omega
theorem day_lit : dayL 64 1380 (dayE 1380 60) 7 = [(10020, 10080), (0, 60)] := by decide
theorem nf_4 : NF [(0, 60), (10020, 10080)] (dayS 64 1380 60) := by
  refine ⟨by simp [ascS], fun m => ?_⟩
  unfold dayS
  rw [if_pos (by decide), day_lit, Bool.eq_iff_iff]
  simp only [inS, Bool.or_eq_true, inO_iff, Bool.false_eq_true, or_false]
  omega
theorem cnt_0 : cntS (inS L0) 10080 = 25 := by rw [← nf_0.sum]; rfl
theorem in_3 (m : Int) : inS L3 m = decide (m = 0) := by
  rw [Bool.eq_iff_iff]
  simp only [inS, Bool.or_eq_true, inO_iff, Bool.false_eq_true, or_false, decide_eq_true_eq]
  omega
theorem nx_3 : NxIs (inS L3) 1 10079 := by
  refine Or.inr ⟨by decide, by decide, by rw [in_3, in_3]; decide, fun k h1 h2 => ?_⟩
  rw [in_3, in_3, decide_eq_decide]
  omega
theorem rsame_true (A1 A2 : Option Addr) (c1 c2 : Nat) (l : List Spn) (w : World) (hl : l.length ≤ 100000) (hA1 : SpAt w w.heap.size A1 l) (hA2 : SpAt w w.heap.size A2 l) :
    Calls Try.prog 15 #[.slice A1 l.length c1, .slice A2 l.length c2] w (OutB w true) := by
  have := rsame_any A1 A2 c1 c2 l l w hl hl hA1 hA2
  rwa [decide_eq_true rfl] at this
theorem lit_new (w : World) (l : List Spn) (T : TypeId) (hl : ∀ s ∈ l, I64 s.1 ∧ I64 s.2) : SpAt (w.alloc (.cells (flS l).toArray T)) (w.alloc (.cells (flS l).toArray T)).heap.size (some ⟨w.heap.size, 0, none⟩) l := lit_at (blk_new _ _) hl

set_option maxRecDepth 100000 in
set_option maxHeartbeats 4000000 in
theorem sawake_any (w : World) : Calls Try.prog 12 #[] w (OutB w true) := by
  go_enter Try.func12, Try.ntmps12
  go_wp2_with fail
  have X := Lib.hid (show Aw w ((((w.alloc (.cells #[.int .i64 10, .int .i64 20, .int .i64 5, .int .i64 10, .int .i64 30, .int .i64 40, .int .i64 35, .int .i64 36, .int .i64 7, .int .i64 7] 37)).alloc (.cells #[.int .i64 0, .int .i64 100] 37)).alloc (.cells #[.int .i64 50, .int .i64 150, .int .i64 90, .int .i64 95] 37)).alloc (.cells #[.int .i64 0, .int .i64 1] 37)) from
    ⟨blk_alloc (blk_alloc (blk_alloc (blk_new _ _) _) _) _, blk_alloc (blk_alloc (new_one _ _ _) _) _, blk_alloc (new_two _ _ _ _) _, new_three _ _ _ _ _,
      (((alloc_below _ _).alloc (by simp) _).alloc (by simp; omega) _).alloc (by simp; omega) _⟩)
  refine (snorm_any _ _ 5 L0 (by decide) X.out.s0).mono ?_
  rintro e w1 ⟨A1, c1, F, rfl, hs, hn, hb⟩
  obtain rfl := hn.one nf_0
  have R := Lib.hid hs
  have X := Lib.hid (X.out.next hb)
  clear hs hn hb
  go_wp2_with fail
  refine (rsame_true _ _ c1 2 [(5, 20), (30, 40)] _ (by decide) ((R.out.below (alloc_below _ _)).mono (by simp)) (lit_new w1 [(5, 20), (30, 40)] 37 (small_list (by decide)))).mono ?_
  rintro e w2 ⟨rfl, hb⟩
  have X := Lib.hid ((X.out.next (alloc_below _ _)).next hb)
  clear hb R
  go_wp2_with fail
  refine (slength_any _ _ 5 L0 (by decide) X.out.s0).mono ?_
  rw [cnt_0]
  rintro e w3 ⟨rfl, hb⟩
  have X := Lib.hid (X.out.next hb)
  clear hb
  go_wp2_with fail
  refine (scross_any _ _ _ 1 2 L1 L2 (by decide) (by decide) X.out.s1 X.out.s2).mono ?_
  rintro e w4 ⟨A1, c1, F, rfl, hs, hn, hb⟩
  obtain rfl := hn.one nf_1
  have R := Lib.hid hs
  have X := Lib.hid (X.out.next hb)
  clear hs hn hb
  go_wp2_with fail
  refine (rsame_true _ _ c1 1 [(50, 100)] _ (by decide) ((R.out.below (alloc_below _ _)).mono (by simp)) (lit_new w4 [(50, 100)] 37 (small_list (by decide)))).mono ?_
  rintro e w5 ⟨rfl, hb⟩
  have X := Lib.hid ((X.out.next (alloc_below _ _)).next hb)
  clear hb R
  go_wp2_with fail
  refine (sminus_any _ _ _ 1 2 L1 L2 (by decide) (by decide) X.out.s1 X.out.s2).mono ?_
  rintro e w6 ⟨A1, c1, F, rfl, hs, hn, hb⟩
  obtain rfl := hn.one nf_2
  have R := Lib.hid hs
  have X := Lib.hid (X.out.next hb)
  clear hs hn hb
  go_wp2_with fail
  refine (rsame_true _ _ c1 1 [(0, 50)] _ (by decide) ((R.out.below (alloc_below _ _)).mono (by simp)) (lit_new w6 [(0, 50)] 37 (small_list (by decide)))).mono ?_
  rintro e w7 ⟨rfl, hb⟩
  have X := Lib.hid ((X.out.next (alloc_below _ _)).next hb)
  clear hb R
  go_wp2_with fail
  refine (sunion_any _ _ _ 1 2 L1 L2 (by decide) (by decide) X.out.s1 X.out.s2).mono ?_
  rintro e w8 ⟨A1, c1, F, rfl, hs, hn, hb⟩
  obtain rfl := hn.one nf_3
  have R := Lib.hid hs
  have X := Lib.hid (X.out.next hb)
  clear hs hn hb
  go_wp2_with fail
  refine (rsame_true _ _ c1 1 [(0, 150)] _ (by decide) ((R.out.below (alloc_below _ _)).mono (by simp)) (lit_new w8 [(0, 150)] 37 (small_list (by decide)))).mono ?_
  rintro e w9 ⟨rfl, hb⟩
  have X := Lib.hid ((X.out.next (alloc_below _ _)).next hb)
  clear hb R
  go_wp2_with fail
  refine (shas_any _ 1 L3 10080 _ (by decide) X.out.s3).mono ?_
  rw [show inS L3 (10080 % 10080) = true from rfl]
  rintro e w10 ⟨rfl, hb⟩
  have X := Lib.hid (X.out.next hb)
  clear hb
  go_wp2_with fail
  refine (shas_any _ 1 L3 (-1) _ (by decide) X.out.s3).mono ?_
  rw [show inS L3 (-1 % 10080) = false from rfl]
  rintro e w11 ⟨rfl, hb⟩
  have X := Lib.hid (X.out.next hb)
  clear hb
  go_wp2_with fail
  refine (snext_any _ _ 1 L3 1 (by decide) X.out.s3).mono ?_
  rintro e w12 ⟨r, rfl, hx, hb⟩
  obtain rfl := hx.one nx_3
  have X := Lib.hid (X.out.next hb)
  clear hb hx
  go_wp2_with fail
  refine (sdaily_any 64 1380 60 _).mono ?_
  rintro e w13 ⟨A1, c1, F, rfl, hs, hn, hb⟩
  obtain rfl := hn.one nf_4
  have R := Lib.hid hs
  have X := Lib.hid (X.out.next hb)
  clear hs hn hb
  go_wp2_with fail
  refine (rsame_true _ _ c1 2 [(0, 60), (10020, 10080)] _ (by decide) ((R.out.below (alloc_below _ _)).mono (by simp)) (lit_new w13 [(0, 60), (10020, 10080)] 37 (small_list (by decide)))).mono ?_
  rintro e w14 ⟨rfl, hb⟩
  have X := Lib.hid ((X.out.next (alloc_below _ _)).next hb)
  clear hb R
  go_wp2_with fail
  go_ret
  exact outB rfl X.out.below
end Go.Proofs.Ytnocbgimfmgdeaa
