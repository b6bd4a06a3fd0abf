/- A queue of numbers: a part of a row of the call's own, appended to at its end, cut off at its beginning; for every seat. -/
import Derived.Test.YtcnmknhjmflinaaSh
import Derived.Maps.AppendAt
set_option linter.unusedVariables false
namespace Go.Proofs.Ytcnmknhjmflinaa
open Go.RowKit

theorem fI_flat : ∀ l : List Int, l.flatMap fI.enc = l.map fun x => Value.int .i64 x
  | [] => rfl
  | a :: l => by rw [List.flatMap_cons, fI_flat l]; rfl
/-- A part of a row of the call's own. -/
def OwnQ (w : World) (B : Nat) (v : Value) (l : List Int) : Prop := ∃ g off cap cur, v = .slice (some ⟨g, off, none⟩) l.length cap ∧ B ≤ g ∧ w.heap[g]? = some (.cells cur 3 (0, 0)) ∧ l.length ≤ cap ∧ off + cap ≤ cur.size ∧ (∀ i (h : i < l.length), cur[off + i]? = some (.int .i64 l[i])) ∧ ∀ a ∈ l, I64 a
theorem OwnQ.of_own {w : World} {B : Nat} {v : Value} {l : List Int} (h : OwnF fI 3 w B v l) (hl : l ≠ []) : OwnQ w B v l := by
  obtain ⟨⟨h0, h1⟩, h2⟩ := h
  rcases h1 with ⟨_, e⟩ | ⟨g, cap, cur, hv, hB, hg, hn, hm, hs, ht⟩
  · exact absurd (List.eq_nil_of_length_eq_zero e) hl
  · refine ⟨g, 0, cap, cur, hv, hB, hg, hn, ?_, fun i hi => ?_, h2⟩
    · have hs' : cur.size = cap := by rw [hs]; show cap * 1 = cap; omega
      omega
    · have e : (cur.toList.take (l.length * fI.sz))[i]? = (l.map fun x => Value.int .i64 x)[i]? := by
        rw [ht, fI_flat]
      have e1 : l.length * fI.sz = l.length := by show l.length * 1 = l.length; omega
      rw [e1, List.getElem?_take_of_lt hi, List.getElem?_map, List.getElem?_eq_getElem hi] at e
      rw [Nat.zero_add, ← Array.getElem?_toList]
      exact e
theorem OwnQ.block {w w' : World} {B : Nat} {v : Value} {l : List Int} (h : OwnQ w B v l) (hb : ∀ g, v.ownBlock = some g → w'.heap[g]? = w.heap[g]?) : OwnQ w' B v l := by
  obtain ⟨g, off, cap, cur, rfl, h1, h2, h3⟩ := h
  exact ⟨g, off, cap, cur, rfl, h1, (hb g rfl).trans h2, h3⟩
theorem OwnQ.lt {w : World} {B : Nat} {v : Value} {l : List Int} (h : OwnQ w B v l) : ∀ g, v.ownBlock = some g → B ≤ g ∧ g < w.heap.size := by
  obtain ⟨g, off, cap, cur, rfl, h1, h2, h3⟩ := h
  rintro k hk
  simp [Value.ownBlock] at hk
  subst hk
  exact ⟨h1, (Array.getElem?_eq_some_iff.1 h2).1⟩
theorem OwnQ.below {w w' : World} {B : Nat} {v : Value} {l : List Int} (h : OwnQ w B v l) (hb : Below w.heap.size w w') : OwnQ w' B v l := h.block fun g hg => hb.block g (h.lt g hg).2
theorem OwnQ.kept {w w' : World} {r : Option Nat} {B : Nat} {v : Value} {l : List Int} (h : OwnQ w B v l) (hg : w.grownBy w' r) (hne : v.ownBlock ≠ r) : OwnQ w' B v l := h.block fun g hgg => hg.block g (h.lt g hgg).2 (by rw [← hgg]; exact hne)
theorem OwnQ.alloc {w : World} {B : Nat} {v : Value} {l : List Int} (h : OwnQ w B v l) (o : Obj) : OwnQ (w.alloc o) B v l := h.below (alloc_below _ _)
theorem OwnQ.form {w : World} {B : Nat} {v : Value} {l : List Int} (h : OwnQ w B v l) : ∃ g off cap, v = .slice (some ⟨g, off, none⟩) l.length cap ∧ l.length ≤ cap := by
  obtain ⟨g, off, cap, cur, rfl, h1, h2, h3, _⟩ := h
  exact ⟨g, off, cap, rfl, h3⟩
theorem OwnQ.cell {w : World} {B g off cap : Nat} {l : List Int} (h : OwnQ w B (.slice (some ⟨g, off, none⟩) l.length cap) l) (i : Nat) (hi : i < l.length) : w.cell? ⟨g, off + i, none⟩ = some (.int .i64 l[i]) := by
  obtain ⟨g', off', cap', cur, e, h1, h2, h3, h4, h5, h6⟩ := h
  simp only [Value.slice.injEq, Option.some.injEq, Addr.mk.injEq, and_true, true_and] at e
  obtain ⟨⟨rfl, rfl⟩, rfl⟩ := e
  rw [cell_of_row w g (off + i) cur 3 (0, 0) h2]
  exact h5 i hi
/-- 'q[1:]'. -/
theorem OwnQ.tail {w : World} {B g off cap : Nat} {x : Int} {l : List Int} (h : OwnQ w B (.slice (some ⟨g, off, none⟩) (l.length + 1) cap) (x :: l)) : (cap = 1 → OwnQ w B (.slice (some ⟨g, off, none⟩) l.length 0) l) ∧ (1 < cap → OwnQ w B (.slice (some ⟨g, off + 1, none⟩) l.length (cap - 1)) l) := by
  obtain ⟨g', off', cap', cur, e, h1, h2, h3, h4, h5, h6⟩ := h
  simp only [Value.slice.injEq, Option.some.injEq, Addr.mk.injEq, and_true] at e
  obtain ⟨⟨rfl, rfl⟩, _, rfl⟩ := e
  rw [List.length_cons] at h3
  refine ⟨fun hc => ?_, fun hc => ?_⟩
  · obtain rfl : l = [] := List.eq_nil_of_length_eq_zero (by omega)
    exact ⟨g, off, 0, cur, rfl, h1, h2, Nat.le_refl _, by omega, fun i hi => by simp at hi, fun a ha => by cases ha⟩
  · refine ⟨g, off + 1, cap - 1, cur, rfl, h1, h2, by omega, by omega, fun i hi => ?_, fun a ha => h6 a (List.mem_cons_of_mem _ ha)⟩
    have := h5 (i + 1) (by simp; omega)
    rw [Nat.add_assoc, Nat.add_comm 1 i]
    simpa using this
/-- One number more: in the row, if there is room, else in a new one. -/
theorem app_queue {w : World} {B : Nat} {v : Value} {l : List Int} (h : OwnQ w B v l) (x : Int) (hx : I64 x) (hl : l.length ≤ 1000000) (hB : B ≤ w.heap.size) (ut : Try.prog.underlying 23 = some (.slice 3)) (hi0 : (Try.prog.info? 3).map (fun i => (i.zero, i.size, i.bytes)) = some (some (.int .i64 0), 1, 8)) :
    ∃ v' w', (Builtin.append_ #[23, 23] 23 #[v, .slice (some ⟨w.heap.size, 0, none⟩) 1 1]).run Try.prog (w.alloc (.cells #[.int .i64 x] 3)) = .ok v' w' ∧ OwnQ w' B v' (l ++ [x]) ∧ w.grownBy w' v.ownBlock ∧ (v'.ownBlock = v.ownBlock ∨ ∃ b, v'.ownBlock = some b ∧ w.heap.size ≤ b) := by
  obtain ⟨i0, q1, q2, q3, q4⟩ := info_get hi0
  obtain ⟨g, off, cap, cur, rfl, h1, h2, h3, h4, h5, h6⟩ := h
  have hgl : g < w.heap.size := (Array.getElem?_eq_some_iff.1 h2).1
  have h2' : (w.alloc (.cells #[.int .i64 x] 3)).heap[g]? = some (.cells cur 3 (0, 0)) := (Below.heap_alloc _ _ g hgl).trans h2
  have hok : ∀ a ∈ l ++ [x], I64 a := fun a ha => by
    rcases List.mem_append.1 ha with k | k
    · exact h6 a k
    · rw [List.mem_singleton.1 k]; exact hx
  by_cases hc : l.length + 1 ≤ cap
  · have hf := run_firstCells_some (P := Try.prog) (w.alloc (.cells #[.int .i64 x] 3)) i0.size 1 ⟨w.heap.size, 0, none⟩ 1 1 [.int .i64 x] (by rw [q3]; rfl) (cell_one_new _ _ _)
    have hst := run_storeCells_at Try.prog g (off + l.length) 3 [.int .i64 x] 0 cur _ h2' (by simp; omega) (by intro v hv; simp at hv; subst hv; rfl)
    simp only [Nat.add_zero] at hst
    have hadd : (⟨g, off, none⟩ : Addr).add l.length = ⟨g, off + l.length, none⟩ := by unfold Addr.add; split <;> simp_all
    refine ⟨.slice (some ⟨g, off, none⟩) (l.length + 1) cap, (w.alloc (.cells #[.int .i64 x] 3)).setRow g (cur.toList.take (off + l.length) ++ [Value.int .i64 x] ++ cur.toList.drop (off + l.length + [Value.int .i64 x].length)).toArray, ?_, ⟨g, off, cap, (cur.toList.take (off + l.length) ++ [Value.int .i64 x] ++ cur.toList.drop (off + l.length + [Value.int .i64 x].length)).toArray, by rw [List.length_append]; rfl, h1, setRow_heap _ g cur _ 3 _ h2', by simp; omega, ?_, fun i hi => ?_, hok⟩, ⟨rfl, rfl, rfl, by simp, fun k hk hne => ?_⟩, Or.inl rfl⟩
    · simp [Builtin.append_, run_underlying ut, sizeOf, typeInfo, q1, q3, Builtin.lenOf, hc, hadd]
      rw [q3] at hf
      simp [hf, hst]
    · simp; omega
    · have hlen : (cur.toList.take (off + l.length)).length = off + l.length := by rw [List.length_take, Array.length_toList (xs := cur)]; omega
      rw [List.getElem?_toArray, List.append_assoc]
      rcases Nat.lt_or_ge i l.length with c | c
      · rw [List.getElem?_append_left (by rw [hlen]; omega), List.getElem?_take_of_lt (by omega), Array.getElem?_toList, h5 i c, List.getElem_append_left c]
      · obtain rfl : i = l.length := by simp at hi; omega
        rw [List.getElem?_append_right (by rw [hlen]; exact Nat.le_refl _), hlen]
        simp
    · have e := setRow_other (w.alloc (.cells #[.int .i64 x] 3)) g k (cur.toList.take (off + l.length) ++ [Value.int .i64 x] ++ cur.toList.drop (off + l.length + [Value.int .i64 x].length)).toArray (fun e => hne (by simp [Value.ownBlock, e]))
      exact e.trans (Below.heap_alloc _ _ k hk)
  · have holds : ∀ j u, (l.map fun y => Value.int .i64 y)[j]? = some u → (w.alloc (.cells #[.int .i64 x] 3)).cell? ((⟨g, off, none⟩ : Addr).add j) = some u := fun j u hu => by
      rw [List.getElem?_map] at hu
      obtain ⟨y, hy, rfl⟩ := Option.map_eq_some_iff.1 hu
      obtain ⟨hj, rfl⟩ := List.getElem?_eq_some_iff.1 hy
      have hadd : (⟨g, off, none⟩ : Addr).add j = ⟨g, off + j, none⟩ := by unfold Addr.add; split <;> simp_all
      rw [hadd, cell_of_row _ g (off + j) cur 3 (0, 0) h2']
      exact h5 j hj
    have hr := run_append_grow (P := Try.prog) (w.alloc (.cells #[.int .i64 x] 3)) 23 23 3 i0 (.int .i64 0) ut q1 q2 ⟨g, off, none⟩ l.length cap (l.map fun y => Value.int .i64 y) (by rw [q3]; simp) holds ⟨w.heap.size, 0, none⟩ 1 1 [.int .i64 x] (by rw [q3]; rfl) (cell_one_new _ _ _) (by omega) (by omega)
      (growslice_fits (by omega) (by rw [q4]; omega))
    have hge := grownCap_ge (w.alloc (.cells #[.int .i64 x] 3)) (l.length + 1) cap 3
    refine ⟨_, _, hr, ⟨_, 0, _, _, by rw [List.length_append]; rfl, ?_, heap_alloc_new _ _, by rw [List.length_append]; exact hge, ?_, fun i hi => ?_, hok⟩, ⟨rfl, rfl, rfl, ?_, fun k hk hne => ?_⟩, Or.inr ⟨_, rfl, ?_⟩⟩
    · simp; omega
    · simp [size_zeroCells]
      show _ ≤ l.length + 1 + (grownCap _ _ _ _ - _) * 1
      omega
    · rw [Nat.zero_add]
      rw [Array.getElem?_append_left (by simpa using hi)]
      have e : (l.map (fun y => Value.int .i64 y)).toArray ++ [Value.int .i64 x].toArray = ((l ++ [x]).map fun y => Value.int .i64 y).toArray := by simp
      rw [e, List.getElem?_toArray, List.getElem?_map, List.getElem?_eq_getElem hi]
      rfl
    · simp; omega
    · exact (Below.heap_alloc _ _ k (show k < (w.alloc _).heap.size by simp; omega)).trans (Below.heap_alloc w _ k hk)
    · simp
end Go.Proofs.Ytcnmknhjmflinaa
