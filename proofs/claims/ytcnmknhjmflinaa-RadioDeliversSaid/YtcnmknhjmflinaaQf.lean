/- A part of a row of the call's own, of any flat type: cut off at its beginning ('q[k:]'), appended to at its end; for every seat. -/
import Derived.Test.YtcnmknhjmflinaaAf
import Derived.Maps.AppendAt
set_option linter.unusedVariables false
namespace Go.Proofs.Ytcnmknhjmflinaa
open Go.RowKit
section
variable {α : Type} {F : Flat α} {T : TypeId}
def OwnT (F : Flat α) (T : TypeId) (w : World) (B : Nat) (v : Value) (l : List α) : Prop := ∃ g off cap cur, v = .slice (some ⟨g, off, none⟩) l.length cap ∧ B ≤ g ∧ w.heap[g]? = some (.cells cur T (0, 0)) ∧ l.length ≤ cap ∧ off + cap * F.sz ≤ cur.size ∧ (∀ (j : Nat) (u : Value), (l.flatMap F.enc)[j]? = some u → cur[off + j]? = some u) ∧ ∀ a ∈ l, F.ok a
theorem OwnT.of_own {w : World} {B : Nat} {v : Value} {l : List α} (h : OwnF F T w B v l) (hl : l ≠ []) : OwnT F T w B v l := by
  obtain ⟨⟨h0, h1⟩, h2⟩ := h
  rcases h1 with ⟨_, e⟩ | ⟨g, cap, cur, hv, hB, hg, hn, hm, hs, ht⟩
  · exact absurd (List.eq_nil_of_length_eq_zero e) hl
  · refine ⟨g, 0, cap, cur, hv, hB, hg, hn, by rw [hs]; omega, fun j u hu => ?_, h2⟩
    have hj : j < l.length * F.sz := by rw [← flat_len (F := F)]; exact (List.getElem?_eq_some_iff.1 hu).1
    have e : (cur.toList.take (l.length * F.sz))[j]? = some u := by rw [ht]; exact hu
    rw [List.getElem?_take_of_lt hj] at e
    rw [Nat.zero_add, ← Array.getElem?_toList]
    exact e
theorem OwnT.lt {w : World} {B : Nat} {v : Value} {l : List α} (h : OwnT F T w B v l) : ∀ g, v.ownBlock = some g → B ≤ g ∧ g < w.heap.size := by
  obtain ⟨g, off, cap, cur, rfl, h1, h2, h3⟩ := h
  rintro k hk
  simp [Value.ownBlock] at hk
  subst hk
  exact ⟨h1, (Array.getElem?_eq_some_iff.1 h2).1⟩
theorem OwnT.below {w w' : World} {B : Nat} {v : Value} {l : List α} (h : OwnT F T w B v l) (hb : Below w.heap.size w w') : OwnT F T w' B v l := by
  obtain ⟨g, off, cap, cur, rfl, h1, h2, h3⟩ := h
  exact ⟨g, off, cap, cur, rfl, h1, (hb.block g (Array.getElem?_eq_some_iff.1 h2).1).trans h2, h3⟩
theorem OwnT.down {w : World} {B B' : Nat} {v : Value} {l : List α} (h : OwnT F T w B v l) (hB : B' ≤ B) : OwnT F T w B' v l := by
  obtain ⟨g, off, cap, cur, rfl, h1, h2⟩ := h
  exact ⟨g, off, cap, cur, rfl, by omega, h2⟩
theorem OwnT.slS {w : World} {B : Nat} {v : Value} {l : List α} (h : OwnT F T w B v l) : ∃ A c, v = .slice A l.length c ∧ SlS F w A c l := by
  obtain ⟨g, off, cap, cur, rfl, h1, h2, h3, h4, h5, h6⟩ := h
  refine ⟨_, _, rfl, fun i hi => ⟨g, off, rfl, (Array.getElem?_eq_some_iff.1 h2).1, fun j u hu => ?_, h6 _ (List.getElem_mem hi)⟩, h3, fun e => by cases e⟩
  have hj : j < F.sz := by rw [← F.len l[i]]; exact (List.getElem?_eq_some_iff.1 hu).1
  rw [Nat.add_assoc, cell_of_row w g (off + (i * F.sz + j)) cur T (0, 0) h2]
  exact h5 _ _ (by rw [flat_get l i hi j hj]; exact hu)
theorem flat_app (a b : List α) : (a ++ b).flatMap F.enc = a.flatMap F.enc ++ b.flatMap F.enc := List.flatMap_append
/-- 'q[k:]'. -/
theorem OwnT.cut {P : Program} {t : TypeId} (ut : P.underlying t = some (.slice (P.elem t))) (sz : ∀ W : World, (sizeOf (P.elem t)).run P W = .ok F.sz W) {w : World} {B : Nat} {v : Value} {l : List α} (h : OwnT F T w B v l) (k : Nat) (hk : k ≤ l.length) :
    ∃ v', (∀ W : World, (Instr.sliceAt t v (some (.int .i64 (k : Int))) none none).run P W = .ok v' W) ∧ OwnT F T w B v' (l.drop k) := by
  obtain ⟨g, off, cap, cur, rfl, h1, h2, h3, h4, h5, h6⟩ := h
  have e1 : ∀ W : World, (Instr.sliceAt t (.slice (some ⟨g, off, none⟩) l.length cap) (some (.int .i64 (k : Int))) none none).run P W = .ok (sliced (some ⟨g, off, none⟩) k l.length cap F.sz) W := fun W => by
    rw [run_sliceAt_slice W _ _ _ _ _ ut, run_slice_l W _ _ l.length cap ut .i64 k (by omega) (by omega), sz]
    rfl
  have hadd : ∀ j, (⟨g, off, none⟩ : Addr).add j = ⟨g, off + j, none⟩ := fun j => by unfold Addr.add; split <;> simp_all
  have hd : (l.drop k).length = l.length - k := List.length_drop
  by_cases hc : cap = k
  · have hn : l.drop k = [] := List.drop_of_length_le (by omega)
    refine ⟨.slice (some ⟨g, off, none⟩) (l.drop k).length 0, fun W => (e1 W).trans ?_, g, off, 0, cur, rfl, h1, h2, by rw [hn]; simp, by omega, fun j u hu => by rw [hn] at hu; simp at hu, fun a ha => by rw [hn] at ha; cases ha⟩
    unfold sliced
    rw [hd]
    simp [hc]
  · have hkk : k < cap := by omega
    refine ⟨.slice (some ⟨g, off + k * F.sz, none⟩) (l.drop k).length (cap - k), fun W => (e1 W).trans ?_, g, off + k * F.sz, cap - k, cur, rfl, h1, h2, by rw [hd]; omega, ?_, fun j u hu => ?_, fun a ha => h6 a (List.mem_of_mem_drop ha)⟩
    · unfold sliced
      rw [hd]
      simp [hc, hadd]
    · have : (cap - k) * F.sz + k * F.sz = cap * F.sz := by rw [← Nat.add_mul]; congr 1; omega
      omega
    · have e : l.flatMap F.enc = (l.take k).flatMap F.enc ++ (l.drop k).flatMap F.enc := by rw [← flat_app, List.take_append_drop]
      have hl : ((l.take k).flatMap F.enc).length = k * F.sz := by rw [flat_len, List.length_take, Nat.min_eq_left hk]
      rw [Nat.add_assoc]
      exact h5 _ _ (by rw [e, List.getElem?_append_right (by omega), hl, Nat.add_sub_cancel_left]; exact hu)
/-- One element more, out of a new block: in the row, if there is room, else in a new one. -/
theorem OwnT.one {P : Program} {t : TypeId} (E : Elems P t T F.sz) {w : World} {B : Nat} {v : Value} {l : List α} (ty : TypeId) (h : OwnT F T w B v l) (x : α) (cs : Array Value) (hcs : cs.toList = F.enc x) (hx : F.ok x) (hl : l.length ≤ 10000000) (hB : B ≤ w.heap.size) :
    ∃ v' w', (Builtin.append_ #[t, t] ty #[v, .slice (some ⟨w.heap.size, 0, none⟩) 1 1]).run P (w.alloc (.cells cs T)) = .ok v' w' ∧ OwnT F T w' B v' (l ++ [x]) ∧ Below B w w' := by
  obtain ⟨i0, z, m, q1, q2, q3, q4, q5, q6⟩ := E.info
  obtain ⟨g, off, cap, cur, rfl, h1, h2, h3, h4, h5, h6⟩ := h
  have hgl : g < w.heap.size := (Array.getElem?_eq_some_iff.1 h2).1
  have h2' : (w.alloc (.cells cs T)).heap[g]? = some (.cells cur T (0, 0)) := (Below.heap_alloc _ _ g hgl).trans h2
  have hadd : ∀ j, (⟨g, off, none⟩ : Addr).add j = ⟨g, off + j, none⟩ := fun j => by unfold Addr.add; split <;> simp_all
  have hok : ∀ a ∈ l ++ [x], F.ok a := fun a ha => by
    rcases List.mem_append.1 ha with k | k
    · exact h6 a k
    · rw [List.mem_singleton.1 k]; exact hx
  have hnew : ∀ (j : Nat) (u : Value), (F.enc x)[j]? = some u → (w.alloc (.cells cs T)).cell? ((⟨w.heap.size, 0, none⟩ : Addr).add j) = some u := fun j u hu => by
    have e : (⟨w.heap.size, 0, none⟩ : Addr).add j = ⟨w.heap.size, j, none⟩ := by unfold Addr.add; split <;> simp_all
    rw [e]
    exact blk_cell (blk_new w (.cells cs T)) j (by rw [← Array.getElem?_toList, hcs]; exact hu)
  have hxl : (F.enc x).length = F.sz := F.len x
  have hf1 : (l ++ [x]).flatMap F.enc = l.flatMap F.enc ++ F.enc x := by rw [flat_app]; simp
  have hll : (l.flatMap F.enc).length = l.length * F.sz := flat_len l
  by_cases hc : l.length + 1 ≤ cap
  · have hroom : off + l.length * F.sz + F.sz ≤ cur.size := by
      have : (l.length + 1) * F.sz ≤ cap * F.sz := Nat.mul_le_mul_right _ hc
      rw [Nat.add_mul, Nat.one_mul] at this
      omega
    have hf := run_firstCells_some (P := P) (w.alloc (.cells cs T)) i0.size 1 ⟨w.heap.size, 0, none⟩ 1 1 (F.enc x) (by rw [q3, hxl, Nat.one_mul]) hnew
    have hst := run_storeCells_at P g (off + l.length * F.sz) T (F.enc x) 0 cur _ h2' (by rw [hxl]; omega) (fun v hv => by have := flat_one [x] v (by simpa using hv); exact this)
    simp only [Nat.add_zero, hxl] at hst
    obtain ⟨cur2, hcur2⟩ : ∃ cur2, cur2 = (cur.toList.take (off + l.length * F.sz) ++ F.enc x ++ cur.toList.drop (off + l.length * F.sz + F.sz)).toArray := ⟨_, rfl⟩
    rw [← hcur2] at hst
    have hlen : (cur.toList.take (off + l.length * F.sz)).length = off + l.length * F.sz := by rw [List.length_take, Array.length_toList (xs := cur)]; omega
    refine ⟨.slice (some ⟨g, off, none⟩) (l.length + 1) cap, (w.alloc (.cells cs T)).setRow g cur2, ?_, ⟨g, off, cap, cur2, by rw [List.length_append]; rfl, h1, setRow_heap _ g cur _ T _ h2', by simp; omega, ?_, fun j u hu => ?_, hok⟩, ⟨rfl, rfl, rfl, by simp, fun k hk => ?_⟩⟩
    · simp [Builtin.append_, run_underlying E.ut, sizeOf, typeInfo, q1, q3, Builtin.lenOf, hc, hadd]
      rw [q3] at hf
      simp [hf, hst]
    · rw [hcur2]
      simp only [List.size_toArray, List.length_append, hlen, hxl, List.length_drop, Array.length_toList (xs := cur)]
      omega
    · rw [hcur2, List.getElem?_toArray, List.append_assoc]
      rw [hf1] at hu
      rcases Nat.lt_or_ge j (l.length * F.sz) with c | c
      · rw [List.getElem?_append_left (by rw [hll]; exact c)] at hu
        rw [List.getElem?_append_left (by rw [hlen]; omega), List.getElem?_take_of_lt (by omega), Array.getElem?_toList]
        exact h5 j u hu
      · rw [List.getElem?_append_right (by rw [hll]; exact c), hll] at hu
        have hj : j - l.length * F.sz < F.sz := by have := (List.getElem?_eq_some_iff.1 hu).1; rw [hxl] at this; exact this
        rw [List.getElem?_append_right (by rw [hlen]; omega), hlen, List.getElem?_append_left (by rw [hxl]; omega), show off + j - (off + l.length * F.sz) = j - l.length * F.sz by omega]
        exact hu
    · exact (setRow_other (w.alloc (.cells cs T)) g k cur2 (fun e => by omega)).trans (Below.heap_alloc _ _ k (by omega))
  · have holds : ∀ (j : Nat) (u : Value), (l.flatMap F.enc)[j]? = some u → (w.alloc (.cells cs T)).cell? ((⟨g, off, none⟩ : Addr).add j) = some u := fun j u hu => by
      rw [hadd, cell_of_row _ g (off + j) cur T (0, 0) h2']
      exact h5 j u hu
    have hr := run_append_grow (P := P) (w.alloc (.cells cs T)) t ty T i0 z E.ut q1 q2 ⟨g, off, none⟩ l.length cap (l.flatMap F.enc) (by rw [q3, hll]) holds ⟨w.heap.size, 0, none⟩ 1 1 (F.enc x) (by rw [q3, hxl, Nat.one_mul]) hnew (by omega) (by omega)
      (growslice_fits (by omega) (by rw [q4]; exact Nat.le_trans (Nat.mul_le_mul (show l.length + 1 ≤ 100000000 by omega) q5) (by omega)))
    have hge := grownCap_ge (w.alloc (.cells cs T)) (l.length + 1) cap T
    refine ⟨_, _, hr, ⟨_, 0, _, _, by rw [List.length_append]; rfl, ?_, heap_alloc_new _ _, by rw [List.length_append]; exact hge, ?_, fun j u hu => ?_, hok⟩, ⟨rfl, rfl, rfl, ?_, fun k hk => ?_⟩⟩
    · simp; omega
    · simp only [Array.size_append, List.size_toArray, size_zeroCells, q6, hll, hxl]
      have : (l.length + 1) * F.sz + (grownCap (w.alloc (.cells cs T)) (l.length + 1) cap T - (l.length + 1)) * F.sz = grownCap (w.alloc (.cells cs T)) (l.length + 1) cap T * F.sz := by rw [← Nat.add_mul]; congr 1; omega
      rw [Nat.add_mul, Nat.one_mul] at this
      omega
    · have hj : j < (l.flatMap F.enc ++ F.enc x).length := by rw [← hf1]; exact (List.getElem?_eq_some_iff.1 hu).1
      rw [Nat.zero_add, Array.getElem?_append_left (by simpa using hj)]
      have e : (l.flatMap F.enc).toArray ++ (F.enc x).toArray = ((l ++ [x]).flatMap F.enc).toArray := by rw [hf1]; simp
      rw [e, List.getElem?_toArray]
      exact hu
    · simp; omega
    · exact (Below.heap_alloc _ _ k (show k < (w.alloc _).heap.size by simp; omega)).trans (Below.heap_alloc w _ k (by omega))
end
end Go.Proofs.Ytcnmknhjmflinaa
