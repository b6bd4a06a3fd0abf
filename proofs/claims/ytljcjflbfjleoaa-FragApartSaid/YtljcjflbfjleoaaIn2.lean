/- A list appended to a part of a row of the call's own, in its room or out of it; for every seat. -/
import Derived.Test.YtljcjflbfjleoaaIn
set_option linter.unusedVariables false
namespace Go.Proofs.Ytljcjflbfjleoaa
open Go.RowKit
section
variable {α : Type} {F : Flat α} {T : TypeId}
theorem OwnT.more {P : Program} {t : TypeId} (E : Elems P t T F.sz) {w : World} {B : Nat} {v : Value} {l m : List α} (ty : TypeId) (h : OwnT F T w B v l) (A2 : Addr) (c2 : Nat) (hm : ∀ (j : Nat) (u : Value), (m.flatMap F.enc)[j]? = some u → w.cell? (A2.add j) = some u) (hok : ∀ x ∈ m, F.ok x) (hl : l.length + m.length ≤ 10000000) (hB : B ≤ w.heap.size) :
    ∃ v' w', (Builtin.append_ #[t, t] ty #[v, .slice (some A2) m.length c2]).run P w = .ok v' w' ∧ OwnT F T w' B v' (l ++ m) ∧ w.grownBy w' v.ownBlock := by
  obtain ⟨g, off, cap, cur, rfl, R⟩ := h.ro
  by_cases hc : l.length + m.length ≤ cap
  · obtain ⟨w', cur', h1, h2, _, h4⟩ := R.app E ty A2 c2 hm hok hc
    have := h2.own
    rw [List.length_append] at this
    exact ⟨_, w', h1, this, h4⟩
  · obtain ⟨i0, z, bts, q1, q2, q3, q4, q5, q6⟩ := E.info
    have holds : ∀ (j : Nat) (u : Value), (l.flatMap F.enc)[j]? = some u → w.cell? ((⟨g, off, none⟩ : Addr).add j) = some u := fun j u hu => by
      rw [add_at, cell_of_row w g (off + j) cur T (0, 0) R.blk, ← Array.getElem?_toList]
      exact R.has j u hu
    have hr := run_append_grow (P := P) w t ty T i0 z E.ut q1 q2 ⟨g, off, none⟩ l.length cap (l.flatMap F.enc) (by rw [q3, flat_len]) holds A2 m.length c2 (m.flatMap F.enc) (by rw [q3, flat_len]) hm (by omega) (by omega)
      (growslice_fits (by omega) (by rw [q4]; exact Nat.le_trans (Nat.mul_le_mul (show l.length + m.length ≤ 100000000 by omega) q5) (by omega)))
    have hge := grownCap_ge w (l.length + m.length) cap T
    have hok2 : ∀ a ∈ l ++ m, F.ok a := fun a ha => by
      rcases List.mem_append.1 ha with k | k
      · exact R.ok a k
      · exact hok a k
    refine ⟨_, _, hr, ⟨_, 0, _, _, by rw [List.length_append]; rfl, ?_, heap_alloc_new _ _, by rw [List.length_append]; exact hge, ?_, fun j u hu => ?_, hok2⟩, ⟨rfl, rfl, rfl, by simp, fun k hk _ => heap_alloc_old w.drew _ hk⟩⟩
    · exact hB
    · simp only [Array.size_append, List.size_toArray, size_zeroCells, q6, flat_len]
      have : (l.length + m.length) * F.sz + (grownCap w (l.length + m.length) cap T - (l.length + m.length)) * F.sz = grownCap w (l.length + m.length) cap T * F.sz := by rw [← Nat.add_mul]; congr 1; omega
      rw [Nat.add_mul] at this
      omega
    · have hj : j < (l.flatMap F.enc ++ m.flatMap F.enc).length := by rw [← flat_app]; exact (List.getElem?_eq_some_iff.1 hu).1
      rw [Nat.zero_add, Array.getElem?_append_left (by simpa using hj)]
      have e : (l.flatMap F.enc).toArray ++ (m.flatMap F.enc).toArray = ((l ++ m).flatMap F.enc).toArray := by rw [flat_app]; simp
      rw [e, List.getElem?_toArray]
      exact hu
end
end Go.Proofs.Ytljcjflbfjleoaa
