/- A whole element of a row of the call's own is written (any flat type); for every seat. -/
import Derived.Test.YtcnmknhjmflinaaSh
import Derived.Deep.MidRow
set_option linter.unusedVariables false
namespace Go.Proofs.Ytcnmknhjmflinaa
open Go.RowKit
/-- Values set one by one from a place on. -/
def setAll {β : Type} : List β → Nat → List β → List β
  | xs, _, [] => xs
  | xs, o, v :: r => setAll (xs.set o v) (o + 1) r
theorem setAll_len {β : Type} : ∀ (vs xs : List β) (o : Nat), (setAll xs o vs).length = xs.length
  | [], xs, o => rfl
  | v :: r, xs, o => by unfold setAll; rw [setAll_len r, List.length_set]
theorem setAll_out {β : Type} : ∀ (vs xs : List β) (o k : Nat), (k < o ∨ o + vs.length ≤ k) → (setAll xs o vs)[k]? = xs[k]?
  | [], xs, o, k, _ => rfl
  | v :: r, xs, o, k, h => by
    unfold setAll
    rw [setAll_out r _ (o + 1) k (by simp only [List.length_cons] at h; omega), List.getElem?_set_ne (by simp only [List.length_cons] at h; omega)]
theorem setAll_in {β : Type} : ∀ (vs xs : List β) (o j : Nat), j < vs.length → o + vs.length ≤ xs.length → (setAll xs o vs)[o + j]? = vs[j]?
  | v :: r, xs, o, 0, _, h => by
    unfold setAll
    rw [setAll_out r _ (o + 1) (o + 0) (by omega), Nat.add_zero, List.getElem?_set_self (by simp only [List.length_cons] at h; omega)]
    rfl
  | v :: r, xs, o, j + 1, hj, h => by
    unfold setAll
    rw [show o + (j + 1) = o + 1 + j by omega, setAll_in r _ (o + 1) j (by simpa using hj) (by rw [List.length_set]; simp only [List.length_cons] at h; omega)]
    rfl
section
variable {α : Type} {F : Flat α} {T : TypeId}
theorem flat_whole (l : List α) (i : Nat) (hi : i < l.length) (a : α) : setAll (l.flatMap F.enc) (i * F.sz) (F.enc a) = (l.set i a).flatMap F.enc := by
  have hp := F.pos
  have hla := F.len a
  have hlen : (l.flatMap F.enc).length = l.length * F.sz := flat_len l
  have hin : i * F.sz + F.sz ≤ l.length * F.sz := by
    have : (i + 1) * F.sz ≤ l.length * F.sz := Nat.mul_le_mul_right _ hi
    rw [Nat.add_mul, Nat.one_mul] at this
    exact this
  apply List.ext_getElem?
  intro k
  by_cases hk : k < l.length * F.sz
  · have hq : k / F.sz < l.length := Nat.div_lt_of_lt_mul (by rw [Nat.mul_comm]; exact hk)
    have hr : k % F.sz < F.sz := Nat.mod_lt _ hp
    have hkq : k = k / F.sz * F.sz + k % F.sz := by rw [Nat.mul_comm]; exact (Nat.div_add_mod k F.sz).symm
    have e2 : ((l.set i a).flatMap F.enc)[k]? = (F.enc ((l.set i a)[k / F.sz]'(by rw [List.length_set]; exact hq)))[k % F.sz]? := by
      have := flat_get (F := F) (l.set i a) (k / F.sz) (by rw [List.length_set]; exact hq) (k % F.sz) hr
      rw [← hkq] at this
      exact this
    rw [e2, List.getElem_set]
    by_cases c : i = k / F.sz
    · rw [if_pos c]
      have := setAll_in (F.enc a) (l.flatMap F.enc) (i * F.sz) (k % F.sz) (by rw [hla]; exact hr) (by rw [hla, hlen]; exact hin)
      rw [show i * F.sz + k % F.sz = k by rw [c]; exact hkq.symm] at this
      exact this
    · rw [if_neg c]
      have hap : k < i * F.sz ∨ i * F.sz + (F.enc a).length ≤ k := by
        rw [hla]
        rcases Nat.lt_or_gt_of_ne c with c | c
        · right
          have : (i + 1) * F.sz ≤ k / F.sz * F.sz := Nat.mul_le_mul_right _ c
          rw [Nat.add_mul, Nat.one_mul] at this
          omega
        · left
          have : (k / F.sz + 1) * F.sz ≤ i * F.sz := Nat.mul_le_mul_right _ c
          rw [Nat.add_mul, Nat.one_mul] at this
          omega
      rw [setAll_out _ _ _ _ hap]
      have := flat_get (F := F) l (k / F.sz) hq (k % F.sz) hr
      rw [← hkq] at this
      exact this
  · rw [List.getElem?_eq_none (by rw [setAll_len, hlen]; omega), List.getElem?_eq_none (by rw [flat_len, List.length_set]; omega)]
theorem row_setCells {w : World} {B g cap n sz : Nat} : ∀ (vs xs : List Value) (o : Nat) (w : World), w.ownsRow B T sz (.slice (some ⟨g, 0, none⟩) n cap) n xs → (w.setCells g o vs).ownsRow B T sz (.slice (some ⟨g, 0, none⟩) n cap) n (setAll xs o vs)
  | [], _, _, _, h => h
  | v :: r, xs, o, w, h => by
    unfold World.setCells setAll
    exact row_setCells (w := w) r _ (o + 1) _ (h.stored o v).1
/-- The i-th element is written. -/
theorem OwnF.whole {w : World} {B g cap : Nat} {l : List α} (h : OwnF F T w B (.slice (some ⟨g, 0, none⟩) l.length cap) l) (i : Nat) (hi : i < l.length) (a : α) (hok : F.ok a) :
    OwnF F T (w.setCells g (i * F.sz) (F.enc a)) B (.slice (some ⟨g, 0, none⟩) l.length cap) (l.set i a) := by
  refine ⟨?_, fun x hx => ?_⟩
  · rw [List.length_set, ← flat_whole l i hi a]
    exact row_setCells (w := w) _ _ _ _ h.1
  · rcases List.mem_or_eq_of_mem_set hx with hx | rfl
    · exact h.2 x hx
    · exact hok
/-- Its cells are there, and may be written. -/
theorem OwnF.there {w : World} {B g cap : Nat} {l : List α} (h : OwnF F T w B (.slice (some ⟨g, 0, none⟩) l.length cap) l) (i : Nat) (hi : i < l.length) : w.there g (i * F.sz) F.sz := fun j hj => by
  refine ⟨?_, h.fr _⟩
  rw [h.cell i hi j hj, List.getElem?_eq_getElem (by rw [F.len]; exact hj)]
  rfl
theorem below_setCells {B : Nat} {a : World} {g : Nat} (hg : B ≤ g) : ∀ (vs : List Value) (o : Nat) (w : World), Below B a w → Below B a (w.setCells g o vs)
  | [], _, _, h => h
  | v :: r, o, w, h => by
    unfold World.setCells
    exact below_setCells hg r (o + 1) _ (h.setCell hg _)
end
/-- A struct is put together: the values of its parts, its cells laid. -/
theorem wpl_build {P : Program} {ops : Array Oper} {rest : List Oper} {o : Oper} {a : Act} {w : World} {Q : Exit → Act → World → Prop} (hg : o.guard = none) (t : TypeId) (parts : Array (Nat × Operand)) (ho : o.op = Op.build t parts) (vs : Array (Nat × Value)) (cells : Array Value) (h : P.built t vs.toList = some cells) (hv : (parts.map fun (i, x) => (i, a.eval x)) = vs)
    (hk : wpList P ops Q rest (a.put o.dst (.agg cells)) w) : wpList P ops Q (o :: rest) a w := by
  refine wpList_plain hg fun K hK => ?_
  have e := run_build w t vs cells h
  rw [← hv] at e
  unfold Oper.wp execOp
  simp only [ho, e, Result.andThen_ok, Sem.run_bind, Sem.run_pure]
  exact hK _ _ hk
/-- A slice literal whose run is known. -/
theorem wpl_bsl_run {P : Program} {ops : Array Oper} {rest : List Oper} {o : Oper} {a : Act} {w : World} {Q : Exit → Act → World → Prop} (hg : o.guard = none) (t : TypeId) (len : Nat) (parts : Array (Nat × Operand)) (ho : o.op = .buildSlice t len parts) (vs : Array (Nat × Value))
    (v' : Value) (w' : World) (hr : (Instr.buildSlice t len vs).run P w = .ok v' w') (hv : (parts.map fun (i, x) => (i, a.eval x)) = vs) (h : wpList P ops Q rest (a.put o.dst v') w') : wpList P ops Q (o :: rest) a w := by
  refine wpList_plain hg fun K hK => ?_
  rw [← hv] at hr
  unfold Oper.wp execOp
  simp only [ho, hr, Result.andThen_ok, Sem.run_bind, Sem.run_pure]
  exact hK _ _ h
end Go.Proofs.Ytcnmknhjmflinaa
