/- Slices that are cut at both ends, and appended to though nothing is free behind them: for every seat and every flat type. -/
import Derived.Test.YtcnmknhjmflinaaSh
import Derived.Deep.Upon
set_option linter.unusedVariables false
namespace Go.Proofs.Ytcnmknhjmflinaa
open Go.RowKit

section
variable {α : Type} {F : Flat α}
theorem flS_take {w : World} {B : Nat} {A : Option Addr} {l : List α} (h : FlAt F w B A l) (k : Nat) : FlAt F w B A (l.take k) := fun i hi => by
  have hi' : i < l.length := by rw [List.length_take] at hi; omega
  obtain ⟨b, p, h1, h2, h3, h4⟩ := h i hi'
  have e : (l.take k)[i] = l[i] := List.getElem_take
  exact ⟨b, p, h1, h2, fun j u hu => h3 j u (by rw [← e]; exact hu), by rw [e]; exact h4⟩
theorem flS_drop {w : World} {B b p : Nat} {l : List α} (h : FlAt F w B (some ⟨b, p, none⟩) l) (k : Nat) : FlAt F w B (some ⟨b, p + k * F.sz, none⟩) (l.drop k) := fun i hi => by
  have hi' : k + i < l.length := by rw [List.length_drop] at hi; omega
  obtain ⟨b', p', h1, h2, h3, h4⟩ := h (k + i) hi'
  simp only [Option.some.injEq, Addr.mk.injEq, and_true] at h1
  obtain ⟨rfl, rfl⟩ := h1
  have e : (l.drop k)[i] = l[k + i] := List.getElem_drop
  refine ⟨b, p + k * F.sz, rfl, h2, fun j u hu => ?_, by rw [e]; exact h4⟩
  have := h3 j u (by rw [← e]; exact hu)
  rw [Nat.add_mul, ← Nat.add_assoc] at this
  exact this
/-- A slice as its three words read: the elements, a capacity that holds them. -/
def SlS (F : Flat α) (w : World) (A : Option Addr) (c : Nat) (l : List α) : Prop := FlAt F w w.heap.size A l ∧ l.length ≤ c ∧ (A = none → c = 0)
theorem SlS.next {w w' : World} {A : Option Addr} {c : Nat} {l : List α} (h : SlS F w A c l) (hb : Below w.heap.size w w') : SlS F w' A c l := ⟨h.1.next hb, h.2.1, h.2.2⟩
theorem SlS.nil (w : World) : SlS F w none 0 [] := ⟨FlAt.nil _ _ _, Nat.le_refl _, fun _ => rfl⟩
theorem OwnF.slS {T : TypeId} {w : World} {B : Nat} {v : Value} {l : List α} (h : OwnF F T w B v l) : ∃ A c, v = .slice A l.length c ∧ SlS F w A c l := by
  obtain ⟨A, c, e, h1, h2, h3⟩ := h.read
  exact ⟨A, c, e, h1, h2, h3⟩
/-- 's[:k:k]', 's[k:]'. -/
theorem SlS.cut {P : Program} {t : TypeId} {w : World} {A : Option Addr} {c : Nat} {l : List α} (h : SlS F w A c l) (ut : P.underlying t = some (.slice (P.elem t))) (sz : ∀ W : World, (sizeOf (P.elem t)).run P W = .ok F.sz W) (k : Nat) (hk : k ≤ l.length) :
    ∃ A1, (∀ W : World, (Instr.sliceAt t (.slice A l.length c) none (some (.int .i64 (k : Int))) (some (.int .i64 (k : Int)))).run P W = .ok (.slice A1 k k) W) ∧ SlS F w A1 k (l.take k) := by
  have hkc : k ≤ c := Nat.le_trans hk h.2.1
  have e1 : ∀ W : World, (Instr.sliceAt t (.slice A l.length c) none (some (.int .i64 (k : Int))) (some (.int .i64 (k : Int)))).run P W = .ok (sliced A 0 k k F.sz) W := fun W => by
    rw [run_sliceAt_slice W _ _ _ _ _ ut, run_slice_hm W _ A l.length c ut .i64 .i64 k k (by omega) (by omega) (by omega), sz]
    rfl
  have hl : (l.take k).length ≤ k := by rw [List.length_take]; omega
  cases A with
  | none =>
    obtain rfl := h.1.none rfl
    refine ⟨none, fun W => (e1 W).trans ?_, by simpa using h.1, hl, fun _ => by simpa using hk⟩
    unfold sliced; simp
  | some ad =>
    by_cases hM : l = []
    · subst hM
      obtain rfl : k = 0 := by simpa using hk
      refine ⟨some ad, fun W => (e1 W).trans ?_, FlAt.nil _ _ _, by simp, fun e => by cases e⟩
      unfold sliced
      simp
    · obtain ⟨b, p, e3, _⟩ := h.1 0 (List.length_pos_iff.2 hM)
      simp only [Option.some.injEq] at e3
      subst e3
      have hadd : ∀ j, (⟨b, p, none⟩ : Addr).add j = ⟨b, p + j, none⟩ := fun j => by unfold Addr.add; split <;> simp_all
      refine ⟨some ⟨b, p, none⟩, fun W => (e1 W).trans ?_, flS_take h.1 k, hl, fun e => by cases e⟩
      unfold sliced
      simp [hadd]
theorem SlS.rest2 {P : Program} {t : TypeId} {w : World} {A : Option Addr} {c : Nat} {l : List α} (h : SlS F w A c l) (ut : P.underlying t = some (.slice (P.elem t))) (sz : ∀ W : World, (sizeOf (P.elem t)).run P W = .ok F.sz W) (k : Nat) (hk : k ≤ l.length) :
    ∃ A1, (∀ W : World, (Instr.sliceAt t (.slice A l.length c) (some (.int .i64 (k : Int))) none none).run P W = .ok (.slice A1 (l.length - k) (c - k)) W) ∧ SlS F w A1 (c - k) (l.drop k) ∧ (l ≠ [] → ∀ b p, A1 = some ⟨b, p, none⟩ → ∃ p', A = some ⟨b, p', none⟩) := by
  have hkc : k ≤ c := Nat.le_trans hk h.2.1
  have e1 : ∀ W : World, (Instr.sliceAt t (.slice A l.length c) (some (.int .i64 (k : Int))) none none).run P W = .ok (sliced A k l.length c F.sz) W := fun W => by
    rw [run_sliceAt_slice W _ _ _ _ _ ut, run_slice_l W _ A l.length c ut .i64 k (by omega) (by omega), sz]
    rfl
  have hl : (l.drop k).length ≤ c - k := by have := h.2.1; rw [List.length_drop]; omega
  cases A with
  | none =>
    obtain rfl := h.1.none rfl
    refine ⟨none, fun W => (e1 W).trans ?_, ⟨by simpa using h.1, hl, fun _ => by have := h.2.2 rfl; omega⟩, fun q => absurd rfl q⟩
    unfold sliced; simp
  | some ad =>
    by_cases hM : l = []
    · subst hM
      obtain rfl : k = 0 := by simpa using hk
      refine ⟨if c = 0 then some ad else some (ad.add 0), fun W => (e1 W).trans ?_, ⟨FlAt.nil _ _ _, by simp, fun e => by split at e <;> cases e⟩, fun q => absurd rfl q⟩
      unfold sliced
      simp
    · obtain ⟨b, p, e3, _⟩ := h.1 0 (List.length_pos_iff.2 hM)
      simp only [Option.some.injEq] at e3
      subst e3
      have hadd : ∀ j, (⟨b, p, none⟩ : Addr).add j = ⟨b, p + j, none⟩ := fun j => by unfold Addr.add; split <;> simp_all
      refine ⟨if c = k then some ⟨b, p, none⟩ else some ⟨b, p + k * F.sz, none⟩, fun W => (e1 W).trans ?_, ⟨?_, hl, fun e => by split at e <;> cases e⟩, fun _ b' p' e => ?_⟩
      · unfold sliced
        simp [hadd]
      · by_cases hc : c = k
        · rw [if_pos hc, List.drop_of_length_le (by have := h.2.1; omega)]
          exact FlAt.nil _ _ _
        · rw [if_neg hc]
          exact flS_drop h.1 k
      · split at e
        · simp only [Option.some.injEq, Addr.mk.injEq, and_true] at e
          exact ⟨p, by rw [e.1]⟩
        · simp only [Option.some.injEq, Addr.mk.injEq, and_true] at e
          exact ⟨p, by rw [e.1]⟩
theorem SlS.rest {P : Program} {t : TypeId} {w : World} {A : Option Addr} {c : Nat} {l : List α} (h : SlS F w A c l) (ut : P.underlying t = some (.slice (P.elem t))) (sz : ∀ W : World, (sizeOf (P.elem t)).run P W = .ok F.sz W) (k : Nat) (hk : k ≤ l.length) :
    ∃ A1, (∀ W : World, (Instr.sliceAt t (.slice A l.length c) (some (.int .i64 (k : Int))) none none).run P W = .ok (.slice A1 (l.length - k) (c - k)) W) ∧ SlS F w A1 (c - k) (l.drop k) := by
  obtain ⟨A1, h1, h2, _⟩ := h.rest2 ut sz k hk
  exact ⟨A1, h1, h2⟩
/-- Something is appended to a slice that has no room: a row of the call's own. -/
theorem SlS.grow {P : Program} {t T : TypeId} (E : Elems P t T F.sz) {w : World} {C : Nat} {A A2 : Option Addr} {n c : Nat} {a l : List α} (ty : TypeId) (h : SlS F w A a.length a) (hx : FlAt F w C A2 l) (hl : l ≠ []) (hn : a.length + l.length ≤ 100000000) :
    ∃ v' w', (Builtin.append_ #[t, t] ty #[.slice A a.length a.length, .slice A2 l.length c]).run P w = .ok v' w' ∧ OwnF F T w' w.heap.size v' (a ++ l) ∧ Below w.heap.size w w' := by
  cases A with
  | none =>
    obtain rfl := h.1.none rfl
    obtain ⟨v', w', h1, h2, h3, _⟩ := (OwnF.nil (F := F) (T := T) w w.heap.size).app E (c := c) ty hx hn (Nat.le_refl _)
    exact ⟨v', w', h1, h2, h3⟩
  | some ad =>
    obtain ⟨i0, z, m, h1, h2, h3, h4, h5, h6⟩ := E.info
    have h0 : 0 < l.length := List.length_pos_iff.2 hl
    obtain ⟨b2, p2, e2, _⟩ := hx 0 h0
    subst e2
    have holds : ∀ j u, (a.flatMap F.enc)[j]? = some u → w.cell? (ad.add j) = some u := by
      by_cases ha : a = []
      · subst ha
        intro j u hu
        simp at hu
      · obtain ⟨b, p, e, _⟩ := h.1 0 (List.length_pos_iff.2 ha)
        simp only [Option.some.injEq] at e
        subst e
        exact h.1.cells
    have hr := run_append_grow (P := P) w t ty T i0 z E.ut h1 h2 ad a.length a.length (a.flatMap F.enc) (by rw [h3]; exact flat_len a) holds ⟨b2, p2, none⟩ l.length c (l.flatMap F.enc) (by rw [h3]; exact flat_len l) hx.cells (by omega) (by omega)
      (growslice_fits (by omega) (by rw [h4]; exact Nat.le_trans (Nat.mul_le_mul hn h5) (by omega)))
    have hge := grownCap_ge w (a.length + l.length) a.length T
    have hcm := grownCap_le_maxLen w (a.length + l.length) a.length T (by unfold maxLen; omega)
    have hlen : (a.flatMap F.enc ++ l.flatMap F.enc).length = (a.length + l.length) * F.sz := by rw [List.length_append, flat_len, flat_len, Nat.add_mul]
    refine ⟨_, _, hr, ⟨⟨by rw [flat_len], .inr ⟨w.heap.size, _, _, by rw [List.length_append], Nat.le_refl _, heap_alloc_new w.drew _, by rw [List.length_append]; exact hge, hcm, ?_, ?_⟩⟩, fun x hx' => ?_⟩, ⟨rfl, rfl, rfl, by simp, fun k hk => heap_alloc_old w.drew _ hk⟩⟩
    · simp only [Array.size_append, List.size_toArray, size_zeroCells, h6, flat_len, ← Nat.add_mul]
      congr 1
      omega
    · simp only [Array.toList_append, List.append_assoc]
      rw [← List.append_assoc, List.length_append, ← hlen, List.flatMap_append]
      exact List.take_left
    · rcases List.mem_append.1 hx' with h' | h'
      · exact h.1.ok x h'
      · exact hx.ok x h'
/-- The same where perhaps nothing is appended: then it is the slice itself. -/
theorem SlS.more {P : Program} {t T : TypeId} (E : Elems P t T F.sz) {w : World} {C : Nat} {A A2 : Option Addr} {c : Nat} {a l : List α} (ty : TypeId) (h : SlS F w A a.length a) (hx : FlAt F w C A2 l) (hn : a.length + l.length ≤ 100000000) :
    ∃ A' c' w', (Builtin.append_ #[t, t] ty #[.slice A a.length a.length, .slice A2 l.length c]).run P w = .ok (.slice A' (a.length + l.length) c') w' ∧ SlS F w' A' c' (a ++ l) ∧ Below w.heap.size w w' := by
  by_cases hl : l = []
  · subst hl
    obtain ⟨i0, z, m, h1, h2, h3, h4, h5, h6⟩ := E.info
    refine ⟨A, a.length, w, ?_, by rw [List.append_nil]; exact h, Below.refl _ _⟩
    cases A <;> cases A2 <;> simp [Builtin.append_, run_underlying E.ut, sizeOf, typeInfo, h1, Builtin.lenOf, Builtin.firstCells, loadCells, loadCellsFrom, storeCells]
  · obtain ⟨v', w', h1, h2, h3⟩ := h.grow E (n := 0) (c := c) ty hx hl hn
    obtain ⟨A', c', rfl, h4⟩ := h2.slS
    rw [List.length_append] at h1
    exact ⟨A', c', w', h1, h4, h3⟩
end
end Go.Proofs.Ytcnmknhjmflinaa
