/- Lists of flat things (numbers, texts, structs of one-cell fields) in memory, for every seat and every type: read, owned, appended to, written, opened out of an argument. -/
import Derived.Test.YtcnmknhjmflinaaKit
import Derived.Test.YtcnmknhjmflinaaM0
import Derived.Lib.Walk
import Derived.Lib.SliceRun
import Derived.Lib.AppendZerosOnto
import Derived.Laws.OwnMore
import Derived.OpenShut
import Derived.Deep.Slices
import Derived.Deep.Fields
set_option linter.unusedVariables false
namespace Go.Proofs.Ytcnmknhjmflinaa
open Go.RowKit

/-- How a thing lies in cells. -/
structure Flat (α : Type) where
  sz : Nat
  enc : α → List Value
  ok : α → Prop
  pos : 0 < sz
  len : ∀ a, (enc a).length = sz
  one : ∀ a v, v ∈ enc a → v.oneCell' = true

section
variable {α : Type} {F : Flat α}

theorem flat_len (l : List α) : (l.flatMap F.enc).length = l.length * F.sz := by
  induction l with
  | nil => simp
  | cons a l ih => rw [List.flatMap_cons, List.length_append, ih, F.len, List.length_cons, Nat.add_mul]; omega
theorem flat_one (l : List α) : ∀ v ∈ l.flatMap F.enc, v.oneCell' = true := by
  intro v hv
  obtain ⟨a, _, h⟩ := List.mem_flatMap.1 hv
  exact F.one a v h
theorem flat_get : ∀ (l : List α) (i : Nat) (hi : i < l.length) (j : Nat), j < F.sz → (l.flatMap F.enc)[i * F.sz + j]? = (F.enc l[i])[j]?
  | [], i, hi, _, _ => absurd hi (by simp)
  | a :: l, 0, _, j, hj => by
    rw [List.flatMap_cons, Nat.zero_mul, Nat.zero_add, List.getElem?_append_left (by rw [F.len]; exact hj)]; rfl
  | a :: l, i + 1, hi, j, hj => by
    have e : (i + 1) * F.sz + j = F.sz + (i * F.sz + j) := by rw [Nat.add_mul, Nat.one_mul]; omega
    rw [List.flatMap_cons, e, List.getElem?_append_right (by rw [F.len]; omega), F.len, Nat.add_sub_cancel_left, flat_get l i (by simpa using hi) j hj]; rfl
theorem flat_set : ∀ (l : List α) (i : Nat) (hi : i < l.length) (j : Nat) (u : Value) (a' : α), j < F.sz → F.enc a' = (F.enc l[i]).set j u → (l.flatMap F.enc).set (i * F.sz + j) u = (l.set i a').flatMap F.enc
  | [], i, hi, _, _, _, _, _ => absurd hi (by simp)
  | a :: l, 0, _, j, u, a', hj, he => by
    rw [List.flatMap_cons, Nat.zero_mul, Nat.zero_add, List.set_append_left _ _ (by rw [F.len]; exact hj), List.set_cons_zero, List.flatMap_cons, he]; rfl
  | a :: l, i + 1, hi, j, u, a', hj, he => by
    have e : (i + 1) * F.sz + j = F.sz + (i * F.sz + j) := by rw [Nat.add_mul, Nat.one_mul]; omega
    rw [List.flatMap_cons, e, List.set_append_right _ _ (by rw [F.len]; omega), F.len, Nat.add_sub_cancel_left, flat_set l i (by simpa using hi) j u a' hj he, List.set_cons_succ, List.flatMap_cons]

/-- The slice with this address reads as this list. -/
def FlAt (F : Flat α) (w : World) (B : Nat) (A : Option Addr) (l : List α) : Prop :=
  ∀ i (hi : i < l.length), ∃ b p, A = some ⟨b, p, none⟩ ∧ b < B ∧ (∀ (j : Nat) (u : Value), (F.enc l[i])[j]? = some u → w.cell? ⟨b, p + i * F.sz + j, none⟩ = some u) ∧ F.ok l[i]
theorem FlAt.below {w w' : World} {B : Nat} {A : Option Addr} {l : List α} (h : FlAt F w B A l) (hb : Below B w w') : FlAt F w' B A l := fun i hi => by
  obtain ⟨b, p, h1, h2, h3, h4⟩ := h i hi
  exact ⟨b, p, h1, h2, fun j u hu => (hb.cell (p := ⟨b, p + i * F.sz + j, none⟩) h2).trans (h3 j u hu), h4⟩
theorem FlAt.mono {w : World} {B B' : Nat} {A : Option Addr} {l : List α} (h : FlAt F w B A l) (hB : B ≤ B') : FlAt F w B' A l := fun i hi => by
  obtain ⟨b, p, h1, h2, h3⟩ := h i hi
  exact ⟨b, p, h1, by omega, h3⟩
theorem FlAt.next {w w' : World} {A : Option Addr} {l : List α} (h : FlAt F w w.heap.size A l) (hb : Below w.heap.size w w') : FlAt F w' w'.heap.size A l := (h.below hb).mono hb.size
theorem FlAt.nil (w : World) (B : Nat) (A : Option Addr) : FlAt F w B A [] := fun i h => absurd h (by simp)
theorem FlAt.none {w : World} {B : Nat} {A : Option Addr} {l : List α} (h : FlAt F w B A l) (hA : A = Option.none) : l = [] := by
  cases l with
  | nil => rfl
  | cons x r => obtain ⟨b, p, h1, _⟩ := h 0 (by simp); rw [hA] at h1; cases h1
theorem FlAt.ok {w : World} {B : Nat} {A : Option Addr} {l : List α} (h : FlAt F w B A l) : ∀ a ∈ l, F.ok a := fun a ha => by
  obtain ⟨i, hi, rfl⟩ := List.getElem_of_mem ha
  obtain ⟨_, _, _, _, _, h4⟩ := h i hi
  exact h4
theorem FlAt.drew {w : World} {B : Nat} {A : Option Addr} {l : List α} (h : FlAt F w B A l) (n : Nat) : FlAt F (w.drewN n) B A l := h.below (below_drewN (Below.refl _ _) n)
/-- All its cells, from the first on. -/
theorem FlAt.cells {w : World} {B : Nat} {b p : Nat} {l : List α} (h : FlAt F w B (some ⟨b, p, Option.none⟩) l) : ∀ (j : Nat) (u : Value), (l.flatMap F.enc)[j]? = some u → w.cell? ((⟨b, p, Option.none⟩ : Addr).add j) = some u := by
  intro j u hu
  have hj : j < l.length * F.sz := by rw [← flat_len (F := F)]; exact (List.getElem?_eq_some_iff.1 hu).1
  have hp := F.pos
  have hi : j / F.sz < l.length := Nat.div_lt_of_lt_mul (by rw [Nat.mul_comm]; exact hj)
  have hm : j % F.sz < F.sz := Nat.mod_lt _ hp
  have e : j / F.sz * F.sz + j % F.sz = j := by rw [Nat.mul_comm]; exact Nat.div_add_mod j F.sz
  obtain ⟨b', p', h1, _, h3, _⟩ := h (j / F.sz) hi
  simp only [Option.some.injEq, Addr.mk.injEq, and_true] at h1
  obtain ⟨rfl, rfl⟩ := h1
  have := h3 (j % F.sz) u (by rw [← flat_get l (j / F.sz) hi (j % F.sz) hm, e]; exact hu)
  rw [Nat.add_assoc, e] at this
  rw [add_off]
  exact this

/-- A row of the call's own. -/
def OwnF (F : Flat α) (T : TypeId) (w : World) (B : Nat) (v : Value) (l : List α) : Prop := w.ownsRow B T F.sz v l.length (l.flatMap F.enc) ∧ ∀ a ∈ l, F.ok a
variable {T : TypeId}
theorem OwnF.nil (w : World) (B : Nat) : OwnF F T w B (.slice none 0 0) [] := ⟨World.ownsRow_nil _ _ _ _, fun a h => by cases h⟩
theorem OwnF.below {w w' : World} {B : Nat} {v : Value} {l : List α} (h : OwnF F T w B v l) (hb : Below w.heap.size w w') : OwnF F T w' B v l := ⟨own_below h.1 hb, h.2⟩
theorem OwnF.alloc {w : World} {B : Nat} {v : Value} {l : List α} (h : OwnF F T w B v l) (o : Obj) : OwnF F T (w.alloc o) B v l := h.below (alloc_below _ _)
theorem OwnF.drew {w : World} {B : Nat} {v : Value} {l : List α} (h : OwnF F T w B v l) (n : Nat) : OwnF F T (w.drewN n) B v l := h.below (below_drewN (Below.refl _ _) n)
theorem OwnF.kept {w w' : World} {row : Option Nat} {B : Nat} {v : Value} {l : List α} (h : OwnF F T w B v l) (hg : w.grownBy w' row) (hne : v.ownBlock = none ∨ v.ownBlock ≠ row) : OwnF F T w' B v l := ⟨h.1.kept hg hne, h.2⟩
theorem OwnF.form {w : World} {B : Nat} {v : Value} {l : List α} (h : OwnF F T w B v l) : ∃ A c, v = .slice A l.length c ∧ (l = [] → A = none ∨ A ≠ none) := by
  rcases h.1.2 with ⟨h1, h2⟩ | ⟨g, cap, cur, h1, _⟩
  · exact ⟨none, 0, by rw [h1, h2], fun _ => Or.inl rfl⟩
  · exact ⟨_, _, h1, fun _ => Or.inr (by simp)⟩
theorem OwnF.lt {w : World} {B : Nat} {v : Value} {l : List α} (h : OwnF F T w B v l) : ∀ k, v.ownBlock = some k → B ≤ k ∧ k < w.heap.size := h.1.lt
theorem OwnF.down {w : World} {B B' : Nat} {v : Value} {l : List α} (h : OwnF F T w B v l) (hB : B' ≤ B) : OwnF F T w B' v l := by
  refine ⟨⟨h.1.1, ?_⟩, h.2⟩
  rcases h.1.2 with h1 | ⟨g, cap, cur, h1, h2, h3⟩
  · exact Or.inl h1
  · exact Or.inr ⟨g, cap, cur, h1, by omega, h3⟩
/-- A row that stands: it is not nil. -/
theorem OwnF.at {w : World} {B : Nat} {v : Value} {l : List α} (h : OwnF F T w B v l) (hl : l ≠ []) : ∃ g cap, v = .slice (some ⟨g, 0, none⟩) l.length cap ∧ B ≤ g ∧ g < w.heap.size := by
  rcases h.1.2 with ⟨h1, h2⟩ | ⟨g, cap, cur, h1, h2, h3, _⟩
  · exact absurd (List.eq_nil_of_length_eq_zero h2) hl
  · exact ⟨g, cap, h1, h2, (Array.getElem?_eq_some_iff.1 h3).1⟩
theorem OwnF.cell {w : World} {B g cap : Nat} {l : List α} (h : OwnF F T w B (.slice (some ⟨g, 0, none⟩) l.length cap) l) (i : Nat) (hi : i < l.length) (j : Nat) (hj : j < F.sz) : w.cell? ⟨g, i * F.sz + j, none⟩ = (F.enc l[i])[j]? := by
  rw [h.1.cellAt _ (by have : (i + 1) * F.sz ≤ l.length * F.sz := Nat.mul_le_mul_right _ hi; rw [Nat.add_mul] at this; omega), flat_get l i hi j hj]
theorem OwnF.fr {w : World} {B g cap : Nat} {l : List α} (h : OwnF F T w B (.slice (some ⟨g, 0, none⟩) l.length cap) l) (j : Nat) : w.frozen? ⟨g, j, none⟩ = false := h.1.frozenAt j
/-- One cell of one element is written. -/
theorem OwnF.put {w : World} {B g cap : Nat} {l : List α} (h : OwnF F T w B (.slice (some ⟨g, 0, none⟩) l.length cap) l) (i : Nat) (hi : i < l.length) (j : Nat) (hj : j < F.sz) (u : Value) (a' : α) (he : F.enc a' = (F.enc l[i]).set j u) (hok : F.ok a') :
    OwnF F T (w.setCell ⟨g, i * F.sz + j, none⟩ u) B (.slice (some ⟨g, 0, none⟩) l.length cap) (l.set i a') := by
  refine ⟨?_, fun a ha => ?_⟩
  · rw [List.length_set, ← flat_set l i hi j u a' hj he]
    exact (h.1.stored (i * F.sz + j) u).1
  · rcases List.mem_or_eq_of_mem_set ha with h1 | h1
    · exact h.2 a h1
    · rw [h1]; exact hok
theorem OwnF.read {w : World} {B : Nat} {v : Value} {l : List α} (h : OwnF F T w B v l) : ∃ A c, v = .slice A l.length c ∧ FlAt F w w.heap.size A l ∧ l.length ≤ c ∧ (A = none → c = 0) := by
  rcases h.1.2 with ⟨h1, h2⟩ | ⟨g, cap, cur, h1, h2, h3, h4, _⟩
  · obtain rfl := List.eq_nil_of_length_eq_zero h2
    exact ⟨none, 0, h1, FlAt.nil _ _ _, Nat.le_refl _, fun _ => rfl⟩
  · subst h1
    refine ⟨_, _, rfl, fun i hi => ⟨g, 0, rfl, (Array.getElem?_eq_some_iff.1 h3).1, fun j u hu => ?_, h.2 _ (List.getElem_mem _)⟩, h4, fun e => by cases e⟩
    have hj : j < F.sz := by rw [← F.len l[i]]; exact (List.getElem?_eq_some_iff.1 hu).1
    rw [Nat.zero_add, h.cell i hi j hj, hu]
/-- A literal. -/
theorem OwnF.lit (w : World) (B : Nat) (l : List α) (cs : Array Value) (hB : B ≤ w.heap.size) (hn : l.length ≤ maxLen) (hc : cs.toList = l.flatMap F.enc) (hok : ∀ a ∈ l, F.ok a) :
    OwnF F T (w.alloc (.cells cs T)) B (.slice (some ⟨w.heap.size, 0, none⟩) l.length l.length) l := by
  refine ⟨?_, hok⟩
  rw [← hc]
  exact World.ownsRow_lit w cs l.length hB hn (by rw [← Array.length_toList, hc, flat_len])
theorem FlAt.lit (w : World) (l : List α) (cs : Array Value) (T : TypeId) (hn : l.length ≤ maxLen) (hc : cs.toList = l.flatMap F.enc) (hok : ∀ a ∈ l, F.ok a) :
    FlAt F (w.alloc (.cells cs T)) (w.alloc (.cells cs T)).heap.size (some ⟨w.heap.size, 0, Option.none⟩) l := by
  obtain ⟨A, c, h1, h2, _⟩ := (OwnF.lit (F := F) (T := T) w 0 l cs (Nat.zero_le _) hn hc hok).read
  simp only [Value.slice.injEq] at h1
  obtain ⟨rfl, _, rfl⟩ := h1
  exact h2

/-- What a program says of a type of elements. -/
structure Elems (P : Program) (t T : TypeId) (sz : Nat) : Prop where
  ut : P.underlying t = some (.slice T)
  info : ∃ i z bytes, P.info? T = some i ∧ i.zero = some z ∧ i.size = sz ∧ i.bytes = bytes ∧ bytes ≤ 1000 ∧ z.cells.size = sz
theorem Elems.mk' {P : Program} {t T : TypeId} {z : Value} {n m : Nat} (ut : P.underlying t = some (.slice T)) (h : (P.info? T).map (fun i => (i.zero, i.size, i.bytes)) = some (some z, n, m)) (hm : m ≤ 1000) (hz : z.cells.size = n) : Elems P t T n := by
  obtain ⟨i, h1, h2, h3, h4⟩ := info_get h
  exact ⟨ut, i, z, m, h1, h2, h3, h4, hm, hz⟩
/-- A list is appended to a row of the call's own. -/
theorem OwnF.app {P : Program} {t : TypeId} (E : Elems P t T F.sz) {w : World} {B C : Nat} {v : Value} {A : Option Addr} {c : Nat} {a l : List α} (ty : TypeId) (hv : OwnF F T w B v a) (hx : FlAt F w C A l) (hn : a.length + l.length ≤ 100000000) (hB : B ≤ w.heap.size) :
    ∃ v' w', (Builtin.append_ #[t, t] ty #[v, .slice A l.length c]).run P w = .ok v' w' ∧ OwnF F T w' B v' (a ++ l) ∧ Below B w w' ∧ (v' = .slice none 0 0 → v = .slice none 0 0) ∧ w.grownBy w' v.ownBlock := by
  obtain ⟨i0, z, m, h1, h2, h3, h4, h5, h6⟩ := E.info
  have key : ∀ (ad : Addr), (∀ (j : Nat) (u : Value), (l.flatMap F.enc)[j]? = some u → w.cell? (ad.add j) = some u) →
      ∃ v' w', (Builtin.append_ #[t, t] ty #[v, .slice (some ad) l.length c]).run P w = .ok v' w' ∧ OwnF F T w' B v' (a ++ l) ∧ Below B w w' ∧ (v' = .slice none 0 0 → v = .slice none 0 0) ∧ w.grownBy w' v.ownBlock := by
    intro ad had
    obtain ⟨v', w', g1, g2, g3, g4⟩ := run_append_own (P := P) w B t ty T i0 z F.sz m E.ut h1 h2 h3 h4 h6 F.pos v _ _ hv.1 ad l.length c (l.flatMap F.enc) (flat_len l) had (flat_one l) (by unfold maxLen; omega)
      (Nat.le_trans (Nat.mul_le_mul hn h5) (by omega)) hB
    refine ⟨v', w', g1, ⟨by rw [List.length_append, List.flatMap_append]; exact g2, fun x hx' => ?_⟩, ⟨g3.os, g3.tape, g3.output, g3.size, fun k hk => g3.block k (by omega) fun e => ?_⟩, fun e => (g4.1 e).1, g3⟩
    · rcases List.mem_append.1 hx' with h | h
      · exact hv.2 x h
      · exact hx.ok x h
    · have := (hv.lt k e.symm).1; omega
  cases A with
  | none =>
    obtain rfl := hx.none rfl
    by_cases hc : c = 0
    · subst hc
      exact ⟨v, w, run_append_owned_none w B t ty T i0 F.sz E.ut h1 v _ _ hv.1, by rw [List.append_nil]; exact hv, Below.refl _ _, id, ⟨rfl, rfl, rfl, Nat.le_refl _, fun _ _ _ => rfl⟩⟩
    · refine ⟨v, w, ?_, by rw [List.append_nil]; exact hv, Below.refl _ _, id, ⟨rfl, rfl, rfl, Nat.le_refl _, fun _ _ _ => rfl⟩⟩
      rcases hv.1.2 with ⟨rfl, e⟩ | ⟨g, cap, cur, rfl, _, _, hnc, _⟩
      · simp [Builtin.append_, run_underlying E.ut, sizeOf, typeInfo, h1, Builtin.lenOf, Builtin.firstCells]
      · simp [Builtin.append_, run_underlying E.ut, sizeOf, typeInfo, h1, Builtin.lenOf, Builtin.firstCells, hnc, storeCells]
  | some ad =>
    cases l with
    | nil => exact key ad fun j u hu => by simp at hu
    | cons x r =>
      obtain ⟨b, p, e, _⟩ := hx 0 (by simp)
      simp only [Option.some.injEq] at e
      subst e
      exact key _ hx.cells
/-- One element more, out of a new block. -/
theorem OwnF.one {P : Program} {t : TypeId} (E : Elems P t T F.sz) {w : World} {B : Nat} {v : Value} {a : List α} (ty : TypeId) (x : α) (cs : Array Value) (hcs : cs.toList = F.enc x) (hok : F.ok x) (hv : OwnF F T w B v a) (hn : a.length ≤ 10000000) (hB : B ≤ w.heap.size) :
    ∃ v' w', (Builtin.append_ #[t, t] ty #[v, .slice (some ⟨w.heap.size, 0, none⟩) 1 1]).run P (w.alloc (.cells cs T)) = .ok v' w' ∧ OwnF F T w' B v' (a ++ [x]) ∧ Below B w w' := by
  obtain ⟨v', w', h1, h2, h3, _⟩ := (hv.alloc (.cells cs T)).app E (c := 1) ty (FlAt.lit (F := F) w [x] cs T (by unfold maxLen; simp) (by simp [hcs]) (by simpa using hok)) (by simp; omega) (Nat.le_trans hB (by simp))
  exact ⟨v', w', h1, h2, ((Below.refl B w).alloc hB _).trans h3⟩

/-- A list is handed back. -/
def OutF (F : Flat α) (w : World) (l : List α) (e : Ending) (w' : World) : Prop := ∃ A c, e = .returned (.slice A l.length c) ∧ FlAt F w' w'.heap.size A l ∧ l.length ≤ c ∧ (A = none → c = 0) ∧ Below w.heap.size w w'
theorem outF {w w' : World} {l k : List α} {A : Option Addr} {n c : Nat} (h : l = k) (hn : n = l.length) (ho : FlAt F w' w'.heap.size A k) (hc : n ≤ c) (hA : A = none → c = 0) (hb : Below w.heap.size w w') : OutF F w l (.returned (.slice A n c)) w' := by subst h hn; exact ⟨A, c, rfl, ho, hc, hA, hb⟩
theorem outF_own {w w' : World} {l k : List α} {v : Value} {B : Nat} (h : l = k) (ho : OwnF F T w' B v k) (hb : Below w.heap.size w w') : OutF F w l (.returned v) w' := by
  subst h
  obtain ⟨A, c, rfl, h, h2, h3⟩ := ho.read
  exact ⟨A, c, rfl, h, h2, h3, hb⟩
theorem outF_nil {w w' : World} {l : List α} (h : l = []) (hb : Below w.heap.size w w') : OutF F w l (.returned (.slice none 0 0)) w' := by subst h; exact ⟨none, 0, rfl, FlAt.nil _ _ _, Nat.le_refl _, fun _ => rfl, hb⟩

/-! An argument opened. -/
open Go.ChangeShapes Go.WideShapes
variable {H : Type} {en : TypeId × Value → H}
theorem flat_open {P : Program} {t : TypeId} (ut : P.underlying t = some (.slice T)) (hC : P.cellsOf T = F.sz) {W : World} {fuel : Nat} {sp : Nat → Bool} {hd : Bool}
    (hel : ∀ (q : Nat) (cs : List Value) x, cs.length = F.sz → DataW.trod en P W 0 sp hd q T cs = some x → ∃ a, cs = F.enc a ∧ F.ok a)
    {A : Option Addr} {n c : Nat} {x : DataW H × List MemPlace} (hf : DataW.trod en P W 0 sp hd fuel t [.slice A n c] = some x) :
    ∃ l, n = List.length l ∧ FlAt F W W.heap.size A l ∧ l.length ≤ 9223372036854775807 ∧ l.length ≤ c ∧ (A = none → c = 0) := by
  rcases Go.Deep.open_slice ut hf with ⟨hcs, hx⟩ | ⟨a, len, cap, m, k, D, Pl, hcs, _, hl, hm, hmm, hx, hi⟩
  · simp at hcs
    obtain ⟨rfl, rfl, rfl⟩ := hcs
    exact ⟨[], rfl, FlAt.nil _ _ _, by simp, by simp, fun _ => rfl⟩
  · simp at hcs
    obtain ⟨rfl, rfl, rfl⟩ := hcs
    have hle : n ≤ m := by rw [hmm]; split <;> omega
    rcases Nat.eq_zero_or_pos n with rfl | hn0
    · exact ⟨[], rfl, FlAt.nil _ _ _, by simp, by simp, fun e => by cases e⟩
    have hp := F.pos
    obtain ⟨b, o2, rfl⟩ : ∃ b o, a = ⟨b, o, none⟩ := by
      obtain ⟨cs, hcs, ht⟩ := hi 0 (by omega)
      rw [hC, Nat.zero_mul, add_none] at hcs
      have h00 := (World.cells?_some hcs).2.2 0 (by omega)
      rw [add_none, List.getElem?_eq_getElem (by rw [(World.cells?_some hcs).2.1]; omega)] at h00
      exact plain_of h00
    obtain ⟨l, hll, hp⟩ := list_of n (p := fun i (s : α) => b < W.heap.size ∧ (∀ (j : Nat) (u : Value), (F.enc s)[j]? = some u → W.cell? ⟨b, o2 + i * F.sz + j, none⟩ = some u) ∧ F.ok s)
      (fun i hin => by
        obtain ⟨cs, hcs, ht⟩ := hi i (by omega)
        rw [hC] at hcs
        obtain ⟨_, hlen, hat⟩ := World.cells?_some hcs
        obtain ⟨s, rfl, hok⟩ := hel _ cs _ hlen ht
        have hc : ∀ (j : Nat) (u : Value), (F.enc s)[j]? = some u → W.cell? ⟨b, o2 + i * F.sz + j, none⟩ = some u := fun j u hu => by
          have hj : j < F.sz := by rw [← hlen]; exact (List.getElem?_eq_some_iff.1 hu).1
          have := hat j (by omega)
          rw [add_off, add_off] at this
          rw [this, hu]
        refine ⟨s, ?_, hc, hok⟩
        have h0 : 0 < (F.enc s).length := by rw [hlen]; exact hp
        exact World.block_lt_of_cell? W _ (hc 0 _ (List.getElem?_eq_getElem h0)))
    exact ⟨l, hll.symm, fun i hi => ⟨b, o2, rfl, (hp i hi).1, (hp i hi).2.1, (hp i hi).2.2⟩, by unfold maxLen at hm; omega, by omega, fun e => by cases e⟩
end
theorem lit_i64 {n : Int} (h : (Lit.int .i64 n).wf = true) : I64 n := by
  unfold I64
  simpa [Lit.wf, IntKind.min, IntKind.max, IntKind.signed, IntKind.bits] using h
theorem i64_wf {n : Int} (h : I64 n) : (Lit.int .i64 n).wf = true := by
  unfold I64 at h
  simpa [Lit.wf, IntKind.min, IntKind.max, IntKind.signed, IntKind.bits] using h
theorem lit_u64 {n : Int} (h : (Lit.int .u64 n).wf = true) : 0 ≤ n ∧ n < 18446744073709551616 := by
  have : 0 ≤ n ∧ n ≤ 18446744073709551615 := by simpa [Lit.wf, IntKind.min, IntKind.max, IntKind.signed, IntKind.bits] using h
  omega
theorem u64_wf {n : Int} (h : 0 ≤ n ∧ n < 18446744073709551616) : (Lit.int .u64 n).wf = true := by
  have : 0 ≤ n ∧ n ≤ 18446744073709551615 := by omega
  simpa [Lit.wf, IntKind.min, IntKind.max, IntKind.signed, IntKind.bits] using this

theorem lit_u8 {n : Int} (h : (Lit.int .u8 n).wf = true) : 0 ≤ n ∧ n ≤ 255 := by simpa [Lit.wf, IntKind.min, IntKind.max, IntKind.signed, IntKind.bits] using h
/-- A list of ints. -/
def fI : Flat Int := ⟨1, fun n => [.int .i64 n], I64, by decide, fun _ => rfl, fun _ v h => by simp at h; subst h; rfl⟩
theorem fI_cell {w : World} {B : Nat} {A : Option Addr} {l : List Int} (h : FlAt fI w B A l) (i : Nat) (hi : i < l.length) : ∃ b p, A = some ⟨b, p, none⟩ ∧ b < B ∧ w.cell? ⟨b, p + i, none⟩ = some (.int .i64 l[i]) ∧ I64 l[i] := by
  obtain ⟨b, p, h1, h2, h3, h4⟩ := h i hi
  exact ⟨b, p, h1, h2, by have := h3 0 _ rfl; simpa [fI] using this, h4⟩
end Go.Proofs.Ytcnmknhjmflinaa
