/- A map of any elements (slices too), keyed by anything, read as a function of the key; written, removed from, counted. -/
import Derived.Test.YtcnmknhjmflinaaSh
import Derived.Maps.OwnSet
set_option linter.unusedVariables false
namespace Go.Proofs.Ytcnmknhjmflinaa
open Go.RowKit
open Go.Maps (Keyed IsMap Tidy)

/-- A type of maps: its own number, its key's, its element's; what is a key; the element's zero. -/
structure MvTy (κ : Type) where
  t : TypeId
  k : TypeId
  e : TypeId
  key : κ → Value
  okK : κ → Prop
  zero : Value
structure MvTy.Of {κ : Type} (M : MvTy κ) (P : Program) : Prop where
  ut : P.underlying M.t = some (.map M.k M.e)
  keyed : Keyed P M.k
  kOf : ∀ x, M.okK x → ∃ l, keyOf P M.k (M.key x) = some l
  kInj : ∀ x y, M.key x = M.key y → x = y
  zRun : ∀ w : World, (zeroValue M.e).run P w = .ok M.zero w

/-- An element reads as itself. -/
def selfR (v : Value) : Option (DataW Value × List MemPlace) := some (.held v, [])
theorem selfR_inj {v : Value} {d : DataW Value} {ps : List MemPlace} (h : selfR v = some (d, ps)) : d = .held v := by
  unfold selfR at h; simp at h; exact h.1.symm

/-- The map in block b, of at most n entries, which reads as D, has at each key just what f says. -/
def MvIs {κ : Type} (M : MvTy κ) (P : Program) (w : World) (b n : Nat) (D : DataW Value) (f : κ → Option Value) : Prop :=
  w.ownsMap P M.k selfR b n D ∧
    ∀ x l, M.okK x → keyOf P M.k (M.key x) = some l → match f x with
      | none => Maps.has D l = false
      | some v => Maps.has D l = true ∧ ∀ z, D.atKey l z = .held v
def MvAt {κ : Type} (M : MvTy κ) (P : Program) (w : World) (b n : Nat) (f : κ → Option Value) : Prop := ∃ D : DataW Value, MvIs M P w b n D f

section
variable {κ : Type} {M : MvTy κ} {P : Program}
theorem MvAt.made (w : World) : MvAt M P (w.alloc (.map #[] 0)) w.heap.size 0 (fun _ => none) :=
  ⟨_, World.ownsMap_made w P M.k _, fun _ _ _ _ => rfl⟩
theorem MvAt.lt {w : World} {b n : Nat} {f : κ → Option Value} (h : MvAt M P w b n f) : b < w.heap.size := by
  obtain ⟨D, h1, _⟩ := h; exact h1.lt
theorem MvAt.block {w : World} {b n : Nat} {f : κ → Option Value} (h : MvAt M P w b n f) : ∃ es c, w.heap[b]? = some (.map es c) := by
  obtain ⟨D, ⟨es, clock, hb, _⟩, _⟩ := h; exact ⟨es, clock, hb⟩
theorem MvAt.kept {w w' : World} {row : Option Nat} {b n : Nat} {f : κ → Option Value} (h : MvAt M P w b n f) (hg : w.grownBy w' row) (hne : some b ≠ row) : MvAt M P w' b n f := by
  obtain ⟨D, h1, h2⟩ := h; exact ⟨D, h1.kept hg hne, h2⟩
theorem MvAt.below {w w' : World} {b n : Nat} {f : κ → Option Value} (h : MvAt M P w b n f) (hb : Below w.heap.size w w') : MvAt M P w' b n f := h.kept (gb_below (r := none) hb) (by simp)
theorem MvAt.belowB {w w' : World} {b n B : Nat} {f : κ → Option Value} (h : MvAt M P w b n f) (hb : Below B w w') (hB : b < B) : MvAt M P w' b n f := by
  obtain ⟨D, ⟨es, clock, h1, h2⟩, h3⟩ := h
  exact ⟨D, ⟨es, clock, (hb.block b hB).trans h1, h2⟩, h3⟩
theorem MvAt.alloc {w : World} {b n : Nat} {f : κ → Option Value} (h : MvAt M P w b n f) (o : Obj) : MvAt M P (w.alloc o) b n f := h.below (alloc_below _ _)
theorem MvAt.drew {w : World} {b n : Nat} {f : κ → Option Value} (h : MvAt M P w b n f) (k : Nat) : MvAt M P (w.drewN k) b n f := h.below (below_drewN (Below.refl _ _) k)
theorem MvAt.setCell {w : World} {b n : Nat} {f : κ → Option Value} (h : MvAt M P w b n f) {a : Addr} (ha : b ≠ a.block) (u : Value) : MvAt M P (w.setCell a u) b n f := by
  obtain ⟨D, h1, h2⟩ := h; exact ⟨D, h1.setCell ha u, h2⟩
theorem MvAt.mono {w : World} {b n n' : Nat} {f : κ → Option Value} (h : MvAt M P w b n f) (hn : n ≤ n') : MvAt M P w b n' f := by
  obtain ⟨D, h1, h2⟩ := h; exact ⟨D, h1.mono hn, h2⟩
theorem MvAt.same {w : World} {b n : Nat} {f g : κ → Option Value} (h : MvAt M P w b n f) (e : ∀ x, f x = g x) : MvAt M P w b n g := by
  obtain rfl : f = g := funext e; exact h
/-- 'm[k]'. -/
theorem MvAt.get (O : M.Of P) {w : World} {b n : Nat} {f : κ → Option Value} (h : MvAt M P w b n f) (x : κ) (hx : M.okK x) : (Instr.lookup M.t (.map (some b)) (M.key x) false).run P w = .ok ((f x).getD M.zero) w := by
  obtain ⟨D, h1, h3⟩ := h
  obtain ⟨l, hl⟩ := O.kOf x hx
  obtain ⟨v, ps, hr, hv⟩ := h1.lookup O.keyed O.ut (O.zRun w) (zd := .held M.zero) (zp := []) rfl hl
  have h4 := h3 x l hx hl
  have hv := selfR_inj hv
  rw [hr]
  congr 1
  cases hf : f x with
  | none =>
    rw [hf] at h4
    rw [Maps.atKey_of_not_has h4] at hv
    simp at hv; exact hv.symm
  | some u =>
    rw [hf] at h4
    rw [h4.2] at hv
    simp at hv; exact hv.symm
/-- 'v, ok := m[k]'. -/
theorem MvAt.get2 (O : M.Of P) {w : World} {b n : Nat} {f : κ → Option Value} (h : MvAt M P w b n f) (x : κ) (hx : M.okK x) : (Instr.lookup M.t (.map (some b)) (M.key x) true).run P w = .ok (.tuple #[(f x).getD M.zero, .bool (f x).isSome]) w := by
  obtain ⟨D, h1, h3⟩ := h
  obtain ⟨l, hl⟩ := O.kOf x hx
  obtain ⟨v, ps, hr, hv⟩ := h1.look_ok O.keyed O.ut (O.zRun w) (zd := .held M.zero) (zp := []) rfl hl
  have h4 := h3 x l hx hl
  have hv := selfR_inj hv
  rw [hr]
  cases hf : f x with
  | none =>
    rw [hf] at h4
    simp only at h4
    rw [Maps.atKey_of_not_has h4] at hv
    simp at hv
    rw [← hv, h4]; rfl
  | some u =>
    rw [hf] at h4
    rw [h4.2] at hv
    simp at hv
    rw [← hv, h4.1]; rfl
/-- 'm[k] = v'. -/
theorem MvAt.put (O : M.Of P) {w : World} {b n : Nat} {f : κ → Option Value} (h : MvAt M P w b n f) [DecidableEq κ] (x : κ) (v : Value) (hx : M.okK x) (hn : n < maxLen) :
    ∃ w', (Instr.mapUpdate M.t (.map (some b)) (M.key x) v).run P w = .ok () w' ∧ MvAt M P w' b (n + 1) (fun y => if y = x then some v else f y) ∧ w.grownBy w' (some b) := by
  obtain ⟨D, h1, h3⟩ := h
  obtain ⟨l, hl⟩ := O.kOf x hx
  obtain ⟨w', hr, h4, h5⟩ := h1.update O.keyed O.ut hn hl (val := v) (d := .held v) (ps := []) rfl
  refine ⟨w', hr, ⟨_, h4, fun y m hy hm => ?_⟩, h5⟩
  have hM := h1.isMap
  simp only
  by_cases e : y = x
  · subst e
    obtain rfl : l = m := by rw [hl] at hm; simpa using hm
    simp only [if_pos]
    exact ⟨Maps.has_put_same hM (O.keyed.key hl) _, fun z => Maps.atKey_put_same hM (O.keyed.key hl) _ z⟩
  · have hne : m ≠ l := fun e2 => e (O.kInj _ _ (O.keyed.inj (e2 ▸ hm) hl))
    simp only [if_neg e]
    have := h3 y m hy hm
    cases hf : f y with
    | none => rw [hf] at this; simp only at this ⊢; rw [Maps.has_put_other hne]; exact this
    | some u =>
      rw [hf] at this
      simp only at this ⊢
      exact ⟨by rw [Maps.has_put_other hne]; exact this.1, fun q => by rw [Maps.atKey_put_other hne]; exact this.2 q⟩
/-- 'delete(m, k)'. -/
theorem MvAt.del (O : M.Of P) {w : World} {b n : Nat} {f : κ → Option Value} (h : MvAt M P w b n f) [DecidableEq κ] (x : κ) (hx : M.okK x) (ty : TypeId) :
    ∃ w', (Builtin.delete_ #[M.t, M.k] ty #[.map (some b), M.key x]).run P w = .ok (.tuple #[]) w' ∧ MvAt M P w' b n (fun y => if y = x then none else f y) ∧ w.grownBy w' (some b) := by
  obtain ⟨D, h1, h3⟩ := h
  obtain ⟨l, hl⟩ := O.kOf x hx
  obtain ⟨w', hr, h4, h5⟩ := h1.drop O.keyed O.ut hl ty
  refine ⟨w', hr, ⟨_, h4, fun y m hy hm => ?_⟩, h5.grown⟩
  simp only
  by_cases e : y = x
  · subst e
    obtain rfl : l = m := by rw [hl] at hm; simpa using hm
    simp only [if_pos]
    first | exact Maps.has_del_same | exact Maps.has_del_same (O.keyed.key hl) | exact Maps.has_del_same h1.isMap (O.keyed.key hl)
  · have hne : m ≠ l := fun e2 => e (O.kInj _ _ (O.keyed.inj (e2 ▸ hm) hl))
    simp only [if_neg e]
    have := h3 y m hy hm
    cases hf : f y with
    | none => rw [hf] at this; simp only at this ⊢; rw [Maps.has_del_other hne]; exact this
    | some u =>
      rw [hf] at this
      simp only at this ⊢
      exact ⟨by rw [Maps.has_del_other hne]; exact this.1, fun q => by rw [Maps.atKey_del_other hne]; exact this.2 q⟩
end

/-- Maps keyed by ints. -/
def mvInt (t k e : TypeId) (z : Value) : MvTy Int := ⟨t, k, e, fun x => .int .i64 x, I64, z⟩
theorem mvInt_of {P : Program} {t k e : TypeId} {z : Value} (ut : P.underlying t = some (.map k e)) (uk : P.underlying k = some (.int .i64)) (zRun : ∀ w : World, (zeroValue e).run P w = .ok z w) : (mvInt t k e z).Of P :=
  ⟨ut, Maps.int_keyed uk, fun x hx => ⟨_, Maps.keyOf_int_mk uk (i64_wf hx)⟩, fun x y h => by simpa [mvInt] using h, zRun⟩
/-- The keys of a map keyed by ints: each number of the kind that f has, once. -/
theorem mvInt_keys {P : Program} {t k e : TypeId} {z : Value} (uk : P.underlying k = some (.int .i64)) {w : World} {b n : Nat} {D : DataW Value} {f : Int → Option Value} (h : MvIs (mvInt t k e z) P w b n D f) {x : Int} (hx : I64 x) : Maps.has D (.int .i64 x) = (f x).isSome := by
  have := h.2 x _ hx (Maps.keyOf_int_mk uk (i64_wf hx))
  cases hf : f x with
  | none => rw [hf] at this; exact this
  | some v => rw [hf] at this; exact this.1
end Go.Proofs.Ytcnmknhjmflinaa
