/- A map that the call has made, read as a function of the key. -/
import Derived.Test.YtjhnilfnnongeaaSh
import Derived.Maps.OwnSet
set_option linter.unusedVariables false
namespace Go.Proofs.Ytjhnilfnnongeaa
open Go.RowKit
open Go.Maps (Keyed IsMap)

theorem plain_inj {P : Program} {e : TypeId} {u v : Value} {y : DataW Unit × List MemPlace} (hu : plainElem P e u = some y) (hv : plainElem P e v = some y) : u = v := by
  unfold plainElem at hu hv
  cases h : P.underlying e with
  | none => rw [h] at hu; simp at hu
  | some t =>
    rw [h] at hu hv
    cases t <;> cases u <;> simp at hu <;> cases v <;> simp at hv
    · obtain rfl := hu; simpa using hv.symm
    · obtain ⟨⟨rfl, _⟩, rfl⟩ := hu; obtain ⟨⟨rfl, _⟩, h2⟩ := hv; simpa using h2.symm
    · obtain ⟨_, rfl⟩ := hu
      obtain ⟨_, h2⟩ := hv
      simp at h2
      congr 1
      exact (ByteArray.ext (by first | exact h2 | exact Array.toList_inj.1 h2)).symm

/-- A type of maps: its own number, its key's, its element's; what is a key; what is an element; the element's zero. -/
structure MapTy (κ : Type) where
  t : TypeId
  k : TypeId
  e : TypeId
  key : κ → Value
  okK : κ → Prop
  okV : Value → Prop
  zero : Value
structure MapTy.Of {κ : Type} (M : MapTy κ) (P : Program) : Prop where
  ut : P.underlying M.t = some (.map M.k M.e)
  keyed : Keyed P M.k
  kOf : ∀ x, M.okK x → ∃ l, keyOf P M.k (M.key x) = some l
  kInj : ∀ x y, M.key x = M.key y → x = y
  vOf : ∀ v, M.okV v → ∃ l, plainElem (H := Unit) P M.e v = some (.lit l, [])
  zOk : M.okV M.zero
  zRun : ∀ w : World, (zeroValue M.e).run P w = .ok M.zero w

/-- The map in block b, of at most n entries, has at each key just what f says. -/
def MpAt {κ : Type} (M : MapTy κ) (P : Program) (w : World) (b n : Nat) (f : κ → Option Value) : Prop :=
  ∃ D : DataW Unit, w.ownsMap P M.k (plainElem P M.e) b n D ∧ (∀ x v, f x = some v → M.okV v) ∧
    ∀ x l, M.okK x → keyOf P M.k (M.key x) = some l → match f x with
      | none => Maps.has D l = false
      | some v => Maps.has D l = true ∧ ∃ y, plainElem (H := Unit) P M.e v = some y ∧ ∀ z, D.atKey l z = y.1

section
variable {κ : Type} {M : MapTy κ} {P : Program}
theorem MpAt.made (w : World) : MpAt M P (w.alloc (.map #[] 0)) w.heap.size 0 (fun _ => none) :=
  ⟨_, World.ownsMap_made w P M.k _, fun _ _ h => (by cases h), fun _ _ _ _ => rfl⟩
theorem MpAt.lt {w : World} {b n : Nat} {f : κ → Option Value} (h : MpAt M P w b n f) : b < w.heap.size := by
  obtain ⟨D, h1, _⟩ := h; exact h1.lt
theorem MpAt.kept {w w' : World} {row : Option Nat} {b n : Nat} {f : κ → Option Value} (h : MpAt M P w b n f) (hg : w.grownBy w' row) (hne : some b ≠ row) : MpAt M P w' b n f := by
  obtain ⟨D, h1, h2⟩ := h; exact ⟨D, h1.kept hg hne, h2⟩
theorem MpAt.below {w w' : World} {b n : Nat} {f : κ → Option Value} (h : MpAt M P w b n f) (hb : Below w.heap.size w w') : MpAt M P w' b n f := h.kept (gb_below (r := none) hb) (by simp)
theorem MpAt.belowB {w w' : World} {b n B : Nat} {f : κ → Option Value} (h : MpAt M P w b n f) (hb : Below B w w') (hB : b < B) : MpAt M P w' b n f := by
  obtain ⟨D, ⟨es, clock, h1, h2⟩, h3⟩ := h
  exact ⟨D, ⟨es, clock, (hb.block b hB).trans h1, h2⟩, h3⟩
theorem MpAt.alloc {w : World} {b n : Nat} {f : κ → Option Value} (h : MpAt M P w b n f) (o : Obj) : MpAt M P (w.alloc o) b n f := h.below (alloc_below _ _)
theorem MpAt.drew {w : World} {b n : Nat} {f : κ → Option Value} (h : MpAt M P w b n f) (k : Nat) : MpAt M P (w.drewN k) b n f := h.below (below_drewN (Below.refl _ _) k)
theorem MpAt.setCell {w : World} {b n : Nat} {f : κ → Option Value} (h : MpAt M P w b n f) {a : Addr} (ha : b ≠ a.block) (u : Value) : MpAt M P (w.setCell a u) b n f := by
  obtain ⟨D, h1, h2⟩ := h; exact ⟨D, h1.setCell ha u, h2⟩
theorem MpAt.mono {w : World} {b n n' : Nat} {f : κ → Option Value} (h : MpAt M P w b n f) (hn : n ≤ n') : MpAt M P w b n' f := by
  obtain ⟨D, h1, h2⟩ := h; exact ⟨D, h1.mono hn, h2⟩
theorem MpAt.same {w : World} {b n : Nat} {f g : κ → Option Value} (h : MpAt M P w b n f) (e : ∀ x, f x = g x) : MpAt M P w b n g := by
  obtain rfl : f = g := funext e; exact h
/-- 'm[k]'. -/
theorem MpAt.get (O : M.Of P) {w : World} {b n : Nat} {f : κ → Option Value} (h : MpAt M P w b n f) (x : κ) (hx : M.okK x) : (Instr.lookup M.t (.map (some b)) (M.key x) false).run P w = .ok ((f x).getD M.zero) w := by
  obtain ⟨D, h1, h2, h3⟩ := h
  obtain ⟨l, hl⟩ := O.kOf x hx
  obtain ⟨lz, hz⟩ := O.vOf _ O.zOk
  obtain ⟨v, ps, hr, hv⟩ := h1.lookup O.keyed O.ut (O.zRun w) hz hl
  have h4 := h3 x l hx hl
  rw [hr]
  congr 1
  have hp := plainElem_places hv
  simp only at hp
  subst hp
  cases hf : f x with
  | none =>
    rw [hf] at h4
    rw [Maps.atKey_of_not_has h4] at hv
    exact plain_inj hv hz
  | some u =>
    rw [hf] at h4
    obtain ⟨_, y, hy, hat⟩ := h4
    rw [hat] at hv
    have hp := plainElem_places hy
    obtain ⟨y1, y2⟩ := y
    simp only at hp
    subst hp
    exact plain_inj hv hy
/-- 'v, ok := m[k]'. -/
theorem MpAt.get2 (O : M.Of P) {w : World} {b n : Nat} {f : κ → Option Value} (h : MpAt M P w b n f) (x : κ) (hx : M.okK x) : (Instr.lookup M.t (.map (some b)) (M.key x) true).run P w = .ok (.tuple #[(f x).getD M.zero, .bool (f x).isSome]) w := by
  obtain ⟨D, h1, h2, h3⟩ := h
  obtain ⟨l, hl⟩ := O.kOf x hx
  obtain ⟨lz, hz⟩ := O.vOf _ O.zOk
  obtain ⟨v, ps, hr, hv⟩ := h1.look_ok O.keyed O.ut (O.zRun w) hz hl
  have h4 := h3 x l hx hl
  rw [hr]
  have hp := plainElem_places hv
  simp only at hp
  subst hp
  cases hf : f x with
  | none =>
    rw [hf] at h4
    simp only at h4
    rw [Maps.atKey_of_not_has h4] at hv
    rw [plain_inj hv hz, h4]; rfl
  | some u =>
    rw [hf] at h4
    obtain ⟨h5, y, hy, hat⟩ := h4
    rw [hat] at hv
    have hp := plainElem_places hy
    obtain ⟨y1, y2⟩ := y
    simp only at hp
    subst hp
    rw [plain_inj hv hy, h5]; rfl
/-- 'm[k] = v'. -/
theorem MpAt.put (O : M.Of P) {w : World} {b n : Nat} {f : κ → Option Value} (h : MpAt M P w b n f) [DecidableEq κ] (x : κ) (v : Value) (hx : M.okK x) (hv : M.okV v) (hn : n < maxLen) :
    ∃ w', (Instr.mapUpdate M.t (.map (some b)) (M.key x) v).run P w = .ok () w' ∧ MpAt M P w' b (n + 1) (fun y => if y = x then some v else f y) ∧ w.grownBy w' (some b) := by
  obtain ⟨D, h1, h2, h3⟩ := h
  obtain ⟨l, hl⟩ := O.kOf x hx
  obtain ⟨lv, hlv⟩ := O.vOf v hv
  obtain ⟨w', hr, h4, h5⟩ := h1.update O.keyed O.ut hn hl hlv
  refine ⟨w', hr, ⟨_, h4, fun y u hy => ?_, fun y m hy hm => ?_⟩, h5⟩
  · simp only at hy
    split at hy
    · simp only [Option.some.injEq] at hy; subst hy; exact hv
    · exact h2 y u hy
  · have hM := h1.isMap
    simp only
    by_cases e : y = x
    · subst e
      obtain rfl : l = m := by rw [hl] at hm; simpa using hm
      simp only [if_pos]
      exact ⟨Maps.has_put_same hM (O.keyed.key hl) _, _, hlv, fun z => Maps.atKey_put_same hM (O.keyed.key hl) _ z⟩
    · have hne : m ≠ l := fun e2 => e (O.kInj _ _ (O.keyed.inj (e2 ▸ hm) hl))
      simp only [if_neg e]
      have := h3 y m hy hm
      cases hf : f y with
      | none => rw [hf] at this; simp only at this ⊢; rw [Maps.has_put_other hne]; exact this
      | some u =>
        rw [hf] at this
        simp only at this ⊢
        obtain ⟨a1, z, a2, a3⟩ := this
        exact ⟨by rw [Maps.has_put_other hne]; exact a1, z, a2, fun q => by rw [Maps.atKey_put_other hne]; exact a3 q⟩
end

/-- Maps keyed by ints of a kind. -/
theorem int_map {P : Program} {t k e : TypeId} {q : IntKind} {okV : Value → Prop} {z : Value} (ut : P.underlying t = some (.map k e)) (uk : P.underlying k = some (.int q)) (vOf : ∀ v, okV v → ∃ l, plainElem (H := Unit) P e v = some (.lit l, [])) (zOk : okV z)
    (zRun : ∀ w : World, (zeroValue e).run P w = .ok z w) : MapTy.Of (κ := Int) ⟨t, k, e, fun x => .int q x, fun x => (Lit.int q x).wf = true, okV, z⟩ P :=
  ⟨ut, Maps.int_keyed uk, fun x hx => ⟨_, Maps.keyOf_int_mk uk hx⟩, fun x y h => by simpa using h, vOf, zOk, zRun⟩
/-- Elements that are bools; that are ints of a kind. -/
def okB (v : Value) : Prop := ∃ b, v = .bool b
def okI (q : IntKind) (v : Value) : Prop := ∃ n, v = .int q n ∧ (Lit.int q n).wf = true
theorem okB_of {P : Program} {e : TypeId} (he : P.underlying e = some .bool) : ∀ v, okB v → ∃ l, plainElem (H := Unit) P e v = some (.lit l, []) := fun v ⟨b, h⟩ => h ▸ ⟨_, plainElem_bool he b⟩
theorem okI_of {P : Program} {e : TypeId} {q : IntKind} (he : P.underlying e = some (.int q)) : ∀ v, okI q v → ∃ l, plainElem (H := Unit) P e v = some (.lit l, []) := fun v ⟨n, h, hw⟩ => h ▸ ⟨_, plainElem_int he hw⟩
end Go.Proofs.Ytjhnilfnnongeaa
