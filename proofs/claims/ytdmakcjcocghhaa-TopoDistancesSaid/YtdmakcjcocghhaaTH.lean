/- The chapter's examples, reckoned. -/
import Derived.Test.YtdmakcjcocghhaaTPlain
set_option linter.unusedVariables false
namespace Go.Proofs.Ytdmakcjcocghhaa.Tpo
open Go.RowKit

def L3 : List Ed := [(0, 1), (1, 2), (2, 3)]
def LR : List Ed := [(3, 0), (0, 1), (1, 2), (2, 3)]
theorem lk_list (l : List Ed) (a b : Int) : Lk l a b ↔ ∃ e ∈ l, Vd e ∧ Sm e a b := Iff.rfl
/-- A distance by a list of what is reached. -/
def lu (t : List (Int × Int)) (v : Int) : Int := match t with
  | [] => -1
  | x :: r => if v = x.1 then x.2 else lu r v
theorem lu_cons (x : Int × Int) (r : List (Int × Int)) (v : Int) : lu (x :: r) v = if v = x.1 then x.2 else lu r v := rfl
theorem lu_mem : ∀ (t : List (Int × Int)) (v : Int), 0 ≤ lu t v → (v, lu t v) ∈ t
  | [], v, h => by unfold lu at h; omega
  | x :: r, v, h => by
    rw [lu_cons] at h ⊢
    by_cases e : v = x.1
    · rw [if_pos e] at h ⊢; rw [e]; exact List.mem_cons_self
    · rw [if_neg e] at h ⊢; exact List.mem_cons_of_mem _ (lu_mem r v h)
theorem lu_neg : ∀ (t : List (Int × Int)), (∀ x ∈ t, -1 ≤ x.2) → ∀ v, -1 ≤ lu t v
  | [], _, v => by unfold lu; omega
  | x :: r, h, v => by
    rw [lu_cons]
    split
    · exact h x List.mem_cons_self
    · exact lu_neg r (fun y hy => h y (List.mem_cons_of_mem _ hy)) v
/-- What is to be seen of such a list: all by looking. -/
theorem lu_isD (l : List Ed) (a : Int) (t : List (Int × Int)) (h0 : lu t a = 0) (h1 : ∀ x ∈ t, 0 ≤ x.2 ∧ (x.2 = 0 → x.1 = a)) (h2 : ∀ x ∈ t, 0 < x.2 → ∃ y ∈ t, Lk l y.1 x.1 ∧ lu t y.1 = x.2 - 1)
    (h3 : ∀ e ∈ l, Vd e → (0 ≤ lu t e.1 → 0 ≤ lu t e.2 ∧ lu t e.2 ≤ lu t e.1 + 1) ∧ (0 ≤ lu t e.2 → 0 ≤ lu t e.1 ∧ lu t e.1 ≤ lu t e.2 + 1)) : IsD l a (lu t) where
  zero v := by
    constructor
    · intro e
      have := lu_mem t v (by omega)
      rw [e] at this
      exact (h1 _ this).2 rfl
    · rintro rfl; exact h0
  neg v := lu_neg t (fun x hx => by have := (h1 x hx).1; omega) v
  down v hv := by
    have := lu_mem t v (by omega)
    obtain ⟨y, _, h4, h5⟩ := h2 _ this hv
    exact ⟨y.1, h4, h5⟩
  edge u v hl hu := by
    obtain ⟨e, he, hve, hs⟩ := hl
    have := h3 e he hve
    rcases hs with ⟨rfl, rfl⟩ | ⟨rfl, rfl⟩
    · exact this.1 hu
    · exact this.2 hu
theorem dist_lu {l : List Ed} {a : Int} (h : Nd a) {t : List (Int × Int)} (hd : IsD l a (lu t)) (v : Int) : dist l a v = lu t v := dist_eq h hd v

theorem d3_0 : ∀ v, dist L3 0 v = lu [(0, 0), (1, 1), (2, 2), (3, 3)] v := dist_lu (by decide) (lu_isD _ _ _ (by decide) (by decide) (by decide) (by decide))
theorem d3_1 : ∀ v, dist L3 1 v = lu [(1, 0), (0, 1), (2, 1), (3, 2)] v := dist_lu (by decide) (lu_isD _ _ _ (by decide) (by decide) (by decide) (by decide))
theorem dr_0 : ∀ v, dist LR 0 v = lu [(0, 0), (1, 1), (3, 1), (2, 2)] v := dist_lu (by decide) (lu_isD _ _ _ (by decide) (by decide) (by decide) (by decide))
theorem x_near : near L3 1 = [0, 2] := (sel_is (by decide) fun v => by
  constructor
  · intro h
    rcases (by simpa using h : v = 0 ∨ v = 2) with rfl | rfl
    · exact ⟨by decide, by decide⟩
    · exact ⟨by decide, by decide⟩
  · rintro ⟨_, e, he, _, hs⟩
    unfold L3 at he
    simp only [List.mem_cons, List.not_mem_nil, or_false] at he
    rcases he with rfl | rfl | rfl
    · rcases hs with ⟨h1, h2⟩ | ⟨h1, h2⟩ <;> simp at h1 h2 ⊢ <;> omega
    · rcases hs with ⟨h1, h2⟩ | ⟨h1, h2⟩ <;> simp at h1 h2 ⊢ <;> omega
    · rcases hs with ⟨h1, h2⟩ | ⟨h1, h2⟩ <;> simp at h1 h2 ⊢).symm
theorem x_hops : dist L3 0 3 = 3 := by rw [d3_0]; decide
theorem x_ring : dist LR 0 3 = 1 := by rw [dr_0]; decide
theorem lu_le (t : List (Int × Int)) (m : Int) (h0 : -1 ≤ m) (h : ∀ x ∈ t, x.2 ≤ m) : ∀ v, lu t v ≤ m := by
  induction t with
  | nil => intro v; unfold lu; exact h0
  | cons x r ih =>
    intro v
    rw [lu_cons]
    split
    · exact h x List.mem_cons_self
    · exact ih (fun y hy => h y (List.mem_cons_of_mem _ hy)) v
theorem x_depth0 : depth L3 0 = 3 := depth_is (by omega) (fun v => by rw [d3_0]; exact lu_le _ 3 (by omega) (by decide) v) (Or.inr ⟨3, x_hops⟩)
theorem x_depth1 : depth L3 1 = 2 := depth_is (by omega) (fun v => by rw [d3_1]; exact lu_le _ 2 (by omega) (by decide) v) (Or.inr ⟨3, by rw [d3_1]; decide⟩)
theorem x_par : parent L3 0 3 = 2 := parent_eq (by rw [x_hops]; omega) ⟨by rw [d3_0, d3_0]; decide, by decide⟩ fun v h1 h2 h3 => by
  have := h3.1
  rw [d3_0, d3_0] at this
  rcases (show v = 0 ∨ v = 1 by omega) with rfl | rfl <;> revert this <;> decide
theorem x_par2 : parent LR 0 2 = 1 := parent_eq (by rw [dr_0]; decide) ⟨by rw [dr_0, dr_0]; decide, by decide⟩ fun v h1 h2 h3 => by
  have := h3.1
  rw [dr_0, dr_0] at this
  obtain rfl : v = 0 := by omega
  revert this; decide
/-- Whether a node is critical, by what is reached with and without it. -/
theorem crit_lu {l : List Ed} {r c : Int} {t u : List (Int × Int)} (ht : ∀ v, dist l r v = lu t v) (hu : ∀ v, dist (wout l [c]) r v = lu u v) (hc : 0 ≤ lu t c) (hne : c ≠ r) : Crit l r c ↔ ∃ v, v ≠ c ∧ 0 ≤ lu t v ∧ lu u v = -1 := by
  have h1 : 0 ≤ dist l r c := by rw [ht]; exact hc
  unfold Crit
  rw [crit_iff h1 hne]
  simp only [ht, hu]
  exact ⟨fun h => h.2, fun h => ⟨⟨hc, hne⟩, h⟩⟩
theorem w1 : wout L3 [1] = [(2, 3)] := by decide
theorem w2 : wout L3 [2] = [(0, 1)] := by decide
theorem w3 : wout L3 [3] = [(0, 1), (1, 2)] := by decide
theorem r1 : wout LR [1] = [(3, 0), (2, 3)] := by decide
theorem r2 : wout LR [2] = [(3, 0), (0, 1)] := by decide
theorem r3 : wout LR [3] = [(0, 1), (1, 2)] := by decide
theorem dw1 : ∀ v, dist (wout L3 [1]) 0 v = lu [(0, 0)] v := by rw [w1]; exact dist_lu (by decide) (lu_isD _ _ _ (by decide) (by decide) (by decide) (by decide))
theorem dw2 : ∀ v, dist (wout L3 [2]) 0 v = lu [(0, 0), (1, 1)] v := by rw [w2]; exact dist_lu (by decide) (lu_isD _ _ _ (by decide) (by decide) (by decide) (by decide))
theorem dw3 : ∀ v, dist (wout L3 [3]) 0 v = lu [(0, 0), (1, 1), (2, 2)] v := by rw [w3]; exact dist_lu (by decide) (lu_isD _ _ _ (by decide) (by decide) (by decide) (by decide))
theorem dr1 : ∀ v, dist (wout LR [1]) 0 v = lu [(0, 0), (3, 1), (2, 2)] v := by rw [r1]; exact dist_lu (by decide) (lu_isD _ _ _ (by decide) (by decide) (by decide) (by decide))
theorem dr2 : ∀ v, dist (wout LR [2]) 0 v = lu [(0, 0), (3, 1), (1, 1)] v := by rw [r2]; exact dist_lu (by decide) (lu_isD _ _ _ (by decide) (by decide) (by decide) (by decide))
theorem dr3 : ∀ v, dist (wout LR [3]) 0 v = lu [(0, 0), (1, 1), (2, 2)] v := by rw [r3]; exact dist_lu (by decide) (lu_isD _ _ _ (by decide) (by decide) (by decide) (by decide))
theorem none_lu (t u : List (Int × Int)) (c : Int) (h : ∀ x ∈ t, x.1 ≠ c → 0 ≤ lu u x.1) : ¬ ∃ v, v ≠ c ∧ 0 ≤ lu t v ∧ lu u v = -1 := by
  rintro ⟨v, h1, h2, h3⟩
  have := h _ (lu_mem t v h2) h1
  dsimp only at this
  omega
theorem k1 : Crit L3 0 1 := (crit_lu d3_0 dw1 (by decide) (by decide)).2 ⟨2, by decide, by decide, by decide⟩
theorem k2 : Crit L3 0 2 := (crit_lu d3_0 dw2 (by decide) (by decide)).2 ⟨3, by decide, by decide, by decide⟩
theorem k3 : ¬ Crit L3 0 3 := fun h => none_lu _ _ _ (by decide) ((crit_lu d3_0 dw3 (by decide) (by decide)).1 h)
theorem q1 : ¬ Crit LR 0 1 := fun h => none_lu _ _ _ (by decide) ((crit_lu dr_0 dr1 (by decide) (by decide)).1 h)
theorem q2 : ¬ Crit LR 0 2 := fun h => none_lu _ _ _ (by decide) ((crit_lu dr_0 dr2 (by decide) (by decide)).1 h)
theorem q3 : ¬ Crit LR 0 3 := fun h => none_lu _ _ _ (by decide) ((crit_lu dr_0 dr3 (by decide) (by decide)).1 h)
theorem x_cut : cut L3 0 = [1, 2] := (sel_is (by decide) fun v => by
  constructor
  · intro h
    rcases (by simpa using h : v = 1 ∨ v = 2) with rfl | rfl
    · exact ⟨by decide, k1⟩
    · exact ⟨by decide, k2⟩
  · rintro ⟨_, h⟩
    have h1 := h.1.1
    rw [d3_0] at h1
    have hm := lu_mem _ _ h1
    simp only [List.mem_cons, List.not_mem_nil, or_false, Prod.mk.injEq] at hm
    rcases hm with ⟨rfl, _⟩ | ⟨rfl, _⟩ | ⟨rfl, _⟩ | ⟨rfl, _⟩
    · exact absurd rfl h.1.2
    · decide
    · decide
    · exact absurd h k3).symm
theorem x_cut2 : cut LR 0 = [] := (sel_is (by decide) fun v => by
  constructor
  · intro h; cases h
  · rintro ⟨_, h⟩
    have h1 := h.1.1
    rw [dr_0] at h1
    have hm := lu_mem _ _ h1
    simp only [List.mem_cons, List.not_mem_nil, or_false, Prod.mk.injEq] at hm
    rcases hm with ⟨rfl, _⟩ | ⟨rfl, _⟩ | ⟨rfl, _⟩ | ⟨rfl, _⟩
    · exact absurd rfl h.1.2
    · exact absurd h q1
    · exact absurd h q3
    · exact absurd h q2).symm
theorem x_rest : wout L3 [1] = [(2, 3)] := w1
theorem x_reach : reach [(2, 3)] 0 = [0] := (sel_is (by decide) fun v => by
  have := dw1 v
  rw [w1] at this
  rw [this, List.mem_singleton]
  constructor
  · rintro rfl; exact ⟨by decide, by decide⟩
  · rintro ⟨_, h⟩
    have hm := lu_mem _ _ h
    exact (by simpa using hm : v = 0 ∧ _).1).symm
theorem x_dup : chk [(0, 1), (1, 0)] = 9 := by decide
theorem x_rng : chk [(3, 3)] = 2 := by decide
end Go.Proofs.Ytdmakcjcocghhaa.Tpo
