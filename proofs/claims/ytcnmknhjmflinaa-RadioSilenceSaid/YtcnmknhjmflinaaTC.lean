/- The reference: Distances. -/
import Derived.Test.YtcnmknhjmflinaaTB
import Derived.Test.YtcnmknhjmflinaaRw
set_option linter.unusedVariables false
namespace Go.Proofs.Ytcnmknhjmflinaa.Tpo
open Go.RowKit

noncomputable section
open Classical
/-- What is known after s rounds. -/
def dU (l : List Ed) (a : Int) (s : Nat) (i : Int) : Int := if dist l a i ≤ (s : Int) then dist l a i else -1
/-- What is known in round s after k edges. -/
def dE (l : List Ed) (a : Int) (s k : Nat) (i : Int) : Int := if dist l a i ≤ (s : Int) then dist l a i else if ∃ u, Lk (l.take k) u i ∧ dist l a u = (s : Int) then (s : Int) + 1 else -1
end
section
variable {l : List Ed} {a : Int} {s k : Nat}
theorem dE_zero (i : Int) : dE l a s 0 i = dU l a s i := by
  unfold dE dU
  rw [if_neg (c := ∃ u, Lk (l.take 0) u i ∧ dist l a u = (s : Int))]
  rintro ⟨u, h, _⟩
  exact lk_nil _ _ h
theorem dE_in (i : Int) : -1 ≤ dE l a s k i ∧ dE l a s k i ≤ (s : Int) + 1 := by
  have := dist_neg l a i
  unfold dE
  split
  · omega
  · split <;> omega
theorem dE_s (i : Int) : dE l a s k i = (s : Int) ↔ dist l a i = (s : Int) := by
  unfold dE
  by_cases h : dist l a i ≤ (s : Int)
  · rw [if_pos h]
  · rw [if_neg h]
    split <;> omega
theorem dE_all (h : Nd a) (i : Int) : dE l a s l.length i = dU l a (s + 1) i := by
  unfold dE dU
  rw [List.take_length]
  by_cases h1 : dist l a i ≤ (s : Int)
  · rw [if_pos h1, if_pos (by omega)]
  · rw [if_neg h1]
    by_cases h2 : ∃ u, Lk l u i ∧ dist l a u = (s : Int)
    · obtain ⟨u, h3, h4⟩ := h2
      have := (dist_isD h).edge u i h3 (by omega)
      rw [if_pos ⟨u, h3, h4⟩, if_pos (by omega)]
      omega
    · rw [if_neg h2, if_neg]
      intro h3
      obtain ⟨u, h4, h5⟩ := (dist_isD (l := l) h).down i (by omega)
      exact h2 ⟨u, h4, by omega⟩
theorem dE_skip (hk : k < l.length) (hv : ¬ Vd l[k]) (i : Int) : dE l a s (k + 1) i = dE l a s k i := by
  unfold dE
  have e : (∃ u, Lk (l.take (k + 1)) u i ∧ dist l a u = (s : Int)) ↔ ∃ u, Lk (l.take k) u i ∧ dist l a u = (s : Int) := by
    constructor
    · rintro ⟨u, h, h2⟩
      exact ⟨u, ((lk_take l k hk u i).1 h).elim id (fun h => absurd h.1 hv), h2⟩
    · rintro ⟨u, h, h2⟩
      exact ⟨u, (lk_take l k hk u i).2 (Or.inl h), h2⟩
  by_cases hle : dist l a i ≤ (s : Int)
  · rw [if_pos hle, if_pos hle]
  · rw [if_neg hle, if_neg hle]
    by_cases c : ∃ u, Lk (l.take k) u i ∧ dist l a u = (s : Int)
    · rw [if_pos c, if_pos (e.2 c)]
    · rw [if_neg c, if_neg (fun h => c (e.1 h))]
/-- What an edge adds. -/
theorem dE_edge (hk : k < l.length) {x y : Int} (hl : l[k] = (x, y)) (hv : Vd (x, y)) (i : Int) : (∃ u, Lk (l.take (k + 1)) u i ∧ dist l a u = (s : Int)) ↔ (∃ u, Lk (l.take k) u i ∧ dist l a u = (s : Int)) ∨ (i = y ∧ dist l a x = (s : Int)) ∨ (i = x ∧ dist l a y = (s : Int)) := by
  constructor
  · rintro ⟨u, h, h2⟩
    rcases (lk_take l k hk u i).1 h with h | ⟨_, h⟩
    · exact Or.inl ⟨u, h, h2⟩
    · rw [hl] at h
      rcases h with ⟨h3, h4⟩ | ⟨h3, h4⟩
      · dsimp only at h3 h4; subst h3 h4; exact Or.inr (Or.inl ⟨rfl, h2⟩)
      · dsimp only at h3 h4; subst h3 h4; exact Or.inr (Or.inr ⟨rfl, h2⟩)
  · rintro (⟨u, h, h2⟩ | ⟨rfl, h⟩ | ⟨rfl, h⟩)
    · exact ⟨u, (lk_take l k hk u i).2 (Or.inl h), h2⟩
    · exact ⟨x, (lk_take l k hk x i).2 (Or.inr ⟨by rw [hl]; exact hv, by rw [hl]; exact Or.inl ⟨rfl, rfl⟩⟩), h⟩
    · exact ⟨y, (lk_take l k hk y i).2 (Or.inr ⟨by rw [hl]; exact hv, by rw [hl]; exact Or.inr ⟨rfl, rfl⟩⟩), h⟩
theorem lk_of (hk : k < l.length) {x y : Int} (hl : l[k] = (x, y)) (hv : Vd (x, y)) : Lk l x y := ⟨(x, y), by rw [← hl]; exact List.getElem_mem hk, hv, Or.inl ⟨rfl, rfl⟩⟩
theorem dE_one (h : Nd a) (hk : k < l.length) {x y : Int} (hl : l[k] = (x, y)) (hv : Vd (x, y)) (h1 : dist l a x = (s : Int)) (h2 : dE l a s k y < 0) (i : Int) : dE l a s (k + 1) i = if i = y then (s : Int) + 1 else dE l a s k i := by
  have hy := (dist_isD h).edge x y (lk_of hk hl hv) (by omega)
  have hyg : ¬ dist l a y ≤ (s : Int) := fun hle => by
    unfold dE at h2
    rw [if_pos hle] at h2
    omega
  unfold dE
  by_cases hi : i = y
  · subst hi
    rw [if_neg hyg, if_pos ((dE_edge hk hl hv i).2 (Or.inr (Or.inl ⟨rfl, h1⟩))), if_pos rfl]
  · rw [if_neg hi]
    by_cases hle : dist l a i ≤ (s : Int)
    · rw [if_pos hle, if_pos hle]
    · rw [if_neg hle, if_neg hle]
      have e : (∃ u, Lk (l.take (k + 1)) u i ∧ dist l a u = (s : Int)) ↔ ∃ u, Lk (l.take k) u i ∧ dist l a u = (s : Int) := by
        rw [dE_edge hk hl hv]
        refine ⟨fun h => ?_, Or.inl⟩
        rcases h with h | ⟨h, _⟩ | ⟨h, _⟩
        · exact h
        · exact absurd h hi
        · rw [h] at hle; omega
      by_cases c : ∃ u, Lk (l.take k) u i ∧ dist l a u = (s : Int)
      · rw [if_pos c, if_pos (e.2 c)]
      · rw [if_neg c, if_neg (fun h => c (e.1 h))]
theorem dE_two (h : Nd a) (hk : k < l.length) {x y : Int} (hl : l[k] = (x, y)) (hv : Vd (x, y)) (h1 : dist l a y = (s : Int)) (h2 : dE l a s k x < 0) (i : Int) : dE l a s (k + 1) i = if i = x then (s : Int) + 1 else dE l a s k i := by
  have hy := (dist_isD h).edge y x (lk_symm (lk_of hk hl hv)) (by omega)
  have hyg : ¬ dist l a x ≤ (s : Int) := fun hle => by
    unfold dE at h2
    rw [if_pos hle] at h2
    omega
  unfold dE
  by_cases hi : i = x
  · subst hi
    rw [if_neg hyg, if_pos ((dE_edge hk hl hv i).2 (Or.inr (Or.inr ⟨rfl, h1⟩))), if_pos rfl]
  · rw [if_neg hi]
    by_cases hle : dist l a i ≤ (s : Int)
    · rw [if_pos hle, if_pos hle]
    · rw [if_neg hle, if_neg hle]
      have e : (∃ u, Lk (l.take (k + 1)) u i ∧ dist l a u = (s : Int)) ↔ ∃ u, Lk (l.take k) u i ∧ dist l a u = (s : Int) := by
        rw [dE_edge hk hl hv]
        refine ⟨fun h => ?_, Or.inl⟩
        rcases h with h | ⟨h, _⟩ | ⟨h, _⟩
        · exact h
        · rw [h] at hle; omega
        · exact absurd h hi
      by_cases c : ∃ u, Lk (l.take k) u i ∧ dist l a u = (s : Int)
      · rw [if_pos c, if_pos (e.2 c)]
      · rw [if_neg c, if_neg (fun h => c (e.1 h))]
theorem dE_no (hk : k < l.length) {x y : Int} (hl : l[k] = (x, y)) (hv : Vd (x, y)) (h1 : dist l a x = (s : Int) → ¬ dE l a s k y < 0) (h2 : dist l a y = (s : Int) → ¬ dE l a s k x < 0) (i : Int) : dE l a s (k + 1) i = dE l a s k i := by
  have hn := dE_in (l := l) (a := a) (s := s) (k := k) i
  unfold dE
  by_cases hle : dist l a i ≤ (s : Int)
  · rw [if_pos hle, if_pos hle]
  · rw [if_neg hle, if_neg hle]
    have e : (∃ u, Lk (l.take (k + 1)) u i ∧ dist l a u = (s : Int)) ↔ ∃ u, Lk (l.take k) u i ∧ dist l a u = (s : Int) := by
      rw [dE_edge hk hl hv]
      refine ⟨fun h => ?_, Or.inl⟩
      rcases h with h | ⟨rfl, h⟩ | ⟨rfl, h⟩
      · exact h
      · refine Classical.byContradiction fun hc => h1 h ?_
        unfold dE
        rw [if_neg hle, if_neg hc]
        omega
      · refine Classical.byContradiction fun hc => h2 h ?_
        unfold dE
        rw [if_neg hle, if_neg hc]
        omega
    by_cases c : ∃ u, Lk (l.take k) u i ∧ dist l a u = (s : Int)
    · rw [if_pos c, if_pos (e.2 c)]
    · rw [if_neg c, if_neg (fun h => c (e.1 h))]
theorem dU_zero (h : Nd a) (i : Int) : dU l a 0 i = if i = a then 0 else -1 := by
  have := dist_neg l a i
  have := dist_zero (l := l) h i
  unfold dU
  by_cases e : i = a
  · rw [if_pos e, if_pos (by have := this.2 e; omega)]
    exact this.2 e
  · rw [if_neg e]
    by_cases c : dist l a i ≤ ((0 : Nat) : Int)
    · rw [if_pos c]
      have : ¬ dist l a i = 0 := fun h => e (this.1 h)
      omega
    · rw [if_neg c]
theorem dU_all (i : Int) : dU l a 251 i = dist l a i := by
  have := dist_max l a i
  unfold dU
  rw [if_pos (by omega)]
end
end Go.Proofs.Ytcnmknhjmflinaa.Tpo
