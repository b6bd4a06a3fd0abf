/- The stable sort's mathematics: rotation, symmetric merging, insertion, in any strict weak order; no program in sight. -/
import Derived.Sort.LotA
set_option linter.unusedVariables false
namespace Go.Proofs.Ythfkmmgckiijcaa.Lnk
open Go.Sort
variable {α : Type} [Inhabited α]

theorem swp_at (d : Array α) {i j : Nat} (hi : i < d.size) (hj : j < d.size) (k : Nat) : (swp d i j)[k]! = if k = j then d[i]! else if k = i then d[j]! else d[k]! := swp_get d hi hj k

/-- Two parts of n elements, at a and at b, exchanged. -/
def Swr (d : Array α) (a b n : Nat) (d' : Array α) : Prop :=
  (∀ q, q < n → d'[a + q]! = d[b + q]! ∧ d'[b + q]! = d[a + q]!) ∧ ∀ p, (p < a ∨ a + n ≤ p) → (p < b ∨ b + n ≤ p) → d'[p]! = d[p]!
theorem swr_zero (d : Array α) (a b : Nat) : Swr d a b 0 d := ⟨fun q h => absurd h (Nat.not_lt_zero _), fun _ _ _ => rfl⟩
theorem swr_succ {d d' : Array α} {a b n : Nat} (hab : a + n < b) (hb : b + n < d'.size) (h : Swr d a b n d') : Swr d a b (n + 1) (swp d' (a + n) (b + n)) := by
  have g := swp_get d' (show a + n < d'.size by omega) (show b + n < d'.size by omega)
  refine ⟨fun q hq => ?_, fun p h1 h2 => ?_⟩
  · rw [g, g]
    by_cases e : q = n
    · subst e
      rw [if_neg (by omega), if_pos rfl, if_pos rfl]
      exact ⟨h.2 _ (by omega) (by omega), h.2 _ (by omega) (by omega)⟩
    · rw [if_neg (by omega), if_neg (by omega), if_neg (by omega), if_neg (by omega)]
      exact h.1 q (by omega)
  · rw [g, if_neg (by omega), if_neg (by omega)]
    exact h.2 p (by omega) (by omega)

/-- The parts [a, m) and [m, b) have changed places. -/
def Rot (d : Array α) (a m b : Nat) (d' : Array α) : Prop :=
  (∀ p, p < a ∨ b ≤ p → d'[p]! = d[p]!) ∧ (∀ q, m + q < b → d'[a + q]! = d[m + q]!) ∧ ∀ q, a + q < m → d'[a + (b - m) + q]! = d[a + q]!
theorem rot_id_left (d : Array α) (m b : Nat) : Rot d m m b d := ⟨fun _ _ => rfl, fun _ _ => rfl, fun q h => by omega⟩
theorem rot_id_right (d : Array α) (a m : Nat) : Rot d a m m d := ⟨fun _ _ => rfl, fun q h => by omega, fun q h => by rw [Nat.sub_self, Nat.add_zero]⟩
theorem rot_even {d d' : Array α} {m i : Nat} (hi : i ≤ m) (h : Swr d (m - i) m i d') : Rot d (m - i) m (m + i) d' := by
  refine ⟨fun p hp => h.2 p (by omega) (by omega), fun q hq => (h.1 q (by omega)).1, fun q hq => ?_⟩
  rw [show m - i + (m + i - m) + q = m + q by omega]
  exact (h.1 q (by omega)).2
/-- The left part is longer. -/
theorem rot_left {d d1 d' : Array α} {m i j : Nat} (hi : i ≤ m) (hj : j < i) (h : Swr d (m - i) m j d1) (hr : Rot d1 (m - (i - j)) m (m + j) d') : Rot d (m - i) m (m + j) d' := by
  obtain ⟨r1, r2, r3⟩ := hr
  refine ⟨fun p hp => ?_, fun q hq => ?_, fun q hq => ?_⟩
  · rw [r1 p (by omega)]; exact h.2 p (by omega) (by omega)
  · rw [r1 _ (by omega)]; exact (h.1 q (by omega)).1
  · by_cases c : q < j
    · have := r2 q (by omega)
      rw [show m - i + (m + j - m) + q = m - (i - j) + q by omega, this]
      exact (h.1 q c).2
    · have := r3 (q - j) (by omega)
      rw [show m - i + (m + j - m) + q = m - (i - j) + (m + j - m) + (q - j) by omega, this, h.2 _ (by omega) (by omega)]
      congr 1
      omega
/-- The right part is longer. -/
theorem rot_right {d d1 d' : Array α} {m i j : Nat} (hi : i ≤ m) (hj : i < j) (h : Swr d (m - i) (m + j - i) i d1) (hr : Rot d1 (m - i) m (m + (j - i)) d') : Rot d (m - i) m (m + j) d' := by
  obtain ⟨r1, r2, r3⟩ := hr
  refine ⟨fun p hp => ?_, fun q hq => ?_, fun q hq => ?_⟩
  · rw [r1 p (by omega)]; exact h.2 p (by omega) (by omega)
  · by_cases c : q < j - i
    · rw [r2 q (by omega)]
      exact h.2 _ (by omega) (by omega)
    · have := r3 (q - (j - i)) (by omega)
      rw [show m - i + q = m - i + (m + (j - i) - m) + (q - (j - i)) by omega, this, (h.1 (q - (j - i)) (by omega)).1]
      congr 1
      omega
  · rw [r1 _ (by omega), show m - i + (m + j - m) + q = m + j - i + q by omega, (h.1 q (by omega)).2]

variable {lt : α → α → Bool}
theorem sorted_part {a b a' b' : Nat} {d : Array α} (h : SortedIn lt a b d) (ha : a ≤ a') (hb : b' ≤ b) : SortedIn lt a' b' d := fun i j h1 h2 h3 => h i j (by omega) h2 (by omega)
theorem sorted_le (hS : SWO lt) {a b : Nat} {d : Array α} (h : SortedIn lt a b d) {i j : Nat} (hi : a ≤ i) (hij : i ≤ j) (hj : j < b) : lt d[j]! d[i]! = false := by
  rcases Nat.lt_or_ge i j with c | c
  · exact h i j hi c hj
  · obtain rfl : i = j := by omega
    exact hS.irrefl _
/-- Two sorted parts, the first at most the second. -/
theorem sorted_join {a m b : Nat} {d : Array α} (h1 : SortedIn lt a m d) (h2 : SortedIn lt m b d) (hc : ∀ i j, a ≤ i → i < m → m ≤ j → j < b → lt d[j]! d[i]! = false) : SortedIn lt a b d := by
  intro i j hi hij hj
  by_cases c1 : j < m
  · exact h1 i j hi hij c1
  · by_cases c2 : m ≤ i
    · exact h2 i j c2 hij hj
    · exact hc i j hi (by omega) (by omega) hj

/-- The comparison that the program makes of a left and a right element is that of the order. -/
def Agr (lt lt' : α → α → Bool) (a m b : Nat) (d : Array α) : Prop := ∀ i j, a ≤ i → i < m → m ≤ j → j < b → lt' d[j]! d[i]! = lt d[j]! d[i]!

/-! The first element alone on the left: it goes to the place i - 1. -/
/-- d' is d with the element at a moved on to k, the ones between one place down. -/
def Mvu (d : Array α) (a k : Nat) (d' : Array α) : Prop := (∀ p, a ≤ p → p < k → d'[p]! = d[p + 1]!) ∧ d'[k]! = d[a]! ∧ ∀ p, p < a ∨ k < p → d'[p]! = d[p]!
theorem mvu_zero (d : Array α) (a : Nat) : Mvu d a a d := ⟨fun p h1 h2 => by omega, rfl, fun _ _ => rfl⟩
theorem mvu_succ {d d' : Array α} {a k : Nat} (ha : a ≤ k) (hk : k + 1 < d'.size) (h : Mvu d a k d') : Mvu d a (k + 1) (swp d' k (k + 1)) := by
  have g := swp_get d' (show k < d'.size by omega) hk
  obtain ⟨h1, h2, h3⟩ := h
  refine ⟨fun p p1 p2 => ?_, ?_, fun p hp => ?_⟩
  · rw [g, if_neg (by omega)]
    by_cases e : p = k
    · rw [if_pos e, h3 _ (by omega), e]
    · rw [if_neg e]; exact h1 p p1 (by omega)
  · rw [g, if_pos rfl]; exact h2
  · rw [g, if_neg (by omega), if_neg (by omega)]; exact h3 p (by omega)
theorem mvu_sorted (hS : SWO lt) {d d' : Array α} {a i b : Nat} (hb : a + 1 ≤ i) (hib : i ≤ b) (hs : SortedIn lt (a + 1) b d) (hl : ∀ p, a + 1 ≤ p → p < i → lt d[p]! d[a]! = true) (hr : ∀ p, i ≤ p → p < b → lt d[p]! d[a]! = false) (h : Mvu d a (i - 1) d') : SortedIn lt a b d' := by
  obtain ⟨h1, h2, h3⟩ := h
  intro x y hx hxy hy
  by_cases cy : y < i - 1
  · rw [h1 y (by omega) cy, h1 x hx (by omega)]
    exact hs (x + 1) (y + 1) (by omega) (by omega) (by omega)
  · by_cases ey : y = i - 1
    · rw [ey, h2, h1 x hx (by omega)]
      exact hS.asymmA (hl (x + 1) (by omega) (by omega))
    · rw [h3 y (by omega)]
      by_cases cx : x < i - 1
      · rw [h1 x hx cx]
        exact hs (x + 1) y (by omega) (by omega) hy
      · by_cases ex : x = i - 1
        · rw [ex, h2]; exact hr y (by omega) hy
        · rw [h3 x (by omega)]; exact hs x y (by omega) hxy hy

/-! The last element alone on the right: it goes to the place i. -/
/-- d' is d with the element at m moved down to k, the ones between one place up. -/
def Mvd (d : Array α) (k m : Nat) (d' : Array α) : Prop := (∀ p, k < p → p ≤ m → d'[p]! = d[p - 1]!) ∧ d'[k]! = d[m]! ∧ ∀ p, p < k ∨ m < p → d'[p]! = d[p]!
theorem mvd_zero (d : Array α) (m : Nat) : Mvd d m m d := ⟨fun p h1 h2 => by omega, rfl, fun _ _ => rfl⟩
theorem mvd_succ {d d' : Array α} {k m : Nat} (hm : k + 1 ≤ m) (hk : m < d'.size) (h : Mvd d (k + 1) m d') : Mvd d k m (swp d' (k + 1) k) := by
  have g := swp_get d' (show k + 1 < d'.size by omega) (show k < d'.size by omega)
  obtain ⟨h1, h2, h3⟩ := h
  refine ⟨fun p p1 p2 => ?_, ?_, fun p hp => ?_⟩
  · rw [g, if_neg (by omega)]
    by_cases e : p = k + 1
    · rw [if_pos e, h3 _ (by omega), e]; rfl
    · rw [if_neg e]; exact h1 p (by omega) p2
  · rw [g, if_pos rfl]; exact h2
  · rw [g, if_neg (by omega), if_neg (by omega)]; exact h3 p (by omega)
theorem mvd_sorted (hS : SWO lt) {d d' : Array α} {a i m : Nat} (hai : a ≤ i) (him : i ≤ m) (hs : SortedIn lt a m d) (hl : ∀ p, a ≤ p → p < i → lt d[m]! d[p]! = false) (hr : ∀ p, i ≤ p → p < m → lt d[m]! d[p]! = true) (h : Mvd d i m d') : SortedIn lt a (m + 1) d' := by
  obtain ⟨h1, h2, h3⟩ := h
  intro x y hx hxy hy
  by_cases cy : y < i
  · rw [h3 y (Or.inl cy), h3 x (by omega)]
    exact hs x y hx hxy (by omega)
  · by_cases ey : y = i
    · rw [ey, h2, h3 x (by omega)]
      exact hl x hx (by omega)
    · rw [h1 y (by omega) (by omega)]
      by_cases cx : x < i
      · rw [h3 x (by omega)]
        exact hs x (y - 1) hx (by omega) (by omega)
      · by_cases ex : x = i
        · rw [ex, h2]; exact hS.asymmA (hr (y - 1) (by omega) (by omega))
        · rw [h1 x (by omega) (by omega)]; exact hs (x - 1) (y - 1) (by omega) (by omega) (by omega)

/-! The symmetric merge: what the search finds, and the two parts behind the rotation. -/
/-- Where the search may look. -/
def lo (a m b : Nat) : Nat := if (a + b) / 2 < m then (a + b) / 2 + m - b else a
def hi (a m b : Nat) : Nat := if (a + b) / 2 < m then (a + b) / 2 else m
theorem lo_hi {a m b : Nat} (h1 : a < m) (h2 : m < b) : a ≤ lo a m b ∧ lo a m b ≤ hi a m b ∧ hi a m b ≤ m ∧ hi a m b ≤ (a + b) / 2 ∧ (a + b) / 2 + m ≤ lo a m b + b := by
  unfold lo hi
  split <;> omega
/-- What the search has found at start. -/
structure Fnd (lt : α → α → Bool) (a m b s : Nat) (d : Array α) : Prop where
  ge : lo a m b ≤ s
  le : s ≤ hi a m b
  low : ∀ c, lo a m b ≤ c → c < s → lt d[(a + b) / 2 + m - 1 - c]! d[c]! = false
  high : ∀ c, s ≤ c → c < hi a m b → lt d[(a + b) / 2 + m - 1 - c]! d[c]! = true
/-- Behind the rotation: both parts are made of two sorted ones, and the first is at most the second. -/
theorem fnd_cut (hS : SWO lt) {a m b s : Nat} {d d' : Array α} (h1 : a < m) (h2 : m < b) (hl : SortedIn lt a m d) (hr : SortedIn lt m b d) (F : Fnd lt a m b s d) (R : Rot d s m ((a + b) / 2 + m - s) d') :
    SortedIn lt a s d' ∧ SortedIn lt s ((a + b) / 2) d' ∧ SortedIn lt ((a + b) / 2) ((a + b) / 2 + m - s) d' ∧ SortedIn lt ((a + b) / 2 + m - s) b d' ∧
      ∀ i j, a ≤ i → i < (a + b) / 2 → (a + b) / 2 ≤ j → j < b → lt d'[j]! d'[i]! = false := by
  obtain ⟨l1, l2, l3, l4, l5⟩ := lo_hi h1 h2
  have g1 := F.ge
  have g2 := F.le
  obtain ⟨r1, r2, r3⟩ := R
  have M : ∀ j, (a + b) / 2 ≤ j → j < (a + b) / 2 + m - s → d'[j]! = d[j + s - (a + b) / 2]! := fun j hj1 hj2 => by
    have := r3 (j - (a + b) / 2) (by omega)
    rw [show j = s + ((a + b) / 2 + m - s - m) + (j - (a + b) / 2) by omega, this]
    congr 1; omega
  have L : ∀ j, s ≤ j → j < (a + b) / 2 → d'[j]! = d[m + (j - s)]! := fun j hj1 hj2 => by
    have := r2 (j - s) (by omega)
    rw [← this]; congr 1; omega
  have O : ∀ j, j < s ∨ (a + b) / 2 + m - s ≤ j → d'[j]! = d[j]! := r1
  refine ⟨fun i j hi hij hj => ?_, fun i j hi hij hj => ?_, fun i j hi hij hj => ?_, fun i j hi hij hj => ?_, fun i j hi1 hi2 hj1 hj2 => ?_⟩
  · rw [O i (by omega), O j (by omega)]; exact hl i j hi hij (by omega)
  · rw [L i hi (by omega), L j (by omega) hj]; exact hr _ _ (by omega) (by omega) (by omega)
  · rw [M i hi (by omega), M j (by omega) hj]; exact hl _ _ (by omega) (by omega) (by omega)
  · rw [O i (by omega), O j (by omega)]; exact hr i j (by omega) hij hj
  · by_cases ci : i < s
    · rw [O i (by omega)]
      by_cases cj : j < (a + b) / 2 + m - s
      · rw [M j hj1 cj]; exact sorted_le hS hl hi1 (by omega) (by omega)
      · rw [O j (by omega)]
        -- i in the left, j in the right, behind the end
        by_cases c0 : lo a m b < s
        · have k1 := F.low (s - 1) (by omega) (by omega)
          have k2 : lt d[(a + b) / 2 + m - 1 - (s - 1)]! d[i]! = false := hS.ntrans _ _ _ k1 (sorted_le hS hl hi1 (by omega) (by omega))
          refine hS.ntrans _ _ _ (sorted_le hS hr (i := (a + b) / 2 + m - 1 - (s - 1)) (by omega) (by omega) hj2) k2
        · exfalso
          have : s = lo a m b := by omega
          revert this ci cj
          unfold lo
          split <;> omega
    · rw [L i (by omega) hi2]
      by_cases cj : j < (a + b) / 2 + m - s
      · rw [M j hj1 cj]
        -- j in the left from start on, i in the right up to the end
        by_cases c0 : s < hi a m b
        · have k1 := F.high s (Nat.le_refl _) c0
          have k2 := hS.asymmA k1
          have k3 : lt d[j + s - (a + b) / 2]! d[(a + b) / 2 + m - 1 - s]! = false := by
            cases e : lt d[j + s - (a + b) / 2]! d[(a + b) / 2 + m - 1 - s]! with
            | false => rfl
            | true =>
              have := hS.trans _ _ _ e k1
              rw [sorted_le hS hl (i := s) (j := j + s - (a + b) / 2) (by omega) (by omega) (by omega)] at this
              cases this
          exact hS.ntrans _ _ _ k3 (sorted_le hS hr (by omega) (by omega) (by omega))
        · exfalso
          have : s = hi a m b := by omega
          revert this ci cj
          unfold hi
          split <;> omega
      · rw [O j (by omega)]; exact sorted_le hS hr (by omega) (by omega) hj2
/-- The two parts merged: the whole is. -/
theorem merge_whole {a k b : Nat} {d d1 d2 : Array α} (hb : b ≤ d.size) (hak : a ≤ k) (hkb : k ≤ b) (hc : ∀ i j, a ≤ i → i < k → k ≤ j → j < b → lt d[j]! d[i]! = false)
    (p1 : PermIn a k d d1) (s1 : SortedIn lt a k d1) (p2 : PermIn k b d1 d2) (s2 : SortedIn lt k b d2) : SortedIn lt a b d2 := by
  have e1 : ∀ i, i < k → d2[i]! = d1[i]! := fun i hi => p2.2.1 i (Or.inl hi)
  refine sorted_join (m := k) (fun i j h1 h2 h3 => by rw [e1 i (by omega), e1 j h3]; exact s1 i j h1 h2 h3) s2 fun i j h1 h2 h3 h4 => ?_
  rw [e1 i h2]
  -- every one of d1 in [a, k) is one of d there; every one of d2 in [k, b) is one of d1, so of d, there
  have q1 : ∀ j, k ≤ j → j < b → lt d1[j]! d1[i]! = false := fun j hj1 hj2 => by
    rw [p1.2.1 j (Or.inr hj1)]
    exact permIn_all d d1 a k (fun x => lt d[j]! x = false) (by omega) p1 (fun i hi1 hi2 => hc i j hi1 hi2 hj1 hj2) i h1 h2
  exact permIn_all d1 d2 k b (fun x => lt x d1[i]! = false) (by rw [p1.1]; exact hb) p2 q1 j h3 h4

/-! The searches: what one comparison says of all before or behind. -/
omit [Inhabited α] in
theorem lt_low (hS : SWO lt) {x y z : α} (h1 : lt x y = false) (h2 : lt x z = true) : lt y z = true := by
  cases e : lt y z with
  | true => rfl
  | false => rw [hS.ntrans _ _ _ h1 e] at h2; cases h2
omit [Inhabited α] in
theorem lt_high (hS : SWO lt) {x y z : α} (h1 : lt z y = false) (h2 : lt x y = true) : lt x z = true := by
  cases e : lt x z with
  | true => rfl
  | false => rw [hS.ntrans _ _ _ e h1] at h2; cases h2
theorem scan_low (hS : SWO lt) {a m b : Nat} {d : Array α} (h1 : a < m) (h2 : m < b) (hl : SortedIn lt a m d) (hr : SortedIn lt m b d) {c e : Nat} (hc : lo a m b ≤ c) (hce : c ≤ e) (he : e < hi a m b)
    (h : lt d[(a + b) / 2 + m - 1 - e]! d[e]! = false) : lt d[(a + b) / 2 + m - 1 - c]! d[c]! = false := by
  obtain ⟨l1, l2, l3, l4, l5⟩ := lo_hi h1 h2
  exact hS.ntrans _ _ _ (sorted_le hS hr (by omega) (by omega) (by omega)) (hS.ntrans _ _ _ h (sorted_le hS hl (by omega) hce (by omega)))
theorem scan_high (hS : SWO lt) {a m b : Nat} {d : Array α} (h1 : a < m) (h2 : m < b) (hl : SortedIn lt a m d) (hr : SortedIn lt m b d) {c e : Nat} (hc : lo a m b ≤ e) (hce : e ≤ c) (he : c < hi a m b)
    (h : lt d[(a + b) / 2 + m - 1 - e]! d[e]! = true) : lt d[(a + b) / 2 + m - 1 - c]! d[c]! = true := by
  obtain ⟨l1, l2, l3, l4, l5⟩ := lo_hi h1 h2
  exact lt_high hS (sorted_le hS hl (by omega) hce (by omega)) (lt_low hS (sorted_le hS hr (i := (a + b) / 2 + m - 1 - c) (by omega) (by omega) (by omega)) h)
/-- Left and right elements stay left and right ones. -/
theorem rot_agr {lt' : α → α → Bool} {a m b s : Nat} {d d' : Array α} (h1 : a < m) (h2 : m < b) (g1 : lo a m b ≤ s) (g2 : s ≤ hi a m b) (hg : Agr lt lt' a m b d) (R : Rot d s m ((a + b) / 2 + m - s) d') :
    Agr lt lt' a s ((a + b) / 2) d' ∧ Agr lt lt' ((a + b) / 2) ((a + b) / 2 + m - s) b d' := by
  obtain ⟨l1, l2, l3, l4, l5⟩ := lo_hi h1 h2
  obtain ⟨r1, r2, r3⟩ := R
  have M : ∀ j, (a + b) / 2 ≤ j → j < (a + b) / 2 + m - s → d'[j]! = d[j + s - (a + b) / 2]! := fun j hj1 hj2 => by
    have := r3 (j - (a + b) / 2) (by omega)
    rw [show j = s + ((a + b) / 2 + m - s - m) + (j - (a + b) / 2) by omega, this]
    congr 1; omega
  have L : ∀ j, s ≤ j → j < (a + b) / 2 → d'[j]! = d[m + (j - s)]! := fun j hj1 hj2 => by
    have := r2 (j - s) (by omega)
    rw [← this]; congr 1; omega
  refine ⟨fun i j i1 i2 j1 j2 => ?_, fun i j i1 i2 j1 j2 => ?_⟩
  · rw [r1 i (by omega), L j j1 j2]; exact hg i _ i1 (by omega) (by omega) (by omega)
  · rw [M i i1 i2, r1 j (by omega)]; exact hg _ j (by omega) (by omega) (by omega) j2
theorem agr_of {lt' : α → α → Bool} {a m b : Nat} {d d' : Array α} (h : Agr lt lt' a m b d) (he : ∀ p, a ≤ p → p < b → d'[p]! = d[p]!) : Agr lt lt' a m b d' := fun i j h1 h2 h3 h4 => by
  rw [he i (by omega) (by omega), he j (by omega) (by omega)]; exact h i j h1 h2 h3 h4
theorem sorted_of {a b : Nat} {d d' : Array α} (h : SortedIn lt a b d) (he : ∀ p, a ≤ p → p < b → d'[p]! = d[p]!) : SortedIn lt a b d' := fun i j h1 h2 h3 => by
  rw [he i h1 (by omega), he j (by omega) h3]; exact h i j h1 h2 h3

/-! Insertion in an order that agrees where it matters. -/
/-- lt' is what the program compares by; key ascends from place to place. -/
structure Stb (lt lt' : α → α → Bool) (key : α → Int) : Prop where
  agr : ∀ x y, key y < key x → lt' x y = lt x y
theorem insInner_perm (lt : α → α → Bool) (a : Nat) : ∀ (j : Nat) (d : Array α), a ≤ j → j < d.size → PermIn a (j + 1) d (insInner lt a j d)
  | 0, d, _, _ => by unfold insInner; exact permIn_refl _ _ _
  | j + 1, d, ha, hj => by
    unfold insInner
    split
    · rename_i hc
      simp only [Bool.and_eq_true, decide_eq_true_eq] at hc
      refine permIn_trans _ _ _ _ _ (swp_permIn d a (j + 1 + 1) (j + 1) j (by omega) (by omega) (by omega) (by omega) (by omega)) ?_
      refine permIn_mono _ _ a (j + 1) a (j + 1 + 1) (Nat.le_refl _) (by omega) (by rw [size_swp]; omega) (insInner_perm lt a j _ (by omega) (by rw [size_swp]; omega))
    · exact permIn_refl _ _ _
theorem insInner_agr {lt lt' : α → α → Bool} {key : α → Int} (hK : Stb lt lt' key) (a : Nat) : ∀ (j : Nat) (d : Array α), j < d.size → (∀ p, a ≤ p → p < j → key d[p]! < key d[j]!) → insInner lt' a j d = insInner lt a j d
  | 0, d, _, _ => by unfold insInner; rfl
  | j + 1, d, hj, h => by
    unfold insInner
    by_cases c : j + 1 > a
    · rw [hK.agr _ _ (h j (by omega) (by omega))]
      split
      · refine insInner_agr hK a j _ (by rw [size_swp]; omega) fun p h1 h2 => ?_
        rw [swp_other d (j + 1) j p (by omega) (by omega), swp_right d (j + 1) j (by omega)]
        exact h p h1 (by omega)
      · rfl
    · simp [c]
theorem insOuter_agr {lt lt' : α → α → Bool} {key : α → Int} (hS : SWO lt) (hK : Stb lt lt' key) (a b : Nat) : ∀ (n i : Nat) (d : Array α), b - i = n → a ≤ i → b ≤ d.size → (∀ p q, a ≤ p → p < q → i ≤ q → q < b → key d[p]! < key d[q]!) → insOuter lt' a b i d = insOuter lt a b i d
  | 0, i, d, hn, _, _, _ => by
    rw [insOuter.eq_1 lt' a b i d, insOuter.eq_1 lt a b i d, if_neg (by omega), if_neg (by omega)]
  | n + 1, i, d, hn, hai, hb, h => by
    rw [insOuter.eq_1 lt' a b i d, insOuter.eq_1 lt a b i d, if_pos (by omega), if_pos (by omega), insInner_agr hK a i d (by omega) fun p h1 h2 => h p i h1 h2 (Nat.le_refl _) (by omega)]
    have hp : PermIn a (i + 1) d (insInner lt a i d) := insInner_perm lt a i d hai (by omega)
    refine insOuter_agr hS hK a b n (i + 1) _ (by omega) (by omega) (by rw [hp.1]; exact hb) fun p q h1 h2 h3 h4 => ?_
    rw [hp.2.1 q (Or.inr h3)]
    by_cases c : p < i + 1
    · exact permIn_all d _ a (i + 1) (fun x => key x < key d[q]!) (by omega) hp (fun i' h5 h6 => h i' q h5 (by omega) (by omega) h4) p h1 c
    · rw [hp.2.1 p (by omega)]
      exact h p q h1 h2 (by omega) h4
end Go.Proofs.Ythfkmmgckiijcaa.Lnk
