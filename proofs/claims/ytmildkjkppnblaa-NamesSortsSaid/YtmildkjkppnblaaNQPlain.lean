/- Plain mathematics of sorted lists of strings; no program in sight. -/
import Derived.Test.YtmildkjkppnblaaNPlain
import Derived.Sort.KeysCollected
import Derived.Lib.SlicesCompact
import Derived.Lib.SlicesS
set_option linter.unusedVariables false
namespace Go.Proofs.Ytmildkjkppnblaa
open Go.RowKit

abbrev Str := List UInt8
theorem slt_irrefl (a : Str) : ¬ a < a := List.lt_irrefl a
theorem slt_trans {a b c : Str} (h1 : a < b) (h2 : b < c) : a < c := List.lt_trans h1 h2
theorem slt_of_le_ne {a b : Str} (h : a ≤ b) (hne : a ≠ b) : a < b := by
  rcases List.le_total b a with h2 | h2
  · exact absurd (List.le_antisymm h h2) hne
  · by_cases e : a < b
    · exact e
    · exact absurd (List.le_antisymm h (List.not_lt.1 e)) hne
theorem slt_or (a b : Str) : a < b ∨ a = b ∨ b < a := by
  by_cases e : a = b
  · exact Or.inr (Or.inl e)
  · rcases List.le_total a b with h | h
    · exact Or.inl (slt_of_le_ne h e)
    · exact Or.inr (Or.inr (slt_of_le_ne h (Ne.symm e)))
theorem sle_of_lt {a b : Str} (h : a < b) : a ≤ b := List.le_of_lt h
theorem slt_of_le_lt {a b c : Str} (h1 : a ≤ b) (h2 : b < c) : a < c := by
  by_cases e : a = b
  · rw [e]; exact h2
  · exact slt_trans (slt_of_le_ne h1 e) h2

/-- Strictly ascending. -/
def Asc (l : List Str) : Prop := l.Pairwise (· < ·)
theorem asc_nodup {l : List Str} (h : Asc l) : l.Nodup := by
  refine List.Pairwise.imp ?_ h
  intro a b hab e
  rw [e] at hab
  exact slt_irrefl b hab
theorem asc_unique {l m : List Str} (hl : Asc l) (hm : Asc m) (h : ∀ x, x ∈ l ↔ x ∈ m) : l = m := by
  have hp : l.Perm m := (List.perm_ext_iff_of_nodup (asc_nodup hl) (asc_nodup hm)).2 h
  exact List.Perm.eq_of_pairwise (le := fun a b => a < b) (fun a b _ _ h1 h2 => absurd (slt_trans h1 h2) (slt_irrefl a)) hl hm hp

/-- The strings in ascending order, each once. -/
def srt (l : List Str) : List Str := Lib.compact (l.mergeSort leB)
theorem comp_inv (d : Array Str) (hd : ∀ i j, i ≤ j → j < d.size → d[i]! ≤ d[j]!) : ∀ m, m ≤ d.size →
    Asc (Lib.compactUpTo d m) ∧ (∀ x, x ∈ Lib.compactUpTo d m ↔ ∃ j, j < m ∧ d[j]! = x) := by
  intro m
  induction m with
  | zero => intro _; refine ⟨?_, fun x => ?_⟩ <;> simp [Lib.compactUpTo, Asc]
  | succ m ih =>
    intro hm
    obtain ⟨h1, h2⟩ := ih (by omega)
    rw [Lib.compactUpTo_succ]
    by_cases hk : Lib.keeps d m = true
    · rw [if_pos hk]
      refine ⟨?_, fun x => ?_⟩
      · refine List.pairwise_append.2 ⟨h1, List.pairwise_singleton _ _, fun a ha b hb => ?_⟩
        obtain rfl := List.mem_singleton.1 hb
        obtain ⟨j, hj, rfl⟩ := (h2 a).1 ha
        have hk2 := of_decide_eq_true hk
        have h3 : d[m - 1]! ≠ d[m]! := by
          rcases hk2 with h | h
          · omega
          · exact Ne.symm h
        exact slt_of_le_lt (hd j (m - 1) (by omega) (by omega)) (slt_of_le_ne (hd (m - 1) m (by omega) (by omega)) h3)
      · rw [List.mem_append, h2, List.mem_singleton]
        constructor
        · rintro (⟨j, hj, e⟩ | e)
          · exact ⟨j, by omega, e⟩
          · exact ⟨m, by omega, e.symm⟩
        · rintro ⟨j, hj, e⟩
          by_cases hjm : j = m
          · subst hjm; exact Or.inr e.symm
          · exact Or.inl ⟨j, by omega, e⟩
    · rw [if_neg hk, List.append_nil]
      refine ⟨h1, fun x => ?_⟩
      have hk2 : ¬ (m = 0 ∨ d[m]! ≠ d[m - 1]!) := fun h => hk (decide_eq_true h)
      have h3 : d[m]! = d[m - 1]! := by
        by_cases e : d[m]! = d[m - 1]!
        · exact e
        · exact absurd (Or.inr e) hk2
      rw [h2]
      constructor
      · rintro ⟨j, hj, e⟩; exact ⟨j, by omega, e⟩
      · rintro ⟨j, hj, e⟩
        by_cases hjm : j = m
        · subst hjm
          exact ⟨j - 1, by omega, by rw [← h3]; exact e⟩
        · exact ⟨j, by omega, e⟩
theorem merge_le (l : List Str) : ∀ i j, i ≤ j → j < (l.mergeSort leB).toArray.size → (l.mergeSort leB).toArray[i]! ≤ (l.mergeSort leB).toArray[j]! := by
  have tr : ∀ a b c : Str, leB a b = true → leB b c = true → leB a c = true := fun a b c h1 h2 => by simp only [leB, decide_eq_true_eq] at *; exact List.le_trans h1 h2
  have to : ∀ a b : Str, (leB a b || leB b a) = true := fun a b => by simp only [leB, Bool.or_eq_true, decide_eq_true_eq]; exact List.le_total a b
  have hs := List.pairwise_mergeSort tr to l
  intro i j hij hj
  rw [getElem!_pos _ i (by omega), getElem!_pos _ j hj]
  by_cases e : i = j
  · subst e; exact List.le_refl _
  · have := (List.pairwise_iff_getElem.1 hs) i j (by simpa using (by omega : i < (l.mergeSort leB).toArray.size)) (by simpa using hj) (by omega)
    simpa [leB] using this
theorem srt_asc (l : List Str) : Asc (srt l) := (comp_inv _ (merge_le l) _ (by simp)).1
theorem srt_mem (l : List Str) (x : Str) : x ∈ srt l ↔ x ∈ l := by
  have h := (comp_inv _ (merge_le l) (l.mergeSort leB).length (by simp)).2 x
  refine h.trans ?_
  rw [← (List.mergeSort_perm l leB).mem_iff]
  constructor
  · rintro ⟨j, hj, e⟩
    rw [getElem!_pos _ j (by simpa using hj)] at e
    rw [← e]
    simp
  · intro hx
    obtain ⟨j, hj, e⟩ := List.mem_iff_getElem.1 hx
    exact ⟨j, hj, by rw [getElem!_pos _ j (by simpa using hj)]; simpa using e⟩
theorem srt_unique {l m : List Str} (h1 : Asc m) (h2 : ∀ x, x ∈ m ↔ x ∈ l) : m = srt l :=
  asc_unique h1 (srt_asc l) fun x => (h2 x).trans (srt_mem l x).symm
theorem sub_perm (m : List Str) : ∀ l : List Str, m.Nodup → (∀ x ∈ m, x ∈ l) → m.length ≤ l.length ∧ (l.length ≤ m.length → l.Perm m) := by
  induction m with
  | nil =>
    intro l _ _
    refine ⟨Nat.zero_le _, fun h => ?_⟩
    have : l = [] := List.eq_nil_of_length_eq_zero (Nat.le_zero.1 h)
    rw [this]
  | cons a m ih =>
    intro l hn hs
    have ha : a ∈ l := hs a List.mem_cons_self
    have hp := List.perm_cons_erase ha
    have hlen := hp.length_eq
    rw [List.length_cons] at hlen
    obtain ⟨hna, hnm⟩ := List.nodup_cons.1 hn
    have h := ih (l.erase a) hnm (fun x hx => (List.mem_erase_of_ne (fun e => hna (by rw [← e]; exact hx))).2 (hs x (List.mem_cons_of_mem _ hx)))
    rw [List.length_cons]
    refine ⟨by omega, fun hle => hp.trans ((h.2 (by omega)).cons a)⟩
theorem srt_length (l : List Str) : (srt l).length ≤ l.length :=
  (sub_perm _ l (asc_nodup (srt_asc l)) (fun x hx => (srt_mem l x).1 hx)).1
theorem srt_full (l : List Str) : (srt l).length = l.length ↔ l.Nodup := by
  have h : (srt l).Nodup := asc_nodup (srt_asc l)
  constructor
  · intro e
    exact ((sub_perm _ l h (fun x hx => (srt_mem l x).1 hx)).2 (by omega)).nodup_iff.2 h
  · intro hn
    exact ((List.perm_ext_iff_of_nodup h hn).2 fun x => srt_mem l x).length_eq

def ixF : List Str → Str → Nat → Int
  | [], _, _ => -1
  | z :: l, x, i => if z = x then (i : Int) else ixF l x (i + 1)
/-- The first index, or -1. -/
def ix (l : List Str) (x : Str) : Int := ixF l x 0
theorem ixF_hit (z : Str) (l : List Str) (x : Str) (i : Nat) (h : z = x) : ixF (z :: l) x i = i := by
  show (if z = x then _ else _) = _
  rw [if_pos h]
theorem ixF_next (z : Str) (l : List Str) (x : Str) (i : Nat) (h : ¬ z = x) : ixF (z :: l) x i = ixF l x (i + 1) := by
  show (if z = x then _ else _) = _
  rw [if_neg h]
theorem ixF_mem (x : Str) : ∀ (l : List Str) (i : Nat), (x ∉ l → ixF l x i = -1) ∧ (x ∈ l → (i : Int) ≤ ixF l x i ∧ ixF l x i < ((i + l.length : Nat) : Int)) ∧ (∀ k, x ∈ l → (ixF l x i < ((i + k : Nat) : Int) ↔ x ∈ l.take k)) := by
  intro l
  induction l with
  | nil => intro i; exact ⟨fun _ => rfl, fun h => absurd h List.not_mem_nil, fun _ h => absurd h List.not_mem_nil⟩
  | cons z l ih =>
    intro i
    obtain ⟨a, b, c⟩ := ih (i + 1)
    by_cases h : z = x
    · rw [ixF_hit z l x i h]
      refine ⟨fun hn => absurd (by rw [h]; exact List.mem_cons_self) hn, fun _ => ⟨Int.le_refl _, by simp; omega⟩, fun k _ => ?_⟩
      cases k with
      | zero => simp
      | succ k => rw [List.take_succ_cons, h]; simp; omega
    · rw [ixF_next z l x i h]
      have hm : x ∈ z :: l ↔ x ∈ l := by simp [Ne.symm h]
      refine ⟨fun hn => a (fun hx => hn (hm.2 hx)), fun hx => ?_, fun k hx => ?_⟩
      · have := b (hm.1 hx)
        rw [List.length_cons]; omega
      · cases k with
        | zero =>
          have := b (hm.1 hx)
          simp; omega
        | succ k =>
          have := c k (hm.1 hx)
          rw [List.take_succ_cons, List.mem_cons, show i + (k + 1) = i + 1 + k by omega, this]
          constructor
          · exact Or.inr
          · rintro (e | e)
            · exact absurd e.symm h
            · exact e
theorem ix_none (l : List Str) (x : Str) (h : x ∉ l) : ix l x = -1 := (ixF_mem x l 0).1 h
theorem ix_some (l : List Str) (x : Str) (h : x ∈ l) : 0 ≤ ix l x ∧ ix l x < (l.length : Int) := by
  have := (ixF_mem x l 0).2.1 h
  rw [Nat.zero_add] at this
  exact this
theorem ix_take (l : List Str) (x : Str) (k : Nat) (h : x ∈ l) : ix l x < (k : Int) ↔ x ∈ l.take k := by
  have := (ixF_mem x l 0).2.2 k h
  rw [Nat.zero_add] at this
  exact this
end Go.Proofs.Ytmildkjkppnblaa
