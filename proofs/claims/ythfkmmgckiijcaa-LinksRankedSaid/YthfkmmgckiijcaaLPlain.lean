/- Link tables: when they are valid, one more result, one entry less, cost and quality; no program in sight. -/
import Derived.WalkKit
set_option linter.unusedVariables false
namespace Go.Proofs.Ythfkmmgckiijcaa.Lnk
open Go.RowKit

/-- Node, Bits, Count. -/
abbrev Lk := Int × Int × Int
/-- The ones among the lowest k bits. -/
def ones : Nat → Nat → Nat
  | 0, _ => 0
  | k + 1, b => b % 2 + ones k (b / 2)
theorem ones_le (k : Nat) : ∀ b, ones k b ≤ k := by
  induction k with
  | zero => exact fun b => Nat.le_refl 0
  | succ k ih => intro b; have := ih (b / 2); unfold ones; omega
theorem ones_zero (k : Nat) : ones k 0 = 0 := by
  induction k with
  | zero => rfl
  | succ k ih => unfold ones; rw [Nat.zero_div, ih]
/-- One bit more below, all others one place up. -/
theorem ones_up (k b t : Nat) (ht : t < 2) : ones (k + 1) (2 * b + t) = t + ones k b := by
  show (2 * b + t) % 2 + ones k ((2 * b + t) / 2) = _
  rw [show (2 * b + t) % 2 = t by omega, show (2 * b + t) / 2 = b by omega]
/-- The uppermost of k + 1 bits apart. -/
theorem ones_top (k : Nat) : ∀ b, ones (k + 1) b = ones k b + b / 2 ^ k % 2 := by
  induction k with
  | zero => intro b; simp [ones]
  | succ k ih =>
    intro b
    show b % 2 + ones (k + 1) (b / 2) = (b % 2 + ones k (b / 2)) + _
    have e : b / 2 / 2 ^ k = b / 2 ^ (k + 1) := by rw [Nat.div_div_eq_div_mul, Nat.pow_succ']
    rw [ih (b / 2), e]
    omega
theorem ones_mod (k : Nat) : ∀ b, ones k (b % 2 ^ k) = ones k b := by
  induction k with
  | zero => exact fun b => rfl
  | succ k ih =>
    intro b
    have h1 : b % 2 ^ (k + 1) % 2 = b % 2 := by
      rw [Nat.pow_succ']; exact Nat.mod_mul_right_mod b 2 (2 ^ k)
    have h2 : b % 2 ^ (k + 1) / 2 = b / 2 % 2 ^ k := by
      rw [Nat.pow_succ']; exact Nat.mod_mul_right_div_self b 2 (2 ^ k)
    show b % 2 ^ (k + 1) % 2 + ones k (b % 2 ^ (k + 1) / 2) = b % 2 + ones k (b / 2)
    rw [h1, h2, ih]
theorem ones_small (k m b : Nat) (h : b < 2 ^ k) (hm : k ≤ m) : ones m b = ones k b := by
  induction m with
  | zero => rw [show k = 0 by omega]
  | succ m ih =>
    by_cases e : k = m + 1
    · rw [e]
    · rw [ones_top, ih (by omega)]
      have : b < 2 ^ m := Nat.lt_of_lt_of_le h (Nat.pow_le_pow_right (by omega) (by omega))
      rw [Nat.div_eq_of_lt this, Nat.zero_mod, Nat.add_zero]
theorem ones_pos (k b : Nat) (h : b < 2 ^ k) (h0 : ones k b = 0) : b = 0 := by
  induction k generalizing b with
  | zero => simp at h; exact h
  | succ k ih =>
    unfold ones at h0
    have := ih (b / 2) (by rw [Nat.pow_succ'] at h; omega) (by omega)
    omega
/-- Sixteen bits, one more result. -/
theorem ones_next (b t : Nat) (hb : b < 65536) (ht : t < 2) : ones 16 ((2 * b + t) % 65536) + b / 32768 = ones 16 b + t := by
  have h1 : ones 16 ((2 * b + t) % 65536) = ones 16 (2 * b + t) := ones_mod 16 (2 * b + t)
  have h2 : ones 16 (2 * b + t) = t + ones 15 b := ones_up 15 b t ht
  have h3 : ones 16 b = ones 15 b + b / 32768 % 2 := ones_top 15 b
  omega

/-- An entry is in range. -/
def Ok1 (x : Lk) : Prop := (0 ≤ x.1 ∧ x.1 ≤ 250) ∧ (0 ≤ x.2.2 ∧ x.2.2 ≤ 16) ∧ (0 ≤ x.2.1 ∧ x.2.1 < 2 ^ x.2.2.toNat)
instance (x : Lk) : Decidable (Ok1 x) := by unfold Ok1; infer_instance
/-- The error of a table behind an entry with this node. -/
def chkG (p : Int) : List Lk → Int
  | [] => 0
  | x :: r => if Ok1 x then (if x.1 ≤ p then 14 else chkG x.1 r) else 2
/-- The error of a table. -/
def chk (l : List Lk) : Int := if 24 < l.length then 3 else chkG (-1) l
/-- A valid table. -/
def Val (l : List Lk) : Prop := l.length ≤ 24 ∧ (∀ x ∈ l, Ok1 x) ∧ l.Pairwise fun a b => a.1 < b.1
theorem chkG_zero (l : List Lk) : ∀ p, chkG p l = 0 ↔ (∀ x ∈ l, Ok1 x ∧ p < x.1) ∧ l.Pairwise fun a b => a.1 < b.1 := by
  induction l with
  | nil => intro p; simp [chkG]
  | cons x r ih =>
    intro p
    unfold chkG
    by_cases h1 : Ok1 x
    · rw [if_pos h1]
      by_cases h2 : x.1 ≤ p
      · rw [if_pos h2]
        refine ⟨fun h => by omega, fun h => ?_⟩
        have := (h.1 x List.mem_cons_self).2
        omega
      · rw [if_neg h2, ih, List.pairwise_cons]
        refine ⟨fun h => ⟨fun y hy => ?_, fun y hy => (h.1 y hy).2, h.2⟩, fun h => ⟨fun y hy => ⟨(h.1 y (List.mem_cons_of_mem _ hy)).1, h.2.1 y hy⟩, h.2.2⟩⟩
        rcases List.mem_cons.1 hy with rfl | hy
        · exact ⟨h1, by omega⟩
        · have := h.1 y hy
          exact ⟨this.1, by omega⟩
    · rw [if_neg h1]
      exact ⟨fun h => by omega, fun h => absurd (h.1 x List.mem_cons_self).1 h1⟩
theorem chk_zero (l : List Lk) : chk l = 0 ↔ Val l := by
  unfold chk Val
  by_cases h : 24 < l.length
  · rw [if_pos h]; exact ⟨fun h => by omega, fun h2 => by omega⟩
  · rw [if_neg h, chkG_zero]
    refine ⟨fun h2 => ⟨by omega, fun x hx => (h2.1 x hx).1, h2.2⟩, fun h2 => ⟨fun x hx => ⟨h2.2.1 x hx, ?_⟩, h2.2.2⟩⟩
    have := (h2.2.1 x hx).1
    omega
/-- The table that counts. -/
def vl (l : List Lk) : List Lk := if chk l = 0 then l else []
theorem vl_val (l : List Lk) : Val (vl l) := by
  unfold vl
  by_cases h : chk l = 0
  · rw [if_pos h]; exact (chk_zero l).1 h
  · rw [if_neg h]; exact ⟨by simp, fun x hx => by simp at hx, List.Pairwise.nil⟩
theorem vl_id (l : List Lk) (h : Val l) : vl l = l := if_pos ((chk_zero l).2 h)
/-- The entry of a neighbor. -/
def ent (l : List Lk) (n : Int) : Option Lk := l.find? fun x => decide (x.1 = n)
theorem ent_mem {l : List Lk} {n : Int} {x : Lk} (h : ent l n = some x) : x ∈ l ∧ x.1 = n := ⟨List.mem_of_find?_eq_some h, by have := List.find?_some h; simpa using this⟩
theorem ent_none {l : List Lk} {n : Int} (h : ent l n = none) : ∀ x ∈ l, x.1 ≠ n := by
  intro x hx
  have := List.find?_eq_none.1 h x hx
  simpa using this
theorem ent_of {l : List Lk} (hv : l.Pairwise fun a b => a.1 < b.1) {x : Lk} (hx : x ∈ l) : ent l x.1 = some x := by
  cases h : ent l x.1 with
  | none => exact absurd rfl (ent_none h x hx)
  | some y =>
    obtain ⟨hy, e⟩ := ent_mem h
    congr 1
    clear h
    induction l with
    | nil => simp at hx
    | cons a r ih =>
      obtain ⟨h1, h2⟩ := List.pairwise_cons.1 hv
      rcases List.mem_cons.1 hx with e1 | hx'
      · rcases List.mem_cons.1 hy with e2 | hy'
        · rw [e1, e2]
        · have := h1 y hy'; rw [← e1] at this; omega
      · rcases List.mem_cons.1 hy with e2 | hy'
        · have := h1 x hx'; rw [← e2] at this; omega
        · exact ih h2 hx' hy'
/-- The successes of an entry. -/
def scc (x : Lk) : Int := (ones 16 x.2.1.toNat : Nat)
/-- The cost of an entry. -/
def cst (x : Lk) : Int := if scc x = 0 then 255 else -(-(10 * x.2.2) / scc x)
def cost (l : List Lk) (n : Int) : Int := match ent (vl l) n with | some x => cst x | none => 255
/-- The quality of an entry. -/
def qlt (x : Lk) : Int := if x.2.2 = 0 then 0 else 100 * scc x / x.2.2
def quality (l : List Lk) (n : Int) : Int := match ent (vl l) n with | some x => qlt x | none => 0
/-- An entry with one more result. -/
def nxt (x : Lk) (t : Int) : Lk := (x.1, (2 * x.2.1 + t) % 65536, min (x.2.2 + 1) 16)
theorem scc_le {x : Lk} (h : Ok1 x) : 0 ≤ scc x ∧ scc x ≤ x.2.2 := by
  obtain ⟨_, ⟨h1, h2⟩, h3, h4⟩ := h
  have hb : x.2.1.toNat < 2 ^ x.2.2.toNat := by
    have e : (((2 : Nat) ^ x.2.2.toNat : Nat) : Int) = (2 : Int) ^ x.2.2.toNat := by rw [Int.natCast_pow]; rfl
    rw [← e] at h4
    omega
  have h5 := ones_small x.2.2.toNat 16 x.2.1.toNat hb (by omega)
  have h6 := ones_le x.2.2.toNat x.2.1.toNat
  unfold scc
  omega
theorem pow_most (n m : Nat) (h : n ≤ m) : (2 : Int) ^ n ≤ ((2 ^ m : Nat) : Int) := by
  have h1 : (2 : Nat) ^ n ≤ 2 ^ m := Nat.pow_le_pow_right (by omega) h
  have e : (((2 : Nat) ^ n : Nat) : Int) = (2 : Int) ^ n := by rw [Int.natCast_pow]; rfl
  rw [← e]
  exact Int.ofNat_le.2 h1
theorem bits_lt {x : Lk} (h : Ok1 x) : 0 ≤ x.2.1 ∧ x.2.1 < 65536 := by
  obtain ⟨_, ⟨h1, h2⟩, h3, h4⟩ := h
  exact ⟨h3, Int.lt_of_lt_of_le h4 (pow_most x.2.2.toNat 16 (by omega))⟩
/-- One more result stays in range. -/
theorem nxt_ok {x : Lk} (h : Ok1 x) (t : Int) (ht : t = 0 ∨ t = 1) : Ok1 (nxt x t) := by
  have hb := bits_lt h
  obtain ⟨h0, ⟨h1, h2⟩, h3, h4⟩ := h
  refine ⟨h0, ⟨by show 0 ≤ min (x.2.2 + 1) 16; omega, by show min (x.2.2 + 1) 16 ≤ 16; omega⟩, by show 0 ≤ (2 * x.2.1 + t) % 65536; omega, ?_⟩
  show (2 * x.2.1 + t) % 65536 < 2 ^ (min (x.2.2 + 1) 16).toNat
  by_cases h16 : x.2.2 = 16
  · rw [h16, show (min ((16 : Int) + 1) 16).toNat = 16 by decide]
    omega
  · have e : (min (x.2.2 + 1) 16).toNat = x.2.2.toNat + 1 := by omega
    rw [e, Int.pow_succ]
    have : (2 * x.2.1 + t) % 65536 ≤ 2 * x.2.1 + t := by omega
    omega
/-- The successes of one more result. -/
theorem nxt_scc {x : Lk} (h : Ok1 x) (t : Int) (ht : t = 0 ∨ t = 1) : scc (nxt x t) + x.2.1 / 32768 = scc x + t := by
  have hb := bits_lt h
  obtain ⟨b, hbb⟩ : ∃ b : Nat, x.2.1 = (b : Int) := ⟨x.2.1.toNat, by omega⟩
  obtain ⟨u, hu⟩ : ∃ u : Nat, t = (u : Int) := ⟨t.toNat, by omega⟩
  have h2 := ones_next b u (by omega) (by omega)
  unfold scc nxt
  rw [hbb, hu]
  have e : ((2 * (b : Int) + (u : Int)) % 65536).toNat = (2 * b + u) % 65536 := by omega
  show ((ones 16 ((2 * (b : Int) + (u : Int)) % 65536).toNat : Nat) : Int) + _ = ((ones 16 (b : Int).toNat : Nat) : Int) + _
  rw [e, Int.toNat_natCast]
  omega
/-- The uppermost bit is set at a full count alone. -/
theorem top_full {x : Lk} (h : Ok1 x) (h1 : x.2.2 < 16) : x.2.1 / 32768 = 0 := by
  obtain ⟨_, ⟨h2, h3⟩, h4, h5⟩ := h
  have h6 : x.2.1 < 32768 := Int.lt_of_lt_of_le h5 (pow_most x.2.2.toNat 15 (by omega))
  omega
theorem cst_in {x : Lk} (h : Ok1 x) (h0 : scc x ≠ 0) : 10 ≤ cst x ∧ cst x ≤ 160 := by
  have hs := scc_le h
  obtain ⟨_, ⟨h1, h2⟩, _⟩ := h
  unfold cst
  rw [if_neg h0]
  generalize scc x = s at *
  generalize x.2.2 = c at *
  have hp : 0 < s := by omega
  constructor
  · have : -(10 * c) / s ≤ -10 := by
      have : -(10 * c) ≤ -10 * s := by omega
      exact Int.ediv_le_of_le_mul hp this
    omega
  · have : -160 ≤ -(10 * c) / s := by
      refine Int.le_ediv_of_mul_le hp ?_
      have : -160 * s ≤ -160 := by omega
      omega
    omega
/-- The cost by what it is least for: k costs at least as much as 10 c / s. -/
theorem cst_le {x : Lk} (h0 : 0 < scc x) (k : Int) : cst x ≤ k ↔ 10 * x.2.2 ≤ k * scc x := by
  unfold cst
  rw [if_neg (by omega)]
  generalize scc x = s at *
  generalize x.2.2 = c at *
  have h1 : -k ≤ -(10 * c) / s ↔ -k * s ≤ -(10 * c) := Int.le_ediv_iff_mul_le h0
  have e : -k * s = -(k * s) := Int.neg_mul k s
  rw [e] at h1
  omega
/-- A success does not increase the cost, a failure does not decrease it. -/
theorem cst_good {x : Lk} (h : Ok1 x) : cst (nxt x 1) ≤ cst x := by
  have hs := scc_le h
  have ho := nxt_ok h 1 (Or.inr rfl)
  have hs2 := scc_le ho
  have hn := nxt_scc h 1 (Or.inr rfl)
  have hb := bits_lt h
  have hc := h.2.1
  have htop : x.2.1 / 32768 ≤ 1 := by omega
  by_cases h0 : scc x = 0
  · have e : cst x = 255 := if_pos h0
    rw [e]
    by_cases h3 : scc (nxt x 1) = 0
    · rw [show cst (nxt x 1) = 255 from if_pos h3]; omega
    · have := (cst_in ho h3).2; omega
  · have hp : 0 < scc x := by omega
    have hp2 : 0 < scc (nxt x 1) := by omega
    rw [cst_le hp2]
    have hk := (cst_le hp (cst x)).1 (Int.le_refl _)
    have hin := (cst_in h h0).1
    generalize cst x = k at *
    have hcn : (nxt x 1).2.2 = min (x.2.2 + 1) 16 := rfl
    rw [hcn]
    by_cases h16 : x.2.2 < 16
    · have ht := top_full h h16
      have e : scc (nxt x 1) = scc x + 1 := by omega
      rw [e, Int.mul_add, show min (x.2.2 + 1) 16 = x.2.2 + 1 by omega]
      omega
    · have e : min (x.2.2 + 1) 16 = x.2.2 := by omega
      rw [e]
      have : k * scc x ≤ k * scc (nxt x 1) := Int.mul_le_mul_of_nonneg_left (by omega) (by omega)
      omega
theorem cst_bad {x : Lk} (h : Ok1 x) : cst x ≤ cst (nxt x 0) := by
  have hs := scc_le h
  have ho := nxt_ok h 0 (Or.inl rfl)
  have hs2 := scc_le ho
  have hn := nxt_scc h 0 (Or.inl rfl)
  have hb := bits_lt h
  have hc := h.2.1
  have htop : 0 ≤ x.2.1 / 32768 := by omega
  by_cases h0 : scc (nxt x 0) = 0
  · rw [show cst (nxt x 0) = 255 from if_pos h0]
    by_cases h3 : scc x = 0
    · rw [show cst x = 255 from if_pos h3]; omega
    · have := (cst_in h h3).2; omega
  · have hp2 : 0 < scc (nxt x 0) := by omega
    have hp : 0 < scc x := by omega
    rw [cst_le hp]
    have hk := (cst_le hp2 (cst (nxt x 0))).1 (Int.le_refl _)
    have hin := (cst_in ho h0).1
    generalize cst (nxt x 0) = k at *
    have hcn : (nxt x 0).2.2 = min (x.2.2 + 1) 16 := rfl
    rw [hcn] at hk
    have h1 : k * scc (nxt x 0) ≤ k * scc x := Int.mul_le_mul_of_nonneg_left (by omega) (by omega)
    omega

/-- The table with this entry, in place of that of its node if there is one. -/
def ins (x : Lk) : List Lk → List Lk
  | [] => [x]
  | y :: r => if y.1 < x.1 then y :: ins x r else if y.1 = x.1 then x :: r else x :: y :: r
theorem ins_mem (x : Lk) : ∀ (l : List Lk) (z : Lk), z ∈ ins x l → z = x ∨ z ∈ l := by
  intro l
  induction l with
  | nil => intro z h; simpa [ins] using h
  | cons y r ih =>
    intro z h
    unfold ins at h
    split at h
    · rcases List.mem_cons.1 h with e | h
      · exact Or.inr (by rw [e]; exact List.mem_cons_self)
      · rcases ih z h with e | h
        · exact Or.inl e
        · exact Or.inr (List.mem_cons_of_mem _ h)
    · split at h
      · rcases List.mem_cons.1 h with e | h
        · exact Or.inl e
        · exact Or.inr (List.mem_cons_of_mem _ h)
      · rcases List.mem_cons.1 h with e | h
        · exact Or.inl e
        · exact Or.inr h
theorem ins_sorted (x : Lk) : ∀ l : List Lk, (l.Pairwise fun a b => a.1 < b.1) → (ins x l).Pairwise fun a b => a.1 < b.1 := by
  intro l
  induction l with
  | nil => intro _; simp [ins]
  | cons y r ih =>
    intro h
    obtain ⟨h1, h2⟩ := List.pairwise_cons.1 h
    unfold ins
    split
    · rename_i hlt
      refine List.pairwise_cons.2 ⟨fun z hz => ?_, ih h2⟩
      rcases ins_mem x r z hz with e | hz
      · rw [e]; exact hlt
      · exact h1 z hz
    · split
      · rename_i he
        exact List.pairwise_cons.2 ⟨fun z hz => by rw [← he]; exact h1 z hz, h2⟩
      · rename_i hn he
        refine List.pairwise_cons.2 ⟨fun z hz => ?_, h⟩
        rcases List.mem_cons.1 hz with e | hz
        · rw [e]; omega
        · have := h1 z hz; omega
theorem ent_ins (x : Lk) (m : Int) : ∀ l : List Lk, ent (ins x l) m = if x.1 = m then some x else ent l m := by
  intro l
  induction l with
  | nil =>
    by_cases h : x.1 = m
    · rw [if_pos h]; simp [ins, ent, h]
    · rw [if_neg h]; simp [ins, ent, h]
  | cons y r ih =>
    have hc : ∀ (a : Lk) (t : List Lk), ent (a :: t) m = if a.1 = m then some a else ent t m := fun a t => by
      by_cases h : a.1 = m
      · rw [if_pos h]; simp [ent, h]
      · rw [if_neg h]; simp [ent, h]
    unfold ins
    split
    · rename_i hlt
      rw [hc, ih, hc]
      by_cases h1 : y.1 = m
      · rw [if_pos h1, if_neg (by omega), if_pos h1]
      · rw [if_neg h1, if_neg h1]
    · split
      · rename_i he
        rw [hc, hc]
        by_cases h1 : x.1 = m
        · rw [if_pos h1, if_pos h1]
        · rw [if_neg h1, if_neg h1, if_neg (by omega)]
      · rw [hc]
theorem ins_len (x : Lk) : ∀ l : List Lk, (ins x l).length ≤ l.length + 1 := by
  intro l
  induction l with
  | nil => simp [ins]
  | cons y r ih =>
    unfold ins
    split
    · simp; omega
    · split <;> simp
theorem ins_len_has (x : Lk) : ∀ l : List Lk, (l.Pairwise fun a b => a.1 < b.1) → (∃ y ∈ l, y.1 = x.1) → (ins x l).length = l.length := by
  intro l
  induction l with
  | nil => intro _ ⟨y, hy, _⟩; simp at hy
  | cons y r ih =>
    intro h ⟨z, hz, he⟩
    obtain ⟨h1, h2⟩ := List.pairwise_cons.1 h
    unfold ins
    split
    · rename_i hlt
      rcases List.mem_cons.1 hz with e | hz
      · rw [e] at he; omega
      · rw [List.length_cons, ih h2 ⟨z, hz, he⟩, List.length_cons]
    · split
      · simp
      · rename_i hn hne
        rcases List.mem_cons.1 hz with e | hz
        · rw [e] at he; omega
        · have := h1 z hz; omega
/-- The entry of a neighbor, an empty one if there is none. -/
def entd (l : List Lk) (n : Int) : Lk := (ent l n).getD (n, 0, 0)
theorem ok_empty {n : Int} (h : 0 ≤ n ∧ n ≤ 250) : Ok1 (n, 0, 0) := ⟨h, ⟨by show (0 : Int) ≤ 0; omega, by show (0 : Int) ≤ 16; omega⟩, by show (0 : Int) ≤ 0; omega, by show (0 : Int) < 2 ^ (0 : Int).toNat; decide⟩
theorem entd_ok {l : List Lk} (hl : Val l) {n : Int} (h : 0 ≤ n ∧ n ≤ 250) : Ok1 (entd l n) ∧ (entd l n).1 = n := by
  unfold entd
  cases he : ent l n with
  | none => exact ⟨ok_empty h, rfl⟩
  | some x => exact ⟨hl.2.1 x (ent_mem he).1, (ent_mem he).2⟩
/-- Whether there is an entry, or room for one. -/
def Room (l : List Lk) (n : Int) : Prop := (0 ≤ n ∧ n ≤ 250) ∧ ((ent l n).isSome = true ∨ l.length < 24)
instance (l : List Lk) (n : Int) : Decidable (Room l n) := by unfold Room; infer_instance
/-- One more result. -/
def sen (l : List Lk) (n t : Int) : List Lk := if Room (vl l) n then ins (nxt (entd (vl l) n) t) (vl l) else vl l
/-- One entry less. -/
def fgt (l : List Lk) (n : Int) : List Lk := (vl l).filter fun x => decide (x.1 ≠ n)
theorem sen_val (l : List Lk) (n t : Int) (ht : t = 0 ∨ t = 1) : Val (sen l n t) := by
  unfold sen
  have hv := vl_val l
  by_cases h : Room (vl l) n
  · rw [if_pos h]
    obtain ⟨hn, hr⟩ := h
    obtain ⟨ho, he⟩ := entd_ok hv hn
    have hx : (nxt (entd (vl l) n) t).1 = n := he
    refine ⟨?_, fun x hx => ?_, ins_sorted _ _ hv.2.2⟩
    · rcases hr with hr | hr
      · obtain ⟨y, hy⟩ := Option.isSome_iff_exists.1 hr
        rw [ins_len_has _ _ hv.2.2 ⟨y, (ent_mem hy).1, by rw [hx]; exact (ent_mem hy).2⟩]
        exact hv.1
      · have := ins_len (nxt (entd (vl l) n) t) (vl l); omega
    · rcases ins_mem _ _ x hx with e | hx
      · rw [e]; exact nxt_ok ho t ht
      · exact hv.2.1 x hx
  · rw [if_neg h]; exact hv
theorem fgt_val (l : List Lk) (n : Int) : Val (fgt l n) := by
  have hv := vl_val l
  refine ⟨Nat.le_trans (List.length_filter_le _ _) hv.1, fun x hx => hv.2.1 x (List.mem_filter.1 hx).1, List.Pairwise.filter _ hv.2.2⟩
theorem ent_fgt (l : List Lk) (n m : Int) : ent (fgt l n) m = if n = m then none else ent (vl l) m := by
  unfold fgt ent
  rw [List.find?_filter]
  by_cases h : n = m
  · rw [if_pos h]
    refine List.find?_eq_none.2 fun x _ => ?_
    simp; omega
  · rw [if_neg h]
    congr 1
    funext x
    by_cases e : x.1 = m
    · simp [e]; omega
    · simp [e]
theorem ent_sen (l : List Lk) (n t m : Int) : ent (sen l n t) m = if Room (vl l) n ∧ n = m then some (nxt (entd (vl l) n) t) else ent (vl l) m := by
  unfold sen
  by_cases h : Room (vl l) n
  · have he : (nxt (entd (vl l) n) t).1 = n := (entd_ok (vl_val l) h.1).2
    rw [if_pos h, ent_ins, he]
    by_cases e : n = m
    · rw [if_pos e, if_pos ⟨h, e⟩]
    · rw [if_neg e, if_neg (fun h => e h.2)]
  · rw [if_neg h, if_neg (fun h2 => h h2.1)]
/-- The cost of another neighbor stays. -/
theorem cost_sen_other (l : List Lk) (n t m : Int) (ht : t = 0 ∨ t = 1) (h : n ≠ m) : cost (sen l n t) m = cost l m := by
  unfold cost
  rw [vl_id _ (sen_val l n t ht), ent_sen, if_neg (fun e => h e.2)]
theorem cost_fgt_other (l : List Lk) (n m : Int) (h : n ≠ m) : cost (fgt l n) m = cost l m := by
  unfold cost
  rw [vl_id _ (fgt_val l n), ent_fgt, if_neg h]
theorem cost_fgt_same (l : List Lk) (n : Int) : cost (fgt l n) n = 255 := by
  unfold cost
  rw [vl_id _ (fgt_val l n), ent_fgt, if_pos rfl]
theorem scc_empty (n : Int) : scc (n, 0, 0) = 0 := by
  unfold scc
  rw [show (((n, 0, 0) : Lk).2.1).toNat = 0 from rfl, ones_zero]
  rfl
theorem cst_empty (n : Int) : cst (n, 0, 0) = 255 := if_pos (scc_empty n)
theorem cost_entd (l : List Lk) (n : Int) : cost l n = cst (entd (vl l) n) := by
  unfold cost entd
  cases ent (vl l) n with
  | none => exact (cst_empty n).symm
  | some x => rw [Option.getD_some]
theorem cost_good (l : List Lk) (n : Int) : cost (sen l n 1) n ≤ cost l n := by
  rw [cost_entd l n]
  unfold cost
  rw [vl_id _ (sen_val l n 1 (Or.inr rfl)), ent_sen]
  by_cases h : Room (vl l) n
  · rw [if_pos ⟨h, rfl⟩]
    exact cst_good (entd_ok (vl_val l) h.1).1
  · rw [if_neg (fun e => h e.1)]
    have := cost_entd l n
    unfold cost at this
    rw [this]
    exact Int.le_refl _
theorem cost_bad (l : List Lk) (n : Int) : cost l n ≤ cost (sen l n 0) n := by
  rw [cost_entd l n]
  unfold cost
  rw [vl_id _ (sen_val l n 0 (Or.inl rfl)), ent_sen]
  by_cases h : Room (vl l) n
  · rw [if_pos ⟨h, rfl⟩]
    exact cst_bad (entd_ok (vl_val l) h.1).1
  · rw [if_neg (fun e => h e.1)]
    have := cost_entd l n
    unfold cost at this
    rw [this]
    exact Int.le_refl _

/-- k more results of one kind. -/
def nxts (t : Int) : Nat → Lk → Lk
  | 0, x => x
  | k + 1, x => nxt (nxts t k x) t
theorem nxts_ok {x : Lk} (h : Ok1 x) (t : Int) (ht : t = 0 ∨ t = 1) (k : Nat) : Ok1 (nxts t k x) := by
  induction k with
  | zero => exact h
  | succ k ih => exact nxt_ok ih t ht
theorem nxts_count {x : Lk} (h : Ok1 x) (t : Int) (k : Nat) : (nxts t k x).2.2 = min (x.2.2 + k) 16 := by
  obtain ⟨_, ⟨h1, h2⟩, _⟩ := h
  induction k with
  | zero => show x.2.2 = _; omega
  | succ k ih => show min ((nxts t k x).2.2 + 1) 16 = _; rw [ih]; omega
/-- The lowest k bits after k results. -/
theorem low_step (b p t q : Nat) (hp : p * q = 32768) (ht : t < 2) (h : b % p = t * (p - 1)) : (2 * b + t) % 65536 % (2 * p) = t * (2 * p - 1) := by
  have hd : 2 * p ∣ 65536 := ⟨q, by rw [Nat.mul_assoc, hp]⟩
  have hp0 : 0 < p := by rcases Nat.eq_zero_or_pos p with e | e; · rw [e] at hp; omega
                         · exact e
  rw [Nat.mod_mod_of_dvd _ hd]
  have hb : b = p * (b / p) + t * (p - 1) := by rw [← h]; exact (Nat.div_add_mod b p).symm
  generalize b / p = r at hb
  rw [hb]
  have ht2 : t = 0 ∨ t = 1 := by omega
  rcases ht2 with rfl | rfl
  · rw [Nat.zero_mul, Nat.zero_mul, Nat.add_zero, Nat.add_zero, ← Nat.mul_assoc]
    exact Nat.mul_mod_right _ _
  · rw [Nat.one_mul, Nat.one_mul]
    have e : 2 * (p * r + (p - 1)) + 1 = 2 * p * r + (2 * p - 1) := by rw [Nat.mul_add, ← Nat.mul_assoc]; omega
    rw [e, Nat.mul_add_mod]
    exact Nat.mod_eq_of_lt (by omega)
theorem nxts_low {x : Lk} (h : Ok1 x) (t : Nat) (ht : t < 2) : ∀ k, k ≤ 16 → (nxts (t : Int) k x).2.1.toNat % 2 ^ k = t * (2 ^ k - 1) := by
  intro k
  induction k with
  | zero => intro _; simp [Nat.mod_one]
  | succ k ih =>
    intro hk
    have ht2 : (t : Int) = 0 ∨ (t : Int) = 1 := by omega
    have hb := bits_lt (nxts_ok h (t : Int) ht2 k)
    have h1 := ih (by omega)
    have hp : 2 ^ k * 2 ^ (15 - k) = 32768 := by rw [← Nat.pow_add, show k + (15 - k) = 15 by omega]
    have h2 := low_step (nxts (t : Int) k x).2.1.toNat (2 ^ k) t (2 ^ (15 - k)) hp ht h1
    have e : (nxts (t : Int) (k + 1) x).2.1.toNat = (2 * (nxts (t : Int) k x).2.1.toNat + t) % 65536 := by
      show ((2 * (nxts (t : Int) k x).2.1 + (t : Int)) % 65536).toNat = _
      generalize (nxts (t : Int) k x).2.1 = b at hb
      omega
    rw [e, Nat.pow_succ']
    exact h2
/-- Sixteen successes: all bits; sixteen failures: none. -/
theorem nxts_all {x : Lk} (h : Ok1 x) (t : Nat) (ht : t < 2) : (nxts (t : Int) 16 x).2.1 = (t : Int) * 65535 ∧ (nxts (t : Int) 16 x).2.2 = 16 := by
  have ht2 : (t : Int) = 0 ∨ (t : Int) = 1 := by omega
  have hb := bits_lt (nxts_ok h (t : Int) ht2 16)
  have h1 := nxts_low h t ht 16 (Nat.le_refl _)
  have h2 := nxts_count h (t : Int) 16
  have hc := h.2.1
  rw [show (2 : Nat) ^ 16 = 65536 from rfl] at h1
  have h3 : t = 0 ∨ t = 1 := by omega
  refine ⟨?_, by omega⟩
  rcases h3 with rfl | rfl
  · omega
  · omega
theorem full_16 : ones 16 65535 = 16 := by decide
/-- A table after k results of one kind. -/
def sens (l : List Lk) (n t : Int) : Nat → List Lk
  | 0 => l
  | k + 1 => sen (sens l n t k) n t
theorem sens_val (l : List Lk) (hl : Val l) (n t : Int) (ht : t = 0 ∨ t = 1) (k : Nat) : Val (sens l n t k) := by
  cases k with
  | zero => exact hl
  | succ k => exact sen_val _ n t ht
theorem sens_ent (l : List Lk) (hl : Val l) (n t : Int) (ht : t = 0 ∨ t = 1) (hr : Room l n) : ∀ k, Room (sens l n t k) n ∧ entd (sens l n t k) n = nxts t k (entd l n) := by
  intro k
  induction k with
  | zero => exact ⟨hr, rfl⟩
  | succ k ih =>
    have hv := sens_val l hl n t ht k
    have he : ent (sens l n t (k + 1)) n = some (nxt (entd (sens l n t k) n) t) := by
      show ent (sen (sens l n t k) n t) n = _
      rw [ent_sen, vl_id _ hv, if_pos ⟨ih.1, rfl⟩]
    refine ⟨⟨hr.1, Or.inl (by rw [he]; rfl)⟩, ?_⟩
    unfold entd
    rw [he, Option.getD_some, ← entd.eq_1, ih.2]
    rfl
/-- Sixteen successes in a row: quality 100, cost 10. -/
theorem sixteen_good (l : List Lk) (hl : Val l) (n : Int) (hr : Room l n) : quality (sens l n 1 16) n = 100 ∧ cost (sens l n 1 16) n = 10 := by
  obtain ⟨r, e⟩ := sens_ent l hl n 1 (Or.inr rfl) hr 16
  obtain ⟨b, c⟩ := nxts_all (entd_ok hl hr.1).1 1 (by omega)
  have hs : scc (nxts 1 16 (entd l n)) = 16 := by
    unfold scc
    rw [show (nxts 1 16 (entd l n)).2.1 = 65535 from b, show (65535 : Int).toNat = 65535 from rfl, full_16]
    rfl
  have hc : (nxts 1 16 (entd l n)).2.2 = 16 := c
  have hq : ent (sens l n 1 16) n = some (nxts 1 16 (entd l n)) := by
    have := sens_ent l hl n 1 (Or.inr rfl) hr 15
    show ent (sen (sens l n 1 15) n 1) n = _
    rw [ent_sen, vl_id _ (sens_val l hl n 1 (Or.inr rfl) 15), if_pos ⟨this.1, rfl⟩, this.2]
    rfl
  unfold quality cost
  rw [vl_id _ (sens_val l hl n 1 (Or.inr rfl) 16), hq]
  refine ⟨?_, ?_⟩
  · show qlt _ = 100
    unfold qlt
    rw [hs, hc, if_neg (by omega)]
    decide
  · show cst _ = 10
    unfold cst
    rw [hs, hc, if_neg (by omega)]
    decide
/-- Sixteen failures in a row: quality 0, no cost. -/
theorem sixteen_bad (l : List Lk) (hl : Val l) (n : Int) (hr : Room l n) : quality (sens l n 0 16) n = 0 ∧ cost (sens l n 0 16) n = 255 := by
  obtain ⟨b, c⟩ := nxts_all (entd_ok hl hr.1).1 0 (by omega)
  have hs : scc (nxts 0 16 (entd l n)) = 0 := by
    unfold scc
    rw [show (nxts 0 16 (entd l n)).2.1 = 0 from b, show (0 : Int).toNat = 0 from rfl, ones_zero]
    rfl
  have hc : (nxts 0 16 (entd l n)).2.2 = 16 := c
  have hq : ent (sens l n 0 16) n = some (nxts 0 16 (entd l n)) := by
    have := sens_ent l hl n 0 (Or.inl rfl) hr 15
    show ent (sen (sens l n 0 15) n 0) n = _
    rw [ent_sen, vl_id _ (sens_val l hl n 0 (Or.inl rfl) 15), if_pos ⟨this.1, rfl⟩, this.2]
    rfl
  unfold quality cost
  rw [vl_id _ (sens_val l hl n 0 (Or.inl rfl) 16), hq]
  refine ⟨?_, ?_⟩
  · show qlt _ = 0
    unfold qlt
    rw [hs, hc, if_neg (by omega)]
    decide
  · exact if_pos hs

/-- Two lists in a strict order with the same members are one. -/
theorem sorted_one {α : Type} {R : α → α → Prop} (has : ∀ a b, R a b → ¬ R b a) : ∀ (l m : List α), l.Pairwise R → m.Pairwise R → (∀ x, x ∈ l ↔ x ∈ m) → l = m := by
  intro l
  induction l with
  | nil =>
    intro m _ _ h
    cases m with
    | nil => rfl
    | cons b m => exact absurd ((h b).2 List.mem_cons_self) (by simp)
  | cons a l ih =>
    intro m hl hm h
    cases m with
    | nil => exact absurd ((h a).1 List.mem_cons_self) (by simp)
    | cons b m =>
      obtain ⟨l1, l2⟩ := List.pairwise_cons.1 hl
      obtain ⟨m1, m2⟩ := List.pairwise_cons.1 hm
      have hirr : ∀ a, ¬ R a a := fun a h => has a a h h
      have e : a = b := by
        rcases List.mem_cons.1 ((h a).1 List.mem_cons_self) with e | h1
        · exact e
        · rcases List.mem_cons.1 ((h b).2 List.mem_cons_self) with e | h2
          · exact e.symm
          · exact absurd (l1 b h2) (has _ _ (m1 a h1))
      subst e
      rw [ih m l2 m2 fun x => ⟨fun hx => ?_, fun hx => ?_⟩]
      · rcases List.mem_cons.1 ((h x).1 (List.mem_cons_of_mem _ hx)) with e | h1
        · rw [e] at hx; exact absurd (l1 a hx) (hirr a)
        · exact h1
      · rcases List.mem_cons.1 ((h x).2 (List.mem_cons_of_mem _ hx)) with e | h1
        · rw [e] at hx; exact absurd (m1 a hx) (hirr a)
        · exact h1
/-- The neighbors of a table. -/
def nodes (l : List Lk) : List Int := (vl l).map Prod.fst
/-- Of lesser cost, or of equal cost and a lesser number. -/
def Bef (l : List Lk) (a c : Int) : Prop := cost l a < cost l c ∨ (cost l a = cost l c ∧ a < c)
theorem bef_asymm (l : List Lk) (a c : Int) (h : Bef l a c) : ¬ Bef l c a := by unfold Bef at *; omega
/-- The neighbors with a finite cost, in order. -/
def IsBest (l : List Lk) (b : List Int) : Prop := (∀ n, n ∈ b ↔ n ∈ nodes l ∧ cost l n ≠ 255) ∧ b.Pairwise (Bef l)
theorem best_one {l : List Lk} {b b' : List Int} (h : IsBest l b) (h' : IsBest l b') : b = b' :=
  sorted_one (bef_asymm l) b b' h.2 h'.2 fun n => (h.1 n).trans (h'.1 n).symm
theorem nodes_sorted (l : List Lk) : (nodes l).Pairwise fun a b => a < b := List.pairwise_map.2 (vl_val l).2.2
theorem cost_in (l : List Lk) (n : Int) : cost l n = 255 ∨ (10 ≤ cost l n ∧ cost l n ≤ 160) := by
  unfold cost
  cases h : ent (vl l) n with
  | none => exact Or.inl rfl
  | some x =>
    by_cases h0 : scc x = 0
    · exact Or.inl (if_pos h0)
    · exact Or.inr (cst_in ((vl_val l).2.1 x (ent_mem h).1) h0)
/-- The list of Best, cost by cost. -/
def bst (l : List Lk) : List Int := (List.range' 10 151).flatMap fun (c : Nat) => (nodes l).filter fun n => decide (cost l n = (c : Int))
theorem bst_is (l : List Lk) : IsBest l (bst l) := by
  refine ⟨fun n => ?_, ?_⟩
  · unfold bst
    rw [List.mem_flatMap]
    refine ⟨fun ⟨c, hc, h⟩ => ?_, fun ⟨h1, h2⟩ => ?_⟩
    · obtain ⟨h1, h2⟩ := List.mem_filter.1 h
      have h3 := List.mem_range'_1.1 hc
      have h4 : cost l n = (c : Int) := by simpa using h2
      exact ⟨h1, by omega⟩
    · rcases cost_in l n with h | h
      · exact absurd h h2
      · exact ⟨(cost l n).toNat, List.mem_range'_1.2 (by omega), List.mem_filter.2 ⟨h1, by simp; omega⟩⟩
  · unfold bst
    rw [List.pairwise_flatMap]
    refine ⟨fun c hc => ?_, ?_⟩
    · have h1 : ((nodes l).filter fun n => decide (cost l n = (c : Int))).Pairwise fun a b => a < b := List.Pairwise.filter _ (nodes_sorted l)
      refine List.Pairwise.imp_of_mem (fun {a b} ha hb hab => ?_) h1
      have e1 : cost l a = (c : Int) := by simpa using (List.mem_filter.1 ha).2
      have e2 : cost l b = (c : Int) := by simpa using (List.mem_filter.1 hb).2
      exact Or.inr ⟨by omega, hab⟩
    · refine List.Pairwise.imp (fun {c d} hcd a ha b hb => ?_) (List.pairwise_lt_range' (s := 10) (n := 151))
      have e1 : cost l a = (c : Int) := by simpa using (List.mem_filter.1 ha).2
      have e2 : cost l b = (d : Int) := by simpa using (List.mem_filter.1 hb).2
      exact Or.inl (by omega)
/-- How many there are. -/
theorem best_len {l : List Lk} {b : List Int} (h : IsBest l b) : b.length = ((nodes l).filter fun n => decide (cost l n ≤ 160)).length := by
  have h1 : b.Nodup := h.2.imp fun {a c} hac e => by subst e; exact bef_asymm l a a hac hac
  have h2 : ((nodes l).filter fun n => decide (cost l n ≤ 160)).Nodup := (List.Pairwise.filter _ (nodes_sorted l)).imp fun {a c} hac e => by omega
  refine ((List.perm_ext_iff_of_nodup h1 h2).2 fun n => ?_).length_eq
  rw [h.1 n, List.mem_filter]
  have := cost_in l n
  refine ⟨fun ⟨a, c⟩ => ⟨a, by simp; omega⟩, fun ⟨a, c⟩ => ⟨a, ?_⟩⟩
  have c : cost l n ≤ 160 := by simpa using c
  omega
end Go.Proofs.Ythfkmmgckiijcaa.Lnk
