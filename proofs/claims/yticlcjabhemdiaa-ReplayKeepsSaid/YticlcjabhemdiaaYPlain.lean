/- Layer 14 (replay): the mathematics of windows (no program in it). -/
namespace Go.Proofs.Yticlcjabhemdiaa.Rpl

/-- A window: its greatest number, its bits. -/
abbrev Wi := Int × Nat
def Val (w : Wi) : Prop := (w.1 = -1 ∧ w.2 = 0) ∨ (0 ≤ w.1 ∧ w.1 ≤ 1099511627776 ∧ w.2.testBit 0 = true ∧ ∀ k, k < 64 → w.2.testBit k = true → (k : Int) ≤ w.1)
instance (w : Wi) : Decidable (Val w) := by unfold Val; infer_instance
/-- The number m is recorded. -/
def rec (w : Wi) (m : Int) : Bool := decide (m ≤ w.1 ∧ w.1 - m ≤ 63) && w.2.testBit (w.1 - m).toNat
/-- The number whose bits below k are those of f. -/
def nb (f : Nat → Bool) : Nat → Nat
  | 0 => 0
  | k + 1 => nb f k ||| (if f k = true then 2 ^ k else 0)
theorem nb_lt (f : Nat → Bool) : ∀ k, nb f k < 2 ^ k
  | 0 => by simp [nb]
  | k + 1 => by
    have h := nb_lt f k
    have e : 2 ^ (k + 1) = 2 ^ k * 2 := Nat.pow_succ ..
    unfold nb
    apply Nat.or_lt_two_pow
    · omega
    · split
      · have := Nat.two_pow_pos k; omega
      · exact Nat.two_pow_pos _
theorem nb_bit (f : Nat → Bool) : ∀ k i, (nb f k).testBit i = (decide (i < k) && f i)
  | 0, i => by simp [nb]
  | k + 1, i => by
    unfold nb
    rw [Nat.testBit_or, nb_bit f k i]
    by_cases h : i = k
    · subst h
      by_cases hf : f i = true
      · simp [hf, Nat.testBit_two_pow_self]
      · simp [hf]
    · have hd : decide (i < k + 1) = decide (i < k) := by by_cases hk : i < k <;> simp [hk] <;> omega
      rw [hd]
      split
      · rw [Nat.testBit_two_pow_of_ne (fun e => h e.symm)]; simp
      · simp
theorem bits_one {a b : Nat} (ha : a < 2 ^ 64) (hb : b < 2 ^ 64) (h : ∀ i, i < 64 → a.testBit i = b.testBit i) : a = b := by
  apply Nat.eq_of_testBit_eq
  intro i
  by_cases hi : i < 64
  · exact h i hi
  · have hp : 2 ^ 64 ≤ 2 ^ i := Nat.pow_le_pow_right (by decide) (by omega)
    rw [Nat.testBit_lt_two_pow (Nat.lt_of_lt_of_le ha hp), Nat.testBit_lt_two_pow (Nat.lt_of_lt_of_le hb hp)]
theorem nb_of {a : Nat} (f : Nat → Bool) (ha : a < 2 ^ 64) (h : ∀ i, i < 64 → a.testBit i = f i) : a = nb f 64 := bits_one ha (nb_lt f 64) fun i hi => by rw [h i hi, nb_bit]; simp [hi]
/-- The bits of the window of a greater number. -/
def nxt (w : Wi) (n : Int) (k : Nat) : Bool := k == 0 || rec w (n - (k : Int))
def In (n : Int) : Prop := 0 ≤ n ∧ n ≤ 1099511627776
instance (n : Int) : Decidable (In n) := by unfold In; infer_instance
/-- Accept. -/
def acc (w : Wi) (n : Int) : Wi × Bool :=
  if Val w ∧ In n then
    if n ≤ w.1 then (if w.1 - n ≤ 63 ∧ w.2.testBit (w.1 - n).toNat = false then ((w.1, w.2 ||| 2 ^ (w.1 - n).toNat), true) else (w, false))
    else ((n, nb (nxt w n) 64), true)
  else (w, false)
theorem acc_no {w : Wi} {n : Int} (h : (acc w n).2 = false) : (acc w n).1 = w := by
  unfold acc at h ⊢
  split at h
  · rename_i h1
    rw [if_pos h1]
    split at h
    · rename_i h2
      rw [if_pos h2]
      split at h
      · cases h
      · rename_i h3
        rw [if_neg h3]
    · cases h
  · rename_i h1
    rw [if_neg h1]
theorem acc_low {w : Wi} {n : Int} (hv : Val w) (hn : In n) (h : n ≤ w.1) (h2 : w.1 - n ≤ 63) (h3 : w.2.testBit (w.1 - n).toNat = false) : acc w n = ((w.1, w.2 ||| 2 ^ (w.1 - n).toNat), true) := by
  unfold acc
  rw [if_pos ⟨hv, hn⟩, if_pos h, if_pos ⟨h2, h3⟩]
theorem acc_high {w : Wi} {n : Int} (hv : Val w) (hn : In n) (h : w.1 < n) : acc w n = ((n, nb (nxt w n) 64), true) := by
  unfold acc
  rw [if_pos ⟨hv, hn⟩, if_neg (by omega)]
theorem acc_out {w : Wi} {n : Int} (h : ¬ (Val w ∧ In n)) : acc w n = (w, false) := by unfold acc; rw [if_neg h]
theorem acc_old {w : Wi} {n : Int} (h : n ≤ w.1) (h2 : ¬ (w.1 - n ≤ 63 ∧ w.2.testBit (w.1 - n).toNat = false)) : acc w n = (w, false) := by
  unfold acc
  by_cases hh : Val w ∧ In n
  · rw [if_pos hh, if_pos h, if_neg h2]
  · rw [if_neg hh]
/-- The ways that there are. -/
theorem acc_ways (w : Wi) (n : Int) : (acc w n = (w, false) ∧ (Val w → In n → n ≤ w.1 ∧ (63 < w.1 - n ∨ rec w n = true))) ∨
    (Val w ∧ In n ∧ n ≤ w.1 ∧ w.1 - n ≤ 63 ∧ w.2.testBit (w.1 - n).toNat = false ∧ acc w n = ((w.1, w.2 ||| 2 ^ (w.1 - n).toNat), true)) ∨
    (Val w ∧ In n ∧ w.1 < n ∧ acc w n = ((n, nb (nxt w n) 64), true)) := by
  by_cases h1 : Val w ∧ In n
  · by_cases h2 : n ≤ w.1
    · by_cases h3 : w.1 - n ≤ 63 ∧ w.2.testBit (w.1 - n).toNat = false
      · exact Or.inr (Or.inl ⟨h1.1, h1.2, h2, h3.1, h3.2, acc_low h1.1 h1.2 h2 h3.1 h3.2⟩)
      · refine Or.inl ⟨acc_old h2 h3, fun _ _ => ⟨h2, ?_⟩⟩
        by_cases h4 : w.1 - n ≤ 63
        · refine Or.inr ?_
          unfold rec
          simp only [h2, h4, and_self, decide_true, Bool.true_and]
          cases e : w.2.testBit (w.1 - n).toNat with
          | true => rfl
          | false => exact absurd ⟨h4, e⟩ h3
        · exact Or.inl (by omega)
    · exact Or.inr (Or.inr ⟨h1.1, h1.2, by omega, acc_high h1.1 h1.2 (by omega)⟩)
  · exact Or.inl ⟨acc_out h1, fun a b => absurd ⟨a, b⟩ h1⟩
theorem rec_in {w : Wi} {m : Int} (h : rec w m = true) : m ≤ w.1 ∧ w.1 - m ≤ 63 ∧ w.2.testBit (w.1 - m).toNat = true := by
  unfold rec at h
  simp only [Bool.and_eq_true, decide_eq_true_eq] at h
  exact ⟨h.1.1, h.1.2, h.2⟩
theorem rec_of {w : Wi} {m : Int} (h1 : m ≤ w.1) (h2 : w.1 - m ≤ 63) (h3 : w.2.testBit (w.1 - m).toNat = true) : rec w m = true := by
  unfold rec
  simp only [h1, h2, h3, and_self, decide_true, Bool.and_self]
theorem rec_pos {w : Wi} {m : Int} (hv : Val w) (h : rec w m = true) : 0 ≤ m := by
  obtain ⟨h1, h2, h3⟩ := rec_in h
  rcases hv with ⟨_, e⟩ | ⟨_, _, _, hk⟩
  · rw [e] at h3; simp at h3
  · have := hk _ (by omega) h3; omega
/-- What is recorded afterwards. -/
theorem acc_rec {w : Wi} {n : Int} (hn : (acc w n).2 = true) (m : Int) : rec (acc w n).1 m = true ↔ (m = n ∨ rec w m = true) ∧ (acc w n).1.1 - m ≤ 63 := by
  rcases acc_ways w n with ⟨h, _⟩ | ⟨hv, hi, h1, h2, h3, h⟩ | ⟨hv, hi, h1, h⟩
  · rw [h] at hn; cases hn
  · rw [h]
    dsimp only
    constructor
    · intro hr
      obtain ⟨a, b, c⟩ := rec_in hr
      dsimp only at a b c
      refine ⟨?_, b⟩
      rw [Nat.testBit_or, Bool.or_eq_true] at c
      rcases c with c | c
      · exact Or.inr (rec_of a b c)
      · rw [Nat.testBit_two_pow] at c
        have := of_decide_eq_true c
        exact Or.inl (by omega)
    · rintro ⟨rfl | hr, b⟩
      · exact rec_of h1 h2 (by dsimp only; rw [Nat.testBit_or, Nat.testBit_two_pow_self]; simp)
      · obtain ⟨a, _, c⟩ := rec_in hr
        exact rec_of a b (by dsimp only; rw [Nat.testBit_or, c]; rfl)
  · rw [h]
    dsimp only
    constructor
    · intro hr
      obtain ⟨a, b, c⟩ := rec_in hr
      dsimp only at a b c
      refine ⟨?_, b⟩
      rw [nb_bit] at c
      simp only [Bool.and_eq_true, decide_eq_true_eq] at c
      obtain ⟨_, c⟩ := c
      unfold nxt at c
      rw [Bool.or_eq_true] at c
      rcases c with c | c
      · exact Or.inl (by have := beq_iff_eq.1 c; omega)
      · exact Or.inr (by rw [show n - ((n - m).toNat : Int) = m by omega] at c; exact c)
    · rintro ⟨e, b⟩
      have a : m ≤ n := by
        rcases e with rfl | hr
        · exact Int.le_refl _
        · have := (rec_in hr).1; omega
      refine rec_of a b ?_
      dsimp only
      rw [nb_bit]
      simp only [Bool.and_eq_true, decide_eq_true_eq]
      refine ⟨by omega, ?_⟩
      unfold nxt
      rw [Bool.or_eq_true]
      rcases e with rfl | hr
      · exact Or.inl (by simp)
      · exact Or.inr (by rw [show n - ((n - m).toNat : Int) = m by omega]; exact hr)
theorem acc_val {w : Wi} (n : Int) (hv : Val w) : Val (acc w n).1 := by
  by_cases hn : (acc w n).2 = true
  · have R := acc_rec hn
    have key : 0 ≤ (acc w n).1.1 ∧ (acc w n).1.1 ≤ 1099511627776 ∧ (acc w n).1.2.testBit 0 = true := by
      rcases acc_ways w n with ⟨h, _⟩ | ⟨_, hi, h1, h2, h3, h⟩ | ⟨_, hi, h1, h⟩
      · rw [h] at hn; cases hn
      · rw [h]
        dsimp only
        unfold In at hi
        rcases hv with ⟨e, _⟩ | ⟨a, b, c, _⟩
        · omega
        · exact ⟨a, b, by rw [Nat.testBit_or, c]; rfl⟩
      · rw [h]
        unfold In at hi
        exact ⟨hi.1, hi.2, by dsimp only; rw [nb_bit]; rfl⟩
    have hin : In n := by
      rcases acc_ways w n with ⟨h, _⟩ | ⟨_, hi, _⟩ | ⟨_, hi, _⟩
      · rw [h] at hn; cases hn
      · exact hi
      · exact hi
    refine Or.inr ⟨key.1, key.2.1, key.2.2, fun k hk hb => ?_⟩
    have hr : rec (acc w n).1 ((acc w n).1.1 - k) = true := rec_of (by omega) (by omega) (by rw [show ((acc w n).1.1 - ((acc w n).1.1 - (k : Int))).toNat = k by omega]; exact hb)
    rcases (R _).1 hr with ⟨e | hr', _⟩
    · unfold In at hin; omega
    · have := rec_pos hv hr'; omega
  · rw [acc_no (by simpa using hn)]; exact hv
theorem acc_lt {w : Wi} (n : Int) (h : w.2 < 2 ^ 64) : (acc w n).1.2 < 2 ^ 64 := by
  rcases acc_ways w n with ⟨e, _⟩ | ⟨_, _, _, h2, _, e⟩ | ⟨_, _, _, e⟩
  · rw [e]; exact h
  · rw [e]
    exact Nat.or_lt_two_pow h (Nat.pow_lt_pow_right (by decide) (by omega))
  · rw [e]; exact nb_lt _ 64
theorem acc_top (w : Wi) (n : Int) : w.1 ≤ (acc w n).1.1 ∧ ((acc w n).2 = true → (acc w n).1.1 = n ∨ (acc w n).1.1 = w.1) := by
  rcases acc_ways w n with ⟨e, _⟩ | ⟨_, _, _, h2, _, e⟩ | ⟨_, _, h1, e⟩
  · rw [e]; exact ⟨Int.le_refl _, fun h => by cases h⟩
  · rw [e]; exact ⟨Int.le_refl _, fun _ => Or.inr rfl⟩
  · rw [e]; exact ⟨Int.le_of_lt h1, fun _ => Or.inl rfl⟩
/-- What is recorded is not accepted. -/
theorem acc_seen {w : Wi} {m : Int} (h : m ≤ w.1) (h2 : w.1 - m ≤ 63 → rec w m = true) : acc w m = (w, false) := by
  refine acc_old h fun hh => ?_
  have := (rec_in (h2 hh.1)).2.2
  rw [hh.2] at this
  cases this
/-- ReplayKeeps. -/
theorem keeps {w : Wi} {n m : Int} (h : rec w m = true) : acc (acc w n).1 m = ((acc w n).1, false) := by
  have hw := rec_in h
  refine acc_seen (Int.le_trans hw.1 (acc_top w n).1) fun h2 => ?_
  by_cases hn : (acc w n).2 = true
  · exact (acc_rec hn m).2 ⟨Or.inr h, h2⟩
  · rw [acc_no (by simpa using hn)]; exact h
/-- ReplayOnce: what was accepted so far. -/
structure Once (w : Wi) (top : Int) (s : List Int) : Prop where
  val : Val w
  lt : w.2 < 2 ^ 64
  at_top : w.1 = top
  low : -1 ≤ top
  seen : ∀ m ∈ s, m ≤ top ∧ (top - m ≤ 63 → rec w m = true)
theorem inv_new : Once (-1, 0) (-1) [] := ⟨Or.inl ⟨rfl, rfl⟩, by decide, rfl, by decide, fun _ h => by cases h⟩
theorem inv_fresh {w : Wi} {top : Int} {s : List Int} (h : Once w top s) {n : Int} (hn : (acc w n).2 = true) : In n ∧ ∀ m ∈ s, m ≠ n := by
  refine ⟨?_, fun m hm e => ?_⟩
  · rcases acc_ways w n with ⟨e, _⟩ | ⟨_, hi, _⟩ | ⟨_, hi, _⟩
    · rw [e] at hn; cases hn
    · exact hi
    · exact hi
  · subst e
    have := h.seen m hm
    rw [acc_seen (by rw [h.at_top]; exact this.1) (fun hh => this.2 (by rw [← h.at_top]; exact hh))] at hn
    cases hn
theorem inv_high {w : Wi} {top : Int} {s : List Int} (h : Once w top s) {n : Int} (hn : In n) (ht : top < n) : (acc w n).2 = true := by
  rw [acc_high h.val hn (by rw [h.at_top]; exact ht)]
theorem inv_next {w : Wi} {top : Int} {s : List Int} (h : Once w top s) {n : Int} (hn : (acc w n).2 = true) : Once (acc w n).1 (if top < n then n else top) (s ++ [n]) := by
  have ht : (acc w n).1.1 = if top < n then n else top := by
    rcases acc_ways w n with ⟨e, _⟩ | ⟨_, _, h1, _, _, e⟩ | ⟨_, _, h1, e⟩
    · rw [e] at hn; cases hn
    · rw [e, ← h.at_top, if_neg (by omega)]
    · rw [e, ← h.at_top, if_pos h1]
  have hle : top ≤ (if top < n then n else top) := by split <;> omega
  refine ⟨acc_val n h.val, acc_lt n h.lt, ht, Int.le_trans h.low hle, fun m hm => ?_⟩
  rcases List.mem_append.1 hm with hm | hm
  · obtain ⟨h1, h2⟩ := h.seen m hm
    exact ⟨by omega, fun hh => (acc_rec hn m).2 ⟨Or.inr (h2 (by omega)), by rw [ht]; exact hh⟩⟩
  · rw [List.mem_singleton] at hm
    subst hm
    exact ⟨by split <;> omega, fun hh => (acc_rec hn m).2 ⟨Or.inl rfl, by rw [ht]; exact hh⟩⟩
/-- Once more: the same number is not accepted again. -/
theorem acc_twice {w : Wi} {n : Int} (hn : (acc w n).2 = true) : acc (acc w n).1 n = ((acc w n).1, false) := by
  have hle : n ≤ (acc w n).1.1 := by
    rcases acc_ways w n with ⟨e, _⟩ | ⟨_, _, h1, _, _, e⟩ | ⟨_, _, h1, e⟩
    · rw [e] at hn; cases hn
    · rw [e]; exact h1
    · rw [e]; exact Int.le_refl _
  exact acc_seen hle fun hh => (acc_rec hn n).2 ⟨Or.inl rfl, hh⟩
/-- The chapter's example. -/
theorem ex1 : acc (-1, 0) 5 = ((5, 1), true) := by decide +kernel
theorem ex2 : acc (5, 1) 3 = ((5, 5), true) := by decide +kernel
theorem ex3 : acc (5, 5) 5 = ((5, 5), false) := by decide +kernel
theorem ex4 : acc (5, 5) 70 = ((70, 1), true) := by decide +kernel
theorem ex5 : acc (70, 1) 6 = ((70, 1), false) := by decide +kernel
theorem ex6 : acc (70, 1) 7 = ((70, 9223372036854775809), true) := by decide +kernel
theorem ex7 : acc (70, 9223372036854775809) 71 = ((71, 3), true) := by decide +kernel
end Go.Proofs.Yticlcjabhemdiaa.Rpl
