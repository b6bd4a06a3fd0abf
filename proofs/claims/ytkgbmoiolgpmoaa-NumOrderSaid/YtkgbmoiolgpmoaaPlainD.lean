/- Plain mathematics of decimal digits; no program in sight. -/
import Derived.Test.YtkgbmoiolgpmoaaPlain
import Derived.Laws.BytesArg
set_option linter.unusedVariables false
namespace Go.Proofs.Ytkgbmoiolgpmoaa
open Go.RowKit

/-- The last k digits of m. -/
def low : Nat → Nat → List Int
  | 0, _ => []
  | k + 1, m => (48 + (m / 10 ^ k % 10 : Nat) : Int) :: low k m
theorem low_length (k m : Nat) : (low k m).length = k := by
  induction k with
  | zero => rfl
  | succ k ih => simp [low, ih]
/-- All digits of m, given enough fuel. -/
def dec : Nat → Nat → List Int
  | 0, _ => []
  | f + 1, m => if m < 10 then [(48 + m : Int)] else dec f (m / 10) ++ [(48 + (m % 10 : Nat) : Int)]
theorem low_snoc (k m : Nat) : low (k + 1) m = low k (m / 10) ++ [(48 + (m % 10 : Nat) : Int)] := by
  induction k with
  | zero => simp [low]
  | succ k ih =>
    have e : m / 10 ^ (k + 1) = m / 10 / 10 ^ k := by rw [Nat.pow_succ, Nat.mul_comm, Nat.div_div_eq_div_mul]
    show (48 + (m / 10 ^ (k + 1) % 10 : Nat) : Int) :: low (k + 1) m = (48 + (m / 10 / 10 ^ k % 10 : Nat) : Int) :: low k (m / 10) ++ _
    rw [ih, e]; rfl
theorem dec_low (k : Nat) : ∀ (f m : Nat), k < f → m / 10 ^ (k + 1) = 0 → (k = 0 ∨ m / 10 ^ k ≠ 0) → dec f m = low (k + 1) m := by
  induction k with
  | zero =>
    intro f m hf h _
    obtain ⟨f, rfl⟩ : ∃ g, f = g + 1 := ⟨f - 1, by omega⟩
    have hm : m < 10 := by simp at h; omega
    simp only [dec, if_pos hm, low]
    have e : m / 10 ^ 0 % 10 = m := by simp; omega
    rw [e]
  | succ k ih =>
    intro f m hf h h2
    obtain ⟨f, rfl⟩ : ∃ g, f = g + 1 := ⟨f - 1, by omega⟩
    have e1 : m / 10 ^ (k + 1 + 1) = m / 10 / 10 ^ (k + 1) := by rw [Nat.pow_succ 10 (k + 1), Nat.mul_comm, Nat.div_div_eq_div_mul]
    have e2 : m / 10 ^ (k + 1) = m / 10 / 10 ^ k := by rw [Nat.pow_succ, Nat.mul_comm, Nat.div_div_eq_div_mul]
    have h3 : m / 10 / 10 ^ k ≠ 0 := by rcases h2 with h2 | h2; · omega
                                        · rw [← e2]; exact h2
    have hm : ¬ m < 10 := by
      intro hm
      apply h3
      have : m / 10 = 0 := by omega
      rw [this, Nat.zero_div]
    simp only [dec, if_neg hm]
    rw [low_snoc, ih f (m / 10) (by omega) (by rw [← e1]; exact h) (Or.inr h3)]
theorem dec_fuel : ∀ (f m : Nat), m < 10 ^ f → dec f m = dec (f + 1) m ∨ f = 0 := by
  intro f
  induction f with
  | zero => intro m _; exact Or.inr rfl
  | succ f ih =>
    intro m hm
    refine Or.inl ?_
    by_cases h : m < 10
    · simp [dec, h]
    · have h1 : m / 10 < 10 ^ f := by rw [Nat.div_lt_iff_lt_mul (by omega)]; rw [Nat.pow_succ] at hm; exact hm
      rcases ih (m / 10) h1 with e | e
      · show (if m < 10 then _ else dec f (m / 10) ++ _) = (if m < 10 then _ else dec (f + 1) (m / 10) ++ _)
        rw [if_neg h, if_neg h, e]
      · subst e; simp at hm; omega
/-- The digits of a number below 10^20. -/
def decN (m : Nat) : List Int := dec 20 m
theorem decN_small (m : Nat) (h : m < 10) : decN m = [(48 + m : Int)] := by unfold decN; simp [dec, h]
theorem decN_step (m : Nat) (h : ¬ m < 10) (h2 : m < 100000000000000000000) : decN m = decN (m / 10) ++ decN (m % 10) := by
  rw [decN_small (m % 10) (by omega)]
  unfold decN
  rcases dec_fuel 19 (m / 10) (by omega) with e | e
  · show (if m < 10 then _ else dec 19 (m / 10) ++ _) = _
    rw [if_neg h, e]
  · omega
theorem decN_low (k m : Nat) (hk : k < 19) (h : m / 10 ^ (k + 1) = 0) (h2 : k = 0 ∨ m / 10 ^ k ≠ 0) : low (k + 1) m = decN m := (dec_low k 20 m (by omega) h h2).symm
/-- The text of a number. -/
def digL (n : Int) : List Int := if n < 0 then 45 :: decN n.natAbs else decN n.natAbs
def digS (n : Int) : ByteArray := strOfNums (digL n)
end Go.Proofs.Ytkgbmoiolgpmoaa
