/- Plain mathematics of reading digits; no program in sight. -/
import Derived.Test.YtkgbmoiolgpmoaaPlainD
set_option linter.unusedVariables false
namespace Go.Proofs.Ytkgbmoiolgpmoaa
open Go.RowKit

/-- One more byte, read as a digit. -/
def rdB (n : Int) (c : UInt8) : Int := 10 * n + ((c.toNat : Int) - 48) % 256
/-- The number that bytes say, read as digits. -/
def rdL (l : List UInt8) : Int := l.foldl rdB 0
theorem rdL_snoc (l : List UInt8) (c : UInt8) : rdL (l ++ [c]) = 10 * rdL l + ((c.toNat : Int) - 48) % 256 := by
  unfold rdL; rw [List.foldl_append]; rfl
theorem rdL_bd' (k : Nat) : ∀ (l : List UInt8), l.length = k → 0 ≤ rdL l ∧ rdL l + 29 ≤ 29 * (10 ^ k : Nat) := by
  induction k with
  | zero => intro l h; rw [List.length_eq_zero_iff.1 h]; exact ⟨by decide, by decide⟩
  | succ k ih =>
    intro l h
    obtain ⟨a, c, rfl⟩ : ∃ a c, l = a ++ [c] := by
      have hne : l ≠ [] := by intro e; rw [e] at h; simp at h
      exact ⟨l.dropLast, l.getLast hne, (List.dropLast_concat_getLast hne).symm⟩
    have h1 := ih a (by simp at h; omega)
    rw [rdL_snoc, Nat.pow_succ]
    generalize (10 ^ k : Nat) = p at *
    have := c.toNat_lt
    omega
theorem rdL_bd (l : List UInt8) (h : l.length ≤ 14) : 0 ≤ rdL l ∧ rdL l ≤ 2900000000000000 := by
  have h1 := rdL_bd' l.length l rfl
  have h2 : (10 ^ l.length : Nat) ≤ 10 ^ 14 := Nat.pow_le_pow_right (by omega) h
  generalize (10 ^ l.length : Nat) = p at *
  omega
/-- The number that a text says. -/
def valS (s : ByteArray) : Int := if s.data.toList.head? = some 45 then -rdL s.data.toList.tail else rdL s.data.toList
/-- The text is the text of its number. -/
def okS (s : ByteArray) : Bool := decide (s.size ≤ 14 ∧ -1099511627776 ≤ valS s ∧ valS s ≤ 1099511627776 ∧ digS (valS s) = s)
end Go.Proofs.Ytkgbmoiolgpmoaa
