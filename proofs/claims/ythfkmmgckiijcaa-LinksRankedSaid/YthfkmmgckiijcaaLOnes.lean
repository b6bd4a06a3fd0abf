/- The count of ones by halves: two bytes at a time; no program in sight. -/
import Derived.Test.YthfkmmgckiijcaaLPlain
set_option linter.unusedVariables false
namespace Go.Proofs.Ythfkmmgckiijcaa.Lnk
open Go.RowKit

theorem ones_split (n : Nat) : ∀ (m b : Nat), ones (m + n) b = ones m b + ones n (b / 2 ^ m)
  | 0, b => by rw [Nat.zero_add, Nat.pow_zero, Nat.div_one]; show ones n b = 0 + ones n b; rw [Nat.zero_add]
  | m + 1, b => by
    rw [show m + 1 + n = (m + n) + 1 by omega]
    show b % 2 + ones (m + n) (b / 2) = b % 2 + ones m (b / 2) + ones n (b / 2 ^ (m + 1))
    rw [ones_split n m (b / 2), Nat.div_div_eq_div_mul, Nat.pow_succ']
    omega
theorem ones_bytes (b : Nat) : ones 16 b = ones 8 (b % 256) + ones 8 (b / 256) := by
  rw [show (16 : Nat) = 8 + 8 from rfl, ones_split 8 8 b, ← ones_mod 8 b]
/-- Bytes apart. -/
theorem and_bytes (x m : Nat) : x &&& m = 256 * (x / 256 &&& m / 256) + (x % 256 &&& m % 256) := by
  have h1 : (x &&& m) / 2 ^ 8 = x / 2 ^ 8 &&& m / 2 ^ 8 := Nat.and_div_two_pow
  have h2 : (x &&& m) % 2 ^ 8 = x % 2 ^ 8 &&& m % 2 ^ 8 := Nat.and_mod_two_pow
  have e : (2 : Nat) ^ 8 = 256 := rfl
  rw [e] at h1 h2
  rw [← h1, ← h2]
  exact (Nat.div_add_mod _ _).symm
/-- A mask of more bytes, of a number of one byte. -/
theorem and_byte (x m : Nat) (h : x < 256) : x &&& m = x &&& m % 256 := by
  rw [and_bytes x m, Nat.div_eq_of_lt h, Nat.zero_and, Nat.mul_zero, Nat.zero_add, Nat.mod_eq_of_lt h]
def g1 (x : Nat) : Nat := (x / 2 &&& 85) + (x &&& 85)
def g2 (x : Nat) : Nat := (x / 4 &&& 51) + (x &&& 51)
set_option maxRecDepth 100000 in
theorem low1 : ∀ t, t < 2 → ∀ l, l < 128 → (128 * t + l) &&& 85 = l &&& 85 := by decide
set_option maxRecDepth 100000 in
theorem low2 : ∀ t, t < 4 → ∀ l, l < 64 → (64 * t + l) &&& 51 = l &&& 51 := by decide
set_option maxRecDepth 100000 in
theorem g1_le : ∀ x, x < 256 → g1 x ≤ 170 := by decide
set_option maxRecDepth 100000 in
theorem g2_le : ∀ x, x < 256 → (g2 (g1 x) ≤ 68 ∧ g2 (g1 x) % 16 ≤ 4) ∧ (g2 (g1 x) + g2 (g1 x) / 16) % 16 = ones 8 x := by decide
theorem half1 (b m : Nat) (hm : m % 256 = 85) (hm2 : m / 256 % 256 = 85) (h : b < 65536) : (b / 2 &&& m) + (b &&& m) = 256 * g1 (b / 256) + g1 (b % 256) := by
  have e1 := and_bytes (b / 2) m
  have e2 := and_bytes b m
  have k1 := and_byte (b / 2 / 256) (m / 256) (by omega)
  have k2 := and_byte (b / 256) (m / 256) (by omega)
  rw [hm2] at k1 k2
  rw [hm, k1] at e1
  rw [hm, k2] at e2
  rw [show b / 2 / 256 = b / 256 / 2 by omega] at e1
  have q := low1 (b / 256 % 2) (by omega) (b % 256 / 2) (by omega)
  rw [show b / 2 % 256 = 128 * (b / 256 % 2) + b % 256 / 2 by omega, q] at e1
  unfold g1
  omega
theorem half2 (H L m : Nat) (hm : m % 256 = 51) (hm2 : m / 256 % 256 = 51) (h : H < 256) (hl : L < 256) : ((256 * H + L) / 4 &&& m) + (256 * H + L &&& m) = 256 * g2 H + g2 L := by
  have e1 := and_bytes ((256 * H + L) / 4) m
  have e2 := and_bytes (256 * H + L) m
  have k1 := and_byte (H / 4) (m / 256) (by omega)
  have k2 := and_byte H (m / 256) (by omega)
  rw [hm2] at k1 k2
  rw [hm, show (256 * H + L) / 4 / 256 = H / 4 by omega, k1] at e1
  rw [hm, show (256 * H + L) / 256 = H by omega, k2, show (256 * H + L) % 256 = L by omega] at e2
  have q := low2 (H % 4) (by omega) (L / 4) (by omega)
  rw [show (256 * H + L) / 4 % 256 = 64 * (H % 4) + L / 4 by omega, q] at e1
  unfold g2
  omega
theorem half3 (H L m : Nat) (hm : m % 256 = 15) (hm2 : m / 256 % 256 = 15) (h : H ≤ 68 ∧ H % 16 ≤ 4) (hl : L ≤ 68 ∧ L % 16 ≤ 4) : ((256 * H + L) / 16 + (256 * H + L)) &&& m = 256 * ((H + H / 16) % 16) + (L + L / 16) % 16 := by
  have u0 : (256 * H + L) / 16 = 16 * H + L / 16 := by omega
  obtain ⟨T, hT⟩ : ∃ T, T = (256 * H + L) / 16 + (256 * H + L) := ⟨_, rfl⟩
  rw [← hT]
  have u1 : T = 256 * (H + H / 16) + (16 * (H % 16) + L + L / 16) := by omega
  have u2 : T / 256 = H + H / 16 := by omega
  have u3 : T % 256 = 16 * (H % 16) + L + L / 16 := by omega
  have e1 := and_bytes T m
  have k1 := and_byte (T / 256) (m / 256) (by omega)
  have a1 := Nat.and_two_pow_sub_one_eq_mod (T / 256) 4
  have a2 := Nat.and_two_pow_sub_one_eq_mod (T % 256) 4
  rw [show (2 : Nat) ^ 4 - 1 = 15 from rfl, show (2 : Nat) ^ 4 = 16 from rfl] at a1 a2
  rw [k1, hm2, hm, a1, a2, u2, u3] at e1
  rw [e1]
  omega
/-- What the program computes, step by step. -/
theorem ones_steps (b : Nat) (h : b < 65536) : ∃ s1 s2 s3 s4 : Nat, (b / 2 &&& 6148914691236517205) + (b &&& 6148914691236517205) = s1 ∧ (s1 / 4 &&& 3689348814741910323) + (s1 &&& 3689348814741910323) = s2 ∧
    (s2 / 16 + s2) &&& 1085102592571150095 = s3 ∧ s3 + s3 / 256 = s4 ∧ s1 < 65536 ∧ s2 < 65536 ∧ s3 < 65536 ∧ s4 < 65536 ∧ s4 % 128 = ones 16 b := by
  have l1 := g1_le (b / 256) (by omega)
  have l2 := g1_le (b % 256) (by omega)
  obtain ⟨l3, q3⟩ := g2_le (b / 256) (by omega)
  obtain ⟨l4, q4⟩ := g2_le (b % 256) (by omega)
  have t1 := half1 b 6148914691236517205 (by decide) (by decide) h
  have t2 := half2 (g1 (b / 256)) (g1 (b % 256)) 3689348814741910323 (by decide) (by decide) (by omega) (by omega)
  have t3 := half3 (g2 (g1 (b / 256))) (g2 (g1 (b % 256))) 1085102592571150095 (by decide) (by decide) l3 l4
  have o1 := ones_le 8 (b / 256)
  have o2 := ones_le 8 (b % 256)
  rw [q3, q4] at t3
  refine ⟨_, _, _, _, t1, t2, t3, rfl, by omega, by omega, by omega, by omega, ?_⟩
  rw [ones_bytes]
  omega
end Go.Proofs.Ythfkmmgckiijcaa.Lnk
