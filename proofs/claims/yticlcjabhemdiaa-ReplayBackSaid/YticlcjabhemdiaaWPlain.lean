/- Plain mathematics of the binary encoding; no program in sight. -/
import Derived.WalkKit
import Derived.Laws.BitsAllLaws
import Derived.Laws.Bits128
import Derived.Laws.BytesArg
import Derived.Lib.Strings
set_option linter.unusedVariables false
namespace Go.Proofs.Yticlcjabhemdiaa.Wire
open Go.RowKit

/-- The number fits an int. -/
def I64 (n : Int) : Prop := -9223372036854775808 ≤ n ∧ n ≤ 9223372036854775807

/-- The zigzag form of a number. -/
def zig (n : Int) : Nat := if n < 0 then (-(2 * n) - 1).toNat else (2 * n).toNat
/-- The number of a zigzag form. -/
def unzig (z : Nat) : Int := if z % 2 = 1 then -1 - ((z / 2 : Nat) : Int) else ((z / 2 : Nat) : Int)

theorem zig_lt (n : Int) (h : I64 n) : zig n < 18446744073709551616 := by unfold I64 at h; unfold zig; split <;> omega
theorem unzig_zig (n : Int) : unzig (zig n) = n := by unfold unzig zig; split <;> split <;> omega
theorem zig_unzig (z : Nat) : zig (unzig z) = z := by unfold unzig zig; split <;> split <;> omega
theorem unzig_in (z : Nat) (h : z < 18446744073709551616) : I64 (unzig z) := by unfold I64 unzig; split <;> omega

/-- The groups of a form, at most f of them. -/
def en : Nat → Nat → List UInt8
  | 0, _ => []
  | f + 1, z => if z < 128 then [UInt8.ofNat z] else UInt8.ofNat (z % 128 + 128) :: en f (z / 128)

theorem en_small (f z : Nat) (h : z < 128) : en (f + 1) z = [UInt8.ofNat z] := by unfold en; rw [if_pos h]
theorem en_big (f z : Nat) (h : ¬ z < 128) : en (f + 1) z = UInt8.ofNat (z % 128 + 128) :: en f (z / 128) := by
  conv => lhs; unfold en
  rw [if_neg h]
theorem en_length (f : Nat) : ∀ z, (en f z).length ≤ f := by
  induction f with
  | zero => intro z; simp [en]
  | succ f ih =>
    intro z
    by_cases h : z < 128
    · rw [en_small f z h]; simp
    · rw [en_big f z h]; have := ih (z / 128); simp; omega
theorem en_pos (f z : Nat) : 0 < (en (f + 1) z).length := by
  by_cases h : z < 128
  · rw [en_small f z h]; simp
  · rw [en_big f z h]; simp

/-- The bytes of a number's encoding. -/
def enI (n : Int) : List UInt8 := en 10 (zig n)
/-- A list of bytes as a string. -/
def bs (l : List UInt8) : ByteArray := ⟨l.toArray⟩
theorem bs_data (l : List UInt8) : (bs l).data.toList = l := rfl
theorem bs_size (l : List UInt8) : (bs l).size = l.length := by simp [bs, ByteArray.size]
theorem bs_inj {a b : List UInt8} (h : bs a = bs b) : a = b := by have := congrArg (fun s => s.data.toList) h; simpa [bs] using this
theorem of_data {s t : ByteArray} (h : s.data.toList = t.data.toList) : s = t := by
  apply ByteArray.ext; exact Array.toList_inj.1 h
theorem bs_append (a b : List UInt8) : bs a ++ bs b = bs (a ++ b) := of_data (by simp [bs])
theorem str_bs (l : List UInt8) : strOfNums (l.map fun c => (c.toNat : Int)) = bs l := by
  apply of_data
  rw [strOfNums_data, bs_data, List.map_map]
  conv => rhs; rw [← List.map_id l]
  apply List.map_congr_left
  intro c _
  simp

/-- Reading a form: the form, the number of its bytes, the error. -/
def rd : Nat → Nat → List UInt8 → Nat × Nat × Int
  | _, _, [] => (0, 0, 5)
  | i, acc, c :: l =>
    if (0 < i ∧ c.toNat = 0) ∨ (i = 9 ∧ 1 < c.toNat) then (0, 0, 4)
    else if c.toNat < 128 then (acc + c.toNat * 128 ^ i, i + 1, 0)
    else rd (i + 1) (acc + c.toNat % 128 * 128 ^ i) l

theorem rd_nil (i acc : Nat) : rd i acc [] = (0, 0, 5) := rfl
theorem rd_bad (i acc : Nat) (c : UInt8) (l : List UInt8) (h : (0 < i ∧ c.toNat = 0) ∨ (i = 9 ∧ 1 < c.toNat)) : rd i acc (c :: l) = (0, 0, 4) := by
  conv => lhs; unfold rd
  rw [if_pos h]
theorem rd_last (i acc : Nat) (c : UInt8) (l : List UInt8) (h : ¬ ((0 < i ∧ c.toNat = 0) ∨ (i = 9 ∧ 1 < c.toNat))) (h2 : c.toNat < 128) :
    rd i acc (c :: l) = (acc + c.toNat * 128 ^ i, i + 1, 0) := by
  conv => lhs; unfold rd
  rw [if_neg h, if_pos h2]
theorem rd_more (i acc : Nat) (c : UInt8) (l : List UInt8) (h : ¬ (i = 9 ∧ 1 < c.toNat)) (h2 : ¬ c.toNat < 128) :
    rd i acc (c :: l) = rd (i + 1) (acc + c.toNat % 128 * 128 ^ i) l := by
  conv => lhs; unfold rd
  rw [if_neg (by omega), if_neg h2]

theorem p128 (i : Nat) : 128 ^ (i + 1) = 128 ^ i * 128 := Nat.pow_succ ..

/-- The ways in which reading can end. -/
theorem rd_ends (l : List UInt8) : ∀ (i acc : Nat), i ≤ 9 → acc < 128 ^ i →
    (rd i acc l = (0, 0, 4) ∨ rd i acc l = (0, 0, 5) ∨ ∃ v n, rd i acc l = (v, n, 0) ∧ v < 18446744073709551616 ∧ i < n ∧ n ≤ 10 ∧ n ≤ i + l.length) := by
  induction l with
  | nil => intro i acc hi ha; exact Or.inr (Or.inl rfl)
  | cons c l ih =>
    intro i acc hi ha
    by_cases h : (0 < i ∧ c.toNat = 0) ∨ (i = 9 ∧ 1 < c.toNat)
    · exact Or.inl (rd_bad i acc c l h)
    · by_cases h2 : c.toNat < 128
      · refine Or.inr (Or.inr ⟨_, _, rd_last i acc c l h h2, ?_, by omega, by omega, by simp⟩)
        by_cases h9 : i = 9
        · subst h9
          have : c.toNat ≤ 1 := by omega
          have h3 : c.toNat * 128 ^ 9 ≤ 1 * 128 ^ 9 := Nat.mul_le_mul_right _ this
          omega
        · have h3 : c.toNat * 128 ^ i ≤ 127 * 128 ^ i := Nat.mul_le_mul_right _ (by omega)
          have h4 : 128 ^ i ≤ 128 ^ 8 := Nat.pow_le_pow_right (by omega) (by omega)
          omega
      · rw [rd_more i acc c l (by omega) h2]
        have h9 : i ≠ 9 := by omega
        have h3 : c.toNat % 128 * 128 ^ i ≤ 127 * 128 ^ i := Nat.mul_le_mul_right _ (by omega)
        rcases ih (i + 1) (acc + c.toNat % 128 * 128 ^ i) (by omega) (by rw [p128]; omega) with e | e | ⟨v, n, e, h5, h6, h7, h8⟩
        · exact Or.inl e
        · exact Or.inr (Or.inl e)
        · exact Or.inr (Or.inr ⟨v, n, e, h5, by omega, h7, by simp; omega⟩)

theorem toNat_small (z : Nat) (h : z < 256) : (UInt8.ofNat z).toNat = z := by rw [UInt8.toNat_ofNat']; omega

/-- What was encoded is read back. -/
theorem rd_en (f : Nat) : ∀ (i z acc : Nat) (t : List UInt8), f + i = 10 → z * 128 ^ i < 18446744073709551616 → (0 < i → 0 < z) →
    rd i acc (en f z ++ t) = (acc + z * 128 ^ i, i + (en f z).length, 0) := by
  induction f with
  | zero =>
    intro i z acc t hf hz hp
    obtain rfl : i = 10 := by omega
    have := hp (by omega)
    have h1 : 1 * 128 ^ 10 ≤ z * 128 ^ 10 := Nat.mul_le_mul_right _ this
    omega
  | succ f ih =>
    intro i z acc t hf hz hp
    by_cases h : z < 128
    · rw [en_small f z h]
      have ht := toNat_small z (by omega)
      have hc : ¬ ((0 < i ∧ (UInt8.ofNat z).toNat = 0) ∨ (i = 9 ∧ 1 < (UInt8.ofNat z).toNat)) := by
        rw [ht]
        rintro (⟨h1, h2⟩ | ⟨h1, h2⟩)
        · have := hp h1; omega
        · subst h1
          have h3 : 2 * 128 ^ 9 ≤ z * 128 ^ 9 := Nat.mul_le_mul_right _ (by omega)
          omega
      show rd i acc (UInt8.ofNat z :: t) = _
      rw [rd_last i acc _ t hc (by omega), ht]; rfl
    · rw [en_big f z h]
      have ht := toNat_small (z % 128 + 128) (by omega)
      have h9 : i ≠ 9 := by
        rintro rfl
        have h3 : 128 * 128 ^ 9 ≤ z * 128 ^ 9 := Nat.mul_le_mul_right _ (by omega)
        omega
      show rd i acc (UInt8.ofNat (z % 128 + 128) :: (en f (z / 128) ++ t)) = _
      rw [rd_more i acc _ _ (by omega) (by omega), ht, show (z % 128 + 128) % 128 = z % 128 by omega]
      have hs : z / 128 * 128 ^ (i + 1) + z % 128 * 128 ^ i = z * 128 ^ i := by
        rw [p128, Nat.mul_comm (128 ^ i) 128, ← Nat.mul_assoc, ← Nat.add_mul, Nat.div_add_mod' z 128]
      rw [ih (i + 1) (z / 128) _ t (by omega) (by omega) (by omega)]
      simp only [List.length_cons, Prod.mk.injEq, and_true]
      omega

/-- What is read is the encoding of its form. -/
theorem en_rd (l : List UInt8) : ∀ (i acc v n : Nat), i ≤ 9 → rd i acc l = (v, n, 0) →
    ∃ z, v = acc + z * 128 ^ i ∧ z * 128 ^ i < 18446744073709551616 ∧ i < n ∧ n - i ≤ l.length ∧ l.take (n - i) = en (10 - i) z := by
  induction l with
  | nil => intro i acc v n hi h; rw [rd_nil] at h; cases h
  | cons c l ih =>
    intro i acc v n hi h
    by_cases h1 : (0 < i ∧ c.toNat = 0) ∨ (i = 9 ∧ 1 < c.toNat)
    · rw [rd_bad i acc c l h1] at h; cases h
    · obtain ⟨f, hf⟩ : ∃ f, 10 - i = f + 1 := ⟨9 - i, by omega⟩
      by_cases h2 : c.toNat < 128
      · rw [rd_last i acc c l h1 h2] at h
        cases h
        refine ⟨c.toNat, rfl, ?_, by omega, by simp, ?_⟩
        · by_cases h9 : i = 9
          · subst h9
            have h3 : c.toNat * 128 ^ 9 ≤ 1 * 128 ^ 9 := Nat.mul_le_mul_right _ (by omega)
            omega
          · have h3 : c.toNat * 128 ^ i ≤ 127 * 128 ^ i := Nat.mul_le_mul_right _ (by omega)
            have h4 : 128 ^ i ≤ 128 ^ 8 := Nat.pow_le_pow_right (by omega) (by omega)
            omega
        · rw [show i + 1 - i = 1 by omega, hf, en_small f _ h2]
          simp
      · have h9 : i ≠ 9 := by omega
        rw [rd_more i acc c l (by omega) h2] at h
        obtain ⟨z, hv, hz, hn, hl, ht⟩ := ih (i + 1) _ v n (by omega) h
        have hs : (z * 128 + c.toNat % 128) * 128 ^ i = z * 128 ^ (i + 1) + c.toNat % 128 * 128 ^ i := by
          rw [p128, Nat.add_mul, Nat.mul_assoc, Nat.mul_comm 128 (128 ^ i)]
        have hzpos : 0 < z := by
          rcases Nat.eq_zero_or_pos z with e | e
          · subst e
            exfalso
            rw [show 10 - (i + 1) = (8 - i) + 1 by omega, en_small _ 0 (by omega)] at ht
            have hl1 : (l.take (n - (i + 1))).length = 1 := by rw [ht]; rfl
            cases l with
            | nil => simp at hl; omega
            | cons d l =>
              rw [List.length_take] at hl1
              have hn1 : n - (i + 1) = 1 := by simp at hl1 hl; omega
              rw [hn1] at ht
              have hd : d = UInt8.ofNat 0 := by simpa using ht
              rw [rd_bad (i + 1) _ d l (Or.inl ⟨by omega, by rw [hd]; rfl⟩)] at h
              cases h
          · exact e
        refine ⟨z * 128 + c.toNat % 128, by omega, ?_, by omega, by simp; omega, ?_⟩
        · have hc : c.toNat % 128 * 128 ^ i ≤ 127 * 128 ^ i := Nat.mul_le_mul_right _ (by omega)
          rw [hs]
          have hdiv : 128 ^ (i + 1) * (18446744073709551616 / 128 ^ (i + 1)) = 18446744073709551616 := by
            have : i = 0 ∨ i = 1 ∨ i = 2 ∨ i = 3 ∨ i = 4 ∨ i = 5 ∨ i = 6 ∨ i = 7 ∨ i = 8 := by omega
            rcases this with e | e | e | e | e | e | e | e | e <;> subst e <;> decide +kernel
          have hlt : z < 18446744073709551616 / 128 ^ (i + 1) := by
            rw [Nat.lt_div_iff_mul_lt' (by exact ⟨_, hdiv.symm⟩)]
            rw [Nat.mul_comm]; exact hz
          have h5 : (z + 1) * 128 ^ (i + 1) ≤ 18446744073709551616 / 128 ^ (i + 1) * 128 ^ (i + 1) := Nat.mul_le_mul_right _ hlt
          rw [Nat.mul_comm (18446744073709551616 / 128 ^ (i + 1)), hdiv, Nat.add_mul] at h5
          rw [p128] at h5 hz ⊢
          have hpos : 0 < 128 ^ i := Nat.pow_pos (by omega)
          omega
        · rw [hf, en_big f _ (by omega), show n - i = (n - (i + 1)) + 1 by omega, List.take_succ_cons, ht]
          rw [show (z * 128 + c.toNat % 128) / 128 = z by omega, show (z * 128 + c.toNat % 128) % 128 = c.toNat % 128 by omega, show 10 - (i + 1) = f by omega]
          congr 1
          apply UInt8.toNat_inj.1
          have := c.toNat_lt
          rw [toNat_small _ (by omega)]
          omega
end Go.Proofs.Yticlcjabhemdiaa.Wire
