/- Contracts of the hash, of the bytes of a key and of a checksum. -/
import Derived.Test.YticlcjabhemdiaaGA
import Derived.Deep.OwnRows
import Derived.Laws.NewBlocks
import Derived.Laws.OwnMore
set_option linter.unusedVariables false
namespace Go.Proofs.Yticlcjabhemdiaa.Digest
open Go.RowKit

/-- The hash of what was hashed and one byte more. -/
def hs1 (h : Nat) (c : UInt8) : Nat := (h ^^^ c.toNat) * 1099511628211 % 18446744073709551616
/-- The hash of what was hashed and these bytes. -/
def hsh (h : Nat) (l : List UInt8) : Nat := l.foldl hs1 h
/-- The hash of these bytes. -/
def fnv (l : List UInt8) : Nat := hsh 14695981039346656037 l
theorem hsh_nil (h : Nat) : hsh h [] = h := rfl
theorem hsh_cons (h : Nat) (c : UInt8) (l : List UInt8) : hsh h (c :: l) = hsh (hs1 h c) l := rfl
theorem hsh_append (h : Nat) (l m : List UInt8) : hsh h (l ++ m) = hsh (hsh h l) m := List.foldl_append
theorem hs1_lt (h : Nat) (c : UInt8) : hs1 h c < 18446744073709551616 := Nat.mod_lt _ (by omega)
theorem hsh_lt (l : List UInt8) : ∀ h, h < 18446744073709551616 → hsh h l < 18446744073709551616 := by
  induction l with
  | nil => exact fun h hh => hh
  | cons c l ih => exact fun h _ => ih _ (hs1_lt h c)
theorem fnv_lt (l : List UInt8) : fnv l < 18446744073709551616 := hsh_lt l _ (by omega)
theorem hs1_int (h : Nat) (c : UInt8) (hh : h < 18446744073709551616) : IntKind.u64.wrap (bits .xor .u64 (h : Int) (c.toNat : Int) * 1099511628211) = ((hs1 h c : Nat) : Int) := by
  have hc := c.toNat_lt
  rw [u64_xor_nat h c.toNat hh (by omega), IntKind.wrap_u64]
  unfold hs1
  generalize h ^^^ c.toNat = x
  omega

set_option maxRecDepth 100000 in
set_option maxHeartbeats 1000000 in
theorem hash_any (h : Nat) (s : ByteArray) (w : World) (hh : h < 18446744073709551616) (hs : s.size ≤ 100000) :
    Calls Try.prog 61 #[.int .u64 (h : Int), .string s] w fun e w' => e = .returned (.int .u64 (hsh h s.data.toList : Nat)) ∧ w = w' := by
  go_enter Try.func61, Try.ntmps61
  go_wp2_with fail
  go_loop [0, 8] (fun r i => ∃ (k x : Nat), k ≤ s.size ∧ i = .int .i64 k ∧ r = .int .u64 (x : Int) ∧ x < 18446744073709551616 ∧ hsh x (s.data.toList.drop k) = hsh h s.data.toList) (fun _ i => s.size - (intOf i).toNat)
  case atStart => exact ⟨0, h, Nat.zero_le _, rfl, rfl, hh, by simp⟩
  case round =>
    obtain ⟨k, x, hk, rfl, rfl, hx, hr⟩ := hrel
    by_cases hlt : k < s.size
    · rw [drop_cons s k hlt, hsh_cons] at hr
      have HR := Lib.hid hr
      have HI := Lib.hid (hs1_int x s[k] hx)
      have HL := Lib.hid (hs1_lt x s[k])
      have HX := Lib.hid hx
      clear hr hx
      have hc := (s[k]).toNat_lt
      go_wp2_with fail
      go_round
      case rel => exact ⟨k + 1, hs1 x s[k], by omega, by go_num, val_int HI.out, HL.out, HR.out⟩
      case measure => simp [intOf]; omega
    · rw [drop_all s k hlt, hsh_nil] at hr
      have HR := Lib.hid hr
      clear hr
      go_wp2_with fail
      go_ret
      exact ⟨ret_int (by rw [← HR.out]), rfl⟩

theorem fnv_any (s : ByteArray) (w : World) (hs : s.size ≤ 100000) :
    Calls Try.prog 62 #[.string s] w fun e w' => e = .returned (.int .u64 (fnv s.data.toList : Nat)) ∧ w = w' := by
  go_enter Try.func62, Try.ntmps62
  go_wp2_with fail
  refine (hash_any 14695981039346656037 s _ (by omega) hs).mono ?_
  rintro e w' ⟨rfl, rfl⟩
  go_wp2_with fail
  go_ret
  exact ⟨rfl, rfl⟩

set_option maxRecDepth 100000 in
set_option maxHeartbeats 1000000 in
theorem rfnv_any (s : ByteArray) (w : World) (hs : s.size ≤ 100000) :
    Calls Try.prog 51 #[.string s] w fun e w' => e = .returned (.int .u64 (fnv s.data.toList : Nat)) ∧ w = w' := by
  have HF := Lib.hid (show fnv s.data.toList = hsh 14695981039346656037 s.data.toList from rfl)
  go_enter Try.func51, Try.ntmps51
  go_wp2_with fail
  go_loop [3, 4] (fun r i => ∃ (k x : Nat), k ≤ s.size ∧ i = .int .i64 k ∧ r = .int .u64 (x : Int) ∧ x < 18446744073709551616 ∧ hsh x (s.data.toList.drop k) = fnv s.data.toList) (fun _ i => s.size - (intOf i).toNat)
  case atStart => exact ⟨0, 14695981039346656037, Nat.zero_le _, rfl, rfl, by omega, by rw [HF.out]; simp⟩
  case round =>
    obtain ⟨k, x, hk, rfl, rfl, hx, hr⟩ := hrel
    by_cases hlt : k < s.size
    · rw [drop_cons s k hlt, hsh_cons] at hr
      have HR := Lib.hid hr
      have HI := Lib.hid (hs1_int x s[k] hx)
      have HL := Lib.hid (hs1_lt x s[k])
      have HX := Lib.hid hx
      clear hr hx
      have hc := (s[k]).toNat_lt
      go_wp2_with fail
      go_round
      case rel => exact ⟨k + 1, hs1 x s[k], by omega, by go_num, val_int HI.out, HL.out, HR.out⟩
      case measure => simp [intOf]; omega
    · rw [drop_all s k hlt, hsh_nil] at hr
      have HR := Lib.hid hr
      clear hr
      go_wp2_with fail
      go_ret
      exact ⟨ret_int (by rw [← HR.out]), rfl⟩

/-- Byte j of a number with n bytes, the most significant one first. -/
def byteAt (n k j : Nat) : UInt8 := UInt8.ofNat (k / 2 ^ (8 * (n - 1 - j)))
/-- The bytes of a number. -/
def nb (n k : Nat) : List UInt8 := (List.range n).map (byteAt n k)

end Go.Proofs.Yticlcjabhemdiaa.Digest
