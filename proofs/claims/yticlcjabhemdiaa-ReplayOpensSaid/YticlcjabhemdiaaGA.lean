/- Contracts of the two checks of digest. -/
import Derived.Test.YticlcjabhemdiaaRows
import Derived.Test.YticlcjabhemdiaaGPlain
import Derived.WalkKit
import Derived.WalkSpells
import Derived.WalkLawsBesides
import Derived.Lib.Hide
import Derived.IntWalk
set_option linter.unusedVariables false
namespace Go.Proofs.Yticlcjabhemdiaa.Digest
open Go.RowKit

theorem ret_int {k : IntKind} {a b : Int} (h : a = b) : Ending.returned (.int k a) = .returned (.int k b) := by rw [h]
theorem ret_str {a b : ByteArray} (h : a = b) : Ending.returned (.string a) = .returned (.string b) := by rw [h]
theorem val_int {k : IntKind} {a b : Int} (h : a = b) : Value.int k a = .int k b := by rw [h]
theorem drop_cons (s : ByteArray) (k : Nat) (h : k < s.size) : s.data.toList.drop k = s[k] :: s.data.toList.drop (k + 1) := by
  rw [List.drop_eq_getElem_cons (by simpa using h)]; rfl
theorem drop_all (s : ByteArray) (k : Nat) (h : ¬ k < s.size) : s.data.toList.drop k = [] := List.drop_of_length_le (by simp; omega)

theorem vxor16 (x y : BitVec 16) : bits .xor .u16 (x.toNat : Int) (y.toNat : Int) = ((x ^^^ y).toNat : Int) := by
  rw [u16_xor_nat _ _ x.isLt y.isLt, BitVec.toNat_xor]
theorem vxor32 (x y : BitVec 32) : bits .xor .u32 (x.toNat : Int) (y.toNat : Int) = ((x ^^^ y).toNat : Int) := by
  rw [u32_xor_nat _ _ x.isLt y.isLt, BitVec.toNat_xor]
theorem e16_nat (c : UInt8) : (e16 c).toNat = c.toNat * 256 := by
  have hc := c.toNat_lt
  have ec : c.toBitVec.toNat = c.toNat := rfl
  unfold e16
  rw [BitVec.toNat_shiftLeft, BitVec.toNat_setWidth, ec, Nat.shiftLeft_eq]
  omega
theorem e32_nat (c : UInt8) : (e32 c).toNat = c.toNat := by
  have hc := c.toNat_lt
  have ec : c.toBitVec.toNat = c.toNat := rfl
  unfold e32
  rw [BitVec.toNat_setWidth, ec]; omega

theorem in16 (x : BitVec 16) (c : UInt8) : bits .xor .u16 (x.toNat : Int) ((c.toNat : Int) * 256) = ((x ^^^ e16 c).toNat : Int) := by
  have e : ((c.toNat : Int) * 256) = ((e16 c).toNat : Int) := by rw [e16_nat]; omega
  rw [e, vxor16]
theorem in32 (x : BitVec 32) (c : UInt8) : bits .xor .u32 (x.toNat : Int) (c.toNat : Int) = ((x ^^^ e32 c).toNat : Int) := by
  rw [← e32_nat c, vxor32]
theorem wr_shl (x : BitVec 16) : IntKind.u16.wrap ((x.toNat : Int) * 2) = ((x <<< 1).toNat : Int) := by
  rw [IntKind.wrap_u16, shl1]; omega
theorem next16_hi (x : BitVec 16) (h : 32768 ≤ x.toNat) : bits .xor .u16 (IntKind.u16.wrap ((x.toNat : Int) * 2)) 4129 = ((s16 x).toNat : Int) := by
  rw [s16_hi x h, wr_shl]; exact vxor16 (x <<< 1) 4129#16
theorem next16_lo (x : BitVec 16) (h : x.toNat < 32768) : (x.toNat : Int) * 2 = ((s16 x).toNat : Int) := by
  rw [s16_lo x h, shl1]; omega

end Go.Proofs.Yticlcjabhemdiaa.Digest
