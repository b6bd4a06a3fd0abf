/- Contracts of the second check of digest, and of both of the reference. -/
import Derived.Test.YticlcjabhemdiaaGA
set_option linter.unusedVariables false
namespace Go.Proofs.Yticlcjabhemdiaa.Digest
open Go.RowKit

theorem and1_32 (y : BitVec 32) : bits .and .u32 (y.toNat : Int) 1 = ((y.toNat % 2 : Nat) : Int) := by
  have e := u32_and_nat y.toNat 1 y.isLt (by omega)
  have e2 := Nat.and_two_pow_sub_one_eq_mod y.toNat 1
  simp only [show 2 ^ 1 - 1 = 1 from rfl, show 2 ^ 1 = 2 from rfl] at e2
  rw [e2] at e; exact e
theorem next32_odd (y : BitVec 32) (h : y.toNat % 2 = 1) : bits .xor .u32 ((y.toNat : Int) / 2) 3988292384 = ((s32 y).toNat : Int) := by
  have e : (y.toNat : Int) / (2 : Int) = ((y >>> 1).toNat : Int) := by rw [shr1]; omega
  rw [s32_odd y h, e]
  exact vxor32 (y >>> 1) 3988292384#32
theorem next32_even (y : BitVec 32) (h : y.toNat % 2 = 0) : (y.toNat : Int) / 2 = ((s32 y).toNat : Int) := by
  rw [s32_even y h, shr1]; omega
theorem flip32 (y : BitVec 32) : bits .xor .u32 IntKind.u32.max (y.toNat : Int) = ((~~~ y).toNat : Int) := by
  have e : IntKind.u32.max = ((BitVec.allOnes 32).toNat : Int) := by decide
  rw [e, vxor32, BitVec.allOnes_xor]

theorem i64_xor_lt (a b : Nat) (ha : a < 4294967296) (hb : b < 4294967296) : bits .xor .i64 (a : Int) (b : Int) = ((a ^^^ b : Nat) : Int) := by
  have hx : a ^^^ b < 2 ^ 32 := Nat.xor_lt_two_pow (by omega) (by omega)
  show IntKind.i64.wrap ((BitVec.ofInt 64 (a : Int) ^^^ BitVec.ofInt 64 (b : Int)).toNat : Int) = _
  rw [BitVec.toNat_xor, ofInt_u64 a (by omega), ofInt_u64 b (by omega)]
  exact IntWalk.i64_in _ ⟨by omega, by omega⟩
theorem rin16 (x : BitVec 16) (c : UInt8) : bits .xor .i64 (x.toNat : Int) ((c.toNat : Int) * 256) = ((x ^^^ e16 c).toNat : Int) := by
  have e : ((c.toNat : Int) * 256) = ((e16 c).toNat : Int) := by rw [e16_nat]; omega
  have h1 := x.isLt
  have h2 := (e16 c).isLt
  rw [e, i64_xor_lt _ _ (by omega) (by omega), BitVec.toNat_xor]
theorem rnext16_hi (x : BitVec 16) (h : 32768 ≤ x.toNat) : bits .xor .i64 ((x.toNat : Int) * 2 - 65536) 4129 = ((s16 x).toNat : Int) := by
  have h1 := x.isLt
  have h2 := (x <<< 1).isLt
  have e : (x.toNat : Int) * (2 : Int) - (65536 : Int) = ((x <<< 1).toNat : Int) := by rw [shl1]; omega
  rw [s16_hi x h, BitVec.toNat_xor, e]
  exact i64_xor_lt _ 4129 (by omega) (by omega)
theorem rin32 (x : BitVec 32) (c : UInt8) : bits .xor .i64 (x.toNat : Int) (c.toNat : Int) = ((x ^^^ e32 c).toNat : Int) := by
  have h1 := x.isLt
  have h2 := c.toNat_lt
  rw [i64_xor_lt _ _ (by omega) (by omega), BitVec.toNat_xor, e32_nat]
theorem rnext32_odd (y : BitVec 32) (h : y.toNat % 2 = 1) : bits .xor .i64 ((y.toNat : Int) / 2) 3988292384 = ((s32 y).toNat : Int) := by
  have h1 := (y >>> 1).isLt
  have e : (y.toNat : Int) / (2 : Int) = ((y >>> 1).toNat : Int) := by rw [shr1]; omega
  rw [s32_odd y h, BitVec.toNat_xor, e]
  exact i64_xor_lt _ 3988292384 (by omega) (by omega)

theorem flip32' (y : BitVec 32) : (4294967295 : Int) - (y.toNat : Int) = ((~~~ y).toNat : Int) := by
  have := y.isLt
  rw [BitVec.toNat_not]; omega
end Go.Proofs.Yticlcjabhemdiaa.Digest
