/- Contracts of the two checks of digest. -/
import Derived.Test.YtebffibdjkjjdaaRows
import Derived.Test.YtebffibdjkjjdaaGPlain
import Derived.WalkKit
import Derived.WalkSpells
import Derived.WalkLawsBesides
import Derived.Lib.Hide
import Derived.IntWalk
set_option linter.unusedVariables false
namespace Go.Proofs.Ytebffibdjkjjdaa
open Go.RowKit

theorem ret_int {k : IntKind} {a b : Int} (h : a = b) : Ending.returned (.int k a) = .returned (.int k b) := by rw [h]
theorem ret_str {a b : ByteArray} (h : a = b) : Ending.returned (.string a) = .returned (.string b) := by rw [h]
theorem val_int {k : IntKind} {a b : Int} (h : a = b) : Value.int k a = .int k b := by rw [h]
theorem drop_cons (s : ByteArray) (k : Nat) (h : k < s.size) : s.data.toList.drop k = s[k] :: s.data.toList.drop (k + 1) := by
  rw [List.drop_eq_getElem_cons (by simpa using h)]; rfl
theorem drop_all (s : ByteArray) (k : Nat) (h : ¬ k < s.size) : s.data.toList.drop k = [] := List.drop_of_length_le (by simp; omega)

theorem vxor16 (x y : BitVec 16) : bits .xor .u16 (x.toNat : Int) (y.toNat : Int) = ((x ^^^ y).toNat : Int) := by
  rw [u16_xor_nat _ _ x.isLt y.isLt, BitVec.toNat_xor]
theorem vxor32 (x y : BitVec 32) : bits .xor .u32 (x.toNat : Int) (y.toNat : Int) = ((x ^^^ y).toNat : Int) := by
  rw [u32_xor_nat _ _ x.isLt y.isLt, BitVec.toNat_xor]
theorem e16_nat (c : UInt8) : (e16 c).toNat = c.toNat * 256 := by
  have hc := c.toNat_lt
  have ec : c.toBitVec.toNat = c.toNat := rfl
  unfold e16
  rw [BitVec.toNat_shiftLeft, BitVec.toNat_setWidth, ec, Nat.shiftLeft_eq]
  omega
theorem e32_nat (c : UInt8) : (e32 c).toNat = c.toNat := by
  have hc := c.toNat_lt
  have ec : c.toBitVec.toNat = c.toNat := rfl
  unfold e32
  rw [BitVec.toNat_setWidth, ec]; omega

theorem in16 (x : BitVec 16) (c : UInt8) : bits .xor .u16 (x.toNat : Int) ((c.toNat : Int) * 256) = ((x ^^^ e16 c).toNat : Int) := by
  have e : ((c.toNat : Int) * 256) = ((e16 c).toNat : Int) := by rw [e16_nat]; omega
  rw [e, vxor16]
theorem in32 (x : BitVec 32) (c : UInt8) : bits .xor .u32 (x.toNat : Int) (c.toNat : Int) = ((x ^^^ e32 c).toNat : Int) := by
  rw [← e32_nat c, vxor32]
theorem wr_shl (x : BitVec 16) : IntKind.u16.wrap ((x.toNat : Int) * 2) = ((x <<< 1).toNat : Int) := by
  rw [IntKind.wrap_u16, shl1]; omega
theorem next16_hi (x : BitVec 16) (h : 32768 ≤ x.toNat) : bits .xor .u16 (IntKind.u16.wrap ((x.toNat : Int) * 2)) 4129 = ((s16 x).toNat : Int) := by
  rw [s16_hi x h, wr_shl]; exact vxor16 (x <<< 1) 4129#16
theorem next16_lo (x : BitVec 16) (h : x.toNat < 32768) : (x.toNat : Int) * 2 = ((s16 x).toNat : Int) := by
  rw [s16_lo x h, shl1]; omega

set_option maxRecDepth 100000 in
set_option maxHeartbeats 2000000 in
theorem crc16_any (s : ByteArray) (w : World) (hs : s.size ≤ 100000) :
    Calls Try.prog 11 #[.string s] w fun e w' => e = .returned (.int .i64 (c16 s.data.toList : Nat)) ∧ w = w' := by
  have HC := Lib.hid (show (c16 s.data.toList : Int) = ((f16 65535#16 s.data.toList).toNat : Int) from rfl)
  go_enter Try.func11, Try.ntmps11
  go_wp2_with fail
  go_loop [3, 8] (fun r i => ∃ (k : Nat) (x : BitVec 16), k ≤ s.size ∧ i = .int .i64 k ∧ r = .int .u16 (x.toNat : Int) ∧ f16 x (s.data.toList.drop k) = f16 65535#16 s.data.toList) (fun _ i => s.size - (intOf i).toNat)
  case atStart => exact ⟨0, 65535#16, Nat.zero_le _, rfl, rfl, by simp⟩
  case round =>
    obtain ⟨k, x, hk, rfl, rfl, hr⟩ := hrel
    by_cases hlt : k < s.size
    · rw [drop_cons s k hlt, f16_cons] at hr
      have HR := Lib.hid hr
      have HI := Lib.hid (in16 x s[k])
      have HB := Lib.hid (show it s16 8 (x ^^^ e16 s[k]) = b16 x s[k] from rfl)
      clear hr
      have hc := (s[k]).toNat_lt
      go_wp2_with fail
      go_loop [3, 18] (fun r i => ∃ (j : Nat) (y : BitVec 16), j ≤ 8 ∧ i = .int .i64 j ∧ r = .int .u16 (y.toNat : Int) ∧ it s16 (8 - j) y = b16 x s[k]) (fun _ i => 8 - (intOf i).toNat)
      case atStart => exact ⟨0, x ^^^ e16 s[k], by omega, rfl, val_int HI.out, HB.out⟩
      case round =>
        obtain ⟨j, y, hj, rfl, rfl, hy⟩ := hrel
        by_cases hjl : j < 8
        · rw [show 8 - j = (8 - (j + 1)) + 1 by omega, it_succ] at hy
          have HY := Lib.hid hy
          have hyl := y.isLt
          clear hy
          by_cases hb : 32768 ≤ y.toNat
          · have HN := Lib.hid (next16_hi y hb)
            go_wp2_with fail
            go_outline
            go_round
            case rel => exact ⟨j + 1, s16 y, by omega, by go_num, val_int HN.out, HY.out⟩
            case measure => simp [intOf]; omega
          · have HN := Lib.hid (next16_lo y (by omega))
            go_wp2_with fail
            go_outline
            go_round
            case rel => exact ⟨j + 1, s16 y, by omega, by go_num, val_int HN.out, HY.out⟩
            case measure => simp [intOf]; omega
        · rw [show 8 - j = 0 by omega, it_zero] at hy
          have HY := Lib.hid hy
          clear hy
          go_wp2_with fail
          go_outline
          go_round
          case rel => exact ⟨k + 1, y, by omega, by go_num, rfl, by rw [HY.out]; exact HR.out⟩
          case measure => simp [intOf]; omega
    · rw [drop_all s k hlt, f16_nil] at hr
      have HR := Lib.hid hr
      clear hr
      have hxl := x.isLt
      go_wp2_with fail
      go_ret
      exact ⟨ret_int (by rw [HC.out, ← HR.out]), rfl⟩
end Go.Proofs.Ytebffibdjkjjdaa
