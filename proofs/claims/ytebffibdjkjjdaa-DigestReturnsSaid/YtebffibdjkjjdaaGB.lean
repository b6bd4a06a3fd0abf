/- Contracts of the second check of digest, and of both of the reference. -/
import Derived.Test.YtebffibdjkjjdaaGA
set_option linter.unusedVariables false
namespace Go.Proofs.Ytebffibdjkjjdaa
open Go.RowKit

theorem and1_32 (y : BitVec 32) : bits .and .u32 (y.toNat : Int) 1 = ((y.toNat % 2 : Nat) : Int) := by
  have e := u32_and_nat y.toNat 1 y.isLt (by omega)
  have e2 := Nat.and_two_pow_sub_one_eq_mod y.toNat 1
  simp only [show 2 ^ 1 - 1 = 1 from rfl, show 2 ^ 1 = 2 from rfl] at e2
  rw [e2] at e; exact e
theorem next32_odd (y : BitVec 32) (h : y.toNat % 2 = 1) : bits .xor .u32 ((y.toNat : Int) / 2) 3988292384 = ((s32 y).toNat : Int) := by
  have e : (y.toNat : Int) / (2 : Int) = ((y >>> 1).toNat : Int) := by rw [shr1]; omega
  rw [s32_odd y h, e]
  exact vxor32 (y >>> 1) 3988292384#32
theorem next32_even (y : BitVec 32) (h : y.toNat % 2 = 0) : (y.toNat : Int) / 2 = ((s32 y).toNat : Int) := by
  rw [s32_even y h, shr1]; omega
theorem flip32 (y : BitVec 32) : bits .xor .u32 IntKind.u32.max (y.toNat : Int) = ((~~~ y).toNat : Int) := by
  have e : IntKind.u32.max = ((BitVec.allOnes 32).toNat : Int) := by decide
  rw [e, vxor32, BitVec.allOnes_xor]

set_option maxRecDepth 100000 in
set_option maxHeartbeats 2000000 in
theorem crc32_any (s : ByteArray) (w : World) (hs : s.size ≤ 100000) :
    Calls Try.prog 13 #[.string s] w fun e w' => e = .returned (.int .i64 (c32 s.data.toList : Nat)) ∧ w = w' := by
  have HC := Lib.hid (show (c32 s.data.toList : Int) = ((~~~ f32 4294967295#32 s.data.toList).toNat : Int) from rfl)
  go_enter Try.func13, Try.ntmps13
  go_wp2_with fail
  go_loop [3, 8] (fun r i => ∃ (k : Nat) (x : BitVec 32), k ≤ s.size ∧ i = .int .i64 k ∧ r = .int .u32 (x.toNat : Int) ∧ f32 x (s.data.toList.drop k) = f32 4294967295#32 s.data.toList) (fun _ i => s.size - (intOf i).toNat)
  case atStart => exact ⟨0, 4294967295#32, Nat.zero_le _, rfl, rfl, by simp⟩
  case round =>
    obtain ⟨k, x, hk, rfl, rfl, hr⟩ := hrel
    by_cases hlt : k < s.size
    · rw [drop_cons s k hlt, f32_cons] at hr
      have HR := Lib.hid hr
      have HI := Lib.hid (in32 x s[k])
      have HB := Lib.hid (show it s32 8 (x ^^^ e32 s[k]) = b32 x s[k] from rfl)
      clear hr
      have hc := (s[k]).toNat_lt
      go_wp2_with fail
      go_loop [3, 17] (fun r i => ∃ (j : Nat) (y : BitVec 32), j ≤ 8 ∧ i = .int .i64 j ∧ r = .int .u32 (y.toNat : Int) ∧ it s32 (8 - j) y = b32 x s[k]) (fun _ i => 8 - (intOf i).toNat)
      case atStart => exact ⟨0, x ^^^ e32 s[k], by omega, rfl, val_int HI.out, HB.out⟩
      case round =>
        obtain ⟨j, y, hj, rfl, rfl, hy⟩ := hrel
        by_cases hjl : j < 8
        · rw [show 8 - j = (8 - (j + 1)) + 1 by omega, it_succ] at hy
          have HY := Lib.hid hy
          have hyl := y.isLt
          clear hy
          by_cases hb : y.toNat % 2 = 1
          · have HN := Lib.hid (next32_odd y hb)
            have hA : bits .and .u32 (y.toNat : Int) 1 = 1 := by rw [and1_32, hb]; rfl
            clear hb
            go_wp2_with fail
            go_round
            case rel => exact ⟨j + 1, s32 y, by omega, by go_num, val_int HN.out, HY.out⟩
            case measure => simp [intOf]; omega
          · have HN := Lib.hid (next32_even y (by omega))
            have hA : bits .and .u32 (y.toNat : Int) 1 = 0 := by rw [and1_32, show y.toNat % 2 = 0 by omega]; rfl
            clear hb
            go_wp2_with fail
            go_round
            case rel => exact ⟨j + 1, s32 y, by omega, by go_num, val_int HN.out, HY.out⟩
            case measure => simp [intOf]; omega
        · rw [show 8 - j = 0 by omega, it_zero] at hy
          have HY := Lib.hid hy
          clear hy
          go_wp2_with fail
          go_round
          case rel => exact ⟨k + 1, y, by omega, by go_num, rfl, by rw [HY.out]; exact HR.out⟩
          case measure => simp [intOf]; omega
    · rw [drop_all s k hlt, f32_nil] at hr
      have HR := Lib.hid hr
      have HF := Lib.hid (flip32 x)
      clear hr
      have hxl := x.isLt
      go_wp2_with fail
      go_ret
      exact ⟨ret_int (by rw [HC.out, ← HR.out, HF.out]; have := (~~~x).isLt; unfold wrap64; omega), rfl⟩

theorem i64_xor_lt (a b : Nat) (ha : a < 4294967296) (hb : b < 4294967296) : bits .xor .i64 (a : Int) (b : Int) = ((a ^^^ b : Nat) : Int) := by
  have hx : a ^^^ b < 2 ^ 32 := Nat.xor_lt_two_pow (by omega) (by omega)
  show IntKind.i64.wrap ((BitVec.ofInt 64 (a : Int) ^^^ BitVec.ofInt 64 (b : Int)).toNat : Int) = _
  rw [BitVec.toNat_xor, ofInt_u64 a (by omega), ofInt_u64 b (by omega)]
  exact IntWalk.i64_in _ ⟨by omega, by omega⟩
theorem rin16 (x : BitVec 16) (c : UInt8) : bits .xor .i64 (x.toNat : Int) ((c.toNat : Int) * 256) = ((x ^^^ e16 c).toNat : Int) := by
  have e : ((c.toNat : Int) * 256) = ((e16 c).toNat : Int) := by rw [e16_nat]; omega
  have h1 := x.isLt
  have h2 := (e16 c).isLt
  rw [e, i64_xor_lt _ _ (by omega) (by omega), BitVec.toNat_xor]
theorem rnext16_hi (x : BitVec 16) (h : 32768 ≤ x.toNat) : bits .xor .i64 ((x.toNat : Int) * 2 - 65536) 4129 = ((s16 x).toNat : Int) := by
  have h1 := x.isLt
  have h2 := (x <<< 1).isLt
  have e : (x.toNat : Int) * (2 : Int) - (65536 : Int) = ((x <<< 1).toNat : Int) := by rw [shl1]; omega
  rw [s16_hi x h, BitVec.toNat_xor, e]
  exact i64_xor_lt _ 4129 (by omega) (by omega)
theorem rin32 (x : BitVec 32) (c : UInt8) : bits .xor .i64 (x.toNat : Int) (c.toNat : Int) = ((x ^^^ e32 c).toNat : Int) := by
  have h1 := x.isLt
  have h2 := c.toNat_lt
  rw [i64_xor_lt _ _ (by omega) (by omega), BitVec.toNat_xor, e32_nat]
theorem rnext32_odd (y : BitVec 32) (h : y.toNat % 2 = 1) : bits .xor .i64 ((y.toNat : Int) / 2) 3988292384 = ((s32 y).toNat : Int) := by
  have h1 := (y >>> 1).isLt
  have e : (y.toNat : Int) / (2 : Int) = ((y >>> 1).toNat : Int) := by rw [shr1]; omega
  rw [s32_odd y h, BitVec.toNat_xor, e]
  exact i64_xor_lt _ 3988292384 (by omega) (by omega)

set_option maxRecDepth 100000 in
set_option maxHeartbeats 2000000 in
theorem rcrc16_any (s : ByteArray) (w : World) (hs : s.size ≤ 100000) :
    Calls Try.prog 12 #[.string s] w fun e w' => e = .returned (.int .i64 (c16 s.data.toList : Nat)) ∧ w = w' := by
  have HC := Lib.hid (show (c16 s.data.toList : Int) = ((f16 65535#16 s.data.toList).toNat : Int) from rfl)
  go_enter Try.func12, Try.ntmps12
  go_wp2_with fail
  go_loop [3, 4] (fun r i => ∃ (k : Nat) (x : BitVec 16), k ≤ s.size ∧ i = .int .i64 k ∧ r = .int .i64 (x.toNat : Int) ∧ f16 x (s.data.toList.drop k) = f16 65535#16 s.data.toList) (fun _ i => s.size - (intOf i).toNat)
  case atStart => exact ⟨0, 65535#16, Nat.zero_le _, rfl, rfl, by simp⟩
  case round =>
    obtain ⟨k, x, hk, rfl, rfl, hr⟩ := hrel
    by_cases hlt : k < s.size
    · rw [drop_cons s k hlt, f16_cons] at hr
      have HR := Lib.hid hr
      have HI := Lib.hid (rin16 x s[k])
      have HB := Lib.hid (show it s16 8 (x ^^^ e16 s[k]) = b16 x s[k] from rfl)
      clear hr
      have hc := (s[k]).toNat_lt
      go_wp2_with fail
      go_loop [3, 5] (fun r i => ∃ (j : Nat) (y : BitVec 16), j ≤ 8 ∧ i = .int .i64 j ∧ r = .int .i64 (y.toNat : Int) ∧ it s16 (8 - j) y = b16 x s[k]) (fun _ i => 8 - (intOf i).toNat)
      case atStart => exact ⟨0, x ^^^ e16 s[k], by omega, rfl, val_int HI.out, HB.out⟩
      case round =>
        obtain ⟨j, y, hj, rfl, rfl, hy⟩ := hrel
        by_cases hjl : j < 8
        · rw [show 8 - j = (8 - (j + 1)) + 1 by omega, it_succ] at hy
          have HY := Lib.hid hy
          have hyl : y.toNat < 65536 := y.isLt
          obtain ⟨v, hv⟩ : ∃ v, y.toNat = v := ⟨_, rfl⟩
          clear hy
          by_cases hb : 32768 ≤ y.toNat
          · have hn := rnext16_hi y hb
            rw [hv] at hn hyl hb ⊢
            have HN := Lib.hid hn
            have hd : decide ((65536 : Int) ≤ (v : Int) * 2) = true := decide_eq_true (by omega)
            clear hn hv hb
            go_wp2_with fail
            go_round
            case rel => exact ⟨j + 1, s16 y, by omega, by go_num, val_int HN.out, HY.out⟩
            case measure => simp [intOf]; omega
          · have hn := next16_lo y (by omega)
            rw [hv] at hn hyl hb ⊢
            have HN := Lib.hid hn
            have hd : decide ((65536 : Int) ≤ (v : Int) * 2) = false := decide_eq_false (by omega)
            clear hn hv hb
            go_wp2_with fail
            go_round
            case rel => exact ⟨j + 1, s16 y, by omega, by go_num, val_int HN.out, HY.out⟩
            case measure => simp [intOf]; omega
        · rw [show 8 - j = 0 by omega, it_zero] at hy
          have HY := Lib.hid hy
          clear hy
          go_wp2_with fail
          go_round
          case rel => exact ⟨k + 1, y, by omega, by go_num, rfl, by rw [HY.out]; exact HR.out⟩
          case measure => simp [intOf]; omega
    · rw [drop_all s k hlt, f16_nil] at hr
      have HR := Lib.hid hr
      clear hr
      have hxl := x.isLt
      go_wp2_with fail
      go_ret
      exact ⟨ret_int (by rw [HC.out, ← HR.out]), rfl⟩

theorem flip32' (y : BitVec 32) : (4294967295 : Int) - (y.toNat : Int) = ((~~~ y).toNat : Int) := by
  have := y.isLt
  rw [BitVec.toNat_not]; omega
set_option maxRecDepth 100000 in
set_option maxHeartbeats 2000000 in
theorem rcrc32_any (s : ByteArray) (w : World) (hs : s.size ≤ 100000) :
    Calls Try.prog 14 #[.string s] w fun e w' => e = .returned (.int .i64 (c32 s.data.toList : Nat)) ∧ w = w' := by
  have HC := Lib.hid (show (c32 s.data.toList : Int) = ((~~~ f32 4294967295#32 s.data.toList).toNat : Int) from rfl)
  go_enter Try.func14, Try.ntmps14
  go_wp2_with fail
  go_loop [3, 4] (fun r i => ∃ (k : Nat) (x : BitVec 32), k ≤ s.size ∧ i = .int .i64 k ∧ r = .int .i64 (x.toNat : Int) ∧ f32 x (s.data.toList.drop k) = f32 4294967295#32 s.data.toList) (fun _ i => s.size - (intOf i).toNat)
  case atStart => exact ⟨0, 4294967295#32, Nat.zero_le _, rfl, rfl, by simp⟩
  case round =>
    obtain ⟨k, x, hk, rfl, rfl, hr⟩ := hrel
    by_cases hlt : k < s.size
    · rw [drop_cons s k hlt, f32_cons] at hr
      have HR := Lib.hid hr
      have HI := Lib.hid (rin32 x s[k])
      have HB := Lib.hid (show it s32 8 (x ^^^ e32 s[k]) = b32 x s[k] from rfl)
      clear hr
      have hc := (s[k]).toNat_lt
      go_wp2_with fail
      go_outline
      go_loop [3, 5] (fun r i => ∃ (j : Nat) (y : BitVec 32), j ≤ 8 ∧ i = .int .i64 j ∧ r = .int .i64 (y.toNat : Int) ∧ it s32 (8 - j) y = b32 x s[k]) (fun _ i => 8 - (intOf i).toNat)
      case atStart => exact ⟨0, x ^^^ e32 s[k], by omega, rfl, val_int HI.out, HB.out⟩
      case round =>
        obtain ⟨j, y, hj, rfl, rfl, hy⟩ := hrel
        by_cases hjl : j < 8
        · rw [show 8 - j = (8 - (j + 1)) + 1 by omega, it_succ] at hy
          have HY := Lib.hid hy
          have hyl := y.isLt
          clear hy
          by_cases hb : y.toNat % 2 = 1
          · have HN := Lib.hid (rnext32_odd y hb)
            have hm : ((y.toNat : Int) % 2 == 1) = true := by simp; omega
            go_wp2_with fail
            go_round
            case rel => exact ⟨j + 1, s32 y, by omega, by go_num, val_int HN.out, HY.out⟩
            case measure => simp [intOf]; omega
          · have HN := Lib.hid (next32_even y (by omega))
            have hm : ((y.toNat : Int) % 2 == 1) = false := by simp; omega
            go_wp2_with fail
            go_round
            case rel => exact ⟨j + 1, s32 y, by omega, by go_num, val_int HN.out, HY.out⟩
            case measure => simp [intOf]; omega
        · rw [show 8 - j = 0 by omega, it_zero] at hy
          have HY := Lib.hid hy
          clear hy
          go_wp2_with fail
          go_round
          case rel => exact ⟨k + 1, y, by omega, by go_num, rfl, by rw [HY.out]; exact HR.out⟩
          case measure => simp [intOf]; omega
    · rw [drop_all s k hlt, f32_nil] at hr
      have HR := Lib.hid hr
      have HF := Lib.hid (flip32' x)
      clear hr
      have hxl := x.isLt
      go_wp2_with fail
      go_ret
      exact ⟨ret_int (by rw [HC.out, ← HR.out, ← HF.out]), rfl⟩
end Go.Proofs.Ytebffibdjkjjdaa
