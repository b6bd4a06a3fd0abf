/- Contracts of the Reader of wire: the form of a number. -/
import Derived.Test.YticlcjabhemdiaaWA
import Derived.Deep.QuietTactic
import Derived.BigQuiet
import Derived.Laws.DeepNot64
set_option linter.unusedVariables false
namespace Go.Proofs.Yticlcjabhemdiaa.Wire
open Go.RowKit

theorem ret_uint {a b : Int} (h : a = b) : Ending.returned (.int .u64 a) = .returned (.int .u64 b) := by rw [h]

theorem i64_not' (a : Int) (h0 : 0 ≤ a) (h : a < 9223372036854775808) : bits .xor .i64 (-1) a = -1 - a := by
  obtain ⟨b, rfl⟩ := Int.eq_ofNat_of_zero_le h0
  exact i64_not b (by omega)
theorem u64_and1 (z : Nat) (h : z < 18446744073709551616) : bits .and .u64 (z : Int) 1 = ((z % 2 : Nat) : Int) := by
  have e := u64_and_nat z 1 h (by omega)
  have e2 := Nat.and_two_pow_sub_one_eq_mod z 1
  simp only [show 2 ^ 1 - 1 = 1 from rfl, show 2 ^ 1 = 2 from rfl] at e2
  rw [e2] at e; exact e
theorem unzig_odd (z : Nat) (h : z < 18446744073709551616) (hb : (bits .and .u64 (z : Int) 1 != 0) = true) : bits .xor .i64 (-1) ((z : Int) / 2) = unzig z := by
  rw [u64_and1 z h] at hb
  have hz : z % 2 = 1 := by
    have : ((z % 2 : Nat) : Int) ≠ 0 := by simpa using hb
    omega
  rw [i64_not' _ (by omega) (by omega)]
  unfold unzig; rw [if_pos hz]; omega
theorem unzig_even (z : Nat) (h : z < 18446744073709551616) (hb : (bits .and .u64 (z : Int) 1 != 0) = false) : (z : Int) / 2 = unzig z := by
  rw [u64_and1 z h] at hb
  have hz : ¬ z % 2 = 1 := by
    have : ((z % 2 : Nat) : Int) = 0 := by simpa using hb
    omega
  unfold unzig; rw [if_neg hz]; omega

theorem unzigzag_any (z : Nat) (w : World) (hz : z < 18446744073709551616) :
    Calls Try.prog 56 #[.int .u64 (z : Int)] w fun e w' => e = .returned (.int .i64 (unzig z)) ∧ w = w' := by
  have U1 := Lib.hid (unzig_odd z hz)
  have U2 := Lib.hid (unzig_even z hz)
  go_enter Try.func56, Try.ntmps56
  go_wp2_with fail
  · go_ret
    exact ⟨ret_int (U1.out (by assumption)), rfl⟩
  · go_ret
    exact ⟨ret_int (U2.out (by assumption)), rfl⟩

theorem u8_and127 (c : Nat) (h : c < 256) : bits .and .u8 (c : Int) 127 = ((c % 128 : Nat) : Int) := by
  have e := u8_and_nat c 127 h (by omega)
  have e2 := Nat.and_two_pow_sub_one_eq_mod c 7
  simp only [show 2 ^ 7 - 1 = 127 from rfl, show 2 ^ 7 = 128 from rfl] at e2
  rw [e2] at e; exact e
theorem u8_and128_lo (c : Nat) (h : c < 128) : bits .and .u8 (c : Int) 128 = 0 := by
  have e := u8_and_nat c 128 (by omega) (by omega)
  have e2 := nat_bit 7 c
  simp only [show 2 ^ 7 = 128 from rfl] at e2
  rw [e2, show c / 128 = 0 by omega] at e; exact e
theorem u8_and128_hi (c : Nat) (h : ¬ c < 128) (h2 : c < 256) : bits .and .u8 (c : Int) 128 = 128 := by
  have e := u8_and_nat c 128 (by omega) (by omega)
  have e2 := nat_bit 7 c
  simp only [show 2 ^ 7 = 128 from rfl] at e2
  rw [e2, show c / 128 = 1 by omega] at e; exact e
theorem two128 (k : Nat) : (2 : Int) ^ (7 * k) = ((128 ^ k : Nat) : Int) := by
  rw [Int.pow_mul]; simp
theorem p128_8 (k : Nat) (h : k ≤ 8) : 128 ^ k ≤ 72057594037927936 := by
  have : 128 ^ k ≤ 128 ^ 8 := Nat.pow_le_pow_right (by omega) h
  omega
/-- The group's place is free. -/
theorem join_form (acc k m : Nat) (hk : k ≤ 9) (ha : acc < 128 ^ k) (hm : m < 128) (h9 : k = 9 → m ≤ 1) :
    bits .or .u64 (acc : Int) (IntKind.u64.wrap (IntKind.u64.wrap (m : Int) * 2 ^ (7 * k))) = ((acc + m * 128 ^ k : Nat) : Int) := by
  have hb : m * 128 ^ k < 18446744073709551616 ∧ acc < 18446744073709551616 := by
    by_cases e : k = 9
    · have h1 := h9 e
      subst e
      have h2 : m * 128 ^ 9 ≤ 1 * 128 ^ 9 := Nat.mul_le_mul_right _ h1
      omega
    · have h1 := p128_8 k (by omega)
      have h2 : m * 128 ^ k ≤ 127 * 128 ^ k := Nat.mul_le_mul_right _ (by omega)
      omega
  have hw : IntKind.u64.wrap (m : Int) = (m : Int) := by rw [u64_wr]; omega
  have hw2 : IntKind.u64.wrap ((m : Int) * ((128 ^ k : Nat) : Int)) = ((m * 128 ^ k : Nat) : Int) := by
    rw [u64_wr, ← Int.natCast_mul]; omega
  rw [two128, hw, hw2, u64_or_nat acc (m * 128 ^ k) hb.2 hb.1]
  have h1 : 128 ^ k = 2 ^ (7 * k) := by rw [Nat.pow_mul]
  have e := nat_join (7 * k) (m * 128 ^ k) acc (by rw [← h1]; exact Nat.mul_mod_left _ _) (by rw [← h1]; exact ha)
  rw [Nat.or_comm, e, Nat.add_comm]

/-- What readForm returns. -/
def FormIs (v n : Nat) (e : Int) : Ending := .returned (.tuple #[.int .u64 (v : Int), .int .i64 (n : Int), .int .i64 e])
theorem drop_cons (s : ByteArray) (k : Nat) (h : k < s.size) : s.data.toList.drop k = s[k] :: s.data.toList.drop (k + 1) := by
  rw [List.drop_eq_getElem_cons (by simpa using h)]; rfl
theorem tup3 {a a' b b' e e' : Int} (h1 : a = a') (h2 : b = b') (h3 : e = e') : Ending.returned (.tuple #[.int .u64 a, .int .i64 b, .int .i64 e]) = .returned (.tuple #[.int .u64 a', .int .i64 b', .int .i64 e']) := by rw [h1, h2, h3]
theorem rd_out {a b : Nat} {c : Int} {v n : Nat} {e : Int} (h : (a, b, c) = (v, n, e)) : (a : Int) = v ∧ (b : Int) = n ∧ c = e := by
  cases h; exact ⟨rfl, rfl, rfl⟩

set_option maxRecDepth 100000 in
set_option maxHeartbeats 2000000 in
theorem form_any (s : ByteArray) (w : World) (hs : s.size ≤ 100000) (v n : Nat) (e : Int) (hrd : rd 0 0 s.data.toList = (v, n, e)) :
    Calls Try.prog 54 #[.string s] w fun r w' => r = .returned (.tuple #[.int .u64 (v : Int), .int .i64 (n : Int), .int .i64 e]) ∧ w = w' := by
  have HR := Lib.hid hrd
  clear hrd
  go_enter Try.func54, Try.ntmps54
  go_wp2_with fail
  go_loop [5, 6, 9] (fun form _ i => ∃ (k acc : Nat), k ≤ 9 ∧ k ≤ s.size ∧ acc < 128 ^ k ∧ i = .int .i64 k ∧ form = .int .u64 (acc : Nat) ∧ rd k acc (s.data.toList.drop k) = (v, n, e)) (fun _ _ i => s.size - (intOf i).toNat)
  case atStart => exact ⟨0, 0, by omega, by omega, by decide, rfl, rfl, HR.out⟩
  case round =>
    obtain ⟨k, acc, hk9, hks, hacc, rfl, rfl, hr⟩ := hrel
    by_cases hlt : k < s.size
    · have hc := (s[k]).toNat_lt
      rw [drop_cons s k hlt] at hr
      by_cases hbad : (0 < k ∧ s[k].toNat = 0) ∨ (k = 9 ∧ 1 < s[k].toNat)
      · rw [rd_bad _ _ _ _ hbad] at hr
        have H := Lib.hid (rd_out hr)
        clear hr hacc
        by_cases hz : s[k].toNat = 0
        · have h0 : 0 < k := by omega
          clear hbad
          go_wp2_with fail
          exact bodyPost_ret (v := .tuple #[.int .u64 0, .int .i64 0, .int .i64 4]) (by simp [results, Try.results54, go_sem]) rfl ⟨tup3 H.out.1 H.out.2.1 H.out.2.2, rfl⟩
        · have h9 : k = 9 := by omega
          subst h9
          have h1 : 1 < s[9].toNat := by omega
          clear hbad
          go_wp2_with fail
          exact bodyPost_ret (v := .tuple #[.int .u64 0, .int .i64 0, .int .i64 4]) (by simp [results, Try.results54, go_sem]) rfl ⟨tup3 H.out.1 H.out.2.1 H.out.2.2, rfl⟩
      · by_cases hl : s[k].toNat < 128
        · rw [rd_last _ _ _ _ hbad hl] at hr
          have H := Lib.hid (rd_out hr)
          have hB := u8_and128_lo _ hl
          have hM := Lib.hid (u8_and127 _ (by omega : s[k].toNat < 256))
          have hJ := Lib.hid (join_form acc k s[k].toNat hk9 hacc hl (by omega))
          have hm : s[k].toNat % 128 = s[k].toNat := by omega
          have HM := Lib.hid hm
          clear hr hacc hm
          by_cases h9 : k = 9
          · subst h9
            have h1 : s[9].toNat ≤ 1 := by omega
            have hz : ((s[9].toNat : Int) == 0) = false := by simp; omega
            have hJ9 := hJ.out
            rw [show (2 : Int) ^ (7 * 9) = 9223372036854775808 from rfl] at hJ9
            have HJ := Lib.hid hJ9
            clear hbad hJ9 hJ
            go_wp2_with fail
            exact bodyPost_ret (v := .tuple #[.int .u64 (bits BinOp.or IntKind.u64 (acc : Int) (IntKind.u64.wrap (IntKind.u64.wrap (bits BinOp.and IntKind.u8 (s[9].toNat : Int) 127) * 9223372036854775808))), .int .i64 10, .int .i64 0]) (by simp [results, Try.results54, go_sem]) rfl ⟨tup3 (by rw [← H.out.1, ← HJ.out, hM.out, HM.out]) (by have := H.out.2.1; omega) H.out.2.2, rfl⟩
          · by_cases h0 : 0 < k
            · have hz : ¬ s[k].toNat = 0 := by omega
              clear hbad
              go_wp2_with fail
              exact bodyPost_ret (v := .tuple #[.int .u64 (bits BinOp.or IntKind.u64 (acc : Int) (IntKind.u64.wrap (IntKind.u64.wrap (bits BinOp.and IntKind.u8 (s[k].toNat : Int) 127) * 2 ^ (7 * k)))), .int .i64 ((k : Int) + 1), .int .i64 0]) (by simp [results, Try.results54, go_sem]) rfl ⟨tup3 (by rw [← H.out.1, ← hJ.out, hM.out, HM.out]) (by have := H.out.2.1; omega) H.out.2.2, rfl⟩
            · clear hbad
              go_wp2_with fail
              exact bodyPost_ret (v := .tuple #[.int .u64 (bits BinOp.or IntKind.u64 (acc : Int) (IntKind.u64.wrap (IntKind.u64.wrap (bits BinOp.and IntKind.u8 (s[k].toNat : Int) 127) * 2 ^ (7 * k)))), .int .i64 ((k : Int) + 1), .int .i64 0]) (by simp [results, Try.results54, go_sem]) rfl ⟨tup3 (by rw [← H.out.1, ← hJ.out, hM.out, HM.out]) (by have := H.out.2.1; omega) H.out.2.2, rfl⟩
        · have h9 : ¬ k = 9 := by omega
          rw [rd_more _ _ _ _ (by omega) hl] at hr
          have H := Lib.hid hr
          have hB := u8_and128_hi _ hl (by omega)
          have hM := Lib.hid (u8_and127 _ (by omega : s[k].toNat < 256))
          have hJ := Lib.hid (join_form acc k (s[k].toNat % 128) hk9 hacc (by omega) (by omega))
          have hacc2 : acc + s[k].toNat % 128 * 128 ^ k < 128 ^ (k + 1) := by
            have : s[k].toNat % 128 * 128 ^ k ≤ 127 * 128 ^ k := Nat.mul_le_mul_right _ (by omega)
            rw [p128]; omega
          have HA := Lib.hid hacc2
          have hz : ¬ s[k].toNat = 0 := by omega
          clear hr hacc hacc2 hbad
          by_cases h0 : 0 < k
          all_goals
            go_wp2_with fail
            go_round
            case rel => exact ⟨k + 1, acc + s[k].toNat % 128 * 128 ^ k, by omega, by omega, HA.out, by go_num, val_int (by rw [← hJ.out, hM.out]), H.out⟩
            case measure => simp [intOf]; omega
    · have hr2 : rd k acc [] = (v, n, e) := by
        rw [List.drop_of_length_le (by simp; omega)] at hr; exact hr
      rw [rd_nil] at hr2
      have H := Lib.hid (rd_out hr2)
      clear hr hr2 hacc
      go_wp2_with fail
      exact bodyPost_ret (v := .tuple #[.int .u64 0, .int .i64 0, .int .i64 5]) (by simp [results, Try.results54, go_sem]) rfl ⟨tup3 H.out.1 H.out.2.1 H.out.2.2, rfl⟩
end Go.Proofs.Yticlcjabhemdiaa.Wire
