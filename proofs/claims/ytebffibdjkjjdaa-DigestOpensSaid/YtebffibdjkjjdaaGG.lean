/- The laws DigestChecks, DigestSeals, DigestExtends and DigestReturns, walked. -/
import Derived.Test.YtebffibdjkjjdaaGF
set_option linter.unusedVariables false
namespace Go.Proofs.Ytebffibdjkjjdaa
open Go.RowKit

set_option maxHeartbeats 1000000 in
theorem law_checks (s : ByteArray) (w : World) (hm : s.size ≤ 9223372036854775807) : Calls Try.prog 3 #[.string s] w (OutT w) := by
  by_cases h : s.size ≤ 2000
  · go_enter Try.func3, Try.ntmps3
    go_wp2_with fail
    refine (crc16_any _ _ (by omega)).mono ?_
    rintro e w1 ⟨rfl, rfl⟩
    go_wp2_with fail
    refine (rcrc16_any _ _ (by omega)).mono ?_
    rintro e w1 ⟨rfl, rfl⟩
    go_wp2_with fail
    refine (crc32_any _ _ (by omega)).mono ?_
    rintro e w1 ⟨rfl, rfl⟩
    go_wp2_with fail
    refine (rcrc32_any _ _ (by omega)).mono ?_
    rintro e w1 ⟨rfl, rfl⟩
    go_wp2_with fail
    refine (fnv_any _ _ (by omega)).mono ?_
    rintro e w1 ⟨rfl, rfl⟩
    go_wp2_with fail
    refine (rfnv_any _ _ (by omega)).mono ?_
    rintro e w1 ⟨rfl, rfl⟩
    go_wp2_with fail
    refine (awake_any _).mono ?_
    rintro e w1 ⟨rfl, hb⟩
    go_wp2_with fail
    go_ret
    exact ⟨rfl, hb⟩
  · go_enter Try.func3, Try.ntmps3
    go_wp2_with fail
    refine (awake_any _).mono ?_
    rintro e w1 ⟨rfl, hb⟩
    go_wp2_with fail
    go_ret
    exact ⟨rfl, hb⟩

set_option maxHeartbeats 1000000 in
theorem law_seals (k : Nat) (s : ByteArray) (w : World) (hk : k < 18446744073709551616) (hm : s.size ≤ 9223372036854775807) : Calls Try.prog 4 #[.int .u64 (k : Int), .string s] w (OutT w) := by
  by_cases h : s.size ≤ 2000
  · go_enter Try.func4, Try.ntmps4
    go_wp2_with fail
    refine (mac_any k _ _ hk (by omega)).mono ?_
    rintro e w1 ⟨rfl, hb⟩
    have B1 := Lib.hid hb
    have hz1 := hb.size
    clear hb
    go_wp2_with fail
    refine (rmac_any k _ _ hk (by omega)).mono ?_
    rintro e w2 ⟨rfl, hb⟩
    have B2 := Lib.hid (B1.out.trans (hb.mono hz1))
    have hz2 : w.heap.size ≤ w2.heap.size := Nat.le_trans hz1 hb.size
    clear hb
    go_wp2_with fail
    refine (seal_any k _ _ hk (by omega)).mono ?_
    rintro e w3 ⟨rfl, hb⟩
    have B3 := Lib.hid (B2.out.trans (hb.mono hz2))
    have hz3 : w.heap.size ≤ w3.heap.size := Nat.le_trans hz2 hb.size
    clear hb
    go_wp2_with fail
    refine (rseal_any k _ _ hk (by omega)).mono ?_
    rintro e w4 ⟨rfl, hb⟩
    have B4 := Lib.hid (B3.out.trans (hb.mono hz3))
    have hz4 : w.heap.size ≤ w4.heap.size := Nat.le_trans hz3 hb.size
    clear hb
    go_wp2_with fail
    refine (awake_any _).mono ?_
    rintro e w5 ⟨rfl, hb⟩
    have B5 := Lib.hid (B4.out.trans (hb.mono hz4))
    clear hb
    go_wp2_with fail
    go_ret
    exact ⟨rfl, B5.out⟩
  · go_enter Try.func4, Try.ntmps4
    go_wp2_with fail
    refine (awake_any _).mono ?_
    rintro e w1 ⟨rfl, hb⟩
    go_wp2_with fail
    go_ret
    exact ⟨rfl, hb⟩

theorem fnv_one (l : List UInt8) (c : UInt8) : fnv (l ++ [c]) = hs1 (fnv l) c := by unfold fnv; rw [hsh_append, hsh_cons, hsh_nil]
theorem fnv_none : fnv [] = 14695981039346656037 := by rw [fnv, hsh_nil]

end Go.Proofs.Ytebffibdjkjjdaa
