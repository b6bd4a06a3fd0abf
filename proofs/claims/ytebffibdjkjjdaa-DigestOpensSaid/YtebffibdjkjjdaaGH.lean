/- The law DigestExtends, walked. -/
import Derived.Test.YtebffibdjkjjdaaGG
set_option linter.unusedVariables false
namespace Go.Proofs.Ytebffibdjkjjdaa
open Go.RowKit

set_option maxHeartbeats 1000000 in
theorem law_extends (s : ByteArray) (c : UInt8) (w : World) (hm : s.size ≤ 9223372036854775807) : Calls Try.prog 9 #[.string s, .int .u8 (c.toNat : Int)] w (OutT w) := by
  have hc := c.toNat_lt
  by_cases h : s.size ≤ 2000
  · have hcv := conv_one w c (c.toNat : Int) rfl
    have HD := Lib.hid (show (s ++ bs [c]).data.toList = s.data.toList ++ [c] by rw [app_data, bs_data])
    have HF := Lib.hid (fnv_one s.data.toList c)
    have HI := Lib.hid (hs1_int (fnv s.data.toList) c (fnv_lt _))
    have hl : (bs [c]).size ≤ 1 := by rw [bs_size]; simp
    go_enter Try.func9, Try.ntmps9
    go_wp2_with fail
    refine (fnv_any _ _ (by rw [ByteArray.size_append]; omega)).mono ?_
    rintro e w1 ⟨rfl, rfl⟩
    have e := HD.out
    rw [e, HF.out]
    clear e
    have hI := HI.out
    go_wp2_with fail
    refine (fnv_any _ _ (by omega)).mono ?_
    rintro e w1 ⟨rfl, rfl⟩
    go_wp2_with fail
    refine (fnv_any _ _ (by decide)).mono ?_
    rintro e w1 ⟨rfl, rfl⟩
    (try rw [show (ByteArray.empty).data.toList = [] from rfl])
    (try rw [show (⟨#[]⟩ : ByteArray).data.toList = [] from rfl])
    rw [fnv_none]
    go_wp2_with fail
    refine (awake_any _).mono ?_
    rintro e w2 ⟨rfl, hb⟩
    have B := Lib.hid (((Below.refl w.heap.size w).alloc (Nat.le_refl _) _).trans (hb.mono (by show w.heap.size ≤ (w.heap.push _).size; simp)))
    clear hb
    go_wp2_with fail
    go_ret
    exact ⟨rfl, B.out⟩
  · go_enter Try.func9, Try.ntmps9
    go_wp2_with fail
    refine (awake_any _).mono ?_
    rintro e w1 ⟨rfl, hb⟩
    go_wp2_with fail
    go_ret
    exact ⟨rfl, hb⟩
end Go.Proofs.Ytebffibdjkjjdaa
