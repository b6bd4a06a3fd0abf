/- The law DigestReturns, walked. -/
import Derived.Test.YtebffibdjkjjdaaGI
set_option linter.unusedVariables false
namespace Go.Proofs.Ytebffibdjkjjdaa
open Go.RowKit

theorem four_lit (w : World) (x : Nat) (hx : x < 4294967296) :
    (convert 33 9 (.slice (some ⟨w.heap.size, 0, none⟩) 4 4)).run Try.prog (w.alloc (Obj.cells #[.int .u8 ((x : Int) / 16777216), .int .u8 ((x : Int) / 65536 % 256), .int .u8 ((x : Int) / 256 % 256), .int .u8 ((x : Int) % 256)] 5)) = .ok (.string (bs (nb 4 x))) (w.alloc (Obj.cells #[.int .u8 ((x : Int) / 16777216), .int .u8 ((x : Int) / 65536 % 256), .int .u8 ((x : Int) / 256 % 256), .int .u8 ((x : Int) % 256)] 5)) := by
  have b0 := byte_int 4 x 0
  have b1 := byte_int 4 x 1
  have b2 := byte_int 4 x 2
  have b3 := byte_int 4 x 3
  simp at b0 b1 b2 b3
  have hcv := conv_four w (byteAt 4 x 0) (byteAt 4 x 1) (byteAt 4 x 2) (byteAt 4 x 3) ((x : Int) / 16777216) ((x : Int) / 65536 % 256) ((x : Int) / 256 % 256) ((x : Int) % 256) (by omega) (by omega) (by omega) (by omega)
  rw [← nb4] at hcv
  exact hcv
theorem bs_eqb (l m : List UInt8) (b : Bool) (h : decide (l = m) = b) : ((bs l).toList == (bs m).toList) = b := by
  subst h
  rw [Lib.toList_data, Lib.toList_data, bs_data, bs_data]
  exact Bool.eq_iff_iff.2 (by simp)
theorem opn_other (k x : Nat) (l : List UInt8) (h : ¬ nb 4 x = nb 4 (mac k l)) : opn k (l ++ nb 4 x) = ([], 6) := by
  have hl : (l ++ nb 4 x).length = l.length + 4 := by rw [List.length_append, nb_length]
  have e : (l ++ nb 4 x).length - 4 = l.length := by omega
  refine opn_bad k _ (by omega) ?_
  rw [e]
  simpa using h
theorem seald_front (k : Nat) (s : ByteArray) : (((bs (seald k s.data.toList)).extract 0 s.size).toList == s.toList) = true := by
  rw [ext_take, bs_data, Lib.toList_data, Lib.toList_data, bs_data]
  unfold seald
  rw [← toNat_bytes s, List.take_left]
  simp
theorem str_four (s : ByteArray) (x : Nat) : s ++ bs (nb 4 x) = bs (s.data.toList ++ nb 4 x) := by
  apply of_data; rw [app_data, bs_data, bs_data]

set_option maxRecDepth 100000 in
set_option maxHeartbeats 2000000 in
theorem law_returns (k : Nat) (s : ByteArray) (x : Nat) (w : World) (hk : k < 18446744073709551616) (hx : x < 4294967296) (hm : s.size ≤ 9223372036854775807) :
    Calls Try.prog 6 #[.int .u64 (k : Int), .string s, .int .u32 (x : Int)] w (OutT w) := by
  by_cases h : s.size ≤ 2000
  · have hsz : (bs (seald k s.data.toList)).size = s.size + 4 := by rw [bs_size, seald_length, toNat_bytes]
    have hsb : (bs (seald k s.data.toList)).size ≤ 50000 := by omega
    have hfr := seald_front k s
    have OS := Lib.hid (opn_seald k s.data.toList)
    have BSELF := Lib.hid (bs_self s)
    have S4 := Lib.hid (str_four s x)
    have hl4 : (bs (nb 4 x)).size ≤ 4 := by rw [bs_size, nb_length]; omega
    have hlo : (bs (s.data.toList ++ nb 4 x)).size ≤ 50000 := by rw [bs_size, List.length_append, nb_length, toNat_bytes]; omega
    have hlo2 : (s ++ bs (nb 4 x)).size ≤ 50000 := by rw [S4.out]; exact hlo
    have HD := Lib.hid (show (s ++ bs (nb 4 x)).data.toList = s.data.toList ++ nb 4 x by rw [app_data, bs_data])
    have hnil : (bs []).toList = [] := by rw [Lib.toList_data, bs_data]
    clear hlo
    by_cases hq : nb 4 x = nb 4 (mac k s.data.toList)
    · have hE := bs_eqb (s.data.toList ++ nb 4 x) (seald k s.data.toList) true (decide_eq_true (by unfold seald; rw [hq]))
      rw [← S4.out] at hE
      clear hq
      go_enter Try.func6, Try.ntmps6
      go_wp2_with fail
      refine (seal_any k _ _ hk (by omega)).mono ?_
      rintro e w1 ⟨rfl, hb⟩
      have B1 := Lib.hid hb
      have hz1 := hb.size
      clear hb
      go_wp2_with fail
      refine (open_any k _ _ hk hsb).mono ?_
      rintro e w2 ⟨rfl, hb⟩
      have B2 := Lib.hid (B1.out.trans (hb.mono hz1))
      have hz2 : w.heap.size ≤ w2.heap.size := Nat.le_trans hz1 hb.size
      clear hb
      rw [bs_data, OS.out]
      (try dsimp only)
      rw [BSELF.out]
      have hcv := four_lit w2 x hx
      go_wp2_with fail
      refine (awake_any _).mono ?_
      rintro e w3 ⟨rfl, hb⟩
      have B3 := Lib.hid ((B2.out.alloc hz2 _).trans (hb.mono (by show w.heap.size ≤ (w2.heap.push _).size; simp; omega)))
      clear hb
      go_wp2_with fail
      go_ret
      exact ⟨rfl, B3.out⟩
    · have hE := bs_eqb (s.data.toList ++ nb 4 x) (seald k s.data.toList) false (decide_eq_false (by unfold seald; simpa using hq))
      rw [← S4.out] at hE
      have OO := Lib.hid (opn_other k x s.data.toList hq)
      clear hq
      go_enter Try.func6, Try.ntmps6
      go_wp2_with fail
      refine (seal_any k _ _ hk (by omega)).mono ?_
      rintro e w1 ⟨rfl, hb⟩
      have B1 := Lib.hid hb
      have hz1 := hb.size
      clear hb
      go_wp2_with fail
      refine (open_any k _ _ hk hsb).mono ?_
      rintro e w2 ⟨rfl, hb⟩
      have B2 := Lib.hid (B1.out.trans (hb.mono hz1))
      have hz2 : w.heap.size ≤ w2.heap.size := Nat.le_trans hz1 hb.size
      clear hb
      rw [bs_data, OS.out]
      (try dsimp only)
      rw [BSELF.out]
      have hcv := four_lit w2 x hx
      go_wp2_with fail
      refine (open_any k _ _ hk hlo2).mono ?_
      rintro e w3 ⟨rfl, hb⟩
      have hz3 : w.heap.size ≤ w3.heap.size := Nat.le_trans (by show w.heap.size ≤ (w2.heap.push _).size; simp; omega) hb.size
      have B3 := Lib.hid ((B2.out.alloc hz2 _).trans (hb.mono (by show w.heap.size ≤ (w2.heap.push _).size; simp; omega)))
      clear hb
      have e := HD.out
      rw [e, OO.out]
      clear e
      (try dsimp only)
      go_wp2_with fail
      refine (awake_any _).mono ?_
      rintro e w4 ⟨rfl, hb⟩
      have B4 := Lib.hid (B3.out.trans (hb.mono hz3))
      clear hb
      go_wp2_with fail
      go_ret
      exact ⟨rfl, B4.out⟩
  · go_enter Try.func6, Try.ntmps6
    go_wp2_with fail
    refine (awake_any _).mono ?_
    rintro e w1 ⟨rfl, hb⟩
    go_wp2_with fail
    go_ret
    exact ⟨rfl, hb⟩
theorem arg_returns (a : Int) (s : ByteArray) (b : Int) (w : World) (ha : (Lit.int .u64 a).wf = true) (hb : (Lit.int .u32 b).wf = true) (hm : s.size ≤ 9223372036854775807) : Calls Try.prog 6 #[.int .u64 a, .string s, .int .u32 b] w (OutT w) := by
  obtain ⟨k, rfl, hk⟩ := nat_u64 ha
  obtain ⟨x, rfl, hx⟩ := nat_u32 hb
  exact law_returns k s x w hk hx hm
end Go.Proofs.Ytebffibdjkjjdaa
