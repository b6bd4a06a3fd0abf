/- The walks of the laws WireNone, WirePuts, WirePrefix. -/
import Derived.Test.YtfpkpgfdmidjfaaWK
set_option linter.unusedVariables false
namespace Go.Proofs.Ytfpkpgfdmidjfaa
open Go.RowKit

theorem str_beq (a b : ByteArray) : (a.toList == b.toList) = decide (a = b) := by
  rw [Lib.toList_data, Lib.toList_data]
  by_cases h : a = b
  · rw [h]; simp
  · rw [decide_eq_false h, beq_eq_false_iff_ne]
    intro e; exact h (of_data e)

set_option maxRecDepth 100000 in
set_option maxHeartbeats 1000000 in
theorem law_none (m e : Int) (w : World) :
    Calls Try.prog 9 #[.int .i64 m, .int .i64 e] w fun r w' => r = .returned (.bool true) ∧ Below w.heap.size w w' := by
  go_enter Try.func9, Try.ntmps9
  go_wp2_with fail
  obtain ⟨W, hW⟩ : ∃ W, W = ((w.alloc (Obj.cells #[Value.string { data := #[] }, Value.int IntKind.i64 0, Value.bool false] 54)).alloc
      (Obj.cells #[Value.pointer none, Value.pointer (some { block := w.heap.size, off := 0 })] 55)) := ⟨_, rfl⟩
  have hp : PB W w.heap.size ByteArray.empty 0 false := by
    rw [hW]
    exact (Below.heap_alloc _ _ _ (by simp)).trans (heap_alloc_new w _)
  have hc0 : W.cell? ⟨w.heap.size + 1, 0, none⟩ = some (.pointer none) := by
    rw [hW]
    simp
  have hc1 : W.cell? ⟨w.heap.size + 1, 1, none⟩ = some (.pointer (some ⟨w.heap.size, 0, none⟩)) := by
    rw [hW]
    simp
  have hb : Below w.heap.size w W := by
    rw [hW]
    exact ((Below.refl _ _).alloc (Nat.le_refl _) _).alloc (by simp) _
  have B := Lib.hid hb
  have D0 := Lib.hid (dead_mk (p := .pointer none) (k := 15) (by omega) (err_nil W))
  have D1 := Lib.hid (dead_mk (p := pt w.heap.size) (k := 15) (by omega) (err_zero _ _ _ W hp))
  rw [← hW]
  clear hW hp hb
  go_loop [7, 8] (fun i _ => ∃ k : Nat, k ≤ 2 ∧ i = .int .i64 k) (fun i _ => 2 - (intOf i).toNat)
  case atStart => exact ⟨0, by omega, rfl⟩
  case round =>
    obtain ⟨k, hk, rfl⟩ := hrel
    have hk' : k = 0 ∨ k = 1 ∨ k = 2 := by omega
    rcases hk' with rfl | rfl | rfl
    rotate_left 2
    · go_wp2_with fail
      refine (awake_any _).mono ?_
      rintro r w' ⟨rfl, hb⟩
      go_wp2_with fail
      go_ret
      exact ⟨rfl, B.out.trans (hb.mono B.out.size)⟩
    · have HD := D0
      clear D0 D1
      go_wp2_with fail
      refine (dead_fail _ _ 15 _ HD.out).mono ?_
      rintro r w' ⟨rfl, rfl⟩
      go_wp2_with fail
      refine (dead_int _ _ 15 HD.out).mono ?_
      rintro r w' ⟨rfl, rfl⟩
      go_wp2_with fail
      refine (dead_text _ _ 15 _ HD.out).mono ?_
      rintro r w' ⟨rfl, rfl⟩
      go_wp2_with fail
      refine (dead_bool _ _ 15 HD.out).mono ?_
      rintro r w' ⟨rfl, rfl⟩
      go_wp2_with fail
      refine (dead_count _ _ 15 _ HD.out).mono ?_
      rintro r w' ⟨rfl, rfl⟩
      go_wp2_with fail
      refine (dead_ints _ _ 15 _ HD.out).mono ?_
      rintro r w' ⟨rfl, rfl⟩
      go_wp2_with fail
      refine (dead_left _ _ 15 HD.out).mono ?_
      rintro r w' ⟨rfl, rfl⟩
      go_wp2_with fail
      refine HD.out.2.2.mono ?_
      rintro r w' ⟨rfl, rfl⟩
      go_wp2_with fail
      refine (dead_end _ _ 15 HD.out).mono ?_
      rintro r w' ⟨rfl, rfl⟩
      go_wp2_with fail
      go_round
      case rel => exact ⟨1, by omega, rfl⟩
      case measure => simp [intOf]
    · have HD := D1
      clear D0 D1
      go_wp2_with fail
      refine (dead_fail _ _ 15 _ HD.out).mono ?_
      rintro r w' ⟨rfl, rfl⟩
      go_wp2_with fail
      refine (dead_int _ _ 15 HD.out).mono ?_
      rintro r w' ⟨rfl, rfl⟩
      go_wp2_with fail
      refine (dead_text _ _ 15 _ HD.out).mono ?_
      rintro r w' ⟨rfl, rfl⟩
      go_wp2_with fail
      refine (dead_bool _ _ 15 HD.out).mono ?_
      rintro r w' ⟨rfl, rfl⟩
      go_wp2_with fail
      refine (dead_count _ _ 15 _ HD.out).mono ?_
      rintro r w' ⟨rfl, rfl⟩
      go_wp2_with fail
      refine (dead_ints _ _ 15 _ HD.out).mono ?_
      rintro r w' ⟨rfl, rfl⟩
      go_wp2_with fail
      refine (dead_left _ _ 15 HD.out).mono ?_
      rintro r w' ⟨rfl, rfl⟩
      go_wp2_with fail
      refine HD.out.2.2.mono ?_
      rintro r w' ⟨rfl, rfl⟩
      go_wp2_with fail
      refine (dead_end _ _ 15 HD.out).mono ?_
      rintro r w' ⟨rfl, rfl⟩
      go_wp2_with fail
      go_round
      case rel => exact ⟨2, by omega, rfl⟩
      case measure => simp [intOf]

set_option maxHeartbeats 1000000 in
theorem law_puts (n : Int) (s : ByteArray) (A : Option Addr) (c : Nat) (l : List Int) (w : World) (hn : I64 n) (hs : s.size ≤ 9223372036854775807) (hl : l.length ≤ 9223372036854775807) (h64 : ∀ n ∈ l, I64 n) (hr : IntsAt w w.heap.size A l) :
    Calls Try.prog 3 #[.int .i64 n, .string s, .slice A l.length c] w fun r w' => r = .returned (.bool true) ∧ Below w.heap.size w w' := by
  have HR := Lib.hid hr
  have H64 := Lib.hid h64
  have HN := Lib.hid hn
  clear hr h64 hn
  by_cases h1 : 500 < s.size
  · go_enter Try.func3, Try.ntmps3
    go_wp2_with fail
    refine (awake_any _).mono ?_
    rintro r w' ⟨rfl, hb⟩
    go_wp2_with fail
    go_ret
    exact ⟨rfl, hb⟩
  · by_cases h2 : 100 < l.length
    · go_enter Try.func3, Try.ntmps3
      go_wp2_with fail
      refine (awake_any _).mono ?_
      rintro r w' ⟨rfl, hb⟩
      go_wp2_with fail
      go_ret
      exact ⟨rfl, hb⟩
    · go_enter Try.func3, Try.ntmps3
      go_wp2_with fail
      refine (int_any n _ HN.out).mono ?_
      rintro r w1 ⟨rfl, b1⟩
      have B1 := Lib.hid b1
      have z1 := b1.size
      clear b1
      go_wp2_with fail
      refine (rint_any n _ HN.out).mono ?_
      rintro r w2 ⟨rfl, b2⟩
      have B2 := Lib.hid (B1.out.trans (b2.mono z1))
      have z2 := B2.out.size
      clear b2 z1 B1
      go_wp2_with fail
      refine (text_any s _ (by omega)).mono ?_
      rintro r w3 ⟨rfl, b3⟩
      have B3 := Lib.hid (B2.out.trans (b3.mono z2))
      have z3 := B3.out.size
      clear b3 z2 B2
      go_wp2_with fail
      refine (rtext_any s _ (by omega)).mono ?_
      rintro r w4 ⟨rfl, b4⟩
      have B4 := Lib.hid (B3.out.trans (b4.mono z3))
      have z4 := B4.out.size
      clear b4 z3 B3
      go_wp2_with fail
      refine (ints_any A c l _ (by omega) H64.out ((HR.out.below B4.out).more z4)).mono ?_
      rintro r w5 ⟨rfl, b5⟩
      have B5 := Lib.hid (B4.out.trans (b5.mono z4))
      have z5 := B5.out.size
      clear b5 z4 B4
      go_wp2_with fail
      refine (rints_any A c l _ (by omega) H64.out ((HR.out.below B5.out).more z5)).mono ?_
      rintro r w6 ⟨rfl, b6⟩
      have B6 := Lib.hid (B5.out.trans (b6.mono z5))
      have z6 := B6.out.size
      clear b6 z5 B5
      go_wp2_with fail
      refine (bool_any true _).mono ?_
      rintro r w' ⟨rfl, rfl⟩
      go_wp2_with fail
      refine (rbool_any true _).mono ?_
      rintro r w' ⟨rfl, rfl⟩
      go_wp2_with fail
      refine (bool_any false _).mono ?_
      rintro r w' ⟨rfl, rfl⟩
      go_wp2_with fail
      refine (rbool_any false _).mono ?_
      rintro r w' ⟨rfl, rfl⟩
      go_wp2_with fail
      refine (awake_any _).mono ?_
      rintro r w7 ⟨rfl, b7⟩
      have B7 := Lib.hid (B6.out.trans (b7.mono z6))
      clear b7 z6 B6
      go_wp2_with fail
      go_ret
      exact ⟨rfl, B7.out⟩

theorem enI_rd (n : Int) (hn : I64 n) (t : List UInt8) : rd 0 0 (enI n ++ t) = (zig n, (enI n).length, 0) := by
  have h := rd_en 10 0 (zig n) 0 t rfl (by have := zig_lt n hn; omega) (fun h => absurd h (by omega))
  rw [show (10 : Nat) = 10 from rfl] at h
  unfold enI
  rw [h]; simp
theorem enI_inj (n m : Int) (hn : I64 n) (hm : I64 m) (t u : List UInt8) (h : enI n ++ t = enI m ++ u) : n = m ∧ t = u := by
  have h1 := enI_rd n hn t
  rw [h, enI_rd m hm u] at h1
  have h2 : zig m = zig n := congrArg (·.1) h1
  have h3 : m = n := by rw [← unzig_zig m, ← unzig_zig n, h2]
  subst h3
  exact ⟨rfl, List.append_cancel_left h⟩
theorem no_prefix_int (n m : Int) (hn : I64 n) (hm : I64 m) (h : n ≠ m) : strt (bs (enI n)) (bs (enI m)) = false := by
  unfold strt
  rw [decide_eq_false]
  rw [bs_data, bs_data]
  rintro ⟨t, e⟩
  exact h (enI_inj m n hm hn t [] (by rw [e, List.append_nil])).1.symm
theorem no_prefix_text (s t : ByteArray) (hs : s.size ≤ 1000) (ht : t.size ≤ 1000) (h : s ≠ t) : strt (bs (enT s)) (bs (enT t)) = false := by
  unfold strt
  rw [decide_eq_false]
  rw [bs_data, bs_data]
  rintro ⟨u, e⟩
  unfold enT at e
  rw [List.append_assoc] at e
  obtain ⟨h1, h2⟩ := enI_inj _ _ (nat_i64 _ (by omega)) (nat_i64 _ (by omega)) _ _ e
  have h3 : t.size = s.size := by omega
  have h4 := congrArg List.length h2
  rw [List.length_append, toNat_bytes, toNat_bytes] at h4
  have h5 : u = [] := List.eq_nil_of_length_eq_zero (by omega)
  rw [h5, List.append_nil] at h2
  exact h (of_data h2.symm)

set_option maxHeartbeats 1000000 in
theorem law_prefix (n m : Int) (s t : ByteArray) (w : World) (hn : I64 n) (hm : I64 m) (hs : s.size ≤ 9223372036854775807) (ht : t.size ≤ 9223372036854775807) :
    Calls Try.prog 7 #[.int .i64 n, .int .i64 m, .string s, .string t] w fun r w' => r = .returned (.bool true) ∧ Below w.heap.size w w' := by
  have HN := Lib.hid hn
  have HM := Lib.hid hm
  clear hn hm
  by_cases h1 : 200 < s.size
  · go_enter Try.func7, Try.ntmps7
    go_wp2_with fail
    refine (awake_any _).mono ?_
    rintro r w' ⟨rfl, hb⟩
    go_wp2_with fail
    go_ret
    exact ⟨rfl, hb⟩
  by_cases h2 : 200 < t.size
  · go_enter Try.func7, Try.ntmps7
    go_wp2_with fail
    refine (awake_any _).mono ?_
    rintro r w' ⟨rfl, hb⟩
    go_wp2_with fail
    go_ret
    exact ⟨rfl, hb⟩
  have hz1 : (bs (enI n)).size ≤ 100000 := by rw [bs_size]; have := enI_length n; omega
  have hz2 : (bs (enI m)).size ≤ 100000 := by rw [bs_size]; have := enI_length m; omega
  have hz3 : (bs (enT s)).size ≤ 100000 := by rw [bs_size]; have := enT_length s; omega
  have hz4 : (bs (enT t)).size ≤ 100000 := by rw [bs_size]; have := enT_length t; omega
  by_cases e1 : n = m
  · subst e1
    by_cases e2 : s = t
    · subst e2
      go_enter Try.func7, Try.ntmps7
      go_wp2_with fail
      refine (awake_any _).mono ?_
      rintro r w' ⟨rfl, hb⟩
      go_wp2_with fail
      go_ret
      exact ⟨rfl, hb⟩
    · have hq : (s.toList == t.toList) = false := by rw [str_beq, decide_eq_false e2]
      have X := Lib.hid (no_prefix_text s t (by omega) (by omega) e2)
      clear e2
      go_enter Try.func7, Try.ntmps7
      go_wp2_with fail
      refine (text_any s _ (by omega)).mono ?_
      rintro r w1 ⟨rfl, b1⟩
      have B1 := Lib.hid b1
      have z1 := b1.size
      clear b1
      go_wp2_with fail
      refine (text_any t _ (by omega)).mono ?_
      rintro r w2 ⟨rfl, b2⟩
      have B2 := Lib.hid (B1.out.trans (b2.mono z1))
      have z2 := B2.out.size
      clear b2 z1 B1
      go_wp2_with fail
      refine (starts_any _ _ _ hz3 hz4).mono ?_
      rw [X.out]
      rintro r w' ⟨rfl, rfl⟩
      go_wp2_with fail
      refine (awake_any _).mono ?_
      rintro r w3 ⟨rfl, b3⟩
      go_wp2_with fail
      go_ret
      exact ⟨rfl, B2.out.trans (b3.mono z2)⟩
  · have hne : (n == m) = false := by simpa using e1
    have Y := Lib.hid (no_prefix_int n m HN.out HM.out e1)
    clear e1
    by_cases e2 : s = t
    · subst e2
      go_enter Try.func7, Try.ntmps7
      go_wp2_with fail
      refine (int_any n _ HN.out).mono ?_
      rintro r w1 ⟨rfl, b1⟩
      have B1 := Lib.hid b1
      have z1 := b1.size
      clear b1
      go_wp2_with fail
      refine (int_any m _ HM.out).mono ?_
      rintro r w2 ⟨rfl, b2⟩
      have B2 := Lib.hid (B1.out.trans (b2.mono z1))
      have z2 := B2.out.size
      clear b2 z1 B1
      go_wp2_with fail
      refine (starts_any _ _ _ hz1 hz2).mono ?_
      rw [Y.out]
      rintro r w' ⟨rfl, rfl⟩
      go_wp2_with fail
      refine (awake_any _).mono ?_
      rintro r w3 ⟨rfl, b3⟩
      go_wp2_with fail
      go_ret
      exact ⟨rfl, B2.out.trans (b3.mono z2)⟩
    · have hq : (s.toList == t.toList) = false := by rw [str_beq, decide_eq_false e2]
      have X := Lib.hid (no_prefix_text s t (by omega) (by omega) e2)
      clear e2
      go_enter Try.func7, Try.ntmps7
      go_wp2_with fail
      refine (int_any n _ HN.out).mono ?_
      rintro r w1 ⟨rfl, b1⟩
      have B1 := Lib.hid b1
      have z1 := b1.size
      clear b1
      go_wp2_with fail
      refine (int_any m _ HM.out).mono ?_
      rintro r w2 ⟨rfl, b2⟩
      have B2 := Lib.hid (B1.out.trans (b2.mono z1))
      have z2 := B2.out.size
      clear b2 z1 B1
      go_wp2_with fail
      refine (starts_any _ _ _ hz1 hz2).mono ?_
      rw [Y.out]
      rintro r w' ⟨rfl, rfl⟩
      go_wp2_with fail
      refine (text_any s _ (by omega)).mono ?_
      rintro r w3 ⟨rfl, b3⟩
      have B3 := Lib.hid (B2.out.trans (b3.mono z2))
      have z3 := B3.out.size
      clear b3 z2 B2
      go_wp2_with fail
      refine (text_any t _ (by omega)).mono ?_
      rintro r w4 ⟨rfl, b4⟩
      have B4 := Lib.hid (B3.out.trans (b4.mono z3))
      have z4 := B4.out.size
      clear b4 z3 B3
      go_wp2_with fail
      refine (starts_any _ _ _ hz3 hz4).mono ?_
      rw [X.out]
      rintro r w' ⟨rfl, rfl⟩
      go_wp2_with fail
      refine (awake_any _).mono ?_
      rintro r w5 ⟨rfl, b5⟩
      go_wp2_with fail
      go_ret
      exact ⟨rfl, B4.out.trans (b5.mono z4)⟩
end Go.Proofs.Ytfpkpgfdmidjfaa
