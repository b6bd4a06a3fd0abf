/- The walks of the laws on texts. -/
import Derived.Test.YtkgbmoiolgpmoaaWalkH
set_option linter.unusedVariables false
namespace Go.Proofs.Ytkgbmoiolgpmoaa
open Go.RowKit

/-- The number that Parse returns. -/
def numS (s : ByteArray) : Int := if okS s then valS s else 0
theorem nparse_two (s : ByteArray) (w : World) (hs : s.size ≤ 10000) :
    Calls Try.prog 29 #[.string s] w fun e w' => e = .returned (.tuple #[.int .i64 (numS s), .bool (okS s)]) ∧ Grown w w' := nparse_any s w hs
theorem rparse_two (s : ByteArray) (w : World) (hs : s.size ≤ 10000) :
    Calls Try.prog 30 #[.string s] w fun e w' => e = .returned (.tuple #[.int .i64 (numS s), .bool (okS s)]) ∧ Grown w w' := rparse_any s w hs

set_option maxHeartbeats 1000000 in
theorem law_texts (n : Int) (s : ByteArray) (w : World) (hn : I64 n) :
    Calls Try.prog 8 #[.int .i64 n, .string s] w fun e w' => e = .returned (.bool true) ∧ Grown w w' := by
  by_cases hs : 10000 < s.size
  · go_enter Try.func8, Try.ntmps8
    go_wp2_with fail
    refine (lives_any _).mono ?_
    rintro e w' ⟨rfl, hg⟩
    go_wp2_with fail
    go_ret
    exact ⟨rfl, hg⟩
  · have hs' : s.size ≤ 10000 := by omega
    clear hs
    go_enter Try.func8, Try.ntmps8
    go_wp2_with fail
    refine (nparse_two s _ hs').mono ?_
    rintro e w1 ⟨rfl, g1⟩
    go_wp2_with fail
    refine (rparse_two s _ hs').mono ?_
    rintro e w2 ⟨rfl, g2⟩
    go_wp2_with fail
    refine (ndig_any n _ hn).mono ?_
    rintro e w3 ⟨rfl, g3⟩
    go_wp2_with fail
    refine (rdig_any n _ hn).mono ?_
    rintro e w4 ⟨rfl, g4⟩
    go_wp2_with fail
    refine (lives_any _).mono ?_
    rintro e w5 ⟨rfl, g5⟩
    go_wp2_with fail
    go_ret
    exact ⟨rfl, grown_trans g1 (grown_trans g2 (grown_trans g3 (grown_trans g4 g5)))⟩

/-- The bytes of a list of numbers. -/
def byt (l : List Int) : List UInt8 := l.map fun n => UInt8.ofNat n.toNat
theorem byt_app (a b : List Int) : byt (a ++ b) = byt a ++ byt b := by unfold byt; rw [List.map_append]
theorem rdL_one (d : Nat) (h : d < 10) (l : List UInt8) : rdL (l ++ byt [(48 + d : Int)]) = 10 * rdL l + d := by
  have e : byt [(48 + d : Int)] = [UInt8.ofNat (48 + d)] := by
    show [UInt8.ofNat (48 + (d : Int)).toNat] = _
    rw [show (48 + (d : Int)).toNat = 48 + d by omega]
  rw [e, rdL_snoc, UInt8.toNat_ofNat']
  omega
theorem rdL_dec (f : Nat) : ∀ m, m < 10 ^ f → rdL (byt (dec f m)) = m := by
  induction f with
  | zero => intro m h; have : m = 0 := by simpa using h
            subst this; rfl
  | succ f ih =>
    intro m hm
    unfold dec
    by_cases h : m < 10
    · rw [if_pos h]
      have := rdL_one m h []
      simpa [rdL] using this
    · rw [if_neg h, byt_app, rdL_one (m % 10) (by omega), ih (m / 10) (by rw [Nat.div_lt_iff_lt_mul (by omega)]; rw [Nat.pow_succ] at hm; exact hm)]
      omega
theorem dec_head (f m : Nat) (h : 0 < f) : ∃ x l, dec f m = x :: l ∧ 48 ≤ x ∧ x ≤ 57 := by
  cases hd : dec f m with
  | nil =>
    exfalso
    obtain ⟨g, rfl⟩ : ∃ g, f = g + 1 := ⟨f - 1, by omega⟩
    unfold dec at hd
    split at hd <;> simp at hd
  | cons x l => exact ⟨x, l, rfl, dec_dig f m x (by rw [hd]; exact List.mem_cons_self)⟩
theorem valS_digS (n : Int) (hn : I64 n) : valS (digS n) = n := by
  unfold I64 at hn
  have hd : (digS n).data.toList = byt (digL n) := rfl
  unfold valS
  rw [hd]
  unfold digL
  by_cases h : n < 0
  · rw [if_pos h]
    have e : byt (45 :: decN n.natAbs) = 45 :: byt (decN n.natAbs) := rfl
    rw [e, if_pos (show (45 :: byt (decN n.natAbs)).head? = some 45 from rfl)]
    show -rdL (byt (dec 20 n.natAbs)) = n
    rw [rdL_dec 20 _ (by omega)]
    omega
  · rw [if_neg h]
    obtain ⟨x, l, hx, h1, h2⟩ := dec_head 20 n.natAbs (by omega)
    have hne : ¬ (byt (decN n.natAbs)).head? = some 45 := by
      unfold decN; rw [hx]
      intro e
      have e2 : UInt8.ofNat x.toNat = 45 := Option.some.inj e
      have e3 := congrArg UInt8.toNat e2
      rw [UInt8.toNat_ofNat'] at e3
      have e4 : (45 : UInt8).toNat = 45 := rfl
      omega
    rw [if_neg hne]
    show rdL (byt (dec 20 n.natAbs)) = n
    rw [rdL_dec 20 _ (by omega)]
    omega
theorem dec_len2 (f : Nat) : ∀ (m k : Nat), m < 10 ^ (k + 1) → (dec f m).length ≤ k + 1 := by
  induction f with
  | zero => intro m k _; simp [dec]
  | succ f ih =>
    intro m k hm
    unfold dec
    by_cases h : m < 10
    · rw [if_pos h]; simp
    · rw [if_neg h]
      cases k with
      | zero => simp at hm; omega
      | succ k =>
        have := ih (m / 10) k (by rw [Nat.div_lt_iff_lt_mul (by omega)]; rw [Nat.pow_succ] at hm; exact hm)
        simp; omega
theorem okS_digS (n : Int) (hn : I64 n) : okS (digS n) = decide (-1099511627776 ≤ n ∧ n ≤ 1099511627776) := by
  unfold okS
  rw [valS_digS n hn]
  by_cases h : -1099511627776 ≤ n ∧ n ≤ 1099511627776
  · rw [decide_eq_true h, decide_eq_true]
    refine ⟨?_, h.1, h.2, rfl⟩
    unfold digS digL; rw [strOfNums_size]
    have := dec_len2 20 n.natAbs 12 (by omega)
    unfold decN
    split <;> simp <;> omega
  · rw [decide_eq_false h, decide_eq_false]
    intro e; exact h ⟨e.2.1, e.2.2.1⟩
theorem numS_in (n : Int) (h : -1099511627776 ≤ n ∧ n ≤ 1099511627776) : okS (digS n) = true ∧ numS (digS n) = n := by
  have hn : I64 n := by unfold I64; omega
  have e := okS_digS n hn
  rw [decide_eq_true h] at e
  refine ⟨e, ?_⟩
  unfold numS; rw [e, if_pos rfl, valS_digS n hn]
theorem numS_out (n : Int) (hn : I64 n) (h : ¬ (-1099511627776 ≤ n ∧ n ≤ 1099511627776)) : okS (digS n) = false ∧ numS (digS n) = 0 := by
  have e := okS_digS n hn
  rw [decide_eq_false h] at e
  refine ⟨e, ?_⟩
  unfold numS; rw [e]; rfl
theorem numS_bd (s : ByteArray) : I64 (numS s) := by
  unfold numS I64
  by_cases h : okS s = true
  · rw [if_pos h]; unfold okS at h; have := of_decide_eq_true h; omega
  · rw [if_neg h]; omega
theorem back_eq (s : ByteArray) (h : okS s = true) : ((digS (numS s)).toList == s.toList) = true := by
  rw [same_list]
  unfold numS; rw [if_pos h]; unfold okS at h; rw [decide_eq_true (of_decide_eq_true h).2.2.2]
theorem nparse_dig_in (n : Int) (w : World) (h : -1099511627776 ≤ n ∧ n ≤ 1099511627776) :
    Calls Try.prog 29 #[.string (digS n)] w fun e w' => e = .returned (.tuple #[.int .i64 n, .bool true]) ∧ Grown w w' :=
  (nparse_two (digS n) w (by have := digS_size n; omega)).mono fun _ _ ⟨h1, h2⟩ => ⟨by rw [h1, (numS_in n h).1, (numS_in n h).2], h2⟩
theorem nparse_dig_out (n : Int) (w : World) (hn : I64 n) (h : ¬ (-1099511627776 ≤ n ∧ n ≤ 1099511627776)) :
    Calls Try.prog 29 #[.string (digS n)] w fun e w' => e = .returned (.tuple #[.int .i64 0, .bool false]) ∧ Grown w w' :=
  (nparse_two (digS n) w (by have := digS_size n; omega)).mono fun _ _ ⟨h1, h2⟩ => ⟨by rw [h1, (numS_out n hn h).1, (numS_out n hn h).2], h2⟩

set_option maxHeartbeats 1000000 in
theorem law_back (n : Int) (s : ByteArray) (w : World) (hn : I64 n) :
    Calls Try.prog 9 #[.int .i64 n, .string s] w fun e w' => e = .returned (.bool true) ∧ Grown w w' := by
  by_cases hs : 10000 < s.size
  · go_enter Try.func9, Try.ntmps9
    go_wp2_with fail
    refine (lives_any _).mono ?_
    rintro e w' ⟨rfl, hg⟩
    go_wp2_with fail
    go_ret
    exact ⟨rfl, hg⟩
  have hs' : s.size ≤ 10000 := by omega
  clear hs
  have hp := fun (w : World) => nparse_two s w hs'
  have HP := Lib.hid hp
  clear hp
  have hcase : (okS s = false) ∨ (okS s = true ∧ ((digS (numS s)).toList == s.toList) = true) := by
    cases h : okS s with
    | false => exact Or.inl rfl
    | true => exact Or.inr ⟨rfl, back_eq s h⟩
  have HC := Lib.hid hcase
  clear hcase
  have hb := numS_bd s
  by_cases hin : -1099511627776 ≤ n ∧ n ≤ 1099511627776
  · obtain ⟨i1, i2⟩ := hin
    rcases HC.out with h | ⟨h, hq⟩
    · rw [h] at HP
      clear HC
      go_enter Try.func9, Try.ntmps9
      go_wp2_with fail
      refine (ndig_any n _ hn).mono ?_
      rintro e w1 ⟨rfl, g1⟩
      go_wp2_with fail
      refine (nparse_dig_in n _ ⟨i1, i2⟩).mono ?_
      rintro e w2 ⟨rfl, g2⟩
      go_wp2_with fail
      refine (HP.out _).mono ?_
      rintro e w3 ⟨rfl, g3⟩
      go_wp2_with fail
      refine (lives_any _).mono ?_
      rintro e w4 ⟨rfl, g4⟩
      go_wp2_with fail
      go_ret
      exact ⟨rfl, grown_trans g1 (grown_trans g2 (grown_trans g3 g4))⟩
    · rw [h] at HP
      clear HC
      go_enter Try.func9, Try.ntmps9
      go_wp2_with fail
      refine (ndig_any n _ hn).mono ?_
      rintro e w1 ⟨rfl, g1⟩
      go_wp2_with fail
      refine (nparse_dig_in n _ ⟨i1, i2⟩).mono ?_
      rintro e w2 ⟨rfl, g2⟩
      go_wp2_with fail
      refine (HP.out _).mono ?_
      rintro e w3 ⟨rfl, g3⟩
      go_wp2_with fail
      refine (ndig_any (numS s) _ hb).mono ?_
      rintro e w4 ⟨rfl, g4⟩
      go_wp2_with fail
      refine (lives_any _).mono ?_
      rintro e w5 ⟨rfl, g5⟩
      go_wp2_with fail
      go_ret
      exact ⟨rfl, grown_trans g1 (grown_trans g2 (grown_trans g3 (grown_trans g4 g5)))⟩
  · have hin' : n < -1099511627776 ∨ 1099511627776 < n := by omega
    have HI := Lib.hid hin
    clear hin
    rcases HC.out with h | ⟨h, hq⟩
    · rw [h] at HP
      clear HC
      rcases hin' with i1 | i1
      all_goals
        go_enter Try.func9, Try.ntmps9
        go_wp2_with fail
        refine (ndig_any n _ hn).mono ?_
        rintro e w1 ⟨rfl, g1⟩
        go_wp2_with fail
        refine (nparse_dig_out n _ hn HI.out).mono ?_
        rintro e w2 ⟨rfl, g2⟩
        go_wp2_with fail
        refine (HP.out _).mono ?_
        rintro e w3 ⟨rfl, g3⟩
        go_wp2_with fail
        refine (lives_any _).mono ?_
        rintro e w4 ⟨rfl, g4⟩
        go_wp2_with fail
        go_ret
        exact ⟨rfl, grown_trans g1 (grown_trans g2 (grown_trans g3 g4))⟩
    · rw [h] at HP
      clear HC
      rcases hin' with i1 | i1
      all_goals
        go_enter Try.func9, Try.ntmps9
        go_wp2_with fail
        refine (ndig_any n _ hn).mono ?_
        rintro e w1 ⟨rfl, g1⟩
        go_wp2_with fail
        refine (nparse_dig_out n _ hn HI.out).mono ?_
        rintro e w2 ⟨rfl, g2⟩
        go_wp2_with fail
        refine (HP.out _).mono ?_
        rintro e w3 ⟨rfl, g3⟩
        go_wp2_with fail
        refine (ndig_any (numS s) _ hb).mono ?_
        rintro e w4 ⟨rfl, g4⟩
        go_wp2_with fail
        refine (lives_any _).mono ?_
        rintro e w5 ⟨rfl, g5⟩
        go_wp2_with fail
        go_ret
        exact ⟨rfl, grown_trans g1 (grown_trans g2 (grown_trans g3 (grown_trans g4 g5)))⟩
end Go.Proofs.Ytkgbmoiolgpmoaa
