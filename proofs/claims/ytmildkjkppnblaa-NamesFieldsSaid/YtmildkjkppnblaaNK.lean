/- The walks of NamesUnquotes and NamesFields. -/
import Derived.Test.YtmildkjkppnblaaNJ
set_option linter.unusedVariables false
namespace Go.Proofs.Ytmildkjkppnblaa
open Go.RowKit

theorem unq_length (l : List UInt8) : (unq l).1.length ≤ l.length := by
  unfold unq
  rcases h : rdq l with _ | ⟨t, n⟩
  · simp
  · have := rdq_size h
    dsimp only
    split
    · simp
    · split
      · simp
      · dsimp only; omega

set_option maxHeartbeats 1000000 in
theorem law_unquotes (s : ByteArray) (w : World) (hs : s.size ≤ 9223372036854775807) :
    Calls Try.prog 4 #[.string s] w (OutBool true w) := by
  by_cases h : 2000 < s.size
  · go_enter Try.func4, Try.ntmps4
    go_wp2_with fail
    refine (lives_any _).mono ?_
    rintro e w1 ⟨rfl, hb⟩
    go_wp2_with fail
    go_ret
    exact outb rfl hb
  · have Q1 := Lib.hid (fun w => uq_any s w (by omega) _ rfl)
    have Q2 := Lib.hid (fun w => ruq_any s w (by omega) _ rfl)
    generalize unq s.data.toList = x at *
    have t1 := str_test x.1 x.1 true (by simp)
    go_enter Try.func4, Try.ntmps4
    go_wp2_with fail
    refine (Q1.out _).mono ?_
    rintro e w1 ⟨rfl, hb1⟩
    have B1 := Lib.hid hb1
    have hz1 := hb1.size
    clear hb1
    go_wp2_with fail
    refine (Q2.out _).mono ?_
    rintro e w2 ⟨rfl, hb2⟩
    have B2 := Lib.hid (B1.out.trans (hb2.mono hz1))
    have hz2 := B2.out.size
    clear hb2
    go_wp2_with fail
    refine (lives_any _).mono ?_
    rintro e w3 ⟨rfl, hb3⟩
    have B3 := Lib.hid (B2.out.trans (hb3.mono hz2))
    clear hb3
    go_wp2_with fail
    go_ret
    exact outb rfl B3.out

theorem fl_len (f : Nat) : ∀ (l : List UInt8) (p : List (List UInt8)), fl f l = some p → p.length ≤ f := by
  induction f with
  | zero => intro l p h; cases h
  | succ f ih =>
    intro l p h
    by_cases h1 : psz l = 0
    · rw [fl_none f l h1] at h; cases h
    · by_cases h2 : psz l = l.length
      · rw [fl_last f l h1 h2] at h; cases h; simp
      · by_cases h3 : (l.getD (psz l) 0).toNat = 32
        · rw [fl_more f l h1 h2 h3] at h
          rcases h4 : fl f (l.drop (psz l + 1)) with _ | q
          · rw [h4] at h; cases h
          · rw [h4] at h
            cases h
            have := ih _ _ h4
            simp; omega
        · rw [fl_bad f l h2 h3] at h; cases h
theorem flR_len (l : List UInt8) : (flR (fld l)).1.length ≤ l.length := by
  unfold fld
  split
  · rename_i h; rw [h]; simp [flR]
  · rcases h : fl l.length l with _ | p
    · simp [flR]
    · exact fl_len _ _ _ h

set_option maxHeartbeats 1000000 in
theorem law_fields (s : ByteArray) (w : World) (hs : s.size ≤ 9223372036854775807) :
    Calls Try.prog 6 #[.string s] w (OutBool true w) := by
  by_cases h : 2000 < s.size
  · go_enter Try.func6, Try.ntmps6
    go_wp2_with fail
    refine (lives_any _).mono ?_
    rintro e w1 ⟨rfl, hb⟩
    go_wp2_with fail
    go_ret
    exact outb rfl hb
  · have Q1 := Lib.hid (fun w => fields_any s w (by omega) _ rfl)
    have Q2 := Lib.hid (fun w => rfields_any s w (by omega) _ rfl)
    have hlen := flR_len s.data.toList
    rw [toNat_bytes] at hlen
    have HLEN := Lib.hid hlen
    clear hlen
    generalize fld s.data.toList = x at *
    go_enter Try.func6, Try.ntmps6
    go_wp2_with fail
    refine (Q1.out _).mono ?_
    rintro e w1 ⟨v1, rfl, o1, hb1⟩
    have B1 := Lib.hid hb1
    have hz1 := hb1.size
    have S1 := Lib.hid (strsAt_own o1)
    clear hb1 o1
    go_wp2_with fail
    refine (Q2.out _).mono ?_
    rintro e w2 ⟨v2, rfl, o2, hb2⟩
    have B2 := Lib.hid (B1.out.trans (hb2.mono hz1))
    have hz2 := B2.out.size
    have S2 := Lib.hid (strsAt_own o2)
    have S3 := Lib.hid (S1.out.below hb2)
    clear hb2 o2
    go_wp2_with fail
    refine (same_any _ _ _ _ _ S3.out S2.out (by have := HLEN.out; omega) (by have := HLEN.out; omega) true (decide_eq_true rfl)).mono ?_
    rintro e w3 ⟨rfl, hb3⟩
    have B3 := Lib.hid (B2.out.trans (hb3.mono hz2))
    have hz3 := B3.out.size
    clear hb3
    go_wp2_with fail
    refine (lives_any _).mono ?_
    rintro e w4 ⟨rfl, hb4⟩
    have B4 := Lib.hid (B3.out.trans (hb4.mono hz3))
    clear hb4
    go_wp2_with fail
    go_ret
    exact outb rfl B4.out
end Go.Proofs.Ytmildkjkppnblaa
