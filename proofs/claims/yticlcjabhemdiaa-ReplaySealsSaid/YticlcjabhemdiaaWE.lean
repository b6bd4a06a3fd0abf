/- Contracts of wire's Reader: strings, booleans, what is left, the end. -/
import Derived.Test.YticlcjabhemdiaaWD
set_option linter.unusedVariables false
namespace Go.Proofs.Yticlcjabhemdiaa.Wire
open Go.RowKit

theorem fCount_e (most : Int) (s : ByteArray) (hs : s.size ≤ 100000) (h : (fCount most s).2.2 ≠ 0) : (fCount most s).1 = 0 := by
  unfold fCount at *; (repeat' split at *) <;> simp_all
theorem fCount_bd (most : Int) (s : ByteArray) (hm : most ≤ 9223372036854775807) : 0 ≤ (fCount most s).1 ∧ (fCount most s).1 ≤ max most 0 := by
  unfold fCount; (repeat' split) <;> simp <;> omega
theorem fCount_size (most : Int) (s : ByteArray) (hs : s.size ≤ 100000) : (fCount most s).2.1.size ≤ s.size := by
  have := fInt_size s hs
  unfold fCount; (repeat' split) <;> exact this

/-- A string of at most so many bytes. -/
def fText (most : Int) (s : ByteArray) : ByteArray × ByteArray × Int :=
  if (fCount most s).2.2 ≠ 0 then (ByteArray.empty, (fCount most s).2.1, (fCount most s).2.2) else fTake (fCount most s).1.toNat (fCount most s).2.1

theorem live_text (b : Nat) (most : Int) (s : ByteArray) (w : World) (hs : s.size ≤ 100000) (hm : most ≤ 9223372036854775807) (h : PB w b s 0 true) :
    Calls Try.prog 45 #[pt b, .int .i64 most] w (Out b w (.string (fText most s).1) (fText most s).2.1 (fText most s).2.2) := by
  have F := Lib.hid (show fText most s = if (fCount most s).2.2 ≠ 0 then (ByteArray.empty, (fCount most s).2.1, (fCount most s).2.2) else fTake (fCount most s).1.toNat (fCount most s).2.1 from rfl)
  have L := Lib.hid (live_count b most s w hs h)
  have B := Lib.hid (fCount_bd most s hm)
  have Z := fCount_size most s hs
  have V := Lib.hid (fCount_e most s hs)
  clear h
  obtain ⟨v, t, e, hr⟩ : ∃ v t e, fCount most s = (v, t, e) := ⟨_, _, _, rfl⟩
  rw [hr] at F B L Z V
  clear hr
  simp only at Z
  by_cases he : e = 0
  · subst he
    obtain ⟨n, rfl⟩ := Int.eq_ofNat_of_zero_le B.out.1
    have hn : n ≤ 9223372036854775807 := by have := B.out.2; simp only at this; omega
    have E := Lib.hid (show fText most s = fTake n t by rw [F.out]; simp)
    go_enter Try.func45, Try.ntmps45
    go_wp2_with fail
    refine L.out.mono ?_
    rintro r w1 ⟨rfl, hp, hg⟩
    have HP := Lib.hid hp
    have HG := Lib.hid hg
    clear hp hg
    go_wp2_with fail
    refine (live_take b n t _ (by omega) hn HP.out).mono ?_
    rintro r w2 ⟨rfl, hp2, hg2⟩
    have HP2 := Lib.hid hp2
    have HG2 := Lib.hid hg2
    clear hp2 hg2
    go_wp2_with fail
    go_ret
    rw [E.out]
    exact ⟨rfl, HP2.out, gb_trans HG.out HG2.out⟩
  · have E := Lib.hid (show fText most s = (ByteArray.empty, t, e) by rw [F.out]; simp [he])
    obtain rfl : v = 0 := V.out he
    go_enter Try.func45, Try.ntmps45
    go_wp2_with fail
    refine L.out.mono ?_
    rintro r w1 ⟨rfl, hp, hg⟩
    have HP := Lib.hid hp
    have HG := Lib.hid hg
    clear hp hg
    go_wp2_with fail
    refine (dead_take (pt b) _ e 0 (pb_dead HP.out he)).mono ?_
    rintro r w2 ⟨rfl, rfl⟩
    go_wp2_with fail
    go_ret
    rw [E.out]
    exact ⟨rfl, HP.out, HG.out⟩

theorem live_left (b : Nat) (s : ByteArray) (w : World) (h : PB w b s 0 true) :
    Calls Try.prog 59 #[pt b] w fun r w' => r = .returned (.int .i64 (s.size : Int)) ∧ w = w' := by
  have H := Lib.hid h
  have h0 := h.c0
  clear h
  go_enter Try.func59, Try.ntmps59
  go_wp2_with fail
  refine (err_live b s 0 _ H.out).mono ?_
  rintro e w' ⟨rfl, rfl⟩
  go_wp2_with fail
  go_ret
  exact ⟨rfl, rfl⟩
theorem live_end (b : Nat) (s : ByteArray) (w : World) (h : PB w b s 0 true) :
    Calls Try.prog 46 #[pt b] w fun r w' => r = .returned (.int .i64 (if s.size = 0 then 0 else 23)) ∧ w = w' := by
  have H := Lib.hid h
  clear h
  by_cases h0 : s.size = 0
  · rw [if_pos h0]
    have hz : s.size ≤ 0 := by omega
    clear h0
    go_enter Try.func46, Try.ntmps46
    go_wp2_with fail
    refine (live_left b s _ H.out).mono ?_
    rintro e w' ⟨rfl, rfl⟩
    go_wp2_with fail
    refine (err_live b s 0 _ H.out).mono ?_
    rintro e w' ⟨rfl, rfl⟩
    go_wp2_with fail
    go_ret
    exact ⟨rfl, rfl⟩
  · rw [if_neg h0]
    have hz : 0 < s.size := by omega
    clear h0
    go_enter Try.func46, Try.ntmps46
    go_wp2_with fail
    refine (live_left b s _ H.out).mono ?_
    rintro e w' ⟨rfl, rfl⟩
    go_wp2_with fail
    go_ret
    exact ⟨rfl, rfl⟩

theorem first_byte (s : ByteArray) (h : 0 < s.size) : (s.extract 0 1).toList = [s[0]] := by
  rw [Lib.extract_toList]
  simp only [List.drop_zero]
  rw [show s.data.toList = s.data.toList.drop 0 from rfl, drop_cons s 0 h]
  rfl
theorem less_hi (c : UInt8) (h : 1 < c.toNat) : Op.bytesLess [c] [1] = false ∧ (c == 1) = false := by
  have h1 : (c == 1) = false := by
    rw [beq_eq_false_iff_ne]; rintro rfl; revert h; decide
  refine ⟨?_, h1⟩
  unfold Op.bytesLess
  rw [h1, Bool.false_and, Bool.or_false, decide_eq_false]
  intro hl; have : c.toNat < 1 := hl; omega
theorem less_lo (c : UInt8) (h : c.toNat = 0) : Op.bytesLess [c] [1] = true ∧ (c == 1) = false := by
  obtain rfl : c = 0 := UInt8.toNat_inj.1 h
  exact ⟨by decide, by decide⟩
theorem less_one (c : UInt8) (h : c.toNat = 1) : Op.bytesLess [c] [1] = false ∧ (c == 1) = true := by
  obtain rfl : c = 1 := UInt8.toNat_inj.1 h
  exact ⟨by decide, by decide⟩

/-- A boolean. -/
def fBool (s : ByteArray) : Bool × ByteArray × Int :=
  match s.data.toList with
  | [] => (false, s, 5)
  | c :: _ => if 1 < c.toNat then (false, s.extract 1 s.size, 4) else (decide (c.toNat = 1), s.extract 1 s.size, 0)
theorem fBool_nil (s : ByteArray) (h : s.size = 0) : fBool s = (false, s, 5) := by
  have : s.data.toList = [] := List.eq_nil_of_length_eq_zero (by rw [toNat_bytes]; exact h)
  unfold fBool; rw [this]
theorem fBool_cons (s : ByteArray) (h : 0 < s.size) : fBool s = if 1 < s[0].toNat then (false, s.extract 1 s.size, 4) else (decide (s[0].toNat = 1), s.extract 1 s.size, 0) := by
  have : s.data.toList = s[0] :: s.data.toList.drop 1 := drop_cons s 0 h
  unfold fBool; rw [this]

end Go.Proofs.Yticlcjabhemdiaa.Wire
