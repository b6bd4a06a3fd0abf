/- Contracts of both Readers in any state: with an error, or without. -/
import Derived.Test.YtfpkpgfdmidjfaaWJ
set_option linter.unusedVariables false
namespace Go.Proofs.Ytfpkpgfdmidjfaa
open Go.RowKit

/-- A Reader of the reference, by what is left to read. -/
def RR (w : World) (c : Nat) (S s : ByteArray) (e : Int) : Prop := ∃ a, a ≤ S.size ∧ RB w c S a e ∧ (e = 0 → s = S.extract a S.size)
theorem RR.kept {w w' : World} {c : Nat} {S s : ByteArray} {e : Int} {r : Option Nat} (h : RR w c S s e) (hg : w.grownBy w' r) (hne : some c ≠ r) : RR w' c S s e := by
  obtain ⟨a, h1, h2, h3⟩ := h
  exact ⟨a, h1, h2.kept hg hne, h3⟩
theorem RR.lt {w : World} {c : Nat} {S s : ByteArray} {e : Int} (h : RR w c S s e) : c < w.heap.size := by
  obtain ⟨a, h1, h2, h3⟩ := h; exact h2.lt
theorem RR.size {w : World} {c : Nat} {S s : ByteArray} {e : Int} (h : RR w c S s e) (he : e = 0) : s.size ≤ S.size := by
  obtain ⟨a, h1, h2, h3⟩ := h; rw [h3 he, sub_size S a h1]; omega
theorem RR.ne {w : World} {b c : Nat} {S s t : ByteArray} {e f : Int} {m : Bool} (h : RR w c S s e) (k : PB w b t f m) : b ≠ c := by
  rintro rfl
  obtain ⟨a, h1, h2, h3⟩ := h
  unfold RB at h2
  unfold PB at k
  rw [k] at h2
  simp at h2

/-- A method in any state. -/
def hInt (s : ByteArray) (e : Int) : Int × ByteArray × Int := if e = 0 then fInt s else (0, s, e)
def hCount (m : Int) (s : ByteArray) (e : Int) : Int × ByteArray × Int := if e = 0 then fCount m s else (0, s, e)
def hText (m : Int) (s : ByteArray) (e : Int) : ByteArray × ByteArray × Int := if e = 0 then fText m s else (ByteArray.empty, s, e)
def hBool (s : ByteArray) (e : Int) : Bool × ByteArray × Int := if e = 0 then fBool s else (false, s, e)
def hInts (m : Int) (s : ByteArray) (e : Int) : List Int × ByteArray × Int := if e = 0 then fInts m s else ([], s, e)
def hLeft (s : ByteArray) (e : Int) : Int := if e = 0 then (s.size : Int) else 0
def hEnd (s : ByteArray) (e : Int) : Int := if e = 0 then (if s.size = 0 then 0 else 23) else e
def hFail (f e : Int) : Int := if e = 0 then f else e

section
variable {b c : Nat} {S s : ByteArray} {e : Int} {w : World}

theorem p_int (h : PB w b s e true) (hs : e = 0 → s.size ≤ 100000) :
    Calls Try.prog 26 #[pt b] w (Out b w (.int .i64 (hInt s e).1) (hInt s e).2.1 (hInt s e).2.2) := by
  unfold hInt
  by_cases he : e = 0
  · subst he; exact live_int b s w (hs rfl) h
  · rw [if_neg he]; exact (dead_int (pt b) w e (pb_dead h he)).mono fun _ _ ⟨h1, h2⟩ => h2 ▸ ⟨h1, h, gb_refl _ _⟩
theorem p_count (m : Int) (h : PB w b s e true) (hs : e = 0 → s.size ≤ 100000) :
    Calls Try.prog 33 #[pt b, .int .i64 m] w (Out b w (.int .i64 (hCount m s e).1) (hCount m s e).2.1 (hCount m s e).2.2) := by
  unfold hCount
  by_cases he : e = 0
  · subst he; exact live_count b m s w (hs rfl) h
  · rw [if_neg he]; exact (dead_count (pt b) w e m (pb_dead h he)).mono fun _ _ ⟨h1, h2⟩ => h2 ▸ ⟨h1, h, gb_refl _ _⟩
theorem p_text (m : Int) (hm : m ≤ 9223372036854775807) (h : PB w b s e true) (hs : e = 0 → s.size ≤ 100000) :
    Calls Try.prog 27 #[pt b, .int .i64 m] w (Out b w (.string (hText m s e).1) (hText m s e).2.1 (hText m s e).2.2) := by
  unfold hText
  by_cases he : e = 0
  · subst he; exact live_text b m s w (hs rfl) hm h
  · rw [if_neg he]; exact (dead_text (pt b) w e m (pb_dead h he)).mono fun _ _ ⟨h1, h2⟩ => h2 ▸ ⟨h1, h, gb_refl _ _⟩
theorem p_bool (h : PB w b s e true) (hs : e = 0 → s.size ≤ 100000) :
    Calls Try.prog 28 #[pt b] w (Out b w (.bool (hBool s e).1) (hBool s e).2.1 (hBool s e).2.2) := by
  unfold hBool
  by_cases he : e = 0
  · subst he; exact live_bool b s w (hs rfl) h
  · rw [if_neg he]; exact (dead_bool (pt b) w e (pb_dead h he)).mono fun _ _ ⟨h1, h2⟩ => h2 ▸ ⟨h1, h, gb_refl _ _⟩
theorem p_ints (m : Int) (hm : m ≤ 9223372036854775807) (h : PB w b s e true) (hs : e = 0 → s.size ≤ 100000) :
    Calls Try.prog 30 #[pt b, .int .i64 m] w (OutL b w (hInts m s e)) := by
  unfold hInts
  by_cases he : e = 0
  · subst he; exact live_ints b m s w (hs rfl) hm h
  · rw [if_neg he]; exact (dead_ints (pt b) w e m (pb_dead h he)).mono fun _ _ ⟨h1, h2⟩ => h2 ▸ ⟨_, h1, h, gb_refl _ _, World.ownsRow_nil _ _ _ _⟩
theorem p_left (h : PB w b s e true) :
    Calls Try.prog 35 #[pt b] w fun r w' => r = .returned (.int .i64 (hLeft s e)) ∧ w = w' := by
  unfold hLeft
  by_cases he : e = 0
  · subst he; exact live_left b s w h
  · rw [if_neg he]; exact dead_left (pt b) w e (pb_dead h he)
theorem p_end (h : PB w b s e true) :
    Calls Try.prog 22 #[pt b] w fun r w' => r = .returned (.int .i64 (hEnd s e)) ∧ w = w' := by
  unfold hEnd
  by_cases he : e = 0
  · subst he; exact live_end b s w h
  · rw [if_neg he]; exact dead_end (pt b) w e (pb_dead h he)
theorem p_fail (f : Int) (h : PB w b s e true) :
    Calls Try.prog 34 #[pt b, .int .i64 f] w (Out b w (.tuple #[]) s (hFail f e)) := by
  unfold hFail
  by_cases he : e = 0
  · subst he; exact live_fail b s f w h
  · rw [if_neg he]; exact (dead_fail (pt b) w e f (pb_dead h he)).mono fun _ _ ⟨h1, h2⟩ => h2 ▸ ⟨h1, h, gb_refl _ _⟩

theorem r_err (h : RR w c S s e) :
    Calls Try.prog 43 #[pt c] w fun r w' => r = .returned (.int .i64 e) ∧ w = w' := by
  obtain ⟨a, h1, h2, h3⟩ := h; exact rerr_any c S a e w h2
theorem r_int (h : RR w c S s e) (hs : S.size ≤ 100000) :
    Calls Try.prog 37 #[pt c] w (OutR c S w (.int .i64 (hInt s e).1) (hInt s e).2.1 (hInt s e).2.2) := by
  obtain ⟨a, h1, h2, h3⟩ := h
  unfold hInt
  by_cases he : e = 0
  · subst he; rw [h3 rfl]; exact rint_live c S a w hs h1 h2
  · rw [if_neg he]; exact (rint_dead c S a e w h2 he).mono fun _ _ ⟨k1, k2⟩ => k2 ▸ ⟨k1, ⟨a, h1, h2, h3⟩, gb_refl _ _⟩
theorem r_count (m : Int) (h : RR w c S s e) (hs : S.size ≤ 100000) :
    Calls Try.prog 40 #[pt c, .int .i64 m] w (OutR c S w (.int .i64 (hCount m s e).1) (hCount m s e).2.1 (hCount m s e).2.2) := by
  obtain ⟨a, h1, h2, h3⟩ := h
  unfold hCount
  by_cases he : e = 0
  · subst he; rw [h3 rfl]; exact rcount_live c S a m w hs h1 h2
  · rw [if_neg he]; exact (rcount_dead c S a e m w h2 he).mono fun _ _ ⟨k1, k2⟩ => k2 ▸ ⟨k1, ⟨a, h1, h2, h3⟩, gb_refl _ _⟩
theorem r_text (m : Int) (hm : m ≤ 9223372036854775807) (h : RR w c S s e) (hs : S.size ≤ 100000) :
    Calls Try.prog 38 #[pt c, .int .i64 m] w (OutR c S w (.string (hText m s e).1) (hText m s e).2.1 (hText m s e).2.2) := by
  obtain ⟨a, h1, h2, h3⟩ := h
  unfold hText
  by_cases he : e = 0
  · subst he; rw [h3 rfl]; exact rtext_live c S a m w hs hm h1 h2
  · rw [if_neg he]; exact (rtext_dead c S a e m w h2 he).mono fun _ _ ⟨k1, k2⟩ => k2 ▸ ⟨k1, ⟨a, h1, h2, h3⟩, gb_refl _ _⟩
theorem r_bool (h : RR w c S s e) (hs : S.size ≤ 100000) :
    Calls Try.prog 39 #[pt c] w (OutR c S w (.bool (hBool s e).1) (hBool s e).2.1 (hBool s e).2.2) := by
  obtain ⟨a, h1, h2, h3⟩ := h
  unfold hBool
  by_cases he : e = 0
  · subst he; rw [h3 rfl]; exact rbool_live c S a w hs h1 h2
  · rw [if_neg he]; exact (rbool_dead c S a e w h2 he).mono fun _ _ ⟨k1, k2⟩ => k2 ▸ ⟨k1, ⟨a, h1, h2, h3⟩, gb_refl _ _⟩
theorem r_ints (m : Int) (hm : m ≤ 9223372036854775807) (h : RR w c S s e) (hs : S.size ≤ 100000) :
    Calls Try.prog 41 #[pt c, .int .i64 m] w (OutRL c S w (hInts m s e)) := by
  obtain ⟨a, h1, h2, h3⟩ := h
  unfold hInts
  by_cases he : e = 0
  · subst he; rw [h3 rfl]; exact rints_live c S a m w hs hm h1 h2
  · rw [if_neg he]; exact (rints_dead c S a e m w h2 he).mono fun _ _ ⟨k1, k2⟩ => k2 ▸ ⟨_, k1, ⟨a, h1, h2, h3⟩, gb_refl _ _, World.ownsRow_nil _ _ _ _⟩
theorem r_left (h : RR w c S s e) (hs : S.size ≤ 100000) :
    Calls Try.prog 44 #[pt c] w fun r w' => r = .returned (.int .i64 (hLeft s e)) ∧ Same w w' := by
  obtain ⟨a, h1, h2, h3⟩ := h
  unfold hLeft
  by_cases he : e = 0
  · subst he; rw [h3 rfl, if_pos rfl, sub_size S a h1, show ((S.size - a : Nat) : Int) = (S.size : Int) - a by omega]; exact rleft_live c S a w hs h1 h2
  · rw [if_neg he]; exact (rleft_dead c S a e w h2 he).mono fun _ _ ⟨k1, k2⟩ => ⟨k1, 0, k2.symm⟩
theorem r_end (h : RR w c S s e) (hs : S.size ≤ 100000) :
    Calls Try.prog 23 #[pt c] w fun r w' => r = .returned (.int .i64 (hEnd s e)) ∧ Same w w' := by
  obtain ⟨a, h1, h2, h3⟩ := h
  unfold hEnd
  by_cases he : e = 0
  · subst he; rw [h3 rfl, if_pos rfl, sub_size S a h1]; exact rend_live c S a w hs h1 h2
  · rw [if_neg he]; exact (rend_dead c S a e w h2 he).mono fun _ _ ⟨k1, k2⟩ => ⟨k1, 0, k2.symm⟩
theorem r_fail (f : Int) (h : RR w c S s e) :
    Calls Try.prog 42 #[pt c, .int .i64 f] w (OutR c S w (.tuple #[]) s (hFail f e)) := by
  obtain ⟨a, h1, h2, h3⟩ := h
  unfold hFail
  by_cases he : e = 0
  · subst he; exact (rfail_any c S a f w h2).mono fun _ _ ⟨k1, k2, k3⟩ => ⟨k1, ⟨a, h1, k2, fun _ => h3 rfl⟩, k3⟩
  · rw [if_neg he]; exact (rfail_dead c S a e f w h2 he).mono fun _ _ ⟨k1, k2⟩ => k2 ▸ ⟨k1, ⟨a, h1, h2, h3⟩, gb_refl _ _⟩
end
end Go.Proofs.Ytfpkpgfdmidjfaa
