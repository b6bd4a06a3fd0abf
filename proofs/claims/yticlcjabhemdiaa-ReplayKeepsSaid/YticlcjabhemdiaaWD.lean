/- Contracts of the methods of wire's Reader that read no list. -/
import Derived.Test.YticlcjabhemdiaaWC
set_option linter.unusedVariables false
namespace Go.Proofs.Yticlcjabhemdiaa.Wire
open Go.RowKit

/-- Block b is a Reader of wire: what is left, the error, whether New returned it. -/
def PB (w : World) (b : Nat) (s : ByteArray) (e : Int) (m : Bool) : Prop :=
  w.heap[b]? = some (.cells #[.string s, .int .i64 e, .bool m] 76 (0, 0))

section
variable {w w' : World} {b : Nat} {s : ByteArray} {e : Int} {m : Bool}
theorem PB.lt (h : PB w b s e m) : b < w.heap.size := (Array.getElem?_eq_some_iff.1 h).1
theorem PB.c0 (h : PB w b s e m) : w.cell? ⟨b, 0, none⟩ = some (.string s) := cell_of_row w b 0 _ _ (0, 0) h
theorem PB.c1 (h : PB w b s e m) : w.cell? ⟨b, 1, none⟩ = some (.int .i64 e) := cell_of_row w b 1 _ _ (0, 0) h
theorem PB.c2 (h : PB w b s e m) : w.cell? ⟨b, 2, none⟩ = some (.bool m) := cell_of_row w b 2 _ _ (0, 0) h
theorem PB.fr (h : PB w b s e m) (i : Nat) : w.frozen? ⟨b, i, none⟩ = false := by
  unfold PB at h; simp [World.frozen?, h]
theorem PB.set0 (h : PB w b s e m) (t : ByteArray) : PB (w.setCell ⟨b, 0, none⟩ (.string t)) b t e m := by
  unfold PB at h ⊢; simp [World.setCell, Array.getElem?_modify, h]
theorem PB.set1 (h : PB w b s e m) (f : Int) : PB (w.setCell ⟨b, 1, none⟩ (.int .i64 f)) b s f m := by
  unfold PB at h ⊢; simp [World.setCell, Array.getElem?_modify, h]
theorem PB.kept {r : Option Nat} (h : PB w b s e m) (hg : w.grownBy w' r) (hne : some b ≠ r) : PB w' b s e m := (hg.block b h.lt hne).trans h
theorem PB.below {B : Nat} (h : PB w b s e m) (hb : Below B w w') (hlt : b < B) : PB w' b s e m := (hb.block b hlt).trans h
end
theorem gb_refl (w : World) (r : Option Nat) : w.grownBy w r := ⟨rfl, rfl, rfl, Nat.le_refl _, fun _ _ _ => rfl⟩
theorem gb_trans {a b c : World} {r : Option Nat} (h : a.grownBy b r) (k : b.grownBy c r) : a.grownBy c r :=
  ⟨k.os.trans h.os, k.tape.trans h.tape, k.output.trans h.output, Nat.le_trans h.size k.size, fun i hi hne => (k.block i (Nat.lt_of_lt_of_le hi h.size) hne).trans (h.block i hi hne)⟩
theorem gb_set (w : World) (b i : Nat) (u : Value) : w.grownBy (w.setCell ⟨b, i, none⟩ u) (some b) :=
  ⟨rfl, rfl, rfl, by simp [World.setCell], fun k hk hne => Below.heap_setCell w ⟨b, i, none⟩ u k (by intro e; exact hne (by rw [e]))⟩
theorem gb_below {a b : World} {r : Option Nat} (h : Below a.heap.size a b) : a.grownBy b r :=
  ⟨h.os, h.tape, h.output, h.size, fun k hk _ => h.block k hk⟩
theorem gb_drewN (w : World) (n : Nat) (r : Option Nat) : w.grownBy (w.drewN n) r := ⟨rfl, rfl, rfl, Nat.le_refl _, fun _ _ _ => rfl⟩

/-- The pointer to a block. -/
abbrev pt (b : Nat) : Value := .pointer (some ⟨b, 0, none⟩)

theorem err_live (b : Nat) (s : ByteArray) (e : Int) (w : World) (h : PB w b s e true) :
    Calls Try.prog 53 #[pt b] w fun r w' => r = .returned (.int .i64 e) ∧ w = w' := by
  have h1 := h.c1
  have h2 := h.c2
  clear h
  go_enter Try.func53, Try.ntmps53
  go_wp2_with fail
  go_ret
  exact ⟨rfl, rfl⟩
theorem err_zero (b : Nat) (s : ByteArray) (e : Int) (w : World) (h : PB w b s e false) :
    Calls Try.prog 53 #[pt b] w fun r w' => r = .returned (.int .i64 15) ∧ w = w' := by
  have h2 := h.c2
  clear h
  go_enter Try.func53, Try.ntmps53
  go_wp2_with fail
  go_ret
  exact ⟨rfl, rfl⟩
theorem err_nil (w : World) :
    Calls Try.prog 53 #[.pointer none] w fun r w' => r = .returned (.int .i64 15) ∧ w = w' := by
  go_enter Try.func53, Try.ntmps53
  go_wp2_with fail
  go_ret
  exact ⟨rfl, rfl⟩

/-- A Reader that has an error. -/
def Dead (p : Value) (w : World) (k : Int) : Prop :=
  (k == 0) = false ∧ (k != 0) = true ∧ Calls Try.prog 53 #[p] w fun r w' => r = .returned (.int .i64 k) ∧ w = w'
theorem dead_mk {p : Value} {w : World} {k : Int} (h : k ≠ 0) (hc : Calls Try.prog 53 #[p] w fun r w' => r = .returned (.int .i64 k) ∧ w = w') : Dead p w k :=
  ⟨by simpa using h, by simpa using h, hc⟩

theorem dead_int (p : Value) (w : World) (k : Int) (h : Dead p w k) :
    Calls Try.prog 44 #[p] w fun r w' => r = .returned (.int .i64 0) ∧ w = w' := by
  obtain ⟨h1, h2, hc⟩ := h
  have HC := Lib.hid hc
  clear hc
  go_enter Try.func44, Try.ntmps44
  go_wp2_with fail
  refine HC.out.mono ?_
  rintro e w' ⟨rfl, rfl⟩
  go_wp2_with fail
  go_ret
  exact ⟨rfl, rfl⟩
theorem dead_fail (p : Value) (w : World) (k f : Int) (h : Dead p w k) :
    Calls Try.prog 55 #[p, .int .i64 f] w fun r w' => r = .returned (.tuple #[]) ∧ w = w' := by
  obtain ⟨h1, h2, hc⟩ := h
  have HC := Lib.hid hc
  clear hc
  go_enter Try.func55, Try.ntmps55
  go_wp2_with fail
  refine HC.out.mono ?_
  rintro e w' ⟨rfl, rfl⟩
  go_wp2_with fail
  go_end0
  exact ⟨rfl, rfl⟩
theorem dead_take (p : Value) (w : World) (k n : Int) (h : Dead p w k) :
    Calls Try.prog 57 #[p, .int .i64 n] w fun r w' => r = .returned (.string ByteArray.empty) ∧ w = w' := by
  obtain ⟨h1, h2, hc⟩ := h
  have HC := Lib.hid hc
  clear hc
  go_enter Try.func57, Try.ntmps57
  go_wp2_with fail
  refine HC.out.mono ?_
  rintro e w' ⟨rfl, rfl⟩
  go_wp2_with fail
  go_ret
  exact ⟨rfl, rfl⟩
theorem dead_count (p : Value) (w : World) (k n : Int) (h : Dead p w k) :
    Calls Try.prog 58 #[p, .int .i64 n] w fun r w' => r = .returned (.int .i64 0) ∧ w = w' := by
  have HD := Lib.hid h
  clear h
  have hm : 0 ≤ max n 0 := by omega
  go_enter Try.func58, Try.ntmps58
  go_wp2_with fail
  refine (dead_int p _ k HD.out).mono ?_
  rintro e w' ⟨rfl, rfl⟩
  go_wp2_with fail
  all_goals (go_ret; exact ⟨rfl, rfl⟩)
theorem dead_text (p : Value) (w : World) (k n : Int) (h : Dead p w k) :
    Calls Try.prog 45 #[p, .int .i64 n] w fun r w' => r = .returned (.string ByteArray.empty) ∧ w = w' := by
  have HD := Lib.hid h
  clear h
  go_enter Try.func45, Try.ntmps45
  go_wp2_with fail
  refine (dead_count p _ k n HD.out).mono ?_
  rintro e w' ⟨rfl, rfl⟩
  go_wp2_with fail
  refine (dead_take p _ k 0 HD.out).mono ?_
  rintro e w' ⟨rfl, rfl⟩
  go_wp2_with fail
  go_ret
  exact ⟨rfl, rfl⟩
theorem dead_left (p : Value) (w : World) (k : Int) (h : Dead p w k) :
    Calls Try.prog 59 #[p] w fun r w' => r = .returned (.int .i64 0) ∧ w = w' := by
  obtain ⟨h1, h2, hc⟩ := h
  have HC := Lib.hid hc
  clear hc
  go_enter Try.func59, Try.ntmps59
  go_wp2_with fail
  refine HC.out.mono ?_
  rintro e w' ⟨rfl, rfl⟩
  go_wp2_with fail
  go_ret
  exact ⟨rfl, rfl⟩
theorem dead_end (p : Value) (w : World) (k : Int) (h : Dead p w k) :
    Calls Try.prog 46 #[p] w fun r w' => r = .returned (.int .i64 k) ∧ w = w' := by
  have HD := Lib.hid h
  clear h
  go_enter Try.func46, Try.ntmps46
  go_wp2_with fail
  refine (dead_left p _ k HD.out).mono ?_
  rintro e w' ⟨rfl, rfl⟩
  go_wp2_with fail
  refine HD.out.2.2.mono ?_
  rintro e w' ⟨rfl, rfl⟩
  go_wp2_with fail
  go_ret
  exact ⟨rfl, rfl⟩

/-! ### A Reader without an error -/

/-- What a call leaves: the value, what is left to read, the error. -/
def Out (b : Nat) (w : World) (v : Value) (s : ByteArray) (e : Int) (r : Ending) (w' : World) : Prop :=
  r = .returned v ∧ PB w' b s e true ∧ w.grownBy w' (some b)

theorem pb_dead {b : Nat} {s : ByteArray} {e : Int} {w : World} (h : PB w b s e true) (he : e ≠ 0) : Dead (pt b) w e := dead_mk he (err_live b s e w h)

theorem live_fail (b : Nat) (s : ByteArray) (f : Int) (w : World) (h : PB w b s 0 true) :
    Calls Try.prog 55 #[pt b, .int .i64 f] w (Out b w (.tuple #[]) s f) := by
  have H := Lib.hid h
  have h1 := h.c1
  have hf := h.fr 1
  clear h
  go_enter Try.func55, Try.ntmps55
  go_wp2_with fail
  refine (err_live b s 0 _ H.out).mono ?_
  rintro e w' ⟨rfl, rfl⟩
  go_wp2_with fail
  go_end0
  exact ⟨rfl, H.out.set1 f, gb_set _ _ _ _⟩

/-- What the number at the beginning says. -/
def fInt (s : ByteArray) : Int × ByteArray × Int :=
  (unzig (rd 0 0 s.data.toList).1, s.extract (rd 0 0 s.data.toList).2.1 s.size, (rd 0 0 s.data.toList).2.2)

theorem rd_facts (s : ByteArray) (hs : s.size ≤ 100000) : (rd 0 0 s.data.toList).1 < 18446744073709551616 ∧ (rd 0 0 s.data.toList).2.1 ≤ s.size ∧ (rd 0 0 s.data.toList).2.2 ∈ [0, 4, 5] ∧
    ((rd 0 0 s.data.toList).2.2 ≠ 0 → (rd 0 0 s.data.toList).1 = 0 ∧ (rd 0 0 s.data.toList).2.1 = 0) := by
  rcases rd_ends s.data.toList 0 0 (by omega) (by omega) with e | e | ⟨v, n, e, h1, h2, h3, h4⟩
  · rw [e]; exact ⟨by decide, Nat.zero_le _, by simp, fun _ => ⟨rfl, rfl⟩⟩
  · rw [e]; exact ⟨by decide, Nat.zero_le _, by simp, fun _ => ⟨rfl, rfl⟩⟩
  · rw [e]; exact ⟨h1, by simp at h4; omega, by simp, fun h => absurd rfl h⟩

theorem live_int (b : Nat) (s : ByteArray) (w : World) (hs : s.size ≤ 100000) (h : PB w b s 0 true) :
    Calls Try.prog 44 #[pt b] w (Out b w (.int .i64 (fInt s).1) (fInt s).2.1 (fInt s).2.2) := by
  obtain ⟨f1, f2, f3, f4⟩ := rd_facts s hs
  obtain ⟨v, n, e, hr⟩ : ∃ v n e, rd 0 0 s.data.toList = (v, n, e) := ⟨_, _, _, rfl⟩
  have E := Lib.hid (show fInt s = (unzig v, s.extract n s.size, e) by unfold fInt; rw [hr])
  rw [hr] at f1 f2 f3 f4
  have hc := Lib.hid (form_any s w hs v n e hr)
  have H := Lib.hid h
  have h0 := h.c0
  have hf := h.fr 0
  clear h hr
  simp only at f1 f2 f3 f4
  clear f3 f4
  go_enter Try.func44, Try.ntmps44
  go_wp2_with fail
  refine (err_live b s 0 _ H.out).mono ?_
  rintro r w' ⟨rfl, rfl⟩
  go_wp2_with fail
  refine hc.out.mono ?_
  rintro r w' ⟨rfl, rfl⟩
  go_wp2_with fail
  refine (live_fail b s e _ H.out).mono ?_
  rintro r w' ⟨rfl, hp, hg⟩
  have HP := Lib.hid hp
  have HG := Lib.hid hg
  have h0' := hp.c0
  have hf' := hp.fr 0
  clear hp hg h0 hf
  go_wp2_with fail
  refine (unzigzag_any v _ f1).mono ?_
  rintro r w'' ⟨rfl, rfl⟩
  go_wp2_with fail
  go_ret
  refine ⟨ret_int (by rw [E.out]), ?_, gb_trans HG.out (gb_set _ _ _ _)⟩
  rw [E.out]; exact HP.out.set0 _

/-- So many bytes. -/
def fTake (n : Nat) (s : ByteArray) : ByteArray × ByteArray × Int :=
  if s.size < n then (ByteArray.empty, s, 5) else (s.extract 0 n, s.extract n s.size, 0)

theorem live_take (b n : Nat) (s : ByteArray) (w : World) (hs : s.size ≤ 100000) (hn : n ≤ 9223372036854775807) (h : PB w b s 0 true) :
    Calls Try.prog 57 #[pt b, .int .i64 (n : Int)] w (Out b w (.string (fTake n s).1) (fTake n s).2.1 (fTake n s).2.2) := by
  have H := Lib.hid h
  have h0 := h.c0
  have hf := h.fr 0
  clear h
  by_cases hlt : s.size < n
  · have E := Lib.hid (show fTake n s = (ByteArray.empty, s, 5) by unfold fTake; rw [if_pos hlt])
    go_enter Try.func57, Try.ntmps57
    go_wp2_with fail
    refine (err_live b s 0 _ H.out).mono ?_
    rintro r w' ⟨rfl, rfl⟩
    go_wp2_with fail
    refine (live_fail b s 5 _ H.out).mono ?_
    rintro r w' ⟨rfl, hp, hg⟩
    have HP := Lib.hid hp
    have HG := Lib.hid hg
    clear hp hg
    go_wp2_with fail
    go_ret
    rw [E.out]
    exact ⟨rfl, HP.out, HG.out⟩
  · have E := Lib.hid (show fTake n s = (s.extract 0 n, s.extract n s.size, 0) by unfold fTake; rw [if_neg hlt])
    go_enter Try.func57, Try.ntmps57
    go_wp2_with fail
    refine (err_live b s 0 _ H.out).mono ?_
    rintro r w' ⟨rfl, rfl⟩
    go_wp2_with fail
    go_ret
    rw [E.out]
    exact ⟨rfl, H.out.set0 _, gb_set _ _ _ _⟩

/-- The length of a list, at most so many. -/
def fCount (most : Int) (s : ByteArray) : Int × ByteArray × Int :=
  if (fInt s).2.2 ≠ 0 then (0, (fInt s).2.1, (fInt s).2.2)
  else if (fInt s).1 < 0 then (0, (fInt s).2.1, 4)
  else if max most 0 < (fInt s).1 then (0, (fInt s).2.1, 3)
  else ((fInt s).1, (fInt s).2.1, 0)

theorem fInt_bad (s : ByteArray) (hs : s.size ≤ 100000) (h : (fInt s).2.2 ≠ 0) : (fInt s).1 = 0 := by
  have := (rd_facts s hs).2.2.2 h
  unfold fInt; rw [this.1]; rfl
theorem fInt_size (s : ByteArray) (hs : s.size ≤ 100000) : (fInt s).2.1.size ≤ s.size := by unfold fInt; simp
theorem fInt_64 (s : ByteArray) (hs : s.size ≤ 100000) : I64 (fInt s).1 := unzig_in _ (rd_facts s hs).1

theorem live_count (b : Nat) (most : Int) (s : ByteArray) (w : World) (hs : s.size ≤ 100000) (h : PB w b s 0 true) :
    Calls Try.prog 58 #[pt b, .int .i64 most] w (Out b w (.int .i64 (fCount most s).1) (fCount most s).2.1 (fCount most s).2.2) := by
  have H := Lib.hid h
  have F := Lib.hid (show fCount most s = if (fInt s).2.2 ≠ 0 then (0, (fInt s).2.1, (fInt s).2.2) else if (fInt s).1 < 0 then (0, (fInt s).2.1, 4) else if max most 0 < (fInt s).1 then (0, (fInt s).2.1, 3) else ((fInt s).1, (fInt s).2.1, 0) from rfl)
  have B := Lib.hid (fInt_bad s hs)
  have L := Lib.hid (live_int b s w hs h)
  clear h
  obtain ⟨v, t, e, hr⟩ : ∃ v t e, fInt s = (v, t, e) := ⟨_, _, _, rfl⟩
  rw [hr] at F B L
  clear hr
  by_cases he : e = 0
  · subst he
    by_cases h1 : v < 0
    · have E := Lib.hid (show fCount most s = (0, t, 4) by rw [F.out]; simp [h1])
      go_enter Try.func58, Try.ntmps58
      go_wp2_with fail
      refine L.out.mono ?_
      rintro r w1 ⟨rfl, hp, hg⟩
      have HP := Lib.hid hp
      have HG := Lib.hid hg
      clear hp hg
      go_wp2_with fail
      refine (live_fail b t 4 _ HP.out).mono ?_
      rintro r w2 ⟨rfl, hp2, hg2⟩
      have HP2 := Lib.hid hp2
      have HG2 := Lib.hid hg2
      clear hp2 hg2
      go_wp2_with fail
      go_ret
      rw [E.out]
      exact ⟨rfl, HP2.out, gb_trans HG.out HG2.out⟩
    · by_cases h2 : max most 0 < v
      · have E := Lib.hid (show fCount most s = (0, t, 3) by rw [F.out]; simp [h1, h2])
        have h3 : most < v := by omega
        have h4 : 0 < v := by omega
        go_enter Try.func58, Try.ntmps58
        go_wp2_with fail
        refine L.out.mono ?_
        rintro r w1 ⟨rfl, hp, hg⟩
        have HP := Lib.hid hp
        have HG := Lib.hid hg
        clear hp hg
        go_wp2_with fail
        all_goals
          refine (live_fail b t 3 _ HP.out).mono ?_
          rintro r w2 ⟨rfl, hp2, hg2⟩
          have HP2 := Lib.hid hp2
          have HG2 := Lib.hid hg2
          clear hp2 hg2
          go_wp2_with fail
          go_ret
          rw [E.out]
          exact ⟨rfl, HP2.out, gb_trans HG.out HG2.out⟩
      · have E := Lib.hid (show fCount most s = (v, t, 0) by rw [F.out]; simp [h1, h2])
        go_enter Try.func58, Try.ntmps58
        go_wp2_with fail
        refine L.out.mono ?_
        rintro r w1 ⟨rfl, hp, hg⟩
        have HP := Lib.hid hp
        have HG := Lib.hid hg
        clear hp hg
        go_wp2_with fail
        all_goals
          go_ret
          rw [E.out]
          exact ⟨rfl, HP.out, HG.out⟩
  · have E := Lib.hid (show fCount most s = (0, t, e) by rw [F.out]; simp [he])
    obtain rfl : v = 0 := B.out he
    have hm : 0 ≤ max most 0 := by omega
    go_enter Try.func58, Try.ntmps58
    go_wp2_with fail
    refine L.out.mono ?_
    rintro r w1 ⟨rfl, hp, hg⟩
    have HP := Lib.hid hp
    have HG := Lib.hid hg
    clear hp hg
    go_wp2_with fail
    all_goals
      go_ret
      rw [E.out]
      exact ⟨rfl, HP.out, HG.out⟩
end Go.Proofs.Yticlcjabhemdiaa.Wire
