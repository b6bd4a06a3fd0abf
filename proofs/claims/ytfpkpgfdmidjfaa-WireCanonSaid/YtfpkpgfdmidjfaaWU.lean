/- The walk of WireStays. -/
import Derived.Test.YtfpkpgfdmidjfaaWO
import Derived.Test.YtfpkpgfdmidjfaaWQ
set_option linter.unusedVariables false
namespace Go.Proofs.Ytfpkpgfdmidjfaa
open Go.RowKit

theorem hInt_zero (s : ByteArray) (e : Int) (hs : e = 0 → s.size ≤ 100000) (h : (hInt s e).2.2 ≠ 0) : (hInt s e).1 = 0 := by
  unfold hInt at *
  by_cases he : e = 0
  · rw [if_pos he] at *; exact fInt_bad s (hs he) h
  · rw [if_neg he]
theorem hCount_zero (m : Int) (s : ByteArray) (e : Int) (hs : e = 0 → s.size ≤ 100000) (h : (hCount m s e).2.2 ≠ 0) : (hCount m s e).1 = 0 := by
  unfold hCount at *
  by_cases he : e = 0
  · rw [if_pos he] at *; exact fCount_e m s (hs he) h
  · rw [if_neg he]
theorem fText_zero (m : Int) (s : ByteArray) (h : (fText m s).2.2 ≠ 0) : (fText m s).1 = ByteArray.empty := by
  unfold fText fTake at *
  (repeat' split at *) <;> simp_all
theorem hText_zero (m : Int) (s : ByteArray) (e : Int) (h : (hText m s e).2.2 ≠ 0) : (hText m s e).1 = ByteArray.empty := by
  unfold hText at *
  by_cases he : e = 0
  · rw [if_pos he] at *; exact fText_zero m s h
  · rw [if_neg he]
theorem hBool_zero (s : ByteArray) (e : Int) (h : (hBool s e).2.2 ≠ 0) : (hBool s e).1 = false := by
  unfold hBool at *
  by_cases he : e = 0
  · rw [if_pos he] at *
    by_cases h0 : 0 < s.size
    · rw [fBool_cons s h0] at *; split at h <;> simp_all
    · rw [fBool_nil s (by omega)]
  · rw [if_neg he]
theorem hInts_zero (m : Int) (s : ByteArray) (e : Int) (h : (hInts m s e).2.2 ≠ 0) : (hInts m s e).1 = [] := by
  unfold hInts at *
  by_cases he : e = 0
  · rw [if_pos he] at *
    unfold fInts at *
    split at h
    · rw [if_pos (by assumption)]
    · rw [if_neg (by assumption)]; exact gInts_e _ _ h
  · rw [if_neg he]

theorem fTake_size (n : Nat) (s : ByteArray) : (fTake n s).2.1.size ≤ s.size := by unfold fTake; split <;> simp
theorem fText_size (m : Int) (s : ByteArray) (hs : s.size ≤ 100000) : (fText m s).2.1.size ≤ s.size := by
  have h1 := fCount_size m s hs
  have h2 := fTake_size (fCount m s).1.toNat (fCount m s).2.1
  unfold fText; split
  · exact h1
  · omega
theorem fBool_size (s : ByteArray) : (fBool s).2.1.size ≤ s.size := by
  by_cases h0 : 0 < s.size
  · rw [fBool_cons s h0]; split <;> simp
  · rw [fBool_nil s (by omega)]; simp
theorem gInts_size (n : Nat) : ∀ s : ByteArray, s.size ≤ 100000 → (gInts n s).2.1.size ≤ s.size := by
  induction n with
  | zero => intro s h; simp [gInts]
  | succ n ih =>
    intro s h
    have h1 := fInt_size s h
    have h2 := ih (fInt s).2.1 (by omega)
    unfold gInts
    split
    · exact h1
    · split <;> simp <;> omega
theorem fInts_size (m : Int) (s : ByteArray) (hs : s.size ≤ 100000) : (fInts m s).2.1.size ≤ s.size := by
  have h1 := fCount_size m s hs
  have h2 := gInts_size (fCount m s).1.toNat (fCount m s).2.1 (by omega)
  unfold fInts; split
  · exact h1
  · omega
/-- The error stays, and what is left never grows. -/
def Nxt (s : ByteArray) (e : Int) (s1 : ByteArray) (e1 : Int) : Prop := (e ≠ 0 → e1 = e) ∧ (e = 0 → s1.size ≤ s.size)
theorem hInt_nxt (s : ByteArray) (e : Int) (hs : e = 0 → s.size ≤ 100000) : Nxt s e (hInt s e).2.1 (hInt s e).2.2 := by
  unfold hInt
  by_cases he : e = 0
  · rw [if_pos he]; exact ⟨fun h => absurd he h, fun _ => fInt_size s (hs he)⟩
  · rw [if_neg he]; exact ⟨fun _ => rfl, fun h => absurd h he⟩
theorem hCount_nxt (m : Int) (s : ByteArray) (e : Int) (hs : e = 0 → s.size ≤ 100000) : Nxt s e (hCount m s e).2.1 (hCount m s e).2.2 := by
  unfold hCount
  by_cases he : e = 0
  · rw [if_pos he]; exact ⟨fun h => absurd he h, fun _ => fCount_size m s (hs he)⟩
  · rw [if_neg he]; exact ⟨fun _ => rfl, fun h => absurd h he⟩
theorem hText_nxt (m : Int) (s : ByteArray) (e : Int) (hs : e = 0 → s.size ≤ 100000) : Nxt s e (hText m s e).2.1 (hText m s e).2.2 := by
  unfold hText
  by_cases he : e = 0
  · rw [if_pos he]; exact ⟨fun h => absurd he h, fun _ => fText_size m s (hs he)⟩
  · rw [if_neg he]; exact ⟨fun _ => rfl, fun h => absurd h he⟩
theorem hBool_nxt (s : ByteArray) (e : Int) : Nxt s e (hBool s e).2.1 (hBool s e).2.2 := by
  unfold hBool
  by_cases he : e = 0
  · rw [if_pos he]; exact ⟨fun h => absurd he h, fun _ => fBool_size s⟩
  · rw [if_neg he]; exact ⟨fun _ => rfl, fun h => absurd h he⟩
theorem hInts_nxt (m : Int) (s : ByteArray) (e : Int) (hs : e = 0 → s.size ≤ 100000) : Nxt s e (hInts m s e).2.1 (hInts m s e).2.2 := by
  unfold hInts
  by_cases he : e = 0
  · rw [if_pos he]; exact ⟨fun h => absurd he h, fun _ => fInts_size m s (hs he)⟩
  · rw [if_neg he]; exact ⟨fun _ => rfl, fun h => absurd h he⟩
theorem hFail_nxt (f : Int) (s : ByteArray) (e : Int) : Nxt s e s (hFail f e) := by
  unfold hFail
  by_cases he : e = 0
  · rw [if_pos he]; exact ⟨fun h => absurd he h, fun _ => Nat.le_refl _⟩
  · rw [if_neg he]; exact ⟨fun _ => rfl, fun h => absurd h he⟩
theorem stay_nxt (s : ByteArray) (e : Int) : Nxt s e s e := ⟨fun _ => rfl, fun _ => Nat.le_refl _⟩

/-- Block x is a field of the law's own. -/
def XB (w : World) (x : Nat) (k n : Int) (s : ByteArray) (v : Value) : Prop :=
  w.heap[x]? = some (.cells #[.int .i64 k, .int .i64 n, .string s, v] 44 (0, 0))
section
variable {w w' : World} {x : Nat} {k n : Int} {s : ByteArray} {v : Value}
theorem XB.c0 (h : XB w x k n s v) : w.cell? ⟨x, 0, none⟩ = some (.int .i64 k) := cell_of_row w x 0 _ _ (0, 0) h
theorem XB.c1 (h : XB w x k n s v) : w.cell? ⟨x, 1, none⟩ = some (.int .i64 n) := cell_of_row w x 1 _ _ (0, 0) h
theorem XB.c2 (h : XB w x k n s v) : w.cell? ⟨x, 2, none⟩ = some (.string s) := cell_of_row w x 2 _ _ (0, 0) h
theorem XB.c3 (h : XB w x k n s v) : w.cell? ⟨x, 3, none⟩ = some v := cell_of_row w x 3 _ _ (0, 0) h
theorem XB.fr (h : XB w x k n s v) (i : Nat) : w.frozen? ⟨x, i, none⟩ = false := by
  unfold XB at h; simp [World.frozen?, h]
theorem XB.lt (h : XB w x k n s v) : x < w.heap.size := (Array.getElem?_eq_some_iff.1 h).1
theorem XB.kept {r : Option Nat} (h : XB w x k n s v) (hg : w.grownBy w' r) (hne : some x ≠ r) : XB w' x k n s v := (hg.block x h.lt hne).trans h
theorem XB.set1 (h : XB w x k n s v) (m : Int) : XB (w.setCell ⟨x, 1, none⟩ (.int .i64 m)) x k m s v := by
  unfold XB at h ⊢; simp [World.setCell, Array.getElem?_modify, h]
theorem XB.set2 (h : XB w x k n s v) (t : ByteArray) : XB (w.setCell ⟨x, 2, none⟩ (.string t)) x k n t v := by
  unfold XB at h ⊢; simp [World.setCell, Array.getElem?_modify, h]
theorem XB.set3 (h : XB w x k n s v) (u : Value) : XB (w.setCell ⟨x, 3, none⟩ u) x k n s u := by
  unfold XB at h ⊢; simp [World.setCell, Array.getElem?_modify, h]
end

set_option maxRecDepth 100000 in
set_option maxHeartbeats 8000000 in
theorem law_stays (s : ByteArray) (A : Option Addr) (c : Nat) (l : List OpD) (w : World) (hs : s.size ≤ 9223372036854775807) (hl : l.length ≤ 9223372036854775807) (hr : OpsAt w w.heap.size A l) :
    Calls Try.prog 8 #[.string s, .slice A l.length c] w fun r w' => r = .returned (.bool true) ∧ Below w.heap.size w w' := by
  have HR := Lib.hid hr
  clear hr
  by_cases h1 : 500 < s.size
  · go_enter Try.func8, Try.ntmps8
    go_wp2_with fail
    refine (awake_any _).mono ?_
    rintro r w' ⟨rfl, hb⟩
    go_wp2_with fail
    go_ret
    exact ⟨rfl, hb⟩
  by_cases h2 : 30 < l.length
  · go_enter Try.func8, Try.ntmps8
    go_wp2_with fail
    refine (awake_any _).mono ?_
    rintro r w' ⟨rfl, hb⟩
    go_wp2_with fail
    go_ret
    exact ⟨rfl, hb⟩
  have hS : s.size ≤ 100000 := by omega
  obtain ⟨n, hn⟩ : ∃ n, l.length = n := ⟨_, rfl⟩
  have HN := Lib.hid hn
  rw [hn] at hl h2 ⊢
  clear hn
  go_enter Try.func8, Try.ntmps8
  go_wp2_with fail
  refine (new_any s _).mono ?_
  rintro r w1 ⟨rfl, hp, hb⟩
  obtain ⟨b, hbb⟩ : ∃ b, b = w.heap.size := ⟨_, rfl⟩
  have Q1 := Lib.hid (show PB w1 b s 0 true by rw [hbb]; exact hp)
  have B1 := Lib.hid hb
  have hwb : w.heap.size ≤ b := by omega
  rw [← hbb]
  clear hp hb hbb
  go_wp2_with fail
  go_loopw [6, 7, 8, 9] (fun i _ _ _ wr => ∃ (k : Nat) (t : ByteArray) (e : Int), k ≤ n ∧ i = .int .i64 k ∧ PB wr b t e true ∧ (e = 0 → t.size ≤ 100000) ∧ Below w.heap.size w wr) (fun i _ _ _ _ => n - (intOf i).toNat)
  case atStart => exact ⟨0, s, 0, Nat.zero_le _, rfl, Q1.out, fun _ => hS, B1.out⟩
  case round =>
    obtain ⟨k, t, e, hk, rfl, hp, ht, hb⟩ := hrel
    have P := Lib.hid hp
    have T := Lib.hid ht
    have BB := Lib.hid hb
    have hsz := hb.size
    have hbw := hp.lt
    clear hp hb ht
    by_cases hlt : k < n
    · have hkl : k < l.length := by have := HN.out; omega
      obtain ⟨ab, ao, rfl, hab, x0, x1, x2, i0, i1, i2⟩ := ops_below HR.out BB.out k hkl
      generalize l[k] = d at *
      obtain ⟨kd, m, f⟩ := d
      simp only at *
      have hm : m ≤ 9223372036854775807 := i1.2
      have hne : ab ≠ b := by omega
      have habr : ab < wr.heap.size := by omega
      clear hkl i0 i1 i2
      by_cases k0 : kd = 0
      · subst k0
        have NX := Lib.hid (hInt_nxt t e T.out)
        have Z := Lib.hid (hInt_zero t e T.out)
        have L1 := Lib.hid (fun w' (h : PB w' b t e true) => p_int h T.out)
        rcases hq : hInt t e with ⟨v, s1, e1⟩
        rw [hq] at L1 NX Z
        clear hq
        have T3 := Lib.hid (show e1 = 0 → s1.size ≤ 100000 from fun h => by
          by_cases he : e = 0
          · have h1 := NX.out.2 he; have h2 := T.out he; simp only at h1; omega
          · have h1 := NX.out.1 he; simp only at h1; omega)
        have hcase : e ≠ 0 ∧ e1 = e ∨ e = 0 ∧ e1 = 0 ∨ e = 0 ∧ e1 ≠ 0 := by
          by_cases he : e = 0
          · by_cases he1 : e1 = 0
            · exact Or.inr (Or.inl ⟨he, he1⟩)
            · exact Or.inr (Or.inr ⟨he, he1⟩)
          · exact Or.inl ⟨he, NX.out.1 he⟩
        rcases hcase with ⟨he, he1⟩ | ⟨he, he1⟩ | ⟨he, he1⟩
        · subst he1
          have hE1 : (e1 != 0) = true := by simpa using he
          have hE2 : (e1 == 0) = false := by simpa using he
          have hE3 : (e1 != e1) = false := by simp
          obtain rfl := Z.out he
          have HE := Lib.hid he
          clear he
          go_wp2_with fail
          refine (err_live b t _ wr P.out).mono ?_
          rintro r w' ⟨rfl, rfl⟩
          go_wp2_with fail
          obtain ⟨w0, hw0⟩ : ∃ w0, w0 = wr.alloc (Obj.cells #[Value.int .i64 0, Value.int .i64 0, Value.string { data := #[] }, Value.slice none 0 0] 44) := ⟨_, rfl⟩
          rw [← hw0]
          obtain ⟨xb, hxb⟩ : ∃ xb, xb = wr.heap.size := ⟨_, rfl⟩
          rw [← hxb]
          have X0 := Lib.hid (show XB w0 xb 0 0 ByteArray.empty (.slice none 0 0) by rw [hw0, hxb]; exact heap_alloc_new wr _)
          have g0 : wr.grownBy w0 none := by rw [hw0]; exact World.grownBy_alloc wr _ none
          have P0 := Lib.hid (P.out.kept g0 (by simp))
          have B0 := Lib.hid (BB.out.grown g0 hsz (fun k hk => by cases hk))
          have z0 : w.heap.size ≤ w0.heap.size := Nat.le_trans hsz g0.size
          have hxne : xb ≠ b := by omega
          have hxab : xb ≠ ab := by omega
          have hxw : w.heap.size ≤ xb := by omega
          clear hw0 g0 hxb
          refine (L1.out _ P0.out).mono ?_
          rintro r w1 ⟨rfl, hp, hg⟩
          have P1 := Lib.hid hp
          have X1 := Lib.hid (X0.out.kept hg (fun h => hxne (Option.some.inj h)))
          have B1' := Lib.hid (below_gb B0.out hg z0 hwb)
          have z1 : w.heap.size ≤ w1.heap.size := Nat.le_trans z0 hg.size
          clear hp hg
          have f1 := X1.out.c1
          have f2 := X1.out.c2
          have f3 := X1.out.c3
          have fr1 := X1.out.fr 1
          have fr2 := X1.out.fr 2
          have fr3 := X1.out.fr 3
          have P3 := Lib.hid (P1.out.kept (gb_set w1 xb 1 (.int .i64 0)) (fun h => hxne (Option.some.inj h).symm))
          have B3 := Lib.hid (below_gb B1'.out (gb_set w1 xb 1 (.int .i64 0)) z1 hxw)
          clear B1'
          go_wp2_with fail
          refine (err_live b s1 e1 _ P3.out).mono ?_
          rintro r w' ⟨rfl, rfl⟩
          go_wp2_with fail
          refine (dead_end (pt b) _ e1 (pb_dead P3.out HE.out)).mono ?_
          rintro r w' ⟨rfl, rfl⟩
          go_wp2_with fail
          refine (dead_left (pt b) _ e1 (pb_dead P3.out HE.out)).mono ?_
          rintro r w' ⟨rfl, rfl⟩
          go_wp2_with fail
          refine (err_live b s1 _ _ P3.out).mono ?_
          rintro r w' ⟨rfl, rfl⟩
          go_wp2_with fail
          go_roundw
          case rel => exact ⟨k + 1, s1, _, by omega, by go_num, P3.out, fun h => by first | exact T3.out h | exact T3.out trivial, B3.out⟩
          case measure => simp [intOf]; omega
        · subst he he1
          go_wp2_with fail
          refine (err_live b t _ wr P.out).mono ?_
          rintro r w' ⟨rfl, rfl⟩
          go_wp2_with fail
          obtain ⟨w0, hw0⟩ : ∃ w0, w0 = wr.alloc (Obj.cells #[Value.int .i64 0, Value.int .i64 0, Value.string { data := #[] }, Value.slice none 0 0] 44) := ⟨_, rfl⟩
          rw [← hw0]
          obtain ⟨xb, hxb⟩ : ∃ xb, xb = wr.heap.size := ⟨_, rfl⟩
          rw [← hxb]
          have X0 := Lib.hid (show XB w0 xb 0 0 ByteArray.empty (.slice none 0 0) by rw [hw0, hxb]; exact heap_alloc_new wr _)
          have g0 : wr.grownBy w0 none := by rw [hw0]; exact World.grownBy_alloc wr _ none
          have P0 := Lib.hid (P.out.kept g0 (by simp))
          have B0 := Lib.hid (BB.out.grown g0 hsz (fun k hk => by cases hk))
          have z0 : w.heap.size ≤ w0.heap.size := Nat.le_trans hsz g0.size
          have hxne : xb ≠ b := by omega
          have hxab : xb ≠ ab := by omega
          have hxw : w.heap.size ≤ xb := by omega
          clear hw0 g0 hxb
          refine (L1.out _ P0.out).mono ?_
          rintro r w1 ⟨rfl, hp, hg⟩
          have P1 := Lib.hid hp
          have X1 := Lib.hid (X0.out.kept hg (fun h => hxne (Option.some.inj h)))
          have B1' := Lib.hid (below_gb B0.out hg z0 hwb)
          have z1 : w.heap.size ≤ w1.heap.size := Nat.le_trans z0 hg.size
          clear hp hg
          have f1 := X1.out.c1
          have f2 := X1.out.c2
          have f3 := X1.out.c3
          have fr1 := X1.out.fr 1
          have fr2 := X1.out.fr 2
          have fr3 := X1.out.fr 3
          have P3 := Lib.hid (P1.out.kept (gb_set w1 xb 1 (.int .i64 v)) (fun h => hxne (Option.some.inj h).symm))
          have B3 := Lib.hid (below_gb B1'.out (gb_set w1 xb 1 (.int .i64 v)) z1 hxw)
          clear B1'
          go_wp2_with fail
          refine (err_live b s1 _ _ P3.out).mono ?_
          rintro r w' ⟨rfl, rfl⟩
          go_wp2_with fail
          go_roundw
          case rel => exact ⟨k + 1, s1, _, by omega, by go_num, P3.out, fun h => by first | exact T3.out h | exact T3.out trivial, B3.out⟩
          case measure => simp [intOf]; omega
        · subst he
          have hE1 : (e1 != 0) = true := by simpa using he1
          obtain rfl := Z.out he1
          have HE := Lib.hid he1
          clear he1
          go_wp2_with fail
          refine (err_live b t _ wr P.out).mono ?_
          rintro r w' ⟨rfl, rfl⟩
          go_wp2_with fail
          obtain ⟨w0, hw0⟩ : ∃ w0, w0 = wr.alloc (Obj.cells #[Value.int .i64 0, Value.int .i64 0, Value.string { data := #[] }, Value.slice none 0 0] 44) := ⟨_, rfl⟩
          rw [← hw0]
          obtain ⟨xb, hxb⟩ : ∃ xb, xb = wr.heap.size := ⟨_, rfl⟩
          rw [← hxb]
          have X0 := Lib.hid (show XB w0 xb 0 0 ByteArray.empty (.slice none 0 0) by rw [hw0, hxb]; exact heap_alloc_new wr _)
          have g0 : wr.grownBy w0 none := by rw [hw0]; exact World.grownBy_alloc wr _ none
          have P0 := Lib.hid (P.out.kept g0 (by simp))
          have B0 := Lib.hid (BB.out.grown g0 hsz (fun k hk => by cases hk))
          have z0 : w.heap.size ≤ w0.heap.size := Nat.le_trans hsz g0.size
          have hxne : xb ≠ b := by omega
          have hxab : xb ≠ ab := by omega
          have hxw : w.heap.size ≤ xb := by omega
          clear hw0 g0 hxb
          refine (L1.out _ P0.out).mono ?_
          rintro r w1 ⟨rfl, hp, hg⟩
          have P1 := Lib.hid hp
          have X1 := Lib.hid (X0.out.kept hg (fun h => hxne (Option.some.inj h)))
          have B1' := Lib.hid (below_gb B0.out hg z0 hwb)
          have z1 : w.heap.size ≤ w1.heap.size := Nat.le_trans z0 hg.size
          clear hp hg
          have f1 := X1.out.c1
          have f2 := X1.out.c2
          have f3 := X1.out.c3
          have fr1 := X1.out.fr 1
          have fr2 := X1.out.fr 2
          have fr3 := X1.out.fr 3
          have P3 := Lib.hid (P1.out.kept (gb_set w1 xb 1 (.int .i64 0)) (fun h => hxne (Option.some.inj h).symm))
          have B3 := Lib.hid (below_gb B1'.out (gb_set w1 xb 1 (.int .i64 0)) z1 hxw)
          clear B1'
          go_wp2_with fail
          refine (err_live b s1 _ _ P3.out).mono ?_
          rintro r w' ⟨rfl, rfl⟩
          go_wp2_with fail
          go_roundw
          case rel => exact ⟨k + 1, s1, _, by omega, by go_num, P3.out, fun h => by first | exact T3.out h | exact T3.out trivial, B3.out⟩
          case measure => simp [intOf]; omega
      by_cases k1 : kd = 1
      · subst k1
        have NX := Lib.hid (hText_nxt m t e T.out)
        have Z := Lib.hid (hText_zero m t e)
        have L1 := Lib.hid (fun w' (h : PB w' b t e true) => p_text m hm h T.out)
        rcases hq : hText m t e with ⟨v, s1, e1⟩
        rw [hq] at L1 NX Z
        clear hq
        have T3 := Lib.hid (show e1 = 0 → s1.size ≤ 100000 from fun h => by
          by_cases he : e = 0
          · have h1 := NX.out.2 he; have h2 := T.out he; simp only at h1; omega
          · have h1 := NX.out.1 he; simp only at h1; omega)
        have hcase : e ≠ 0 ∧ e1 = e ∨ e = 0 ∧ e1 = 0 ∨ e = 0 ∧ e1 ≠ 0 := by
          by_cases he : e = 0
          · by_cases he1 : e1 = 0
            · exact Or.inr (Or.inl ⟨he, he1⟩)
            · exact Or.inr (Or.inr ⟨he, he1⟩)
          · exact Or.inl ⟨he, NX.out.1 he⟩
        rcases hcase with ⟨he, he1⟩ | ⟨he, he1⟩ | ⟨he, he1⟩
        · subst he1
          have hE1 : (e1 != 0) = true := by simpa using he
          have hE2 : (e1 == 0) = false := by simpa using he
          have hE3 : (e1 != e1) = false := by simp
          obtain rfl := Z.out he
          have HE := Lib.hid he
          clear he
          go_wp2_with fail
          refine (err_live b t _ wr P.out).mono ?_
          rintro r w' ⟨rfl, rfl⟩
          go_wp2_with fail
          obtain ⟨w0, hw0⟩ : ∃ w0, w0 = wr.alloc (Obj.cells #[Value.int .i64 0, Value.int .i64 0, Value.string { data := #[] }, Value.slice none 0 0] 44) := ⟨_, rfl⟩
          rw [← hw0]
          obtain ⟨xb, hxb⟩ : ∃ xb, xb = wr.heap.size := ⟨_, rfl⟩
          rw [← hxb]
          have X0 := Lib.hid (show XB w0 xb 0 0 ByteArray.empty (.slice none 0 0) by rw [hw0, hxb]; exact heap_alloc_new wr _)
          have g0 : wr.grownBy w0 none := by rw [hw0]; exact World.grownBy_alloc wr _ none
          have P0 := Lib.hid (P.out.kept g0 (by simp))
          have B0 := Lib.hid (BB.out.grown g0 hsz (fun k hk => by cases hk))
          have z0 : w.heap.size ≤ w0.heap.size := Nat.le_trans hsz g0.size
          have hxne : xb ≠ b := by omega
          have hxab : xb ≠ ab := by omega
          have hxw : w.heap.size ≤ xb := by omega
          clear hw0 g0 hxb
          refine (L1.out _ P0.out).mono ?_
          rintro r w1 ⟨rfl, hp, hg⟩
          have P1 := Lib.hid hp
          have X1 := Lib.hid (X0.out.kept hg (fun h => hxne (Option.some.inj h)))
          have B1' := Lib.hid (below_gb B0.out hg z0 hwb)
          have z1 : w.heap.size ≤ w1.heap.size := Nat.le_trans z0 hg.size
          clear hp hg
          have f1 := X1.out.c1
          have f2 := X1.out.c2
          have f3 := X1.out.c3
          have fr1 := X1.out.fr 1
          have fr2 := X1.out.fr 2
          have fr3 := X1.out.fr 3
          have P3 := Lib.hid (P1.out.kept (gb_set w1 xb 2 (.string ByteArray.empty)) (fun h => hxne (Option.some.inj h).symm))
          have B3 := Lib.hid (below_gb B1'.out (gb_set w1 xb 2 (.string ByteArray.empty)) z1 hxw)
          clear B1'
          go_wp2_with fail
          refine (err_live b s1 e1 _ P3.out).mono ?_
          rintro r w' ⟨rfl, rfl⟩
          go_wp2_with fail
          refine (dead_end (pt b) _ e1 (pb_dead P3.out HE.out)).mono ?_
          rintro r w' ⟨rfl, rfl⟩
          go_wp2_with fail
          refine (dead_left (pt b) _ e1 (pb_dead P3.out HE.out)).mono ?_
          rintro r w' ⟨rfl, rfl⟩
          go_wp2_with fail
          refine (err_live b s1 _ _ P3.out).mono ?_
          rintro r w' ⟨rfl, rfl⟩
          go_wp2_with fail
          go_roundw
          case rel => exact ⟨k + 1, s1, _, by omega, by go_num, P3.out, fun h => by first | exact T3.out h | exact T3.out trivial, B3.out⟩
          case measure => simp [intOf]; omega
        · subst he he1
          go_wp2_with fail
          refine (err_live b t _ wr P.out).mono ?_
          rintro r w' ⟨rfl, rfl⟩
          go_wp2_with fail
          obtain ⟨w0, hw0⟩ : ∃ w0, w0 = wr.alloc (Obj.cells #[Value.int .i64 0, Value.int .i64 0, Value.string { data := #[] }, Value.slice none 0 0] 44) := ⟨_, rfl⟩
          rw [← hw0]
          obtain ⟨xb, hxb⟩ : ∃ xb, xb = wr.heap.size := ⟨_, rfl⟩
          rw [← hxb]
          have X0 := Lib.hid (show XB w0 xb 0 0 ByteArray.empty (.slice none 0 0) by rw [hw0, hxb]; exact heap_alloc_new wr _)
          have g0 : wr.grownBy w0 none := by rw [hw0]; exact World.grownBy_alloc wr _ none
          have P0 := Lib.hid (P.out.kept g0 (by simp))
          have B0 := Lib.hid (BB.out.grown g0 hsz (fun k hk => by cases hk))
          have z0 : w.heap.size ≤ w0.heap.size := Nat.le_trans hsz g0.size
          have hxne : xb ≠ b := by omega
          have hxab : xb ≠ ab := by omega
          have hxw : w.heap.size ≤ xb := by omega
          clear hw0 g0 hxb
          refine (L1.out _ P0.out).mono ?_
          rintro r w1 ⟨rfl, hp, hg⟩
          have P1 := Lib.hid hp
          have X1 := Lib.hid (X0.out.kept hg (fun h => hxne (Option.some.inj h)))
          have B1' := Lib.hid (below_gb B0.out hg z0 hwb)
          have z1 : w.heap.size ≤ w1.heap.size := Nat.le_trans z0 hg.size
          clear hp hg
          have f1 := X1.out.c1
          have f2 := X1.out.c2
          have f3 := X1.out.c3
          have fr1 := X1.out.fr 1
          have fr2 := X1.out.fr 2
          have fr3 := X1.out.fr 3
          have P3 := Lib.hid (P1.out.kept (gb_set w1 xb 2 (.string v)) (fun h => hxne (Option.some.inj h).symm))
          have B3 := Lib.hid (below_gb B1'.out (gb_set w1 xb 2 (.string v)) z1 hxw)
          clear B1'
          go_wp2_with fail
          refine (err_live b s1 _ _ P3.out).mono ?_
          rintro r w' ⟨rfl, rfl⟩
          go_wp2_with fail
          go_roundw
          case rel => exact ⟨k + 1, s1, _, by omega, by go_num, P3.out, fun h => by first | exact T3.out h | exact T3.out trivial, B3.out⟩
          case measure => simp [intOf]; omega
        · subst he
          have hE1 : (e1 != 0) = true := by simpa using he1
          obtain rfl := Z.out he1
          have HE := Lib.hid he1
          clear he1
          go_wp2_with fail
          refine (err_live b t _ wr P.out).mono ?_
          rintro r w' ⟨rfl, rfl⟩
          go_wp2_with fail
          obtain ⟨w0, hw0⟩ : ∃ w0, w0 = wr.alloc (Obj.cells #[Value.int .i64 0, Value.int .i64 0, Value.string { data := #[] }, Value.slice none 0 0] 44) := ⟨_, rfl⟩
          rw [← hw0]
          obtain ⟨xb, hxb⟩ : ∃ xb, xb = wr.heap.size := ⟨_, rfl⟩
          rw [← hxb]
          have X0 := Lib.hid (show XB w0 xb 0 0 ByteArray.empty (.slice none 0 0) by rw [hw0, hxb]; exact heap_alloc_new wr _)
          have g0 : wr.grownBy w0 none := by rw [hw0]; exact World.grownBy_alloc wr _ none
          have P0 := Lib.hid (P.out.kept g0 (by simp))
          have B0 := Lib.hid (BB.out.grown g0 hsz (fun k hk => by cases hk))
          have z0 : w.heap.size ≤ w0.heap.size := Nat.le_trans hsz g0.size
          have hxne : xb ≠ b := by omega
          have hxab : xb ≠ ab := by omega
          have hxw : w.heap.size ≤ xb := by omega
          clear hw0 g0 hxb
          refine (L1.out _ P0.out).mono ?_
          rintro r w1 ⟨rfl, hp, hg⟩
          have P1 := Lib.hid hp
          have X1 := Lib.hid (X0.out.kept hg (fun h => hxne (Option.some.inj h)))
          have B1' := Lib.hid (below_gb B0.out hg z0 hwb)
          have z1 : w.heap.size ≤ w1.heap.size := Nat.le_trans z0 hg.size
          clear hp hg
          have f1 := X1.out.c1
          have f2 := X1.out.c2
          have f3 := X1.out.c3
          have fr1 := X1.out.fr 1
          have fr2 := X1.out.fr 2
          have fr3 := X1.out.fr 3
          have P3 := Lib.hid (P1.out.kept (gb_set w1 xb 2 (.string ByteArray.empty)) (fun h => hxne (Option.some.inj h).symm))
          have B3 := Lib.hid (below_gb B1'.out (gb_set w1 xb 2 (.string ByteArray.empty)) z1 hxw)
          clear B1'
          go_wp2_with fail
          refine (err_live b s1 _ _ P3.out).mono ?_
          rintro r w' ⟨rfl, rfl⟩
          go_wp2_with fail
          go_roundw
          case rel => exact ⟨k + 1, s1, _, by omega, by go_num, P3.out, fun h => by first | exact T3.out h | exact T3.out trivial, B3.out⟩
          case measure => simp [intOf]; omega
      by_cases k2 : kd = 2
      · subst k2
        have NX := Lib.hid (hBool_nxt t e)
        have Z := Lib.hid (hBool_zero t e)
        have L1 := Lib.hid (fun w' (h : PB w' b t e true) => p_bool h T.out)
        rcases hq : hBool t e with ⟨v, s1, e1⟩
        rw [hq] at L1 NX Z
        clear hq
        have T3 := Lib.hid (show e1 = 0 → s1.size ≤ 100000 from fun h => by
          by_cases he : e = 0
          · have h1 := NX.out.2 he; have h2 := T.out he; simp only at h1; omega
          · have h1 := NX.out.1 he; simp only at h1; omega)
        have hcase : e ≠ 0 ∧ e1 = e ∨ e = 0 ∧ e1 = 0 ∨ e = 0 ∧ e1 ≠ 0 := by
          by_cases he : e = 0
          · by_cases he1 : e1 = 0
            · exact Or.inr (Or.inl ⟨he, he1⟩)
            · exact Or.inr (Or.inr ⟨he, he1⟩)
          · exact Or.inl ⟨he, NX.out.1 he⟩
        rcases hcase with ⟨he, he1⟩ | ⟨he, he1⟩ | ⟨he, he1⟩
        · subst he1
          have hE1 : (e1 != 0) = true := by simpa using he
          have hE2 : (e1 == 0) = false := by simpa using he
          have hE3 : (e1 != e1) = false := by simp
          obtain rfl := Z.out he
          have HE := Lib.hid he
          clear he
          go_wp2_with fail
          refine (err_live b t _ wr P.out).mono ?_
          rintro r w' ⟨rfl, rfl⟩
          go_wp2_with fail
          obtain ⟨w0, hw0⟩ : ∃ w0, w0 = wr.alloc (Obj.cells #[Value.int .i64 0, Value.int .i64 0, Value.string { data := #[] }, Value.slice none 0 0] 44) := ⟨_, rfl⟩
          rw [← hw0]
          obtain ⟨xb, hxb⟩ : ∃ xb, xb = wr.heap.size := ⟨_, rfl⟩
          rw [← hxb]
          have X0 := Lib.hid (show XB w0 xb 0 0 ByteArray.empty (.slice none 0 0) by rw [hw0, hxb]; exact heap_alloc_new wr _)
          have g0 : wr.grownBy w0 none := by rw [hw0]; exact World.grownBy_alloc wr _ none
          have P0 := Lib.hid (P.out.kept g0 (by simp))
          have B0 := Lib.hid (BB.out.grown g0 hsz (fun k hk => by cases hk))
          have z0 : w.heap.size ≤ w0.heap.size := Nat.le_trans hsz g0.size
          have hxne : xb ≠ b := by omega
          have hxab : xb ≠ ab := by omega
          have hxw : w.heap.size ≤ xb := by omega
          clear hw0 g0 hxb
          refine (L1.out _ P0.out).mono ?_
          rintro r w1 ⟨rfl, hp, hg⟩
          have P1 := Lib.hid hp
          have X1 := Lib.hid (X0.out.kept hg (fun h => hxne (Option.some.inj h)))
          have B1' := Lib.hid (below_gb B0.out hg z0 hwb)
          have z1 : w.heap.size ≤ w1.heap.size := Nat.le_trans z0 hg.size
          clear hp hg
          have f1 := X1.out.c1
          have f2 := X1.out.c2
          have f3 := X1.out.c3
          have fr1 := X1.out.fr 1
          have fr2 := X1.out.fr 2
          have fr3 := X1.out.fr 3
          have P3 := P1
          have B3 := B1'
          clear B1'
          go_wp2_with fail
          refine (err_live b s1 e1 _ P3.out).mono ?_
          rintro r w' ⟨rfl, rfl⟩
          go_wp2_with fail
          refine (dead_end (pt b) _ e1 (pb_dead P3.out HE.out)).mono ?_
          rintro r w' ⟨rfl, rfl⟩
          go_wp2_with fail
          refine (dead_left (pt b) _ e1 (pb_dead P3.out HE.out)).mono ?_
          rintro r w' ⟨rfl, rfl⟩
          go_wp2_with fail
          refine (err_live b s1 _ _ P3.out).mono ?_
          rintro r w' ⟨rfl, rfl⟩
          go_wp2_with fail
          go_roundw
          case rel => exact ⟨k + 1, s1, _, by omega, by go_num, P3.out, fun h => by first | exact T3.out h | exact T3.out trivial, B3.out⟩
          case measure => simp [intOf]; omega
        · subst he he1
          go_wp2_with fail
          refine (err_live b t _ wr P.out).mono ?_
          rintro r w' ⟨rfl, rfl⟩
          go_wp2_with fail
          obtain ⟨w0, hw0⟩ : ∃ w0, w0 = wr.alloc (Obj.cells #[Value.int .i64 0, Value.int .i64 0, Value.string { data := #[] }, Value.slice none 0 0] 44) := ⟨_, rfl⟩
          rw [← hw0]
          obtain ⟨xb, hxb⟩ : ∃ xb, xb = wr.heap.size := ⟨_, rfl⟩
          rw [← hxb]
          have X0 := Lib.hid (show XB w0 xb 0 0 ByteArray.empty (.slice none 0 0) by rw [hw0, hxb]; exact heap_alloc_new wr _)
          have g0 : wr.grownBy w0 none := by rw [hw0]; exact World.grownBy_alloc wr _ none
          have P0 := Lib.hid (P.out.kept g0 (by simp))
          have B0 := Lib.hid (BB.out.grown g0 hsz (fun k hk => by cases hk))
          have z0 : w.heap.size ≤ w0.heap.size := Nat.le_trans hsz g0.size
          have hxne : xb ≠ b := by omega
          have hxab : xb ≠ ab := by omega
          have hxw : w.heap.size ≤ xb := by omega
          clear hw0 g0 hxb
          refine (L1.out _ P0.out).mono ?_
          rintro r w1 ⟨rfl, hp, hg⟩
          have P1 := Lib.hid hp
          have X1 := Lib.hid (X0.out.kept hg (fun h => hxne (Option.some.inj h)))
          have B1' := Lib.hid (below_gb B0.out hg z0 hwb)
          have z1 : w.heap.size ≤ w1.heap.size := Nat.le_trans z0 hg.size
          clear hp hg
          have f1 := X1.out.c1
          have f2 := X1.out.c2
          have f3 := X1.out.c3
          have fr1 := X1.out.fr 1
          have fr2 := X1.out.fr 2
          have fr3 := X1.out.fr 3
          cases v
          · have P3 := P1
            have B3 := B1'
            clear B1'
            go_wp2_with fail
            refine (err_live b s1 _ _ P3.out).mono ?_
            rintro r w' ⟨rfl, rfl⟩
            go_wp2_with fail
            go_roundw
            case rel => exact ⟨k + 1, s1, _, by omega, by go_num, P3.out, fun h => by first | exact T3.out h | exact T3.out trivial, B3.out⟩
            case measure => simp [intOf]; omega
          · have P3 := Lib.hid (P1.out.kept (gb_set w1 xb 1 (.int .i64 1)) (fun h => hxne (Option.some.inj h).symm))
            have B3 := Lib.hid (below_gb B1'.out (gb_set w1 xb 1 (.int .i64 1)) z1 hxw)
            clear B1'
            go_wp2_with fail
            refine (err_live b s1 _ _ P3.out).mono ?_
            rintro r w' ⟨rfl, rfl⟩
            go_wp2_with fail
            go_roundw
            case rel => exact ⟨k + 1, s1, _, by omega, by go_num, P3.out, fun h => by first | exact T3.out h | exact T3.out trivial, B3.out⟩
            case measure => simp [intOf]; omega
        · subst he
          have hE1 : (e1 != 0) = true := by simpa using he1
          obtain rfl := Z.out he1
          have HE := Lib.hid he1
          clear he1
          go_wp2_with fail
          refine (err_live b t _ wr P.out).mono ?_
          rintro r w' ⟨rfl, rfl⟩
          go_wp2_with fail
          obtain ⟨w0, hw0⟩ : ∃ w0, w0 = wr.alloc (Obj.cells #[Value.int .i64 0, Value.int .i64 0, Value.string { data := #[] }, Value.slice none 0 0] 44) := ⟨_, rfl⟩
          rw [← hw0]
          obtain ⟨xb, hxb⟩ : ∃ xb, xb = wr.heap.size := ⟨_, rfl⟩
          rw [← hxb]
          have X0 := Lib.hid (show XB w0 xb 0 0 ByteArray.empty (.slice none 0 0) by rw [hw0, hxb]; exact heap_alloc_new wr _)
          have g0 : wr.grownBy w0 none := by rw [hw0]; exact World.grownBy_alloc wr _ none
          have P0 := Lib.hid (P.out.kept g0 (by simp))
          have B0 := Lib.hid (BB.out.grown g0 hsz (fun k hk => by cases hk))
          have z0 : w.heap.size ≤ w0.heap.size := Nat.le_trans hsz g0.size
          have hxne : xb ≠ b := by omega
          have hxab : xb ≠ ab := by omega
          have hxw : w.heap.size ≤ xb := by omega
          clear hw0 g0 hxb
          refine (L1.out _ P0.out).mono ?_
          rintro r w1 ⟨rfl, hp, hg⟩
          have P1 := Lib.hid hp
          have X1 := Lib.hid (X0.out.kept hg (fun h => hxne (Option.some.inj h)))
          have B1' := Lib.hid (below_gb B0.out hg z0 hwb)
          have z1 : w.heap.size ≤ w1.heap.size := Nat.le_trans z0 hg.size
          clear hp hg
          have f1 := X1.out.c1
          have f2 := X1.out.c2
          have f3 := X1.out.c3
          have fr1 := X1.out.fr 1
          have fr2 := X1.out.fr 2
          have fr3 := X1.out.fr 3
          have P3 := P1
          have B3 := B1'
          clear B1'
          go_wp2_with fail
          refine (err_live b s1 _ _ P3.out).mono ?_
          rintro r w' ⟨rfl, rfl⟩
          go_wp2_with fail
          go_roundw
          case rel => exact ⟨k + 1, s1, _, by omega, by go_num, P3.out, fun h => by first | exact T3.out h | exact T3.out trivial, B3.out⟩
          case measure => simp [intOf]; omega
      by_cases k3 : kd = 3
      · subst k3
        have NX := Lib.hid (hCount_nxt m t e T.out)
        have Z := Lib.hid (hCount_zero m t e T.out)
        have L1 := Lib.hid (fun w' (h : PB w' b t e true) => p_count m h T.out)
        rcases hq : hCount m t e with ⟨v, s1, e1⟩
        rw [hq] at L1 NX Z
        clear hq
        have T3 := Lib.hid (show e1 = 0 → s1.size ≤ 100000 from fun h => by
          by_cases he : e = 0
          · have h1 := NX.out.2 he; have h2 := T.out he; simp only at h1; omega
          · have h1 := NX.out.1 he; simp only at h1; omega)
        have hcase : e ≠ 0 ∧ e1 = e ∨ e = 0 ∧ e1 = 0 ∨ e = 0 ∧ e1 ≠ 0 := by
          by_cases he : e = 0
          · by_cases he1 : e1 = 0
            · exact Or.inr (Or.inl ⟨he, he1⟩)
            · exact Or.inr (Or.inr ⟨he, he1⟩)
          · exact Or.inl ⟨he, NX.out.1 he⟩
        rcases hcase with ⟨he, he1⟩ | ⟨he, he1⟩ | ⟨he, he1⟩
        · subst he1
          have hE1 : (e1 != 0) = true := by simpa using he
          have hE2 : (e1 == 0) = false := by simpa using he
          have hE3 : (e1 != e1) = false := by simp
          obtain rfl := Z.out he
          have HE := Lib.hid he
          clear he
          go_wp2_with fail
          refine (err_live b t _ wr P.out).mono ?_
          rintro r w' ⟨rfl, rfl⟩
          go_wp2_with fail
          obtain ⟨w0, hw0⟩ : ∃ w0, w0 = wr.alloc (Obj.cells #[Value.int .i64 0, Value.int .i64 0, Value.string { data := #[] }, Value.slice none 0 0] 44) := ⟨_, rfl⟩
          rw [← hw0]
          obtain ⟨xb, hxb⟩ : ∃ xb, xb = wr.heap.size := ⟨_, rfl⟩
          rw [← hxb]
          have X0 := Lib.hid (show XB w0 xb 0 0 ByteArray.empty (.slice none 0 0) by rw [hw0, hxb]; exact heap_alloc_new wr _)
          have g0 : wr.grownBy w0 none := by rw [hw0]; exact World.grownBy_alloc wr _ none
          have P0 := Lib.hid (P.out.kept g0 (by simp))
          have B0 := Lib.hid (BB.out.grown g0 hsz (fun k hk => by cases hk))
          have z0 : w.heap.size ≤ w0.heap.size := Nat.le_trans hsz g0.size
          have hxne : xb ≠ b := by omega
          have hxab : xb ≠ ab := by omega
          have hxw : w.heap.size ≤ xb := by omega
          clear hw0 g0 hxb
          refine (L1.out _ P0.out).mono ?_
          rintro r w1 ⟨rfl, hp, hg⟩
          have P1 := Lib.hid hp
          have X1 := Lib.hid (X0.out.kept hg (fun h => hxne (Option.some.inj h)))
          have B1' := Lib.hid (below_gb B0.out hg z0 hwb)
          have z1 : w.heap.size ≤ w1.heap.size := Nat.le_trans z0 hg.size
          clear hp hg
          have f1 := X1.out.c1
          have f2 := X1.out.c2
          have f3 := X1.out.c3
          have fr1 := X1.out.fr 1
          have fr2 := X1.out.fr 2
          have fr3 := X1.out.fr 3
          have P3 := P1
          have B3 := B1'
          clear B1'
          go_wp2_with fail
          refine (err_live b s1 e1 _ P3.out).mono ?_
          rintro r w' ⟨rfl, rfl⟩
          go_wp2_with fail
          refine (dead_end (pt b) _ e1 (pb_dead P3.out HE.out)).mono ?_
          rintro r w' ⟨rfl, rfl⟩
          go_wp2_with fail
          refine (dead_left (pt b) _ e1 (pb_dead P3.out HE.out)).mono ?_
          rintro r w' ⟨rfl, rfl⟩
          go_wp2_with fail
          refine (err_live b s1 _ _ P3.out).mono ?_
          rintro r w' ⟨rfl, rfl⟩
          go_wp2_with fail
          go_roundw
          case rel => exact ⟨k + 1, s1, _, by omega, by go_num, P3.out, fun h => by first | exact T3.out h | exact T3.out trivial, B3.out⟩
          case measure => simp [intOf]; omega
        · subst he he1
          go_wp2_with fail
          refine (err_live b t _ wr P.out).mono ?_
          rintro r w' ⟨rfl, rfl⟩
          go_wp2_with fail
          obtain ⟨w0, hw0⟩ : ∃ w0, w0 = wr.alloc (Obj.cells #[Value.int .i64 0, Value.int .i64 0, Value.string { data := #[] }, Value.slice none 0 0] 44) := ⟨_, rfl⟩
          rw [← hw0]
          obtain ⟨xb, hxb⟩ : ∃ xb, xb = wr.heap.size := ⟨_, rfl⟩
          rw [← hxb]
          have X0 := Lib.hid (show XB w0 xb 0 0 ByteArray.empty (.slice none 0 0) by rw [hw0, hxb]; exact heap_alloc_new wr _)
          have g0 : wr.grownBy w0 none := by rw [hw0]; exact World.grownBy_alloc wr _ none
          have P0 := Lib.hid (P.out.kept g0 (by simp))
          have B0 := Lib.hid (BB.out.grown g0 hsz (fun k hk => by cases hk))
          have z0 : w.heap.size ≤ w0.heap.size := Nat.le_trans hsz g0.size
          have hxne : xb ≠ b := by omega
          have hxab : xb ≠ ab := by omega
          have hxw : w.heap.size ≤ xb := by omega
          clear hw0 g0 hxb
          refine (L1.out _ P0.out).mono ?_
          rintro r w1 ⟨rfl, hp, hg⟩
          have P1 := Lib.hid hp
          have X1 := Lib.hid (X0.out.kept hg (fun h => hxne (Option.some.inj h)))
          have B1' := Lib.hid (below_gb B0.out hg z0 hwb)
          have z1 : w.heap.size ≤ w1.heap.size := Nat.le_trans z0 hg.size
          clear hp hg
          have f1 := X1.out.c1
          have f2 := X1.out.c2
          have f3 := X1.out.c3
          have fr1 := X1.out.fr 1
          have fr2 := X1.out.fr 2
          have fr3 := X1.out.fr 3
          have P3 := P1
          have B3 := B1'
          clear B1'
          go_wp2_with fail
          refine (err_live b s1 _ _ P3.out).mono ?_
          rintro r w' ⟨rfl, rfl⟩
          go_wp2_with fail
          go_roundw
          case rel => exact ⟨k + 1, s1, _, by omega, by go_num, P3.out, fun h => by first | exact T3.out h | exact T3.out trivial, B3.out⟩
          case measure => simp [intOf]; omega
        · subst he
          have hE1 : (e1 != 0) = true := by simpa using he1
          obtain rfl := Z.out he1
          have HE := Lib.hid he1
          clear he1
          go_wp2_with fail
          refine (err_live b t _ wr P.out).mono ?_
          rintro r w' ⟨rfl, rfl⟩
          go_wp2_with fail
          obtain ⟨w0, hw0⟩ : ∃ w0, w0 = wr.alloc (Obj.cells #[Value.int .i64 0, Value.int .i64 0, Value.string { data := #[] }, Value.slice none 0 0] 44) := ⟨_, rfl⟩
          rw [← hw0]
          obtain ⟨xb, hxb⟩ : ∃ xb, xb = wr.heap.size := ⟨_, rfl⟩
          rw [← hxb]
          have X0 := Lib.hid (show XB w0 xb 0 0 ByteArray.empty (.slice none 0 0) by rw [hw0, hxb]; exact heap_alloc_new wr _)
          have g0 : wr.grownBy w0 none := by rw [hw0]; exact World.grownBy_alloc wr _ none
          have P0 := Lib.hid (P.out.kept g0 (by simp))
          have B0 := Lib.hid (BB.out.grown g0 hsz (fun k hk => by cases hk))
          have z0 : w.heap.size ≤ w0.heap.size := Nat.le_trans hsz g0.size
          have hxne : xb ≠ b := by omega
          have hxab : xb ≠ ab := by omega
          have hxw : w.heap.size ≤ xb := by omega
          clear hw0 g0 hxb
          refine (L1.out _ P0.out).mono ?_
          rintro r w1 ⟨rfl, hp, hg⟩
          have P1 := Lib.hid hp
          have X1 := Lib.hid (X0.out.kept hg (fun h => hxne (Option.some.inj h)))
          have B1' := Lib.hid (below_gb B0.out hg z0 hwb)
          have z1 : w.heap.size ≤ w1.heap.size := Nat.le_trans z0 hg.size
          clear hp hg
          have f1 := X1.out.c1
          have f2 := X1.out.c2
          have f3 := X1.out.c3
          have fr1 := X1.out.fr 1
          have fr2 := X1.out.fr 2
          have fr3 := X1.out.fr 3
          have P3 := P1
          have B3 := B1'
          clear B1'
          go_wp2_with fail
          refine (err_live b s1 _ _ P3.out).mono ?_
          rintro r w' ⟨rfl, rfl⟩
          go_wp2_with fail
          go_roundw
          case rel => exact ⟨k + 1, s1, _, by omega, by go_num, P3.out, fun h => by first | exact T3.out h | exact T3.out trivial, B3.out⟩
          case measure => simp [intOf]; omega
      by_cases k4 : kd = 4
      · subst k4
        have NX := Lib.hid (hInts_nxt m t e T.out)
        have Z := Lib.hid (hInts_zero m t e)
        have HLEN := Lib.hid (hInts_len m t e T.out)
        have L1 := Lib.hid (fun w' (h : PB w' b t e true) => p_ints m hm h T.out)
        rcases hq : hInts m t e with ⟨v, s1, e1⟩
        rw [hq] at L1 NX Z HLEN
        clear hq
        have T3 := Lib.hid (show e1 = 0 → s1.size ≤ 100000 from fun h => by
          by_cases he : e = 0
          · have h1 := NX.out.2 he; have h2 := T.out he; simp only at h1; omega
          · have h1 := NX.out.1 he; simp only at h1; omega)
        have hcase : e ≠ 0 ∧ e1 = e ∨ e = 0 ∧ e1 = 0 ∨ e = 0 ∧ e1 ≠ 0 := by
          by_cases he : e = 0
          · by_cases he1 : e1 = 0
            · exact Or.inr (Or.inl ⟨he, he1⟩)
            · exact Or.inr (Or.inr ⟨he, he1⟩)
          · exact Or.inl ⟨he, NX.out.1 he⟩
        rcases hcase with ⟨he, he1⟩ | ⟨he, he1⟩ | ⟨he, he1⟩
        · subst he1
          have hE1 : (e1 != 0) = true := by simpa using he
          have hE2 : (e1 == 0) = false := by simpa using he
          have hE3 : (e1 != e1) = false := by simp
          obtain rfl := Z.out he
          have HE := Lib.hid he
          clear he
          go_wp2_with fail
          refine (err_live b t _ wr P.out).mono ?_
          rintro r w' ⟨rfl, rfl⟩
          go_wp2_with fail
          obtain ⟨w0, hw0⟩ : ∃ w0, w0 = wr.alloc (Obj.cells #[Value.int .i64 0, Value.int .i64 0, Value.string { data := #[] }, Value.slice none 0 0] 44) := ⟨_, rfl⟩
          rw [← hw0]
          obtain ⟨xb, hxb⟩ : ∃ xb, xb = wr.heap.size := ⟨_, rfl⟩
          rw [← hxb]
          have X0 := Lib.hid (show XB w0 xb 0 0 ByteArray.empty (.slice none 0 0) by rw [hw0, hxb]; exact heap_alloc_new wr _)
          have g0 : wr.grownBy w0 none := by rw [hw0]; exact World.grownBy_alloc wr _ none
          have P0 := Lib.hid (P.out.kept g0 (by simp))
          have B0 := Lib.hid (BB.out.grown g0 hsz (fun k hk => by cases hk))
          have z0 : w.heap.size ≤ w0.heap.size := Nat.le_trans hsz g0.size
          have hxne : xb ≠ b := by omega
          have hxab : xb ≠ ab := by omega
          have hxw : w.heap.size ≤ xb := by omega
          clear hw0 g0 hxb
          refine (L1.out _ P0.out).mono ?_
          rintro r w1 ⟨v1, rfl, hp, hg, hown⟩
          obtain ⟨A1, c1, e1v, i1⟩ := own_ints hown rfl
          subst e1v
          clear hown i1
          have P1 := Lib.hid hp
          have X1 := Lib.hid (X0.out.kept hg (fun h => hxne (Option.some.inj h)))
          have B1' := Lib.hid (below_gb B0.out hg z0 hwb)
          have z1 : w.heap.size ≤ w1.heap.size := Nat.le_trans z0 hg.size
          clear hp hg
          have f1 := X1.out.c1
          have f2 := X1.out.c2
          have f3 := X1.out.c3
          have fr1 := X1.out.fr 1
          have fr2 := X1.out.fr 2
          have fr3 := X1.out.fr 3
          have P3 := Lib.hid (P1.out.kept (gb_set w1 xb 3 (.slice A1 0 c1)) (fun h => hxne (Option.some.inj h).symm))
          have B3 := Lib.hid (below_gb B1'.out (gb_set w1 xb 3 (.slice A1 0 c1)) z1 hxw)
          clear B1'
          go_wp2_with fail
          refine (err_live b s1 e1 _ P3.out).mono ?_
          rintro r w' ⟨rfl, rfl⟩
          go_wp2_with fail
          refine (dead_end (pt b) _ e1 (pb_dead P3.out HE.out)).mono ?_
          rintro r w' ⟨rfl, rfl⟩
          go_wp2_with fail
          refine (dead_left (pt b) _ e1 (pb_dead P3.out HE.out)).mono ?_
          rintro r w' ⟨rfl, rfl⟩
          go_wp2_with fail
          refine (err_live b s1 _ _ P3.out).mono ?_
          rintro r w' ⟨rfl, rfl⟩
          go_wp2_with fail
          go_roundw
          case rel => exact ⟨k + 1, s1, _, by omega, by go_num, P3.out, fun h => by first | exact T3.out h | exact T3.out trivial, B3.out⟩
          case measure => simp [intOf]; omega
        · subst he he1
          go_wp2_with fail
          refine (err_live b t _ wr P.out).mono ?_
          rintro r w' ⟨rfl, rfl⟩
          go_wp2_with fail
          obtain ⟨w0, hw0⟩ : ∃ w0, w0 = wr.alloc (Obj.cells #[Value.int .i64 0, Value.int .i64 0, Value.string { data := #[] }, Value.slice none 0 0] 44) := ⟨_, rfl⟩
          rw [← hw0]
          obtain ⟨xb, hxb⟩ : ∃ xb, xb = wr.heap.size := ⟨_, rfl⟩
          rw [← hxb]
          have X0 := Lib.hid (show XB w0 xb 0 0 ByteArray.empty (.slice none 0 0) by rw [hw0, hxb]; exact heap_alloc_new wr _)
          have g0 : wr.grownBy w0 none := by rw [hw0]; exact World.grownBy_alloc wr _ none
          have P0 := Lib.hid (P.out.kept g0 (by simp))
          have B0 := Lib.hid (BB.out.grown g0 hsz (fun k hk => by cases hk))
          have z0 : w.heap.size ≤ w0.heap.size := Nat.le_trans hsz g0.size
          have hxne : xb ≠ b := by omega
          have hxab : xb ≠ ab := by omega
          have hxw : w.heap.size ≤ xb := by omega
          clear hw0 g0 hxb
          refine (L1.out _ P0.out).mono ?_
          rintro r w1 ⟨v1, rfl, hp, hg, hown⟩
          obtain ⟨A1, c1, e1v, i1⟩ := own_ints hown rfl
          subst e1v
          clear hown i1
          have P1 := Lib.hid hp
          have X1 := Lib.hid (X0.out.kept hg (fun h => hxne (Option.some.inj h)))
          have B1' := Lib.hid (below_gb B0.out hg z0 hwb)
          have z1 : w.heap.size ≤ w1.heap.size := Nat.le_trans z0 hg.size
          clear hp hg
          have f1 := X1.out.c1
          have f2 := X1.out.c2
          have f3 := X1.out.c3
          have fr1 := X1.out.fr 1
          have fr2 := X1.out.fr 2
          have fr3 := X1.out.fr 3
          have P3 := Lib.hid (P1.out.kept (gb_set w1 xb 3 (.slice A1 v.length c1)) (fun h => hxne (Option.some.inj h).symm))
          have B3 := Lib.hid (below_gb B1'.out (gb_set w1 xb 3 (.slice A1 v.length c1)) z1 hxw)
          clear B1'
          go_wp2_with fail
          refine (err_live b s1 _ _ P3.out).mono ?_
          rintro r w' ⟨rfl, rfl⟩
          go_wp2_with fail
          go_roundw
          case rel => exact ⟨k + 1, s1, _, by omega, by go_num, P3.out, fun h => by first | exact T3.out h | exact T3.out trivial, B3.out⟩
          case measure => simp [intOf]; omega
        · subst he
          have hE1 : (e1 != 0) = true := by simpa using he1
          obtain rfl := Z.out he1
          have HE := Lib.hid he1
          clear he1
          go_wp2_with fail
          refine (err_live b t _ wr P.out).mono ?_
          rintro r w' ⟨rfl, rfl⟩
          go_wp2_with fail
          obtain ⟨w0, hw0⟩ : ∃ w0, w0 = wr.alloc (Obj.cells #[Value.int .i64 0, Value.int .i64 0, Value.string { data := #[] }, Value.slice none 0 0] 44) := ⟨_, rfl⟩
          rw [← hw0]
          obtain ⟨xb, hxb⟩ : ∃ xb, xb = wr.heap.size := ⟨_, rfl⟩
          rw [← hxb]
          have X0 := Lib.hid (show XB w0 xb 0 0 ByteArray.empty (.slice none 0 0) by rw [hw0, hxb]; exact heap_alloc_new wr _)
          have g0 : wr.grownBy w0 none := by rw [hw0]; exact World.grownBy_alloc wr _ none
          have P0 := Lib.hid (P.out.kept g0 (by simp))
          have B0 := Lib.hid (BB.out.grown g0 hsz (fun k hk => by cases hk))
          have z0 : w.heap.size ≤ w0.heap.size := Nat.le_trans hsz g0.size
          have hxne : xb ≠ b := by omega
          have hxab : xb ≠ ab := by omega
          have hxw : w.heap.size ≤ xb := by omega
          clear hw0 g0 hxb
          refine (L1.out _ P0.out).mono ?_
          rintro r w1 ⟨v1, rfl, hp, hg, hown⟩
          obtain ⟨A1, c1, e1v, i1⟩ := own_ints hown rfl
          subst e1v
          clear hown i1
          have P1 := Lib.hid hp
          have X1 := Lib.hid (X0.out.kept hg (fun h => hxne (Option.some.inj h)))
          have B1' := Lib.hid (below_gb B0.out hg z0 hwb)
          have z1 : w.heap.size ≤ w1.heap.size := Nat.le_trans z0 hg.size
          clear hp hg
          have f1 := X1.out.c1
          have f2 := X1.out.c2
          have f3 := X1.out.c3
          have fr1 := X1.out.fr 1
          have fr2 := X1.out.fr 2
          have fr3 := X1.out.fr 3
          have P3 := Lib.hid (P1.out.kept (gb_set w1 xb 3 (.slice A1 0 c1)) (fun h => hxne (Option.some.inj h).symm))
          have B3 := Lib.hid (below_gb B1'.out (gb_set w1 xb 3 (.slice A1 0 c1)) z1 hxw)
          clear B1'
          go_wp2_with fail
          refine (err_live b s1 _ _ P3.out).mono ?_
          rintro r w' ⟨rfl, rfl⟩
          go_wp2_with fail
          go_roundw
          case rel => exact ⟨k + 1, s1, _, by omega, by go_num, P3.out, fun h => by first | exact T3.out h | exact T3.out trivial, B3.out⟩
          case measure => simp [intOf]; omega
      by_cases k5 : kd = 5
      · subst k5
        have NX := Lib.hid (hFail_nxt f t e)
        have L1 := Lib.hid (fun w' (h : PB w' b t e true) => p_fail f h)
        obtain ⟨e1, he1⟩ : ∃ e1, e1 = hFail f e := ⟨_, rfl⟩
        rw [← he1] at L1 NX
        clear he1
        have T3 := Lib.hid (show e1 = 0 → t.size ≤ 100000 from fun h => by
          by_cases he : e = 0
          · have h1 := NX.out.2 he; have h2 := T.out he; omega
          · have h1 := NX.out.1 he; omega)
        have hcase : e ≠ 0 ∧ e1 = e ∨ e = 0 ∧ e1 = 0 ∨ e = 0 ∧ e1 ≠ 0 := by
          by_cases he : e = 0
          · by_cases he1 : e1 = 0
            · exact Or.inr (Or.inl ⟨he, he1⟩)
            · exact Or.inr (Or.inr ⟨he, he1⟩)
          · exact Or.inl ⟨he, NX.out.1 he⟩
        rcases hcase with ⟨he, he1⟩ | ⟨he, he1⟩ | ⟨he, he1⟩
        · subst he1
          have hE1 : (e1 != 0) = true := by simpa using he
          have hE2 : (e1 == 0) = false := by simpa using he
          have hE3 : (e1 != e1) = false := by simp
          have HE := Lib.hid he
          clear he
          go_wp2_with fail
          refine (err_live b t _ wr P.out).mono ?_
          rintro r w' ⟨rfl, rfl⟩
          go_wp2_with fail
          obtain ⟨w0, hw0⟩ : ∃ w0, w0 = wr.alloc (Obj.cells #[Value.int .i64 0, Value.int .i64 0, Value.string { data := #[] }, Value.slice none 0 0] 44) := ⟨_, rfl⟩
          rw [← hw0]
          obtain ⟨xb, hxb⟩ : ∃ xb, xb = wr.heap.size := ⟨_, rfl⟩
          rw [← hxb]
          have X0 := Lib.hid (show XB w0 xb 0 0 ByteArray.empty (.slice none 0 0) by rw [hw0, hxb]; exact heap_alloc_new wr _)
          have g0 : wr.grownBy w0 none := by rw [hw0]; exact World.grownBy_alloc wr _ none
          have P0 := Lib.hid (P.out.kept g0 (by simp))
          have B0 := Lib.hid (BB.out.grown g0 hsz (fun k hk => by cases hk))
          have z0 : w.heap.size ≤ w0.heap.size := Nat.le_trans hsz g0.size
          have hxne : xb ≠ b := by omega
          have hxab : xb ≠ ab := by omega
          have hxw : w.heap.size ≤ xb := by omega
          clear hw0 g0 hxb
          refine (L1.out _ P0.out).mono ?_
          rintro r w1 ⟨rfl, hp, hg⟩
          have P1 := Lib.hid hp
          have X1 := Lib.hid (X0.out.kept hg (fun h => hxne (Option.some.inj h)))
          have B1' := Lib.hid (below_gb B0.out hg z0 hwb)
          have z1 : w.heap.size ≤ w1.heap.size := Nat.le_trans z0 hg.size
          clear hp hg
          have f1 := X1.out.c1
          have f2 := X1.out.c2
          have f3 := X1.out.c3
          have fr1 := X1.out.fr 1
          have fr2 := X1.out.fr 2
          have fr3 := X1.out.fr 3
          have P3 := P1
          have B3 := B1'
          clear B1'
          go_wp2_with fail
          refine (err_live b t e1 _ P3.out).mono ?_
          rintro r w' ⟨rfl, rfl⟩
          go_wp2_with fail
          refine (dead_end (pt b) _ e1 (pb_dead P3.out HE.out)).mono ?_
          rintro r w' ⟨rfl, rfl⟩
          go_wp2_with fail
          refine (dead_left (pt b) _ e1 (pb_dead P3.out HE.out)).mono ?_
          rintro r w' ⟨rfl, rfl⟩
          go_wp2_with fail
          refine (err_live b t _ _ P3.out).mono ?_
          rintro r w' ⟨rfl, rfl⟩
          go_wp2_with fail
          go_roundw
          case rel => exact ⟨k + 1, t, _, by omega, by go_num, P3.out, fun h => by first | exact T3.out h | exact T3.out trivial, B3.out⟩
          case measure => simp [intOf]; omega
        · subst he he1
          go_wp2_with fail
          refine (err_live b t _ wr P.out).mono ?_
          rintro r w' ⟨rfl, rfl⟩
          go_wp2_with fail
          obtain ⟨w0, hw0⟩ : ∃ w0, w0 = wr.alloc (Obj.cells #[Value.int .i64 0, Value.int .i64 0, Value.string { data := #[] }, Value.slice none 0 0] 44) := ⟨_, rfl⟩
          rw [← hw0]
          obtain ⟨xb, hxb⟩ : ∃ xb, xb = wr.heap.size := ⟨_, rfl⟩
          rw [← hxb]
          have X0 := Lib.hid (show XB w0 xb 0 0 ByteArray.empty (.slice none 0 0) by rw [hw0, hxb]; exact heap_alloc_new wr _)
          have g0 : wr.grownBy w0 none := by rw [hw0]; exact World.grownBy_alloc wr _ none
          have P0 := Lib.hid (P.out.kept g0 (by simp))
          have B0 := Lib.hid (BB.out.grown g0 hsz (fun k hk => by cases hk))
          have z0 : w.heap.size ≤ w0.heap.size := Nat.le_trans hsz g0.size
          have hxne : xb ≠ b := by omega
          have hxab : xb ≠ ab := by omega
          have hxw : w.heap.size ≤ xb := by omega
          clear hw0 g0 hxb
          refine (L1.out _ P0.out).mono ?_
          rintro r w1 ⟨rfl, hp, hg⟩
          have P1 := Lib.hid hp
          have X1 := Lib.hid (X0.out.kept hg (fun h => hxne (Option.some.inj h)))
          have B1' := Lib.hid (below_gb B0.out hg z0 hwb)
          have z1 : w.heap.size ≤ w1.heap.size := Nat.le_trans z0 hg.size
          clear hp hg
          have f1 := X1.out.c1
          have f2 := X1.out.c2
          have f3 := X1.out.c3
          have fr1 := X1.out.fr 1
          have fr2 := X1.out.fr 2
          have fr3 := X1.out.fr 3
          have P3 := P1
          have B3 := B1'
          clear B1'
          go_wp2_with fail
          refine (err_live b t _ _ P3.out).mono ?_
          rintro r w' ⟨rfl, rfl⟩
          go_wp2_with fail
          go_roundw
          case rel => exact ⟨k + 1, t, _, by omega, by go_num, P3.out, fun h => by first | exact T3.out h | exact T3.out trivial, B3.out⟩
          case measure => simp [intOf]; omega
        · subst he
          have hE1 : (e1 != 0) = true := by simpa using he1
          have HE := Lib.hid he1
          clear he1
          go_wp2_with fail
          refine (err_live b t _ wr P.out).mono ?_
          rintro r w' ⟨rfl, rfl⟩
          go_wp2_with fail
          obtain ⟨w0, hw0⟩ : ∃ w0, w0 = wr.alloc (Obj.cells #[Value.int .i64 0, Value.int .i64 0, Value.string { data := #[] }, Value.slice none 0 0] 44) := ⟨_, rfl⟩
          rw [← hw0]
          obtain ⟨xb, hxb⟩ : ∃ xb, xb = wr.heap.size := ⟨_, rfl⟩
          rw [← hxb]
          have X0 := Lib.hid (show XB w0 xb 0 0 ByteArray.empty (.slice none 0 0) by rw [hw0, hxb]; exact heap_alloc_new wr _)
          have g0 : wr.grownBy w0 none := by rw [hw0]; exact World.grownBy_alloc wr _ none
          have P0 := Lib.hid (P.out.kept g0 (by simp))
          have B0 := Lib.hid (BB.out.grown g0 hsz (fun k hk => by cases hk))
          have z0 : w.heap.size ≤ w0.heap.size := Nat.le_trans hsz g0.size
          have hxne : xb ≠ b := by omega
          have hxab : xb ≠ ab := by omega
          have hxw : w.heap.size ≤ xb := by omega
          clear hw0 g0 hxb
          refine (L1.out _ P0.out).mono ?_
          rintro r w1 ⟨rfl, hp, hg⟩
          have P1 := Lib.hid hp
          have X1 := Lib.hid (X0.out.kept hg (fun h => hxne (Option.some.inj h)))
          have B1' := Lib.hid (below_gb B0.out hg z0 hwb)
          have z1 : w.heap.size ≤ w1.heap.size := Nat.le_trans z0 hg.size
          clear hp hg
          have f1 := X1.out.c1
          have f2 := X1.out.c2
          have f3 := X1.out.c3
          have fr1 := X1.out.fr 1
          have fr2 := X1.out.fr 2
          have fr3 := X1.out.fr 3
          have P3 := P1
          have B3 := B1'
          clear B1'
          go_wp2_with fail
          refine (err_live b t _ _ P3.out).mono ?_
          rintro r w' ⟨rfl, rfl⟩
          go_wp2_with fail
          go_roundw
          case rel => exact ⟨k + 1, t, _, by omega, by go_num, P3.out, fun h => by first | exact T3.out h | exact T3.out trivial, B3.out⟩
          case measure => simp [intOf]; omega
      have j0 : (kd == 0) = false := by simpa using k0
      have j1 : (kd == 1) = false := by simpa using k1
      have j2 : (kd == 2) = false := by simpa using k2
      have j3 : (kd == 3) = false := by simpa using k3
      have j4 : (kd == 4) = false := by simpa using k4
      have j5 : (kd == 5) = false := by simpa using k5
      clear k0 k1 k2 k3 k4 k5
      by_cases he : e = 0
      · subst he
        go_wp2_with fail
        refine (err_live b t _ wr P.out).mono ?_
        rintro r w' ⟨rfl, rfl⟩
        go_wp2_with fail
        obtain ⟨w0, hw0⟩ : ∃ w0, w0 = wr.alloc (Obj.cells #[Value.int .i64 0, Value.int .i64 0, Value.string { data := #[] }, Value.slice none 0 0] 44) := ⟨_, rfl⟩
        rw [← hw0]
        obtain ⟨xb, hxb⟩ : ∃ xb, xb = wr.heap.size := ⟨_, rfl⟩
        rw [← hxb]
        have X0 := Lib.hid (show XB w0 xb 0 0 ByteArray.empty (.slice none 0 0) by rw [hw0, hxb]; exact heap_alloc_new wr _)
        have g0 : wr.grownBy w0 none := by rw [hw0]; exact World.grownBy_alloc wr _ none
        have P0 := Lib.hid (P.out.kept g0 (by simp))
        have B0 := Lib.hid (BB.out.grown g0 hsz (fun k hk => by cases hk))
        have z0 : w.heap.size ≤ w0.heap.size := Nat.le_trans hsz g0.size
        have hxne : xb ≠ b := by omega
        have hxab : xb ≠ ab := by omega
        have hxw : w.heap.size ≤ xb := by omega
        clear hw0 g0 hxb
        refine (err_live b t _ _ P0.out).mono ?_
        rintro r w' ⟨rfl, rfl⟩
        go_wp2_with fail
        go_roundw
        case rel => exact ⟨k + 1, t, _, by omega, by go_num, P0.out, fun h => by first | exact T.out h | exact T.out trivial, B0.out⟩
        case measure => simp [intOf]; omega
      · have hE1 : (e != 0) = true := by simpa using he
        have hE2 : (e == 0) = false := by simpa using he
        have hE3 : (e != e) = false := by simp
        have HE := Lib.hid he
        clear he
        go_wp2_with fail
        refine (err_live b t _ wr P.out).mono ?_
        rintro r w' ⟨rfl, rfl⟩
        go_wp2_with fail
        obtain ⟨w0, hw0⟩ : ∃ w0, w0 = wr.alloc (Obj.cells #[Value.int .i64 0, Value.int .i64 0, Value.string { data := #[] }, Value.slice none 0 0] 44) := ⟨_, rfl⟩
        rw [← hw0]
        obtain ⟨xb, hxb⟩ : ∃ xb, xb = wr.heap.size := ⟨_, rfl⟩
        rw [← hxb]
        have X0 := Lib.hid (show XB w0 xb 0 0 ByteArray.empty (.slice none 0 0) by rw [hw0, hxb]; exact heap_alloc_new wr _)
        have g0 : wr.grownBy w0 none := by rw [hw0]; exact World.grownBy_alloc wr _ none
        have P0 := Lib.hid (P.out.kept g0 (by simp))
        have B0 := Lib.hid (BB.out.grown g0 hsz (fun k hk => by cases hk))
        have z0 : w.heap.size ≤ w0.heap.size := Nat.le_trans hsz g0.size
        have hxne : xb ≠ b := by omega
        have hxab : xb ≠ ab := by omega
        have hxw : w.heap.size ≤ xb := by omega
        clear hw0 g0 hxb
        have f1 := X0.out.c1
        have f2 := X0.out.c2
        have f3 := X0.out.c3
        refine (err_live b t _ _ P0.out).mono ?_
        rintro r w' ⟨rfl, rfl⟩
        go_wp2_with fail
        refine (dead_end (pt b) _ e (pb_dead P0.out HE.out)).mono ?_
        rintro r w' ⟨rfl, rfl⟩
        go_wp2_with fail
        refine (dead_left (pt b) _ e (pb_dead P0.out HE.out)).mono ?_
        rintro r w' ⟨rfl, rfl⟩
        go_wp2_with fail
        refine (err_live b t _ _ P0.out).mono ?_
        rintro r w' ⟨rfl, rfl⟩
        go_wp2_with fail
        go_roundw
        case rel => exact ⟨k + 1, t, _, by omega, by go_num, P0.out, fun h => by first | exact T.out h | exact T.out trivial, B0.out⟩
        case measure => simp [intOf]; omega
    · go_wp2_with fail
      refine (awake_any _).mono ?_
      rintro r w5 ⟨rfl, hb⟩
      go_wp2_with fail
      go_ret
      exact ⟨rfl, BB.out.trans (hb.mono hsz)⟩
end Go.Proofs.Ytfpkpgfdmidjfaa

