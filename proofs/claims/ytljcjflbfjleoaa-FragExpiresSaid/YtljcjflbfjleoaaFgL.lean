/- The laws' own functions: few, awake. -/
import Derived.Test.YtljcjflbfjleoaaFgX
set_option linter.unusedVariables false
namespace Go.Proofs.Ytljcjflbfjleoaa.Frg
open Go.RowKit

/-- At most 20 entries, of at most 20 elements each. -/
def Few (l : List Hp) : Prop := l.length ≤ 20 ∧ ∀ y ∈ l, y.x.h.length ≤ 20 ∧ y.x.d.length ≤ 20
set_option maxRecDepth 100000 in
set_option maxHeartbeats 2000000 in
theorem few_any (A : Option Addr) (c : Nat) (l : List Hp) (w : World) (hl : l.length ≤ 9223372036854775807) (hm : ∀ y ∈ l, y.x.h.length ≤ 9223372036854775807 ∧ y.x.d.length ≤ 9223372036854775807) (hA : PsS w A c l) :
    Calls Try.prog 17 #[.slice A l.length c] w fun e w' => ∃ b : Bool, e = .returned (.bool b) ∧ (b = true → Few l) ∧ Below w.heap.size w w' := by
  by_cases h20 : 20 < l.length
  · have d0 := dt (show (20 : Int) < (l.length : Int) by omega)
    go_enter Try.func17, Try.ntmps17
    go_wp2_with fail
    go_ret
    exact ⟨false, rfl, fun q => (by cases q), Below.refl _ _⟩
  have d0 := df (show ¬ (20 : Int) < (l.length : Int) by omega)
  have HA := Lib.hid hA
  have HM := Lib.hid hm
  clear hA hm
  go_enter Try.func17, Try.ntmps17
  go_wp2_with fail
  go_loopw [10] (fun vi wr => ∃ k : Nat, vi = .int .i64 k ∧ k ≤ l.length ∧ Hid (∀ j (hj : j < l.length), j < k → l[j].x.h.length ≤ 20 ∧ l[j].x.d.length ≤ 20) ∧ Below w.heap.size w wr) (fun vi _ => l.length - (intOf vi).toNat)
  case atStart => exact ⟨0, rfl, Nat.zero_le _, Lib.hid fun j hj h => by omega, Below.refl _ _⟩
  case round =>
    obtain ⟨k, rfl, hk, HN, hb⟩ := hrel
    have B := Lib.hid hb
    by_cases hlt : k < l.length
    · obtain ⟨b, p, rfl, _, hc, _, _⟩ := ps_cell (HA.out.next hb) k hlt
      have hmk := HM.out _ (List.getElem_mem hlt)
      have N := Lib.hid (show (l[k].x.h.length ≤ 20 ∧ l[k].x.d.length ≤ 20) → ∀ j (hj : j < l.length), j < k + 1 → l[j].x.h.length ≤ 20 ∧ l[j].x.d.length ≤ 20 from fun h j hj hjn => by
        by_cases e : j = k
        · subst e; exact h
        · exact HN.out j hj (by omega))
      clear HN HA HM hb
      obtain ⟨x, hx⟩ : ∃ x, l[k] = x := ⟨_, rfl⟩
      rw [hx] at hc N
      simp only [hx] at hmk
      clear hx
      obtain ⟨⟨s, i, c2, t, h, d⟩, a1, a2, a3, a4⟩ := x
      obtain ⟨g0, g1, g2, g3, g4, g5⟩ := hc
      simp only at g0 g1 g2 g3 g4 g5 N hmk
      have B1 := Lib.hid (B.out.trans ((alloc_below wr (bxP ⟨⟨s, i, c2, t, h, d⟩, a1, a2, a3, a4⟩)).mono B.out.size))
      by_cases h1 : 20 < h.length
      · have d1 := dt (show (20 : Int) < (h.length : Int) by omega)
        clear N
        go_wp2_with fail
        go_ret
        exact ⟨false, rfl, fun q => (by cases q), B1.out⟩
      have d1 := df (show ¬ (20 : Int) < (h.length : Int) by omega)
      by_cases h2 : 20 < d.length
      · have d2 := dt (show (20 : Int) < (d.length : Int) by omega)
        clear N
        go_wp2_with fail
        go_ret
        exact ⟨false, rfl, fun q => (by cases q), B1.out⟩
      have d2 := df (show ¬ (20 : Int) < (d.length : Int) by omega)
      have N := Lib.hid (N.out ⟨by omega, by omega⟩)
      go_wp2_with fail
      go_roundw
      case rel => exact ⟨k + 1, by go_num, hlt, N, B1.out⟩
      case measure => simp [intOf]; omega
    · obtain rfl : k = l.length := by omega
      have R : Few l := ⟨by omega, fun y hy => by
        obtain ⟨j, hj, rfl⟩ := List.getElem_of_mem hy
        exact HN.out j hj hj⟩
      have R := Lib.hid R
      clear HN HA HM hb
      go_wp2_with fail
      go_ret
      exact ⟨true, rfl, fun _ => R.out, B.out⟩

/-! The chapter's examples. -/
def z64 : List UInt8 := List.replicate 64 0
def s65 : ByteArray := bs (z64 ++ [98])
theorem s65_size : s65.size = 65 := rfl
theorem cnt65 : cnt s65.size = 2 := rfl
theorem p65_0 : piece s65 7 0 = bs (7 :: 0 :: 2 :: z64) := rfl
theorem p65_1 : piece s65 7 1 = bs [7, 1, 2, 98] := rfl
theorem split65 : split s65 7 = ([bs (7 :: 0 :: 2 :: z64), bs [7, 1, 2, 98]], 0) := rfl
theorem split0 : split eb 7 = ([bs [7, 0, 1]], 0) := rfl
theorem ok_nil : Ok [] := ⟨fun x hx => by (cases hx), List.Pairwise.nil, Nat.zero_le _⟩
abbrev e65 : Pt := ent s65 3 7 5 [false, true]
theorem e65_valid : Valid e65 := ent_valid s65 3 7 5 [false, true] (by rw [s65_size]; omega) (by omega) (by omega) rfl (by decide) (by decide)
theorem add65_1 : add [] 3 5 (bs [7, 1, 2, 98]) = ([e65], eb, false, 0) := by
  have := add_first s65 3 7 5 1 [] (by rw [s65_size]; omega) (by omega) (by rw [cnt65]; omega) (by rw [cnt65]; omega) ok_nil (Nat.zero_le _) rfl
  rw [p65_1] at this
  exact this
theorem add65_2 : add [e65] 3 9 (bs (7 :: 0 :: 2 :: z64)) = ([], s65, true, 0) := by
  have hO : Ok ([] ++ e65 :: []) := ⟨fun x hx => by rw [List.mem_singleton.1 hx]; exact e65_valid, List.pairwise_singleton _ _, by decide⟩
  have := add_step s65 3 7 5 9 [false, true] 0 [] [] (by rw [s65_size]; omega) (by omega) rfl (by rw [cnt65]; omega) (by rw [cnt65]; omega) hO
  rw [p65_0, if_neg (by decide), if_pos (by decide)] at this
  exact this
theorem chk66 : chk (bs (7 :: 0 :: 2 :: z64.take 63)) = 4 := by decide
theorem chk3 : chk (bs [7, 1, 2]) = 4 := by decide
theorem chk2 : chk (bs [7, 0]) = 5 := by decide

theorem make64 (w : World) : ∃ Z : Array Value, (Instr.makeSlice 46 (.int .i64 64) (.int .i64 64)).run Try.prog w = .ok (.slice (some ⟨w.heap.size, 0, none⟩) 64 64) (w.alloc (.cells Z 5)) ∧ (convert 46 9 (.slice (some ⟨w.heap.size, 0, none⟩) 64 64)).run Try.prog (w.alloc (.cells Z 5)) = .ok (.string (bs z64)) (w.alloc (.cells Z 5)) :=
  ⟨madeCells #[.int .u8 0] 64, run_make_row' 46 5 (.int .u8 0) 1 Try.underlying46 (by kernel_rfl) rfl .i64 .i64 64 (by omega) (by omega) w,
    conv_lit w 5 _ z64 (by apply Array.ext'; rw [toList_madeCells_one]; rfl) 64 64 rfl⟩
theorem two_texts (W : World) (A : Option Addr) (c : Nat) (p q : ByteArray) (hp : p.size ≤ 9223372036854775807) (hq : q.size ≤ 9223372036854775807) (h : SlS fSt W A c [p, q]) :
    Calls Try.prog 14 #[.slice A 2 c, .slice (some ⟨W.heap.size, 0, none⟩) 2 2] (W.alloc (.cells #[.string p, .string q] 9)) (OutB (W.alloc (.cells #[.string p, .string q] 9)) true) :=
  rpieces_any A (some ⟨W.heap.size, 0, none⟩) c 2 [p, q] _ (by simp) (h.next (alloc_below _ _)) ⟨FlAt.lit (F := fSt) W [p, q] #[.string p, .string q] 9 (by unfold maxLen; simp) rfl (fun a ha => by simp at ha; rcases ha with rfl | rfl; exact hp; exact hq), Nat.le_refl _, fun e => by cases e⟩
theorem one_text (W : World) (A : Option Addr) (c : Nat) (p : ByteArray) (hp : p.size ≤ 9223372036854775807) (h : SlS fSt W A c [p]) :
    Calls Try.prog 14 #[.slice A 1 c, .slice (some ⟨W.heap.size, 0, none⟩) 1 1] (W.alloc (.cells #[.string p] 9)) (OutB (W.alloc (.cells #[.string p] 9)) true) :=
  rpieces_any A (some ⟨W.heap.size, 0, none⟩) c 1 [p] _ (by simp) (h.next (alloc_below _ _)) ⟨FlAt.lit (F := fSt) W [p] #[.string p] 9 (by unfold maxLen; simp) rfl (fun a ha => by simp at ha; rw [ha]; exact hp), Nat.le_refl _, fun e => by cases e⟩
/-- What the examples lean on: the message s, its first piece p, a part q of it. -/
theorem ex_all : ∃ z s p q : ByteArray, bs z64 = z ∧ z.size = 64 ∧ z ++ ⟨#[98]⟩ = s ∧ s.size = 65 ∧ (⟨#[7, 0, 2]⟩ : ByteArray) ++ s.extract 0 64 = p ∧ p.size = 67 ∧ p.extract 0 66 = q ∧
    (∀ w, Calls Try.prog 12 #[.string s, .int .i64 7] w (SplitR w ([p, ⟨#[7, 1, 2, 98]⟩], 0))) ∧ (∀ w, Calls Try.prog 12 #[.string ⟨#[]⟩, .int .i64 7] w (SplitR w ([⟨#[7, 0, 1]⟩], 0))) ∧
    (∀ w, Calls Try.prog 15 #[.string q] w (OutI w 4)) ∧ (∀ w, Calls Try.prog 15 #[.string ⟨#[7, 1, 2]⟩] w (OutI w 4)) ∧ (∀ w, Calls Try.prog 15 #[.string ⟨#[7, 0]⟩] w (OutI w 5)) ∧
    (∀ w, Calls Try.prog 18 #[.slice none 0 0, .int .i64 3, .int .i64 5, .string ⟨#[7, 1, 2, 98]⟩] w (AddQ w ([e65], eb, false, 0))) ∧
    (∀ A c y w, y.x = e65 → PsS w A c [y] → Calls Try.prog 18 #[.slice A 1 c, .int .i64 3, .int .i64 9, .string p] w (AddQ w ([], s, true, 0))) := by
  refine ⟨bs z64, s65, bs (7 :: 0 :: 2 :: z64), bs (7 :: 0 :: 2 :: z64.take 63), rfl, rfl, rfl, rfl, ?_, rfl, ?_, fun w => ?_, fun w => ?_, fun w => ?_, fun w => ?_, fun w => ?_, fun w => ?_, fun A c y w hy hP => ?_⟩
  · apply of_data; rw [app_data, ext_take, bs_data]; rfl
  · apply of_data; rw [ext_take, bs_data]; rfl
  · have := psplit_any s65 7 w (by rw [s65_size]; omega)
    rw [split65] at this
    exact this
  · have := psplit_any eb 7 w (by decide)
    rw [split0] at this
    exact this
  · have := pcheck_any (bs (7 :: 0 :: 2 :: z64.take 63)) w (by decide)
    rw [chk66] at this
    exact this
  · have := pcheck_any (bs [7, 1, 2]) w (by decide)
    rw [chk3] at this
    exact this
  · have := pcheck_any (bs [7, 0]) w (by decide)
    rw [chk2] at this
    exact this
  · have := padd_any none 0 [] 3 5 (bs [7, 1, 2, 98]) w (by unfold I64; omega) (by simp) (by decide) (fun y hy => by cases hy) (PsS.nil w)
    rw [show xs [] = [] from rfl, add65_1] at this
    exact this
  · have := padd_any A c [y] 3 9 (bs (7 :: 0 :: 2 :: z64)) w (by unfold I64; omega) (by simp) (by decide) (fun x hx => by rw [List.mem_singleton.1 hx, hy]; decide) hP
    rw [show xs [y] = [e65] by unfold xs; rw [List.map_singleton, hy], add65_2] at this
    exact this
set_option maxRecDepth 100000 in
set_option maxHeartbeats 8000000 in
theorem awake_any (w : World) : Calls Try.prog 11 #[] w (OutB w true) := by
  obtain ⟨Z, mk, cv⟩ := make64 w
  obtain ⟨z, s, p, q, hz, z64', hs, s65', hp, p67, hq, KS1, KS2, KC1, KC2, KC3, KA1, KA2⟩ := ex_all
  rw [hz] at cv
  clear hz
  have KS1 := Lib.hid KS1
  have KS2 := Lib.hid KS2
  have KC1 := Lib.hid KC1
  have KC2 := Lib.hid KC2
  have KC3 := Lib.hid KC3
  have KA1 := Lib.hid KA1
  have KA2 := Lib.hid KA2
  have z1 : ¬ 9223372036854775807 < z.size + 1 := by omega
  have s1 : (64 : Int) ≤ (s.size : Int) := by omega
  have p1 : (66 : Int) ≤ (p.size : Int) := by omega
  have n64 := Lib.hid z64'
  have n65 := Lib.hid s65'
  have n67 := Lib.hid p67
  have ss : (s.toList == s.toList) = true := by simp
  clear z64' s65' p67
  unfold SplitR at KS1 KS2
  unfold OutI at KC1 KC2 KC3
  unfold AddQ at KA1 KA2
  go_enter Try.func11, Try.ntmps11
  go_wp2_with fail
  refine (KS1.out _).mono ?_
  rintro _ w1 ⟨A1, c1, rfl, h1, hb⟩
  have B1 := Lib.hid ((alloc_below w (.cells Z 5)).trans (hb.mono (by simp)))
  have H1 := Lib.hid h1
  clear hb h1 mk cv KS1
  go_wp2_with fail
  refine (KS2.out _).mono ?_
  rintro _ w2 ⟨A2, c2, rfl, h2, hb⟩
  have B2 := Lib.hid (B1.out.trans (hb.mono B1.out.size))
  have H2 := Lib.hid h2
  have G2 := Lib.hid (H1.out.next hb)
  have KP := Lib.hid (two_texts w2 A1 c1 p ⟨#[7, 1, 2, 98]⟩ (by rw [n67.out]; omega) (by decide) G2.out)
  unfold OutB at KP
  have s2 : ¬ 9223372036854775807 < 3 + min 64 s.size := by omega
  have s3 : ¬ 9223372036854775807 < 3 + (min 64 s.size - 0) := by omega
  clear hb h2 KS2 H1
  go_wp2_with fail
  refine KP.out.mono ?_
  rintro _ w3 ⟨rfl, hb⟩
  have hb3 := (alloc_below w2 (.cells #[.string p, .string ⟨#[7, 1, 2, 98]⟩] 9)).trans (hb.mono (by simp))
  have B3 := Lib.hid (B2.out.trans (hb3.mono B2.out.size))
  have G3 := Lib.hid (G2.out.next hb3)
  have KQ := Lib.hid (one_text w3 A2 c2 ⟨#[7, 0, 1]⟩ (by decide) (H2.out.next hb3))
  unfold OutB at KQ
  clear hb hb3 KP H2 G2 s2 s3
  go_wp2_with fail
  refine KQ.out.mono ?_
  rintro _ w4 ⟨rfl, hb⟩
  have hb4 := (alloc_below w3 (.cells #[.string ⟨#[7, 0, 1]⟩] 9)).trans (hb.mono (by simp))
  have B4 := Lib.hid (B3.out.trans (hb4.mono B3.out.size))
  have G4 := Lib.hid (G3.out.next hb4)
  clear hb hb4 KQ G3 B3 B2 B1
  obtain ⟨b, o, rfl, hbl, g0, _⟩ := st_cell G4.out 0 (by simp)
  obtain ⟨b', o', e', _, g1, _⟩ := st_cell G4.out 1 (by simp)
  simp only [Option.some.injEq, Addr.mk.injEq, and_true] at e'
  obtain ⟨rfl, rfl⟩ := e'
  simp only [List.getElem_cons_zero, List.getElem_cons_succ, Nat.add_zero] at g0 g1
  go_wp2_with fail
  refine (KC1.out _).mono ?_
  rintro _ w5 ⟨rfl, hb⟩
  have B5 := Lib.hid (B4.out.trans (hb.mono B4.out.size))
  have hbl5 := Nat.lt_of_lt_of_le hbl hb.size
  have g0 := (hb.cell (p := ⟨b, o, none⟩) hbl).trans g0
  have g1 := (hb.cell (p := ⟨b, o + 1, none⟩) hbl).trans g1
  clear hb hbl KC1 G4
  go_wp2_with fail
  refine (KC2.out _).mono ?_
  rintro _ w6 ⟨rfl, hb⟩
  have B6 := Lib.hid (B5.out.trans (hb.mono B5.out.size))
  have hbl6 := Nat.lt_of_lt_of_le hbl5 hb.size
  have g0 := (hb.cell (p := ⟨b, o, none⟩) hbl5).trans g0
  have g1 := (hb.cell (p := ⟨b, o + 1, none⟩) hbl5).trans g1
  clear hb KC2
  go_wp2_with fail
  refine (KC3.out _).mono ?_
  rintro _ w7 ⟨rfl, hb⟩
  have B7 := Lib.hid (B6.out.trans (hb.mono B6.out.size))
  have hbl7 := Nat.lt_of_lt_of_le hbl6 hb.size
  have g0 := (hb.cell (p := ⟨b, o, none⟩) hbl6).trans g0
  have g1 := (hb.cell (p := ⟨b, o + 1, none⟩) hbl6).trans g1
  clear hb KC3
  go_wp2_with fail
  refine (KA1.out _).mono ?_
  rintro _ w8 ⟨A8, c8, ys, rfl, h8, hx8, hb⟩
  have B8 := Lib.hid (B7.out.trans (hb.mono B7.out.size))
  have g0 := (hb.cell (p := ⟨b, o, none⟩) hbl7).trans g0
  clear hb KA1
  obtain ⟨y, rfl⟩ : ∃ y, ys = [y] := by
    have := congrArg List.length hx8
    simp at this
    exact List.length_eq_one_iff.1 this
  have hy : y.x = e65 := by simpa using hx8
  obtain ⟨b2, o2, rfl, hbl2, hc, _, _⟩ := ps_cell h8.psS 0 (by simp)
  have gt := hc.2.2.2.1
  simp only [List.getElem_cons_zero, Nat.zero_mul, Nat.add_zero] at gt
  rw [show y.x.t = 5 by rw [hy]; rfl] at gt
  have KA := Lib.hid (KA2.out (some ⟨b2, o2, none⟩) c8 y w8 hy h8.psS)
  clear KA2 h8 hc hx8 hy
  go_wp2_with fail
  refine KA.out.mono ?_
  rintro _ w9 ⟨A9, c9, zs, rfl, _, hx9, hb⟩
  have B9 := Lib.hid (B8.out.trans (hb.mono B8.out.size))
  obtain rfl : zs = [] := by simpa using hx9
  clear hb KA hx9
  go_wp2_with fail
  go_ret
  exact outB rfl B9.out
end Go.Proofs.Ytljcjflbfjleoaa.Frg
