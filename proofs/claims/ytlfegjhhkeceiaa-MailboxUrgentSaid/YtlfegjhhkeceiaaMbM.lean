/- The laws Puts, Conserves. -/
import Derived.Test.YtlfegjhhkeceiaaMbLv
set_option linter.unusedVariables false
namespace Go.Proofs.Ytlfegjhhkeceiaa.Mbx
open Go.RowKit

set_option maxRecDepth 100000 in
set_option maxHeartbeats 4000000 in
theorem law_puts (w : World) (A : Option Addr) (c : Nat) (l : List Ml) (f : Fm) (now : Int) (hl : l.length ≤ 9223372036854775807) (hA : MlS w A c l) (hf : FOk f) :
    Calls Try.prog 3 #[.slice A l.length c, fmV f, .int .i64 now] w (OutB w true) := by
  have HA := Lib.hid hA
  have HF := Lib.hid hf
  have KL := Lib.hid (fun w => lives_any w)
  unfold OutB at KL
  clear hA hf
  by_cases h100 : 100 < l.length
  · have d0 : decide ((100 : Int) < (l.length : Int)) = true := dt (by omega)
    obtain ⟨y0, y1, y2, y3, y4, y5, y6, y7, y8⟩ := f
    go_enter Try.func3, Try.ntmps3
    go_wp2_with fail
    refine (KL.out _).mono ?_
    rintro _ w1 ⟨rfl, hb⟩
    have B1 := Lib.hid (box_below hb)
    clear hb
    go_wp2_with fail
    go_ret
    exact outB rfl B1.out
  have d0 : decide ((100 : Int) < (l.length : Int)) = false := df (by omega)
  have KP := Lib.hid (fun w hA => pput_any A c l f now w (by omega) HF.out hA)
  have KR := Lib.hid (fun w hA => rput_R A c l f now w (by omega) HF.out hA)
  have PL := put_len l f now
  clear hl h100
  generalize put l f now = R at *
  obtain ⟨P, b⟩ := R
  unfold PutR at KP KR
  simp only at KP KR PL
  obtain ⟨y0, y1, y2, y3, y4, y5, y6, y7, y8⟩ := f
  go_enter Try.func3, Try.ntmps3
  go_wp2_with fail
  refine (KP.out _ (HA.out.next (alloc_below _ _))).mono ?_
  rintro _ w1 ⟨A1, c1, rfl, h1, hb⟩
  have X1 := fm_block (show w1.heap[w.heap.size]? = some (bxF ⟨y0, y1, y2, y3, y4, y5, y6, y7, y8⟩) from (hb.block w.heap.size (by simp)).trans (blk_new w _))
  unfold FmC at X1
  simp only [Nat.zero_add] at X1
  obtain ⟨e0, e1, e2, e3, e4, e5, e6, e7, e8⟩ := X1
  have B1 := Lib.hid (box_below hb)
  have H1 := Lib.hid h1
  clear hb h1 KP
  go_wp2_with fail
  refine (KR.out _ (HA.out.next B1.out)).mono ?_
  rintro _ w2 ⟨A2, c2, rfl, h2, hb⟩
  have B2 := Lib.hid (B1.out.trans (hb.mono B1.out.size))
  have KS := Lib.hid (rsame_R A1 A2 c1 c2 P w2 (by omega) (H1.out.next hb) h2)
  unfold OutB at KS
  clear hb h2 KR e0 e1 e2 e3 e4 e5 e6 e7 e8 H1
  cases b with
  | false =>
    go_wp2_with fail
    refine KS.out.mono ?_
    rintro _ w3 ⟨rfl, hb⟩
    have B3 := Lib.hid (B2.out.trans (hb.mono B2.out.size))
    clear hb KS
    go_wp2_with fail
    refine (KL.out _).mono ?_
    rintro _ w4 ⟨rfl, hb⟩
    have B4 := Lib.hid (B3.out.trans (hb.mono B3.out.size))
    clear hb
    go_wp2_with fail
    go_ret
    exact outB rfl B4.out
  | true =>
    go_wp2_with fail
    refine KS.out.mono ?_
    rintro _ w3 ⟨rfl, hb⟩
    have B3 := Lib.hid (B2.out.trans (hb.mono B2.out.size))
    clear hb KS
    go_wp2_with fail
    refine (KL.out _).mono ?_
    rintro _ w4 ⟨rfl, hb⟩
    have B4 := Lib.hid (B3.out.trans (hb.mono B3.out.size))
    clear hb
    go_wp2_with fail
    go_ret
    exact outB rfl B4.out

set_option maxRecDepth 100000 in
set_option maxHeartbeats 4000000 in
theorem law_conserves (w : World) (A : Option Addr) (c : Nat) (l : List Ml) (to now life : Int) (hl : l.length ≤ 9223372036854775807) (hA : MlS w A c l) :
    Calls Try.prog 8 #[.slice A l.length c, .int .i64 to, .agg #[.int .i64 now, .int .i64 life]] w (OutB w true) := by
  have HA := Lib.hid hA
  have KL := Lib.hid (fun w => lives_any w)
  unfold OutB at KL
  clear hA
  by_cases h100 : 100 < l.length
  · have d0 : decide ((100 : Int) < (l.length : Int)) = true := dt (by omega)
    go_enter Try.func8, Try.ntmps8
    go_wp2_with fail
    refine (KL.out _).mono ?_
    rintro _ w1 ⟨rfl, hb⟩
    have B1 := Lib.hid (box_below hb)
    clear hb
    go_wp2_with fail
    go_ret
    exact outB rfl B1.out
  have d0 : decide ((100 : Int) < (l.length : Int)) = false := df (by omega)
  have KE := Lib.hid (fun w hA => pexpire_any A c l now life w (by omega) hA)
  have KT := Lib.hid (fun w hA => ptake_any A c l to now life w (by omega) hA)
  have EL := expi_len l now life
  have KE2 := Lib.hid (fun A c w hA => (by have := pexpire_any A c (expi l now life) now life w (by omega) hA; rw [expi_twice] at this; exact this : Calls Try.prog 15 #[.slice A (expi l now life).length c, .int .i64 now, .int .i64 life] w (ListR w (expi l now life))))
  have KC := Lib.hid (fun A c w hA => pcount_any A c (expi l now life) to w (by omega) hA)
  have TC := take_conserves l to now life
  have KC2 := Lib.hid (fun A c w (hL : (take l to now life).2.1.length ≤ 1000) hA => pcount_any A c (take l to now life).2.1 to w hL hA)
  clear hl h100
  generalize take l to now life = R at *
  generalize expi l now life = E at *
  obtain ⟨⟨z0, z1, z2, z3, z4, z5, z6, z7, z8⟩, P, b⟩ := R
  simp only at TC KC2
  unfold TakeR at KT
  unfold ListR at KE KE2
  unfold OutI at KC KC2
  simp only at KT
  go_enter Try.func8, Try.ntmps8
  go_wp2_with fail
  refine (KE.out _ (HA.out.next (alloc_below _ _))).mono ?_
  rintro _ w1 ⟨A1, c1, rfl, h1, hb⟩
  have X1 := Lib.hid (show w1.heap[w.heap.size]? = some (.cells #[.int .i64 now, .int .i64 life] 30 (0, 0)) from (hb.block w.heap.size (by simp)).trans (blk_new w _))
  have e0 := blk_cell X1.out 0 (v := .int .i64 now) rfl
  have e1 := blk_cell X1.out 1 (v := .int .i64 life) rfl
  have hz1 : w.heap.size < w1.heap.size := by have := hb.size; simp at this; omega
  have B1 := Lib.hid (box_below hb)
  have H1 := Lib.hid h1
  clear hb h1 KE
  go_wp2_with fail
  refine (KT.out _ (HA.out.next B1.out)).mono ?_
  rintro _ w2 ⟨A2, c2, rfl, h2, hb, _⟩
  have X2 := Lib.hid (blk_below X1.out hb hz1)
  have hz2 := Nat.lt_of_lt_of_le hz1 hb.size
  have B2 := Lib.hid (B1.out.trans (hb.mono B1.out.size))
  have H2 := Lib.hid h2
  have E2 := Lib.hid (H1.out.next hb)
  clear hb h2 KT e0 e1 H1 X1 B1
  go_wp2_with fail
  refine (KC.out _ _ _ (E2.out.next (alloc_below _ _))).mono ?_
  rintro _ w3 ⟨rfl, hb⟩
  have hbx := (alloc_below w2 (bxF ⟨z0, z1, z2, z3, z4, z5, z6, z7, z8⟩)).trans (hb.mono (by simp))
  have X3 := Lib.hid (blk_below X2.out hbx hz2)
  have hz3 := Nat.lt_of_lt_of_le hz2 hbx.size
  have e0 := blk_cell X3.out 0 (v := .int .i64 now) rfl
  have e1 := blk_cell X3.out 1 (v := .int .i64 life) rfl
  have B3 := Lib.hid (B2.out.trans (hbx.mono B2.out.size))
  have H3 := Lib.hid (H2.out.next hbx)
  have E3 := Lib.hid (E2.out.next hbx)
  clear hb hbx KC H2 E2 X2 B2
  rcases TC with ⟨rfl, h1, h2, h3⟩ | ⟨rfl, h1, rfl⟩
  · have d1 : (0 : Int) < ((cnt E to : Nat) : Int) := by omega
    have D1 : decide ((0 : Int) < ((cnt E to : Nat) : Int)) = true := dt d1
    have w1' : IntKind.i64.wrap ((E.length : Int) - 1) = (E.length : Int) - 1 := by rw [IntKind.wrap_i64]; omega
    have g1 : ((P.length : Int) == (E.length : Int) - 1) = true := by simp; omega
    have cb : cnt E to ≤ 16 := by unfold cnt; have := List.length_filter_le (fun x : Ml => decide (x.1.t = to)) (E.take 16); rw [List.length_take] at this; omega
    have g2 : (((cnt P to : Nat) : Int) == ((cnt E to : Nat) : Int) - 1) = true := by simp; omega
    have w2' : IntKind.i64.wrap (((cnt E to : Nat) : Int) - 1) = ((cnt E to : Nat) : Int) - 1 := by rw [IntKind.wrap_i64]; omega
    have pl : P.length ≤ 1000 := by omega
    generalize cnt E to = n at *
    generalize cnt P to = n' at *
    clear h1 h2 h3
    go_wp2_with fail
    refine (KE2.out _ _ _ E3.out).mono ?_
    rintro _ w4 ⟨A4, c4, rfl, h4, hb⟩
    have B4 := Lib.hid (B3.out.trans (hb.mono B3.out.size))
    have H4 := Lib.hid (H3.out.next hb)
    have KS := Lib.hid (rsame_R A4 A1 c4 c1 E w4 (by omega) h4 (E3.out.next hb))
    unfold OutB at KS
    clear hb h4 H3 E3 B3 KE2 e0 e1 X3
    go_wp2_with fail
    refine KS.out.mono ?_
    rintro _ w5 ⟨rfl, hb⟩
    have B5 := Lib.hid (B4.out.trans (hb.mono B4.out.size))
    have H5 := Lib.hid (H4.out.next hb)
    clear hb KS H4 B4
    go_wp2_with fail
    refine (KC2.out _ _ _ pl H5.out).mono ?_
    rintro _ w6 ⟨rfl, hb⟩
    have B6 := Lib.hid (B5.out.trans (hb.mono B5.out.size))
    clear hb KC2 H5 B5
    go_wp2_with fail
    refine (KL.out _).mono ?_
    rintro _ w7 ⟨rfl, hb⟩
    have B7 := Lib.hid (B6.out.trans (hb.mono B6.out.size))
    clear hb
    go_wp2_with fail
    go_ret
    exact outB rfl B7.out
  · generalize cnt P to = n at *
    obtain rfl : n = 0 := by omega
    have D1 : decide ((0 : Int) < ((0 : Nat) : Int)) = false := rfl
    clear h1
    go_wp2_with fail
    refine (KE2.out _ _ _ E3.out).mono ?_
    rintro _ w4 ⟨A4, c4, rfl, h4, hb⟩
    have B4 := Lib.hid (B3.out.trans (hb.mono B3.out.size))
    have H4 := Lib.hid (H3.out.next hb)
    have E4 := Lib.hid (E3.out.next hb)
    have KS := Lib.hid (rsame_R A4 A1 c4 c1 P w4 (by omega) h4 E4.out)
    unfold OutB at KS
    clear hb h4 H3 E3 B3 KE2 e0 e1 X3
    go_wp2_with fail
    refine KS.out.mono ?_
    rintro _ w5 ⟨rfl, hb⟩
    have B5 := Lib.hid (B4.out.trans (hb.mono B4.out.size))
    have KS5 := Lib.hid (rsame_R A2 A1 c2 c1 P w5 (by omega) (H4.out.next hb) (E4.out.next hb))
    unfold OutB at KS5
    clear hb KS H4 B4 E4
    go_wp2_with fail
    refine KS5.out.mono ?_
    rintro _ w6 ⟨rfl, hb⟩
    have B6 := Lib.hid (B5.out.trans (hb.mono B5.out.size))
    clear hb KS5 B5
    go_wp2_with fail
    refine (KL.out _).mono ?_
    rintro _ w7 ⟨rfl, hb⟩
    have B7 := Lib.hid (B6.out.trans (hb.mono B6.out.size))
    clear hb
    go_wp2_with fail
    go_ret
    exact outB rfl B7.out
end Go.Proofs.Ytlfegjhhkeceiaa.Mbx
