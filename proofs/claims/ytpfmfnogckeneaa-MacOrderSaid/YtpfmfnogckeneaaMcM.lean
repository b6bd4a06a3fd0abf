/- The laws Puts, Results, Fresh. -/
import Derived.Test.YtpfmfnogckeneaaMcX
set_option linter.unusedVariables false
namespace Go.Proofs.Ytpfmfnogckeneaa.Mcq
open Go.RowKit
open Mbx (Fm zf fmC fmV FOk fF)

theorem put_len (l : List Sd) (f : Fm) : (put l f).1.length ≤ 16 := by
  have h := take_len l
  unfold put
  split
  · exact h
  · rename_i hf
    rw [ins_len]
    split
    · rename_i h16
      have hn : ¬ lst (l.take 16) < 0 := fun c => hf ⟨h16, Or.inr c⟩
      rw [List.length_eraseIdx, if_pos (lst_in hn).1]
      omega
    · omega
theorem res_len (l : List Sd) (i : Int) (ok : Bool) : (res l i ok).1.length ≤ 16 := by
  have h := take_len l
  unfold res
  split
  · exact h
  · split
    · exact Nat.le_trans (List.eraseIdx_sublist _ _).length_le h
    · rw [List.length_set]; exact h
theorem tick_len (l : List Sd) : (tick l).length ≤ 16 := by
  have h := take_len l
  unfold tick
  rw [List.length_map]
  exact h
/-- The reference's Tick, as it reads. -/
theorem rtick_R (A : Option Addr) (c : Nat) (l : List Sd) (w : World) (hl : l.length ≤ 1000) (hA : SdS w A c l) : Calls Try.prog 18 #[.slice A l.length c] w (SdR w (tick l)) := by
  refine (rtick_any A c l w (by omega) hA).mono ?_
  rintro _ w' ⟨v, rfl, ho, hb⟩
  obtain ⟨A', c', rfl, hs⟩ := ho.slS
  exact ⟨A', c', rfl, hs, hb⟩
set_option maxRecDepth 100000 in
set_option maxHeartbeats 4000000 in
theorem law_puts (KL0 : ∀ w, Calls Try.prog 9 #[] w (OutB w true)) (w : World) (A : Option Addr) (c : Nat) (l : List Sd) (f : Fm) (hl : l.length ≤ 9223372036854775807) (hA : SdS w A c l) (hf : FOk f) :
    Calls Try.prog 3 #[.slice A l.length c, fmV f] w (OutB w true) := by
  have HA := Lib.hid hA
  have HF := Lib.hid hf
  have KL := Lib.hid KL0
  unfold OutB at KL
  clear hA hf KL0
  by_cases h100 : 100 < l.length
  · have d0 := dt (show (100 : Int) < (l.length : Int) by omega)
    obtain ⟨y0, y1, y2, y3, y4, y5, y6, y7, y8⟩ := f
    go_enter Try.func3, Try.ntmps3
    go_wp2_with fail
    refine (KL.out _).mono ?_
    rintro _ wz ⟨rfl, hb⟩
    have BZ := Lib.hid (box_below hb)
    clear hb
    go_wp2_with fail
    go_ret
    exact outB rfl BZ.out
  have d0 := df (show ¬ (100 : Int) < (l.length : Int) by omega)
  have KP := Lib.hid (fun w hA => pput_any A c l f w (by omega) HF.out hA)
  have KR := Lib.hid (fun w hA => rput_any A c l f w (by omega) HF.out hA)
  have PL := put_len l f
  clear hl h100
  generalize put l f = R at *
  obtain ⟨P, b⟩ := R
  unfold SbR at KP KR
  simp only at KP KR PL
  obtain ⟨y0, y1, y2, y3, y4, y5, y6, y7, y8⟩ := f
  go_enter Try.func3, Try.ntmps3
  go_wp2_with fail
  refine (KP.out _ (HA.out.next (alloc_below _ _))).mono ?_
  rintro _ w1 ⟨A1, c1, rfl, h1, hb⟩
  have X1 := (hb.block w.heap.size (by simp)).trans (blk_new w (bxF ⟨y0, y1, y2, y3, y4, y5, y6, y7, y8⟩))
  have e0 := blk_cell X1 0 (v := .int .i64 y0) rfl
  have e1 := blk_cell X1 1 (v := .int .i64 y1) rfl
  have e2 := blk_cell X1 2 (v := .int .i64 y2) rfl
  have e3 := blk_cell X1 3 (v := .int .i64 y3) rfl
  have e4 := blk_cell X1 4 (v := .int .i64 y4) rfl
  have e5 := blk_cell X1 5 (v := .int .i64 y5) rfl
  have e6 := blk_cell X1 6 (v := .int .i64 y6) rfl
  have e7 := blk_cell X1 7 (v := .bool y7) rfl
  have e8 := blk_cell X1 8 (v := .string y8) rfl
  have B1 := Lib.hid (box_below hb)
  have H1 := Lib.hid h1
  clear hb h1 KP X1
  go_wp2_with fail
  refine (KR.out _ (HA.out.next B1.out)).mono ?_
  rintro _ w2 ⟨A2, c2, rfl, h2, hb⟩
  have B2 := Lib.hid (B1.out.trans (hb.mono B1.out.size))
  have KS := Lib.hid (rsame_any A1 A2 c1 c2 P w2 (by omega) (H1.out.next hb).1 h2.1)
  unfold OutB at KS
  clear hb h2 KR e0 e1 e2 e3 e4 e5 e6 e7 e8 H1
  cases b with
  | false =>
    go_wp2_with fail
    refine KS.out.mono ?_
    rintro _ w3 ⟨rfl, hb⟩
    have B3 := Lib.hid (B2.out.trans (hb.mono B2.out.size))
    clear hb KS
    go_wp2_with fail
    refine (KL.out _).mono ?_
    rintro _ wz ⟨rfl, hb⟩
    have BZ := Lib.hid (B3.out.trans (hb.mono B3.out.size))
    clear hb
    go_wp2_with fail
    go_ret
    exact outB rfl BZ.out
  | true =>
    go_wp2_with fail
    refine KS.out.mono ?_
    rintro _ w3 ⟨rfl, hb⟩
    have B3 := Lib.hid (B2.out.trans (hb.mono B2.out.size))
    clear hb KS
    go_wp2_with fail
    refine (KL.out _).mono ?_
    rintro _ wz ⟨rfl, hb⟩
    have BZ := Lib.hid (B3.out.trans (hb.mono B3.out.size))
    clear hb
    go_wp2_with fail
    go_ret
    exact outB rfl BZ.out
set_option maxRecDepth 100000 in
set_option maxHeartbeats 4000000 in
theorem law_results (KL0 : ∀ w, Calls Try.prog 9 #[] w (OutB w true)) (w : World) (A : Option Addr) (c : Nat) (l : List Sd) (i : Int) (ok : Bool) (hl : l.length ≤ 9223372036854775807) (hA : SdS w A c l) (hi : I64 i) :
    Calls Try.prog 4 #[.slice A l.length c, .int .i64 i, .bool ok] w (OutB w true) := by
  have HA := Lib.hid hA
  have KL := Lib.hid KL0
  have B0 := Lib.hid (Below.refl w.heap.size w)
  unfold OutB at KL
  clear hA KL0
  by_cases h100 : 100 < l.length
  · have d0 := dt (show (100 : Int) < (l.length : Int) by omega)
    go_enter Try.func4, Try.ntmps4
    go_wp2_with fail
    refine (KL.out _).mono ?_
    rintro _ wz ⟨rfl, hb⟩
    have BZ := Lib.hid (B0.out.trans (hb.mono B0.out.size))
    clear hb
    go_wp2_with fail
    go_ret
    exact outB rfl BZ.out
  have d0 := df (show ¬ (100 : Int) < (l.length : Int) by omega)
  have KP := Lib.hid (fun w hA => pres_any A c l i ok w (by omega) hi hA)
  have KR := Lib.hid (fun w hA => rres_any A c l i ok w (by omega) hA)
  have KN := Lib.hid (fun w hA => pnext_any A c l w (by omega) hA)
  have KM := Lib.hid (fun w hA => rnext_any A c l w (by omega) hA)
  have KT := Lib.hid (fun w hA => ptick_any A c l w (by omega) hA)
  have KU := Lib.hid (fun w hA => rtick_R A c l w (by omega) hA)
  have PL := res_len l i ok
  have TL := tick_len l
  clear hl h100
  generalize res l i ok = R at *
  generalize tick l = Q at *
  generalize next l = N at *
  obtain ⟨P, b⟩ := R
  unfold SbR at KP KR
  unfold OutI at KN KM
  unfold SdR at KT KU
  simp only at KP KR PL
  go_enter Try.func4, Try.ntmps4
  go_wp2_with fail
  refine (KP.out _ HA.out).mono ?_
  rintro _ w1 ⟨A1, c1, rfl, h1, hb⟩
  have B1 := Lib.hid hb
  have H1 := Lib.hid h1
  clear hb h1 KP
  go_wp2_with fail
  refine (KR.out _ (HA.out.next B1.out)).mono ?_
  rintro _ w2 ⟨A2, c2, rfl, h2, hb⟩
  have B2 := Lib.hid (B1.out.trans (hb.mono B1.out.size))
  have KS := Lib.hid (rsame_any A1 A2 c1 c2 P w2 (by omega) (H1.out.next hb).1 h2.1)
  unfold OutB at KS
  clear hb h2 KR H1
  cases b with
  | false =>
    go_wp2_with fail
    refine KS.out.mono ?_
    rintro _ w3 ⟨rfl, hb⟩
    have B3 := Lib.hid (B2.out.trans (hb.mono B2.out.size))
    clear hb KS
    go_wp2_with fail
    refine (KN.out _ (HA.out.next B3.out)).mono ?_
    rintro _ w4 ⟨rfl, hb⟩
    have B4 := Lib.hid (B3.out.trans (hb.mono B3.out.size))
    clear hb KN
    go_wp2_with fail
    refine (KM.out _ (HA.out.next B4.out)).mono ?_
    rintro _ w5 ⟨rfl, hb⟩
    have B5 := Lib.hid (B4.out.trans (hb.mono B4.out.size))
    clear hb KM
    go_wp2_with fail
    refine (KT.out _ (HA.out.next B5.out)).mono ?_
    rintro _ w6 ⟨A6, c6, rfl, h6, hb⟩
    have B6 := Lib.hid (B5.out.trans (hb.mono B5.out.size))
    have H6 := Lib.hid h6
    clear hb KT h6
    go_wp2_with fail
    refine (KU.out _ (HA.out.next B6.out)).mono ?_
    rintro _ w7 ⟨A7, c7, rfl, h7, hb⟩
    have B7 := Lib.hid (B6.out.trans (hb.mono B6.out.size))
    have KS := Lib.hid (rsame_any A6 A7 c6 c7 Q w7 (by omega) (H6.out.next hb).1 h7.1)
    unfold OutB at KS
    clear hb KU h7 H6
    go_wp2_with fail
    refine KS.out.mono ?_
    rintro _ w8 ⟨rfl, hb⟩
    have B8 := Lib.hid (B7.out.trans (hb.mono B7.out.size))
    clear hb KS
    go_wp2_with fail
    refine (KL.out _).mono ?_
    rintro _ wz ⟨rfl, hb⟩
    have BZ := Lib.hid (B8.out.trans (hb.mono B8.out.size))
    clear hb
    go_wp2_with fail
    go_ret
    exact outB rfl BZ.out
  | true =>
    go_wp2_with fail
    refine KS.out.mono ?_
    rintro _ w3 ⟨rfl, hb⟩
    have B3 := Lib.hid (B2.out.trans (hb.mono B2.out.size))
    clear hb KS
    go_wp2_with fail
    refine (KN.out _ (HA.out.next B3.out)).mono ?_
    rintro _ w4 ⟨rfl, hb⟩
    have B4 := Lib.hid (B3.out.trans (hb.mono B3.out.size))
    clear hb KN
    go_wp2_with fail
    refine (KM.out _ (HA.out.next B4.out)).mono ?_
    rintro _ w5 ⟨rfl, hb⟩
    have B5 := Lib.hid (B4.out.trans (hb.mono B4.out.size))
    clear hb KM
    go_wp2_with fail
    refine (KT.out _ (HA.out.next B5.out)).mono ?_
    rintro _ w6 ⟨A6, c6, rfl, h6, hb⟩
    have B6 := Lib.hid (B5.out.trans (hb.mono B5.out.size))
    have H6 := Lib.hid h6
    clear hb KT h6
    go_wp2_with fail
    refine (KU.out _ (HA.out.next B6.out)).mono ?_
    rintro _ w7 ⟨A7, c7, rfl, h7, hb⟩
    have B7 := Lib.hid (B6.out.trans (hb.mono B6.out.size))
    have KS := Lib.hid (rsame_any A6 A7 c6 c7 Q w7 (by omega) (H6.out.next hb).1 h7.1)
    unfold OutB at KS
    clear hb KU h7 H6
    go_wp2_with fail
    refine KS.out.mono ?_
    rintro _ w8 ⟨rfl, hb⟩
    have B8 := Lib.hid (B7.out.trans (hb.mono B7.out.size))
    clear hb KS
    go_wp2_with fail
    refine (KL.out _).mono ?_
    rintro _ wz ⟨rfl, hb⟩
    have BZ := Lib.hid (B8.out.trans (hb.mono B8.out.size))
    clear hb
    go_wp2_with fail
    go_ret
    exact outB rfl BZ.out
set_option maxRecDepth 100000 in
set_option maxHeartbeats 4000000 in
theorem law_fresh (KL0 : ∀ w, Calls Try.prog 9 #[] w (OutB w true)) (w : World) (A : Option Addr) (c : Nat) (l : List Pr) (p1 p2 : Int) (hl : l.length ≤ 9223372036854775807) (hA : PrS w A c l) (hp : I64 p1 ∧ I64 p2) :
    Calls Try.prog 5 #[.slice A l.length c, .agg #[.int .i64 p1, .int .i64 p2]] w (OutB w true) := by
  have HA := Lib.hid hA
  have KL := Lib.hid KL0
  unfold OutB at KL
  clear hA KL0
  by_cases h200 : 200 < l.length
  · have d0 := dt (show (200 : Int) < (l.length : Int) by omega)
    go_enter Try.func5, Try.ntmps5
    go_wp2_with fail
    refine (KL.out _).mono ?_
    rintro _ wz ⟨rfl, hb⟩
    have BZ := Lib.hid (box_below hb)
    clear hb
    go_wp2_with fail
    go_ret
    exact outB rfl BZ.out
  have d0 := df (show ¬ (200 : Int) < (l.length : Int) by omega)
  have KP := Lib.hid (fun w hA => pfresh_any A c l (p1, p2) w (by omega) hp hA)
  have KR := Lib.hid (fun w hA => rfresh_any A c l (p1, p2) w (by omega) hp hA)
  have PL := fresh_len l (p1, p2)
  clear hl h200
  generalize fresh l (p1, p2) = R at *
  obtain ⟨P, b⟩ := R
  unfold PbR at KP KR
  simp only at KP KR PL
  go_enter Try.func5, Try.ntmps5
  go_wp2_with fail
  refine (KP.out _ (HA.out.next (alloc_below _ _))).mono ?_
  rintro _ w1 ⟨A1, c1, rfl, h1, hb⟩
  have X1 := (hb.block w.heap.size (by simp)).trans (blk_new w (bxQ (p1, p2)))
  have e0 := blk_cell X1 0 (v := .int .i64 p1) rfl
  have e1 := blk_cell X1 1 (v := .int .i64 p2) rfl
  have B1 := Lib.hid (box_below hb)
  have H1 := Lib.hid h1
  clear hb h1 KP X1
  go_wp2_with fail
  refine (KR.out _ (HA.out.next B1.out)).mono ?_
  rintro _ w2 ⟨A2, c2, rfl, h2, hb⟩
  have B2 := Lib.hid (B1.out.trans (hb.mono B1.out.size))
  have KS := Lib.hid (rpairs_any A1 A2 c1 c2 P w2 (by omega) (H1.out.next hb) h2)
  unfold OutB at KS
  clear hb h2 KR e0 e1 H1
  cases b with
  | false =>
    go_wp2_with fail
    refine KS.out.mono ?_
    rintro _ w3 ⟨rfl, hb⟩
    have B3 := Lib.hid (B2.out.trans (hb.mono B2.out.size))
    clear hb KS
    go_wp2_with fail
    refine (KL.out _).mono ?_
    rintro _ wz ⟨rfl, hb⟩
    have BZ := Lib.hid (B3.out.trans (hb.mono B3.out.size))
    clear hb
    go_wp2_with fail
    go_ret
    exact outB rfl BZ.out
  | true =>
    go_wp2_with fail
    refine KS.out.mono ?_
    rintro _ w3 ⟨rfl, hb⟩
    have B3 := Lib.hid (B2.out.trans (hb.mono B2.out.size))
    clear hb KS
    go_wp2_with fail
    refine (KL.out _).mono ?_
    rintro _ wz ⟨rfl, hb⟩
    have BZ := Lib.hid (B3.out.trans (hb.mono B3.out.size))
    clear hb
    go_wp2_with fail
    go_ret
    exact outB rfl BZ.out
end Go.Proofs.Ytpfmfnogckeneaa.Mcq
