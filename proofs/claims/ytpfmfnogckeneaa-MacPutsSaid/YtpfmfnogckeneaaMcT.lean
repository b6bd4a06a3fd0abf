/- The law Tries. -/
import Derived.Test.YtpfmfnogckeneaaMcX
import Derived.Test.YtpfmfnogckeneaaQH
import Derived.StillTailTactics
set_option linter.unusedVariables false
namespace Go.Proofs.Ytpfmfnogckeneaa.Mcq
open Go.RowKit
open Mbx (Fm zf fmC fmV FOk fF)

theorem wt_zero (f : Fm) : wt f 0 = 0 := by unfold wt; split <;> rfl
set_option maxRecDepth 100000 in
set_option maxHeartbeats 8000000 in
theorem law_tries (KL0 : ∀ w, Calls Try.prog 9 #[] w (OutB w true)) (w : World) (f : Fm) (hf : FOk f) :
    Calls Try.prog 6 #[fmV f] w (OutB w true) := by
  have KL := Lib.hid KL0
  unfold OutB at KL
  have K1 := Lib.hid (fun w => (by have := pput_any none 0 [] f w (by simp) hf (SlS.nil w); rw [put_nil] at this; exact this : Calls Try.prog 10 #[.slice none 0 0, fmV f] w (SbR w ([(f, 0, 0)], true))))
  have K2 := Lib.hid (fun w A c (k : Int) (z : Int) (h : SdS w A c [(f, k, z)]) (h0 : 0 ≤ k) (h7 : k < 7) => (by have := pres_any A c [(f, k, z)] 0 false w (by simp) (by unfold I64; decide) h; rw [res_step f k z h0 h7] at this; exact this : Calls Try.prog 13 #[.slice A 1 c, .int .i64 0, .bool false] w (SbR w ([(f, k + 1, wt f (k + 1))], false))))
  have K3 := Lib.hid (fun w A c (k : Int) (z : Int) (h : SdS w A c [(f, k, z)]) (h7 : 7 ≤ k) => (by have := pres_any A c [(f, k, z)] 0 false w (by simp) (by unfold I64; decide) h; rw [res_last f k z h7] at this; exact this : Calls Try.prog 13 #[.slice A 1 c, .int .i64 0, .bool false] w (SbR w ([], true))))
  have WI := Lib.hid (fun (k : Nat) => wt_in f ((k : Int) + 1) (by omega))
  have W0 := Lib.hid (wt_zero f)
  unfold SbR at K1 K2 K3
  clear KL0 hf
  generalize wt f = W at *
  obtain ⟨y0, y1, y2, y3, y4, y5, y6, y7, y8⟩ := f
  simp only at WI
  go_enter Try.func6, Try.ntmps6
  go_wp2_with fail
  refine (K1.out _).mono ?_
  rintro _ w1 ⟨A1, c1, rfl, h1, hb⟩
  have X1 := Lib.hid ((hb.block w.heap.size (by simp)).trans (blk_new w (bxF ⟨y0, y1, y2, y3, y4, y5, y6, y7, y8⟩)))
  have B1 := Lib.hid (box_below hb)
  have z1 : w.heap.size < w1.heap.size := by have := hb.size; simp at this; omega
  have H1 := Lib.hid h1
  clear hb h1 K1
  go_wp2_with fail
  go_loopw [3, 5] (fun vq vi wr => ∃ (k : Nat) (A2 : Option Addr) (c2 : Nat), vi = .int .i64 ((k : Int) + 1) ∧ k ≤ 7 ∧ vq = .slice A2 1 c2 ∧ Hid (SdS wr A2 c2 [(⟨y0, y1, y2, y3, y4, y5, y6, y7, y8⟩, (k : Int), W (k : Int))]) ∧ Hid (wr.heap[w.heap.size]? = some (bxF ⟨y0, y1, y2, y3, y4, y5, y6, y7, y8⟩)) ∧ w.heap.size < wr.heap.size ∧ Below w.heap.size w wr) (fun _ vi _ => 8 - (intOf vi).toNat)
  case atStart => exact ⟨0, A1, c1, rfl, by omega, rfl, Lib.hid (by rw [show ((0 : Nat) : Int) = 0 from rfl, W0.out]; exact H1.out), X1, z1, B1.out⟩
  case round =>
    obtain ⟨k, A2, c2, rfl, hk, rfl, HS, HX, hz, hb⟩ := hrel
    have B := Lib.hid hb
    clear hb H1 X1 B1 z1 W0
    by_cases h7 : k < 7
    · have d1 := dt (show (k : Int) + 1 ≤ 7 by omega)
      have KR := Lib.hid (K2.out wr A2 c2 (k : Int) _ HS.out (by omega) (by omega))
      obtain ⟨i1, i2, i3⟩ := WI.out k
      obtain ⟨z, hW⟩ : ∃ z, W ((k : Int) + 1) = z := ⟨_, rfl⟩
      have HW := Lib.hid hW
      rw [hW] at KR i1 i2 i3
      clear hW
      clear K2 K3 WI
      go_wp2_with fail
      refine KR.out.mono ?_
      rintro _ w2 ⟨A3, c3, rfl, h3, hb⟩
      have B := Lib.hid (B.out.trans (hb.mono B.out.size))
      have HX := Lib.hid ((hb.block w.heap.size hz).trans HX.out)
      have hz := Nat.lt_of_lt_of_le hz hb.size
      have HS := Lib.hid h3
      obtain ⟨b, p, rfl, _, hc, _⟩ := sd_cell h3.1 0 (by simp)
      obtain ⟨g0, g1, g2, g3, g4, g5, g6, g7, g8, g9, g10⟩ := hc
      simp only [List.getElem_cons_zero, Nat.zero_mul, Nat.add_zero] at g0 g1 g2 g3 g4 g5 g6 g7 g8 g9 g10
      have e0 := blk_cell HX.out 0 (v := .int .i64 y0) rfl
      have e1 := blk_cell HX.out 1 (v := .int .i64 y1) rfl
      have e2 := blk_cell HX.out 2 (v := .int .i64 y2) rfl
      have e3 := blk_cell HX.out 3 (v := .int .i64 y3) rfl
      have e4 := blk_cell HX.out 4 (v := .int .i64 y4) rfl
      have e5 := blk_cell HX.out 5 (v := .int .i64 y5) rfl
      have e6 := blk_cell HX.out 6 (v := .int .i64 y6) rfl
      have e7 := blk_cell HX.out 7 (v := .bool y7) rfl
      have e8 := blk_cell HX.out 8 (v := .string y8) rfl
      have d4 := df (show ¬ 4 < z by omega)
      clear hb h3 KR
      cases y7 with
      | true =>
        obtain rfl : z = 0 := i3 rfl
        clear i1 i2 i3
        go_wp2_with fail
        refine wp_region_quiet_lit (by kernel_rfl) (by kernel_rfl) ?_
        refine QH.out ?_
        repeat (
          refine qh_step (fun K hK => ?_)
          go_simp
          first
            | (refine hK _ ?_; clear hK K)
            | (apply Exists.intro
               refine ⟨fun _ => ?_, hK _ ?_⟩
               (fail)
               clear hK K))
        refine qh_nil ?_
        intro _ hw'
        obtain ⟨nq, hw''⟩ := hw'
        subst hw''
        obtain ⟨wq, hwq⟩ : ∃ wq, wq = w2.drewN nq := ⟨_, rfl⟩
        rw [← hwq]
        have BQ := Lib.hid (show Below w.heap.size w wq by rw [hwq]; exact below_drewN B.out nq)
        have XQ := Lib.hid (show wq.heap[w.heap.size]? = some (bxF ⟨y0, y1, y2, y3, y4, y5, y6, true, y8⟩) by rw [hwq]; exact HX.out)
        have zQ : w.heap.size < wq.heap.size := by rw [hwq]; exact hz
        have SQ := Lib.hid (HS.out.next (show Below w2.heap.size w2 wq by rw [hwq]; exact below_drewN (Below.refl _ _) nq))
        clear hwq g0 g1 g2 g3 g4 g5 g6 g7 g8 g9 g10 e0 e1 e2 e3 e4 e5 e6 e7 e8 B HX HS
        go_wp2_with fail
        go_roundw
        case rel => exact ⟨k + 1, some ⟨b, p, none⟩, c3, by go_num, by omega, rfl, Lib.hid (by rw [show ((k + 1 : Nat) : Int) = (k : Int) + 1 by omega, HW.out]; exact SQ.out), XQ, zQ, BQ.out⟩
        case measure => simp [intOf]; omega
      | false =>
        clear i1 i2 i3
        go_wp2_with fail
        refine wp_region_quiet_lit (by kernel_rfl) (by kernel_rfl) ?_
        refine QH.out ?_
        repeat (
          refine qh_step (fun K hK => ?_)
          go_simp
          first
            | (refine hK _ ?_; clear hK K)
            | (apply Exists.intro
               refine ⟨fun _ => ?_, hK _ ?_⟩
               (fail)
               clear hK K))
        refine qh_nil ?_
        intro _ hw'
        obtain ⟨nq, hw''⟩ := hw'
        subst hw''
        obtain ⟨wq, hwq⟩ : ∃ wq, wq = w2.drewN nq := ⟨_, rfl⟩
        rw [← hwq]
        have BQ := Lib.hid (show Below w.heap.size w wq by rw [hwq]; exact below_drewN B.out nq)
        have XQ := Lib.hid (show wq.heap[w.heap.size]? = some (bxF ⟨y0, y1, y2, y3, y4, y5, y6, false, y8⟩) by rw [hwq]; exact HX.out)
        have zQ : w.heap.size < wq.heap.size := by rw [hwq]; exact hz
        have SQ := Lib.hid (HS.out.next (show Below w2.heap.size w2 wq by rw [hwq]; exact below_drewN (Below.refl _ _) nq))
        clear hwq g0 g1 g2 g3 g4 g5 g6 g7 g8 g9 g10 e0 e1 e2 e3 e4 e5 e6 e7 e8 B HX HS
        go_wp2_with fail
        go_roundw
        case rel => exact ⟨k + 1, some ⟨b, p, none⟩, c3, by go_num, by omega, rfl, Lib.hid (by rw [show ((k + 1 : Nat) : Int) = (k : Int) + 1 by omega, HW.out]; exact SQ.out), XQ, zQ, BQ.out⟩
        case measure => simp [intOf]; omega
    · obtain rfl : k = 7 := by omega
      have KR := Lib.hid (K3.out wr A2 c2 _ _ HS.out (by decide))
      clear K2 K3 WI
      go_wp2_with fail
      refine KR.out.mono ?_
      rintro _ w2 ⟨A3, c3, rfl, _, hb⟩
      have B := Lib.hid (B.out.trans (hb.mono B.out.size))
      clear hb KR
      go_wp2_with fail
      refine (KL.out _).mono ?_
      rintro _ wz ⟨rfl, hb⟩
      have BZ := Lib.hid (B.out.trans (hb.mono B.out.size))
      clear hb
      go_wp2_with fail
      go_ret
      exact outB rfl BZ.out
end Go.Proofs.Ytpfmfnogckeneaa.Mcq
