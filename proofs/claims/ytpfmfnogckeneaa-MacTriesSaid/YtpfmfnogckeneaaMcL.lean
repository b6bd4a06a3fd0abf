/- The chapter's examples. -/
import Derived.Test.YtpfmfnogckeneaaMcX
set_option linter.unusedVariables false
namespace Go.Proofs.Ytpfmfnogckeneaa.Mcq
open Go.RowKit
open Mbx (Fm zf fmC fmV FOk fF)

theorem two_new (W : World) (o p : Obj) : ((W.alloc o).alloc p).heap[W.heap.size + 1]? = some p := by
  have h := blk_new (W.alloc o) p
  rw [show (W.alloc o).heap.size = W.heap.size + 1 by simp] at h
  exact h
def fa : Fm := ⟨2, 0, 1, 0, 0, 0, 0, false, ByteArray.empty⟩
def fb : Fm := ⟨2, 0, 2, 0, 0, 0, 0, true, ByteArray.empty⟩
theorem ex1 : put [] fa = ([(fa, 0, 0)], true) := put_nil fa
theorem ex2 : put [(fa, 0, 0)] fb = ([(fb, 0, 0), (fa, 0, 0)], true) := rfl
theorem ex3 : res [(fb, 0, 0), (fa, 0, 0)] 1 false = ([(fb, 0, 0), (fa, 1, 1)], false) := rfl
theorem ex4 : next [(fb, 0, 0), (fa, 1, 1)] = 0 := rfl
theorem ex5 : res [(fb, 0, 0), (fa, 1, 1)] 0 true = ([(fa, 1, 1)], false) := rfl
theorem ex6 : next [(fa, 1, 1)] = -1 := rfl
theorem ex7 : tick [(fa, 1, 1)] = [(fa, 1, 0)] := rfl
theorem ex8 : next [(fa, 1, 0)] = 0 := rfl
theorem fa_ok : FOk fa := by unfold FOk fa I64; refine ⟨?_, ?_, ?_, ?_, ?_, ?_, ?_, ?_⟩ <;> decide
theorem fb_ok : FOk fb := by unfold FOk fb I64; refine ⟨?_, ?_, ?_, ?_, ?_, ?_, ?_, ?_⟩ <;> decide
set_option maxRecDepth 100000 in
set_option maxHeartbeats 4000000 in
theorem lives_any (w : World) : Calls Try.prog 9 #[] w (OutB w true) := by
  have K1 := Lib.hid (fun w => (by have := pput_any none 0 [] fa w (by simp) fa_ok (SlS.nil w); rw [ex1] at this; exact this : Calls Try.prog 10 #[.slice none 0 0, fmV fa] w (SbR w ([(fa, 0, 0)], true))))
  have K2 := Lib.hid (fun w A c h => (by have := pput_any A c [(fa, 0, 0)] fb w (by simp) fb_ok h; rw [ex2] at this; exact this : Calls Try.prog 10 #[.slice A 1 c, fmV fb] w (SbR w ([(fb, 0, 0), (fa, 0, 0)], true))))
  have K3 := Lib.hid (fun w A c h => (by have := pres_any A c [(fb, 0, 0), (fa, 0, 0)] 1 false w (by simp) (by unfold I64; decide) h; rw [ex3] at this; exact this : Calls Try.prog 13 #[.slice A 2 c, .int .i64 1, .bool false] w (SbR w ([(fb, 0, 0), (fa, 1, 1)], false))))
  have K4 := Lib.hid (fun w A c h => (by have := pnext_any A c [(fb, 0, 0), (fa, 1, 1)] w (by simp) h; rw [ex4] at this; exact this : Calls Try.prog 15 #[.slice A 2 c] w (OutI w 0)))
  have K5 := Lib.hid (fun w A c h => (by have := pres_any A c [(fb, 0, 0), (fa, 1, 1)] 0 true w (by simp) (by unfold I64; decide) h; rw [ex5] at this; exact this : Calls Try.prog 13 #[.slice A 2 c, .int .i64 0, .bool true] w (SbR w ([(fa, 1, 1)], false))))
  have K6 := Lib.hid (fun w A c h => (by have := pnext_any A c [(fa, 1, 1)] w (by simp) h; rw [ex6] at this; exact this : Calls Try.prog 15 #[.slice A 1 c] w (OutI w (-1))))
  have K7 := Lib.hid (fun w A c h => (by have := ptick_any A c [(fa, 1, 1)] w (by simp) h; rw [ex7] at this; exact this : Calls Try.prog 17 #[.slice A 1 c] w (SdR w [(fa, 1, 0)])))
  have K8 := Lib.hid (fun w A c h => (by have := pnext_any A c [(fa, 1, 0)] w (by simp) h; rw [ex8] at this; exact this : Calls Try.prog 15 #[.slice A 1 c] w (OutI w 0)))
  unfold SbR at K1 K2 K3 K5
  unfold SdR at K7
  unfold OutI at K4 K6 K8
  go_enter Try.func9, Try.ntmps9
  go_wp2_with fail
  refine (K1.out _).mono ?_
  rintro _ w1 ⟨A1, c1, rfl, h1, hb⟩
  have XA := (hb.block w.heap.size (by simp; omega)).trans (blk_alloc (blk_new w (bxF fa)) (bxF fb))
  have XB := (hb.block (w.heap.size + 1) (by simp)).trans (two_new w (bxF fa) (bxF fb))
  have hz1 : w.heap.size + 1 < w1.heap.size := by have := hb.size; simp at this; omega
  have B1 := Lib.hid (show Below w.heap.size w w1 from ((alloc_below w (bxF fa)).alloc (by simp) (bxF fb)).trans (hb.mono (by simp; omega)))
  have H1 := Lib.hid h1
  have XB1 := Lib.hid XB
  have e0 := blk_cell XB 0 (v := .int .i64 2) rfl
  have e1 := blk_cell XB 1 (v := .int .i64 0) rfl
  have e2 := blk_cell XB 2 (v := .int .i64 2) rfl
  have e3 := blk_cell XB 3 (v := .int .i64 0) rfl
  have e4 := blk_cell XB 4 (v := .int .i64 0) rfl
  have e5 := blk_cell XB 5 (v := .int .i64 0) rfl
  have e6 := blk_cell XB 6 (v := .int .i64 0) rfl
  have e7 := blk_cell XB 7 (v := .bool true) rfl
  have e8 := blk_cell XB 8 (v := .string ByteArray.empty) rfl
  clear hb h1 K1 XA XB
  go_wp2_with fail
  refine (K2.out _ _ _ H1.out).mono ?_
  rintro _ w2 ⟨A2, c2, rfl, h2, hb⟩
  have B2 := Lib.hid (B1.out.trans (hb.mono B1.out.size))
  have XB2 := (hb.block (w.heap.size + 1) hz1).trans XB1.out
  have H2 := Lib.hid h2
  clear hb h2 K2 H1 e0 e1 e2 e3 e4 e5 e6 e7 e8 XB1
  have e0 := blk_cell XB2 0 (v := .int .i64 2) rfl
  have e1 := blk_cell XB2 1 (v := .int .i64 0) rfl
  have e2 := blk_cell XB2 2 (v := .int .i64 2) rfl
  have e3 := blk_cell XB2 3 (v := .int .i64 0) rfl
  have e4 := blk_cell XB2 4 (v := .int .i64 0) rfl
  have e5 := blk_cell XB2 5 (v := .int .i64 0) rfl
  have e6 := blk_cell XB2 6 (v := .int .i64 0) rfl
  have e7 := blk_cell XB2 7 (v := .bool true) rfl
  have e8 := blk_cell XB2 8 (v := .string ByteArray.empty) rfl
  obtain ⟨b, p, rfl, _, hc, _⟩ := sd_cell H2.out.1 0 (by simp)
  obtain ⟨g0, g1, g2, g3, g4, g5, g6, g7, g8, _, _⟩ := hc
  simp only [List.getElem_cons_zero, fb, Nat.zero_mul, Nat.add_zero] at g0 g1 g2 g3 g4 g5 g6 g7 g8
  go_wp2_with fail
  go_quiet (fail)
  clear e0 e1 e2 e3 e4 e5 e6 e7 e8 g0 g1 g2 g3 g4 g5 g6 g7 g8 XB2
  generalize hq : w2.drewN _ = wq
  have Bq := Lib.hid (show Below w.heap.size w wq by rw [← hq]; exact below_drewN B2.out _)
  have Hq := Lib.hid (show SdS wq (some ⟨b, p, none⟩) c2 [(fb, 0, 0), (fa, 0, 0)] by rw [← hq]; exact H2.out.next (below_drewN (Below.refl _ _) _))
  clear hq H2 B2
  go_wp2_with fail
  refine (K3.out _ _ _ Hq.out).mono ?_
  rintro _ w3 ⟨A3, c3, rfl, h3, hb⟩
  have B3 := Lib.hid (Bq.out.trans (hb.mono Bq.out.size))
  have H3 := Lib.hid h3
  clear hb h3 K3 Hq
  go_wp2_with fail
  refine (K4.out _ _ _ H3.out).mono ?_
  rintro _ w4 ⟨rfl, hb⟩
  have B4 := Lib.hid (B3.out.trans (hb.mono B3.out.size))
  have H4 := Lib.hid (H3.out.next hb)
  clear hb K4 H3
  go_wp2_with fail
  refine (K5.out _ _ _ H4.out).mono ?_
  rintro _ w5 ⟨A5, c5, rfl, h5, hb⟩
  have B5 := Lib.hid (B4.out.trans (hb.mono B4.out.size))
  have H5 := Lib.hid h5
  obtain ⟨b5, p5, rfl, _, hc, _⟩ := sd_cell h5.1 0 (by simp)
  have g9 := hc.2.2.2.2.2.2.2.2.2.1
  have g10 := hc.2.2.2.2.2.2.2.2.2.2
  simp only [List.getElem_cons_zero, Nat.zero_mul, Nat.add_zero] at g9 g10
  clear hb h5 K5 H4 hc
  go_wp2_with fail
  refine (K6.out _ _ _ H5.out).mono ?_
  rintro _ w6 ⟨rfl, hb⟩
  have B6 := Lib.hid (B5.out.trans (hb.mono B5.out.size))
  have H6 := Lib.hid (H5.out.next hb)
  clear hb K6 H5 g9 g10
  go_wp2_with fail
  refine (K7.out _ _ _ H6.out).mono ?_
  rintro _ w7 ⟨A7, c7, rfl, h7, hb⟩
  have B7 := Lib.hid (B6.out.trans (hb.mono B6.out.size))
  have H7 := Lib.hid h7
  clear hb h7 K7 H6
  go_wp2_with fail
  refine (K8.out _ _ _ H7.out).mono ?_
  rintro _ w8 ⟨rfl, hb⟩
  have B8 := Lib.hid (B7.out.trans (hb.mono B7.out.size))
  clear hb K8 H7
  go_wp2_with fail
  go_ret
  exact outB rfl B8.out
end Go.Proofs.Ytpfmfnogckeneaa.Mcq
