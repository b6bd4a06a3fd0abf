/- The walk of SeriesParts. -/
import Derived.Test.YtekcknpgpfeijaaEM
set_option linter.unusedVariables false
namespace Go.Proofs.Ytekcknpgpfeijaa.Series
open Go.RowKit Go.Shelf

section
variable (w : World) (A : Option Addr) (c : Nat) (l : List Int)
set_option maxRecDepth 100000 in
set_option maxHeartbeats 4000000 in
theorem law_parts (x y z : Int) (hl : l.length ≤ 9223372036854775807) (hx : I64 x) (hy : I64 y) (hz : I64 z) (hA : NsAt w w.heap.size A l) :
    Calls Try.prog 8 #[.slice A l.length c, .agg #[.int .i64 x, .int .i64 y, .int .i64 z]] w (OutB w true) := by
  have X0 := Bx.start w #[.int .i64 x, .int .i64 y, .int .i64 z] 43
  have c0 := X0.cell 0 (v := .int .i64 x) rfl
  have c1 := X0.cell 1 (v := .int .i64 y) rfl
  have c2 := X0.cell 2 (v := .int .i64 z) rfl
  have M1 := Lib.hid (small_any A c l _ hl (X0.ns hA))
  by_cases h : Sml l ∧ x ≤ y ∧ y ≤ z
  · obtain ⟨s1, h1, h2⟩ := h
    have KS := fun (wr : World) (hb : Bx w #[.int .i64 x, .int .i64 y, .int .i64 z] 43 wr) (f t : Int) (hf : I64 f) (ht : I64 t) => sum_any A c l f t wr hl hf ht (hb.ns hA)
    have KC := Lib.hid (fun (wr : World) (hb : Bx w #[.int .i64 x, .int .i64 y, .int .i64 z] 43 wr) => scum_any A c l wr hl (hb.ns hA))
    rw [s1.rd] at KC
    have KQ := Lib.hid (fun (f t : Int) (hf : I64 f) (ht : I64 t) (n : Nat) => KS _ (X0.next (below_drewN (Below.refl _ _) n)) f t hf ht)
    have KL := Lib.hid (fun (wr : World) (hb : Bx w #[.int .i64 x, .int .i64 y, .int .i64 z] 43 wr) => outI_same (KS wr hb 0 (l.length : Int) (by unfold I64; omega) (by unfold I64; omega)))
    simp only [s1.rd, psum_sml s1] at KQ KL
    have E := psum_add l h1 h2
    have i1 := sat_in (psum l x y)
    have i2 := sat_in (psum l y z)
    rw [psum_sml s1] at i1 i2
    have LAST := fun (h : 0 < l.length) => cumL_last (m := l) h
    simp only [psum_sml s1] at LAST
    have CL := cumL_len l
    have LS := Lib.hid LAST
    have d1 := df (show ¬ y < x by omega)
    have d2 := df (show ¬ z < y by omega)
    have d3 : (psum l x y + psum l y z != psum l x z) = false := by rw [E]; simp
    have XX := Lib.hid X0
    have HX := Lib.hid hx
    have HY := Lib.hid hy
    have HZ := Lib.hid hz
    generalize psum l 0 l.length = p4 at *
    generalize cumL l = cl at *
    clear hA hx hy hz KS LAST h1 h2 X0 E
    go_enter Try.func8, Try.ntmps8
    go_wp2_with fail
    refine M1.out.mono ?_
    rintro e w1 ⟨b, rfl, hb, rfl⟩
    obtain rfl : b = true := hb.2 s1
    clear hb
    go_wp2_with fail
    go_quiet ((go_at_call 16; exact quiet_same (KQ.out _ _ (by first | exact HX.out | exact HY.out) (by first | exact HY.out | exact HZ.out) _)))
    clear c0 c1 c2 d1 d2
    have X1 := XX.out.next (below_drewN (Below.refl _ _) nq)
    go_wp2_with fail
    refine (KC.out _ X1).mono ?_
    rintro e w2 ⟨A2, c2, rfl, hs, hb⟩
    have X2 := X1.next hb
    have CA := Lib.hid hs
    have CE := Lib.hid CL
    rw [CL]
    clear hb hs d3 X1 i1 i2 CL KQ KC
    have d0 : ((l.length : Int) == (l.length : Int)) = true := by simp
    by_cases h0 : l.length = 0
    · have X3 := Lib.hid X2.drew
      clear X2 LS CA CE KL M1 s1 HX HY HZ XX hl d0
      generalize l.length = n at *
      subst h0
      go_wp2_with fail
      refine wp_region_still_tail 24 (by kernel_rfl) (by kernel_rfl) (SH.out ?_)
      simp only [List.take_succ_cons, List.take_zero, List.drop_succ_cons, List.drop_zero]
      refine sh_value (.slice A2 0 c2) (by kernel_rfl) (by kernel_rfl) ?_
      refine sh_value (.int .i64 0) (by kernel_rfl) (by kernel_rfl) ?_
      refine sh_value (.slice A 0 c) (by kernel_rfl) (by kernel_rfl) ?_
      refine sh_value (.int .i64 0) (by kernel_rfl) (by kernel_rfl) ?_
      refine sh_value (.bool true) (by kernel_rfl) (by kernel_rfl) ?_
      refine sh_value (.bool true) (by kernel_rfl) (by kernel_rfl) ?_
      refine sh_value (.slice A 0 c) (by kernel_rfl) (by kernel_rfl) ?_
      refine sh_value (.int .i64 0) (by kernel_rfl) (by kernel_rfl) ?_
      refine sh_value (.bool true) (by kernel_rfl) (by kernel_rfl) ?_
      refine sh_value (.bool true) (by kernel_rfl) (by kernel_rfl) ?_
      iterate 11 refine sh_skip (by kernel_rfl) ?_
      refine sh_value (.bool true) (by kernel_rfl) (by kernel_rfl) ?_
      refine sh_value (.bool true) (by kernel_rfl) (by kernel_rfl) ?_
      refine sh_value (.bool true) (by kernel_rfl) (by kernel_rfl) ?_
      refine sh_nil ?_
      simp only [Act.put, List.setIfInBounds_toArray, List.set_cons_zero, List.set_cons_succ]
      change wpList _ _ _ _ _ w2.drew
      generalize w2.drew = w3 at *
      go_wp2_with fail
      refine (lives_any _).mono ?_
      rintro e wa ⟨rfl, hb⟩
      have Y1 := Lib.hid (X3.out.next hb).below
      clear hb
      go_wp2_with fail
      go_ret
      exact outB rfl Y1.out
    · obtain ⟨k, hk⟩ : ∃ k, l.length = k + 1 := ⟨l.length - 1, by omega⟩
      have dz : ((l.length : Int) == 0) = false := by simp; intro e; rw [e] at h0; exact h0 rfl
      have hkc : k < cl.length := by rw [CE.out]; omega
      obtain ⟨b, p, rfl, g1, g2⟩ := CA.out k hkc
      have LK := LS.out (by omega)
      rw [show (l.length : Int) - 1 = (k : Int) by omega, atL_get cl k hkc] at LK
      rw [LK] at g2
      have CC := Lib.hid (fun wr (h : Below w2.heap.size w2 wr) => (h.cell (p := ⟨b, p + k, none⟩) g1).trans g2)
      have XH := Lib.hid X2
      have d5 : (p4 == p4) = true := by simp
      clear LS CE CA LK hkc h0 X2 g1 dz d0
      generalize l.length = n at *
      subst hk
      have i2 : (k : Int) + 1 - 1 = (k : Int) := by omega
      have i5 : (k : Int) < (k : Int) + 1 := by omega
      have i6 : ((k : Int) + 1 == 0) = false := by simp; omega
      have i7 : (k : Int) + 1 ≤ 9223372036854775807 := by omega
      have i0 : (0 : Int) ≤ (k : Int) := by omega
      have i8 : IntKind.i64.wrap (k : Int) = (k : Int) := IntWalk.i64_in _ ⟨by omega, by omega⟩
      have i9 : IntKind.i64.wrap ((k : Int) + 1 - 1) = (k : Int) := by rw [i2, i8]
      have i11 : (k : Int) ≤ 9223372036854775807 := by omega
      have i12 : (-9223372036854775808 : Int) ≤ (k : Int) := by omega
      go_wp2_with fail
      have Z0 : Below w2.heap.size w2 w2.drew := (Below.refl _ _).drew
      go_region_held3 (fun w' => w'.cell? ⟨b, p + k, none⟩ = some (.int .i64 p4))
        (first | exact CC.out _ Z2 | exact CC.out _ Z1 | exact CC.out _ Z0 | fail)
        (first
        | (go_at_call 16; refine (KL.out _ (XH.out.next Z0)).mono ?_; rintro e wa ⟨rfl, hb⟩; have Z1 := Z0.trans (hb.mono Z0.size); clear hb)
        | (go_at_call 13; refine (lives_any _).mono ?_; rintro e wb ⟨rfl, hb⟩; have Z2 := Z1.trans (hb.mono Z1.size); clear hb) | fail)
      all_goals
        go_wp2_with fail
        go_ret
        exact outB rfl (XH.out.next Z2).below
  · have N := Lib.hid h
    clear hA h
    go_enter Try.func8, Try.ntmps8
    go_wp2_with fail
    refine M1.out.mono ?_
    rintro e w1 ⟨b, rfl, hb, rfl⟩
    have X1 := Lib.hid X0
    cases b with
    | false =>
      clear hb X0
      go_wp2_with fail
      refine (lives_any _).mono ?_
      rintro e w4 ⟨rfl, hb⟩
      have B := Lib.hid (X1.out.next hb).below
      clear hb
      go_wp2_with fail
      go_ret
      exact outB rfl B.out
    | true =>
      have s1 := Lib.hid (hb.1 rfl)
      clear hb X0
      by_cases h1 : y < x
      · have d1 := dt h1
        go_wp2_with fail
        refine (lives_any _).mono ?_
        rintro e w4 ⟨rfl, hb⟩
        have B := Lib.hid (X1.out.next hb).below
        clear hb
        go_wp2_with fail
        go_ret
        exact outB rfl B.out
      · have d1 := df h1
        have d2 := dt (show z < y from Classical.byContradiction fun h => N.out ⟨s1.out, by omega, by omega⟩)
        go_wp2_with fail
        refine (lives_any _).mono ?_
        rintro e w4 ⟨rfl, hb⟩
        have B := Lib.hid (X1.out.next hb).below
        clear hb
        go_wp2_with fail
        go_ret
        exact outB rfl B.out
end
end Go.Proofs.Ytekcknpgpfeijaa.Series
