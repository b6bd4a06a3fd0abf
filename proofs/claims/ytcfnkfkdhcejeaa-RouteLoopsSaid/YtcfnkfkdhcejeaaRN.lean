/- Contract of package route: Update. -/
import Derived.Test.YtcfnkfkdhcejeaaRM
set_option linter.unusedVariables false
namespace Go.Proofs.Ytcfnkfkdhcejeaa.Rte
open Go.RowKit

/-- Update, as a fold over the first k routes. -/
def updF (s frm cost : Int) (t adv : List Rt) (k : Nat) : List Rt := (adv.take k).foldl (aplU s frm cost) t
theorem updF_succ (s frm cost : Int) (t adv : List Rt) (k : Nat) (h : k < adv.length) : updF s frm cost t adv (k + 1) = aplU s frm cost (updF s frm cost t adv k) adv[k] := by
  unfold updF
  rw [List.take_succ_eq_append_getElem h, List.foldl_append]
  rfl
theorem updF_tab {s frm cost : Int} (hf : (0 ≤ frm ∧ frm ≤ 250) ∧ frm ≠ s) (hc : 1 ≤ cost ∧ cost ≤ 200) {t : List Rt} (h : Tab t s) (adv : List Rt) (k : Nat) : Tab (updF s frm cost t adv k) s := by
  unfold updF
  generalize adv.take k = l
  induction l generalizing t with
  | nil => exact h
  | cons x r ih => exact ih (aplU_tab hf hc h x)
theorem thr_ok {x : Rt} (hx : Us1 x) {frm cost : Int} (hf : 0 ≤ frm ∧ frm ≤ 250) (hc : 1 ≤ cost ∧ cost ≤ 200) : fR.ok (thr x frm cost) := by
  have h1 := hx.1
  have hr : 0 ≤ x.2.2.1 ∧ x.2.2.1 ≤ 255 := by
    rcases hx.2 with h | h
    · have := h.1; unfold Fin1 at this; omega
    · omega
  unfold thr
  split
  · exact ⟨by unfold I64; (try dsimp only); omega, by unfold I64; (try dsimp only); omega, by unfold I64; (try dsimp only); omega, by unfold I64; (try dsimp only); omega⟩
  · exact ⟨by unfold I64; (try dsimp only); omega, by unfold I64; (try dsimp only); omega, by unfold I64; (try dsimp only); omega, by unfold I64; (try dsimp only); omega⟩
theorem us_cost {x : Rt} (hx : Us1 x) : 0 ≤ x.2.2.1 ∧ x.2.2.1 ≤ 255 := by
  rcases hx.2 with h | h
  · have := h.1; unfold Fin1 at this; omega
  · omega

section
variable (A : Option Addr) (c : Nat) (l : List Rt) (n frm cost : Int) (A2 : Option Addr) (c2 : Nat) (adv : List Rt) (w : World) (hl : l.length ≤ 9223372036854775807) (hA : RtAt w w.heap.size A l) (hl2 : adv.length ≤ 9223372036854775807) (hA2 : RtAt w w.heap.size A2 adv)
include hl hA hl2 hA2

set_option maxRecDepth 100000 in
set_option maxHeartbeats 4000000 in
theorem pupd_any : Calls Try.prog 18 #[.slice A l.length c, .int .i64 n, .int .i64 frm, .int .i64 cost, .slice A2 adv.length c2] w (OutT w (upd l n frm cost adv)) := by
  have KL := Lib.hid (fun w => limited_any n w)
  have KC := Lib.hid (copied_any A c l n w hl hA)
  have KA := Lib.hid (fun w => isAddress_any frm w)
  have TT := Lib.hid (tb_tab l n)
  have HA := Lib.hid hA2
  have BM := Lib.hid (show upd l n frm cost adv = if ((0 ≤ frm ∧ frm ≤ 250) ∧ frm ≠ lim n) ∧ (1 ≤ cost ∧ cost ≤ 200) then adv.foldl (aplU (lim n) frm cost) (tb l n) else tb l n from rfl)
  clear hA hA2
  generalize upd l n frm cost adv = F at *
  generalize tb l n = t at *
  generalize lim n = s at *
  by_cases hc : ((0 ≤ frm ∧ frm ≤ 250) ∧ frm ≠ s) ∧ (1 ≤ cost ∧ cost ≤ 200)
  rotate_left
  · have R := Lib.hid (show F = t by rw [BM.out, if_neg hc])
    clear BM
    by_cases h1 : 0 ≤ frm ∧ frm ≤ 250
    rotate_left
    · rw [df h1] at KA
      clear h1 hc
      go_enter Try.func18, Try.ntmps18
      go_wp2_with fail
      refine (KL.out _).mono ?_
      rintro _ w0 ⟨rfl, rfl⟩
      go_wp2_with fail
      refine KC.out.mono ?_
      rintro _ w1 ⟨v, rfl, ho, hb⟩
      have B1 := Lib.hid hb
      have O1 := Lib.hid ho
      clear hb ho
      go_wp2_with fail
      refine (KA.out _).mono ?_
      rintro _ w2 ⟨rfl, rfl⟩
      go_wp2_with fail
      go_ret
      exact ⟨_, rfl, by rw [R.out]; exact O1.out, B1.out⟩
    rw [dt h1] at KA
    by_cases h2 : frm = s
    · have d2 : (frm == s) = true := by simpa using h2
      clear h1 hc h2
      go_enter Try.func18, Try.ntmps18
      go_wp2_with fail
      refine (KL.out _).mono ?_
      rintro _ w0 ⟨rfl, rfl⟩
      go_wp2_with fail
      refine KC.out.mono ?_
      rintro _ w1 ⟨v, rfl, ho, hb⟩
      have B1 := Lib.hid hb
      have O1 := Lib.hid ho
      clear hb ho
      go_wp2_with fail
      refine (KA.out _).mono ?_
      rintro _ w2 ⟨rfl, rfl⟩
      go_wp2_with fail
      go_ret
      exact ⟨_, rfl, by rw [R.out]; exact O1.out, B1.out⟩
    have d2 : (frm == s) = false := by simpa using h2
    by_cases h3 : cost < 1
    · have d3 := dt h3
      clear h1 hc h2 h3
      go_enter Try.func18, Try.ntmps18
      go_wp2_with fail
      refine (KL.out _).mono ?_
      rintro _ w0 ⟨rfl, rfl⟩
      go_wp2_with fail
      refine KC.out.mono ?_
      rintro _ w1 ⟨v, rfl, ho, hb⟩
      have B1 := Lib.hid hb
      have O1 := Lib.hid ho
      clear hb ho
      go_wp2_with fail
      refine (KA.out _).mono ?_
      rintro _ w2 ⟨rfl, rfl⟩
      go_wp2_with fail
      go_ret
      exact ⟨_, rfl, by rw [R.out]; exact O1.out, B1.out⟩
    have d3 := df h3
    have d4 : decide (200 < cost) = true := dt (Decidable.byContradiction fun h4 => hc ⟨⟨h1, h2⟩, by omega⟩)
    clear h1 hc h2 h3
    go_enter Try.func18, Try.ntmps18
    go_wp2_with fail
    refine (KL.out _).mono ?_
    rintro _ w0 ⟨rfl, rfl⟩
    go_wp2_with fail
    refine KC.out.mono ?_
    rintro _ w1 ⟨v, rfl, ho, hb⟩
    have B1 := Lib.hid hb
    have O1 := Lib.hid ho
    clear hb ho
    go_wp2_with fail
    refine (KA.out _).mono ?_
    rintro _ w2 ⟨rfl, rfl⟩
    go_wp2_with fail
    go_ret
    exact ⟨_, rfl, by rw [R.out]; exact O1.out, B1.out⟩
  obtain ⟨⟨h1, h2⟩, hcc⟩ := hc
  rw [dt h1] at KA
  have d2 : (frm == s) = false := by simpa using h2
  have d3 := df (show ¬ cost < 1 by omega)
  have d4 := df (show ¬ 200 < cost by omega)
  have R := Lib.hid (show F = updF s frm cost t adv adv.length by rw [BM.out, if_pos ⟨⟨h1, h2⟩, hcc⟩]; unfold updF; rw [List.take_length])
  have FT := Lib.hid (fun k => updF_tab (cost := cost) ⟨h1, h2⟩ hcc TT.out adv k)
  have FS := Lib.hid (fun k h => updF_succ s frm cost t adv k h)
  have F0 : Hid (updF s frm cost t adv 0 = t) := Lib.hid rfl
  have TO := Lib.hid (fun x (hx : Us1 x) => thr_ok (x := x) hx h1 hcc)
  have TA := Lib.hid (fun T x (hx : Us1 x) => apl_app frm cost T x hx hcc)
  clear BM TT
  generalize updF s frm cost t adv = G at *
  go_enter Try.func18, Try.ntmps18
  go_wp2_with fail
  refine (KL.out _).mono ?_
  rintro _ w0 ⟨rfl, rfl⟩
  go_wp2_with fail
  refine KC.out.mono ?_
  rintro _ w1 ⟨v, rfl, ho, hb⟩
  have B1 := Lib.hid hb
  have ho : OwnR w1 w.heap.size v (G 0) := by rw [F0.out]; exact ho
  obtain ⟨A1, c1, rfl, _⟩ := ho.form
  have O1 := Lib.hid ho
  clear hb ho
  go_wp2_with fail
  refine (KA.out _).mono ?_
  rintro _ w2 ⟨rfl, rfl⟩
  clear KA KL KC F0
  go_wp2_with fail
  clear d3 d4 d2
  go_loopw [11, 38] (fun vv i wr => ∃ (k : Nat) (A1 : Option Addr) (c1 : Nat), i = .int .i64 k ∧ vv = .slice A1 (G k).length c1 ∧ k ≤ adv.length ∧ Hid (OwnR wr w.heap.size (.slice A1 (G k).length c1) (G k)) ∧ Below w.heap.size w wr) (fun _ i _ => adv.length - (intOf i).toNat)
  case atStart => exact ⟨0, A1, c1, rfl, rfl, Nat.zero_le _, O1, B1.out⟩
  case round =>
    clear O1 B1
    obtain ⟨k, A1, c1, rfl, rfl, hk, O, hb⟩ := hrel
    have B := Lib.hid hb
    have hz := hb.size
    by_cases hlt : k < adv.length
    · obtain ⟨b, p, rfl, hbw, g0, g1, g2, g3, _⟩ := rt_cell (HA.out.below hb) k hlt
      have GS := Lib.hid (FS.out k hlt)
      have TG := Lib.hid (FT.out k)
      obtain ⟨⟨x0, x1, x2, x3⟩, hx⟩ : ∃ x, adv[k] = x := ⟨_, rfl⟩
      rw [hx] at g0 g1 g2 g3 GS
      simp only at g0 g1 g2 g3
      have KU := Lib.hid (fun w => (show Calls Try.prog 43 #[.agg #[.int .i64 x0, .int .i64 x1, .int .i64 x2, .int .i64 x3]] w (OutV w (.bool (decide (Us1 (x0, x1, x2, x3))))) from (isUsable_any (x0, x1, x2, x3) w).mono fun _ _ h => outG_V h))
      unfold OutV at KU
      clear hx hb FS FT
      by_cases hu : Us1 (x0, x1, x2, x3)
      · rw [dt hu] at KU
        by_cases h0 : x0 = s
        · have N := Lib.hid (show G (k + 1) = G k from GS.out.trans (if_neg fun h => h.2 h0))
          have d0 : (x0 != s) = false := by simpa using h0
          have d9 : (x0 == s) = true := by simpa using h0
          clear h0 hu GS TO TA TG
          go_wp2_with fail
          refine (KU.out _).mono ?_
          rintro _ w4 ⟨rfl, hb⟩
          have B4 := Lib.hid ((B.out.alloc hz _).trans (hb.mono (Nat.le_trans hz (by simp))))
          have O4 := Lib.hid ((O.out.alloc (bxR x0 x1 x2 x3)).below hb)
          have c0 := box_at hb 0 (v := .int .i64 x0) rfl
          clear hb
          go_wp2_with fail
          go_roundw
          case rel => exact ⟨k + 1, _, _, by go_num, by rw [N.out], hlt, by rw [N.out]; exact O4, B4.out⟩
          case measure => simp [intOf]; omega
        · have N := Lib.hid (show G (k + 1) = app frm (G k) (thr (x0, x1, x2, x3) frm cost) from GS.out.trans ((if_pos ⟨hu, h0⟩).trans (TA.out _ _ hu)))
          have d0 : (x0 != s) = true := by simpa using h0
          have d9 : (x0 == s) = false := by simpa using h0
          have OKT := Lib.hid (TO.out _ hu)
          have KT := Lib.hid (fun w => (show Calls Try.prog 45 #[.agg #[.int .i64 x0, .int .i64 x1, .int .i64 x2, .int .i64 x3], .int .i64 frm, .int .i64 cost] w (OutV w (rtV (thr (x0, x1, x2, x3) frm cost))) from through_any (x0, x1, x2, x3) frm cost (us_cost hu) hcc w))
          unfold OutV at KT
          clear h0 hu GS TO TA
          obtain ⟨⟨z0, z1, z2, z3⟩, hz'⟩ : ∃ z, thr (x0, x1, x2, x3) frm cost = z := ⟨_, rfl⟩
          rw [hz'] at N OKT KT
          clear hz'
          have KT := Lib.hid (fun w => (show Calls Try.prog 45 #[.agg #[.int .i64 x0, .int .i64 x1, .int .i64 x2, .int .i64 x3], .int .i64 frm, .int .i64 cost] w (fun e w' => e = .returned (.agg #[.int .i64 z0, .int .i64 z1, .int .i64 z2, .int .i64 z3]) ∧ Below w.heap.size w w') from KT.out w))
          have KP := Lib.hid (fun wz (hB : w.heap.size ≤ wz.heap.size) (hO : OwnR wz w.heap.size (.slice A1 (G k).length c1) (G k)) => (show Calls Try.prog 44 #[.slice A1 (G k).length c1, .agg #[.int .i64 z0, .int .i64 z1, .int .i64 z2, .int .i64 z3], .int .i64 frm] wz (OutR w.heap.size wz (app frm (G k) (z0, z1, z2, z3))) from applied_any w.heap.size _ (G k) (z0, z1, z2, z3) frm wz hB hO TG.out.2.1.2 (by have := TG.out.1.1; omega) OKT.out))
          rw [← N.out] at KP
          go_wp2_with fail
          refine (KU.out _).mono ?_
          rintro _ w4 ⟨rfl, hb⟩
          have B4 := Lib.hid ((B.out.alloc hz _).trans (hb.mono (Nat.le_trans hz (by simp))))
          have hz4 := B4.out.size
          have O4 := Lib.hid ((O.out.alloc (bxR x0 x1 x2 x3)).below hb)
          have c0 := box_at hb 0 (v := .int .i64 x0) rfl
          have c1 := box_at hb 1 (v := .int .i64 x1) rfl
          have c2 := box_at hb 2 (v := .int .i64 x2) rfl
          have c3 := box_at hb 3 (v := .int .i64 x3) rfl
          clear hb KU
          go_wp2_with fail
          refine (KT.out _).mono ?_
          rintro _ w5 ⟨rfl, hb⟩
          have B5 := Lib.hid (B4.out.trans (hb.mono hz4))
          have hz5 := B5.out.size
          have O5 := Lib.hid (O4.out.below hb)
          clear hb KT c0 c1 c2 c3 O4
          go_wp2_with fail
          refine (KP.out _ hz5 O5.out).mono ?_
          rintro _ w6 ⟨v6, rfl, ho, hb⟩
          have B6 := Lib.hid (B5.out.trans hb)
          obtain ⟨A6, c6, rfl, _⟩ := ho.form
          have O6 := Lib.hid ho
          clear hb KP ho O5
          go_wp2_with fail
          go_roundw
          case rel => exact ⟨k + 1, _, _, by go_num, rfl, hlt, O6, B6.out⟩
          case measure => simp [intOf]; omega
      · rw [df hu] at KU
        have N := Lib.hid (show G (k + 1) = G k from GS.out.trans (if_neg fun h => hu h.1))
        clear hu GS TO TA TG
        go_wp2_with fail
        refine (KU.out _).mono ?_
        rintro _ w4 ⟨rfl, hb⟩
        have B4 := Lib.hid ((B.out.alloc hz _).trans (hb.mono (Nat.le_trans hz (by simp))))
        have O4 := Lib.hid ((O.out.alloc (bxR x0 x1 x2 x3)).below hb)
        clear hb
        go_wp2_with fail
        go_roundw
        case rel => exact ⟨k + 1, _, _, by go_num, by rw [N.out], hlt, by rw [N.out]; exact O4, B4.out⟩
        case measure => simp [intOf]; omega
    · obtain rfl : k = adv.length := by omega
      rw [← R.out] at O ⊢
      clear hb TO TA FS FT R HA
      go_wp2_with fail
      go_ret
      exact ⟨_, rfl, O.out, B.out⟩
end
end Go.Proofs.Ytcfnkfkdhcejeaa.Rte
