/- The reference: Update, Break. -/
import Derived.Test.YtcfnkfkdhcejeaaRQ
import Derived.Test.YtcfnkfkdhcejeaaQH
import Derived.StillTailTactics
set_option linter.unusedVariables false
namespace Go.Proofs.Ytcfnkfkdhcejeaa.Rte
open Go.RowKit

theorem cell_grownB {B : Nat} {w : World} {a : Addr} {v : Value} (ha : a.block < w.heap.size) (h : w.cell? a = some v) : ∀ n os, (Go.Sort.grow (w.drewN n) os).cell? a = some v := fun n os => cell_grown (w := w) (a := a) ha h n os

section
variable (A : Option Addr) (c : Nat) (l : List Rt) (n frm cost : Int) (A2 : Option Addr) (c2 : Nat) (adv : List Rt) (w : World) (hl : l.length ≤ 9223372036854775807) (hA : RtAt w w.heap.size A l) (hl2 : adv.length ≤ 9223372036854775807) (hA2 : RtAt w w.heap.size A2 adv)
include hl hA hl2 hA2

set_option maxRecDepth 100000 in
set_option maxHeartbeats 1000000 in
theorem rupd_any : Calls Try.prog 19 #[.slice A l.length c, .int .i64 n, .int .i64 frm, .int .i64 cost, .slice A2 adv.length c2] w (OutT w (upd l n frm cost adv)) := by
  have KL := Lib.hid (fun w => rlimit_any n w)
  have KA := Lib.hid (fun w => rlimit_any frm w)
  have KC := Lib.hid (rtable_any A c l n w hl hA)
  have TT := Lib.hid (tb_tab l n)
  have HA := Lib.hid hA2
  have LS := lim_same frm
  have BM := Lib.hid (show upd l n frm cost adv = if ((0 ≤ frm ∧ frm ≤ 250) ∧ frm ≠ lim n) ∧ (1 ≤ cost ∧ cost ≤ 200) then adv.foldl (aplU (lim n) frm cost) (tb l n) else tb l n from rfl)
  clear hA hA2
  generalize upd l n frm cost adv = F at *
  generalize tb l n = t at *
  generalize lim n = s at *
  generalize lim frm = q at *
  by_cases hc : ((0 ≤ frm ∧ frm ≤ 250) ∧ frm ≠ s) ∧ (1 ≤ cost ∧ cost ≤ 200)
  rotate_left
  · have R := Lib.hid (show F = t by rw [BM.out, if_neg hc])
    clear BM
    by_cases h1 : frm = q
    rotate_left
    · have d1 : (frm == q) = false := by simpa using h1
      have d1' : (frm != q) = true := by simpa using h1
      clear h1 hc LS
      go_enter Try.func19, Try.ntmps19
      go_wp2_with fail
      refine KC.out.mono ?_
      rintro _ w1 ⟨v, rfl, ho, hb⟩
      have B1 := Lib.hid hb
      have O1 := Lib.hid ho
      clear hb ho
      go_wp2_with fail
      refine (KA.out _).mono ?_
      rintro _ w2 ⟨rfl, rfl⟩
      go_wp2_with fail
      go_ret
      exact ⟨_, rfl, by rw [R.out]; exact O1.out, B1.out⟩
    have d1 : (frm == q) = true := by simpa using h1
    have d1' : (frm != q) = false := by simpa using h1
    have hr := LS.1 h1
    clear LS
    by_cases h2 : frm = s
    · have d2 : (frm == s) = true := by simpa using h2
      clear h1 hc h2
      go_enter Try.func19, Try.ntmps19
      go_wp2_with fail
      refine KC.out.mono ?_
      rintro _ w1 ⟨v, rfl, ho, hb⟩
      have B1 := Lib.hid hb
      have O1 := Lib.hid ho
      clear hb ho
      go_wp2_with fail
      refine (KA.out _).mono ?_
      rintro _ w2 ⟨rfl, rfl⟩
      go_wp2_with fail
      refine (KL.out _).mono ?_
      rintro _ w2 ⟨rfl, rfl⟩
      go_wp2_with fail
      go_ret
      exact ⟨_, rfl, by rw [R.out]; exact O1.out, B1.out⟩
    have d2 : (frm == s) = false := by simpa using h2
    by_cases h3 : cost < 1
    · have d3 := dt h3
      clear h1 hc h2 h3
      go_enter Try.func19, Try.ntmps19
      go_wp2_with fail
      refine KC.out.mono ?_
      rintro _ w1 ⟨v, rfl, ho, hb⟩
      have B1 := Lib.hid hb
      have O1 := Lib.hid ho
      clear hb ho
      go_wp2_with fail
      refine (KA.out _).mono ?_
      rintro _ w2 ⟨rfl, rfl⟩
      go_wp2_with fail
      refine (KL.out _).mono ?_
      rintro _ w2 ⟨rfl, rfl⟩
      go_wp2_with fail
      go_ret
      exact ⟨_, rfl, by rw [R.out]; exact O1.out, B1.out⟩
    have d3 := df h3
    have d4 : decide (200 < cost) = true := dt (Decidable.byContradiction fun h4 => hc ⟨⟨hr, h2⟩, by omega⟩)
    clear h1 hc h2 h3 hr
    go_enter Try.func19, Try.ntmps19
    go_wp2_with fail
    refine KC.out.mono ?_
    rintro _ w1 ⟨v, rfl, ho, hb⟩
    have B1 := Lib.hid hb
    have O1 := Lib.hid ho
    clear hb ho
    go_wp2_with fail
    refine (KA.out _).mono ?_
    rintro _ w2 ⟨rfl, rfl⟩
    go_wp2_with fail
    refine (KL.out _).mono ?_
    rintro _ w2 ⟨rfl, rfl⟩
    go_wp2_with fail
    go_ret
    exact ⟨_, rfl, by rw [R.out]; exact O1.out, B1.out⟩
  obtain ⟨⟨h1, h2⟩, hcc⟩ := hc
  have hq := LS.2 h1
  have d1 : (frm == q) = true := by simpa using hq
  have d1' : (frm != q) = false := by simpa using hq
  clear LS hq
  have d2 : (frm == s) = false := by simpa using h2
  have d3 := df (show ¬ cost < 1 by omega)
  have d4 := df (show ¬ 200 < cost by omega)
  have R := Lib.hid (show F = updF s frm cost t adv adv.length by rw [BM.out, if_pos ⟨⟨h1, h2⟩, hcc⟩]; unfold updF; rw [List.take_length])
  have FT := Lib.hid (fun k => updF_tab (cost := cost) ⟨h1, h2⟩ hcc TT.out adv k)
  have FS := Lib.hid (fun k h => updF_succ s frm cost t adv k h)
  have F0 : Hid (updF s frm cost t adv 0 = t) := Lib.hid rfl
  clear BM TT
  generalize updF s frm cost t adv = G at *
  go_enter Try.func19, Try.ntmps19
  go_wp2_with fail
  refine KC.out.mono ?_
  rintro _ w1 ⟨v, rfl, ho, hb⟩
  have B1 := Lib.hid hb
  have ho : OwnR w1 w.heap.size v (G 0) := by rw [F0.out]; exact ho
  obtain ⟨A1, c1, rfl, _⟩ := ho.form
  have O1 := Lib.hid ho
  clear hb ho
  go_wp2_with fail
  refine (KA.out _).mono ?_
  rintro _ w2 ⟨rfl, rfl⟩
  go_wp2_with fail
  refine (KL.out _).mono ?_
  rintro _ w2 ⟨rfl, rfl⟩
  go_wp2_with fail
  clear d3 d4 d2 d1 d1' KA KC F0
  go_loopw [11, 12] (fun vv i wr => ∃ (k : Nat) (A1 : Option Addr) (c1 : Nat), i = .int .i64 k ∧ vv = .slice A1 (G k).length c1 ∧ k ≤ adv.length ∧ Hid (OwnR wr w.heap.size (.slice A1 (G k).length c1) (G k)) ∧ Below w.heap.size w wr) (fun _ i _ => adv.length - (intOf i).toNat)
  case atStart => exact ⟨0, A1, c1, rfl, rfl, Nat.zero_le _, O1, B1.out⟩
  case round =>
    clear O1 B1
    obtain ⟨k, A1, c1, rfl, rfl, hk, O, hb⟩ := hrel
    have B := Lib.hid hb
    have hz := hb.size
    by_cases hlt : k < adv.length
    · obtain ⟨b, p, rfl, hbw, g0, g1, g2, g3, _⟩ := rt_cell (HA.out.below hb) k hlt
      have GS := Lib.hid (FS.out k hlt)
      have TG := Lib.hid (FT.out k)
      obtain ⟨⟨x0, x1, x2, x3⟩, hx⟩ : ∃ x, adv[k] = x := ⟨_, rfl⟩
      have HX := Lib.hid hx
      rw [hx] at g0 g1 g2 g3 GS
      simp only at g0 g1 g2 g3
      have KU := Lib.hid (fun w => (show Calls Try.prog 38 #[.agg #[.int .i64 x0, .int .i64 x1, .int .i64 x2, .int .i64 x3]] w (OutG w (.bool (decide (Us1 (x0, x1, x2, x3))))) from rusable_any (x0, x1, x2, x3) w))
      have hbr : b < wr.heap.size := World.block_lt_of_cell? wr _ g0
      have g0 := fun n os => cell_grown (w := wr) (a := ⟨b, p + k * 4, none⟩) hbr g0 n os
      have g1 := fun n os => cell_grown (w := wr) (a := ⟨b, p + k * 4 + 1, none⟩) hbr g1 n os
      have g2 := fun n os => cell_grown (w := wr) (a := ⟨b, p + k * 4 + 2, none⟩) hbr g2 n os
      have g3 := fun n os => cell_grown (w := wr) (a := ⟨b, p + k * 4 + 3, none⟩) hbr g3 n os
      clear hx hb FS FT
      have q1 : (k : Int) < (adv.length : Int) := by omega
      have q2 : (0 : Int) ≤ (k : Int) := by omega
      by_cases hu : Us1 (x0, x1, x2, x3)
      · rw [dt hu] at KU
        by_cases h0 : x0 = s
        · have N := Lib.hid (show G (k + 1) = G k from GS.out.trans (if_neg fun h => h.2 h0))
          have d0 : (x0 != s) = false := by simpa using h0
          have d9 : (x0 == s) = true := by simpa using h0
          clear h0 hu GS TG
          go_wp2_with fail
          have mixed := mixedB
          refine wp_region_quiet_grown (by assumption) (by kernel_rfl) ?_
          refine QH.out ?_
          repeat (
            refine qh_step (fun K hK => ?_)
            go_simp
            first
              | (refine hK _ ?_; clear hK K)
              | (apply Exists.intro
                 refine ⟨fun _ => ?_, hK _ ?_⟩
                 (first | (go_at_call 38; exact grown_out (KU.out _)) | (go_at_call 32; exact grown_same (KL.out _)) | fail)
                 clear hK K))
          refine qh_nil ?_
          intro _ hw'
          obtain ⟨⟨nq, osq⟩, hw''⟩ := hw'
          subst hw''
          clear mixed
          dsimp only
          obtain ⟨wq, hwq⟩ : ∃ wq, wq = Go.Sort.grow (wr.drewN nq) osq := ⟨_, rfl⟩
          rw [← hwq]
          have B4 := Lib.hid (show Below w.heap.size w wq by rw [hwq]; exact B.out.trans ((grown_below _ _ _).mono hz))
          have O4 := Lib.hid (show OwnR wq w.heap.size (.slice A1 (G k).length c1) (G k) by rw [hwq]; exact O.out.below (grown_below _ _ _))
          clear hwq
          go_wp2_with fail
          go_roundw
          case rel => exact ⟨k + 1, _, _, by go_num, by rw [N.out], hlt, by rw [N.out]; exact O4, B4.out⟩
          case measure => simp [intOf]; omega
        · have N := Lib.hid (show G (k + 1) = apl frm cost (G k) (x0, x1, x2, x3) from GS.out.trans (if_pos ⟨hu, h0⟩))
          have d0 : (x0 != s) = true := by simpa using h0
          have d9 : (x0 == s) = false := by simpa using h0
          have KP := Lib.hid (fun wz (hB : w.heap.size ≤ wz.heap.size) (hO : OwnR wz w.heap.size (.slice A1 (G k).length c1) (G k)) => (show Calls Try.prog 46 #[.slice A1 (G k).length c1, .int .i64 frm, .int .i64 cost, .agg #[.int .i64 x0, .int .i64 x1, .int .i64 x2, .int .i64 x3]] wz (OutR w.heap.size wz (apl frm cost (G k) (x0, x1, x2, x3))) from rapply_any w.heap.size _ (G k) (x0, x1, x2, x3) frm cost wz hB hO (by have := TG.out.1.1; omega) hu h1 hcc TG.out.2.1.2))
          rw [← N.out] at KP
          clear h0 hu GS TG
          go_wp2_with fail
          have mixed := mixedB
          refine wp_region_quiet_grown (by assumption) (by kernel_rfl) ?_
          refine QH.out ?_
          repeat (
            refine qh_step (fun K hK => ?_)
            go_simp
            first
              | (refine hK _ ?_; clear hK K)
              | (apply Exists.intro
                 refine ⟨fun _ => ?_, hK _ ?_⟩
                 (first | (go_at_call 38; exact grown_out (KU.out _)) | (go_at_call 32; exact grown_same (KL.out _)) | fail)
                 clear hK K))
          refine qh_nil ?_
          intro _ hw'
          obtain ⟨⟨nq, osq⟩, hw''⟩ := hw'
          subst hw''
          clear mixed
          dsimp only
          obtain ⟨wq, hwq⟩ : ∃ wq, wq = Go.Sort.grow (wr.drewN nq) osq := ⟨_, rfl⟩
          rw [← hwq]
          have B4 := Lib.hid (show Below w.heap.size w wq by rw [hwq]; exact B.out.trans ((grown_below _ _ _).mono hz))
          have O4 := Lib.hid (show OwnR wq w.heap.size (.slice A1 (G k).length c1) (G k) by rw [hwq]; exact O.out.below (grown_below _ _ _))
          clear hwq
          clear g0 g1 g2 g3
          have hz4 := B4.out.size
          have rr := rt_cell (HA.out.below B4.out) k hlt
          rw [HX.out] at rr
          obtain ⟨b', p', e', _, g0, g1, g2, g3, _⟩ := rr
          simp only [Option.some.injEq, Addr.mk.injEq, and_true] at e'
          obtain ⟨rfl, rfl⟩ := e'
          go_wp2_with fail
          refine (KP.out _ hz4 O4.out).mono ?_
          rintro _ w6 ⟨v6, rfl, ho, hb⟩
          have B6 := Lib.hid (B4.out.trans hb)
          obtain ⟨A6, c6, rfl, _⟩ := ho.form
          have O6 := Lib.hid ho
          clear hb KP ho O4
          go_wp2_with fail
          go_roundw
          case rel => exact ⟨k + 1, _, _, by go_num, rfl, hlt, O6, B6.out⟩
          case measure => simp [intOf]; omega
      · rw [df hu] at KU
        have N := Lib.hid (show G (k + 1) = G k from GS.out.trans (if_neg fun h => hu h.1))
        clear hu GS TG
        go_wp2_with fail
        have mixed := mixedB
        refine wp_region_quiet_grown (by assumption) (by kernel_rfl) ?_
        refine QH.out ?_
        repeat (
          refine qh_step (fun K hK => ?_)
          go_simp
          first
            | (refine hK _ ?_; clear hK K)
            | (apply Exists.intro
               refine ⟨fun _ => ?_, hK _ ?_⟩
               (first | (go_at_call 38; exact grown_out (KU.out _)) | (go_at_call 32; exact grown_same (KL.out _)) | fail)
               clear hK K))
        refine qh_nil ?_
        intro _ hw'
        obtain ⟨⟨nq, osq⟩, hw''⟩ := hw'
        subst hw''
        clear mixed
        dsimp only
        obtain ⟨wq, hwq⟩ : ∃ wq, wq = Go.Sort.grow (wr.drewN nq) osq := ⟨_, rfl⟩
        rw [← hwq]
        have B4 := Lib.hid (show Below w.heap.size w wq by rw [hwq]; exact B.out.trans ((grown_below _ _ _).mono hz))
        have O4 := Lib.hid (show OwnR wq w.heap.size (.slice A1 (G k).length c1) (G k) by rw [hwq]; exact O.out.below (grown_below _ _ _))
        clear hwq
        go_wp2_with fail
        go_roundw
        case rel => exact ⟨k + 1, _, _, by go_num, by rw [N.out], hlt, by rw [N.out]; exact O4, B4.out⟩
        case measure => simp [intOf]; omega
    · obtain rfl : k = adv.length := by omega
      rw [← R.out] at O ⊢
      clear hb FS FT R HA
      go_wp2_with fail
      go_ret
      exact ⟨_, rfl, O.out, B.out⟩
end

set_option maxRecDepth 100000 in
set_option maxHeartbeats 1000000 in
theorem rbreak_any (A : Option Addr) (c : Nat) (l : List Rt) (n next : Int) (w : World) (hl : l.length ≤ 9223372036854775807) (hA : RtAt w w.heap.size A l) :
    Calls Try.prog 23 #[.slice A l.length c, .int .i64 n, .int .i64 next] w (OutT w (brk l n next)) := by
  have KL := Lib.hid (fun w => rlimit_any n w)
  have KX := Lib.hid (fun w => rlimit_any next w)
  have KC := Lib.hid (rtable_any A c l n w hl hA)
  have TT := Lib.hid (tb_tab l n)
  have LS := lim_same next
  have BM := Lib.hid (show brk l n next = if 0 ≤ next ∧ next ≤ 250 then (tb l n).map (brkF (lim n) next) else tb l n from rfl)
  clear hA
  generalize brk l n next = F at *
  generalize tb l n = t at *
  generalize lim n = s at *
  generalize lim next = q at *
  have hlen := TT.out.1.1
  -- the map that is applied route by route: nothing where next is no address
  obtain ⟨M, hM⟩ : ∃ M : Rt → Rt, M = fun x => if next = q ∧ (x.2.2.2 = next ∧ x.1 ≠ s) then (x.1, x.2.1 + 1, 255, 255) else x := ⟨_, rfl⟩
  have HM := Lib.hid hM
  have R := Lib.hid (show F = t.map M by
    rw [BM.out, hM]
    by_cases h : next = q
    · rw [if_pos (LS.1 h)]
      refine List.map_congr_left fun x _ => ?_
      unfold brkF
      by_cases h2 : x.2.2.2 = next ∧ x.1 ≠ s
      · rw [if_pos h2, if_pos ⟨h, h2⟩]
      · rw [if_neg h2, if_neg (fun h3 => h2 h3.2)]
    · rw [if_neg (fun h2 => h (LS.2 h2))]
      refine (List.map_id' t).symm.trans (List.map_congr_left fun x _ => ?_)
      rw [if_neg (fun h3 => h h3.1)])
  clear BM hM LS
  go_enter Try.func23, Try.ntmps23
  go_wp2_with fail
  refine KC.out.mono ?_
  rintro _ w1 ⟨v, rfl, ho, hb⟩
  have B1 := Lib.hid hb
  have hz1 := hb.size
  obtain ⟨g, cap, rfl, hBg, hgw⟩ := ho.at (tab_ne TT.out)
  have O1 := Lib.hid ho
  clear hb ho KC
  go_wp2_with fail
  go_loopw [8] (fun i wr => ∃ k : Nat, i = .int .i64 k ∧ k ≤ t.length ∧ Hid (OwnR wr w.heap.size (.slice (some ⟨g, 0, none⟩) t.length cap) (mpt M t k)) ∧ Below w.heap.size w wr) (fun i _ => t.length - (intOf i).toNat)
  case atStart => exact ⟨0, rfl, Nat.zero_le _, O1, B1.out⟩
  case round =>
    obtain ⟨k, rfl, hk, O, hb⟩ := hrel
    have B := Lib.hid hb
    have hz := hb.size
    by_cases hlt : k < t.length
    · have hlm : k < (mpt M t k).length := by rw [mpt_len]; exact hlt
      have em := mpt_at M t k hlt hlm
      have r4 := row4N (mpt_len _ _ _).symm O.out k hlm
      rw [em] at r4
      have R4 := Lib.hid (fun w2 (h : OwnR w2 w.heap.size (.slice (some ⟨g, 0, none⟩) t.length cap) (mpt M t k)) => row4N (mpt_len _ _ _).symm h k hlm)
      simp only [em] at R4
      have SE := Lib.hid (fun w2 y (h : OwnR w2 w.heap.size (.slice (some ⟨g, 0, none⟩) t.length cap) (mpt M t k)) (hy : fR.ok y) => own_setN (mpt_len _ _ _).symm h k hlm y hy)
      obtain ⟨g0, g1, g2, g3⟩ := r4
      have okk := TT.out.2.1.1 _ (List.getElem_mem hlt)
      have hd := okk.1.1
      have es := mpt_succ M t k hlt
      have SM := Lib.hid (mpt_same M t k hlt)
      have MX := Lib.hid (show M t[k] = if next = q ∧ (t[k].2.2.2 = next ∧ t[k].1 ≠ s) then (t[k].1, t[k].2.1 + 1, 255, 255) else t[k] by rw [HM.out])
      obtain ⟨⟨x0, x1, x2, x3⟩, hx⟩ : ∃ x, t[k] = x := ⟨_, rfl⟩
      rw [hx] at g0 g1 g2 g3 es hd R4 SM MX
      simp only at g0 g1 g2 g3 hd R4
      have ES := Lib.hid es
      have hgr : g < wr.heap.size := World.block_lt_of_cell? wr _ g0
      have g0 := fun n os => cell_grown (w := wr) (a := ⟨g, k * 4, none⟩) hgr g0 n os
      have g3 := fun n os => cell_grown (w := wr) (a := ⟨g, k * 4 + 3, none⟩) hgr g3 n os
      clear em hx okk hb es g1 g2
      have q1 : (k : Int) < (t.length : Int) := by omega
      have q2 : (0 : Int) ≤ (k : Int) := by omega
      by_cases hq : next = q
      rotate_left
      · have d1 : (next == q) = false := by simpa using hq
        have N := Lib.hid (SM.out (MX.out.trans (if_neg fun h => hq h.1)))
        clear hq hd R4 SE ES SM MX
        go_wp2_with fail
        have mixed := mixedB
        refine wp_region_quiet_grown (by assumption) (by kernel_rfl) ?_
        refine QH.out ?_
        repeat (
          refine qh_step (fun K hK => ?_)
          go_simp
          first
            | (refine hK _ ?_; clear hK K)
            | (apply Exists.intro
               refine ⟨fun _ => ?_, hK _ ?_⟩
               (go_at_call 32; first | exact grown_same (KX.out _) | exact grown_same (KL.out _) | fail)
               clear hK K))
        refine qh_nil ?_
        intro _ hw'
        obtain ⟨⟨nq, osq⟩, hw''⟩ := hw'
        subst hw''
        clear mixed g0 g3
        dsimp only
        obtain ⟨wq, hwq⟩ : ∃ wq, wq = Go.Sort.grow (wr.drewN nq) osq := ⟨_, rfl⟩
        rw [← hwq]
        have B4 := Lib.hid (show Below w.heap.size w wq by rw [hwq]; exact B.out.trans ((grown_below _ _ _).mono hz))
        have O4 := Lib.hid (show OwnR wq w.heap.size (.slice (some ⟨g, 0, none⟩) t.length cap) (mpt M t k) by rw [hwq]; exact O.out.below (grown_below _ _ _))
        clear hwq
        go_wp2_with fail
        go_roundw
        case rel => exact ⟨k + 1, by go_num, hlt, Lib.hid (by rw [N.out]; exact O4.out), B4.out⟩
        case measure => simp [intOf]; omega
      have d1 : (next == q) = true := by simpa using hq
      by_cases h3 : x3 = next
      rotate_left
      · have d3 : (x3 == next) = false := by simpa using h3
        have N := Lib.hid (SM.out (MX.out.trans (if_neg fun h => h3 h.2.1)))
        clear hq h3 hd R4 SE ES SM MX
        go_wp2_with fail
        have mixed := mixedB
        refine wp_region_quiet_grown (by assumption) (by kernel_rfl) ?_
        refine QH.out ?_
        repeat (
          refine qh_step (fun K hK => ?_)
          go_simp
          first
            | (refine hK _ ?_; clear hK K)
            | (apply Exists.intro
               refine ⟨fun _ => ?_, hK _ ?_⟩
               (go_at_call 32; first | exact grown_same (KX.out _) | exact grown_same (KL.out _) | fail)
               clear hK K))
        refine qh_nil ?_
        intro _ hw'
        obtain ⟨⟨nq, osq⟩, hw''⟩ := hw'
        subst hw''
        clear mixed g0 g3
        dsimp only
        obtain ⟨wq, hwq⟩ : ∃ wq, wq = Go.Sort.grow (wr.drewN nq) osq := ⟨_, rfl⟩
        rw [← hwq]
        have B4 := Lib.hid (show Below w.heap.size w wq by rw [hwq]; exact B.out.trans ((grown_below _ _ _).mono hz))
        have O4 := Lib.hid (show OwnR wq w.heap.size (.slice (some ⟨g, 0, none⟩) t.length cap) (mpt M t k) by rw [hwq]; exact O.out.below (grown_below _ _ _))
        clear hwq
        go_wp2_with fail
        go_roundw
        case rel => exact ⟨k + 1, by go_num, hlt, Lib.hid (by rw [N.out]; exact O4.out), B4.out⟩
        case measure => simp [intOf]; omega
      have d3 : (x3 == next) = true := by simpa using h3
      by_cases h0 : x0 = s
      · have d0 : (x0 != s) = false := by simpa using h0
        have d9 : (x0 == s) = true := by simpa using h0
        have N := Lib.hid (SM.out (MX.out.trans (if_neg fun h => h.2.2 h0)))
        clear hq h3 h0 hd R4 SE ES SM MX
        go_wp2_with fail
        have mixed := mixedB
        refine wp_region_quiet_grown (by assumption) (by kernel_rfl) ?_
        refine QH.out ?_
        repeat (
          refine qh_step (fun K hK => ?_)
          go_simp
          first
            | (refine hK _ ?_; clear hK K)
            | (apply Exists.intro
               refine ⟨fun _ => ?_, hK _ ?_⟩
               (go_at_call 32; first | exact grown_same (KX.out _) | exact grown_same (KL.out _) | fail)
               clear hK K))
        refine qh_nil ?_
        intro _ hw'
        obtain ⟨⟨nq, osq⟩, hw''⟩ := hw'
        subst hw''
        clear mixed g0 g3
        dsimp only
        obtain ⟨wq, hwq⟩ : ∃ wq, wq = Go.Sort.grow (wr.drewN nq) osq := ⟨_, rfl⟩
        rw [← hwq]
        have B4 := Lib.hid (show Below w.heap.size w wq by rw [hwq]; exact B.out.trans ((grown_below _ _ _).mono hz))
        have O4 := Lib.hid (show OwnR wq w.heap.size (.slice (some ⟨g, 0, none⟩) t.length cap) (mpt M t k) by rw [hwq]; exact O.out.below (grown_below _ _ _))
        clear hwq
        go_wp2_with fail
        go_roundw
        case rel => exact ⟨k + 1, by go_num, hlt, Lib.hid (by rw [N.out]; exact O4.out), B4.out⟩
        case measure => simp [intOf]; omega
      · have d0 : (x0 != s) = true := by simpa using h0
        have d9 : (x0 == s) = false := by simpa using h0
        have N := Lib.hid (show mpt M t (k + 1) = (mpt M t k).set k (x0, x1 + 1, 255, 255) by
          rw [ES.out, MX.out.trans (if_pos ⟨hq, h3, h0⟩)])
        have z1 : IntKind.i64.wrap (x1 + 1) = x1 + 1 := by rw [IntKind.wrap_i64]; omega
        have HY := Lib.hid (show fR.ok (x0, x1 + 1, 255, 255) from ⟨by unfold I64; (try dsimp only); omega, by unfold I64; (try dsimp only); omega, by unfold I64; (try dsimp only); omega, by unfold I64; (try dsimp only); omega⟩)
        clear hq h3 h0 hd ES SM MX
        go_wp2_with fail
        have mixed := mixedB
        refine wp_region_quiet_grown (by assumption) (by kernel_rfl) ?_
        refine QH.out ?_
        repeat (
          refine qh_step (fun K hK => ?_)
          go_simp
          first
            | (refine hK _ ?_; clear hK K)
            | (apply Exists.intro
               refine ⟨fun _ => ?_, hK _ ?_⟩
               (go_at_call 32; first | exact grown_same (KX.out _) | exact grown_same (KL.out _) | fail)
               clear hK K))
        refine qh_nil ?_
        intro _ hw'
        obtain ⟨⟨nq, osq⟩, hw''⟩ := hw'
        subst hw''
        clear mixed g0 g3
        dsimp only
        obtain ⟨wq, hwq⟩ : ∃ wq, wq = Go.Sort.grow (wr.drewN nq) osq := ⟨_, rfl⟩
        rw [← hwq]
        have B4 := Lib.hid (show Below w.heap.size w wq by rw [hwq]; exact B.out.trans ((grown_below _ _ _).mono hz))
        have O4 := Lib.hid (show OwnR wq w.heap.size (.slice (some ⟨g, 0, none⟩) t.length cap) (mpt M t k) by rw [hwq]; exact O.out.below (grown_below _ _ _))
        clear hwq
        have r4 := R4.out wq O4.out
        obtain ⟨g0, g1, g2, g3⟩ := r4
        have f0 := frN (mpt_len _ _ _).symm O4.out (k * 4)
        have f1 := frN (mpt_len _ _ _).symm O4.out (k * 4 + 1)
        have f2 := frN (mpt_len _ _ _).symm O4.out (k * 4 + 2)
        have f3 := frN (mpt_len _ _ _).symm O4.out (k * 4 + 3)
        clear R4
        go_wp2_with fail
        go_still_tail 15, (by kernel_rfl)
        change wpList _ _ _ _ _ wq.drew
        go_wp2_with fail
        go_roundw
        case rel => exact ⟨k + 1, by go_num, hlt, Lib.hid (by rw [N.out]; exact SE.out _ (x0, x1 + 1, 255, 255) (O4.out.drew 1) HY.out), ((((below_drewN B4.out 1).setCell hBg _).setCell hBg _).setCell hBg _).setCell hBg _⟩
        case measure => simp [intOf]; omega
    · obtain rfl : k = t.length := by omega
      have FIN := Lib.hid (show OwnR wr w.heap.size (.slice (some ⟨g, 0, none⟩) t.length cap) F by rw [R.out, ← mpt_all]; exact O.out)
      clear hb O R TT O1
      go_wp2_with fail
      go_ret
      exact ⟨_, rfl, FIN.out, B.out⟩
end Go.Proofs.Ytcfnkfkdhcejeaa.Rte
