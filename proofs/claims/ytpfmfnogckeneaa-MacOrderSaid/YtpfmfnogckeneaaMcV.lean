/- The law Order. -/
import Derived.Test.YtpfmfnogckeneaaMcM
import Derived.Test.YtpfmfnogckeneaaQH
import Derived.StillTailTactics
import Derived.Deep.DeepCutAuto
import Derived.Deep.CutRange
import Derived.Deep.CutBlock
import Derived.Deep.RegionHeld3
set_option linter.unusedVariables false
namespace Go.Proofs.Ytpfmfnogckeneaa.Mcq
open Go.RowKit
open Mbx (Fm zf fmC fmV FOk fF)

theorem xat_zero {o : Oper} {r : List Oper} : (o :: r).toArray[0]? = some o := rfl
theorem xat_succ {x o : Oper} {r : List Oper} {n : Nat} (h : r.toArray[n]? = some o) : (x :: r).toArray[n + 1]? = some o := by simpa using h
set_option maxRecDepth 100000 in
set_option maxHeartbeats 16000000 in
theorem law_order (KL0 : ∀ w, Calls Try.prog 9 #[] w (OutB w true)) (w : World) (A : Option Addr) (c : Nat) (l : List Ch) (hl : l.length ≤ 9223372036854775807) (hA : SlS fCh w A c l) :
    Calls Try.prog 7 #[.slice A l.length c] w (OutB w true) := by
  have HA := Lib.hid hA
  have KL := Lib.hid KL0
  have B0 := Lib.hid (Below.refl w.heap.size w)
  unfold OutB at KL
  clear hA KL0
  by_cases h80 : 80 < l.length
  · have d0 := dt (show (80 : Int) < (l.length : Int) by omega)
    go_enter Try.func7, Try.ntmps7
    go_wp2_with fail
    refine (KL.out _).mono ?_
    rintro _ wz ⟨rfl, hb⟩
    have BZ := Lib.hid (B0.out.trans (hb.mono B0.out.size))
    clear hb
    go_wp2_with fail
    go_ret
    exact outB rfl BZ.out
  have d0 := df (show ¬ (80 : Int) < (l.length : Int) by omega)
  have n80 : l.length ≤ 80 := by omega
  have IP := Lib.hid (fun m (h : Inv m) f => inv_put h f)
  have IR := Lib.hid (fun m (h : Inv m) i ok => inv_res h i ok)
  have IT := Lib.hid (fun m (h : Inv m) => inv_tick h)
  have IL := Lib.hid (fun m (h : Inv m) => h.len)
  have IE := Lib.hid (fun m (h : Inv m) (k : Nat) (hk : k < m.length) => h.ent m[k] (List.getElem_mem hk))
  have I2 := Lib.hid (fun m (h : Inv m) (k j : Nat) (hk : k < m.length) (hj : j < m.length) (e : k = j + 1) (hu : m[k].1.u = true) => (show m[j].1.u = true from List.pairwise_iff_getElem.1 h.srt j k hj hk (by omega) hu))
  have IZ := Lib.hid (fun m (h : Inv m) => ticks_zero h)
  have IN := Lib.hid (fun m (h : Inv m) hz => ticks_next h hz)
  have I0 := Lib.hid inv_nil
  have KP := Lib.hid (fun w A c m f hl hf hA => pput_any A c m f w hl hf hA)
  have KR := Lib.hid (fun w A c m i ok hl hi hA => pres_any A c m i ok w hl hi hA)
  have KT := Lib.hid (fun w A c m hl hA => ptick_any A c m w hl hA)
  have KN := Lib.hid (fun w A c m hl hA => pnext_any A c m w hl hA)
  unfold SbR at KP KR
  unfold SdR at KT
  unfold OutI at KN
  obtain ⟨IV, hIV⟩ : ∃ IV, Inv = IV := ⟨_, rfl⟩
  simp only [hIV] at IP IR IT IL IE I2 IZ IN I0
  clear hIV h80 hl
  go_enter Try.func7, Try.ntmps7
  go_wp2_with fail
  go_loopw [3, 4] (fun vq vi wr => ∃ (i : Nat) (m : List Sd) (A2 : Option Addr) (c2 : Nat), vi = .int .i64 i ∧ i ≤ l.length ∧ vq = .slice A2 m.length c2 ∧ Hid (IV m) ∧ Hid (SdS wr A2 c2 m) ∧ Below w.heap.size w wr) (fun _ vi _ => l.length - (intOf vi).toNat)
  case atStart => exact ⟨0, [], none, 0, rfl, Nat.zero_le _, rfl, I0, Lib.hid (SlS.nil _), Below.refl _ _⟩
  case round =>
    obtain ⟨i, m, A2, c2, rfl, hi, rfl, HI, HS, hb⟩ := hrel
    have B := Lib.hid hb
    have ML := IL.out m HI.out
    clear hb I0
    by_cases hlt : i < l.length
    · obtain ⟨b, p, rfl, hbl, k0, k1, f0, f1, f2, f3, f4, f5, f6, f7, f8, k3, hok⟩ := ch_cell (HA.out.next B.out) i hlt
      obtain ⟨x, hx⟩ : ∃ x, l[i] = x := ⟨_, rfl⟩
      rw [hx] at k0 k1 f0 f1 f2 f3 f4 f5 f6 f7 f8 k3 hok
      clear hx
      obtain ⟨kd, ix, ⟨y0, y1, y2, y3, y4, y5, y6, y7, y8⟩, okb⟩ := x
      simp only at k0 k1 f0 f1 f2 f3 f4 f5 f6 f7 f8 k3
      obtain ⟨_, hix, hfr⟩ := hok
      have P1 := Lib.hid (IP.out m HI.out ⟨y0, y1, y2, y3, y4, y5, y6, y7, y8⟩)
      have P2 := Lib.hid (IR.out m HI.out ix okb)
      have P3 := Lib.hid (IT.out m HI.out)
      have Q1 := Lib.hid (KP.out wr A2 c2 m ⟨y0, y1, y2, y3, y4, y5, y6, y7, y8⟩ (by omega) hfr HS.out)
      have Q2 := Lib.hid (KR.out wr.drew A2 c2 m ix okb (by omega) hix (HS.out.next (below_drewN (Below.refl _ _) 1)))
      have Q3 := Lib.hid (KT.out wr A2 c2 m (by omega) HS.out)
      clear KP KR KT KN IP IR IT IZ IN hix hfr
      try simp only at P1 P2 Q1 Q2
      generalize put m ⟨y0, y1, y2, y3, y4, y5, y6, y7, y8⟩ = R1 at *
      generalize res m ix okb = R2 at *
      generalize tick m = R3 at *
      obtain ⟨R1, o1⟩ := R1
      obtain ⟨R2, o2⟩ := R2
      try simp only at P1 P2 Q1 Q2
      go_upto_block 2 with fail
      go_cut [3] from 12 to 128 (fun v wx => ∃ (m2 : List Sd) (A3 : Option Addr) (c3 : Nat), v = .slice A3 m2.length c3 ∧ Hid (IV m2) ∧ Hid (SdS wx A3 c3 m2) ∧ Below w.heap.size w wx)
      case first =>
        clear I2 IE IL HA
        by_cases e0 : kd = 0
        · have d1 : (kd == 0) = true := by simpa using e0
          clear Q2 Q3 P2 P3 e0
          go_wp2_with fail
          refine Q1.out.mono ?_
          rintro _ w2 ⟨A3, c3, rfl, h3, hb⟩
          have B := Lib.hid (B.out.trans (hb.mono B.out.size))
          have H3 := Lib.hid h3
          clear hb h3 Q1
          go_wp2_with fail
          go_meet
          case rel => exact ⟨R1, A3, c3, rfl, P1, H3, B.out⟩
        have d1 : (kd == 0) = false := beq_false_of_ne e0
        by_cases e1 : kd = 1
        · have d2 : (kd == 1) = true := by simpa using e1
          clear Q1 Q3 P1 P3 e0 e1
          go_upto_region 11 with fail
          have hbz : b < wr.heap.size := hbl
          refine wp_region_held_drew (S := (fun wy : World => wy.cell? ⟨b, p + i * 12 + 1, none⟩ = some (.int .i64 ix) ∧ wy.cell? ⟨b, p + i * 12 + 11, none⟩ = some (.bool okb))) (by kernel_rfl) (⟨k1, k3⟩) (fun hHeld => ?_)
          refine wpAnyH_take (i := 0) (v := (.slice A2 m.length c2)) xat_zero (by kernel_rfl) (by kernel_rfl) (by kernel_rfl) (fun _ _ _ h => h) (Or.inl ⟨by kernel_rfl, fun wy hSw => ?_⟩) (by assumption) ?_
          · (try dsimp only at hSw); go_simp
          try simp only [Act.put, List.setIfInBounds_toArray, List.set_cons_zero, List.set_cons_succ]
          refine wpAnyH_take (i := 1) (v := (.slice (some ⟨b, p, none⟩) l.length c)) (xat_succ xat_zero) (by kernel_rfl) (by kernel_rfl) (by kernel_rfl) (fun _ _ _ h => h) (Or.inl ⟨by kernel_rfl, fun wy hSw => ?_⟩) (by assumption) ?_
          · (try dsimp only at hSw); go_simp
          try simp only [Act.put, List.setIfInBounds_toArray, List.set_cons_zero, List.set_cons_succ]
          refine wpAnyH_take (i := 2) (v := (.int .i64 i)) (xat_succ (xat_succ xat_zero)) (by kernel_rfl) (by kernel_rfl) (by kernel_rfl) (fun _ _ _ h => h) (Or.inl ⟨by kernel_rfl, fun wy hSw => ?_⟩) (by assumption) ?_
          · (try dsimp only at hSw); go_simp
          try simp only [Act.put, List.setIfInBounds_toArray, List.set_cons_zero, List.set_cons_succ]
          refine wpAnyH_take (i := 3) (v := (.pointer (some ⟨b, p + i * 12, none⟩))) (xat_succ (xat_succ (xat_succ xat_zero))) (by kernel_rfl) (by kernel_rfl) (by kernel_rfl) (fun _ _ _ h => h) (Or.inl ⟨by kernel_rfl, fun wy hSw => ?_⟩) (by assumption) ?_
          · (try dsimp only at hSw); go_simp
          try simp only [Act.put, List.setIfInBounds_toArray, List.set_cons_zero, List.set_cons_succ]
          refine wpAnyH_take (i := 4) (v := (.pointer (some ⟨b, p + i * 12 + 1, none⟩))) (xat_succ (xat_succ (xat_succ (xat_succ xat_zero)))) (by kernel_rfl) (by kernel_rfl) (by kernel_rfl) (fun _ _ _ h => h) (Or.inl ⟨by kernel_rfl, fun wy hSw => ?_⟩) (by assumption) ?_
          · (try dsimp only at hSw); go_simp
          try simp only [Act.put, List.setIfInBounds_toArray, List.set_cons_zero, List.set_cons_succ]
          refine wpAnyH_take (i := 5) (v := (.int .i64 ix)) (xat_succ (xat_succ (xat_succ (xat_succ (xat_succ xat_zero))))) (by kernel_rfl) (by kernel_rfl) (by kernel_rfl) (fun _ _ _ h => h) (Or.inl ⟨by kernel_rfl, fun wy hSw => ?_⟩) (by assumption) ?_
          · (try dsimp only at hSw); go_simp
          try simp only [Act.put, List.setIfInBounds_toArray, List.set_cons_zero, List.set_cons_succ]
          refine wpAnyH_take (i := 6) (v := (.slice (some ⟨b, p, none⟩) l.length c)) (xat_succ (xat_succ (xat_succ (xat_succ (xat_succ (xat_succ xat_zero)))))) (by kernel_rfl) (by kernel_rfl) (by kernel_rfl) (fun _ _ _ h => h) (Or.inl ⟨by kernel_rfl, fun wy hSw => ?_⟩) (by assumption) ?_
          · (try dsimp only at hSw); go_simp
          try simp only [Act.put, List.setIfInBounds_toArray, List.set_cons_zero, List.set_cons_succ]
          refine wpAnyH_take (i := 7) (v := (.int .i64 i)) (xat_succ (xat_succ (xat_succ (xat_succ (xat_succ (xat_succ (xat_succ xat_zero))))))) (by kernel_rfl) (by kernel_rfl) (by kernel_rfl) (fun _ _ _ h => h) (Or.inl ⟨by kernel_rfl, fun wy hSw => ?_⟩) (by assumption) ?_
          · (try dsimp only at hSw); go_simp
          try simp only [Act.put, List.setIfInBounds_toArray, List.set_cons_zero, List.set_cons_succ]
          refine wpAnyH_take (i := 8) (v := (.pointer (some ⟨b, p + i * 12, none⟩))) (xat_succ (xat_succ (xat_succ (xat_succ (xat_succ (xat_succ (xat_succ (xat_succ xat_zero)))))))) (by kernel_rfl) (by kernel_rfl) (by kernel_rfl) (fun _ _ _ h => h) (Or.inl ⟨by kernel_rfl, fun wy hSw => ?_⟩) (by assumption) ?_
          · (try dsimp only at hSw); go_simp
          try simp only [Act.put, List.setIfInBounds_toArray, List.set_cons_zero, List.set_cons_succ]
          refine wpAnyH_take (i := 9) (v := (.pointer (some ⟨b, p + i * 12 + 11, none⟩))) (xat_succ (xat_succ (xat_succ (xat_succ (xat_succ (xat_succ (xat_succ (xat_succ (xat_succ xat_zero))))))))) (by kernel_rfl) (by kernel_rfl) (by kernel_rfl) (fun _ _ _ h => h) (Or.inl ⟨by kernel_rfl, fun wy hSw => ?_⟩) (by assumption) ?_
          · (try dsimp only at hSw); go_simp
          try simp only [Act.put, List.setIfInBounds_toArray, List.set_cons_zero, List.set_cons_succ]
          refine wpAnyH_take (i := 10) (v := (.bool okb)) (xat_succ (xat_succ (xat_succ (xat_succ (xat_succ (xat_succ (xat_succ (xat_succ (xat_succ (xat_succ xat_zero)))))))))) (by kernel_rfl) (by kernel_rfl) (by kernel_rfl) (fun _ _ _ h => h) (Or.inl ⟨by kernel_rfl, fun wy hSw => ?_⟩) (by assumption) ?_
          · (try dsimp only at hSw); go_simp
          try simp only [Act.put, List.setIfInBounds_toArray, List.set_cons_zero, List.set_cons_succ]
          refine wpAnyH_ready (rs := [11]) (by kernel_rfl) (by simp) ?_
          refine AllReadyH.cons (xat_succ (xat_succ (xat_succ (xat_succ (xat_succ (xat_succ (xat_succ (xat_succ (xat_succ (xat_succ (xat_succ xat_zero))))))))))) (fun K hK => ?_) AllReadyH.nil
          rw [if_pos (by kernel_rfl)]
          go_simp
          refine Q2.out.mono ?_
          rintro _ w2 ⟨A3, c3, rfl, h3, hb⟩
          have B := Lib.hid (B.out.trans ((show Below wr.heap.size wr w2 from (below_drewN (Below.refl _ _) 1).trans hb).mono B.out.size))
          have H3 := Lib.hid h3
          have S2 : w2.cell? ⟨b, p + i * 12 + 1, none⟩ = some (.int .i64 ix) ∧ w2.cell? ⟨b, p + i * 12 + 11, none⟩ = some (.bool okb) := ⟨(hb.cell (p := ⟨b, p + i * 12 + 1, none⟩) hbz).trans k1, (hb.cell (p := ⟨b, p + i * 12 + 11, none⟩) hbz).trans k3⟩
          clear hb h3 Q2 hHeld
          go_wp2_with fail
          refine hK.out _ _ (S2) (fun hHeld => ?_)
          clear hK K
          try simp only [Act.put, List.setIfInBounds_toArray, List.set_cons_zero, List.set_cons_succ]
          refine wpAnyH_take (i := 12) (v := (.tuple #[.slice A3 R2.length c3, .bool o2])) (xat_succ (xat_succ (xat_succ (xat_succ (xat_succ (xat_succ (xat_succ (xat_succ (xat_succ (xat_succ (xat_succ (xat_succ xat_zero)))))))))))) (by kernel_rfl) (by kernel_rfl) (by kernel_rfl) (fun _ _ _ h => h) (Or.inl ⟨by kernel_rfl, fun wy hSw => ?_⟩) (by assumption) ?_
          · (try dsimp only at hSw); go_simp
          try simp only [Act.put, List.setIfInBounds_toArray, List.set_cons_zero, List.set_cons_succ]
          refine wpAnyH_take (i := 13) (v := (.slice A3 R2.length c3)) (xat_succ (xat_succ (xat_succ (xat_succ (xat_succ (xat_succ (xat_succ (xat_succ (xat_succ (xat_succ (xat_succ (xat_succ (xat_succ xat_zero))))))))))))) (by kernel_rfl) (by kernel_rfl) (by kernel_rfl) (fun _ _ _ h => h) (Or.inl ⟨by kernel_rfl, fun wy hSw => ?_⟩) (by assumption) ?_
          · (try dsimp only at hSw); go_simp
          try simp only [Act.put, List.setIfInBounds_toArray, List.set_cons_zero, List.set_cons_succ]
          refine wpAnyH_take (i := 14) (v := (.bool o2)) (xat_succ (xat_succ (xat_succ (xat_succ (xat_succ (xat_succ (xat_succ (xat_succ (xat_succ (xat_succ (xat_succ (xat_succ (xat_succ (xat_succ xat_zero)))))))))))))) (by kernel_rfl) (by kernel_rfl) (by kernel_rfl) (fun _ _ _ h => h) (Or.inl ⟨by kernel_rfl, fun wy hSw => ?_⟩) (by assumption) ?_
          · (try dsimp only at hSw); go_simp
          try simp only [Act.put, List.setIfInBounds_toArray, List.set_cons_zero, List.set_cons_succ]
          refine wpAnyH_take (i := 15) (v := (.slice A3 R2.length c3)) (xat_succ (xat_succ (xat_succ (xat_succ (xat_succ (xat_succ (xat_succ (xat_succ (xat_succ (xat_succ (xat_succ (xat_succ (xat_succ (xat_succ (xat_succ xat_zero))))))))))))))) (by kernel_rfl) (by kernel_rfl) (by kernel_rfl) (fun _ _ _ h => h) (Or.inl ⟨by kernel_rfl, fun wy hSw => ?_⟩) (by assumption) ?_
          · (try dsimp only at hSw); go_simp
          try simp only [Act.put, List.setIfInBounds_toArray, List.set_cons_zero, List.set_cons_succ]
          refine wpAnyH_done (by kernel_rfl) ?_ _
          go_wp2_with fail
          go_meet
          case rel => exact ⟨R2, A3, c3, rfl, P2, H3, B.out⟩
        have d2 : (kd == 1) = false := beq_false_of_ne e1
        by_cases e2 : kd = 2
        · have d3 : (kd == 2) = true := by simpa using e2
          clear Q1 Q2 P1 P2 e0 e1 e2
          go_wp2_with fail
          refine Q3.out.mono ?_
          rintro _ w2 ⟨A3, c3, rfl, h3, hb⟩
          have B := Lib.hid (B.out.trans (hb.mono B.out.size))
          have H3 := Lib.hid h3
          clear hb h3 Q3
          go_wp2_with fail
          go_meet
          case rel => exact ⟨R3, A3, c3, rfl, P3, H3, B.out⟩
        have d3 : (kd == 2) = false := beq_false_of_ne e2
        clear Q1 Q2 Q3 P1 P2 P3 e0 e1 e2
        go_wp2_with fail
        go_meet
        case rel => exact ⟨m, A2, c2, rfl, HI, HS, B.out⟩
      case rest =>
      obtain ⟨M, A3, c3, rfl, HI, HS, hb⟩ := hcut
      have B := Lib.hid hb
      have ML := IL.out M HI.out
      have E := Lib.hid (fun k hk => IE.out M HI.out k hk)
      have E2 := Lib.hid (fun k j hk hj e hu => I2.out M HI.out k j hk hj e hu)
      have d5 := df (show ¬ (16 : Int) < (M.length : Int) by omega)
      clear hb Q1 Q2 Q3 P1 P2 P3 I2 IE IL k0 k1 f0 f1 f2 f3 f4 f5 f6 f7 f8 k3
      go_wp2_with fail
      go_loopw [5] (fun vk wk => ∃ k : Nat, vk = .int .i64 k ∧ k ≤ M.length ∧ Below wc.heap.size wc wk) (fun vk _ => M.length - (intOf vk).toNat)
      case atStart => exact ⟨0, rfl, Nat.zero_le _, Below.refl _ _⟩
      case round =>
        obtain ⟨k, rfl, hk, hb⟩ := hrel
        have Bk := Lib.hid hb
        clear hb
        by_cases hlk : k < M.length
        · obtain ⟨b2, p2, rfl, _, hc, _⟩ := sd_cell (HS.out.next Bk.out).1 k hlk
          have g7 := hc.2.2.2.2.2.2.2.1
          have g9 := hc.2.2.2.2.2.2.2.2.2.1
          have g10 := hc.2.2.2.2.2.2.2.2.2.2
          have EK := E.out k hlk
          have EJ := Lib.hid (fun j hj e hu => E2.out k j hlk hj e hu)
          clear hc E E2
          generalize M[k].1.u = u at *
          generalize M[k].2.1 = t at *
          generalize M[k].2.2 = z at *
          obtain ⟨z0, z1, z2, t1, t2⟩ := EK
          have a1 := df (show ¬ z < 0 by omega)
          have a2 := df (show ¬ 4 < z by omega)
          have a3 := df (show ¬ t < 0 by omega)
          have a4 := df (show ¬ 7 < t by omega)
          by_cases k0 : 0 < k
          · have a5 := dt (show (0 : Int) < (k : Int) by omega)
            obtain ⟨j, rfl⟩ : ∃ j, k = j + 1 := ⟨k - 1, by omega⟩
            have hj : j < M.length := by omega
            have s1 : IntKind.i64.wrap (((j + 1 : Nat) : Int) - 1) = (j : Int) := by rw [IntKind.wrap_i64]; omega
            have s2 : ((j + 1 : Nat) : Int) - 1 = (j : Int) := by omega
            obtain ⟨b3, p3, e3, _, hc, _⟩ := sd_cell (HS.out.next Bk.out).1 j hj
            simp only [Option.some.injEq, Addr.mk.injEq, and_true] at e3
            obtain ⟨rfl, rfl⟩ := e3
            have v7 := hc.2.2.2.2.2.2.2.1
            have EJ := Lib.hid (fun hu => EJ.out j hj rfl hu)
            clear hc
            generalize M[j].1.u = u2 at *
            obtain ⟨K1, hK1⟩ : ∃ K1, j + 1 = K1 := ⟨_, rfl⟩
            rw [hK1] at g7 g9 g10 a5 s1 s2 hlk hk ⊢
            have HK1 := Lib.hid hK1
            clear hK1 k0
            cases u with
            | true =>
              obtain rfl : u2 = true := EJ.out rfl
              obtain rfl : z = 0 := z0 rfl
              clear EJ z0 z1 z2 t1 t2
              go_wp2_with fail
              go_roundw
              case rel => exact ⟨K1 + 1, by go_num, by omega, Bk.out⟩
              case measure => simp [intOf]; omega
            | false =>
              clear EJ z0 z1 z2 t1 t2 v7
              go_wp2_with fail
              go_roundw
              case rel => exact ⟨K1 + 1, by go_num, by omega, Bk.out⟩
              case measure => simp [intOf]; omega
          · obtain rfl : k = 0 := by omega
            clear EJ k0
            cases u with
            | true =>
              obtain rfl : z = 0 := z0 rfl
              clear z0 z1 z2 t1 t2
              go_wp2_with fail
              go_roundw
              case rel => exact ⟨1, by go_num, by omega, Bk.out⟩
              case measure => simp [intOf]; omega
            | false =>
              clear z0 z1 z2 t1 t2
              go_wp2_with fail
              go_roundw
              case rel => exact ⟨1, by go_num, by omega, Bk.out⟩
              case measure => simp [intOf]; omega
        · have BQ := Lib.hid (B.out.trans (Bk.out.mono B.out.size))
          have HQ := Lib.hid (HS.out.next Bk.out)
          clear E E2 B HS Bk
          go_wp2_with fail
          go_roundw
          case rel => exact ⟨i + 1, M, A3, c3, by go_num, hlt, rfl, HI, HQ, BQ.out⟩
          case measure => simp [intOf]; omega
    · have Z4 := Lib.hid (IZ.out m HI.out)
      have I1 := IT.out m HI.out
      have I2' := IT.out _ I1
      have I3 := IT.out _ I2'
      have I4 := IT.out _ I3
      have L1 := IL.out _ I1
      have L2 := IL.out _ I2'
      have L3 := IL.out _ I3
      have L4 := IL.out _ I4
      have NX := Lib.hid (IN.out _ I4 Z4.out)
      clear I1 I2' I3 I4 IP IR IT IL IE I2 IZ IN KP KR HA
      have K1 := Lib.hid (KT.out wr A2 c2 m (by omega) HS.out)
      generalize tick m = m1 at *
      have K2 := Lib.hid (fun w A c hA => KT.out w A c m1 (by omega) hA)
      generalize tick m1 = m2 at *
      have K3 := Lib.hid (fun w A c hA => KT.out w A c m2 (by omega) hA)
      generalize tick m2 = m3 at *
      have K4 := Lib.hid (fun w A c hA => KT.out w A c m3 (by omega) hA)
      generalize tick m3 = m4 at *
      have K5 := Lib.hid (fun w A c hA => KN.out w A c m4 (by omega) hA)
      generalize next m4 = N at *
      clear KT KN
      go_wp2_with fail
      refine K1.out.mono ?_
      rintro _ w1 ⟨A3, c3, rfl, h3, hb⟩
      have B := Lib.hid (B.out.trans (hb.mono B.out.size))
      have H := Lib.hid h3
      clear hb h3 K1 HS
      go_wp2_with fail
      refine (K2.out _ _ _ H.out).mono ?_
      rintro _ w2 ⟨A4, c4, rfl, h3, hb⟩
      have B := Lib.hid (B.out.trans (hb.mono B.out.size))
      have H := Lib.hid h3
      clear hb h3 K2
      go_wp2_with fail
      refine (K3.out _ _ _ H.out).mono ?_
      rintro _ w3 ⟨A5, c5, rfl, h3, hb⟩
      have B := Lib.hid (B.out.trans (hb.mono B.out.size))
      have H := Lib.hid h3
      clear hb h3 K3
      go_wp2_with fail
      refine (K4.out _ _ _ H.out).mono ?_
      rintro _ w4 ⟨A6, c6, rfl, h3, hb⟩
      have B := Lib.hid (B.out.trans (hb.mono B.out.size))
      have H := Lib.hid h3
      clear hb h3 K4
      go_wp2_with fail
      go_loopw [7] (fun vk wk => ∃ k : Nat, vk = .int .i64 k ∧ k ≤ m4.length ∧ Below w.heap.size w wk ∧ Hid (SdS wk A6 c6 m4)) (fun vk _ => m4.length - (intOf vk).toNat)
      case atStart => exact ⟨0, rfl, Nat.zero_le _, B.out, H⟩
      case round =>
        obtain ⟨k, rfl, hk, hb, H⟩ := hrel
        have B := Lib.hid hb
        clear hb
        by_cases hlk : k < m4.length
        · obtain ⟨b2, p2, rfl, _, hc, _⟩ := sd_cell H.out.1 k hlk
          have g10 := hc.2.2.2.2.2.2.2.2.2.2
          rw [Z4.out _ (List.getElem_mem hlk)] at g10
          clear hc Z4
          go_wp2_with fail
          go_roundw
          case rel => exact ⟨k + 1, by go_num, hlk, B.out, H⟩
          case measure => simp [intOf]; omega
        · have KNX := Lib.hid (K5.out _ _ _ H.out)
          clear K5 Z4
          go_wp2_with fail
          refine KNX.out.mono ?_
          rintro _ w8 ⟨rfl, hb⟩
          have B := Lib.hid (B.out.trans (hb.mono B.out.size))
          have NX := NX.out
          clear hb KNX H
          by_cases hm : m4 = []
          · have q1 : ((m4.length : Int) == 0) = true := by rw [hm]; rfl
            have q2 : (N == -1) = true := by simpa using NX.2 hm
            have q3 : m4.length = 0 := by rw [hm]; rfl
            clear NX hm
            go_wp2_with fail
            refine (KL.out _).mono ?_
            rintro _ wz ⟨rfl, hb⟩
            have BZ := Lib.hid (B.out.trans (hb.mono B.out.size))
            clear hb
            go_wp2_with fail
            go_ret
            exact outB rfl BZ.out
          · have q3 : ¬ m4.length = 0 := fun e => hm (List.eq_nil_of_length_eq_zero e)
            have q1 : ((m4.length : Int) == 0) = false := beq_false_of_ne (by omega)
            have q2 : (N == -1) = false := beq_false_of_ne (fun e => hm (NX.1 e))
            clear NX hm
            go_wp2_with fail
            refine (KL.out _).mono ?_
            rintro _ wz ⟨rfl, hb⟩
            have BZ := Lib.hid (B.out.trans (hb.mono B.out.size))
            clear hb
            go_wp2_with fail
            go_ret
            exact outB rfl BZ.out
end Go.Proofs.Ytpfmfnogckeneaa.Mcq
