/- Package mailbox: Put. -/
import Derived.Test.YtlfegjhhkeceiaaMbX2
set_option linter.unusedVariables false
namespace Go.Proofs.Ytlfegjhhkeceiaa.Mbx
open Go.RowKit

set_option maxRecDepth 100000 in
set_option maxHeartbeats 4000000 in
theorem pput_own (A : Option Addr) (c : Nat) (l : List Ml) (f : Fm) (now : Int) (w : World) (hl : l.length ≤ 1000) (hf : FOk f) (hA : MlS w A c l) :
    Calls Try.prog 10 #[.slice A l.length c, fmV f, .int .i64 now] w (OutPt w (put l f now)) := by
  have HF := Lib.hid hf
  have HA := Lib.hid hA
  have K0 := Lib.hid (pcut_any A c l (w.alloc (bxF f)) (by omega) (hA.next (alloc_below _ _)))
  have PF := Lib.hid (fun h => put_full (l := l) (f := f) (now := now) h)
  have PR := Lib.hid (fun h => put_room (l := l) (f := f) (now := now) h)
  have PO := Lib.hid (fun h hf => put_over (l := l) (f := f) (now := now) h hf)
  have LM : (l.take 16).length ≤ 16 := by rw [List.length_take]; omega
  clear hA hf
  generalize put l f now = X at *
  generalize l.take 16 = m at *
  have KL := Lib.hid (fun w => plimited_any now w)
  have bl := lim_i64 now
  have X1 := Lib.hid (blk_new w (bxF f))
  have B1 := Lib.hid (alloc_below w (bxF f))
  have hz1 : w.heap.size < (w.alloc (bxF f)).heap.size := by simp
  obtain ⟨x0, x1, x2, x3, x4, x5, x6, x7, x8⟩ := f
  go_enter Try.func10, Try.ntmps10
  go_wp2_with fail
  refine K0.out.mono ?_
  rintro _ w1 ⟨A1, rfl, hs, rfl⟩
  obtain ⟨w1, hw1⟩ : ∃ w1, w.alloc (bxF ⟨x0, x1, x2, x3, x4, x5, x6, x7, x8⟩) = w1 := ⟨_, rfl⟩
  simp only [hw1] at hs X1 B1 hz1 ⊢
  have HM := Lib.hid hs
  clear hs K0 hw1
  by_cases h16 : m.length = 16
  rotate_left
  · have d1 : ((m.length : Int) == 16) = false := by simp; omega
    have R := Lib.hid (PR.out h16)
    clear PF PR PO h16
    have HD := HM.out.next (below_drewN (Below.refl w1.heap.size w1) 1)
    have XD : w1.drew.heap[w.heap.size]? = some (bxF ⟨x0, x1, x2, x3, x4, x5, x6, x7, x8⟩) := X1.out
    have BD := Lib.hid (show Below w.heap.size w w1.drew from below_drewN B1.out 1)
    have hzD : w.heap.size < w1.drew.heap.size := hz1
    have KP := Lib.hid (pplace_any A1 m.length m ⟨x0, x1, x2, x3, x4, x5, x6, x7, x8⟩ w1.drew (by omega) HD)
    have PL := plU_le m ⟨x0, x1, x2, x3, x4, x5, x6, x7, x8⟩
    have RI := Lib.hid (R.out.trans (by rw [plU_ins]))
    unfold OutI at KP
    have KT := Lib.hid (fun w hA => pwith_any A1 m.length m (plU m ⟨x0, x1, x2, x3, x4, x5, x6, x7, x8⟩) (⟨x0, x1, x2, x3, x4, x5, x6, x7, x8⟩, lim now) w (by omega) PL ⟨HF.out, bl⟩ hA)
    unfold OutM at KT
    generalize plU m ⟨x0, x1, x2, x3, x4, x5, x6, x7, x8⟩ = a at *
    have HD := Lib.hid HD
    have S0 : FmC w1.drew w.heap.size 0 ⟨x0, x1, x2, x3, x4, x5, x6, x7, x8⟩ := fm_block XD
    unfold FmC at S0
    simp only [Nat.zero_add] at S0
    clear R PL B1 X1 HM
    go_wp2_with fail
    refine wp_region_held_drew (S := (fun wy : World => wy.cell? ⟨w.heap.size, 0, none⟩ = some (.int .i64 x0) ∧ wy.cell? ⟨w.heap.size, 1, none⟩ = some (.int .i64 x1) ∧ wy.cell? ⟨w.heap.size, 2, none⟩ = some (.int .i64 x2) ∧ wy.cell? ⟨w.heap.size, 3, none⟩ = some (.int .i64 x3) ∧ wy.cell? ⟨w.heap.size, 4, none⟩ = some (.int .i64 x4) ∧ wy.cell? ⟨w.heap.size, 5, none⟩ = some (.int .i64 x5) ∧ wy.cell? ⟨w.heap.size, 6, none⟩ = some (.int .i64 x6) ∧ wy.cell? ⟨w.heap.size, 7, none⟩ = some (.bool x7) ∧ wy.cell? ⟨w.heap.size, 8, none⟩ = some (.string x8))) (by kernel_rfl) (S0) (fun hHeld => ?_)
    refine wpAnyH_take (i := 0) (v := (.slice A1 m.length m.length)) at_zero (by kernel_rfl) (by kernel_rfl) (by kernel_rfl) (fun _ _ _ h => h) (Or.inl ⟨by kernel_rfl, fun wy hSw => ?_⟩) (by assumption) ?_
    · (try dsimp only at hSw); go_simp
    try simp only [Act.put, List.setIfInBounds_toArray, List.set_cons_zero, List.set_cons_succ]
    refine wpAnyH_take (i := 1) (v := (.slice A1 m.length m.length)) (at_succ at_zero) (by kernel_rfl) (by kernel_rfl) (by kernel_rfl) (fun _ _ _ h => h) (Or.inl ⟨by kernel_rfl, fun wy hSw => ?_⟩) (by assumption) ?_
    · (try dsimp only at hSw); go_simp
    try simp only [Act.put, List.setIfInBounds_toArray, List.set_cons_zero, List.set_cons_succ]
    refine wpAnyH_take (i := 2) (v := (.agg #[.int .i64 x0, .int .i64 x1, .int .i64 x2, .int .i64 x3, .int .i64 x4, .int .i64 x5, .int .i64 x6, .bool x7, .string x8])) (at_succ (at_succ at_zero)) (by kernel_rfl) (by kernel_rfl) (by kernel_rfl) (fun _ _ _ h => h) (Or.inl ⟨by kernel_rfl, fun wy hSw => ?_⟩) (by assumption) ?_
    · (try dsimp only at hSw); go_simp
    try simp only [Act.put, List.setIfInBounds_toArray, List.set_cons_zero, List.set_cons_succ]
    refine wpAnyH_take (i := 4) (v := (.agg #[.int .i64 x0, .int .i64 x1, .int .i64 x2, .int .i64 x3, .int .i64 x4, .int .i64 x5, .int .i64 x6, .bool x7, .string x8])) (at_succ (at_succ (at_succ (at_succ at_zero)))) (by kernel_rfl) (by kernel_rfl) (by kernel_rfl) (fun _ _ _ h => h) (Or.inl ⟨by kernel_rfl, fun wy hSw => ?_⟩) (by assumption) ?_
    · (try dsimp only at hSw); go_simp
    try simp only [Act.put, List.setIfInBounds_toArray, List.set_cons_zero, List.set_cons_succ]
    refine wpAnyH_take (i := 5) (v := (.int .i64 now)) (at_succ (at_succ (at_succ (at_succ (at_succ at_zero))))) (by kernel_rfl) (by kernel_rfl) (by kernel_rfl) (fun _ _ _ h => h) (Or.inl ⟨by kernel_rfl, fun wy hSw => ?_⟩) (by assumption) ?_
    · (try dsimp only at hSw); go_simp
    try simp only [Act.put, List.setIfInBounds_toArray, List.set_cons_zero, List.set_cons_succ]
    refine wpAnyH_ready (rs := [3]) (by kernel_rfl) (by simp) ?_
    refine AllReadyH.cons (at_succ (at_succ (at_succ at_zero))) (fun K hK => ?_) AllReadyH.nil
    rw [if_pos (by kernel_rfl)]
    go_simp
    refine KP.out.mono ?_
    rintro _ w3 ⟨rfl, hb⟩
    have X3 := blk_below XD hb hzD
    have S3 : FmC w3 w.heap.size 0 ⟨x0, x1, x2, x3, x4, x5, x6, x7, x8⟩ := fm_block X3
    unfold FmC at S3
    simp only [Nat.zero_add] at S3
    have B3 := Lib.hid (BD.out.trans (hb.mono BD.out.size))
    have H3 := Lib.hid (HD.out.next hb)
    have hz3 := Nat.lt_of_lt_of_le hzD hb.size
    clear hb KP hHeld
    go_wp2_with fail
    refine hK.out _ _ (S3) (fun hHeld => ?_)
    clear hK K
    try simp only [Act.put, List.setIfInBounds_toArray, List.set_cons_zero, List.set_cons_succ]
    refine wpAnyH_ready (rs := [6]) (by kernel_rfl) (by simp) ?_
    refine AllReadyH.cons (at_succ (at_succ (at_succ (at_succ (at_succ (at_succ at_zero)))))) (fun K hK => ?_) AllReadyH.nil
    rw [if_pos (by kernel_rfl)]
    go_simp
    refine (KL.out _).mono ?_
    rintro _ wx ⟨rfl, rfl⟩
    go_wp2_with fail
    refine hK.out _ _ (S3) (fun hHeld => ?_)
    clear hK K
    try simp only [Act.put, List.setIfInBounds_toArray, List.set_cons_zero, List.set_cons_succ]
    refine wpAnyH_take (i := 7) (v := (.agg #[.int .i64 x0, .int .i64 x1, .int .i64 x2, .int .i64 x3, .int .i64 x4, .int .i64 x5, .int .i64 x6, .bool x7, .string x8, .int .i64 (lim now)])) (at_succ (at_succ (at_succ (at_succ (at_succ (at_succ (at_succ at_zero))))))) (by kernel_rfl) (by kernel_rfl) (by kernel_rfl) (fun _ _ _ h => h) (Or.inl ⟨by kernel_rfl, fun wy hSw => ?_⟩) (by assumption) ?_
    · (try dsimp only at hSw); go_simp
    try simp only [Act.put, List.setIfInBounds_toArray, List.set_cons_zero, List.set_cons_succ]
    refine wpAnyH_ready (rs := [8]) (by kernel_rfl) (by simp) ?_
    refine AllReadyH.cons (at_succ (at_succ (at_succ (at_succ (at_succ (at_succ (at_succ (at_succ at_zero)))))))) (fun K hK => ?_) AllReadyH.nil
    rw [if_pos (by kernel_rfl)]
    go_simp
    refine (KT.out _ H3.out).mono ?_
    rintro _ w4 ⟨v4, rfl, ho, hb⟩
    have S4 : FmC w4 w.heap.size 0 ⟨x0, x1, x2, x3, x4, x5, x6, x7, x8⟩ := fm_block (blk_below X3 hb hz3)
    unfold FmC at S4
    simp only [Nat.zero_add] at S4
    have O4 := Lib.hid (ho.down B3.out.size)
    have B4 := Lib.hid (B3.out.trans (hb.mono B3.out.size))
    clear ho hb KT hHeld
    go_wp2_with fail
    refine hK.out _ _ (S4) (fun hHeld => ?_)
    clear hK K
    try simp only [Act.put, List.setIfInBounds_toArray, List.set_cons_zero, List.set_cons_succ]
    refine wpAnyH_take (i := 9) (v := v4) (at_succ (at_succ (at_succ (at_succ (at_succ (at_succ (at_succ (at_succ (at_succ at_zero))))))))) (by kernel_rfl) (by kernel_rfl) (by kernel_rfl) (fun _ _ _ h => h) (Or.inl ⟨by kernel_rfl, fun wy hSw => ?_⟩) (by assumption) ?_
    · (try dsimp only at hSw); go_simp
    try simp only [Act.put, List.setIfInBounds_toArray, List.set_cons_zero, List.set_cons_succ]
    refine wpAnyH_take (i := 10) (v := (.bool true)) (at_succ (at_succ (at_succ (at_succ (at_succ (at_succ (at_succ (at_succ (at_succ (at_succ at_zero)))))))))) (by kernel_rfl) (by kernel_rfl) (by kernel_rfl) (fun _ _ _ h => h) (Or.inl ⟨by kernel_rfl, fun wy hSw => ?_⟩) (by assumption) ?_
    · (try dsimp only at hSw); go_simp
    try simp only [Act.put, List.setIfInBounds_toArray, List.set_cons_zero, List.set_cons_succ]
    refine wpAnyH_done (by kernel_rfl) ?_ _
    go_wp2_with fail
    rw [RI.out]
    go_ret2
    exact ⟨_, rfl, O4.out, B4.out⟩
  have d1 : ((m.length : Int) == 16) = true := by simp; omega
  have H16 := Lib.hid h16
  clear h16
  have KJ := Lib.hid (plast_any A1 m.length m w1 (by omega) HM.out)
  have LI := lsU_in m m.length (Nat.le_refl _)
  have LG := Lib.hid (lsU_neg m)
  have LR := Lib.hid (lsU_rm m)
  generalize lsU m m.length = j at *
  unfold OutI at KJ
  have KC := Lib.hid (fun w hA => pclone_any A1 m.length m w (by omega) hA)
  unfold OutM at KC
  clear PR
  go_wp2_with fail
  refine KJ.out.mono ?_
  rintro _ w2 ⟨rfl, hb⟩
  have X2 := Lib.hid (blk_below X1.out hb hz1)
  have hz2 := Nat.lt_of_lt_of_le hz1 hb.size
  have B2 := Lib.hid (B1.out.trans (hb.mono B1.out.size))
  have H2 := Lib.hid (HM.out.next hb)
  have e7 : w2.cell? ⟨w.heap.size, 7, none⟩ = some (.bool x7) := (fm_block X2.out).2.2.2.2.2.2.2.1
  clear hb KJ HM X1 B1 hz1
  by_cases hF : Full m ⟨x0, x1, x2, x3, x4, x5, x6, x7, x8⟩
  · have R := Lib.hid (PF.out hF)
    have hg : x7 = false ∨ j = -1 := by
      rcases hF.2 with h | h
      · exact Or.inl h
      · have := LG.out.2 h; exact Or.inr (by omega)
    have KC := Lib.hid (KC.out w2 H2.out)
    clear PF PO hF LG LR LI
    cases x7 with
    | false =>
      go_wp2_with fail
      refine KC.out.mono ?_
      rintro _ w3 ⟨v, rfl, ho, hb⟩
      have O3 := Lib.hid (ho.down B2.out.size)
      have B3 := Lib.hid (B2.out.trans (hb.mono B2.out.size))
      clear ho hb e7
      go_wp2_with fail
      rw [R.out]
      go_ret2
      exact ⟨_, rfl, O3.out, B3.out⟩
    | true =>
      obtain rfl : j = -1 := by rcases hg with h | h; cases h; exact h
      go_wp2_with fail
      refine KC.out.mono ?_
      rintro _ w3 ⟨v, rfl, ho, hb⟩
      have O3 := Lib.hid (ho.down B2.out.size)
      have B3 := Lib.hid (B2.out.trans (hb.mono B2.out.size))
      clear ho hb e7
      go_wp2_with fail
      rw [R.out]
      go_ret2
      exact ⟨_, rfl, O3.out, B3.out⟩
  · have R := Lib.hid (PO.out H16.out hF)
    have hj : 0 ≤ j := by
      by_cases hj : j < 0
      · exact absurd ⟨H16.out, Or.inr (LG.out.1 hj)⟩ hF
      · omega
    obtain rfl : x7 = true := by
      cases x7 with
      | true => rfl
      | false => exact absurd ⟨H16.out, Or.inl rfl⟩ hF
    obtain ⟨i, hi, rfl, ei⟩ := LR.out hj
    have d2 : ((i : Int) == -1) = false := by simp <;> omega
    have KW := Lib.hid (pwithout_any A1 m.length m i w2 (by omega) hi H2.out)
    rw [ei] at KW
    have lr : (rmL m).length ≤ 16 := by have := (rmL_sub m).length_le; omega
    unfold ListR at KW
    clear PF PO hF LG LR LI hj KC H2 ei hi H16
    generalize rmL m = M at *
    go_wp2_with fail
    refine KW.out.mono ?_
    rintro _ w1 ⟨A1, c1, rfl, hs, hb⟩
    have X1 := Lib.hid (blk_below X2.out hb hz2)
    have hz1 := Nat.lt_of_lt_of_le hz2 hb.size
    have B1 := Lib.hid (B2.out.trans (hb.mono B2.out.size))
    have HM := Lib.hid hs
    clear hb KW X2 B2 hz2 e7 hs
    have HD := HM.out.next (below_drewN (Below.refl w1.heap.size w1) 1)
    have XD : w1.drew.heap[w.heap.size]? = some (bxF ⟨x0, x1, x2, x3, x4, x5, x6, true, x8⟩) := X1.out
    have BD := Lib.hid (show Below w.heap.size w w1.drew from below_drewN B1.out 1)
    have hzD : w.heap.size < w1.drew.heap.size := hz1
    have KP := Lib.hid (pplace_any A1 c1 M ⟨x0, x1, x2, x3, x4, x5, x6, true, x8⟩ w1.drew (by omega) HD)
    have PL := plU_le M ⟨x0, x1, x2, x3, x4, x5, x6, true, x8⟩
    have RI := Lib.hid (R.out.trans (by rw [plU_ins]))
    unfold OutI at KP
    have KT := Lib.hid (fun w hA => pwith_any A1 c1 M (plU M ⟨x0, x1, x2, x3, x4, x5, x6, true, x8⟩) (⟨x0, x1, x2, x3, x4, x5, x6, true, x8⟩, lim now) w (by omega) PL ⟨HF.out, bl⟩ hA)
    unfold OutM at KT
    generalize plU M ⟨x0, x1, x2, x3, x4, x5, x6, true, x8⟩ = a at *
    have HD := Lib.hid HD
    have S0 : FmC w1.drew w.heap.size 0 ⟨x0, x1, x2, x3, x4, x5, x6, true, x8⟩ := fm_block XD
    unfold FmC at S0
    simp only [Nat.zero_add] at S0
    clear R PL B1 X1 HM
    go_wp2_with fail
    refine wp_region_held_drew (S := (fun wy : World => wy.cell? ⟨w.heap.size, 0, none⟩ = some (.int .i64 x0) ∧ wy.cell? ⟨w.heap.size, 1, none⟩ = some (.int .i64 x1) ∧ wy.cell? ⟨w.heap.size, 2, none⟩ = some (.int .i64 x2) ∧ wy.cell? ⟨w.heap.size, 3, none⟩ = some (.int .i64 x3) ∧ wy.cell? ⟨w.heap.size, 4, none⟩ = some (.int .i64 x4) ∧ wy.cell? ⟨w.heap.size, 5, none⟩ = some (.int .i64 x5) ∧ wy.cell? ⟨w.heap.size, 6, none⟩ = some (.int .i64 x6) ∧ wy.cell? ⟨w.heap.size, 7, none⟩ = some (.bool true) ∧ wy.cell? ⟨w.heap.size, 8, none⟩ = some (.string x8))) (by kernel_rfl) (S0) (fun hHeld => ?_)
    refine wpAnyH_take (i := 0) (v := (.slice A1 M.length c1)) at_zero (by kernel_rfl) (by kernel_rfl) (by kernel_rfl) (fun _ _ _ h => h) (Or.inl ⟨by kernel_rfl, fun wy hSw => ?_⟩) (by assumption) ?_
    · (try dsimp only at hSw); go_simp
    try simp only [Act.put, List.setIfInBounds_toArray, List.set_cons_zero, List.set_cons_succ]
    refine wpAnyH_take (i := 1) (v := (.slice A1 M.length c1)) (at_succ at_zero) (by kernel_rfl) (by kernel_rfl) (by kernel_rfl) (fun _ _ _ h => h) (Or.inl ⟨by kernel_rfl, fun wy hSw => ?_⟩) (by assumption) ?_
    · (try dsimp only at hSw); go_simp
    try simp only [Act.put, List.setIfInBounds_toArray, List.set_cons_zero, List.set_cons_succ]
    refine wpAnyH_take (i := 2) (v := (.agg #[.int .i64 x0, .int .i64 x1, .int .i64 x2, .int .i64 x3, .int .i64 x4, .int .i64 x5, .int .i64 x6, .bool true, .string x8])) (at_succ (at_succ at_zero)) (by kernel_rfl) (by kernel_rfl) (by kernel_rfl) (fun _ _ _ h => h) (Or.inl ⟨by kernel_rfl, fun wy hSw => ?_⟩) (by assumption) ?_
    · (try dsimp only at hSw); go_simp
    try simp only [Act.put, List.setIfInBounds_toArray, List.set_cons_zero, List.set_cons_succ]
    refine wpAnyH_take (i := 4) (v := (.agg #[.int .i64 x0, .int .i64 x1, .int .i64 x2, .int .i64 x3, .int .i64 x4, .int .i64 x5, .int .i64 x6, .bool true, .string x8])) (at_succ (at_succ (at_succ (at_succ at_zero)))) (by kernel_rfl) (by kernel_rfl) (by kernel_rfl) (fun _ _ _ h => h) (Or.inl ⟨by kernel_rfl, fun wy hSw => ?_⟩) (by assumption) ?_
    · (try dsimp only at hSw); go_simp
    try simp only [Act.put, List.setIfInBounds_toArray, List.set_cons_zero, List.set_cons_succ]
    refine wpAnyH_take (i := 5) (v := (.int .i64 now)) (at_succ (at_succ (at_succ (at_succ (at_succ at_zero))))) (by kernel_rfl) (by kernel_rfl) (by kernel_rfl) (fun _ _ _ h => h) (Or.inl ⟨by kernel_rfl, fun wy hSw => ?_⟩) (by assumption) ?_
    · (try dsimp only at hSw); go_simp
    try simp only [Act.put, List.setIfInBounds_toArray, List.set_cons_zero, List.set_cons_succ]
    refine wpAnyH_ready (rs := [3]) (by kernel_rfl) (by simp) ?_
    refine AllReadyH.cons (at_succ (at_succ (at_succ at_zero))) (fun K hK => ?_) AllReadyH.nil
    rw [if_pos (by kernel_rfl)]
    go_simp
    refine KP.out.mono ?_
    rintro _ w3 ⟨rfl, hb⟩
    have X3 := blk_below XD hb hzD
    have S3 : FmC w3 w.heap.size 0 ⟨x0, x1, x2, x3, x4, x5, x6, true, x8⟩ := fm_block X3
    unfold FmC at S3
    simp only [Nat.zero_add] at S3
    have B3 := Lib.hid (BD.out.trans (hb.mono BD.out.size))
    have H3 := Lib.hid (HD.out.next hb)
    have hz3 := Nat.lt_of_lt_of_le hzD hb.size
    clear hb KP hHeld
    go_wp2_with fail
    refine hK.out _ _ (S3) (fun hHeld => ?_)
    clear hK K
    try simp only [Act.put, List.setIfInBounds_toArray, List.set_cons_zero, List.set_cons_succ]
    refine wpAnyH_ready (rs := [6]) (by kernel_rfl) (by simp) ?_
    refine AllReadyH.cons (at_succ (at_succ (at_succ (at_succ (at_succ (at_succ at_zero)))))) (fun K hK => ?_) AllReadyH.nil
    rw [if_pos (by kernel_rfl)]
    go_simp
    refine (KL.out _).mono ?_
    rintro _ wx ⟨rfl, rfl⟩
    go_wp2_with fail
    refine hK.out _ _ (S3) (fun hHeld => ?_)
    clear hK K
    try simp only [Act.put, List.setIfInBounds_toArray, List.set_cons_zero, List.set_cons_succ]
    refine wpAnyH_take (i := 7) (v := (.agg #[.int .i64 x0, .int .i64 x1, .int .i64 x2, .int .i64 x3, .int .i64 x4, .int .i64 x5, .int .i64 x6, .bool true, .string x8, .int .i64 (lim now)])) (at_succ (at_succ (at_succ (at_succ (at_succ (at_succ (at_succ at_zero))))))) (by kernel_rfl) (by kernel_rfl) (by kernel_rfl) (fun _ _ _ h => h) (Or.inl ⟨by kernel_rfl, fun wy hSw => ?_⟩) (by assumption) ?_
    · (try dsimp only at hSw); go_simp
    try simp only [Act.put, List.setIfInBounds_toArray, List.set_cons_zero, List.set_cons_succ]
    refine wpAnyH_ready (rs := [8]) (by kernel_rfl) (by simp) ?_
    refine AllReadyH.cons (at_succ (at_succ (at_succ (at_succ (at_succ (at_succ (at_succ (at_succ at_zero)))))))) (fun K hK => ?_) AllReadyH.nil
    rw [if_pos (by kernel_rfl)]
    go_simp
    refine (KT.out _ H3.out).mono ?_
    rintro _ w4 ⟨v4, rfl, ho, hb⟩
    have S4 : FmC w4 w.heap.size 0 ⟨x0, x1, x2, x3, x4, x5, x6, true, x8⟩ := fm_block (blk_below X3 hb hz3)
    unfold FmC at S4
    simp only [Nat.zero_add] at S4
    have O4 := Lib.hid (ho.down B3.out.size)
    have B4 := Lib.hid (B3.out.trans (hb.mono B3.out.size))
    clear ho hb KT hHeld
    go_wp2_with fail
    refine hK.out _ _ (S4) (fun hHeld => ?_)
    clear hK K
    try simp only [Act.put, List.setIfInBounds_toArray, List.set_cons_zero, List.set_cons_succ]
    refine wpAnyH_take (i := 9) (v := v4) (at_succ (at_succ (at_succ (at_succ (at_succ (at_succ (at_succ (at_succ (at_succ at_zero))))))))) (by kernel_rfl) (by kernel_rfl) (by kernel_rfl) (fun _ _ _ h => h) (Or.inl ⟨by kernel_rfl, fun wy hSw => ?_⟩) (by assumption) ?_
    · (try dsimp only at hSw); go_simp
    try simp only [Act.put, List.setIfInBounds_toArray, List.set_cons_zero, List.set_cons_succ]
    refine wpAnyH_take (i := 10) (v := (.bool true)) (at_succ (at_succ (at_succ (at_succ (at_succ (at_succ (at_succ (at_succ (at_succ (at_succ at_zero)))))))))) (by kernel_rfl) (by kernel_rfl) (by kernel_rfl) (fun _ _ _ h => h) (Or.inl ⟨by kernel_rfl, fun wy hSw => ?_⟩) (by assumption) ?_
    · (try dsimp only at hSw); go_simp
    try simp only [Act.put, List.setIfInBounds_toArray, List.set_cons_zero, List.set_cons_succ]
    refine wpAnyH_done (by kernel_rfl) ?_ _
    go_wp2_with fail
    rw [RI.out]
    go_ret2
    exact ⟨_, rfl, O4.out, B4.out⟩

theorem pput_any (A : Option Addr) (c : Nat) (l : List Ml) (f : Fm) (now : Int) (w : World) (hl : l.length ≤ 1000) (hf : FOk f) (hA : MlS w A c l) :
    Calls Try.prog 10 #[.slice A l.length c, fmV f, .int .i64 now] w (PutR w (put l f now)) := (pput_own A c l f now w (by omega) hf hA).mono fun _ _ h => putR_of h
theorem pexpire_any (A : Option Addr) (c : Nat) (l : List Ml) (now life : Int) (w : World) (hl : l.length ≤ 1000) (hA : MlS w A c l) :
    Calls Try.prog 15 #[.slice A l.length c, .int .i64 now, .int .i64 life] w (ListR w (expi l now life)) := (pexpire_own A c l now life w (by omega) hA).mono fun _ _ h => listR_of h
end Go.Proofs.Ytlfegjhhkeceiaa.Mbx
