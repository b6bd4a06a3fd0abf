/- Package mac: Put. -/
import Derived.Test.YtpfmfnogckeneaaMcX2
import Derived.Test.YtpfmfnogckeneaaMcX3
import Derived.Test.YtpfmfnogckeneaaMcX4
import Derived.Test.YtpfmfnogckeneaaMcE
import Derived.Deep.DeepCutAuto
import Derived.Deep.CutRange
import Derived.Deep.RegionHeld
set_option linter.unusedVariables false
namespace Go.Proofs.Ytpfmfnogckeneaa.Mcq
open Go.RowKit
open Mbx (Fm zf fmC fmV FOk fF)

/-- A slice literal whose run is known. -/
theorem wp_bsl_run {P : Program} {o : Oper} {a : Act} {w : World} {K : Act → World → Prop} {Q : Exit → Act → World → Prop} (t : TypeId) (len : Nat) (parts : Array (Nat × Operand)) (ho : o.op = .buildSlice t len parts) (vs : Array (Nat × Value))
    (v' : Value) (w' : World) (hr : (Instr.buildSlice t len vs).run P w = .ok v' w') (hv : (parts.map fun (i, x) => (i, a.eval x)) = vs) (h : K (a.put o.dst v') w') : Oper.wp P o a w K Q := by
  rw [← hv] at hr
  unfold Oper.wp execOp
  simp only [ho, hr, Result.andThen_ok, Sem.run_bind, Sem.run_pure]
  exact h
theorem rng9 {w : World} {b : Nat} {cs : Array Value} {T : TypeId} (h : w.heap[b]? = some (.cells cs T (0, 0))) : w.rangeAt b 0 cs.toList := blk_range h
set_option maxRecDepth 100000 in
set_option maxHeartbeats 4000000 in
theorem pput_own (A : Option Addr) (c : Nat) (l : List Sd) (f : Fm) (w : World) (hl : l.length ≤ 1000000) (hf : FOk f) (hA : SdS w A c l) :
    Calls Try.prog 10 #[.slice A l.length c, fmV f] w (SbR w (put l f)) := by
  obtain ⟨y0, y1, y2, y3, y4, y5, y6, y7, y8⟩ := f
  have HF := Lib.hid hf
  have K0 := Lib.hid (pcopied_any A c l (w.alloc (bxF ⟨y0, y1, y2, y3, y4, y5, y6, y7, y8⟩)) hl (hA.next (alloc_below _ _)))
  have PF := Lib.hid (fun h => put_full (l := l) (f := ⟨y0, y1, y2, y3, y4, y5, y6, y7, y8⟩) h)
  have PI := Lib.hid (fun h => put_ins (l := l) (f := ⟨y0, y1, y2, y3, y4, y5, y6, y7, y8⟩) h)
  have LM := take_len l
  clear hA hf
  generalize put l ⟨y0, y1, y2, y3, y4, y5, y6, y7, y8⟩ = X at *
  generalize l.take 16 = m at *
  unfold OutS at K0
  go_enter Try.func10, Try.ntmps10
  go_wp2_with fail
  refine K0.out.mono ?_
  rintro _ w1 ⟨v, rfl, ho, hb⟩
  have X1 := Lib.hid (show w1.heap[w.heap.size]? = some (bxF ⟨y0, y1, y2, y3, y4, y5, y6, y7, y8⟩) from (hb.block w.heap.size (by simp)).trans (blk_new w _))
  have B1 := Lib.hid (box_below hb)
  have hz1 : w.heap.size + 1 ≤ w1.heap.size := by have := hb.size; simpa using this
  have O1 := Lib.hid (show OwnS w1 (w.heap.size + 1) v m by have h := ho; simp at h; exact h)
  obtain ⟨A1, c1, rfl, hs, hc1, hn1⟩ := O1.out.read
  have HM := Lib.hid (show SdS w1 A1 c1 m from ⟨hs, hc1, hn1⟩)
  have KL := Lib.hid (plast_any A1 c1 m w1 (by omega) HM.out)
  have LI : -1 ≤ lst m ∧ lst m < m.length := lsP_in rmv m m.length (Nat.le_refl _)
  have FI : ¬ Full m ⟨y0, y1, y2, y3, y4, y5, y6, y7, y8⟩ → m.length = 16 → y7 = true ∧ ¬ lst m < 0 := fun h1 h2 => by
    cases y7 with
    | false => exact absurd ⟨h2, Or.inl rfl⟩ h1
    | true => exact ⟨rfl, fun q => h1 ⟨h2, Or.inr q⟩⟩
  unfold OutI at KL
  obtain ⟨j, hj⟩ : ∃ j, lst m = j := ⟨_, rfl⟩
  rw [hj] at KL LI FI
  clear hb hs ho K0 hc1 hn1
  by_cases hF : Full m ⟨y0, y1, y2, y3, y4, y5, y6, y7, y8⟩
  · have R := Lib.hid (PF.out hF)
    have h16 : m.length = 16 := hF.1
    have hF2 := hF.2
    rw [hj] at hF2
    have t16 : ((m.length : Int) == 16) = true := by rw [beq_iff_eq]; omega
    clear PF PI FI hF hj h16
    have X2 := Lib.hid (fun (w2 : World) (hb : Below w1.heap.size w1 w2) => And.intro (blk_cell (blk_below X1.out hb (by omega)) 7 (v := .bool y7) rfl) (And.intro (HM.out.next hb) (B1.out.trans (hb.mono B1.out.size))))
    clear O1 X1 HM B1
    cases y7 with
    | false =>
      go_wp2_with fail
      refine KL.out.mono ?_
      rintro _ w2 ⟨rfl, hb⟩
      obtain ⟨c7, S2, B2⟩ := X2.out w2 hb
      have S2 := Lib.hid S2
      have B2 := Lib.hid B2
      clear hb X2 KL
      go_wp2_with fail
      rw [R.out]
      go_ret2
      exact ⟨_, _, rfl, S2.out, B2.out⟩
    | true =>
      obtain rfl : j = -1 := by rcases hF2 with h | h; cases h; omega
      clear hF2
      go_wp2_with fail
      refine KL.out.mono ?_
      rintro _ w2 ⟨rfl, hb⟩
      obtain ⟨c7, S2, B2⟩ := X2.out w2 hb
      have S2 := Lib.hid S2
      have B2 := Lib.hid B2
      clear hb X2 KL
      go_wp2_with fail
      rw [R.out]
      go_ret2
      exact ⟨_, _, rfl, S2.out, B2.out⟩
  · have R0 := Lib.hid (PI.out hF)
    have FN := Lib.hid (FI hF)
    obtain ⟨M, hM⟩ : ∃ M, (if m.length = 16 then m.eraseIdx (lst m).toNat else m) = M := ⟨_, rfl⟩
    rw [hM] at R0
    rw [hj] at hM
    have HM2 := Lib.hid hM
    have ML : M.length ≤ 16 := by rw [← hM]; split; exact Nat.le_trans (List.eraseIdx_sublist _ _).length_le LM; exact LM
    clear PF PI FI hF hM hj
    go_upto_if 12 with fail
    go_cut [6] (fun v wx => ∃ A2 c2, v = .slice A2 M.length c2 ∧ Hid (OwnS wx (w.heap.size + 1) (.slice A2 M.length c2) M) ∧ Hid (wx.heap[w.heap.size]? = some (bxF ⟨y0, y1, y2, y3, y4, y5, y6, y7, y8⟩)) ∧ w.heap.size + 1 ≤ wx.heap.size ∧ Below w.heap.size w wx)
    case first => as_aux_lemma =>
      by_cases h16 : m.length = 16
      · obtain ⟨rfl, hj⟩ := FN.out h16
        have e : M = m.eraseIdx j.toNat := by rw [← HM2.out, if_pos h16]
        obtain ⟨i, rfl⟩ : ∃ i : Nat, j = i := ⟨j.toNat, by omega⟩
        have t16 : ((m.length : Int) == 16) = true := by rw [beq_iff_eq]; omega
        have d1 : ((i : Int) == -1) = false := beq_false_of_ne (by omega)
        have s1 : IntKind.i64.wrap ((i : Int) + 1) = (i : Int) + 1 := by rw [IntKind.wrap_i64]; omega
        have il : i < m.length := by omega
        rw [Int.toNat_natCast] at e
        clear FN HM2 R0 hj h16
        go_wp2_with fail
        refine KL.out.mono ?_
        rintro _ w2 ⟨rfl, hb⟩
        have c7 := blk_cell (blk_below X1.out hb (by omega)) 7 (v := .bool true) rfl
        have X2 := Lib.hid (blk_below X1.out hb (by omega))
        have B2 := Lib.hid (B1.out.trans (hb.mono B1.out.size))
        have O2 := Lib.hid (OwnF.below O1.out hb)
        have hz2 := Nat.le_trans hz1 hb.size
        have KD := Lib.hid (pdelete_any A1 c1 m i (w.heap.size + 1) w2 (by omega) il O2.out)
        have hne := Lib.hid (show ∀ k, (Value.slice A1 m.length c1).ownBlock = some k → w.heap.size + 1 ≤ k from fun k hk => (O2.out.lt k hk).1)
        rw [← e] at KD
        clear hb KL O1 X1 B1 HM O2 e il
        go_wp2_with fail
        refine KD.out.mono ?_
        rintro _ w3 ⟨rfl, ho, hg⟩
        have X3 := Lib.hid (blk_grown X2.out hg (fun q => by have := hne.out _ q.symm; omega))
        have B3 := Lib.hid (B2.out.trans (gr_below hg (fun k e => by have := hne.out k e; omega) B2.out.size))
        have O3 := Lib.hid ho
        have hz3 := Nat.le_trans hz2 hg.size
        clear ho hg KD hne X2 B2
        go_wp2_with fail
        go_meet
        case rel => exact ⟨A1, c1, rfl, O3, X3, hz3, B3.out⟩
      · have e : M = m := by rw [← HM2.out, if_neg h16]
        have t16 : ((m.length : Int) == 16) = false := beq_false_of_ne (by omega)
        subst e
        clear FN HM2 R0
        go_wp2_with fail
        go_meet
        case rel => exact ⟨A1, c1, rfl, O1, X1, hz1, B1.out⟩
    case rest => as_aux_lemma =>
    obtain ⟨A2, c2, rfl, O2, X2, hz2, hb⟩ := hcut
    have B2 := Lib.hid hb
    clear hb FN HM2 O1 HM X1 B1 hz1 LI LM KL
    obtain ⟨a, ha⟩ : ∃ a, plc M ⟨y0, y1, y2, y3, y4, y5, y6, y7, y8⟩ = a := ⟨_, rfl⟩
    have R := Lib.hid (show X = (M.take a ++ [((⟨y0, y1, y2, y3, y4, y5, y6, y7, y8⟩ : Fm), 0, 0)] ++ M.drop a, true) by rw [R0.out, ← ha]; rfl)
    have hal : a ≤ M.length := by rw [← ha]; exact plc_le M _
    have XOK : fS.ok ((⟨y0, y1, y2, y3, y4, y5, y6, y7, y8⟩ : Fm), (0 : Int), (0 : Int)) := ⟨HF.out, by unfold I64; dsimp only; omega, by unfold I64; dsimp only; omega⟩
    -- the region that draws: the place and the literal, in either order
    obtain ⟨W, hW⟩ : ∃ W, wc.drew = W := ⟨_, rfl⟩
    have O3 := Lib.hid (show OwnS W (w.heap.size + 1) (.slice A2 M.length c2) M by rw [← hW]; exact O2.out.drew 1)
    have X3 := Lib.hid (show W.heap[w.heap.size]? = some (bxF ⟨y0, y1, y2, y3, y4, y5, y6, y7, y8⟩) by rw [← hW]; exact X2.out)
    have B3 := Lib.hid (show Below w.heap.size w W by rw [← hW]; exact below_drewN B2.out 1)
    have hz3 : w.heap.size + 1 ≤ W.heap.size := by rw [← hW]; exact hz2
    have KP := Lib.hid (fun (w1 : World) (hb : Below W.heap.size W w1) => pplace_any A2 c2 M ⟨y0, y1, y2, y3, y4, y5, y6, y7, y8⟩ w1 (by omega) (SlS.next (show SdS W A2 c2 M by
      obtain ⟨A', c', e, h⟩ := O3.out.slS
      simp only [Value.slice.injEq, true_and] at e
      obtain ⟨rfl, rfl⟩ := e
      exact h) hb))
    obtain ⟨L, hL⟩ : ∃ L, M.take a ++ [((⟨y0, y1, y2, y3, y4, y5, y6, y7, y8⟩ : Fm), (0 : Int), (0 : Int))] ++ M.drop a = L := ⟨_, rfl⟩
    rw [hL] at R
    have KI := Lib.hid (fun (w1 : World) (vb : Nat) (hb : Below W.heap.size W w1) (hv : w1.heap[vb]? = some (bxS ((⟨y0, y1, y2, y3, y4, y5, y6, y7, y8⟩ : Fm), (0 : Int), (0 : Int)))) (hvb : W.heap.size ≤ vb) => (show Calls Try.prog 25 #[.slice A2 M.length c2, .int .i64 a, .slice (some ⟨vb, 0, none⟩) 1 1] w1 (OutV (w.heap.size + 1) W L) from by
      have := insert_any (w.heap.size + 1) M ((⟨y0, y1, y2, y3, y4, y5, y6, y7, y8⟩ : Fm), (0 : Int), (0 : Int)) a W w1 (hb.mono hz3) vb hv (Nat.le_trans hz3 hb.size) XOK (by omega) (.slice A2 M.length c2) hal (OwnF.below O3.out hb) (fun g hg => by have := (O3.out.lt g hg).2; omega)
      rw [hL] at this
      exact this))
    rw [ha] at KP
    unfold OutI at KP
    unfold OutV at KI
    have SR := Lib.hid (fun (w1 : World) (hb : Below (w.heap.size + 1) W w1) => (show w1.rangeAt w.heap.size 0 [.int .i64 y0, .int .i64 y1, .int .i64 y2, .int .i64 y3, .int .i64 y4, .int .i64 y5, .int .i64 y6, .bool y7, .string y8] from rng9 (blk_below X3.out hb (by omega))))
    have SW := SR.out W (Below.refl _ _)
    rw [← hW] at SW
    clear R0 ha HF O2 X2 B2 hz2 O3 X3 XOK hL
    go_wp2_with fail
    refine wp_region_held_drew (S := (fun w' => w'.rangeAt w.heap.size 0 [.int .i64 y0, .int .i64 y1, .int .i64 y2, .int .i64 y3, .int .i64 y4, .int .i64 y5, .int .i64 y6, .bool y7, .string y8])) (by kernel_rfl) SW (fun hHeld => ?_)
    rw [hW] at hHeld ⊢
    clear hW SW
    refine wpAnyH_take (i := 0) (v := (.slice A2 M.length c2)) zat_zero (by kernel_rfl) (by kernel_rfl) (by kernel_rfl) (fun _ _ _ h => h) (Or.inl ⟨by kernel_rfl, fun wy hSw => ?_⟩) (by assumption) ?_
    · (try dsimp only at hSw); go_simp
    try simp only [Act.put, List.setIfInBounds_toArray, List.set_cons_zero, List.set_cons_succ]
    refine wpAnyH_take (i := 1) (v := (.slice A2 M.length c2)) (zat_succ zat_zero) (by kernel_rfl) (by kernel_rfl) (by kernel_rfl) (fun _ _ _ h => h) (Or.inl ⟨by kernel_rfl, fun wy hSw => ?_⟩) (by assumption) ?_
    · (try dsimp only at hSw); go_simp
    try simp only [Act.put, List.setIfInBounds_toArray, List.set_cons_zero, List.set_cons_succ]
    refine wpAnyH_take (i := 2) (v := (.agg #[.int .i64 y0, .int .i64 y1, .int .i64 y2, .int .i64 y3, .int .i64 y4, .int .i64 y5, .int .i64 y6, .bool y7, .string y8])) (zat_succ (zat_succ zat_zero)) (by kernel_rfl) (by kernel_rfl) (by kernel_rfl) (fun _ _ _ h => h) (yieldsIf_load_mid (by kernel_rfl) 24 _ rfl w.heap.size 0 rfl [.int .i64 y0, .int .i64 y1, .int .i64 y2, .int .i64 y3, .int .i64 y4, .int .i64 y5, .int .i64 y6, .bool y7, .string y8] _ (fun _ h => h) Try.underlying24 rfl (by kernel_rfl)) (by assumption) ?_
    try simp only [Act.put, List.setIfInBounds_toArray, List.set_cons_zero, List.set_cons_succ]
    refine wpAnyH_take (i := 4) (v := (.agg #[.int .i64 y0, .int .i64 y1, .int .i64 y2, .int .i64 y3, .int .i64 y4, .int .i64 y5, .int .i64 y6, .bool y7, .string y8])) (zat_succ (zat_succ (zat_succ (zat_succ zat_zero)))) (by kernel_rfl) (by kernel_rfl) (by kernel_rfl) (fun _ _ _ h => h) (yieldsIf_load_mid (by kernel_rfl) 24 _ rfl w.heap.size 0 rfl [.int .i64 y0, .int .i64 y1, .int .i64 y2, .int .i64 y3, .int .i64 y4, .int .i64 y5, .int .i64 y6, .bool y7, .string y8] _ (fun _ h => h) Try.underlying24 rfl (by kernel_rfl)) (by assumption) ?_
    try simp only [Act.put, List.setIfInBounds_toArray, List.set_cons_zero, List.set_cons_succ]
    refine wpAnyH_take (i := 5) (v := (.agg #[.int .i64 y0, .int .i64 y1, .int .i64 y2, .int .i64 y3, .int .i64 y4, .int .i64 y5, .int .i64 y6, .bool y7, .string y8, .int .i64 0, .int .i64 0])) (zat_succ (zat_succ (zat_succ (zat_succ (zat_succ zat_zero))))) (by kernel_rfl) (by kernel_rfl) (by kernel_rfl) (fun _ _ _ h => h) (Or.inl ⟨by kernel_rfl, fun wy hSw => ?_⟩) (by assumption) ?_
    · (have e := run_build wy 42 #[(0, .agg #[.int .i64 y0, .int .i64 y1, .int .i64 y2, .int .i64 y3, .int .i64 y4, .int .i64 y5, .int .i64 y6, .bool y7, .string y8])] _ (built_f y0 y1 y2 y3 y4 y5 y6 y7 y8); unfold execOp; simp only [List.map_toArray, List.map_cons, List.map_nil, Sem.run_bind, Sem.run_pure]; exact congrArg (fun r => Result.andThen r (fun a w1 => Result.ok (Next.value a) w1)) e)
    try simp only [Act.put, List.setIfInBounds_toArray, List.set_cons_zero, List.set_cons_succ]
    refine wpAnyH_ready (rs := [3, 6]) (by kernel_rfl) (by simp) ?_
    refine AllReadyH.cons (zat_succ (zat_succ (zat_succ zat_zero))) (fun K hK => ?_) (AllReadyH.cons (zat_succ (zat_succ (zat_succ (zat_succ (zat_succ (zat_succ zat_zero)))))) (fun K hK => ?_) AllReadyH.nil)
    · rw [if_pos (by kernel_rfl)]
      go_simp
      refine (KP.out W (Below.refl _ _)).mono ?_
      rintro _ w1 ⟨rfl, hb⟩
      go_wp2_with fail
      have HB := Lib.hid hb
      clear hHeld
      refine hK.out _ _ (SR.out _ (hb.mono hz3)) (fun hHeld => ?_)
      clear hK K
      try simp only [Act.put, List.setIfInBounds_toArray, List.set_cons_zero, List.set_cons_succ]
      refine wpAnyH_ready (rs := [6]) (by kernel_rfl) (by simp) ?_
      refine AllReadyH.cons (zat_succ (zat_succ (zat_succ (zat_succ (zat_succ (zat_succ zat_zero)))))) (fun K hK => ?_) AllReadyH.nil
      rw [if_pos (by kernel_rfl)]
      refine wp_bsl_run 22 1 _ rfl #[(0, .agg #[.int .i64 y0, .int .i64 y1, .int .i64 y2, .int .i64 y3, .int .i64 y4, .int .i64 y5, .int .i64 y6, .bool y7, .string y8, .int .i64 0, .int .i64 0])] _ _ (bsl_f y0 y1 y2 y3 y4 y5 y6 y7 y8 w1) (by simp only [List.map_toArray, List.map_cons, List.map_nil]; rfl) ?_
      have hw4 := Lib.hid (blk_new w1 (bxS (⟨y0, y1, y2, y3, y4, y5, y6, y7, y8⟩, (0 : Int), (0 : Int))))
      have hb4 := Lib.hid (HB.out.trans ((alloc_below w1 (bxS (⟨y0, y1, y2, y3, y4, y5, y6, y7, y8⟩, (0 : Int), (0 : Int)))).mono HB.out.size))
      have hvb := HB.out.size
      obtain ⟨w2, hw2⟩ : ∃ w2, w1.alloc (bxS (⟨y0, y1, y2, y3, y4, y5, y6, y7, y8⟩, (0 : Int), (0 : Int))) = w2 := ⟨_, rfl⟩
      obtain ⟨vb, hvb2⟩ : ∃ vb, w1.heap.size = vb := ⟨_, rfl⟩
      rw [hw2] at hw4 hb4 ⊢
      rw [hvb2] at hw4 hvb ⊢
      clear hw2 hvb2 hHeld hb
      refine hK.out _ _ (SR.out _ (hb4.out.mono hz3)) (fun hHeld => ?_)
      clear hK K
      try simp only [Act.put, List.setIfInBounds_toArray, List.set_cons_zero, List.set_cons_succ]
      refine wpAnyH_ready (rs := [7]) (by kernel_rfl) (by simp) ?_
      refine AllReadyH.cons (zat_succ (zat_succ (zat_succ (zat_succ (zat_succ (zat_succ (zat_succ zat_zero))))))) (fun K hK => ?_) AllReadyH.nil
      rw [if_pos (by kernel_rfl)]
      have KJ := Lib.hid (KI.out w2 vb hb4.out hw4.out hvb)
      clear hHeld KI KP
      unfold OutV at KJ
      go_simp
      refine KJ.out.mono ?_
      rintro _ w5 ⟨v, rfl, ho, hb5⟩
      have B5 := Lib.hid (B3.out.trans (hb5.mono (Nat.le_succ _)))
      obtain ⟨A7, c7, rfl, S7⟩ := ho.slS
      have S7 := Lib.hid S7
      have H5 := Lib.hid hb5
      clear ho hb5 KJ
      go_wp2_with fail
      refine hK.out _ _ (SR.out _ (H5.out)) (fun hHeld => ?_)
      clear hK K
      try simp only [Act.put, List.setIfInBounds_toArray, List.set_cons_zero, List.set_cons_succ]
      refine wpAnyH_take (i := 8) (v := (.slice A7 L.length c7)) (zat_succ (zat_succ (zat_succ (zat_succ (zat_succ (zat_succ (zat_succ (zat_succ zat_zero)))))))) (by kernel_rfl) (by kernel_rfl) (by kernel_rfl) (fun _ _ _ h => h) (Or.inl ⟨by kernel_rfl, fun wy hSw => ?_⟩) (by assumption) ?_
      · (try dsimp only at hSw); go_simp
      try simp only [Act.put, List.setIfInBounds_toArray, List.set_cons_zero, List.set_cons_succ]
      refine wpAnyH_take (i := 9) (v := (.bool true)) (zat_succ (zat_succ (zat_succ (zat_succ (zat_succ (zat_succ (zat_succ (zat_succ (zat_succ zat_zero))))))))) (by kernel_rfl) (by kernel_rfl) (by kernel_rfl) (fun _ _ _ h => h) (Or.inl ⟨by kernel_rfl, fun wy hSw => ?_⟩) (by assumption) ?_
      · (try dsimp only at hSw); go_simp
      try simp only [Act.put, List.setIfInBounds_toArray, List.set_cons_zero, List.set_cons_succ]
      refine wpAnyH_done (by kernel_rfl) ?_ _
      go_wp2_with fail
      rw [R.out]
      go_ret2
      exact ⟨_, _, rfl, S7.out, B5.out⟩
    · rw [if_pos (by kernel_rfl)]
      refine wp_bsl_run 22 1 _ rfl #[(0, .agg #[.int .i64 y0, .int .i64 y1, .int .i64 y2, .int .i64 y3, .int .i64 y4, .int .i64 y5, .int .i64 y6, .bool y7, .string y8, .int .i64 0, .int .i64 0])] _ _ (bsl_f y0 y1 y2 y3 y4 y5 y6 y7 y8 W) (by simp only [List.map_toArray, List.map_cons, List.map_nil]; rfl) ?_
      have hw4 := Lib.hid (blk_new W (bxS (⟨y0, y1, y2, y3, y4, y5, y6, y7, y8⟩, (0 : Int), (0 : Int))))
      have hb4 := Lib.hid (alloc_below W (bxS (⟨y0, y1, y2, y3, y4, y5, y6, y7, y8⟩, (0 : Int), (0 : Int))))
      have hl4 : W.heap.size < (W.alloc (bxS (⟨y0, y1, y2, y3, y4, y5, y6, y7, y8⟩, (0 : Int), (0 : Int)))).heap.size := by simp
      obtain ⟨w2, hw2⟩ : ∃ w2, W.alloc (bxS (⟨y0, y1, y2, y3, y4, y5, y6, y7, y8⟩, (0 : Int), (0 : Int))) = w2 := ⟨_, rfl⟩
      obtain ⟨vb, hvb2⟩ : ∃ vb, W.heap.size = vb := ⟨_, rfl⟩
      rw [hw2] at hw4 hb4 hl4 ⊢
      rw [hvb2]
      have hw4 := Lib.hid (show w2.heap[vb]? = some (bxS (⟨y0, y1, y2, y3, y4, y5, y6, y7, y8⟩, (0 : Int), (0 : Int))) by rw [← hvb2]; exact hw4.out)
      have hvb : W.heap.size ≤ vb := by omega
      have hl4 : vb < w2.heap.size := by omega
      clear hw2 hHeld
      replace hvb2 := Lib.hid hvb2
      refine hK.out _ _ (SR.out _ (hb4.out.mono hz3)) (fun hHeld => ?_)
      clear hK K
      try simp only [Act.put, List.setIfInBounds_toArray, List.set_cons_zero, List.set_cons_succ]
      refine wpAnyH_ready (rs := [3]) (by kernel_rfl) (by simp) ?_
      refine AllReadyH.cons (zat_succ (zat_succ (zat_succ zat_zero))) (fun K hK => ?_) AllReadyH.nil
      rw [if_pos (by kernel_rfl)]
      go_simp
      refine (KP.out w2 (hb4.out)).mono ?_
      rintro _ w1 ⟨rfl, hb⟩
      go_wp2_with fail
      have HB := Lib.hid (hb4.out.trans (hb.mono hb4.out.size))
      have hw5 := Lib.hid (blk_below hw4.out hb hl4)
      clear hHeld hb
      refine hK.out _ _ (SR.out _ (HB.out.mono hz3)) (fun hHeld => ?_)
      clear hK K
      try simp only [Act.put, List.setIfInBounds_toArray, List.set_cons_zero, List.set_cons_succ]
      refine wpAnyH_ready (rs := [7]) (by kernel_rfl) (by simp) ?_
      refine AllReadyH.cons (zat_succ (zat_succ (zat_succ (zat_succ (zat_succ (zat_succ (zat_succ zat_zero))))))) (fun K hK => ?_) AllReadyH.nil
      rw [if_pos (by kernel_rfl)]
      have KJ := Lib.hid (KI.out w1 vb HB.out hw5.out hvb)
      clear hHeld KI KP
      unfold OutV at KJ
      go_simp
      refine KJ.out.mono ?_
      rintro _ w5 ⟨v, rfl, ho, hb5⟩
      have B5 := Lib.hid (B3.out.trans (hb5.mono (Nat.le_succ _)))
      obtain ⟨A7, c7, rfl, S7⟩ := ho.slS
      have S7 := Lib.hid S7
      have H5 := Lib.hid hb5
      clear ho hb5 KJ
      go_wp2_with fail
      refine hK.out _ _ (SR.out _ (H5.out)) (fun hHeld => ?_)
      clear hK K
      try simp only [Act.put, List.setIfInBounds_toArray, List.set_cons_zero, List.set_cons_succ]
      refine wpAnyH_take (i := 8) (v := (.slice A7 L.length c7)) (zat_succ (zat_succ (zat_succ (zat_succ (zat_succ (zat_succ (zat_succ (zat_succ zat_zero)))))))) (by kernel_rfl) (by kernel_rfl) (by kernel_rfl) (fun _ _ _ h => h) (Or.inl ⟨by kernel_rfl, fun wy hSw => ?_⟩) (by assumption) ?_
      · (try dsimp only at hSw); go_simp
      try simp only [Act.put, List.setIfInBounds_toArray, List.set_cons_zero, List.set_cons_succ]
      refine wpAnyH_take (i := 9) (v := (.bool true)) (zat_succ (zat_succ (zat_succ (zat_succ (zat_succ (zat_succ (zat_succ (zat_succ (zat_succ zat_zero))))))))) (by kernel_rfl) (by kernel_rfl) (by kernel_rfl) (fun _ _ _ h => h) (Or.inl ⟨by kernel_rfl, fun wy hSw => ?_⟩) (by assumption) ?_
      · (try dsimp only at hSw); go_simp
      try simp only [Act.put, List.setIfInBounds_toArray, List.set_cons_zero, List.set_cons_succ]
      refine wpAnyH_done (by kernel_rfl) ?_ _
      go_wp2_with fail
      rw [R.out]
      go_ret2
      exact ⟨_, _, rfl, S7.out, B5.out⟩
end Go.Proofs.Ytpfmfnogckeneaa.Mcq
