/- Package radio: Jam, Deliver. -/
import Derived.Test.YtcnmknhjmflinaaRdX5
set_option linter.unusedVariables false
namespace Go.Proofs.Ytcnmknhjmflinaa.Rdo
open Go.RowKit
open Tpo (fE EdAt OwnE OwnI OutN OutL near wout sel mem_near mem_sel eInt eEd)

set_option maxRecDepth 100000 in
set_option maxHeartbeats 4000000 in
theorem pdel_any (x : Hd) (a : Ar) (fk ff ft fs fg fq fh : Int) (fu : Bool) (fd : ByteArray) (w : World) (hl : Fit a) (h : AirS w x a) :
    Calls Try.prog 14 #[airV x a, frmV fk ff ft fs fg fq fh fu fd] w (DelR w (del a ff ft)) := by
  have DR := Lib.hid (del_hr a ff ft)
  generalize del a ff ft = RR at *
  have HN := Lib.hid (fun (q : ft ∈ hr (sane a) ff) => (show I64 ft from Tpo.nd_i64 (Tpo.lk_node ((mem_hr _ _ _).1 q).1).1.2))
  have KO := Lib.hid (fun w => pcon_any (saneH x a).A2 (saneH x a).c2 (sane a).o ff w (by have := (sane_fit hl).2.1; omega))
  have K3 := Lib.hid (fun w => pcon_any (saneH x a).A3 (saneH x a).c3 (sane a).n ff w (by have := (sane_fit hl).2.2; omega))
  have KH := Lib.hid (fun w => phear_any (saneH x a) (sane a) ff w (sane_fit hl))
  have HL := hr_len (sane a) ff
  generalize hr (sane a) ff = H at *
  have KS := Lib.hid (fun w (h : AirS w x a) => psane_any x a w hl h)
  unfold SaneR at KS
  have FS := sane_fit hl
  have HS := Lib.hid h.sane
  have HB := Lib.hid (fun w' (hb : Below w.heap.size w w') => h.next hb)
  clear h hl
  generalize saneH x a = y at *
  generalize sane a = s at *
  obtain ⟨A1, c1, A2, c2, A3, c3⟩ := x
  obtain ⟨E0, O0, N0⟩ := a
  obtain ⟨D1, e1, D2, e2, D3, e3⟩ := y
  obtain ⟨E, O, N⟩ := s
  obtain ⟨l1, l2, l3⟩ := FS
  simp only at l1 l2 l3
  dsimp only [airV] at KS ⊢
  have b0 : Below w.heap.size w ((w.alloc (.cells #[.slice A1 E0.length c1, .slice A2 O0.length c2, .slice A3 N0.length c3] 25)).alloc (.cells #[.int .i64 fk, .int .i64 ff, .int .i64 ft, .int .i64 fs, .int .i64 fg, .int .i64 fq, .int .i64 fh, .bool fu, .string fd] 31)) := (alloc_below w (.cells #[.slice A1 E0.length c1, .slice A2 O0.length c2, .slice A3 N0.length c3] 25)).trans ((alloc_below (w.alloc (.cells #[.slice A1 E0.length c1, .slice A2 O0.length c2, .slice A3 N0.length c3] 25)) (.cells #[.int .i64 fk, .int .i64 ff, .int .i64 ft, .int .i64 fs, .int .i64 fg, .int .i64 fq, .int .i64 fh, .bool fu, .string fd] 31)).mono (by simp))
  have hz1 : w.heap.size + 2 ≤ ((w.alloc (.cells #[.slice A1 E0.length c1, .slice A2 O0.length c2, .slice A3 N0.length c3] 25)).alloc (.cells #[.int .i64 fk, .int .i64 ff, .int .i64 ft, .int .i64 fs, .int .i64 fg, .int .i64 fq, .int .i64 fh, .bool fu, .string fd] 31)).heap.size := by simp
  have X1 : ((w.alloc (.cells #[.slice A1 E0.length c1, .slice A2 O0.length c2, .slice A3 N0.length c3] 25)).alloc (.cells #[.int .i64 fk, .int .i64 ff, .int .i64 ft, .int .i64 fs, .int .i64 fg, .int .i64 fq, .int .i64 fh, .bool fu, .string fd] 31)).heap[w.heap.size]? = some (.cells #[.slice A1 E0.length c1, .slice A2 O0.length c2, .slice A3 N0.length c3] 25) := blk_alloc (blk_new w (.cells #[.slice A1 E0.length c1, .slice A2 O0.length c2, .slice A3 N0.length c3] 25)) (.cells #[.int .i64 fk, .int .i64 ff, .int .i64 ft, .int .i64 fs, .int .i64 fg, .int .i64 fq, .int .i64 fh, .bool fu, .string fd] 31)
  have R1 : ((w.alloc (.cells #[.slice A1 E0.length c1, .slice A2 O0.length c2, .slice A3 N0.length c3] 25)).alloc (.cells #[.int .i64 fk, .int .i64 ff, .int .i64 ft, .int .i64 fs, .int .i64 fg, .int .i64 fq, .int .i64 fh, .bool fu, .string fd] 31)).heap[w.heap.size + 1]? = some (.cells #[.int .i64 fk, .int .i64 ff, .int .i64 ft, .int .i64 fs, .int .i64 fg, .int .i64 fq, .int .i64 fh, .bool fu, .string fd] 31) := by have := blk_new (w.alloc (.cells #[.slice A1 E0.length c1, .slice A2 O0.length c2, .slice A3 N0.length c3] 25)) (.cells #[.int .i64 fk, .int .i64 ff, .int .i64 ft, .int .i64 fs, .int .i64 fg, .int .i64 fq, .int .i64 fh, .bool fu, .string fd] 31); simpa using this
  have HB1 := Lib.hid (HB.out _ b0)
  go_enter Try.func14, Try.ntmps14
  go_wp2_with fail
  refine (KS.out _ HB1.out).mono ?_
  rintro _ w2 ⟨rfl, hb⟩
  have X2 := blk_below X1 hb (by omega)
  have R2 := blk_below R1 hb (by omega)
  have B2 := b0.trans (hb.mono (by omega))
  have hz2 : w.heap.size + 2 ≤ w2.heap.size := Nat.le_trans hz1 hb.size
  obtain ⟨z0, z1, z2⟩ := air_block X2
  have fr := fun j => blk_fr X2 j
  have V1 := Lib.hid (put3_blk X2 (.slice D1 E.length e1) (.slice D2 O.length e2) (.slice D3 N.length e3))
  have V2 := Lib.hid (put3_below B2 (Nat.le_refl w.heap.size) (.slice D1 E.length e1) (.slice D2 O.length e2) (.slice D3 N.length e3))
  have V3 := Lib.hid (HS.out.next V2.out)
  have V4 := put3_size w2 w.heap.size (.slice D1 E.length e1) (.slice D2 O.length e2) (.slice D3 N.length e3)
  have VR := Lib.hid (put3_other R2 (by omega : w.heap.size + 1 ≠ w.heap.size) (.slice D1 E.length e1) (.slice D2 O.length e2) (.slice D3 N.length e3))
  obtain ⟨q0, q1, q2⟩ := air_block V1.out
  have fq := fun j => blk_fr V1.out j
  unfold put3 at q0 q1 q2 fq
  clear X1 X2 B2 hb hz1 KS HB HB1 b0 R1 R2
  dsimp only at KO K3 ⊢
  dsimp only [airV] at KH
  have f1 := blk_cell VR.out 1 (v := .int .i64 ff) rfl
  unfold put3 at f1
  go_wp2_with fail
  obtain ⟨V, hV⟩ : ∃ V, V = put3 w2 w.heap.size (.slice D1 E.length e1) (.slice D2 O.length e2) (.slice D3 N.length e3) := ⟨_, rfl⟩
  rw [← hV] at V1 V2 V3 V4 VR
  unfold put3 at hV
  rw [← hV]
  clear hV z0 z1 z2 fr q0 q1 q2 fq f1
  have hzV : w.heap.size + 2 ≤ V.heap.size := by rw [V4]; exact hz2
  by_cases hf : ff ∈ O
  · rw [dt hf] at KO
    have R := Lib.hid (DR.out.trans (if_pos hf))
    clear DR hf
    refine (KO.out _ V3.out.2.1.1).mono ?_
    rintro _ _ ⟨rfl, rfl⟩
    go_wp2_with fail
    go_ret2
    rw [R.out]
    exact ⟨none, 0, rfl, SlS.nil _, V2.out⟩
  rw [df hf] at KO
  replace DR := Lib.hid (DR.out.trans (if_neg hf))
  clear hf
  refine (KO.out _ V3.out.2.1.1).mono ?_
  rintro _ _ ⟨rfl, rfl⟩
  obtain ⟨q0, q1, q2⟩ := air_block V1.out
  have f1 := blk_cell VR.out 1 (v := .int .i64 ff) rfl
  go_wp2_with fail
  refine (KH.out _ V3.out).mono ?_
  rintro _ w3 ⟨A4, c4, rfl, hr, hb⟩
  have B3 := Lib.hid (V2.out.trans (hb.mono V2.out.size))
  have R4 := Lib.hid hr
  have Y1 := blk_below V1.out hb (by omega)
  have YR := blk_below VR.out hb (by omega)
  have Y3 := Lib.hid (V3.out.next hb)
  have hz3 : w.heap.size + 2 ≤ w3.heap.size := Nat.le_trans hzV hb.size
  obtain ⟨_, _, q2⟩ := air_block Y1
  have f1 := blk_cell YR 1 (v := .int .i64 ff) rfl
  have f2 := blk_cell YR 2 (v := .int .i64 ft) rfl
  have Y1 := Lib.hid Y1
  have YR := Lib.hid YR
  clear hb hr q0 q1 KO KH V1 V2 V3 VR V4 hz2 hzV HS
  by_cases h255 : ft = 255
  · have d1 : (ft == 255) = true := by simpa using h255
    have R := Lib.hid (DR.out.trans (if_pos h255))
    clear h255 DR
    go_wp2_with fail
    go_ret2
    rw [R.out]
    exact ⟨A4, c4, rfl, R4.out, B3.out⟩
  have d1 : (ft == 255) = false := by simpa using h255
  replace DR := Lib.hid (DR.out.trans (if_neg h255))
  clear h255
  have KC := Lib.hid (pcon_any A4 c4 H ft w3 (by omega) R4.out.1)
  by_cases hm : ft ∈ H
  rotate_left
  · rw [df hm] at KC
    have R := Lib.hid (DR.out.trans (if_neg hm))
    clear hm DR
    go_wp2_with fail
    refine KC.out.mono ?_
    rintro _ _ ⟨rfl, rfl⟩
    go_wp2_with fail
    go_ret2
    rw [R.out]
    exact ⟨none, 0, rfl, SlS.nil _, B3.out⟩
  have IT := Lib.hid (HN.out hm)
  rw [dt hm] at KC
  have R := Lib.hid (DR.out.trans (if_pos hm))
  clear hm DR
  go_wp2_with fail
  refine KC.out.mono ?_
  rintro _ _ ⟨rfl, rfl⟩
  clear KC
  go_wp2_with fail
  obtain ⟨W, hW⟩ : ∃ W, w3.drew = W := ⟨_, rfl⟩
  have bd := below_drewN (Below.refl w3.heap.size w3) 1
  rw [show w3.drewN 1 = W from hW] at bd
  have Z1 := Lib.hid (blk_below Y1.out bd (by omega))
  have ZR := Lib.hid (blk_below YR.out bd (by omega))
  have Z3 := Lib.hid (Y3.out.next bd)
  have B4 := Lib.hid (B3.out.trans (bd.mono B3.out.size))
  have hz4 : w.heap.size + 2 ≤ W.heap.size := Nat.le_trans hz3 bd.size
  clear Y1 YR Y3 B3 bd q2 f1 f2 R4
  have ba := Lib.hid (alloc_below W (.cells #[.int .i64 ft] 3))
  have SW := Lib.hid (show W.cell? ⟨w.heap.size, 2, none⟩ = some (.slice D3 N.length e3) ∧ W.cell? ⟨w.heap.size + 1, 1, none⟩ = some (.int .i64 ff) ∧ W.cell? ⟨w.heap.size + 1, 2, none⟩ = some (.int .i64 ft) from ⟨(air_block Z1.out).2.2, blk_cell ZR.out 1 rfl, blk_cell ZR.out 2 rfl⟩)
  have SA := Lib.hid (show (W.alloc (.cells #[.int .i64 ft] 3)).cell? ⟨w.heap.size, 2, none⟩ = some (.slice D3 N.length e3) ∧ (W.alloc (.cells #[.int .i64 ft] 3)).cell? ⟨w.heap.size + 1, 1, none⟩ = some (.int .i64 ff) ∧ (W.alloc (.cells #[.int .i64 ft] 3)).cell? ⟨w.heap.size + 1, 2, none⟩ = some (.int .i64 ft) from ⟨(air_block (blk_alloc Z1.out _)).2.2, blk_cell (blk_alloc ZR.out _) 1 rfl, blk_cell (blk_alloc ZR.out _) 2 rfl⟩)
  have FIN := Lib.hid (show SlS fI (W.alloc (.cells #[.int .i64 ft] 3)) (some ⟨W.heap.size, 0, none⟩) 1 [ft] from (own_slS (OwnF.lit (F := fI) (T := 3) W 0 [ft] #[.int .i64 ft] (Nat.zero_le _) (by unfold maxLen; simp) rfl (by intro q hq; rw [List.mem_singleton.1 hq]; exact IT.out))).2)
  have FB := Lib.hid (B4.out.trans (ba.out.mono B4.out.size))
  have K3A := Lib.hid (K3.out (W.alloc (.cells #[.int .i64 ft] 3)) (Z3.out.next ba.out).2.2.1)
  have K3W := Lib.hid (K3.out W Z3.out.2.2.1)
  generalize decide (ff ∈ N) = q9 at *
  clear K3 Z1 ZR Z3 B4 ba
  refine wp_region_held_drew (S := (fun wy : World => wy.cell? ⟨w.heap.size, 2, none⟩ = some (.slice D3 N.length e3) ∧ wy.cell? ⟨w.heap.size + 1, 1, none⟩ = some (.int .i64 ff) ∧ wy.cell? ⟨w.heap.size + 1, 2, none⟩ = some (.int .i64 ft))) (by kernel_rfl) (hW ▸ SW.out) (fun hHeld => ?_)
  rw [hW] at hHeld ⊢
  refine wpAnyH_take (i := 0) (v := (.pointer (some ⟨w.heap.size + 1, 2, none⟩))) at_zero (by kernel_rfl) (by kernel_rfl) (by kernel_rfl) (fun _ _ _ h => h) (Or.inl ⟨by kernel_rfl, fun wy hSw => ?_⟩) (by assumption) ?_
  · (try dsimp only at hSw); go_simp
  try simp only [Act.put, List.setIfInBounds_toArray, List.set_cons_zero, List.set_cons_succ]
  refine wpAnyH_take (i := 1) (v := (.int .i64 ft)) (at_succ at_zero) (by kernel_rfl) (by kernel_rfl) (by kernel_rfl) (fun _ _ _ h => h) (Or.inl ⟨by kernel_rfl, fun wy hSw => ?_⟩) (by assumption) ?_
  · obtain ⟨q0, q1, q2⟩ := hSw; go_simp
  try simp only [Act.put, List.setIfInBounds_toArray, List.set_cons_zero, List.set_cons_succ]
  refine wpAnyH_take (i := 3) (v := (.pointer (some ⟨w.heap.size, 2, none⟩))) (at_succ (at_succ (at_succ at_zero))) (by kernel_rfl) (by kernel_rfl) (by kernel_rfl) (fun _ _ _ h => h) (Or.inl ⟨by kernel_rfl, fun wy hSw => ?_⟩) (by assumption) ?_
  · (try dsimp only at hSw); go_simp
  try simp only [Act.put, List.setIfInBounds_toArray, List.set_cons_zero, List.set_cons_succ]
  refine wpAnyH_take (i := 4) (v := (.slice D3 N.length e3)) (at_succ (at_succ (at_succ (at_succ at_zero)))) (by kernel_rfl) (by kernel_rfl) (by kernel_rfl) (fun _ _ _ h => h) (Or.inl ⟨by kernel_rfl, fun wy hSw => ?_⟩) (by assumption) ?_
  · obtain ⟨q0, q1, q2⟩ := hSw; go_simp
  try simp only [Act.put, List.setIfInBounds_toArray, List.set_cons_zero, List.set_cons_succ]
  refine wpAnyH_take (i := 5) (v := (.pointer (some ⟨w.heap.size + 1, 1, none⟩))) (at_succ (at_succ (at_succ (at_succ (at_succ at_zero))))) (by kernel_rfl) (by kernel_rfl) (by kernel_rfl) (fun _ _ _ h => h) (Or.inl ⟨by kernel_rfl, fun wy hSw => ?_⟩) (by assumption) ?_
  · (try dsimp only at hSw); go_simp
  try simp only [Act.put, List.setIfInBounds_toArray, List.set_cons_zero, List.set_cons_succ]
  refine wpAnyH_take (i := 6) (v := (.int .i64 ff)) (at_succ (at_succ (at_succ (at_succ (at_succ (at_succ at_zero)))))) (by kernel_rfl) (by kernel_rfl) (by kernel_rfl) (fun _ _ _ h => h) (Or.inl ⟨by kernel_rfl, fun wy hSw => ?_⟩) (by assumption) ?_
  · obtain ⟨q0, q1, q2⟩ := hSw; go_simp
  try simp only [Act.put, List.setIfInBounds_toArray, List.set_cons_zero, List.set_cons_succ]
  refine wpAnyH_ready (rs := [2, 7]) (by kernel_rfl) (by simp) ?_
  refine AllReadyH.cons (at_succ (at_succ at_zero)) (fun K hK => ?_) (AllReadyH.cons (at_succ (at_succ (at_succ (at_succ (at_succ (at_succ (at_succ at_zero))))))) (fun K hK => ?_) AllReadyH.nil)
  · rw [if_pos (by kernel_rfl)]
    go_simp
    refine hK.out _ _ (SA.out) (fun hHeld => ?_)
    clear hK K
    try simp only [Act.put, List.setIfInBounds_toArray, List.set_cons_zero, List.set_cons_succ]
    refine wpAnyH_ready (rs := [7]) (by kernel_rfl) (by simp) ?_
    refine AllReadyH.cons (at_succ (at_succ (at_succ (at_succ (at_succ (at_succ (at_succ at_zero))))))) (fun K hK => ?_) AllReadyH.nil
    rw [if_pos (by kernel_rfl)]
    go_simp
    refine K3A.out.mono ?_
    rintro _ _ ⟨rfl, rfl⟩
    go_wp2_with fail
    refine hK.out _ _ (SA.out) (fun hHeld => ?_)
    clear hK K
    try simp only [Act.put, List.setIfInBounds_toArray, List.set_cons_zero, List.set_cons_succ]
    refine wpAnyH_take (i := 8) (v := (.bool (!q9))) (at_succ (at_succ (at_succ (at_succ (at_succ (at_succ (at_succ (at_succ at_zero)))))))) (by kernel_rfl) (by kernel_rfl) (by kernel_rfl) (fun _ _ _ h => h) (Or.inl ⟨by kernel_rfl, fun wy hSw => ?_⟩) (by assumption) ?_
    · (try dsimp only at hSw); go_simp
    try simp only [Act.put, List.setIfInBounds_toArray, List.set_cons_zero, List.set_cons_succ]
    refine wpAnyH_take (i := 9) (v := (.slice (some ⟨W.heap.size, 0, none⟩) 1 1)) (at_succ (at_succ (at_succ (at_succ (at_succ (at_succ (at_succ (at_succ (at_succ at_zero))))))))) (by kernel_rfl) (by kernel_rfl) (by kernel_rfl) (fun _ _ _ h => h) (Or.inl ⟨by kernel_rfl, fun wy hSw => ?_⟩) (by assumption) ?_
    · (try dsimp only at hSw); go_simp
    try simp only [Act.put, List.setIfInBounds_toArray, List.set_cons_zero, List.set_cons_succ]
    refine wpAnyH_take (i := 10) (v := (.bool (!q9))) (at_succ (at_succ (at_succ (at_succ (at_succ (at_succ (at_succ (at_succ (at_succ (at_succ at_zero)))))))))) (by kernel_rfl) (by kernel_rfl) (by kernel_rfl) (fun _ _ _ h => h) (Or.inl ⟨by kernel_rfl, fun wy hSw => ?_⟩) (by assumption) ?_
    · (try dsimp only at hSw); go_simp
    try simp only [Act.put, List.setIfInBounds_toArray, List.set_cons_zero, List.set_cons_succ]
    refine wpAnyH_done (by kernel_rfl) ?_ _
    go_wp2_with fail
    go_ret2
    rw [R.out]
    exact ⟨some ⟨W.heap.size, 0, none⟩, 1, rfl, FIN.out, FB.out⟩
  · rw [if_pos (by kernel_rfl)]
    go_simp
    refine K3W.out.mono ?_
    rintro _ _ ⟨rfl, rfl⟩
    go_wp2_with fail
    refine hK.out _ _ (SW.out) (fun hHeld => ?_)
    clear hK K
    try simp only [Act.put, List.setIfInBounds_toArray, List.set_cons_zero, List.set_cons_succ]
    refine wpAnyH_take (i := 8) (v := (.bool (!q9))) (at_succ (at_succ (at_succ (at_succ (at_succ (at_succ (at_succ (at_succ at_zero)))))))) (by kernel_rfl) (by kernel_rfl) (by kernel_rfl) (fun _ _ _ h => h) (Or.inl ⟨by kernel_rfl, fun wy hSw => ?_⟩) (by assumption) ?_
    · (try dsimp only at hSw); go_simp
    try simp only [Act.put, List.setIfInBounds_toArray, List.set_cons_zero, List.set_cons_succ]
    refine wpAnyH_ready (rs := [2]) (by kernel_rfl) (by simp) ?_
    refine AllReadyH.cons (at_succ (at_succ at_zero)) (fun K hK => ?_) AllReadyH.nil
    rw [if_pos (by kernel_rfl)]
    go_simp
    refine hK.out _ _ (SA.out) (fun hHeld => ?_)
    clear hK K
    try simp only [Act.put, List.setIfInBounds_toArray, List.set_cons_zero, List.set_cons_succ]
    refine wpAnyH_take (i := 9) (v := (.slice (some ⟨W.heap.size, 0, none⟩) 1 1)) (at_succ (at_succ (at_succ (at_succ (at_succ (at_succ (at_succ (at_succ (at_succ at_zero))))))))) (by kernel_rfl) (by kernel_rfl) (by kernel_rfl) (fun _ _ _ h => h) (Or.inl ⟨by kernel_rfl, fun wy hSw => ?_⟩) (by assumption) ?_
    · (try dsimp only at hSw); go_simp
    try simp only [Act.put, List.setIfInBounds_toArray, List.set_cons_zero, List.set_cons_succ]
    refine wpAnyH_take (i := 10) (v := (.bool (!q9))) (at_succ (at_succ (at_succ (at_succ (at_succ (at_succ (at_succ (at_succ (at_succ (at_succ at_zero)))))))))) (by kernel_rfl) (by kernel_rfl) (by kernel_rfl) (fun _ _ _ h => h) (Or.inl ⟨by kernel_rfl, fun wy hSw => ?_⟩) (by assumption) ?_
    · (try dsimp only at hSw); go_simp
    try simp only [Act.put, List.setIfInBounds_toArray, List.set_cons_zero, List.set_cons_succ]
    refine wpAnyH_done (by kernel_rfl) ?_ _
    go_wp2_with fail
    go_ret2
    rw [R.out]
    exact ⟨some ⟨W.heap.size, 0, none⟩, 1, rfl, FIN.out, FB.out⟩
set_option maxRecDepth 100000 in
set_option maxHeartbeats 4000000 in
theorem pjam_any (x : Hd) (a : Ar) (A9 : Option Addr) (c9 : Nat) (L : List Int) (w : World) (hl : Fit a) (h : AirS w x a) (hl9 : L.length ≤ 100000) (hA9 : FlAt fI w w.heap.size A9 L) :
    Calls Try.prog 20 #[airV x a, .slice A9 L.length c9] w (AirR w (jam a L)) := by
  rw [show jam a L = { sane a with n := nsy (sane a) L } from rfl]
  have H9 := Lib.hid hA9
  clear hA9
  have KC := Lib.hid (fun w (h : AirS w x a) => pclear_own x a w hl h)
  unfold ClrQ at KC
  rw [show clr a = { sane a with n := [] } from rfl] at KC
  simp only at KC
  have KS := Lib.hid (fun w (h : AirS w x a) => psane_any x a w hl h)
  unfold SaneR at KS
  have FS := sane_fit hl
  have HS := Lib.hid h.sane
  have HB := Lib.hid (fun w' (hb : Below w.heap.size w w') => h.next hb)
  clear h hl
  generalize saneH x a = y at *
  generalize sane a = s at *
  obtain ⟨A1, c1, A2, c2, A3, c3⟩ := x
  obtain ⟨E0, O0, N0⟩ := a
  obtain ⟨D1, e1, D2, e2, D3, e3⟩ := y
  obtain ⟨E, O, N⟩ := s
  obtain ⟨l1, l2, l3⟩ := FS
  simp only at l1 l2 l3 KC
  dsimp only [airV] at KS KC ⊢
  have b0 : Below w.heap.size w ((w.alloc (.cells #[.slice A1 E0.length c1, .slice A2 O0.length c2, .slice A3 N0.length c3] 25)).alloc (.cells #[.slice none 0 0, .slice none 0 0, .slice none 0 0] 25)) := (alloc_below w (.cells #[.slice A1 E0.length c1, .slice A2 O0.length c2, .slice A3 N0.length c3] 25)).trans ((alloc_below (w.alloc (.cells #[.slice A1 E0.length c1, .slice A2 O0.length c2, .slice A3 N0.length c3] 25)) (.cells #[.slice none 0 0, .slice none 0 0, .slice none 0 0] 25)).mono (by simp))
  have hz1 : w.heap.size + 2 ≤ ((w.alloc (.cells #[.slice A1 E0.length c1, .slice A2 O0.length c2, .slice A3 N0.length c3] 25)).alloc (.cells #[.slice none 0 0, .slice none 0 0, .slice none 0 0] 25)).heap.size := by simp
  have X1 : ((w.alloc (.cells #[.slice A1 E0.length c1, .slice A2 O0.length c2, .slice A3 N0.length c3] 25)).alloc (.cells #[.slice none 0 0, .slice none 0 0, .slice none 0 0] 25)).heap[w.heap.size]? = some (.cells #[.slice A1 E0.length c1, .slice A2 O0.length c2, .slice A3 N0.length c3] 25) := blk_alloc (blk_new w (.cells #[.slice A1 E0.length c1, .slice A2 O0.length c2, .slice A3 N0.length c3] 25)) (.cells #[.slice none 0 0, .slice none 0 0, .slice none 0 0] 25)
  have R1 : ((w.alloc (.cells #[.slice A1 E0.length c1, .slice A2 O0.length c2, .slice A3 N0.length c3] 25)).alloc (.cells #[.slice none 0 0, .slice none 0 0, .slice none 0 0] 25)).heap[w.heap.size + 1]? = some (.cells #[.slice none 0 0, .slice none 0 0, .slice none 0 0] 25) := by have := blk_new (w.alloc (.cells #[.slice A1 E0.length c1, .slice A2 O0.length c2, .slice A3 N0.length c3] 25)) (.cells #[.slice none 0 0, .slice none 0 0, .slice none 0 0] 25); simpa using this
  have HB1 := Lib.hid (HB.out _ b0)
  go_enter Try.func20, Try.ntmps20
  go_wp2_with fail
  refine (KS.out _ HB1.out).mono ?_
  rintro _ w2 ⟨rfl, hb⟩
  have B2 := b0.trans (hb.mono (by omega))
  have hz2 : w.heap.size + 2 ≤ w2.heap.size := Nat.le_trans hz1 hb.size
  have b3 := alloc_below w2 (.cells #[.slice D3 N.length e3, .slice A9 L.length c9] 23)
  have X2 := Lib.hid (blk_alloc (blk_below X1 hb (by omega)) (.cells #[.slice D3 N.length e3, .slice A9 L.length c9] 23))
  have R2 := Lib.hid (blk_alloc (blk_below R1 hb (by omega)) (.cells #[.slice D3 N.length e3, .slice A9 L.length c9] 23))
  have B3 := Lib.hid (B2.trans (b3.mono B2.size))
  have KJ := Lib.hid (pjoin_any w2.heap.size 23 D3 e3 N A9 c9 L _ (blk_new w2 (.cells #[.slice D3 N.length e3, .slice A9 L.length c9] 23)) l3 hl9 (HS.out.next B3.out).2.2.1 (H9.out.next B3.out))
  have NS := Lib.hid (show nsy ⟨E, O, N⟩ L = (sel fun v => v ∈ N ∨ v ∈ L).take 24 from rfl)
  have SL := Tpo.sel_len (fun v => v ∈ N ∨ v ∈ L)
  unfold OutN at KJ
  have hz3 : w.heap.size + 2 ≤ (w2.alloc (.cells #[.slice D3 N.length e3, .slice A9 L.length c9] 23)).heap.size := by have := b3.size; omega
  have HZ3 := Lib.hid hz3
  generalize nsy ⟨E, O, N⟩ L = Q at *
  generalize (sel fun v => v ∈ N ∨ v ∈ L) = D at *
  have hfd : ∀ W : World, (Instr.field 25 (.agg #[.slice D1 E.length e1, .slice D2 O.length e2, .slice D3 N.length e3]) 2).run Try.prog W = .ok (.slice D3 N.length e3) W := fun W => by simp [Instr.field, asAgg, go_sem]
  clear X1 R1 hb b0 hz1 KS HB1 b3 B2 HS H9 hz3
  go_wp2_with fail
  refine KJ.out.mono ?_
  rintro _ w3 ⟨v3, rfl, ho, hb⟩
  obtain ⟨A5, c5, rfl, _⟩ := ho.form
  have hz4 : w.heap.size + 2 ≤ w3.heap.size := Nat.le_trans HZ3.out hb.size
  have X3 := blk_below X2.out hb (by have := HZ3.out; omega)
  obtain ⟨g0, g1, g2⟩ := air_block X3
  have R3 := Lib.hid (blk_below R2.out hb (by have := HZ3.out; omega))
  have B4 := Lib.hid (B3.out.trans (hb.mono B3.out.size))
  have O4 := Lib.hid (ho.down HZ3.out)
  have HA := Lib.hid (HB.out _ B4.out)
  clear KJ X2 R2 B3 HZ3 HB hb ho X3
  go_wp2_with fail
  refine (KC.out _ HA.out).mono ?_
  rintro _ w4 ⟨A6, c6, A7, c7, rfl, _, h1, h2, hb⟩
  obtain ⟨k, hk⟩ : ∃ k, k = Q.length := ⟨_, rfl⟩
  have hk2 : k ≤ D.length := by rw [hk, NS.out, List.length_take]; omega
  have hm : min (D.length : Int) 24 = (k : Int) := by rw [hk, NS.out, List.length_take]; omega
  have hzw : w.heap.size + 2 ≤ w4.heap.size := Nat.le_trans hz4 hb.size
  have P1 := Lib.hid (h1.down hz4)
  have P2 := Lib.hid (h2.down hz4)
  have P3 := O4.out.below hb
  obtain ⟨A8, s1, P4⟩ := sl_to (own_slS P3).2 utI szI k hk2
  have ek : D.take k = Q := by
    rw [NS.out, hk, NS.out, List.length_take]
    by_cases q : 24 ≤ D.length
    · rw [Nat.min_eq_left q]
    · rw [Nat.min_eq_right (by omega), List.take_of_length_le (Nat.le_refl _), List.take_of_length_le (by omega)]
  have P5 := Lib.hid P3
  have B5 := B4.out.trans (hb.mono B4.out.size)
  have R5 := blk_below R3.out hb (by omega)
  have R6 := blk_alloc R5 (.cells #[.slice A6 E.length c6, .slice A7 O.length c7, .slice A8 k c5] 25)
  have B6 := B5.trans ((alloc_below w4 (.cells #[.slice A6 E.length c6, .slice A7 O.length c7, .slice A8 k c5] 25)).mono B5.size)
  obtain ⟨z0, z1, z2⟩ := air_block R6
  have fr := fun j => blk_fr R6 j
  have V1 := Lib.hid (put3_blk R6 (.slice A6 E.length c6) (.slice A7 O.length c7) (.slice A8 k c5))
  have V2 := Lib.hid (put3_below B6 (Nat.le_succ w.heap.size) (.slice A6 E.length c6) (.slice A7 O.length c7) (.slice A8 k c5))
  have PD := own_put3 (P5.out.alloc (.cells #[.slice A6 E.length c6, .slice A7 O.length c7, .slice A8 k c5] 25)) (by omega : w.heap.size + 1 < w.heap.size + 2) (.slice A6 E.length c6) (.slice A7 O.length c7) (.slice A8 k c5)
  have V3 := Lib.hid (own_slS (own_put3 (P1.out.alloc (.cells #[.slice A6 E.length c6, .slice A7 O.length c7, .slice A8 k c5] 25)) (by omega : w.heap.size + 1 < w.heap.size + 2) (.slice A6 E.length c6) (.slice A7 O.length c7) (.slice A8 k c5))).2
  have V4 := Lib.hid (own_slS (own_put3 (P2.out.alloc (.cells #[.slice A6 E.length c6, .slice A7 O.length c7, .slice A8 k c5] 25)) (by omega : w.heap.size + 1 < w.heap.size + 2) (.slice A6 E.length c6) (.slice A7 O.length c7) (.slice A8 k c5))).2
  obtain ⟨A8', s2, P6⟩ := sl_to (own_slS PD).2 utI szI k hk2
  have e8 := (s1 w).symm.trans (s2 w)
  simp only [Result.ok.injEq, Value.slice.injEq, and_true] at e8
  subst e8
  have ek : D.take k = Q := by
    rw [NS.out, hk, NS.out, List.length_take]
    by_cases q : 24 ≤ D.length
    · rw [Nat.min_eq_left q]
    · rw [Nat.min_eq_right (by omega), List.take_of_length_le (Nat.le_refl _), List.take_of_length_le (by omega)]
  rw [ek] at P6
  have V5 := Lib.hid P6
  have HK := Lib.hid hk
  clear KC HA h1 h2 hb P3 P4 g0 g1 g2 R3 B4 O4 ek hk s2 PD P6 P1 P2 P5 R5 R6 B5 B6 NS
  go_wp2_with fail
  clear z0 z1 z2 fr
  obtain ⟨V, hV⟩ : ∃ V, V = put3 (w4.alloc (.cells #[.slice A6 E.length c6, .slice A7 O.length c7, .slice A8 k c5] 25)) (w.heap.size + 1) (.slice A6 E.length c6) (.slice A7 O.length c7) (.slice A8 k c5) := ⟨_, rfl⟩
  rw [← hV] at V1 V2 V3 V4 V5
  obtain ⟨r0, r1, r2⟩ := air_block V1.out
  unfold put3 at hV
  rw [← hV]
  clear hV
  have hk := HK.out
  subst hk
  exact bodyPost_ret (v := airV ⟨A6, c6, A7, c7, A8, c5⟩ ⟨E, O, Q⟩) (by simp [results, Try.results20, go_sem, r0, r1, r2]) rfl ⟨⟨A6, c6, A7, c7, A8, c5⟩, rfl, ⟨V3.out, V4.out, V5.out⟩, V2.out⟩
end Go.Proofs.Ytcnmknhjmflinaa.Rdo
