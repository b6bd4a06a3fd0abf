/- The reference: apply. -/
import Derived.Test.YtcfnkfkdhcejeaaRP
set_option linter.unusedVariables false
namespace Go.Proofs.Ytcfnkfkdhcejeaa.Rte
open Go.RowKit

theorem fnd_pos {t : List Rt} (hs : Srt t) (d : Int) : (fnd t d = -1 ∧ get t d = none ∧ has d t = false) ∨ ∃ k, ∃ hk : k < t.length, fnd t d = k ∧ get t d = some t[k] ∧ has d t = true ∧ pos d t = k := by
  have hg := get_fnd d t hs
  rcases fnd_is t d with ⟨h1, h2⟩ | ⟨k, hk, h1, h2⟩
  · rw [h2] at hg; exact Or.inl ⟨h1, h2, hg.symm⟩
  · rw [h2] at hg
    have hd := (get_mem h2).2
    refine Or.inr ⟨k, hk, h1, h2, hg.symm, (pos_of2 d t k (Nat.le_of_lt hk) (fun p hp hpk => ?_) (fun _ => by omega)).symm⟩
    have := List.pairwise_iff_getElem.1 hs p k hp hk hpk
    omega
/-- What apply does, by where the route stands. -/
theorem apl_none {t : List Rt} {x : Rt} {frm cost : Int} (hg : get t x.1 = none) (hh : has x.1 t = false) : apl frm cost t x =
    if (Fin1 x ∧ cost + x.2.2.1 ≤ 200) ∧ t.length < 24 then t.take (pos x.1 t) ++ [(x.1, x.2.1, cost + x.2.2.1, frm)] ++ t.drop (pos x.1 t) else t := by
  unfold apl
  rw [hg]
  by_cases h : Fin1 x ∧ cost + x.2.2.1 ≤ 200
  · rw [if_pos h]
    dsimp only
    by_cases h2 : t.length < 24
    · rw [if_pos h2, if_pos ⟨h, h2⟩, ins_at (e := (x.1, x.2.1, cost + x.2.2.1, frm)) hh]
    · rw [if_neg h2, if_neg (fun h3 => h2 h3.2)]
  · rw [if_neg h, if_neg (fun h3 => h h3.1)]
theorem apl_some {t : List Rt} {x : Rt} {frm cost : Int} {k : Nat} (hk : k < t.length) (hg : get t x.1 = some t[k]) (hh : has x.1 t = true) (hp : pos x.1 t = k) : apl frm cost t x =
    if Fin1 x ∧ cost + x.2.2.1 ≤ 200 then (if Btr (x.1, x.2.1, cost + x.2.2.1, frm) t[k] then t.set k (x.1, x.2.1, cost + x.2.2.1, frm) else t)
    else (if t[k].2.2.2 = frm ∧ t[k].2.1 < x.2.1 then t.set k (x.1, x.2.1, 255, 255) else t) := by
  have hpl : pos x.1 t < t.length := by omega
  have e1 : ∀ y : Rt, y.1 = x.1 → ins y t = t.set k y := fun y hy => by rw [← hp, ← hy]; exact ins_set (by rw [hy]; exact hh) (by rw [hy]; exact hpl)
  unfold apl
  rw [hg]
  dsimp only
  rw [e1 (x.1, x.2.1, cost + x.2.2.1, frm) rfl, e1 (x.1, x.2.1, 255, 255) rfl]
theorem i64_rt {x : Rt} (h1 : I64 x.1) (h2 : I64 x.2.1) (h3 : I64 x.2.2.1) (h4 : I64 x.2.2.2) : fR.ok x := ⟨h1, h2, h3, h4⟩

section
variable (B : Nat) (v : Value) (t : List Rt) (x : Rt) (frm cost : Int) (w : World) (hB : B ≤ w.heap.size) (hO : OwnR w B v t) (hl : t.length ≤ 1000) (hx : Us1 x) (hf : 0 ≤ frm ∧ frm ≤ 250) (hc : 1 ≤ cost ∧ cost ≤ 200)
include hB hO hl hx hf hc

set_option maxRecDepth 100000 in
set_option maxHeartbeats 4000000 in
theorem rapply_1 (hg : get t x.1 = none) (hh : has x.1 t = false) (hfd : fnd t x.1 = -1) (hfin : Fin1 x ∧ cost + x.2.2.1 ≤ 200) (h24 : t.length < 24) : Calls Try.prog 46 #[v, .int .i64 frm, .int .i64 cost, rtV x] w (OutR B w (apl frm cost t x)) := by
  obtain ⟨A, c, hv, hA, hcl, hcn⟩ := hO.read
  have hcost := us_cost hx
  have HX := Lib.hid hx
  have hd := hx.1
  obtain ⟨x0, x1, x2, x3⟩ := x
  simp only at hcost hd
  have KF := Lib.hid (show Calls Try.prog 40 #[.slice A t.length c, .int .i64 x0] (w.alloc (bxR x0 x1 x2 x3)) (fun e w' => e = .returned (.int .i64 (fnd t x0)) ∧ (w.alloc (bxR x0 x1 x2 x3)) = w') from rfind_any A c t x0 _ (by omega) (hA.next (alloc_below w _)))
  have KN := Lib.hid (fun w => (show Calls Try.prog 39 #[.agg #[.int .i64 x0, .int .i64 x1, .int .i64 x2, .int .i64 x3]] w (OutV w (.bool (decide (Fin1 (x0, x1, x2, x3))))) from (rfinite_any (x0, x1, x2, x3) w).mono fun _ _ h => outG_V h))
  unfold OutV at KN
  have z1 : IntKind.i64.wrap (x2 + cost) = cost + x2 := by rw [IntKind.wrap_i64]; omega
  have hO := hO
  have HBa := Lib.hid (show Below B w (w.alloc (bxR x0 x1 x2 x3)) from (Below.refl B w).alloc hB _)
  subst hv
  have O := Lib.hid (hO.alloc (bxR x0 x1 x2 x3))
  have HY := Lib.hid (show fR.ok (x0, x1, cost + x2, frm) from ⟨by unfold I64; (try dsimp only); omega, by unfold I64; (try dsimp only); omega, by unfold I64; (try dsimp only); omega, by unfold I64; (try dsimp only); omega⟩)
  have HZ := Lib.hid (show fR.ok (x0, x1, 255, 255) from ⟨by unfold I64; (try dsimp only); omega, by unfold I64; (try dsimp only); omega, by unfold I64; (try dsimp only); omega, by unfold I64; (try dsimp only); omega⟩)
  simp only at hg hh hfd hfin
  have R := Lib.hid (show apl frm cost t (x0, x1, x2, x3) = t.take (pos x0 t) ++ [(x0, x1, cost + x2, frm)] ++ t.drop (pos x0 t) from (apl_none hg hh).trans (if_pos ⟨hfin, h24⟩))
  rw [hfd] at KF
  rw [dt hfin.1] at KN
  have d1 := dt hfin.2
  have KA := Lib.hid (fun wz (hA : RtAt wz wz.heap.size A t) => (show Calls Try.prog 56 #[.slice A t.length c, .agg #[.int .i64 x0, .int .i64 x1, .int .i64 (cost + x2), .int .i64 frm]] wz (OutT wz (t.take (pos x0 t) ++ [(x0, x1, cost + x2, frm)] ++ t.drop (pos x0 t))) from radd_any A c t (x0, x1, cost + x2, frm) wz hl hcl hA HY.out))
  rw [← R.out] at KA
  have HA := Lib.hid (hA.next (alloc_below w (bxR x0 x1 x2 x3)))
  clear hg hh hfd hfin R hx hd hcost hA hO HZ HX hcl hcn hf hc
  generalize apl frm cost t (x0, x1, x2, x3) = F at *
  go_enter Try.func46, Try.ntmps46
  go_wp2_with fail
  refine KF.out.mono ?_
  rintro _ w1 ⟨rfl, rfl⟩
  go_wp2_with fail
  refine (KN.out _).mono ?_
  rintro _ w2 ⟨rfl, hb⟩
  have B2 := Lib.hid (HBa.out.trans (hb.mono (Nat.le_trans hB (by simp))))
  have O2 := Lib.hid (O.out.below hb)
  have hz2 : B ≤ w2.heap.size := Nat.le_trans hB B2.out.size
  obtain ⟨c0, c1, c2, c3⟩ := box4 hb
  have HA2 := Lib.hid (HA.out.next hb)
  clear hb KF KN HA
  go_wp2_with fail
  refine (KA.out _ (HA2.out.next (alloc_below _ _))).mono ?_
  rintro _ w4 ⟨v4, rfl, ho, hb⟩
  have FIN := Lib.hid (show OwnR w4 B v4 F from ho.down (Nat.le_trans hz2 (by simp)))
  have B4 := Lib.hid ((B2.out.alloc hz2 (bxR x0 x1 (cost + x2) frm)).trans (hb.mono (Nat.le_trans hz2 (by simp))))
  clear ho hb c0 c1 c2 c3
  go_wp2_with fail
  go_ret
  exact ⟨_, rfl, FIN.out, B4.out⟩

set_option maxRecDepth 100000 in
set_option maxHeartbeats 4000000 in
theorem rapply_2 (hg : get t x.1 = none) (hh : has x.1 t = false) (hfd : fnd t x.1 = -1) (hfin : Fin1 x ∧ cost + x.2.2.1 ≤ 200) (h24 : ¬ t.length < 24) : Calls Try.prog 46 #[v, .int .i64 frm, .int .i64 cost, rtV x] w (OutR B w (apl frm cost t x)) := by
  obtain ⟨A, c, hv, hA, hcl, hcn⟩ := hO.read
  have hcost := us_cost hx
  have HX := Lib.hid hx
  have hd := hx.1
  obtain ⟨x0, x1, x2, x3⟩ := x
  simp only at hcost hd
  have KF := Lib.hid (show Calls Try.prog 40 #[.slice A t.length c, .int .i64 x0] (w.alloc (bxR x0 x1 x2 x3)) (fun e w' => e = .returned (.int .i64 (fnd t x0)) ∧ (w.alloc (bxR x0 x1 x2 x3)) = w') from rfind_any A c t x0 _ (by omega) (hA.next (alloc_below w _)))
  have KN := Lib.hid (fun w => (show Calls Try.prog 39 #[.agg #[.int .i64 x0, .int .i64 x1, .int .i64 x2, .int .i64 x3]] w (OutV w (.bool (decide (Fin1 (x0, x1, x2, x3))))) from (rfinite_any (x0, x1, x2, x3) w).mono fun _ _ h => outG_V h))
  unfold OutV at KN
  have z1 : IntKind.i64.wrap (x2 + cost) = cost + x2 := by rw [IntKind.wrap_i64]; omega
  have hO := hO
  have HBa := Lib.hid (show Below B w (w.alloc (bxR x0 x1 x2 x3)) from (Below.refl B w).alloc hB _)
  subst hv
  have O := Lib.hid (hO.alloc (bxR x0 x1 x2 x3))
  have HY := Lib.hid (show fR.ok (x0, x1, cost + x2, frm) from ⟨by unfold I64; (try dsimp only); omega, by unfold I64; (try dsimp only); omega, by unfold I64; (try dsimp only); omega, by unfold I64; (try dsimp only); omega⟩)
  have HZ := Lib.hid (show fR.ok (x0, x1, 255, 255) from ⟨by unfold I64; (try dsimp only); omega, by unfold I64; (try dsimp only); omega, by unfold I64; (try dsimp only); omega, by unfold I64; (try dsimp only); omega⟩)
  simp only at hg hh hfd hfin
  have R := Lib.hid (show apl frm cost t (x0, x1, x2, x3) = t from (apl_none hg hh).trans (if_neg fun h => h24 h.2))
  rw [hfd] at KF
  rw [dt hfin.1] at KN
  have d1 := dt hfin.2
  have d2 := df (show ¬ (t.length : Int) < 24 by omega)
  clear hg hh hfd hfin hx hd hcost hA hO HZ HX hcl hcn hf hc
  go_enter Try.func46, Try.ntmps46
  go_wp2_with fail
  refine KF.out.mono ?_
  rintro _ w1 ⟨rfl, rfl⟩
  go_wp2_with fail
  refine (KN.out _).mono ?_
  rintro _ w2 ⟨rfl, hb⟩
  have B2 := Lib.hid (HBa.out.trans (hb.mono (Nat.le_trans hB (by simp))))
  have O2 := Lib.hid (O.out.below hb)
  have hz2 : B ≤ w2.heap.size := Nat.le_trans hB B2.out.size
  obtain ⟨c0, c1, c2, c3⟩ := box4 hb
  clear hb KF KN
  go_wp2_with fail
  go_quiet (fail)
  go_wp2_with fail
  go_ret
  exact ⟨_, rfl, by rw [R.out]; exact (O2.out.alloc _).drew _, below_drewN (B2.out.alloc hz2 _) _⟩

set_option maxRecDepth 100000 in
set_option maxHeartbeats 4000000 in
theorem rapply_3a (hg : get t x.1 = none) (hh : has x.1 t = false) (hfd : fnd t x.1 = -1) (hfin : ¬ Fin1 x) : Calls Try.prog 46 #[v, .int .i64 frm, .int .i64 cost, rtV x] w (OutR B w (apl frm cost t x)) := by
  obtain ⟨A, c, hv, hA, hcl, hcn⟩ := hO.read
  have hcost := us_cost hx
  have HX := Lib.hid hx
  have hd := hx.1
  obtain ⟨x0, x1, x2, x3⟩ := x
  simp only at hcost hd
  have KF := Lib.hid (show Calls Try.prog 40 #[.slice A t.length c, .int .i64 x0] (w.alloc (bxR x0 x1 x2 x3)) (fun e w' => e = .returned (.int .i64 (fnd t x0)) ∧ (w.alloc (bxR x0 x1 x2 x3)) = w') from rfind_any A c t x0 _ (by omega) (hA.next (alloc_below w _)))
  have KN := Lib.hid (fun w => (show Calls Try.prog 39 #[.agg #[.int .i64 x0, .int .i64 x1, .int .i64 x2, .int .i64 x3]] w (OutV w (.bool (decide (Fin1 (x0, x1, x2, x3))))) from (rfinite_any (x0, x1, x2, x3) w).mono fun _ _ h => outG_V h))
  unfold OutV at KN
  have z1 : IntKind.i64.wrap (x2 + cost) = cost + x2 := by rw [IntKind.wrap_i64]; omega
  have hO := hO
  have HBa := Lib.hid (show Below B w (w.alloc (bxR x0 x1 x2 x3)) from (Below.refl B w).alloc hB _)
  subst hv
  have O := Lib.hid (hO.alloc (bxR x0 x1 x2 x3))
  have HY := Lib.hid (show fR.ok (x0, x1, cost + x2, frm) from ⟨by unfold I64; (try dsimp only); omega, by unfold I64; (try dsimp only); omega, by unfold I64; (try dsimp only); omega, by unfold I64; (try dsimp only); omega⟩)
  have HZ := Lib.hid (show fR.ok (x0, x1, 255, 255) from ⟨by unfold I64; (try dsimp only); omega, by unfold I64; (try dsimp only); omega, by unfold I64; (try dsimp only); omega, by unfold I64; (try dsimp only); omega⟩)
  simp only at hg hh hfd hfin 
  have NF : ¬ (Fin1 (x0, x1, x2, x3) ∧ cost + x2 ≤ 200) := fun h => hfin h.1
  have R := Lib.hid (show apl frm cost t (x0, x1, x2, x3) = t from (apl_none hg hh).trans (if_neg fun h => NF h.1))
  rw [hfd] at KF
  rw [df hfin] at KN
  clear hg hh hfd hfin NF hx hd hcost hA hO HZ HX hcl hcn hf hc
  go_enter Try.func46, Try.ntmps46
  go_wp2_with fail
  refine KF.out.mono ?_
  rintro _ w1 ⟨rfl, rfl⟩
  go_wp2_with fail
  refine (KN.out _).mono ?_
  rintro _ w2 ⟨rfl, hb⟩
  have B2 := Lib.hid (HBa.out.trans (hb.mono (Nat.le_trans hB (by simp))))
  have O2 := Lib.hid (O.out.below hb)
  have hz2 : B ≤ w2.heap.size := Nat.le_trans hB B2.out.size
  obtain ⟨c0, c1, c2, c3⟩ := box4 hb
  clear hb KF KN
  go_wp2_with fail
  go_quiet (fail)
  go_wp2_with fail
  go_ret
  exact ⟨_, rfl, by rw [R.out]; exact O2.out.drew _, below_drewN B2.out _⟩

set_option maxRecDepth 100000 in
set_option maxHeartbeats 4000000 in
theorem rapply_3b (hg : get t x.1 = none) (hh : has x.1 t = false) (hfd : fnd t x.1 = -1) (hfin : Fin1 x) (hfar : ¬ cost + x.2.2.1 ≤ 200) : Calls Try.prog 46 #[v, .int .i64 frm, .int .i64 cost, rtV x] w (OutR B w (apl frm cost t x)) := by
  obtain ⟨A, c, hv, hA, hcl, hcn⟩ := hO.read
  have hcost := us_cost hx
  have HX := Lib.hid hx
  have hd := hx.1
  obtain ⟨x0, x1, x2, x3⟩ := x
  simp only at hcost hd
  have KF := Lib.hid (show Calls Try.prog 40 #[.slice A t.length c, .int .i64 x0] (w.alloc (bxR x0 x1 x2 x3)) (fun e w' => e = .returned (.int .i64 (fnd t x0)) ∧ (w.alloc (bxR x0 x1 x2 x3)) = w') from rfind_any A c t x0 _ (by omega) (hA.next (alloc_below w _)))
  have KN := Lib.hid (fun w => (show Calls Try.prog 39 #[.agg #[.int .i64 x0, .int .i64 x1, .int .i64 x2, .int .i64 x3]] w (OutV w (.bool (decide (Fin1 (x0, x1, x2, x3))))) from (rfinite_any (x0, x1, x2, x3) w).mono fun _ _ h => outG_V h))
  unfold OutV at KN
  have z1 : IntKind.i64.wrap (x2 + cost) = cost + x2 := by rw [IntKind.wrap_i64]; omega
  have hO := hO
  have HBa := Lib.hid (show Below B w (w.alloc (bxR x0 x1 x2 x3)) from (Below.refl B w).alloc hB _)
  subst hv
  have O := Lib.hid (hO.alloc (bxR x0 x1 x2 x3))
  have HY := Lib.hid (show fR.ok (x0, x1, cost + x2, frm) from ⟨by unfold I64; (try dsimp only); omega, by unfold I64; (try dsimp only); omega, by unfold I64; (try dsimp only); omega, by unfold I64; (try dsimp only); omega⟩)
  have HZ := Lib.hid (show fR.ok (x0, x1, 255, 255) from ⟨by unfold I64; (try dsimp only); omega, by unfold I64; (try dsimp only); omega, by unfold I64; (try dsimp only); omega, by unfold I64; (try dsimp only); omega⟩)
  simp only at hg hh hfd hfin hfar 
  have NF : ¬ (Fin1 (x0, x1, x2, x3) ∧ cost + x2 ≤ 200) := fun h => hfar h.2
  have R := Lib.hid (show apl frm cost t (x0, x1, x2, x3) = t from (apl_none hg hh).trans (if_neg fun h => NF h.1))
  rw [hfd] at KF
  rw [dt hfin] at KN
  have d1 := df hfar
  clear hg hh hfd hfin NF hx hd hcost hA hO HZ HX hcl hcn hf hc
  go_enter Try.func46, Try.ntmps46
  go_wp2_with fail
  refine KF.out.mono ?_
  rintro _ w1 ⟨rfl, rfl⟩
  go_wp2_with fail
  refine (KN.out _).mono ?_
  rintro _ w2 ⟨rfl, hb⟩
  have B2 := Lib.hid (HBa.out.trans (hb.mono (Nat.le_trans hB (by simp))))
  have O2 := Lib.hid (O.out.below hb)
  have hz2 : B ≤ w2.heap.size := Nat.le_trans hB B2.out.size
  obtain ⟨c0, c1, c2, c3⟩ := box4 hb
  clear hb KF KN
  go_wp2_with fail
  go_quiet (fail)
  go_wp2_with fail
  go_ret
  exact ⟨_, rfl, by rw [R.out]; exact O2.out.drew _, below_drewN B2.out _⟩

set_option maxRecDepth 100000 in
set_option maxHeartbeats 4000000 in
theorem rapply_4 (k : Nat) (hk : k < t.length) (hg : get t x.1 = some t[k]) (hh : has x.1 t = true) (hp : pos x.1 t = k) (hfd : fnd t x.1 = (k : Int)) (hfin : Fin1 x ∧ cost + x.2.2.1 ≤ 200) (hb : Btr (x.1, x.2.1, cost + x.2.2.1, frm) t[k]) : Calls Try.prog 46 #[v, .int .i64 frm, .int .i64 cost, rtV x] w (OutR B w (apl frm cost t x)) := by
  obtain ⟨A, c, hv, hA, hcl, hcn⟩ := hO.read
  have hcost := us_cost hx
  have HX := Lib.hid hx
  have hd := hx.1
  obtain ⟨x0, x1, x2, x3⟩ := x
  simp only at hcost hd
  have KF := Lib.hid (show Calls Try.prog 40 #[.slice A t.length c, .int .i64 x0] (w.alloc (bxR x0 x1 x2 x3)) (fun e w' => e = .returned (.int .i64 (fnd t x0)) ∧ (w.alloc (bxR x0 x1 x2 x3)) = w') from rfind_any A c t x0 _ (by omega) (hA.next (alloc_below w _)))
  have KN := Lib.hid (fun w => (show Calls Try.prog 39 #[.agg #[.int .i64 x0, .int .i64 x1, .int .i64 x2, .int .i64 x3]] w (OutV w (.bool (decide (Fin1 (x0, x1, x2, x3))))) from (rfinite_any (x0, x1, x2, x3) w).mono fun _ _ h => outG_V h))
  unfold OutV at KN
  have z1 : IntKind.i64.wrap (x2 + cost) = cost + x2 := by rw [IntKind.wrap_i64]; omega
  have hO := hO
  have HBa := Lib.hid (show Below B w (w.alloc (bxR x0 x1 x2 x3)) from (Below.refl B w).alloc hB _)
  subst hv
  have O := Lib.hid (hO.alloc (bxR x0 x1 x2 x3))
  have HY := Lib.hid (show fR.ok (x0, x1, cost + x2, frm) from ⟨by unfold I64; (try dsimp only); omega, by unfold I64; (try dsimp only); omega, by unfold I64; (try dsimp only); omega, by unfold I64; (try dsimp only); omega⟩)
  have HZ := Lib.hid (show fR.ok (x0, x1, 255, 255) from ⟨by unfold I64; (try dsimp only); omega, by unfold I64; (try dsimp only); omega, by unfold I64; (try dsimp only); omega, by unfold I64; (try dsimp only); omega⟩)
  simp only at hg hh hfd hfin hp hb
  obtain ⟨g, cap, hv2, hBg, hgw⟩ := hO.at (fun e => by rw [e] at hk; simp at hk)
  simp only [Value.slice.injEq, true_and] at hv2
  obtain ⟨rfl, rfl⟩ := hv2
  obtain ⟨⟨y0, y1, y2, y3⟩, hy⟩ : ∃ y, t[k] = y := ⟨_, rfl⟩
  have HYK := Lib.hid hy
  have p0 : (0 : Int) ≤ (k : Int) := by omega
  have p1 := df (show ¬ (k : Int) < 0 by omega)
  have R := Lib.hid (show apl frm cost t (x0, x1, x2, x3) = t.set k (x0, x1, cost + x2, frm) from (apl_some hk hg hh hp).trans ((if_pos hfin).trans (if_pos hb)))
  rw [hfd] at KF
  rw [dt hfin.1] at KN
  rw [hy] at hb
  have d1 := dt hfin.2
  have KB := Lib.hid (fun w => (show Calls Try.prog 57 #[.agg #[.int .i64 x0, .int .i64 x1, .int .i64 (cost + x2), .int .i64 frm], .agg #[.int .i64 y0, .int .i64 y1, .int .i64 y2, .int .i64 y3]] w (OutG w (.bool (decide (Btr (x0, x1, cost + x2, frm) (y0, y1, y2, y3))))) from rbetter_any (x0, x1, cost + x2, frm) (y0, y1, y2, y3) w))
  rw [dt hb] at KB
  clear hb hg hh hp hfd hfin hx hd hcost hA hO HZ HX hcl hcn hf hc hy
  go_enter Try.func46, Try.ntmps46
  go_wp2_with fail
  refine KF.out.mono ?_
  rintro _ w1 ⟨rfl, rfl⟩
  go_wp2_with fail
  refine (KN.out _).mono ?_
  rintro _ w2 ⟨rfl, hb⟩
  have B2 := Lib.hid (HBa.out.trans (hb.mono (Nat.le_trans hB (by simp))))
  have O2 := Lib.hid (O.out.below hb)
  have hz2 : B ≤ w2.heap.size := Nat.le_trans hB B2.out.size
  obtain ⟨c0, c1, c2, c3⟩ := box4 hb
  clear hb KF KN
  go_wp2_with fail
  obtain ⟨W, hW⟩ : ∃ W, W = w2.alloc (bxR x0 x1 (cost + x2) frm) := ⟨_, rfl⟩
  have B3 := Lib.hid (show Below B w W by rw [hW]; exact B2.out.alloc hz2 _)
  have O3 := Lib.hid (show OwnR W B (.slice (some ⟨g, 0, none⟩) t.length c) t by rw [hW]; exact O2.out.alloc _)
  have hz3 : B ≤ W.heap.size := by rw [hW]; exact Nat.le_trans hz2 (by simp)
  have b1 : W.heap[w2.heap.size]? = some (bxR x0 x1 (cost + x2) frm) := by rw [hW]; exact blk_new _ _
  clear c0 c1 c2 c3
  have c0 := fun n os => cell_grown (w := W) (a := ⟨w2.heap.size, 0, none⟩) (blk_lt b1) (blk_cell b1 0 (v := .int .i64 x0) rfl) n os
  have c1 := fun n os => cell_grown (w := W) (a := ⟨w2.heap.size, 1, none⟩) (blk_lt b1) (blk_cell b1 1 (v := .int .i64 x1) rfl) n os
  have c2 := fun n os => cell_grown (w := W) (a := ⟨w2.heap.size, 2, none⟩) (blk_lt b1) (blk_cell b1 2 (v := .int .i64 (cost + x2)) rfl) n os
  have c3 := fun n os => cell_grown (w := W) (a := ⟨w2.heap.size, 3, none⟩) (blk_lt b1) (blk_cell b1 3 (v := .int .i64 frm) rfl) n os
  have rr := row4 O3.out k hk
  rw [HYK.out] at rr
  obtain ⟨r0, r1, r2, r3⟩ := rr
  have hgW : g < W.heap.size := World.block_lt_of_cell? W _ r0
  have r0 := fun n os => cell_grown (w := W) (a := ⟨g, k * 4, none⟩) hgW r0 n os
  have r1 := fun n os => cell_grown (w := W) (a := ⟨g, k * 4 + 1, none⟩) hgW r1 n os
  have r2 := fun n os => cell_grown (w := W) (a := ⟨g, k * 4 + 2, none⟩) hgW r2 n os
  have r3 := fun n os => cell_grown (w := W) (a := ⟨g, k * 4 + 3, none⟩) hgW r3 n os
  have BX := Lib.hid b1
  rw [← hW]
  clear hW b1
  have mixed := mixedB
  go_quiet_grown (first | (go_at_call 57; exact grown_out (KB.out _)) | fail)
  clear mixed c0 c1 c2 c3 r0 r1 r2 r3
  dsimp only
  obtain ⟨w6, h6⟩ : ∃ w6, w6 = Go.Sort.grow (W.drewN nq) osq := ⟨_, rfl⟩
  have hb6 : Below W.heap.size W w6 := by rw [h6]; exact grown_below _ _ _
  rw [← h6]
  clear h6
  have B6 := Lib.hid (B3.out.trans (hb6.mono hz3))
  have O6 := Lib.hid (O3.out.below hb6)
  have b6 := blk_below BX.out hb6 (blk_lt BX.out)
  have c0 := blk_cell b6 0 (v := .int .i64 x0) rfl
  have c1 := blk_cell b6 1 (v := .int .i64 x1) rfl
  have c2 := blk_cell b6 2 (v := .int .i64 (cost + x2)) rfl
  have c3 := blk_cell b6 3 (v := .int .i64 frm) rfl
  have f0 := O6.out.fr (k * 4)
  have f1 := O6.out.fr (k * 4 + 1)
  have f2 := O6.out.fr (k * 4 + 2)
  have f3 := O6.out.fr (k * 4 + 3)
  have rr := row4 O6.out k hk
  rw [HYK.out] at rr
  obtain ⟨r0, r1, r2, r3⟩ := rr
  clear hb6 b6 BX
  go_wp2_with fail
  go_ret
  exact ⟨_, rfl, by rw [R.out]; exact own_set O6.out k hk (x0, x1, cost + x2, frm) HY.out, (((B6.out.setCell hBg _).setCell hBg _).setCell hBg _).setCell hBg _⟩

set_option maxRecDepth 100000 in
set_option maxHeartbeats 4000000 in
theorem rapply_5 (k : Nat) (hk : k < t.length) (hg : get t x.1 = some t[k]) (hh : has x.1 t = true) (hp : pos x.1 t = k) (hfd : fnd t x.1 = (k : Int)) (hfin : Fin1 x ∧ cost + x.2.2.1 ≤ 200) (hb : ¬ Btr (x.1, x.2.1, cost + x.2.2.1, frm) t[k]) : Calls Try.prog 46 #[v, .int .i64 frm, .int .i64 cost, rtV x] w (OutR B w (apl frm cost t x)) := by
  obtain ⟨A, c, hv, hA, hcl, hcn⟩ := hO.read
  have hcost := us_cost hx
  have HX := Lib.hid hx
  have hd := hx.1
  obtain ⟨x0, x1, x2, x3⟩ := x
  simp only at hcost hd
  have KF := Lib.hid (show Calls Try.prog 40 #[.slice A t.length c, .int .i64 x0] (w.alloc (bxR x0 x1 x2 x3)) (fun e w' => e = .returned (.int .i64 (fnd t x0)) ∧ (w.alloc (bxR x0 x1 x2 x3)) = w') from rfind_any A c t x0 _ (by omega) (hA.next (alloc_below w _)))
  have KN := Lib.hid (fun w => (show Calls Try.prog 39 #[.agg #[.int .i64 x0, .int .i64 x1, .int .i64 x2, .int .i64 x3]] w (OutV w (.bool (decide (Fin1 (x0, x1, x2, x3))))) from (rfinite_any (x0, x1, x2, x3) w).mono fun _ _ h => outG_V h))
  unfold OutV at KN
  have z1 : IntKind.i64.wrap (x2 + cost) = cost + x2 := by rw [IntKind.wrap_i64]; omega
  have hO := hO
  have HBa := Lib.hid (show Below B w (w.alloc (bxR x0 x1 x2 x3)) from (Below.refl B w).alloc hB _)
  subst hv
  have O := Lib.hid (hO.alloc (bxR x0 x1 x2 x3))
  have HY := Lib.hid (show fR.ok (x0, x1, cost + x2, frm) from ⟨by unfold I64; (try dsimp only); omega, by unfold I64; (try dsimp only); omega, by unfold I64; (try dsimp only); omega, by unfold I64; (try dsimp only); omega⟩)
  have HZ := Lib.hid (show fR.ok (x0, x1, 255, 255) from ⟨by unfold I64; (try dsimp only); omega, by unfold I64; (try dsimp only); omega, by unfold I64; (try dsimp only); omega, by unfold I64; (try dsimp only); omega⟩)
  simp only at hg hh hfd hfin hp hb
  obtain ⟨g, cap, hv2, hBg, hgw⟩ := hO.at (fun e => by rw [e] at hk; simp at hk)
  simp only [Value.slice.injEq, true_and] at hv2
  obtain ⟨rfl, rfl⟩ := hv2
  obtain ⟨⟨y0, y1, y2, y3⟩, hy⟩ : ∃ y, t[k] = y := ⟨_, rfl⟩
  have HYK := Lib.hid hy
  have p0 : (0 : Int) ≤ (k : Int) := by omega
  have p1 := df (show ¬ (k : Int) < 0 by omega)
  have R := Lib.hid (show apl frm cost t (x0, x1, x2, x3) = t from (apl_some hk hg hh hp).trans ((if_pos hfin).trans (if_neg hb)))
  rw [hfd] at KF
  rw [dt hfin.1] at KN
  rw [hy] at hb
  have d1 := dt hfin.2
  have KB := Lib.hid (fun w => (show Calls Try.prog 57 #[.agg #[.int .i64 x0, .int .i64 x1, .int .i64 (cost + x2), .int .i64 frm], .agg #[.int .i64 y0, .int .i64 y1, .int .i64 y2, .int .i64 y3]] w (OutG w (.bool (decide (Btr (x0, x1, cost + x2, frm) (y0, y1, y2, y3))))) from rbetter_any (x0, x1, cost + x2, frm) (y0, y1, y2, y3) w))
  rw [df hb] at KB
  clear hb hg hh hp hfd hfin hx hd hcost hA hO HZ HX hcl hcn hf hc hy
  go_enter Try.func46, Try.ntmps46
  go_wp2_with fail
  refine KF.out.mono ?_
  rintro _ w1 ⟨rfl, rfl⟩
  go_wp2_with fail
  refine (KN.out _).mono ?_
  rintro _ w2 ⟨rfl, hb⟩
  have B2 := Lib.hid (HBa.out.trans (hb.mono (Nat.le_trans hB (by simp))))
  have O2 := Lib.hid (O.out.below hb)
  have hz2 : B ≤ w2.heap.size := Nat.le_trans hB B2.out.size
  obtain ⟨c0, c1, c2, c3⟩ := box4 hb
  clear hb KF KN
  go_wp2_with fail
  obtain ⟨W, hW⟩ : ∃ W, W = w2.alloc (bxR x0 x1 (cost + x2) frm) := ⟨_, rfl⟩
  have B3 := Lib.hid (show Below B w W by rw [hW]; exact B2.out.alloc hz2 _)
  have O3 := Lib.hid (show OwnR W B (.slice (some ⟨g, 0, none⟩) t.length c) t by rw [hW]; exact O2.out.alloc _)
  have hz3 : B ≤ W.heap.size := by rw [hW]; exact Nat.le_trans hz2 (by simp)
  have b1 : W.heap[w2.heap.size]? = some (bxR x0 x1 (cost + x2) frm) := by rw [hW]; exact blk_new _ _
  clear c0 c1 c2 c3
  have c0 := fun n os => cell_grown (w := W) (a := ⟨w2.heap.size, 0, none⟩) (blk_lt b1) (blk_cell b1 0 (v := .int .i64 x0) rfl) n os
  have c1 := fun n os => cell_grown (w := W) (a := ⟨w2.heap.size, 1, none⟩) (blk_lt b1) (blk_cell b1 1 (v := .int .i64 x1) rfl) n os
  have c2 := fun n os => cell_grown (w := W) (a := ⟨w2.heap.size, 2, none⟩) (blk_lt b1) (blk_cell b1 2 (v := .int .i64 (cost + x2)) rfl) n os
  have c3 := fun n os => cell_grown (w := W) (a := ⟨w2.heap.size, 3, none⟩) (blk_lt b1) (blk_cell b1 3 (v := .int .i64 frm) rfl) n os
  have rr := row4 O3.out k hk
  rw [HYK.out] at rr
  obtain ⟨r0, r1, r2, r3⟩ := rr
  have hgW : g < W.heap.size := World.block_lt_of_cell? W _ r0
  have r0 := fun n os => cell_grown (w := W) (a := ⟨g, k * 4, none⟩) hgW r0 n os
  have r1 := fun n os => cell_grown (w := W) (a := ⟨g, k * 4 + 1, none⟩) hgW r1 n os
  have r2 := fun n os => cell_grown (w := W) (a := ⟨g, k * 4 + 2, none⟩) hgW r2 n os
  have r3 := fun n os => cell_grown (w := W) (a := ⟨g, k * 4 + 3, none⟩) hgW r3 n os
  have BX := Lib.hid b1
  rw [← hW]
  clear hW b1
  have mixed := mixedB
  go_quiet_grown (first | (go_at_call 57; exact grown_out (KB.out _)) | fail)
  go_wp2_with fail
  go_ret
  exact ⟨_, rfl, by rw [R.out]; exact O3.out.below (grown_below _ _ _), B3.out.trans ((grown_below _ _ _).mono hz3)⟩

set_option maxRecDepth 100000 in
set_option maxHeartbeats 4000000 in
theorem rapply_6a (k : Nat) (hk : k < t.length) (hg : get t x.1 = some t[k]) (hh : has x.1 t = true) (hp : pos x.1 t = k) (hfd : fnd t x.1 = (k : Int)) (hfin : ¬ Fin1 x) (hb : t[k].2.2.2 = frm ∧ t[k].2.1 < x.2.1) : Calls Try.prog 46 #[v, .int .i64 frm, .int .i64 cost, rtV x] w (OutR B w (apl frm cost t x)) := by
  obtain ⟨A, c, hv, hA, hcl, hcn⟩ := hO.read
  have hcost := us_cost hx
  have HX := Lib.hid hx
  have hd := hx.1
  obtain ⟨x0, x1, x2, x3⟩ := x
  simp only at hcost hd
  have KF := Lib.hid (show Calls Try.prog 40 #[.slice A t.length c, .int .i64 x0] (w.alloc (bxR x0 x1 x2 x3)) (fun e w' => e = .returned (.int .i64 (fnd t x0)) ∧ (w.alloc (bxR x0 x1 x2 x3)) = w') from rfind_any A c t x0 _ (by omega) (hA.next (alloc_below w _)))
  have KN := Lib.hid (fun w => (show Calls Try.prog 39 #[.agg #[.int .i64 x0, .int .i64 x1, .int .i64 x2, .int .i64 x3]] w (OutV w (.bool (decide (Fin1 (x0, x1, x2, x3))))) from (rfinite_any (x0, x1, x2, x3) w).mono fun _ _ h => outG_V h))
  unfold OutV at KN
  have z1 : IntKind.i64.wrap (x2 + cost) = cost + x2 := by rw [IntKind.wrap_i64]; omega
  have hO := hO
  have HBa := Lib.hid (show Below B w (w.alloc (bxR x0 x1 x2 x3)) from (Below.refl B w).alloc hB _)
  subst hv
  have O := Lib.hid (hO.alloc (bxR x0 x1 x2 x3))
  have HY := Lib.hid (show fR.ok (x0, x1, cost + x2, frm) from ⟨by unfold I64; (try dsimp only); omega, by unfold I64; (try dsimp only); omega, by unfold I64; (try dsimp only); omega, by unfold I64; (try dsimp only); omega⟩)
  have HZ := Lib.hid (show fR.ok (x0, x1, 255, 255) from ⟨by unfold I64; (try dsimp only); omega, by unfold I64; (try dsimp only); omega, by unfold I64; (try dsimp only); omega, by unfold I64; (try dsimp only); omega⟩)
  simp only at hg hh hfd hfin hp hb
  have NF : ¬ (Fin1 (x0, x1, x2, x3) ∧ cost + x2 ≤ 200) := fun h => hfin h.1
  obtain ⟨g, cap, hv2, hBg, hgw⟩ := hO.at (fun e => by rw [e] at hk; simp at hk)
  simp only [Value.slice.injEq, true_and] at hv2
  obtain ⟨rfl, rfl⟩ := hv2
  obtain ⟨⟨y0, y1, y2, y3⟩, hy⟩ : ∃ y, t[k] = y := ⟨_, rfl⟩
  have HYK := Lib.hid hy
  have p0 : (0 : Int) ≤ (k : Int) := by omega
  have p1 := df (show ¬ (k : Int) < 0 by omega)
  have R := Lib.hid (show apl frm cost t (x0, x1, x2, x3) = t.set k (x0, x1, 255, 255) from (apl_some hk hg hh hp).trans ((if_neg NF).trans (if_pos hb)))
  rw [hy] at hb
  obtain ⟨hb1, hb2⟩ := hb
  have d4 : (y3 == frm) = true := by simpa using hb1
  have d5 := dt (show y1 < x1 from hb2)
  rw [hfd] at KF
  rw [df hfin] at KN
  clear hb1 hb2 hg hh hp hfd hfin NF hx hd hcost hA hO HY HX hcl hcn hf hc hy
  go_enter Try.func46, Try.ntmps46
  go_wp2_with fail
  refine KF.out.mono ?_
  rintro _ w1 ⟨rfl, rfl⟩
  go_wp2_with fail
  refine (KN.out _).mono ?_
  rintro _ w2 ⟨rfl, hb⟩
  have B2 := Lib.hid (HBa.out.trans (hb.mono (Nat.le_trans hB (by simp))))
  have O2 := Lib.hid (O.out.below hb)
  have hz2 : B ≤ w2.heap.size := Nat.le_trans hB B2.out.size
  obtain ⟨c0, c1, c2, c3⟩ := box4 hb
  clear hb KF KN
  obtain ⟨r0, r1, r2, r3⟩ : w2.cell? ⟨g, k * 4, none⟩ = some (.int .i64 y0) ∧ w2.cell? ⟨g, k * 4 + 1, none⟩ = some (.int .i64 y1) ∧ w2.cell? ⟨g, k * 4 + 2, none⟩ = some (.int .i64 y2) ∧ w2.cell? ⟨g, k * 4 + 3, none⟩ = some (.int .i64 y3) := by
    have rr := row4 O2.out k hk
    rw [HYK.out] at rr
    exact rr
  have BX := Lib.hid (And.intro c0 c1)
  go_wp2_with fail
  go_quiet (fail)
  obtain ⟨wq, hwq⟩ : ∃ wq, wq = w2.drewN nq := ⟨_, rfl⟩
  rw [← hwq]
  have B4 := Lib.hid (show Below B w wq by rw [hwq]; exact below_drewN B2.out nq)
  have O4 := Lib.hid (show OwnR wq B (.slice (some ⟨g, 0, none⟩) t.length c) t by rw [hwq]; exact O2.out.drew nq)
  have c0' : wq.cell? ⟨w.heap.size, 0, none⟩ = some (.int .i64 x0) := by rw [hwq]; exact BX.out.1
  have c1' : wq.cell? ⟨w.heap.size, 1, none⟩ = some (.int .i64 x1) := by rw [hwq]; exact BX.out.2
  clear hwq c0 c1 c2 c3 r0 r1 r2 r3 BX
  have f0 := O4.out.fr (k * 4)
  have f1 := O4.out.fr (k * 4 + 1)
  have f2 := O4.out.fr (k * 4 + 2)
  have f3 := O4.out.fr (k * 4 + 3)
  obtain ⟨r0, r1, r2, r3⟩ : wq.cell? ⟨g, k * 4, none⟩ = some (.int .i64 y0) ∧ wq.cell? ⟨g, k * 4 + 1, none⟩ = some (.int .i64 y1) ∧ wq.cell? ⟨g, k * 4 + 2, none⟩ = some (.int .i64 y2) ∧ wq.cell? ⟨g, k * 4 + 3, none⟩ = some (.int .i64 y3) := by
    have rr := row4 O4.out k hk
    rw [HYK.out] at rr
    exact rr
  go_wp2_with fail
  go_ret
  exact ⟨_, rfl, by rw [R.out]; exact own_set O4.out k hk (x0, x1, 255, 255) HZ.out, (((B4.out.setCell hBg _).setCell hBg _).setCell hBg _).setCell hBg _⟩

set_option maxRecDepth 100000 in
set_option maxHeartbeats 4000000 in
theorem rapply_6b (k : Nat) (hk : k < t.length) (hg : get t x.1 = some t[k]) (hh : has x.1 t = true) (hp : pos x.1 t = k) (hfd : fnd t x.1 = (k : Int)) (hfin : Fin1 x) (hfar : ¬ cost + x.2.2.1 ≤ 200) (hb : t[k].2.2.2 = frm ∧ t[k].2.1 < x.2.1) : Calls Try.prog 46 #[v, .int .i64 frm, .int .i64 cost, rtV x] w (OutR B w (apl frm cost t x)) := by
  obtain ⟨A, c, hv, hA, hcl, hcn⟩ := hO.read
  have hcost := us_cost hx
  have HX := Lib.hid hx
  have hd := hx.1
  obtain ⟨x0, x1, x2, x3⟩ := x
  simp only at hcost hd
  have KF := Lib.hid (show Calls Try.prog 40 #[.slice A t.length c, .int .i64 x0] (w.alloc (bxR x0 x1 x2 x3)) (fun e w' => e = .returned (.int .i64 (fnd t x0)) ∧ (w.alloc (bxR x0 x1 x2 x3)) = w') from rfind_any A c t x0 _ (by omega) (hA.next (alloc_below w _)))
  have KN := Lib.hid (fun w => (show Calls Try.prog 39 #[.agg #[.int .i64 x0, .int .i64 x1, .int .i64 x2, .int .i64 x3]] w (OutV w (.bool (decide (Fin1 (x0, x1, x2, x3))))) from (rfinite_any (x0, x1, x2, x3) w).mono fun _ _ h => outG_V h))
  unfold OutV at KN
  have z1 : IntKind.i64.wrap (x2 + cost) = cost + x2 := by rw [IntKind.wrap_i64]; omega
  have hO := hO
  have HBa := Lib.hid (show Below B w (w.alloc (bxR x0 x1 x2 x3)) from (Below.refl B w).alloc hB _)
  subst hv
  have O := Lib.hid (hO.alloc (bxR x0 x1 x2 x3))
  have HY := Lib.hid (show fR.ok (x0, x1, cost + x2, frm) from ⟨by unfold I64; (try dsimp only); omega, by unfold I64; (try dsimp only); omega, by unfold I64; (try dsimp only); omega, by unfold I64; (try dsimp only); omega⟩)
  have HZ := Lib.hid (show fR.ok (x0, x1, 255, 255) from ⟨by unfold I64; (try dsimp only); omega, by unfold I64; (try dsimp only); omega, by unfold I64; (try dsimp only); omega, by unfold I64; (try dsimp only); omega⟩)
  simp only at hg hh hfd hfin hfar hp hb
  have NF : ¬ (Fin1 (x0, x1, x2, x3) ∧ cost + x2 ≤ 200) := fun h => hfar h.2
  obtain ⟨g, cap, hv2, hBg, hgw⟩ := hO.at (fun e => by rw [e] at hk; simp at hk)
  simp only [Value.slice.injEq, true_and] at hv2
  obtain ⟨rfl, rfl⟩ := hv2
  obtain ⟨⟨y0, y1, y2, y3⟩, hy⟩ : ∃ y, t[k] = y := ⟨_, rfl⟩
  have HYK := Lib.hid hy
  have p0 : (0 : Int) ≤ (k : Int) := by omega
  have p1 := df (show ¬ (k : Int) < 0 by omega)
  have R := Lib.hid (show apl frm cost t (x0, x1, x2, x3) = t.set k (x0, x1, 255, 255) from (apl_some hk hg hh hp).trans ((if_neg NF).trans (if_pos hb)))
  rw [hy] at hb
  obtain ⟨hb1, hb2⟩ := hb
  have d4 : (y3 == frm) = true := by simpa using hb1
  have d5 := dt (show y1 < x1 from hb2)
  rw [hfd] at KF
  rw [dt hfin] at KN
  have d1 := df hfar
  clear hb1 hb2 hg hh hp hfd hfin NF hx hd hcost hA hO HY HX hcl hcn hf hc hy
  go_enter Try.func46, Try.ntmps46
  go_wp2_with fail
  refine KF.out.mono ?_
  rintro _ w1 ⟨rfl, rfl⟩
  go_wp2_with fail
  refine (KN.out _).mono ?_
  rintro _ w2 ⟨rfl, hb⟩
  have B2 := Lib.hid (HBa.out.trans (hb.mono (Nat.le_trans hB (by simp))))
  have O2 := Lib.hid (O.out.below hb)
  have hz2 : B ≤ w2.heap.size := Nat.le_trans hB B2.out.size
  obtain ⟨c0, c1, c2, c3⟩ := box4 hb
  clear hb KF KN
  obtain ⟨r0, r1, r2, r3⟩ : w2.cell? ⟨g, k * 4, none⟩ = some (.int .i64 y0) ∧ w2.cell? ⟨g, k * 4 + 1, none⟩ = some (.int .i64 y1) ∧ w2.cell? ⟨g, k * 4 + 2, none⟩ = some (.int .i64 y2) ∧ w2.cell? ⟨g, k * 4 + 3, none⟩ = some (.int .i64 y3) := by
    have rr := row4 O2.out k hk
    rw [HYK.out] at rr
    exact rr
  have BX := Lib.hid (And.intro c0 c1)
  go_wp2_with fail
  go_quiet (fail)
  obtain ⟨wq, hwq⟩ : ∃ wq, wq = w2.drewN nq := ⟨_, rfl⟩
  rw [← hwq]
  have B4 := Lib.hid (show Below B w wq by rw [hwq]; exact below_drewN B2.out nq)
  have O4 := Lib.hid (show OwnR wq B (.slice (some ⟨g, 0, none⟩) t.length c) t by rw [hwq]; exact O2.out.drew nq)
  have c0' : wq.cell? ⟨w.heap.size, 0, none⟩ = some (.int .i64 x0) := by rw [hwq]; exact BX.out.1
  have c1' : wq.cell? ⟨w.heap.size, 1, none⟩ = some (.int .i64 x1) := by rw [hwq]; exact BX.out.2
  clear hwq c0 c1 c2 c3 r0 r1 r2 r3 BX
  have f0 := O4.out.fr (k * 4)
  have f1 := O4.out.fr (k * 4 + 1)
  have f2 := O4.out.fr (k * 4 + 2)
  have f3 := O4.out.fr (k * 4 + 3)
  obtain ⟨r0, r1, r2, r3⟩ : wq.cell? ⟨g, k * 4, none⟩ = some (.int .i64 y0) ∧ wq.cell? ⟨g, k * 4 + 1, none⟩ = some (.int .i64 y1) ∧ wq.cell? ⟨g, k * 4 + 2, none⟩ = some (.int .i64 y2) ∧ wq.cell? ⟨g, k * 4 + 3, none⟩ = some (.int .i64 y3) := by
    have rr := row4 O4.out k hk
    rw [HYK.out] at rr
    exact rr
  go_wp2_with fail
  go_ret
  exact ⟨_, rfl, by rw [R.out]; exact own_set O4.out k hk (x0, x1, 255, 255) HZ.out, (((B4.out.setCell hBg _).setCell hBg _).setCell hBg _).setCell hBg _⟩

set_option maxRecDepth 100000 in
set_option maxHeartbeats 4000000 in
theorem rapply_7a (k : Nat) (hk : k < t.length) (hg : get t x.1 = some t[k]) (hh : has x.1 t = true) (hp : pos x.1 t = k) (hfd : fnd t x.1 = (k : Int)) (hfin : ¬ Fin1 x) (hb : t[k].2.2.2 ≠ frm) : Calls Try.prog 46 #[v, .int .i64 frm, .int .i64 cost, rtV x] w (OutR B w (apl frm cost t x)) := by
  obtain ⟨A, c, hv, hA, hcl, hcn⟩ := hO.read
  have hcost := us_cost hx
  have HX := Lib.hid hx
  have hd := hx.1
  obtain ⟨x0, x1, x2, x3⟩ := x
  simp only at hcost hd
  have KF := Lib.hid (show Calls Try.prog 40 #[.slice A t.length c, .int .i64 x0] (w.alloc (bxR x0 x1 x2 x3)) (fun e w' => e = .returned (.int .i64 (fnd t x0)) ∧ (w.alloc (bxR x0 x1 x2 x3)) = w') from rfind_any A c t x0 _ (by omega) (hA.next (alloc_below w _)))
  have KN := Lib.hid (fun w => (show Calls Try.prog 39 #[.agg #[.int .i64 x0, .int .i64 x1, .int .i64 x2, .int .i64 x3]] w (OutV w (.bool (decide (Fin1 (x0, x1, x2, x3))))) from (rfinite_any (x0, x1, x2, x3) w).mono fun _ _ h => outG_V h))
  unfold OutV at KN
  have z1 : IntKind.i64.wrap (x2 + cost) = cost + x2 := by rw [IntKind.wrap_i64]; omega
  have hO := hO
  have HBa := Lib.hid (show Below B w (w.alloc (bxR x0 x1 x2 x3)) from (Below.refl B w).alloc hB _)
  subst hv
  have O := Lib.hid (hO.alloc (bxR x0 x1 x2 x3))
  have HY := Lib.hid (show fR.ok (x0, x1, cost + x2, frm) from ⟨by unfold I64; (try dsimp only); omega, by unfold I64; (try dsimp only); omega, by unfold I64; (try dsimp only); omega, by unfold I64; (try dsimp only); omega⟩)
  have HZ := Lib.hid (show fR.ok (x0, x1, 255, 255) from ⟨by unfold I64; (try dsimp only); omega, by unfold I64; (try dsimp only); omega, by unfold I64; (try dsimp only); omega, by unfold I64; (try dsimp only); omega⟩)
  simp only at hg hh hfd hfin hp hb
  have NF : ¬ (Fin1 (x0, x1, x2, x3) ∧ cost + x2 ≤ 200) := fun h => hfin h.1
  obtain ⟨g, cap, hv2, hBg, hgw⟩ := hO.at (fun e => by rw [e] at hk; simp at hk)
  simp only [Value.slice.injEq, true_and] at hv2
  obtain ⟨rfl, rfl⟩ := hv2
  obtain ⟨⟨y0, y1, y2, y3⟩, hy⟩ : ∃ y, t[k] = y := ⟨_, rfl⟩
  have HYK := Lib.hid hy
  have p0 : (0 : Int) ≤ (k : Int) := by omega
  have p1 := df (show ¬ (k : Int) < 0 by omega)
  have R := Lib.hid (show apl frm cost t (x0, x1, x2, x3) = t from (apl_some hk hg hh hp).trans ((if_neg NF).trans (if_neg fun h => hb h.1)))
  rw [hy] at hb 
  have d4 : (y3 == frm) = false := by simpa using hb
  rw [hfd] at KF
  rw [df hfin] at KN
  clear hb hg hh hp hfd hfin NF hx hd hcost hA hO HY HZ HX hcl hcn hf hc hy
  go_enter Try.func46, Try.ntmps46
  go_wp2_with fail
  refine KF.out.mono ?_
  rintro _ w1 ⟨rfl, rfl⟩
  go_wp2_with fail
  refine (KN.out _).mono ?_
  rintro _ w2 ⟨rfl, hb⟩
  have B2 := Lib.hid (HBa.out.trans (hb.mono (Nat.le_trans hB (by simp))))
  have O2 := Lib.hid (O.out.below hb)
  have hz2 : B ≤ w2.heap.size := Nat.le_trans hB B2.out.size
  obtain ⟨c0, c1, c2, c3⟩ := box4 hb
  clear hb KF KN
  obtain ⟨r0, r1, r2, r3⟩ : w2.cell? ⟨g, k * 4, none⟩ = some (.int .i64 y0) ∧ w2.cell? ⟨g, k * 4 + 1, none⟩ = some (.int .i64 y1) ∧ w2.cell? ⟨g, k * 4 + 2, none⟩ = some (.int .i64 y2) ∧ w2.cell? ⟨g, k * 4 + 3, none⟩ = some (.int .i64 y3) := by
    have rr := row4 O2.out k hk
    rw [HYK.out] at rr
    exact rr
  have BX := Lib.hid (And.intro c0 c1)
  go_wp2_with fail
  go_quiet (fail)
  go_wp2_with fail
  go_ret
  exact ⟨_, rfl, by rw [R.out]; exact O2.out.drew _, below_drewN B2.out _⟩

set_option maxRecDepth 100000 in
set_option maxHeartbeats 4000000 in
theorem rapply_7b (k : Nat) (hk : k < t.length) (hg : get t x.1 = some t[k]) (hh : has x.1 t = true) (hp : pos x.1 t = k) (hfd : fnd t x.1 = (k : Int)) (hfin : Fin1 x) (hfar : ¬ cost + x.2.2.1 ≤ 200) (hb : t[k].2.2.2 ≠ frm) : Calls Try.prog 46 #[v, .int .i64 frm, .int .i64 cost, rtV x] w (OutR B w (apl frm cost t x)) := by
  obtain ⟨A, c, hv, hA, hcl, hcn⟩ := hO.read
  have hcost := us_cost hx
  have HX := Lib.hid hx
  have hd := hx.1
  obtain ⟨x0, x1, x2, x3⟩ := x
  simp only at hcost hd
  have KF := Lib.hid (show Calls Try.prog 40 #[.slice A t.length c, .int .i64 x0] (w.alloc (bxR x0 x1 x2 x3)) (fun e w' => e = .returned (.int .i64 (fnd t x0)) ∧ (w.alloc (bxR x0 x1 x2 x3)) = w') from rfind_any A c t x0 _ (by omega) (hA.next (alloc_below w _)))
  have KN := Lib.hid (fun w => (show Calls Try.prog 39 #[.agg #[.int .i64 x0, .int .i64 x1, .int .i64 x2, .int .i64 x3]] w (OutV w (.bool (decide (Fin1 (x0, x1, x2, x3))))) from (rfinite_any (x0, x1, x2, x3) w).mono fun _ _ h => outG_V h))
  unfold OutV at KN
  have z1 : IntKind.i64.wrap (x2 + cost) = cost + x2 := by rw [IntKind.wrap_i64]; omega
  have hO := hO
  have HBa := Lib.hid (show Below B w (w.alloc (bxR x0 x1 x2 x3)) from (Below.refl B w).alloc hB _)
  subst hv
  have O := Lib.hid (hO.alloc (bxR x0 x1 x2 x3))
  have HY := Lib.hid (show fR.ok (x0, x1, cost + x2, frm) from ⟨by unfold I64; (try dsimp only); omega, by unfold I64; (try dsimp only); omega, by unfold I64; (try dsimp only); omega, by unfold I64; (try dsimp only); omega⟩)
  have HZ := Lib.hid (show fR.ok (x0, x1, 255, 255) from ⟨by unfold I64; (try dsimp only); omega, by unfold I64; (try dsimp only); omega, by unfold I64; (try dsimp only); omega, by unfold I64; (try dsimp only); omega⟩)
  simp only at hg hh hfd hfin hfar hp hb
  have NF : ¬ (Fin1 (x0, x1, x2, x3) ∧ cost + x2 ≤ 200) := fun h => hfar h.2
  obtain ⟨g, cap, hv2, hBg, hgw⟩ := hO.at (fun e => by rw [e] at hk; simp at hk)
  simp only [Value.slice.injEq, true_and] at hv2
  obtain ⟨rfl, rfl⟩ := hv2
  obtain ⟨⟨y0, y1, y2, y3⟩, hy⟩ : ∃ y, t[k] = y := ⟨_, rfl⟩
  have HYK := Lib.hid hy
  have p0 : (0 : Int) ≤ (k : Int) := by omega
  have p1 := df (show ¬ (k : Int) < 0 by omega)
  have R := Lib.hid (show apl frm cost t (x0, x1, x2, x3) = t from (apl_some hk hg hh hp).trans ((if_neg NF).trans (if_neg fun h => hb h.1)))
  rw [hy] at hb 
  have d4 : (y3 == frm) = false := by simpa using hb
  rw [hfd] at KF
  rw [dt hfin] at KN
  have d1 := df hfar
  clear hb hg hh hp hfd hfin NF hx hd hcost hA hO HY HZ HX hcl hcn hf hc hy
  go_enter Try.func46, Try.ntmps46
  go_wp2_with fail
  refine KF.out.mono ?_
  rintro _ w1 ⟨rfl, rfl⟩
  go_wp2_with fail
  refine (KN.out _).mono ?_
  rintro _ w2 ⟨rfl, hb⟩
  have B2 := Lib.hid (HBa.out.trans (hb.mono (Nat.le_trans hB (by simp))))
  have O2 := Lib.hid (O.out.below hb)
  have hz2 : B ≤ w2.heap.size := Nat.le_trans hB B2.out.size
  obtain ⟨c0, c1, c2, c3⟩ := box4 hb
  clear hb KF KN
  obtain ⟨r0, r1, r2, r3⟩ : w2.cell? ⟨g, k * 4, none⟩ = some (.int .i64 y0) ∧ w2.cell? ⟨g, k * 4 + 1, none⟩ = some (.int .i64 y1) ∧ w2.cell? ⟨g, k * 4 + 2, none⟩ = some (.int .i64 y2) ∧ w2.cell? ⟨g, k * 4 + 3, none⟩ = some (.int .i64 y3) := by
    have rr := row4 O2.out k hk
    rw [HYK.out] at rr
    exact rr
  have BX := Lib.hid (And.intro c0 c1)
  go_wp2_with fail
  go_quiet (fail)
  go_wp2_with fail
  go_ret
  exact ⟨_, rfl, by rw [R.out]; exact O2.out.drew _, below_drewN B2.out _⟩

set_option maxRecDepth 100000 in
set_option maxHeartbeats 4000000 in
theorem rapply_8a (k : Nat) (hk : k < t.length) (hg : get t x.1 = some t[k]) (hh : has x.1 t = true) (hp : pos x.1 t = k) (hfd : fnd t x.1 = (k : Int)) (hfin : ¬ Fin1 x) (hb : t[k].2.2.2 = frm) (hb2 : ¬ t[k].2.1 < x.2.1) : Calls Try.prog 46 #[v, .int .i64 frm, .int .i64 cost, rtV x] w (OutR B w (apl frm cost t x)) := by
  obtain ⟨A, c, hv, hA, hcl, hcn⟩ := hO.read
  have hcost := us_cost hx
  have HX := Lib.hid hx
  have hd := hx.1
  obtain ⟨x0, x1, x2, x3⟩ := x
  simp only at hcost hd
  have KF := Lib.hid (show Calls Try.prog 40 #[.slice A t.length c, .int .i64 x0] (w.alloc (bxR x0 x1 x2 x3)) (fun e w' => e = .returned (.int .i64 (fnd t x0)) ∧ (w.alloc (bxR x0 x1 x2 x3)) = w') from rfind_any A c t x0 _ (by omega) (hA.next (alloc_below w _)))
  have KN := Lib.hid (fun w => (show Calls Try.prog 39 #[.agg #[.int .i64 x0, .int .i64 x1, .int .i64 x2, .int .i64 x3]] w (OutV w (.bool (decide (Fin1 (x0, x1, x2, x3))))) from (rfinite_any (x0, x1, x2, x3) w).mono fun _ _ h => outG_V h))
  unfold OutV at KN
  have z1 : IntKind.i64.wrap (x2 + cost) = cost + x2 := by rw [IntKind.wrap_i64]; omega
  have hO := hO
  have HBa := Lib.hid (show Below B w (w.alloc (bxR x0 x1 x2 x3)) from (Below.refl B w).alloc hB _)
  subst hv
  have O := Lib.hid (hO.alloc (bxR x0 x1 x2 x3))
  have HY := Lib.hid (show fR.ok (x0, x1, cost + x2, frm) from ⟨by unfold I64; (try dsimp only); omega, by unfold I64; (try dsimp only); omega, by unfold I64; (try dsimp only); omega, by unfold I64; (try dsimp only); omega⟩)
  have HZ := Lib.hid (show fR.ok (x0, x1, 255, 255) from ⟨by unfold I64; (try dsimp only); omega, by unfold I64; (try dsimp only); omega, by unfold I64; (try dsimp only); omega, by unfold I64; (try dsimp only); omega⟩)
  simp only at hg hh hfd hfin hp hb hb2
  have NF : ¬ (Fin1 (x0, x1, x2, x3) ∧ cost + x2 ≤ 200) := fun h => hfin h.1
  obtain ⟨g, cap, hv2, hBg, hgw⟩ := hO.at (fun e => by rw [e] at hk; simp at hk)
  simp only [Value.slice.injEq, true_and] at hv2
  obtain ⟨rfl, rfl⟩ := hv2
  obtain ⟨⟨y0, y1, y2, y3⟩, hy⟩ : ∃ y, t[k] = y := ⟨_, rfl⟩
  have HYK := Lib.hid hy
  have p0 : (0 : Int) ≤ (k : Int) := by omega
  have p1 := df (show ¬ (k : Int) < 0 by omega)
  have R := Lib.hid (show apl frm cost t (x0, x1, x2, x3) = t from (apl_some hk hg hh hp).trans ((if_neg NF).trans (if_neg fun h => hb2 h.2)))
  rw [hy] at hb hb2
  have d4 : (y3 == frm) = true := by simpa using hb
  have d5 := df (show ¬ y1 < x1 from hb2)
  clear hb2
  rw [hfd] at KF
  rw [df hfin] at KN
  clear hb hg hh hp hfd hfin NF hx hd hcost hA hO HY HZ HX hcl hcn hf hc hy
  go_enter Try.func46, Try.ntmps46
  go_wp2_with fail
  refine KF.out.mono ?_
  rintro _ w1 ⟨rfl, rfl⟩
  go_wp2_with fail
  refine (KN.out _).mono ?_
  rintro _ w2 ⟨rfl, hb⟩
  have B2 := Lib.hid (HBa.out.trans (hb.mono (Nat.le_trans hB (by simp))))
  have O2 := Lib.hid (O.out.below hb)
  have hz2 : B ≤ w2.heap.size := Nat.le_trans hB B2.out.size
  obtain ⟨c0, c1, c2, c3⟩ := box4 hb
  clear hb KF KN
  obtain ⟨r0, r1, r2, r3⟩ : w2.cell? ⟨g, k * 4, none⟩ = some (.int .i64 y0) ∧ w2.cell? ⟨g, k * 4 + 1, none⟩ = some (.int .i64 y1) ∧ w2.cell? ⟨g, k * 4 + 2, none⟩ = some (.int .i64 y2) ∧ w2.cell? ⟨g, k * 4 + 3, none⟩ = some (.int .i64 y3) := by
    have rr := row4 O2.out k hk
    rw [HYK.out] at rr
    exact rr
  have BX := Lib.hid (And.intro c0 c1)
  go_wp2_with fail
  go_quiet (fail)
  go_wp2_with fail
  go_ret
  exact ⟨_, rfl, by rw [R.out]; exact O2.out.drew _, below_drewN B2.out _⟩

set_option maxRecDepth 100000 in
set_option maxHeartbeats 4000000 in
theorem rapply_8b (k : Nat) (hk : k < t.length) (hg : get t x.1 = some t[k]) (hh : has x.1 t = true) (hp : pos x.1 t = k) (hfd : fnd t x.1 = (k : Int)) (hfin : Fin1 x) (hfar : ¬ cost + x.2.2.1 ≤ 200) (hb : t[k].2.2.2 = frm) (hb2 : ¬ t[k].2.1 < x.2.1) : Calls Try.prog 46 #[v, .int .i64 frm, .int .i64 cost, rtV x] w (OutR B w (apl frm cost t x)) := by
  obtain ⟨A, c, hv, hA, hcl, hcn⟩ := hO.read
  have hcost := us_cost hx
  have HX := Lib.hid hx
  have hd := hx.1
  obtain ⟨x0, x1, x2, x3⟩ := x
  simp only at hcost hd
  have KF := Lib.hid (show Calls Try.prog 40 #[.slice A t.length c, .int .i64 x0] (w.alloc (bxR x0 x1 x2 x3)) (fun e w' => e = .returned (.int .i64 (fnd t x0)) ∧ (w.alloc (bxR x0 x1 x2 x3)) = w') from rfind_any A c t x0 _ (by omega) (hA.next (alloc_below w _)))
  have KN := Lib.hid (fun w => (show Calls Try.prog 39 #[.agg #[.int .i64 x0, .int .i64 x1, .int .i64 x2, .int .i64 x3]] w (OutV w (.bool (decide (Fin1 (x0, x1, x2, x3))))) from (rfinite_any (x0, x1, x2, x3) w).mono fun _ _ h => outG_V h))
  unfold OutV at KN
  have z1 : IntKind.i64.wrap (x2 + cost) = cost + x2 := by rw [IntKind.wrap_i64]; omega
  have hO := hO
  have HBa := Lib.hid (show Below B w (w.alloc (bxR x0 x1 x2 x3)) from (Below.refl B w).alloc hB _)
  subst hv
  have O := Lib.hid (hO.alloc (bxR x0 x1 x2 x3))
  have HY := Lib.hid (show fR.ok (x0, x1, cost + x2, frm) from ⟨by unfold I64; (try dsimp only); omega, by unfold I64; (try dsimp only); omega, by unfold I64; (try dsimp only); omega, by unfold I64; (try dsimp only); omega⟩)
  have HZ := Lib.hid (show fR.ok (x0, x1, 255, 255) from ⟨by unfold I64; (try dsimp only); omega, by unfold I64; (try dsimp only); omega, by unfold I64; (try dsimp only); omega, by unfold I64; (try dsimp only); omega⟩)
  simp only at hg hh hfd hfin hfar hp hb hb2
  have NF : ¬ (Fin1 (x0, x1, x2, x3) ∧ cost + x2 ≤ 200) := fun h => hfar h.2
  obtain ⟨g, cap, hv2, hBg, hgw⟩ := hO.at (fun e => by rw [e] at hk; simp at hk)
  simp only [Value.slice.injEq, true_and] at hv2
  obtain ⟨rfl, rfl⟩ := hv2
  obtain ⟨⟨y0, y1, y2, y3⟩, hy⟩ : ∃ y, t[k] = y := ⟨_, rfl⟩
  have HYK := Lib.hid hy
  have p0 : (0 : Int) ≤ (k : Int) := by omega
  have p1 := df (show ¬ (k : Int) < 0 by omega)
  have R := Lib.hid (show apl frm cost t (x0, x1, x2, x3) = t from (apl_some hk hg hh hp).trans ((if_neg NF).trans (if_neg fun h => hb2 h.2)))
  rw [hy] at hb hb2
  have d4 : (y3 == frm) = true := by simpa using hb
  have d5 := df (show ¬ y1 < x1 from hb2)
  clear hb2
  rw [hfd] at KF
  rw [dt hfin] at KN
  have d1 := df hfar
  clear hb hg hh hp hfd hfin NF hx hd hcost hA hO HY HZ HX hcl hcn hf hc hy
  go_enter Try.func46, Try.ntmps46
  go_wp2_with fail
  refine KF.out.mono ?_
  rintro _ w1 ⟨rfl, rfl⟩
  go_wp2_with fail
  refine (KN.out _).mono ?_
  rintro _ w2 ⟨rfl, hb⟩
  have B2 := Lib.hid (HBa.out.trans (hb.mono (Nat.le_trans hB (by simp))))
  have O2 := Lib.hid (O.out.below hb)
  have hz2 : B ≤ w2.heap.size := Nat.le_trans hB B2.out.size
  obtain ⟨c0, c1, c2, c3⟩ := box4 hb
  clear hb KF KN
  obtain ⟨r0, r1, r2, r3⟩ : w2.cell? ⟨g, k * 4, none⟩ = some (.int .i64 y0) ∧ w2.cell? ⟨g, k * 4 + 1, none⟩ = some (.int .i64 y1) ∧ w2.cell? ⟨g, k * 4 + 2, none⟩ = some (.int .i64 y2) ∧ w2.cell? ⟨g, k * 4 + 3, none⟩ = some (.int .i64 y3) := by
    have rr := row4 O2.out k hk
    rw [HYK.out] at rr
    exact rr
  have BX := Lib.hid (And.intro c0 c1)
  go_wp2_with fail
  go_quiet (fail)
  go_wp2_with fail
  go_ret
  exact ⟨_, rfl, by rw [R.out]; exact O2.out.drew _, below_drewN B2.out _⟩

theorem rapply_any (hs : Srt t) : Calls Try.prog 46 #[v, .int .i64 frm, .int .i64 cost, rtV x] w (OutR B w (apl frm cost t x)) := by
  rcases fnd_pos hs x.1 with ⟨h1, h2, h3⟩ | ⟨k, hk, h1, h2, h3, h4⟩
  · by_cases hf1 : Fin1 x
    · by_cases hf2 : cost + x.2.2.1 ≤ 200
      · by_cases h24 : t.length < 24
        · exact rapply_1 B v t x frm cost w hB hO hl hx hf hc h2 h3 h1 ⟨hf1, hf2⟩ h24
        · exact rapply_2 B v t x frm cost w hB hO hl hx hf hc h2 h3 h1 ⟨hf1, hf2⟩ h24
      · exact rapply_3b B v t x frm cost w hB hO hl hx hf hc h2 h3 h1 hf1 hf2
    · exact rapply_3a B v t x frm cost w hB hO hl hx hf hc h2 h3 h1 hf1
  · by_cases hf1 : Fin1 x
    · by_cases hf2 : cost + x.2.2.1 ≤ 200
      · by_cases hb : Btr (x.1, x.2.1, cost + x.2.2.1, frm) t[k]
        · exact rapply_4 B v t x frm cost w hB hO hl hx hf hc k hk h2 h3 h4 h1 ⟨hf1, hf2⟩ hb
        · exact rapply_5 B v t x frm cost w hB hO hl hx hf hc k hk h2 h3 h4 h1 ⟨hf1, hf2⟩ hb
      · by_cases hn : t[k].2.2.2 = frm
        · by_cases hq : t[k].2.1 < x.2.1
          · exact rapply_6b B v t x frm cost w hB hO hl hx hf hc k hk h2 h3 h4 h1 hf1 hf2 ⟨hn, hq⟩
          · exact rapply_8b B v t x frm cost w hB hO hl hx hf hc k hk h2 h3 h4 h1 hf1 hf2 hn hq
        · exact rapply_7b B v t x frm cost w hB hO hl hx hf hc k hk h2 h3 h4 h1 hf1 hf2 hn
    · by_cases hn : t[k].2.2.2 = frm
      · by_cases hq : t[k].2.1 < x.2.1
        · exact rapply_6a B v t x frm cost w hB hO hl hx hf hc k hk h2 h3 h4 h1 hf1 ⟨hn, hq⟩
        · exact rapply_8a B v t x frm cost w hB hO hl hx hf hc k hk h2 h3 h4 h1 hf1 hn hq
      · exact rapply_7a B v t x frm cost w hB hO hl hx hf hc k hk h2 h3 h4 h1 hf1 hn
end
end Go.Proofs.Ytcfnkfkdhcejeaa.Rte
