/- Contracts of package route: applied. -/
import Derived.Test.YtcfnkfkdhcejeaaRK
set_option linter.unusedVariables false
namespace Go.Proofs.Ytcfnkfkdhcejeaa.Rte
open Go.RowKit

theorem row4 {w : World} {B g cap : Nat} {l : List Rt} (h : OwnR w B (.slice (some ⟨g, 0, none⟩) l.length cap) l) (k : Nat) (hk : k < l.length) :
    w.cell? ⟨g, k * 4, none⟩ = some (.int .i64 l[k].1) ∧ w.cell? ⟨g, k * 4 + 1, none⟩ = some (.int .i64 l[k].2.1) ∧ w.cell? ⟨g, k * 4 + 2, none⟩ = some (.int .i64 l[k].2.2.1) ∧ w.cell? ⟨g, k * 4 + 3, none⟩ = some (.int .i64 l[k].2.2.2) :=
  ⟨h.cell k hk 0 (by decide), h.cell k hk 1 (by decide), h.cell k hk 2 (by decide), h.cell k hk 3 (by decide)⟩
theorem get_at {t : List Rt} {d : Int} {k : Nat} (hk : k < t.length) (h : has d t = true) (e : pos d t = k) : get t d = some t[k] := by
  obtain ⟨h1, h2⟩ := get_yes d t h
  subst e
  exact h2
theorem has_lt {t : List Rt} {d : Int} (h : has d t = true) : pos d t < t.length := (get_yes d t h).1

set_option maxRecDepth 100000 in
set_option maxHeartbeats 4000000 in
theorem applied_any (B : Nat) (v : Value) (t : List Rt) (e : Rt) (frm : Int) (w : World) (hB : B ≤ w.heap.size) (hO : OwnR w B v t) (hs : Srt t) (hl : t.length ≤ 1000) (he : fR.ok e) :
    Calls Try.prog 44 #[v, rtV e, .int .i64 frm] w (OutR B w (app frm t e)) := by
  obtain ⟨A, c, hv, hA, hc, hcn⟩ := hO.read
  have HE := Lib.hid he
  have KP := Lib.hid (fun o => (show Calls Try.prog 36 #[.slice A t.length c, .int .i64 e.1] (w.alloc o) (fun e' w' => e' = .returned (.tuple #[.int .i64 (pos e.1 t : Nat), .bool (has e.1 t)]) ∧ Below (w.alloc o).heap.size (w.alloc o) w') from place_any A c t e.1 (w.alloc o) (by omega) hs (hA.next (alloc_below w o))))
  have hp := pos_le e.1 t
  have hBa : ∀ o, Below B w (w.alloc o) := fun o => (Below.refl B w).alloc hB o
  have HBa := Lib.hid hBa
  by_cases hh : has e.1 t = true
  · have hlt := has_lt hh
    obtain ⟨k, hk⟩ : ∃ k, k = pos e.1 t := ⟨_, rfl⟩
    rw [← hk] at hlt KP
    have G := get_at hlt hh hk.symm
    have AP := Lib.hid (show app frm t e = if Rpl frm e t[k] then t.set k e else t by
      unfold app; rw [G]; dsimp only; rw [ins_set hh (has_lt hh), ← hk])
    rw [hh] at KP
    obtain ⟨g, cap, hv2, hBg, hgw⟩ := hO.at (fun e => by rw [e] at hlt; simp at hlt)
    rw [hv] at hv2
    simp only [Value.slice.injEq, true_and] at hv2
    obtain ⟨rfl, rfl⟩ := hv2
    subst hv
    have O := Lib.hid hO
    clear hh hk G hA hc hcn hO hs he hBa hp
    obtain ⟨x0, x1, x2, x3⟩ := e
    obtain ⟨⟨y0, y1, y2, y3⟩, hy⟩ : ∃ y, t[k] = y := ⟨_, rfl⟩
    have KR := Lib.hid (fun w => (show Calls Try.prog 54 #[.agg #[.int .i64 x0, .int .i64 x1, .int .i64 x2, .int .i64 x3], .agg #[.int .i64 y0, .int .i64 y1, .int .i64 y2, .int .i64 y3], .int .i64 frm] w (OutV w (.bool (decide (Rpl frm (x0, x1, x2, x3) (y0, y1, y2, y3))))) from (replaces_any (x0, x1, x2, x3) (y0, y1, y2, y3) frm w).mono fun _ _ h => outG_V h))
    unfold OutV at KR
    rw [hy] at AP
    by_cases hr : Rpl frm (x0, x1, x2, x3) (y0, y1, y2, y3)
    · rw [dt hr] at KR
      have AP := Lib.hid (show app frm t (x0, x1, x2, x3) = t.set k (x0, x1, x2, x3) by rw [AP.out, if_pos hr])
      clear hr
      go_enter Try.func44, Try.ntmps44
      go_wp2_with fail
      refine (KP.out _).mono ?_
      rintro _ w2 ⟨rfl, hb⟩
      have B2 := Lib.hid ((HBa.out _).trans (hb.mono (Nat.le_trans hB (by simp))))
      have hzB := B2.out.size
      have O2 := Lib.hid ((O.out.alloc (bxR x0 x1 x2 x3)).below hb)
      have hzB : B ≤ w2.heap.size := Nat.le_trans hB B2.out.size
      have CB := box4 hb
      have HC := Lib.hid (fun wz (h : Below w2.heap.size w2 wz) => And.intro (box4 (hb.trans (h.mono hb.size))) (by have := row4 (O2.out.below h) k hlt; rw [hy] at this; exact this))
      clear hb KP CB
      go_wp2_with fail
      have Z0 : Below w2.heap.size w2 w2.drew := (Below.refl _ _).drew
      refine wp_region_held_drew (S := (fun w' : World => (w'.cell? ⟨w.heap.size, 0, none⟩ = some (.int .i64 x0) ∧ w'.cell? ⟨w.heap.size, 1, none⟩ = some (.int .i64 x1) ∧ w'.cell? ⟨w.heap.size, 2, none⟩ = some (.int .i64 x2) ∧ w'.cell? ⟨w.heap.size, 3, none⟩ = some (.int .i64 x3)) ∧ w'.cell? ⟨g, k * 4, none⟩ = some (.int .i64 y0) ∧ w'.cell? ⟨g, k * 4 + 1, none⟩ = some (.int .i64 y1) ∧ w'.cell? ⟨g, k * 4 + 2, none⟩ = some (.int .i64 y2) ∧ w'.cell? ⟨g, k * 4 + 3, none⟩ = some (.int .i64 y3))) (by kernel_rfl) (HC.out _ Z0) (fun hHeld => ?_)
      refine wpAnyH_take (i := 0) (v := (.agg #[.int .i64 x0, .int .i64 x1, .int .i64 x2, .int .i64 x3])) at_zero (by kernel_rfl) (by kernel_rfl) (by kernel_rfl) (fun _ _ _ h => h) (Or.inl ⟨by kernel_rfl, fun wy hSw => ?_⟩) (by assumption) ?_
      · (try dsimp only at hSw); go_simp
      try simp only [Act.put, List.setIfInBounds_toArray, List.set_cons_zero, List.set_cons_succ]
      refine wpAnyH_take (i := 1) (v := (.slice (some ⟨g, 0, none⟩) t.length c)) (at_succ at_zero) (by kernel_rfl) (by kernel_rfl) (by kernel_rfl) (fun _ _ _ h => h) (Or.inl ⟨by kernel_rfl, fun wy hSw => ?_⟩) (by assumption) ?_
      · (try dsimp only at hSw); go_simp
      try simp only [Act.put, List.setIfInBounds_toArray, List.set_cons_zero, List.set_cons_succ]
      refine wpAnyH_take (i := 2) (v := (.int .i64 (k : Int))) (at_succ (at_succ at_zero)) (by kernel_rfl) (by kernel_rfl) (by kernel_rfl) (fun _ _ _ h => h) (Or.inl ⟨by kernel_rfl, fun wy hSw => ?_⟩) (by assumption) ?_
      · (try dsimp only at hSw); go_simp
      try simp only [Act.put, List.setIfInBounds_toArray, List.set_cons_zero, List.set_cons_succ]
      refine wpAnyH_take (i := 3) (v := (.pointer (some ⟨g, k * 4, none⟩))) (at_succ (at_succ (at_succ at_zero))) (by kernel_rfl) (by kernel_rfl) (by kernel_rfl) (fun _ _ _ h => h) (Or.inl ⟨by kernel_rfl, fun wy hSw => ?_⟩) (by assumption) ?_
      · (try dsimp only at hSw); go_simp
      try simp only [Act.put, List.setIfInBounds_toArray, List.set_cons_zero, List.set_cons_succ]
      refine wpAnyH_take (i := 4) (v := (.agg #[.int .i64 y0, .int .i64 y1, .int .i64 y2, .int .i64 y3])) (at_succ (at_succ (at_succ (at_succ at_zero)))) (by kernel_rfl) (by kernel_rfl) (by kernel_rfl) (fun _ _ _ h => h) (Or.inl ⟨by kernel_rfl, fun wy hSw => ?_⟩) (by assumption) ?_
      · (try dsimp only at hSw); go_simp
      try simp only [Act.put, List.setIfInBounds_toArray, List.set_cons_zero, List.set_cons_succ]
      refine wpAnyH_take (i := 5) (v := (.int .i64 frm)) (at_succ (at_succ (at_succ (at_succ (at_succ at_zero))))) (by kernel_rfl) (by kernel_rfl) (by kernel_rfl) (fun _ _ _ h => h) (Or.inl ⟨by kernel_rfl, fun wy hSw => ?_⟩) (by assumption) ?_
      · (try dsimp only at hSw); go_simp
      try simp only [Act.put, List.setIfInBounds_toArray, List.set_cons_zero, List.set_cons_succ]
      refine wpAnyH_ready (rs := [6]) (by kernel_rfl) (by simp) ?_
      refine AllReadyH.cons (at_succ (at_succ (at_succ (at_succ (at_succ (at_succ at_zero)))))) (fun K hK => ?_) AllReadyH.nil
      rw [if_pos (by kernel_rfl)]
      go_simp
      refine (KR.out _).mono ?_
      rintro e wa ⟨rfl, hb⟩
      have Z1 := Z0.trans (hb.mono Z0.size)
      clear hb hHeld
      go_wp2_with fail
      refine hK.out _ _ (HC.out _ Z1) (fun hHeld => ?_)
      clear hK K
      try simp only [Act.put, List.setIfInBounds_toArray, List.set_cons_zero, List.set_cons_succ]
      refine wpAnyH_done (by kernel_rfl) ?_ _
      obtain ⟨⟨c0, c1, c2, c3⟩, d0, d1, d2, d3⟩ := HC.out _ Z1
      have O1 := Lib.hid (O2.out.below Z1)
      have f0 := O1.out.fr (k * 4)
      have f1 := O1.out.fr (k * 4 + 1)
      have f2 := O1.out.fr (k * 4 + 2)
      have f3 := O1.out.fr (k * 4 + 3)
      have B4 := Lib.hid (B2.out.trans (Z1.mono hzB))
      clear HC hHeld Z0 Z1
      go_wp2_with fail
      go_ret
      exact ⟨_, rfl, by rw [AP.out]; exact own_set O1.out k hlt (x0, x1, x2, x3) HE.out, (((B4.out.setCell hBg _).setCell hBg _).setCell hBg _).setCell hBg _⟩
    · rw [df hr] at KR
      have AP := Lib.hid (show app frm t (x0, x1, x2, x3) = t by rw [AP.out, if_neg hr])
      clear hr
      go_enter Try.func44, Try.ntmps44
      go_wp2_with fail
      refine (KP.out _).mono ?_
      rintro _ w2 ⟨rfl, hb⟩
      have B2 := Lib.hid ((HBa.out _).trans (hb.mono (Nat.le_trans hB (by simp))))
      have hzB := B2.out.size
      have O2 := Lib.hid ((O.out.alloc (bxR x0 x1 x2 x3)).below hb)
      have hzB : B ≤ w2.heap.size := Nat.le_trans hB B2.out.size
      have CB := box4 hb
      have HC := Lib.hid (fun wz (h : Below w2.heap.size w2 wz) => And.intro (box4 (hb.trans (h.mono hb.size))) (by have := row4 (O2.out.below h) k hlt; rw [hy] at this; exact this))
      clear hb KP CB
      go_wp2_with fail
      have Z0 : Below w2.heap.size w2 w2.drew := (Below.refl _ _).drew
      refine wp_region_held_drew (S := (fun w' : World => (w'.cell? ⟨w.heap.size, 0, none⟩ = some (.int .i64 x0) ∧ w'.cell? ⟨w.heap.size, 1, none⟩ = some (.int .i64 x1) ∧ w'.cell? ⟨w.heap.size, 2, none⟩ = some (.int .i64 x2) ∧ w'.cell? ⟨w.heap.size, 3, none⟩ = some (.int .i64 x3)) ∧ w'.cell? ⟨g, k * 4, none⟩ = some (.int .i64 y0) ∧ w'.cell? ⟨g, k * 4 + 1, none⟩ = some (.int .i64 y1) ∧ w'.cell? ⟨g, k * 4 + 2, none⟩ = some (.int .i64 y2) ∧ w'.cell? ⟨g, k * 4 + 3, none⟩ = some (.int .i64 y3))) (by kernel_rfl) (HC.out _ Z0) (fun hHeld => ?_)
      refine wpAnyH_take (i := 0) (v := (.agg #[.int .i64 x0, .int .i64 x1, .int .i64 x2, .int .i64 x3])) at_zero (by kernel_rfl) (by kernel_rfl) (by kernel_rfl) (fun _ _ _ h => h) (Or.inl ⟨by kernel_rfl, fun wy hSw => ?_⟩) (by assumption) ?_
      · (try dsimp only at hSw); go_simp
      try simp only [Act.put, List.setIfInBounds_toArray, List.set_cons_zero, List.set_cons_succ]
      refine wpAnyH_take (i := 1) (v := (.slice (some ⟨g, 0, none⟩) t.length c)) (at_succ at_zero) (by kernel_rfl) (by kernel_rfl) (by kernel_rfl) (fun _ _ _ h => h) (Or.inl ⟨by kernel_rfl, fun wy hSw => ?_⟩) (by assumption) ?_
      · (try dsimp only at hSw); go_simp
      try simp only [Act.put, List.setIfInBounds_toArray, List.set_cons_zero, List.set_cons_succ]
      refine wpAnyH_take (i := 2) (v := (.int .i64 (k : Int))) (at_succ (at_succ at_zero)) (by kernel_rfl) (by kernel_rfl) (by kernel_rfl) (fun _ _ _ h => h) (Or.inl ⟨by kernel_rfl, fun wy hSw => ?_⟩) (by assumption) ?_
      · (try dsimp only at hSw); go_simp
      try simp only [Act.put, List.setIfInBounds_toArray, List.set_cons_zero, List.set_cons_succ]
      refine wpAnyH_take (i := 3) (v := (.pointer (some ⟨g, k * 4, none⟩))) (at_succ (at_succ (at_succ at_zero))) (by kernel_rfl) (by kernel_rfl) (by kernel_rfl) (fun _ _ _ h => h) (Or.inl ⟨by kernel_rfl, fun wy hSw => ?_⟩) (by assumption) ?_
      · (try dsimp only at hSw); go_simp
      try simp only [Act.put, List.setIfInBounds_toArray, List.set_cons_zero, List.set_cons_succ]
      refine wpAnyH_take (i := 4) (v := (.agg #[.int .i64 y0, .int .i64 y1, .int .i64 y2, .int .i64 y3])) (at_succ (at_succ (at_succ (at_succ at_zero)))) (by kernel_rfl) (by kernel_rfl) (by kernel_rfl) (fun _ _ _ h => h) (Or.inl ⟨by kernel_rfl, fun wy hSw => ?_⟩) (by assumption) ?_
      · (try dsimp only at hSw); go_simp
      try simp only [Act.put, List.setIfInBounds_toArray, List.set_cons_zero, List.set_cons_succ]
      refine wpAnyH_take (i := 5) (v := (.int .i64 frm)) (at_succ (at_succ (at_succ (at_succ (at_succ at_zero))))) (by kernel_rfl) (by kernel_rfl) (by kernel_rfl) (fun _ _ _ h => h) (Or.inl ⟨by kernel_rfl, fun wy hSw => ?_⟩) (by assumption) ?_
      · (try dsimp only at hSw); go_simp
      try simp only [Act.put, List.setIfInBounds_toArray, List.set_cons_zero, List.set_cons_succ]
      refine wpAnyH_ready (rs := [6]) (by kernel_rfl) (by simp) ?_
      refine AllReadyH.cons (at_succ (at_succ (at_succ (at_succ (at_succ (at_succ at_zero)))))) (fun K hK => ?_) AllReadyH.nil
      rw [if_pos (by kernel_rfl)]
      go_simp
      refine (KR.out _).mono ?_
      rintro e wa ⟨rfl, hb⟩
      have Z1 := Z0.trans (hb.mono Z0.size)
      clear hb hHeld
      go_wp2_with fail
      refine hK.out _ _ (HC.out _ Z1) (fun hHeld => ?_)
      clear hK K
      try simp only [Act.put, List.setIfInBounds_toArray, List.set_cons_zero, List.set_cons_succ]
      refine wpAnyH_done (by kernel_rfl) ?_ _
      have O1 := Lib.hid (O2.out.below Z1)
      have B4 := Lib.hid (B2.out.trans (Z1.mono hzB))
      clear HC hHeld Z0 Z1
      go_wp2_with fail
      go_ret
      exact ⟨_, rfl, by rw [AP.out]; exact O1.out, B4.out⟩
  · have hh : has e.1 t = false := by simpa using hh
    have G := get_no e.1 t hs hh
    have AP := Lib.hid (show app frm t e = if Fin1 e ∧ t.length < 24 then t.take (pos e.1 t) ++ [e] ++ t.drop (pos e.1 t) else t by
      unfold app; rw [G]; dsimp only; rw [ins_at hh])
    rw [hh] at KP
    obtain ⟨k, hk⟩ : ∃ k, k = pos e.1 t := ⟨_, rfl⟩
    rw [← hk] at KP AP hp
    have O := Lib.hid hO
    have KI := Lib.hid (fun w0 (hB : B ≤ w0.heap.size) (hO : OwnR w0 B v t) => insert_any B t e k w0 hB he hl v hp hO)
    subst hv
    clear hh hk G hA hc hcn hO hs he hBa
    obtain ⟨x0, x1, x2, x3⟩ := e
    have KF := Lib.hid (fun w => (show Calls Try.prog 49 #[.agg #[.int .i64 x0, .int .i64 x1, .int .i64 x2, .int .i64 x3]] w (OutV w (.bool (decide (Fin1 (x0, x1, x2, x3))))) from (isFinite_any (x0, x1, x2, x3) w).mono fun _ _ h => outG_V h))
    unfold OutV at KF
    by_cases hf : Fin1 (x0, x1, x2, x3)
    · rw [dt hf] at KF
      by_cases h24 : t.length < 24
      · have AP := Lib.hid (show app frm t (x0, x1, x2, x3) = t.take k ++ [(x0, x1, x2, x3)] ++ t.drop k by rw [AP.out, if_pos ⟨hf, h24⟩])
        clear hf
        go_enter Try.func44, Try.ntmps44
        go_wp2_with fail
        refine (KP.out _).mono ?_
        rintro _ w2 ⟨rfl, hb⟩
        have B2 := Lib.hid ((HBa.out _).trans (hb.mono (Nat.le_trans hB (by simp))))
        have hzB := B2.out.size
        have O2 := Lib.hid ((O.out.alloc (bxR x0 x1 x2 x3)).below hb)
        have hzB : B ≤ w2.heap.size := Nat.le_trans hB B2.out.size
        have c0 := box4 hb
        obtain ⟨c0, c1, c2, c3⟩ := c0
        clear hb KP
        go_wp2_with fail
        refine (KF.out _).mono ?_
        rintro _ w4 ⟨rfl, hb⟩
        have B4 := Lib.hid (B2.out.trans (hb.mono hzB))
        have O4 := Lib.hid (O2.out.below hb)
        have hzC : B ≤ w4.heap.size := Nat.le_trans hB B4.out.size
        have e0 := (hb.cell (p := ⟨w.heap.size, 0, none⟩) (World.block_lt_of_cell? w2 _ c0)).trans c0
        have e1 := (hb.cell (p := ⟨w.heap.size, 1, none⟩) (World.block_lt_of_cell? w2 _ c1)).trans c1
        have e2 := (hb.cell (p := ⟨w.heap.size, 2, none⟩) (World.block_lt_of_cell? w2 _ c2)).trans c2
        have e3 := (hb.cell (p := ⟨w.heap.size, 3, none⟩) (World.block_lt_of_cell? w2 _ c3)).trans c3
        clear hb c0 c1 c2 c3 KF
        go_wp2_with fail
        refine (KI.out w4 hzC O4.out).mono ?_
        rintro _ w5 ⟨v5, rfl, ho5, hb⟩
        have O5 := Lib.hid ho5
        have B5 := Lib.hid (B4.out.trans hb)
        clear hb ho5
        go_wp2_with fail
        go_ret
        exact ⟨_, rfl, by rw [AP.out]; exact O5.out, B5.out⟩
      · have AP := Lib.hid (show app frm t (x0, x1, x2, x3) = t by rw [AP.out, if_neg (fun h => h24 h.2)])
        clear hf
        go_enter Try.func44, Try.ntmps44
        go_wp2_with fail
        refine (KP.out _).mono ?_
        rintro _ w2 ⟨rfl, hb⟩
        have B2 := Lib.hid ((HBa.out _).trans (hb.mono (Nat.le_trans hB (by simp))))
        have hzB := B2.out.size
        have O2 := Lib.hid ((O.out.alloc (bxR x0 x1 x2 x3)).below hb)
        have hzB : B ≤ w2.heap.size := Nat.le_trans hB B2.out.size
        have c0 := box4 hb
        obtain ⟨c0, c1, c2, c3⟩ := c0
        clear hb KP
        go_wp2_with fail
        refine (KF.out _).mono ?_
        rintro _ w4 ⟨rfl, hb⟩
        have B4 := Lib.hid (B2.out.trans (hb.mono hzB))
        have O4 := Lib.hid (O2.out.below hb)
        have hzC : B ≤ w4.heap.size := Nat.le_trans hB B4.out.size
        have e0 := (hb.cell (p := ⟨w.heap.size, 0, none⟩) (World.block_lt_of_cell? w2 _ c0)).trans c0
        have e1 := (hb.cell (p := ⟨w.heap.size, 1, none⟩) (World.block_lt_of_cell? w2 _ c1)).trans c1
        have e2 := (hb.cell (p := ⟨w.heap.size, 2, none⟩) (World.block_lt_of_cell? w2 _ c2)).trans c2
        have e3 := (hb.cell (p := ⟨w.heap.size, 3, none⟩) (World.block_lt_of_cell? w2 _ c3)).trans c3
        clear hb c0 c1 c2 c3 KF
        go_wp2_with fail
        go_ret
        exact ⟨_, rfl, by rw [AP.out]; exact O4.out, B4.out⟩
    · have AP := Lib.hid (show app frm t (x0, x1, x2, x3) = t by rw [AP.out, if_neg (fun h => hf h.1)])
      rw [df hf] at KF
      clear hf
      go_enter Try.func44, Try.ntmps44
      go_wp2_with fail
      refine (KP.out _).mono ?_
      rintro _ w2 ⟨rfl, hb⟩
      have B2 := Lib.hid ((HBa.out _).trans (hb.mono (Nat.le_trans hB (by simp))))
      have hzB := B2.out.size
      have O2 := Lib.hid ((O.out.alloc (bxR x0 x1 x2 x3)).below hb)
      have hzB : B ≤ w2.heap.size := Nat.le_trans hB B2.out.size
      have c0 := box4 hb
      obtain ⟨c0, c1, c2, c3⟩ := c0
      clear hb KP
      go_wp2_with fail
      refine (KF.out _).mono ?_
      rintro _ w4 ⟨rfl, hb⟩
      have B4 := Lib.hid (B2.out.trans (hb.mono hzB))
      have O4 := Lib.hid (O2.out.below hb)
      have hzC : B ≤ w4.heap.size := Nat.le_trans hB B4.out.size
      have e0 := (hb.cell (p := ⟨w.heap.size, 0, none⟩) (World.block_lt_of_cell? w2 _ c0)).trans c0
      have e1 := (hb.cell (p := ⟨w.heap.size, 1, none⟩) (World.block_lt_of_cell? w2 _ c1)).trans c1
      have e2 := (hb.cell (p := ⟨w.heap.size, 2, none⟩) (World.block_lt_of_cell? w2 _ c2)).trans c2
      have e3 := (hb.cell (p := ⟨w.heap.size, 3, none⟩) (World.block_lt_of_cell? w2 _ c3)).trans c3
      clear hb c0 c1 c2 c3 KF
      go_wp2_with fail
      go_ret
      exact ⟨_, rfl, by rw [AP.out]; exact O4.out, B4.out⟩
end Go.Proofs.Ytcfnkfkdhcejeaa.Rte
