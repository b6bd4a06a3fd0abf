/- RouteKeeps walked. -/
import Derived.Test.YtcfnkfkdhcejeaaRZ
import Derived.Test.YtcfnkfkdhcejeaaRX
import Derived.Deep.Cut
import Derived.Deep.CutRange
import Derived.Deep.DeepCutAuto
set_option linter.unusedVariables false
namespace Go.Proofs.Ytcfnkfkdhcejeaa.Rte
open Go.RowKit

theorem row_other {w : World} {B : Nat} {v : Value} {l : List Rt} (h : OwnR w B v l) {a : Addr} (u : Value) (hne : ∀ g, v.ownBlock = some g → g ≠ a.block) : OwnR (w.setCell a u) B v l := by
  refine ⟨⟨h.1.1, ?_⟩, h.2⟩
  rcases h.1.2 with h1 | ⟨g, cap, cur, h1, h2, h3, h4⟩
  · exact Or.inl h1
  · exact Or.inr ⟨g, cap, cur, h1, h2, blk_other h3 (hne g (by rw [h1]; rfl)) u, h4⟩
theorem row_three {w : World} {B N : Nat} {v : Value} {l : List Rt} (h : OwnR w B v l) (a b c : Value) (hne : ∀ g, v.ownBlock = some g → g ≠ N) : OwnR (((w.setCell ⟨N, 0, none⟩ a).setCell ⟨N, 1, none⟩ b).setCell ⟨N, 2, none⟩ c) B v l :=
  row_other (row_other (row_other h a hne) b hne) c hne
theorem row_at {w : World} {B : Nat} {A : Option Addr} {c : Nat} {l : List Rt} (h : OwnR w B (.slice A l.length c) l) : RtAt w w.heap.size A l := by
  obtain ⟨A1, c1, hv, hA1, _⟩ := h.read
  simp only [Value.slice.injEq, true_and] at hv
  obtain ⟨rfl, rfl⟩ := hv
  exact hA1
/-- The array of the three tables. -/
def Keeps (w : World) (l1 l2 l3 : List Rt) (p : Value) (wx : World) : Prop := ∃ (b : Nat) (A1 : Option Addr) (c1 : Nat) (A2 : Option Addr) (c2 : Nat) (A3 : Option Addr) (c3 : Nat), p = .pointer (some ⟨b, 0, none⟩) ∧
  wx.heap[b]? = some (.cells #[.slice A1 l1.length c1, .slice A2 l2.length c2, .slice A3 l3.length c3] 45 (0, 0)) ∧ (RtAt wx wx.heap.size A1 l1 ∧ RtAt wx wx.heap.size A2 l2 ∧ RtAt wx wx.heap.size A3 l3) ∧ Below w.heap.size w wx

set_option maxRecDepth 100000 in
set_option maxHeartbeats 8000000 in
theorem law_keeps (w : World) (A : Option Addr) (c : Nat) (l : List Rt) (n f k : Int) (A2 : Option Addr) (c2 : Nat) (adv : List Rt) (hl : l.length ≤ 9223372036854775807) (hA : RtAt w w.heap.size A l) (hl2 : adv.length ≤ 9223372036854775807) (hA2 : RtAt w w.heap.size A2 adv) :
    Calls Try.prog 8 #[.slice A l.length c, .int .i64 n, .agg #[.int .i64 f, .int .i64 k, .slice A2 adv.length c2]] w (OutB w true) := by
  have HA := Lib.hid (hA.next (alloc_below w (.cells #[.int .i64 f, .int .i64 k, .slice A2 adv.length c2] 31)))
  have HA2 := Lib.hid (hA2.next (alloc_below w (.cells #[.int .i64 f, .int .i64 k, .slice A2 adv.length c2] 31)))
  have HAw := Lib.hid hA
  clear hA hA2
  by_cases h60 : 60 < l.length
  · have d : decide ((60 : Int) < (l.length : Int)) = true := dt (by omega)
    go_enter Try.func8, Try.ntmps8
    go_wp2_with fail
    refine (awake_any _).mono ?_
    rintro _ w1 ⟨rfl, hb⟩
    have B1 := Lib.hid ((alloc_below w _).trans (hb.mono (by simp)))
    clear hb
    go_wp2_with fail
    go_ret
    exact outB rfl B1.out
  have d : decide ((60 : Int) < (l.length : Int)) = false := df (by omega)
  by_cases h61 : 60 < adv.length
  · have d2 : decide ((60 : Int) < (adv.length : Int)) = true := dt (by omega)
    go_enter Try.func8, Try.ntmps8
    go_wp2_with fail
    refine (awake_any _).mono ?_
    rintro _ w1 ⟨rfl, hb⟩
    have B1 := Lib.hid ((alloc_below w _).trans (hb.mono (by simp)))
    clear hb
    go_wp2_with fail
    go_ret
    exact outB rfl B1.out
  have d2 : decide ((60 : Int) < (adv.length : Int)) = false := df (by omega)
  have K5 := Lib.hid (fun w hA => rcheck_any A c l n w hl hA)
  by_cases hc : chk l n = 0
  rotate_left
  · have d4 : (chk l n != 0) = true := by simpa using hc
    generalize chk l n = ck at *
    clear hc
    go_enter Try.func8, Try.ntmps8
    go_wp2_with fail
    refine (K5.out _ HA.out).mono ?_
    rintro _ w1 ⟨rfl, hb⟩
    have B1 := Lib.hid ((alloc_below w _).trans (hb.mono (by simp)))
    clear hb
    go_wp2_with fail
    refine (awake_any _).mono ?_
    rintro _ w2 ⟨rfl, hb⟩
    have B2 := Lib.hid (B1.out.trans (hb.mono B1.out.size))
    clear hb
    go_wp2_with fail
    go_ret
    exact outB rfl B2.out
  have TB := Lib.hid ((chk_zero l n).1 hc)
  rw [hc] at K5
  clear hc
  have LN : lim n = n := lim_id TB.out.1.2
  have TT : Tab l (lim n) := by rw [LN]; exact TB.out
  have TL := tb_id TT
  have t1 := bmp_tab l n
  have t2 := upd_tab l n f k adv
  have t3 := brk_tab l n f
  have k1 := bmp_kept l n
  have k2 := upd_kept l n f k adv
  have k3 := brk_kept l n f
  rw [LN] at t1 t2 t3
  rw [TL] at k1 k2 k3
  have K1 := Lib.hid (fun w hA => pbump_any A c l n w hl hA)
  have K2 := Lib.hid (fun w hA hA2 => pupd_any A c l n f k A2 c2 adv w hl hA hl2 hA2)
  have K3 := Lib.hid (fun w hA => pbreak_any A c l n f w hl hA)
  generalize bmp l n = F1 at *
  generalize upd l n f k adv = F2 at *
  generalize brk l n f = F3 at *
  have KC : ∀ F, Tab F n → ∀ A' c' w, RtAt w w.heap.size A' F → Calls Try.prog 14 #[.slice A' F.length c', .int .i64 n] w (OutI w 0) := fun F hF A' c' w h => by
    have := pcheck_any A' c' F n w (by have := hF.1.1; omega) h
    rw [(chk_zero F n).2 hF] at this
    exact this
  have KK : ∀ F, Tab F n → Kept l F → ∀ A' c' w, RtAt w w.heap.size A l → RtAt w w.heap.size A' F → Calls Try.prog 28 #[.slice A l.length c, .slice A' F.length c'] w (OutB w true) := fun F hF hK A' c' w h1 h2 =>
    kept_any A c l A' c' F w (by have := TB.out.1.1; omega) (by have := hF.1.1; omega) h1 h2 (kept_hit TB.out.2.1.2 hK)
  have C1 := Lib.hid (KC F1 t1)
  have C2 := Lib.hid (KC F2 t2)
  have C3 := Lib.hid (KC F3 t3)
  have E1 := Lib.hid (KK F1 t1 k1)
  have E2 := Lib.hid (KK F2 t2 k2)
  have E3 := Lib.hid (KK F3 t3 k3)
  clear t1 t2 t3 k1 k2 k3 KC KK TL TT LN TB
  go_enter Try.func8, Try.ntmps8
  go_wp2_with fail
  have xb := blk_new w (.cells #[.int .i64 f, .int .i64 k, .slice A2 adv.length c2] 31)
  refine (K5.out _ HA.out).mono ?_
  rintro _ wa ⟨rfl, hb⟩
  have BA := Lib.hid ((alloc_below w _).trans (hb.mono (by simp)))
  have xa := Lib.hid (blk_below xb hb (by simp))
  have HA := Lib.hid (HA.out.next hb)
  have HA2 := Lib.hid (HA2.out.next hb)
  clear hb xb
  go_wp2_with fail
  clear K5
  have HC := Lib.hid (fun (wz : World) (h : Below wa.heap.size wa wz) => (show wz.cell? ⟨w.heap.size, 0, none⟩ = some (.int .i64 f) ∧ wz.cell? ⟨w.heap.size, 1, none⟩ = some (.int .i64 k) ∧ wz.cell? ⟨w.heap.size, 2, none⟩ = some (.slice A2 adv.length c2) from by
    have x := blk_below xa.out h (blk_lt xa.out)
    exact ⟨blk_cell x 0 rfl, blk_cell x 1 rfl, blk_cell x 2 rfl⟩))
  have Z0 : Below wa.heap.size wa wa.drew := (Below.refl _ _).drew
  have HA := Lib.hid (HA.out.next Z0)
  have HA2 := Lib.hid (HA2.out.next Z0)
  go_cut [7] from 25 to 42 (fun p wx => Keeps w F1 F2 F3 p wx)
  case first => as_aux_lemma =>
    refine wp_region_held_drew (S := (fun w' : World => w'.cell? ⟨w.heap.size, 0, none⟩ = some (.int .i64 f) ∧ w'.cell? ⟨w.heap.size, 1, none⟩ = some (.int .i64 k) ∧ w'.cell? ⟨w.heap.size, 2, none⟩ = some (.slice A2 adv.length c2))) (by kernel_rfl) (HC.out _ Z0) (fun hHeld => ?_)
    refine wpAnyH_take (i := 0) (v := (.slice A l.length c)) at_zero (by kernel_rfl) (by kernel_rfl) (by kernel_rfl) (fun _ _ _ h => h) (Or.inl ⟨by kernel_rfl, fun wy hSw => ?_⟩) (by assumption) ?_
    · (try dsimp only at hSw); go_simp
    try simp only [Act.put, List.setIfInBounds_toArray, List.set_cons_zero, List.set_cons_succ]
    refine wpAnyH_take (i := 1) (v := (.int .i64 n)) (at_succ at_zero) (by kernel_rfl) (by kernel_rfl) (by kernel_rfl) (fun _ _ _ h => h) (Or.inl ⟨by kernel_rfl, fun wy hSw => ?_⟩) (by assumption) ?_
    · (try dsimp only at hSw); go_simp
    try simp only [Act.put, List.setIfInBounds_toArray, List.set_cons_zero, List.set_cons_succ]
    refine wpAnyH_take (i := 3) (v := (.slice A l.length c)) (at_succ (at_succ (at_succ at_zero))) (by kernel_rfl) (by kernel_rfl) (by kernel_rfl) (fun _ _ _ h => h) (Or.inl ⟨by kernel_rfl, fun wy hSw => ?_⟩) (by assumption) ?_
    · (try dsimp only at hSw); go_simp
    try simp only [Act.put, List.setIfInBounds_toArray, List.set_cons_zero, List.set_cons_succ]
    refine wpAnyH_take (i := 4) (v := (.int .i64 n)) (at_succ (at_succ (at_succ (at_succ at_zero)))) (by kernel_rfl) (by kernel_rfl) (by kernel_rfl) (fun _ _ _ h => h) (Or.inl ⟨by kernel_rfl, fun wy hSw => ?_⟩) (by assumption) ?_
    · (try dsimp only at hSw); go_simp
    try simp only [Act.put, List.setIfInBounds_toArray, List.set_cons_zero, List.set_cons_succ]
    refine wpAnyH_take (i := 5) (v := (.pointer (some ⟨w.heap.size, 0, none⟩))) (at_succ (at_succ (at_succ (at_succ (at_succ at_zero))))) (by kernel_rfl) (by kernel_rfl) (by kernel_rfl) (fun _ _ _ h => h) (Or.inl ⟨by kernel_rfl, fun wy hSw => ?_⟩) (by assumption) ?_
    · (try dsimp only at hSw); go_simp
    try simp only [Act.put, List.setIfInBounds_toArray, List.set_cons_zero, List.set_cons_succ]
    refine wpAnyH_take (i := 6) (v := (.int .i64 f)) (at_succ (at_succ (at_succ (at_succ (at_succ (at_succ at_zero)))))) (by kernel_rfl) (by kernel_rfl) (by kernel_rfl) (fun _ _ _ h => h) (Or.inl ⟨by kernel_rfl, fun wy hSw => ?_⟩) (by assumption) ?_
    · (try dsimp only at hSw); go_simp
    try simp only [Act.put, List.setIfInBounds_toArray, List.set_cons_zero, List.set_cons_succ]
    refine wpAnyH_take (i := 7) (v := (.pointer (some ⟨w.heap.size, 1, none⟩))) (at_succ (at_succ (at_succ (at_succ (at_succ (at_succ (at_succ at_zero))))))) (by kernel_rfl) (by kernel_rfl) (by kernel_rfl) (fun _ _ _ h => h) (Or.inl ⟨by kernel_rfl, fun wy hSw => ?_⟩) (by assumption) ?_
    · (try dsimp only at hSw); go_simp
    try simp only [Act.put, List.setIfInBounds_toArray, List.set_cons_zero, List.set_cons_succ]
    refine wpAnyH_take (i := 8) (v := (.int .i64 k)) (at_succ (at_succ (at_succ (at_succ (at_succ (at_succ (at_succ (at_succ at_zero)))))))) (by kernel_rfl) (by kernel_rfl) (by kernel_rfl) (fun _ _ _ h => h) (Or.inl ⟨by kernel_rfl, fun wy hSw => ?_⟩) (by assumption) ?_
    · (try dsimp only at hSw); go_simp
    try simp only [Act.put, List.setIfInBounds_toArray, List.set_cons_zero, List.set_cons_succ]
    refine wpAnyH_take (i := 9) (v := (.pointer (some ⟨w.heap.size, 2, none⟩))) (at_succ (at_succ (at_succ (at_succ (at_succ (at_succ (at_succ (at_succ (at_succ at_zero))))))))) (by kernel_rfl) (by kernel_rfl) (by kernel_rfl) (fun _ _ _ h => h) (Or.inl ⟨by kernel_rfl, fun wy hSw => ?_⟩) (by assumption) ?_
    · (try dsimp only at hSw); go_simp
    try simp only [Act.put, List.setIfInBounds_toArray, List.set_cons_zero, List.set_cons_succ]
    refine wpAnyH_take (i := 10) (v := (.slice A2 adv.length c2)) (at_succ (at_succ (at_succ (at_succ (at_succ (at_succ (at_succ (at_succ (at_succ (at_succ at_zero)))))))))) (by kernel_rfl) (by kernel_rfl) (by kernel_rfl) (fun _ _ _ h => h) (Or.inl ⟨by kernel_rfl, fun wy hSw => ?_⟩) (by assumption) ?_
    · (try dsimp only at hSw); go_simp
    try simp only [Act.put, List.setIfInBounds_toArray, List.set_cons_zero, List.set_cons_succ]
    refine wpAnyH_take (i := 12) (v := (.slice A l.length c)) (at_succ (at_succ (at_succ (at_succ (at_succ (at_succ (at_succ (at_succ (at_succ (at_succ (at_succ (at_succ at_zero)))))))))))) (by kernel_rfl) (by kernel_rfl) (by kernel_rfl) (fun _ _ _ h => h) (Or.inl ⟨by kernel_rfl, fun wy hSw => ?_⟩) (by assumption) ?_
    · (try dsimp only at hSw); go_simp
    try simp only [Act.put, List.setIfInBounds_toArray, List.set_cons_zero, List.set_cons_succ]
    refine wpAnyH_take (i := 13) (v := (.int .i64 n)) (at_succ (at_succ (at_succ (at_succ (at_succ (at_succ (at_succ (at_succ (at_succ (at_succ (at_succ (at_succ (at_succ at_zero))))))))))))) (by kernel_rfl) (by kernel_rfl) (by kernel_rfl) (fun _ _ _ h => h) (Or.inl ⟨by kernel_rfl, fun wy hSw => ?_⟩) (by assumption) ?_
    · (try dsimp only at hSw); go_simp
    try simp only [Act.put, List.setIfInBounds_toArray, List.set_cons_zero, List.set_cons_succ]
    refine wpAnyH_take (i := 14) (v := (.pointer (some ⟨w.heap.size, 0, none⟩))) (at_succ (at_succ (at_succ (at_succ (at_succ (at_succ (at_succ (at_succ (at_succ (at_succ (at_succ (at_succ (at_succ (at_succ at_zero)))))))))))))) (by kernel_rfl) (by kernel_rfl) (by kernel_rfl) (fun _ _ _ h => h) (Or.inl ⟨by kernel_rfl, fun wy hSw => ?_⟩) (by assumption) ?_
    · (try dsimp only at hSw); go_simp
    try simp only [Act.put, List.setIfInBounds_toArray, List.set_cons_zero, List.set_cons_succ]
    refine wpAnyH_take (i := 15) (v := (.int .i64 f)) (at_succ (at_succ (at_succ (at_succ (at_succ (at_succ (at_succ (at_succ (at_succ (at_succ (at_succ (at_succ (at_succ (at_succ (at_succ at_zero))))))))))))))) (by kernel_rfl) (by kernel_rfl) (by kernel_rfl) (fun _ _ _ h => h) (Or.inl ⟨by kernel_rfl, fun wy hSw => ?_⟩) (by assumption) ?_
    · (try dsimp only at hSw); go_simp
    try simp only [Act.put, List.setIfInBounds_toArray, List.set_cons_zero, List.set_cons_succ]
    refine wpAnyH_ready (rs := [2, 18]) (by kernel_rfl) (by simp) ?_
    refine AllReadyH.cons (at_succ (at_succ at_zero)) (fun K hK => ?_) (AllReadyH.cons (at_succ (at_succ (at_succ (at_succ (at_succ (at_succ (at_succ (at_succ (at_succ (at_succ (at_succ (at_succ (at_succ (at_succ (at_succ (at_succ (at_succ (at_succ at_zero)))))))))))))))))) (fun K hK => ?_) AllReadyH.nil)
    · rw [if_pos (by kernel_rfl)]
      go_simp
      refine (K1.out _ HA.out).mono ?_
      rintro _ wc1 ⟨v, rfl, ho, hb⟩
      obtain ⟨X1_A, X1_c, rfl, hs, X1_h, X1_n⟩ := ho.read
      clear hs X1_h X1_n
      have HA := Lib.hid (HA.out.next hb)
      have HA2 := Lib.hid (HA2.out.next hb)
      have O1 := Lib.hid ho
      have S1 := hb.size
      have Z1 := Z0.trans (hb.mono Z0.size)
      clear hb hHeld ho
      go_wp2_with fail
      refine hK.out _ _ (HC.out _ Z1) (fun hHeld => ?_)
      clear hK K
      try simp only [Act.put, List.setIfInBounds_toArray, List.set_cons_zero, List.set_cons_succ]
      refine wpAnyH_ready (rs := [11, 18]) (by kernel_rfl) (by simp) ?_
      refine AllReadyH.cons (at_succ (at_succ (at_succ (at_succ (at_succ (at_succ (at_succ (at_succ (at_succ (at_succ (at_succ at_zero))))))))))) (fun K hK => ?_) (AllReadyH.cons (at_succ (at_succ (at_succ (at_succ (at_succ (at_succ (at_succ (at_succ (at_succ (at_succ (at_succ (at_succ (at_succ (at_succ (at_succ (at_succ (at_succ (at_succ at_zero)))))))))))))))))) (fun K hK => ?_) AllReadyH.nil)
      · rw [if_pos (by kernel_rfl)]
        go_simp
        refine (K2.out _ HA.out HA2.out).mono ?_
        rintro _ wc2 ⟨v, rfl, ho, hb⟩
        obtain ⟨X2_A, X2_c, rfl, hs, X2_h, X2_n⟩ := ho.read
        clear hs X2_h X2_n
        have HA := Lib.hid (HA.out.next hb)
        have HA2 := Lib.hid (HA2.out.next hb)
        have O1 := Lib.hid (O1.out.below hb)
        have O2 := Lib.hid ho
        have S2 := hb.size
        have Z2 := Z1.trans (hb.mono Z1.size)
        clear hb hHeld ho
        go_wp2_with fail
        refine hK.out _ _ (HC.out _ Z2) (fun hHeld => ?_)
        clear hK K
        try simp only [Act.put, List.setIfInBounds_toArray, List.set_cons_zero, List.set_cons_succ]
        refine wpAnyH_ready (rs := [16, 18]) (by kernel_rfl) (by simp) ?_
        refine AllReadyH.cons (at_succ (at_succ (at_succ (at_succ (at_succ (at_succ (at_succ (at_succ (at_succ (at_succ (at_succ (at_succ (at_succ (at_succ (at_succ (at_succ at_zero)))))))))))))))) (fun K hK => ?_) (AllReadyH.cons (at_succ (at_succ (at_succ (at_succ (at_succ (at_succ (at_succ (at_succ (at_succ (at_succ (at_succ (at_succ (at_succ (at_succ (at_succ (at_succ (at_succ (at_succ at_zero)))))))))))))))))) (fun K hK => ?_) AllReadyH.nil)
        · rw [if_pos (by kernel_rfl)]
          go_simp
          refine (K3.out _ HA.out).mono ?_
          rintro _ wc3 ⟨v, rfl, ho, hb⟩
          obtain ⟨X3_A, X3_c, rfl, hs, X3_h, X3_n⟩ := ho.read
          clear hs X3_h X3_n
          have HA := Lib.hid (HA.out.next hb)
          have HA2 := Lib.hid (HA2.out.next hb)
          have O1 := Lib.hid (O1.out.below hb)
          have O2 := Lib.hid (O2.out.below hb)
          have O3 := Lib.hid ho
          have S3 := hb.size
          have Z3 := Z2.trans (hb.mono Z2.size)
          clear hb hHeld ho
          go_wp2_with fail
          refine hK.out _ _ (HC.out _ Z3) (fun hHeld => ?_)
          clear hK K
          try simp only [Act.put, List.setIfInBounds_toArray, List.set_cons_zero, List.set_cons_succ]
          refine wpAnyH_take (i := 17) (v := (.agg #[(.slice X1_A F1.length X1_c), (.slice X2_A F2.length X2_c), (.slice X3_A F3.length X3_c)])) (at_succ (at_succ (at_succ (at_succ (at_succ (at_succ (at_succ (at_succ (at_succ (at_succ (at_succ (at_succ (at_succ (at_succ (at_succ (at_succ (at_succ at_zero))))))))))))))))) (by kernel_rfl) (by kernel_rfl) (by kernel_rfl) (fun _ _ _ h => h) (Or.inl ⟨by kernel_rfl, fun wy hSw => ?_⟩) (by assumption) ?_
          · (try dsimp only at hSw); go_simp
          try simp only [Act.put, List.setIfInBounds_toArray, List.set_cons_zero, List.set_cons_succ]
          refine wpAnyH_ready (rs := [18]) (by kernel_rfl) (by simp) ?_
          refine AllReadyH.cons (at_succ (at_succ (at_succ (at_succ (at_succ (at_succ (at_succ (at_succ (at_succ (at_succ (at_succ (at_succ (at_succ (at_succ (at_succ (at_succ (at_succ (at_succ at_zero)))))))))))))))))) (fun K hK => ?_) AllReadyH.nil
          · rw [if_pos (by kernel_rfl)]
            go_simp
            have Z4 := Z3.alloc Z3.size (.cells #[.slice none 0 0, .slice none 0 0, .slice none 0 0] 45)
            have M1 := Lib.hid (fun g (hg : Value.ownBlock (.slice X1_A F1.length X1_c) = some g) => (show g ≠ wc3.heap.size from by have := (O1.out.lt g hg).2; omega))
            have M2 := Lib.hid (fun g (hg : Value.ownBlock (.slice X2_A F2.length X2_c) = some g) => (show g ≠ wc3.heap.size from by have := (O2.out.lt g hg).2; omega))
            have M3 := Lib.hid (fun g (hg : Value.ownBlock (.slice X3_A F3.length X3_c) = some g) => (show g ≠ wc3.heap.size from by have := (O3.out.lt g hg).2; omega))
            have HA := Lib.hid (HA.out.next (alloc_below _ (.cells #[.slice none 0 0, .slice none 0 0, .slice none 0 0] 45)))
            have HA2 := Lib.hid (HA2.out.next (alloc_below _ (.cells #[.slice none 0 0, .slice none 0 0, .slice none 0 0] 45)))
            have OO1 := O1
            have O1 := Lib.hid (O1.out.alloc (.cells #[.slice none 0 0, .slice none 0 0, .slice none 0 0] 45))
            have OO2 := O2
            have O2 := Lib.hid (O2.out.alloc (.cells #[.slice none 0 0, .slice none 0 0, .slice none 0 0] 45))
            have OO3 := O3
            have O3 := Lib.hid (O3.out.alloc (.cells #[.slice none 0 0, .slice none 0 0, .slice none 0 0] 45))
            have BK : (wc3.alloc (.cells #[.slice none 0 0, .slice none 0 0, .slice none 0 0] 45)).heap[wc3.heap.size]? = some (.cells #[.slice none 0 0, .slice none 0 0, .slice none 0 0] 45 (0, 0)) := blk_new _ _
            have HNB := Lib.hid (show wc3.heap.size < (wc3.alloc (.cells #[.slice none 0 0, .slice none 0 0, .slice none 0 0] 45)).heap.size by simp)
            have NW := Lib.hid (show wa.heap.size ≤ wc3.heap.size from Z3.size)
            clear hHeld
            refine hK.out _ _ (HC.out _ Z4) (fun hHeld => ?_)
            clear hK K
            try simp only [Act.put, List.setIfInBounds_toArray, List.set_cons_zero, List.set_cons_succ]
            refine wpAnyH_ready (rs := [19]) (by kernel_rfl) (by simp) ?_
            refine AllReadyH.cons (at_succ (at_succ (at_succ (at_succ (at_succ (at_succ (at_succ (at_succ (at_succ (at_succ (at_succ (at_succ (at_succ (at_succ (at_succ (at_succ (at_succ (at_succ (at_succ at_zero))))))))))))))))))) (fun K hK => ?_) AllReadyH.nil
            · rw [if_pos (by kernel_rfl)]
              have c0 := blk_cell BK 0 rfl
              have c1 := blk_cell BK 1 rfl
              have c2 := blk_cell BK 2 rfl
              have f0 := blk_fr BK 0
              have f1 := blk_fr BK 1
              have f2 := blk_fr BK 2
              clear c0 c1 c2 f0 f1 f2
              go_simp
              have Z5 := Z3.alloc Z3.size (.cells #[(.slice X1_A F1.length X1_c), (.slice X2_A F2.length X2_c), (.slice X3_A F3.length X3_c)] 45)
              have O1 := Lib.hid (OO1.out.alloc (.cells #[(.slice X1_A F1.length X1_c), (.slice X2_A F2.length X2_c), (.slice X3_A F3.length X3_c)] 45))
              have O2 := Lib.hid (OO2.out.alloc (.cells #[(.slice X1_A F1.length X1_c), (.slice X2_A F2.length X2_c), (.slice X3_A F3.length X3_c)] 45))
              have O3 := Lib.hid (OO3.out.alloc (.cells #[(.slice X1_A F1.length X1_c), (.slice X2_A F2.length X2_c), (.slice X3_A F3.length X3_c)] 45))
              have BK := blk_new wc3 (.cells #[(.slice X1_A F1.length X1_c), (.slice X2_A F2.length X2_c), (.slice X3_A F3.length X3_c)] 45)
              clear hHeld
              refine hK.out _ _ (HC.out _ Z5) (fun hHeld => ?_)
              clear hK K
              try simp only [Act.put, List.setIfInBounds_toArray, List.set_cons_zero, List.set_cons_succ]
              refine wpAnyH_done (by kernel_rfl) ?_ _
              go_wp2_with fail
              go_meet
              exact ⟨_, _, _, _, _, _, _, rfl, BK, ⟨row_at O1.out, row_at O2.out, row_at O3.out⟩, BA.out.trans (Z5.mono BA.out.size)⟩
        · rw [if_pos (by kernel_rfl)]
          go_simp
          have Z3 := Z2.alloc Z2.size (.cells #[.slice none 0 0, .slice none 0 0, .slice none 0 0] 45)
          have M1 := Lib.hid (fun g (hg : Value.ownBlock (.slice X1_A F1.length X1_c) = some g) => (show g ≠ wc2.heap.size from by have := (O1.out.lt g hg).2; omega))
          have M2 := Lib.hid (fun g (hg : Value.ownBlock (.slice X2_A F2.length X2_c) = some g) => (show g ≠ wc2.heap.size from by have := (O2.out.lt g hg).2; omega))
          have HA := Lib.hid (HA.out.next (alloc_below _ (.cells #[.slice none 0 0, .slice none 0 0, .slice none 0 0] 45)))
          have HA2 := Lib.hid (HA2.out.next (alloc_below _ (.cells #[.slice none 0 0, .slice none 0 0, .slice none 0 0] 45)))
          have OO1 := O1
          have O1 := Lib.hid (O1.out.alloc (.cells #[.slice none 0 0, .slice none 0 0, .slice none 0 0] 45))
          have OO2 := O2
          have O2 := Lib.hid (O2.out.alloc (.cells #[.slice none 0 0, .slice none 0 0, .slice none 0 0] 45))
          have BK : (wc2.alloc (.cells #[.slice none 0 0, .slice none 0 0, .slice none 0 0] 45)).heap[wc2.heap.size]? = some (.cells #[.slice none 0 0, .slice none 0 0, .slice none 0 0] 45 (0, 0)) := blk_new _ _
          have HNB := Lib.hid (show wc2.heap.size < (wc2.alloc (.cells #[.slice none 0 0, .slice none 0 0, .slice none 0 0] 45)).heap.size by simp)
          have NW := Lib.hid (show wa.heap.size ≤ wc2.heap.size from Z2.size)
          clear hHeld
          refine hK.out _ _ (HC.out _ Z3) (fun hHeld => ?_)
          clear hK K
          try simp only [Act.put, List.setIfInBounds_toArray, List.set_cons_zero, List.set_cons_succ]
          refine wpAnyH_ready (rs := [16]) (by kernel_rfl) (by simp) ?_
          refine AllReadyH.cons (at_succ (at_succ (at_succ (at_succ (at_succ (at_succ (at_succ (at_succ (at_succ (at_succ (at_succ (at_succ (at_succ (at_succ (at_succ (at_succ at_zero)))))))))))))))) (fun K hK => ?_) AllReadyH.nil
          · rw [if_pos (by kernel_rfl)]
            go_simp
            refine (K3.out _ HA.out).mono ?_
            rintro _ wc3 ⟨v, rfl, ho, hb⟩
            obtain ⟨X3_A, X3_c, rfl, hs, X3_h, X3_n⟩ := ho.read
            clear hs X3_h X3_n
            have HA := Lib.hid (HA.out.next hb)
            have HA2 := Lib.hid (HA2.out.next hb)
            have O1 := Lib.hid (O1.out.below hb)
            have O2 := Lib.hid (O2.out.below hb)
            have BK := blk_below BK hb (by have := blk_lt BK; omega)
            have O3 := Lib.hid ho
            have S3 := hb.size
            have M3 := Lib.hid (fun g (hg : Value.ownBlock (.slice X3_A F3.length X3_c) = some g) => (show g ≠ wc2.heap.size from by have := (ho.lt g hg).1; have := HNB.out; (try simp only [World.size_alloc] at *); omega))
            have Z4 := Z3.trans (hb.mono Z3.size)
            clear hb hHeld ho
            go_wp2_with fail
            refine hK.out _ _ (HC.out _ Z4) (fun hHeld => ?_)
            clear hK K
            try simp only [Act.put, List.setIfInBounds_toArray, List.set_cons_zero, List.set_cons_succ]
            refine wpAnyH_take (i := 17) (v := (.agg #[(.slice X1_A F1.length X1_c), (.slice X2_A F2.length X2_c), (.slice X3_A F3.length X3_c)])) (at_succ (at_succ (at_succ (at_succ (at_succ (at_succ (at_succ (at_succ (at_succ (at_succ (at_succ (at_succ (at_succ (at_succ (at_succ (at_succ (at_succ at_zero))))))))))))))))) (by kernel_rfl) (by kernel_rfl) (by kernel_rfl) (fun _ _ _ h => h) (Or.inl ⟨by kernel_rfl, fun wy hSw => ?_⟩) (by assumption) ?_
            · (try dsimp only at hSw); go_simp
            try simp only [Act.put, List.setIfInBounds_toArray, List.set_cons_zero, List.set_cons_succ]
            refine wpAnyH_ready (rs := [19]) (by kernel_rfl) (by simp) ?_
            refine AllReadyH.cons (at_succ (at_succ (at_succ (at_succ (at_succ (at_succ (at_succ (at_succ (at_succ (at_succ (at_succ (at_succ (at_succ (at_succ (at_succ (at_succ (at_succ (at_succ (at_succ at_zero))))))))))))))))))) (fun K hK => ?_) AllReadyH.nil
            · rw [if_pos (by kernel_rfl)]
              have c0 := blk_cell BK 0 rfl
              have c1 := blk_cell BK 1 rfl
              have c2 := blk_cell BK 2 rfl
              have f0 := blk_fr BK 0
              have f1 := blk_fr BK 1
              have f2 := blk_fr BK 2
              go_simp
              have O1 := Lib.hid (row_three O1.out (.slice X1_A F1.length X1_c) (.slice X2_A F2.length X2_c) (.slice X3_A F3.length X3_c) M1.out)
              have O2 := Lib.hid (row_three O2.out (.slice X1_A F1.length X1_c) (.slice X2_A F2.length X2_c) (.slice X3_A F3.length X3_c) M2.out)
              have O3 := Lib.hid (row_three O3.out (.slice X1_A F1.length X1_c) (.slice X2_A F2.length X2_c) (.slice X3_A F3.length X3_c) M3.out)
              have Z5 : Below wa.heap.size wa (((wc3.setCell ⟨wc2.heap.size, 0, none⟩ (.slice X1_A F1.length X1_c)).setCell ⟨wc2.heap.size, 1, none⟩ (.slice X2_A F2.length X2_c)).setCell ⟨wc2.heap.size, 2, none⟩ (.slice X3_A F3.length X3_c)) := ((Z4.setCell NW.out _).setCell NW.out _).setCell NW.out _
              have BK := blk_set (blk_set (blk_set BK 0 (.slice X1_A F1.length X1_c)) 1 (.slice X2_A F2.length X2_c)) 2 (.slice X3_A F3.length X3_c)
              clear hHeld
              refine hK.out _ _ (HC.out _ Z5) (fun hHeld => ?_)
              clear hK K
              try simp only [Act.put, List.setIfInBounds_toArray, List.set_cons_zero, List.set_cons_succ]
              refine wpAnyH_done (by kernel_rfl) ?_ _
              go_wp2_with fail
              go_meet
              exact ⟨_, _, _, _, _, _, _, rfl, BK, ⟨row_at O1.out, row_at O2.out, row_at O3.out⟩, BA.out.trans (Z5.mono BA.out.size)⟩
      · rw [if_pos (by kernel_rfl)]
        go_simp
        have Z2 := Z1.alloc Z1.size (.cells #[.slice none 0 0, .slice none 0 0, .slice none 0 0] 45)
        have M1 := Lib.hid (fun g (hg : Value.ownBlock (.slice X1_A F1.length X1_c) = some g) => (show g ≠ wc1.heap.size from by have := (O1.out.lt g hg).2; omega))
        have HA := Lib.hid (HA.out.next (alloc_below _ (.cells #[.slice none 0 0, .slice none 0 0, .slice none 0 0] 45)))
        have HA2 := Lib.hid (HA2.out.next (alloc_below _ (.cells #[.slice none 0 0, .slice none 0 0, .slice none 0 0] 45)))
        have OO1 := O1
        have O1 := Lib.hid (O1.out.alloc (.cells #[.slice none 0 0, .slice none 0 0, .slice none 0 0] 45))
        have BK : (wc1.alloc (.cells #[.slice none 0 0, .slice none 0 0, .slice none 0 0] 45)).heap[wc1.heap.size]? = some (.cells #[.slice none 0 0, .slice none 0 0, .slice none 0 0] 45 (0, 0)) := blk_new _ _
        have HNB := Lib.hid (show wc1.heap.size < (wc1.alloc (.cells #[.slice none 0 0, .slice none 0 0, .slice none 0 0] 45)).heap.size by simp)
        have NW := Lib.hid (show wa.heap.size ≤ wc1.heap.size from Z1.size)
        clear hHeld
        refine hK.out _ _ (HC.out _ Z2) (fun hHeld => ?_)
        clear hK K
        try simp only [Act.put, List.setIfInBounds_toArray, List.set_cons_zero, List.set_cons_succ]
        refine wpAnyH_ready (rs := [11]) (by kernel_rfl) (by simp) ?_
        refine AllReadyH.cons (at_succ (at_succ (at_succ (at_succ (at_succ (at_succ (at_succ (at_succ (at_succ (at_succ (at_succ at_zero))))))))))) (fun K hK => ?_) AllReadyH.nil
        · rw [if_pos (by kernel_rfl)]
          go_simp
          refine (K2.out _ HA.out HA2.out).mono ?_
          rintro _ wc2 ⟨v, rfl, ho, hb⟩
          obtain ⟨X2_A, X2_c, rfl, hs, X2_h, X2_n⟩ := ho.read
          clear hs X2_h X2_n
          have HA := Lib.hid (HA.out.next hb)
          have HA2 := Lib.hid (HA2.out.next hb)
          have O1 := Lib.hid (O1.out.below hb)
          have BK := blk_below BK hb (by have := blk_lt BK; omega)
          have O2 := Lib.hid ho
          have S2 := hb.size
          have M2 := Lib.hid (fun g (hg : Value.ownBlock (.slice X2_A F2.length X2_c) = some g) => (show g ≠ wc1.heap.size from by have := (ho.lt g hg).1; have := HNB.out; (try simp only [World.size_alloc] at *); omega))
          have Z3 := Z2.trans (hb.mono Z2.size)
          clear hb hHeld ho
          go_wp2_with fail
          refine hK.out _ _ (HC.out _ Z3) (fun hHeld => ?_)
          clear hK K
          try simp only [Act.put, List.setIfInBounds_toArray, List.set_cons_zero, List.set_cons_succ]
          refine wpAnyH_ready (rs := [16]) (by kernel_rfl) (by simp) ?_
          refine AllReadyH.cons (at_succ (at_succ (at_succ (at_succ (at_succ (at_succ (at_succ (at_succ (at_succ (at_succ (at_succ (at_succ (at_succ (at_succ (at_succ (at_succ at_zero)))))))))))))))) (fun K hK => ?_) AllReadyH.nil
          · rw [if_pos (by kernel_rfl)]
            go_simp
            refine (K3.out _ HA.out).mono ?_
            rintro _ wc3 ⟨v, rfl, ho, hb⟩
            obtain ⟨X3_A, X3_c, rfl, hs, X3_h, X3_n⟩ := ho.read
            clear hs X3_h X3_n
            have HA := Lib.hid (HA.out.next hb)
            have HA2 := Lib.hid (HA2.out.next hb)
            have O1 := Lib.hid (O1.out.below hb)
            have O2 := Lib.hid (O2.out.below hb)
            have BK := blk_below BK hb (by have := blk_lt BK; omega)
            have O3 := Lib.hid ho
            have S3 := hb.size
            have M3 := Lib.hid (fun g (hg : Value.ownBlock (.slice X3_A F3.length X3_c) = some g) => (show g ≠ wc1.heap.size from by have := (ho.lt g hg).1; have := HNB.out; (try simp only [World.size_alloc] at *); omega))
            have Z4 := Z3.trans (hb.mono Z3.size)
            clear hb hHeld ho
            go_wp2_with fail
            refine hK.out _ _ (HC.out _ Z4) (fun hHeld => ?_)
            clear hK K
            try simp only [Act.put, List.setIfInBounds_toArray, List.set_cons_zero, List.set_cons_succ]
            refine wpAnyH_take (i := 17) (v := (.agg #[(.slice X1_A F1.length X1_c), (.slice X2_A F2.length X2_c), (.slice X3_A F3.length X3_c)])) (at_succ (at_succ (at_succ (at_succ (at_succ (at_succ (at_succ (at_succ (at_succ (at_succ (at_succ (at_succ (at_succ (at_succ (at_succ (at_succ (at_succ at_zero))))))))))))))))) (by kernel_rfl) (by kernel_rfl) (by kernel_rfl) (fun _ _ _ h => h) (Or.inl ⟨by kernel_rfl, fun wy hSw => ?_⟩) (by assumption) ?_
            · (try dsimp only at hSw); go_simp
            try simp only [Act.put, List.setIfInBounds_toArray, List.set_cons_zero, List.set_cons_succ]
            refine wpAnyH_ready (rs := [19]) (by kernel_rfl) (by simp) ?_
            refine AllReadyH.cons (at_succ (at_succ (at_succ (at_succ (at_succ (at_succ (at_succ (at_succ (at_succ (at_succ (at_succ (at_succ (at_succ (at_succ (at_succ (at_succ (at_succ (at_succ (at_succ at_zero))))))))))))))))))) (fun K hK => ?_) AllReadyH.nil
            · rw [if_pos (by kernel_rfl)]
              have c0 := blk_cell BK 0 rfl
              have c1 := blk_cell BK 1 rfl
              have c2 := blk_cell BK 2 rfl
              have f0 := blk_fr BK 0
              have f1 := blk_fr BK 1
              have f2 := blk_fr BK 2
              go_simp
              have O1 := Lib.hid (row_three O1.out (.slice X1_A F1.length X1_c) (.slice X2_A F2.length X2_c) (.slice X3_A F3.length X3_c) M1.out)
              have O2 := Lib.hid (row_three O2.out (.slice X1_A F1.length X1_c) (.slice X2_A F2.length X2_c) (.slice X3_A F3.length X3_c) M2.out)
              have O3 := Lib.hid (row_three O3.out (.slice X1_A F1.length X1_c) (.slice X2_A F2.length X2_c) (.slice X3_A F3.length X3_c) M3.out)
              have Z5 : Below wa.heap.size wa (((wc3.setCell ⟨wc1.heap.size, 0, none⟩ (.slice X1_A F1.length X1_c)).setCell ⟨wc1.heap.size, 1, none⟩ (.slice X2_A F2.length X2_c)).setCell ⟨wc1.heap.size, 2, none⟩ (.slice X3_A F3.length X3_c)) := ((Z4.setCell NW.out _).setCell NW.out _).setCell NW.out _
              have BK := blk_set (blk_set (blk_set BK 0 (.slice X1_A F1.length X1_c)) 1 (.slice X2_A F2.length X2_c)) 2 (.slice X3_A F3.length X3_c)
              clear hHeld
              refine hK.out _ _ (HC.out _ Z5) (fun hHeld => ?_)
              clear hK K
              try simp only [Act.put, List.setIfInBounds_toArray, List.set_cons_zero, List.set_cons_succ]
              refine wpAnyH_done (by kernel_rfl) ?_ _
              go_wp2_with fail
              go_meet
              exact ⟨_, _, _, _, _, _, _, rfl, BK, ⟨row_at O1.out, row_at O2.out, row_at O3.out⟩, BA.out.trans (Z5.mono BA.out.size)⟩
    · rw [if_pos (by kernel_rfl)]
      go_simp
      have Z1 := Z0.alloc Z0.size (.cells #[.slice none 0 0, .slice none 0 0, .slice none 0 0] 45)
      have HA := Lib.hid (HA.out.next (alloc_below _ (.cells #[.slice none 0 0, .slice none 0 0, .slice none 0 0] 45)))
      have HA2 := Lib.hid (HA2.out.next (alloc_below _ (.cells #[.slice none 0 0, .slice none 0 0, .slice none 0 0] 45)))
      have BK : (wa.drew.alloc (.cells #[.slice none 0 0, .slice none 0 0, .slice none 0 0] 45)).heap[wa.heap.size]? = some (.cells #[.slice none 0 0, .slice none 0 0, .slice none 0 0] 45 (0, 0)) := blk_new _ _
      have HNB := Lib.hid (show wa.heap.size < (wa.drew.alloc (.cells #[.slice none 0 0, .slice none 0 0, .slice none 0 0] 45)).heap.size by simp)
      have NW := Lib.hid (show wa.heap.size ≤ wa.heap.size from Nat.le_refl _)
      clear hHeld
      refine hK.out _ _ (HC.out _ Z1) (fun hHeld => ?_)
      clear hK K
      try simp only [Act.put, List.setIfInBounds_toArray, List.set_cons_zero, List.set_cons_succ]
      refine wpAnyH_ready (rs := [2]) (by kernel_rfl) (by simp) ?_
      refine AllReadyH.cons (at_succ (at_succ at_zero)) (fun K hK => ?_) AllReadyH.nil
      · rw [if_pos (by kernel_rfl)]
        go_simp
        refine (K1.out _ HA.out).mono ?_
        rintro _ wc1 ⟨v, rfl, ho, hb⟩
        obtain ⟨X1_A, X1_c, rfl, hs, X1_h, X1_n⟩ := ho.read
        clear hs X1_h X1_n
        have HA := Lib.hid (HA.out.next hb)
        have HA2 := Lib.hid (HA2.out.next hb)
        have BK := blk_below BK hb (by have := blk_lt BK; omega)
        have O1 := Lib.hid ho
        have S1 := hb.size
        have M1 := Lib.hid (fun g (hg : Value.ownBlock (.slice X1_A F1.length X1_c) = some g) => (show g ≠ wa.heap.size from by have := (ho.lt g hg).1; have := HNB.out; (try simp only [World.size_alloc] at *); omega))
        have Z2 := Z1.trans (hb.mono Z1.size)
        clear hb hHeld ho
        go_wp2_with fail
        refine hK.out _ _ (HC.out _ Z2) (fun hHeld => ?_)
        clear hK K
        try simp only [Act.put, List.setIfInBounds_toArray, List.set_cons_zero, List.set_cons_succ]
        refine wpAnyH_ready (rs := [11]) (by kernel_rfl) (by simp) ?_
        refine AllReadyH.cons (at_succ (at_succ (at_succ (at_succ (at_succ (at_succ (at_succ (at_succ (at_succ (at_succ (at_succ at_zero))))))))))) (fun K hK => ?_) AllReadyH.nil
        · rw [if_pos (by kernel_rfl)]
          go_simp
          refine (K2.out _ HA.out HA2.out).mono ?_
          rintro _ wc2 ⟨v, rfl, ho, hb⟩
          obtain ⟨X2_A, X2_c, rfl, hs, X2_h, X2_n⟩ := ho.read
          clear hs X2_h X2_n
          have HA := Lib.hid (HA.out.next hb)
          have HA2 := Lib.hid (HA2.out.next hb)
          have O1 := Lib.hid (O1.out.below hb)
          have BK := blk_below BK hb (by have := blk_lt BK; omega)
          have O2 := Lib.hid ho
          have S2 := hb.size
          have M2 := Lib.hid (fun g (hg : Value.ownBlock (.slice X2_A F2.length X2_c) = some g) => (show g ≠ wa.heap.size from by have := (ho.lt g hg).1; have := HNB.out; (try simp only [World.size_alloc] at *); omega))
          have Z3 := Z2.trans (hb.mono Z2.size)
          clear hb hHeld ho
          go_wp2_with fail
          refine hK.out _ _ (HC.out _ Z3) (fun hHeld => ?_)
          clear hK K
          try simp only [Act.put, List.setIfInBounds_toArray, List.set_cons_zero, List.set_cons_succ]
          refine wpAnyH_ready (rs := [16]) (by kernel_rfl) (by simp) ?_
          refine AllReadyH.cons (at_succ (at_succ (at_succ (at_succ (at_succ (at_succ (at_succ (at_succ (at_succ (at_succ (at_succ (at_succ (at_succ (at_succ (at_succ (at_succ at_zero)))))))))))))))) (fun K hK => ?_) AllReadyH.nil
          · rw [if_pos (by kernel_rfl)]
            go_simp
            refine (K3.out _ HA.out).mono ?_
            rintro _ wc3 ⟨v, rfl, ho, hb⟩
            obtain ⟨X3_A, X3_c, rfl, hs, X3_h, X3_n⟩ := ho.read
            clear hs X3_h X3_n
            have HA := Lib.hid (HA.out.next hb)
            have HA2 := Lib.hid (HA2.out.next hb)
            have O1 := Lib.hid (O1.out.below hb)
            have O2 := Lib.hid (O2.out.below hb)
            have BK := blk_below BK hb (by have := blk_lt BK; omega)
            have O3 := Lib.hid ho
            have S3 := hb.size
            have M3 := Lib.hid (fun g (hg : Value.ownBlock (.slice X3_A F3.length X3_c) = some g) => (show g ≠ wa.heap.size from by have := (ho.lt g hg).1; have := HNB.out; (try simp only [World.size_alloc] at *); omega))
            have Z4 := Z3.trans (hb.mono Z3.size)
            clear hb hHeld ho
            go_wp2_with fail
            refine hK.out _ _ (HC.out _ Z4) (fun hHeld => ?_)
            clear hK K
            try simp only [Act.put, List.setIfInBounds_toArray, List.set_cons_zero, List.set_cons_succ]
            refine wpAnyH_take (i := 17) (v := (.agg #[(.slice X1_A F1.length X1_c), (.slice X2_A F2.length X2_c), (.slice X3_A F3.length X3_c)])) (at_succ (at_succ (at_succ (at_succ (at_succ (at_succ (at_succ (at_succ (at_succ (at_succ (at_succ (at_succ (at_succ (at_succ (at_succ (at_succ (at_succ at_zero))))))))))))))))) (by kernel_rfl) (by kernel_rfl) (by kernel_rfl) (fun _ _ _ h => h) (Or.inl ⟨by kernel_rfl, fun wy hSw => ?_⟩) (by assumption) ?_
            · (try dsimp only at hSw); go_simp
            try simp only [Act.put, List.setIfInBounds_toArray, List.set_cons_zero, List.set_cons_succ]
            refine wpAnyH_ready (rs := [19]) (by kernel_rfl) (by simp) ?_
            refine AllReadyH.cons (at_succ (at_succ (at_succ (at_succ (at_succ (at_succ (at_succ (at_succ (at_succ (at_succ (at_succ (at_succ (at_succ (at_succ (at_succ (at_succ (at_succ (at_succ (at_succ at_zero))))))))))))))))))) (fun K hK => ?_) AllReadyH.nil
            · rw [if_pos (by kernel_rfl)]
              have c0 := blk_cell BK 0 rfl
              have c1 := blk_cell BK 1 rfl
              have c2 := blk_cell BK 2 rfl
              have f0 := blk_fr BK 0
              have f1 := blk_fr BK 1
              have f2 := blk_fr BK 2
              go_simp
              have O1 := Lib.hid (row_three O1.out (.slice X1_A F1.length X1_c) (.slice X2_A F2.length X2_c) (.slice X3_A F3.length X3_c) M1.out)
              have O2 := Lib.hid (row_three O2.out (.slice X1_A F1.length X1_c) (.slice X2_A F2.length X2_c) (.slice X3_A F3.length X3_c) M2.out)
              have O3 := Lib.hid (row_three O3.out (.slice X1_A F1.length X1_c) (.slice X2_A F2.length X2_c) (.slice X3_A F3.length X3_c) M3.out)
              have Z5 : Below wa.heap.size wa (((wc3.setCell ⟨wa.heap.size, 0, none⟩ (.slice X1_A F1.length X1_c)).setCell ⟨wa.heap.size, 1, none⟩ (.slice X2_A F2.length X2_c)).setCell ⟨wa.heap.size, 2, none⟩ (.slice X3_A F3.length X3_c)) := ((Z4.setCell NW.out _).setCell NW.out _).setCell NW.out _
              have BK := blk_set (blk_set (blk_set BK 0 (.slice X1_A F1.length X1_c)) 1 (.slice X2_A F2.length X2_c)) 2 (.slice X3_A F3.length X3_c)
              clear hHeld
              refine hK.out _ _ (HC.out _ Z5) (fun hHeld => ?_)
              clear hK K
              try simp only [Act.put, List.setIfInBounds_toArray, List.set_cons_zero, List.set_cons_succ]
              refine wpAnyH_done (by kernel_rfl) ?_ _
              go_wp2_with fail
              go_meet
              exact ⟨_, _, _, _, _, _, _, rfl, BK, ⟨row_at O1.out, row_at O2.out, row_at O3.out⟩, BA.out.trans (Z5.mono BA.out.size)⟩
  case rest => as_aux_lemma =>
    obtain ⟨b, A1', c1', A2', c2', A3', c3', rfl, hbk, ⟨r1, r2, r3⟩, hB⟩ := hcut
    have BB := Lib.hid hB
    have bk := Lib.hid hbk
    have hbl := blk_lt hbk
    have R1 := Lib.hid r1
    have R2 := Lib.hid r2
    have R3 := Lib.hid r3
    have RL := Lib.hid (HAw.out.next hB)
    have hzB := hB.size
    clear hB hbk r1 r2 r3 HA HA2 HAw HC Z0 xa BA K1 K2 K3
    go_wp2_with fail
    go_loopw [8] (fun i wr => ∃ j : Nat, i = .int .i64 j ∧ j ≤ 3 ∧ Below wc.heap.size wc wr) (fun i _ => 3 - (intOf i).toNat)
    case atStart => exact ⟨0, rfl, by omega, Below.refl _ _⟩
    case round =>
      obtain ⟨j, rfl, hj, hb⟩ := hrel
      have BR := Lib.hid hb
      have hz := hb.size
      have bkr := blk_below bk.out hb hbl
      have g0 := blk_cell bkr 0 rfl
      have g1 := blk_cell bkr 1 rfl
      have g2 := blk_cell bkr 2 rfl
      have RL := Lib.hid (RL.out.next hb)
      have R1 := Lib.hid (R1.out.next hb)
      have R2 := Lib.hid (R2.out.next hb)
      have R3 := Lib.hid (R3.out.next hb)
      clear hb bkr
      rcases Nat.lt_or_ge j 3 with h3 | h3
      · rcases (show j = 0 ∨ j = 1 ∨ j = 2 by omega) with rfl | rfl | rfl
        · go_wp2_with fail
          refine (C1.out _ _ _ R1.out).mono ?_
          rintro _ w5 ⟨rfl, hb⟩
          have B5 := Lib.hid (BR.out.trans (hb.mono hz))
          have RL5 := Lib.hid (RL.out.next hb)
          have R5 := Lib.hid (R1.out.next hb)
          have bk5 := blk_below bk.out B5.out hbl
          have q0 := blk_cell bk5 0 rfl
          have q1 := blk_cell bk5 1 rfl
          have q2 := blk_cell bk5 2 rfl
          clear hb bk5
          go_wp2_with fail
          refine (E1.out _ _ _ RL5.out R5.out).mono ?_
          rintro _ w6 ⟨rfl, hb⟩
          have B6 := Lib.hid (B5.out.trans (hb.mono B5.out.size))
          clear hb
          go_wp2_with fail
          go_roundw
          case rel => exact ⟨1, by go_num, by omega, B6.out⟩
          case measure => simp [intOf]
        · go_wp2_with fail
          refine (C2.out _ _ _ R2.out).mono ?_
          rintro _ w5 ⟨rfl, hb⟩
          have B5 := Lib.hid (BR.out.trans (hb.mono hz))
          have RL5 := Lib.hid (RL.out.next hb)
          have R5 := Lib.hid (R2.out.next hb)
          have bk5 := blk_below bk.out B5.out hbl
          have q0 := blk_cell bk5 0 rfl
          have q1 := blk_cell bk5 1 rfl
          have q2 := blk_cell bk5 2 rfl
          clear hb bk5
          go_wp2_with fail
          refine (E2.out _ _ _ RL5.out R5.out).mono ?_
          rintro _ w6 ⟨rfl, hb⟩
          have B6 := Lib.hid (B5.out.trans (hb.mono B5.out.size))
          clear hb
          go_wp2_with fail
          go_roundw
          case rel => exact ⟨2, by go_num, by omega, B6.out⟩
          case measure => simp [intOf]
        · go_wp2_with fail
          refine (C3.out _ _ _ R3.out).mono ?_
          rintro _ w5 ⟨rfl, hb⟩
          have B5 := Lib.hid (BR.out.trans (hb.mono hz))
          have RL5 := Lib.hid (RL.out.next hb)
          have R5 := Lib.hid (R3.out.next hb)
          have bk5 := blk_below bk.out B5.out hbl
          have q0 := blk_cell bk5 0 rfl
          have q1 := blk_cell bk5 1 rfl
          have q2 := blk_cell bk5 2 rfl
          clear hb bk5
          go_wp2_with fail
          refine (E3.out _ _ _ RL5.out R5.out).mono ?_
          rintro _ w6 ⟨rfl, hb⟩
          have B6 := Lib.hid (B5.out.trans (hb.mono B5.out.size))
          clear hb
          go_wp2_with fail
          go_roundw
          case rel => exact ⟨3, by go_num, by omega, B6.out⟩
          case measure => simp [intOf]
      · obtain rfl : j = 3 := by omega
        go_wp2_with fail
        refine (awake_any _).mono ?_
        rintro _ w9 ⟨rfl, hb⟩
        have B9 := Lib.hid (BB.out.trans ((BR.out.trans (hb.mono hz)).mono hzB))
        clear hb
        go_wp2_with fail
        go_ret
        exact outB rfl B9.out
end Go.Proofs.Ytcfnkfkdhcejeaa.Rte
