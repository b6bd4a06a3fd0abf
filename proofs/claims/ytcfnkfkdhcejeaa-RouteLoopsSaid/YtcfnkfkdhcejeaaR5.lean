/- RouteLoops walked. -/
import Derived.Test.YtcfnkfkdhcejeaaR4
import Derived.Deep.RegionHeld3
set_option linter.unusedVariables false
namespace Go.Proofs.Ytcfnkfkdhcejeaa.Rte
open Go.RowKit

theorem len_snoc (L : List Sn) (s : Sn) : (L ++ [s]).length = L.length + 1 := by simp
set_option maxRecDepth 100000 in
set_option maxHeartbeats 8000000 in
theorem law_loops (w : World) (A : Option Addr) (c : Nat) (l : List Stp) (hl : l.length ≤ 9223372036854775807) (hA : FlAt fS w w.heap.size A l) :
    Calls Try.prog 9 #[.slice A l.length c] w (OutB w true) := by
  have HA := Lib.hid hA
  clear hA
  by_cases h60 : 60 < l.length
  · have d : decide ((60 : Int) < (l.length : Int)) = true := dt (by omega)
    go_enter Try.func9, Try.ntmps9
    go_wp2_with fail
    refine (awake_any _).mono ?_
    rintro _ w1 ⟨rfl, hb⟩
    have B1 := Lib.hid hb
    clear hb
    go_wp2_with fail
    go_ret
    exact outB rfl B1.out
  have d : decide ((60 : Int) < (l.length : Int)) = false := df (by omega)
  go_enter Try.func9, Try.ntmps9
  go_wp2_with fail
  go_loopw [4] (fun vi wr => ∃ (j : Nat) (s : Sn), vi = .int .i64 j ∧ j ≤ 6 ∧ Hid (wr.heap[w.heap.size]? = some (.cells #[vs s 0, vs s 1, vs s 2, vs s 3, vs s 4, vs s 5] 47 (0, 0)) ∧ TbAt wr s ∧ ∀ i, i < j → tbs s i = nw (i : Int)) ∧ Below w.heap.size w wr) (fun vi _ => 6 - (intOf vi).toNat)
  case atStart => exact ⟨0, fun _ => (none, 0, []), rfl, by omega, Lib.hid ⟨blk_new w _, fun i hi => OwnF.nil _ _, fun i hi => by omega⟩, alloc_below _ _⟩
  case round =>
    obtain ⟨j, s, rfl, hj, I0, hb⟩ := hrel
    have B := Lib.hid hb
    have hz := hb.size
    clear hb
    by_cases hj6 : j < 6
    · have d1 : decide ((j : Int) < 6) = true := dt (by omega)
      have n0 : (0 : Int) ≤ (j : Int) := by omega
      have n1 : (j : Int) < 6 := by omega
      have K := Lib.hid (fun w => pnew_any (j : Int) w)
      go_wp2_with fail
      refine (K.out _).mono ?_
      rintro _ w5 ⟨v5, rfl, ho, hb⟩
      obtain ⟨A5, c5, e5, _⟩ := ho.form
      subst e5
      have O5 := Lib.hid (ho.down (Nat.zero_le _))
      have X5 := Lib.hid (blk_below I0.out.1 hb (blk_lt I0.out.1))
      have T5 := Lib.hid (I0.out.2.1.below hb)
      have B5 := Lib.hid (B.out.trans (hb.mono hz))
      have f5 := blk_fr X5.out j
      have c5' : w5.cell? ⟨w.heap.size, j, none⟩ = some (vs s j) := blk_cell X5.out j (by have := six_at s hj6; simpa [six] using this)
      clear hb ho
      go_wp2_with fail
      go_roundw
      case rel =>
        refine ⟨j + 1, setS s j (A5, c5, nw (j : Int)), by go_num, hj6, Lib.hid ⟨?_, fun i hi => ?_, fun i hi => ?_⟩, B5.out.setCell (Nat.le_refl _) _⟩
        · rw [blk_set X5.out j]
          have e : (#[vs s 0, vs s 1, vs s 2, vs s 3, vs s 4, vs s 5] : Array Value) = (six s).toArray := rfl
          rw [e, List.setIfInBounds_toArray, six_set s (A5, c5, nw (j : Int)) hj6]
          rfl
        · by_cases e : i = j
          · subst e
            unfold vs
            rw [setS_at]
            exact row_other O5.out _ (tab_own O5.out X5.out)
          · unfold vs
            rw [setS_ne s _ e]
            exact row_other (T5.out i hi) _ (tab_own (T5.out i hi) X5.out)
        · unfold tbs
          by_cases e : i = j
          · subst e; rw [setS_at]
          · rw [setS_ne s _ e]; exact I0.out.2.2 i (by omega)
      case measure => simp [intOf]; omega
    have d1 : decide ((j : Int) < 6) = false := df (by omega)
    have NT := Lib.hid (net_same (fun i hi => I0.out.2.2 i (by omega)) net_start)
    have g0 := blk_cell I0.out.1 0 rfl
    have g1 := blk_cell I0.out.1 1 rfl
    have g2 := blk_cell I0.out.1 2 rfl
    have g3 := blk_cell I0.out.1 3 rfl
    have g4 := blk_cell I0.out.1 4 rfl
    have g5 := blk_cell I0.out.1 5 rfl
    have IS : Inv w (.slice (some ⟨wr.heap.size, 0, none⟩) [s].length 1) [s] s (wr.alloc (bx6 s)) := by
      refine ⟨blk_alloc I0.out.1 _, OwnF.lit (F := F6) wr (w.heap.size + 1) [s] #[vs s 0, vs s 1, vs s 2, vs s 3, vs s 4, vs s 5] (by have := blk_lt I0.out.1; omega) (by unfold maxLen; simp) (by simp [F6, six]) (fun _ _ => trivial), ⟨I0.out.2.1.below (alloc_below _ _), fun P hP => ?_⟩, ⟨NT.out, fun P hP => ?_⟩, B.out.alloc hz _⟩
      · rw [List.mem_singleton.1 hP]; exact I0.out.2.1.below (alloc_below _ _)
      · rw [List.mem_singleton.1 hP]; exact net_old NT.out
    have I1 := Lib.hid IS
    clear IS B I0 NT
    go_wp2_with fail
    clear g0 g1 g2 g3 g4 g5 d d1 hj6 hj
    go_loopw [5, 6] (fun vp vi wr => ∃ (k : Nat) (s : Sn) (L : List Sn) (g cp : Nat), vi = .int .i64 k ∧ k ≤ l.length ∧ vp = .slice (some ⟨g, 0, none⟩) L.length cp ∧ 1 ≤ L.length ∧ L.length ≤ k + 1 ∧ Hid (Inv w (.slice (some ⟨g, 0, none⟩) L.length cp) L s wr)) (fun _ vi _ => l.length - (intOf vi).toNat)
    case atStart => exact ⟨0, s, [s], _, 1, rfl, Nat.zero_le _, rfl, Nat.le_refl _, Nat.le_refl _, I1⟩
    case round =>
      clear I1
      obtain ⟨k, s, L, g, cp, rfl, hk, rfl, hL1, hL2, I⟩ := hrel
      have hz := I.out.2.2.2.2.size
      by_cases hlt : k < l.length
      rotate_left
      · have d1 : ¬ k < l.length := hlt
        have d1' : decide ((k : Int) < (l.length : Int)) = false := df (by omega)
        go_wp2_with fail
        refine (awake_any _).mono ?_
        rintro _ w1 ⟨rfl, hb⟩
        have B1 := Lib.hid (I.out.2.2.2.2.trans (hb.mono hz))
        clear hb
        go_wp2_with fail
        go_ret
        exact outB rfl B1.out
      have d1 : decide ((k : Int) < (l.length : Int)) = true := dt (by omega)
      have d1' : (k : Int) < (l.length : Int) := by omega
      have hL : L.length ≤ 1000 := by omega
      obtain ⟨b, p, rfl, hbw, q0, q1, q2, q3, q4⟩ := st_cell (HA.out.below I.out.2.2.2.2) k hlt
      obtain ⟨⟨x0, x1, x2, x3, x4⟩, hx⟩ : ∃ x, l[k] = x := ⟨_, rfl⟩
      rw [hx] at q0 q1 q2 q3 q4
      simp only at q0 q1 q2 q3 q4
      clear hx
      by_cases c1 : x1 < 0
      · have d2 := dt c1
        have I2 := Lib.hid (I.out.next (alloc_below wr (bxS x0 x1 x2 x3 x4)))
        go_wp2_with fail
        go_roundw
        case rel => exact ⟨k + 1, s, L, g, cp, by go_num, hlt, rfl, hL1, by omega, I2⟩
        case measure => simp [intOf]; omega
      have d2 := df c1
      by_cases c2 : 5 < x1
      · have d3 := dt c2
        have I2 := Lib.hid (I.out.next (alloc_below wr (bxS x0 x1 x2 x3 x4)))
        go_wp2_with fail
        go_roundw
        case rel => exact ⟨k + 1, s, L, g, cp, by go_num, hlt, rfl, hL1, by omega, I2⟩
        case measure => simp [intOf]; omega
      have d3 := df c2
      by_cases c3 : x2 < 0
      · have d4 := dt c3
        have I2 := Lib.hid (I.out.next (alloc_below wr (bxS x0 x1 x2 x3 x4)))
        go_wp2_with fail
        go_roundw
        case rel => exact ⟨k + 1, s, L, g, cp, by go_num, hlt, rfl, hL1, by omega, I2⟩
        case measure => simp [intOf]; omega
      have d4 := df c3
      by_cases c4 : 5 < x2
      · have d5 := dt c4
        have I2 := Lib.hid (I.out.next (alloc_below wr (bxS x0 x1 x2 x3 x4)))
        go_wp2_with fail
        go_roundw
        case rel => exact ⟨k + 1, s, L, g, cp, by go_num, hlt, rfl, hL1, by omega, I2⟩
        case measure => simp [intOf]; omega
      have d5 := df c4
      obtain ⟨a, rfl⟩ : ∃ a : Nat, x1 = (a : Int) := ⟨x1.toNat, by omega⟩
      obtain ⟨e, rfl⟩ : ∃ e : Nat, x2 = (e : Int) := ⟨x2.toNat, by omega⟩
      have ha : a < 6 := by omega
      have he : e < 6 := by omega
      clear c1 c2 c3 c4
      have na0 : (0 : Int) ≤ (a : Int) := by omega
      have na1 : (a : Int) < 6 := by omega
      have ne0 : (0 : Int) ≤ (e : Int) := by omega
      have ne1 : (e : Int) < 6 := by omega
      have BN := Lib.hid (blk_lt I.out.1)
      have NE := Lib.hid (show wr.heap.size ≠ w.heap.size by have := blk_lt I.out.1; omega)
      have IQ := Lib.hid (I.out.next (alloc_below wr (bxS x0 a e x3 x4)))
      have XQ := Lib.hid (blk_new wr (bxS x0 a e x3 x4))
      have AT6 := Lib.hid (fun i (hi : i < 6) => IQ.out.2.2.1.1.read hi)
      have TL := Lib.hid (fun i (hi : i < 6) => (IQ.out.2.2.2.1.1 i hi).1.1.1)
      by_cases k0 : x0 = 0
      · subst k0
        have KB := Lib.hid (fun wz (h : RtAt wz wz.heap.size (s a).1 (s a).2.2) => (show Calls Try.prog 16 #[vs s a, .int .i64 (a : Int)] wz (OutT wz (bmp (tbs s a) (a : Int))) from pbump_any (s a).1 (s a).2.1 (s a).2.2 (a : Int) wz (by have := TL.out a ha; unfold tbs at this; omega) h))
        have NN := Lib.hid (net_bmp IQ.out.2.2.2.1.1 ha)
        have NK := Lib.hid (bmp_keeps IQ.out.2.2.2.1.1 ha)
        generalize bmp (tbs s a) (a : Int) = F at *
        go_wp2_with fail
        have HC := Lib.hid (fun (wz : World) (h : wz.heap[wr.heap.size]? = some (.cells #[.int .i64 0, .int .i64 (a : Int), .int .i64 (e : Int), .int .i64 x3, .int .i64 x4] 50 (0, 0))) => (show (fun w' : World => w'.cell? ⟨wr.heap.size, 1, none⟩ = some (.int .i64 (a : Int)) ∧ w'.cell? ⟨wr.heap.size, 2, none⟩ = some (.int .i64 (e : Int)) ∧ w'.cell? ⟨wr.heap.size, 3, none⟩ = some (.int .i64 x3)) wz from ⟨blk_cell h 1 rfl, blk_cell h 2 rfl, blk_cell h 3 rfl⟩))
        have Z0 : (wr.alloc (bxS 0 a e x3 x4)).drew.heap[wr.heap.size]? = some (.cells #[.int .i64 0, .int .i64 (a : Int), .int .i64 (e : Int), .int .i64 x3, .int .i64 x4] 50 (0, 0)) := XQ.out
        have ID := Lib.hid (IQ.out.next (Below.refl _ (wr.alloc (bxS 0 a e x3 x4))).drew)
        have n97 : (wr.alloc (bxS 0 a e x3 x4)).drew.cell? ⟨w.heap.size, a, none⟩ = some (vs s a) := ID.out.cell ha
        refine wp_region_held_drew (S := (fun w' : World => w'.cell? ⟨wr.heap.size, 1, none⟩ = some (.int .i64 (a : Int)) ∧ w'.cell? ⟨wr.heap.size, 2, none⟩ = some (.int .i64 (e : Int)) ∧ w'.cell? ⟨wr.heap.size, 3, none⟩ = some (.int .i64 x3))) (by kernel_rfl) (HC.out _ Z0) (fun hHeld => ?_)
        refine wpAnyH_take (i := 0) (v := (.pointer (some ⟨wr.heap.size, 1, none⟩))) at_zero (by kernel_rfl) (by kernel_rfl) (by kernel_rfl) (fun _ _ _ h => h) (Or.inl ⟨by kernel_rfl, fun wy hSw => ?_⟩) (by assumption) ?_
        · (try dsimp only at hSw); go_simp
        try simp only [Act.put, List.setIfInBounds_toArray, List.set_cons_zero, List.set_cons_succ]
        refine wpAnyH_take (i := 1) (v := (.int .i64 (a : Int))) (at_succ at_zero) (by kernel_rfl) (by kernel_rfl) (by kernel_rfl) (fun _ _ _ h => h) (Or.inl ⟨by kernel_rfl, fun wy hSw => ?_⟩) (by assumption) ?_
        · (try dsimp only at hSw); go_simp
        try simp only [Act.put, List.setIfInBounds_toArray, List.set_cons_zero, List.set_cons_succ]
        refine wpAnyH_take (i := 2) (v := (.pointer (some ⟨wr.heap.size, 1, none⟩))) (at_succ (at_succ at_zero)) (by kernel_rfl) (by kernel_rfl) (by kernel_rfl) (fun _ _ _ h => h) (Or.inl ⟨by kernel_rfl, fun wy hSw => ?_⟩) (by assumption) ?_
        · (try dsimp only at hSw); go_simp
        try simp only [Act.put, List.setIfInBounds_toArray, List.set_cons_zero, List.set_cons_succ]
        refine wpAnyH_take (i := 3) (v := (.int .i64 (a : Int))) (at_succ (at_succ (at_succ at_zero))) (by kernel_rfl) (by kernel_rfl) (by kernel_rfl) (fun _ _ _ h => h) (Or.inl ⟨by kernel_rfl, fun wy hSw => ?_⟩) (by assumption) ?_
        · (try dsimp only at hSw); go_simp
        try simp only [Act.put, List.setIfInBounds_toArray, List.set_cons_zero, List.set_cons_succ]
        refine wpAnyH_take (i := 4) (v := (.pointer (some ⟨w.heap.size, a, none⟩))) (at_succ (at_succ (at_succ (at_succ at_zero)))) (by kernel_rfl) (by kernel_rfl) (by kernel_rfl) (fun _ _ _ h => h) (Or.inl ⟨by kernel_rfl, fun wy hSw => ?_⟩) (by assumption) ?_
        · (try dsimp only at hSw); go_simp
        try simp only [Act.put, List.setIfInBounds_toArray, List.set_cons_zero, List.set_cons_succ]
        refine wpAnyH_take (i := 6) (v := (.pointer (some ⟨wr.heap.size, 1, none⟩))) (at_succ (at_succ (at_succ (at_succ (at_succ (at_succ at_zero)))))) (by kernel_rfl) (by kernel_rfl) (by kernel_rfl) (fun _ _ _ h => h) (Or.inl ⟨by kernel_rfl, fun wy hSw => ?_⟩) (by assumption) ?_
        · (try dsimp only at hSw); go_simp
        try simp only [Act.put, List.setIfInBounds_toArray, List.set_cons_zero, List.set_cons_succ]
        refine wpAnyH_take (i := 7) (v := (.int .i64 (a : Int))) (at_succ (at_succ (at_succ (at_succ (at_succ (at_succ (at_succ at_zero))))))) (by kernel_rfl) (by kernel_rfl) (by kernel_rfl) (fun _ _ _ h => h) (Or.inl ⟨by kernel_rfl, fun wy hSw => ?_⟩) (by assumption) ?_
        · (try dsimp only at hSw); go_simp
        try simp only [Act.put, List.setIfInBounds_toArray, List.set_cons_zero, List.set_cons_succ]
        refine wpAnyH_ready (rs := [5]) (by kernel_rfl) (by simp) ?_
        refine AllReadyH.cons (at_succ (at_succ (at_succ (at_succ (at_succ at_zero))))) (fun K hK => ?_) AllReadyH.nil
        rw [if_pos (by kernel_rfl)]
        go_simp
        refine hK.out _ _ (HC.out _ Z0) (fun hHeld => ?_)
        clear hK K
        try simp only [Act.put, List.setIfInBounds_toArray, List.set_cons_zero, List.set_cons_succ]
        refine wpAnyH_ready (rs := [8]) (by kernel_rfl) (by simp) ?_
        refine AllReadyH.cons (at_succ (at_succ (at_succ (at_succ (at_succ (at_succ (at_succ (at_succ at_zero)))))))) (fun K hK => ?_) AllReadyH.nil
        rw [if_pos (by kernel_rfl)]
        go_simp
        refine (KB.out _ (ID.out.2.2.1.1.read ha)).mono ?_
        rintro _ w5 ⟨v5, rfl, ho, hb⟩
        obtain ⟨A5, c5, e5, _⟩ := ho.form
        subst e5
        have O5 := Lib.hid (ho.down (Nat.zero_le _))
        have I5 := Lib.hid (ID.out.next hb)
        have Z1 := blk_below Z0 hb (blk_lt Z0)
        have f5 := blk_fr I5.out.1 a
        have c5a := I5.out.cell ha
        clear hb ho hHeld n97
        go_wp2_with fail
        refine hK.out _ _ (HC.out _ Z1) (fun hHeld => ?_)
        clear hK K
        try simp only [Act.put, List.setIfInBounds_toArray, List.set_cons_zero, List.set_cons_succ]
        refine wpAnyH_take (i := 9) (v := (.pointer (some ⟨w.heap.size, a, none⟩))) (at_succ (at_succ (at_succ (at_succ (at_succ (at_succ (at_succ (at_succ (at_succ at_zero))))))))) (by kernel_rfl) (by kernel_rfl) (by kernel_rfl) (fun _ _ _ h => h) (Or.inl ⟨by kernel_rfl, fun wy hSw => ?_⟩) (by assumption) ?_
        · (try dsimp only at hSw); go_simp
        try simp only [Act.put, List.setIfInBounds_toArray, List.set_cons_zero, List.set_cons_succ]
        refine wpAnyH_ready (rs := [10]) (by kernel_rfl) (by simp) ?_
        refine AllReadyH.cons (at_succ (at_succ (at_succ (at_succ (at_succ (at_succ (at_succ (at_succ (at_succ (at_succ at_zero)))))))))) (fun K hK => ?_) AllReadyH.nil
        rw [if_pos (by kernel_rfl)]
        go_simp
        have Z2 : (w5.setCell ⟨w.heap.size, a, none⟩ (.slice A5 F.length c5)).heap[wr.heap.size]? = _ := blk_other Z1 NE.out _
        refine hK.out _ _ (HC.out _ Z2) (fun hHeld => ?_)
        clear hK K
        try simp only [Act.put, List.setIfInBounds_toArray, List.set_cons_zero, List.set_cons_succ]
        refine wpAnyH_done (by kernel_rfl) ?_ _
        obtain ⟨wz, hwz⟩ : ∃ wz, wz = w5.setCell ⟨w.heap.size, a, none⟩ (.slice A5 F.length c5) := ⟨_, rfl⟩
        rw [← hwz]
        obtain ⟨s', hs'⟩ : ∃ s', s' = setS s a (A5, c5, F) := ⟨_, rfl⟩
        have I6 := Lib.hid (show Inv w (.slice (some ⟨g, 0, none⟩) L.length cp) L s' wz by rw [hwz, hs']; exact I5.out.store ha (A5, c5, F) O5.out NN.out NK.out)
        clear hwz hs' Z0 Z1 Z2 f5 c5a O5 I5 ID IQ XQ NN NK KB HC I AT6 TL
        have KL := Lib.hid (looping_any s' wz I6.out.2.2.1.1 I6.out.2.2.2.1.1)
        have g0 := I6.out.cell (i := 0) (by omega)
        have g1 := I6.out.cell (i := 1) (by omega)
        have g2 := I6.out.cell (i := 2) (by omega)
        have g3 := I6.out.cell (i := 3) (by omega)
        have g4 := I6.out.cell (i := 4) (by omega)
        have g5 := I6.out.cell (i := 5) (by omega)
        go_wp2_with fail
        refine KL.out.mono ?_
        rintro _ w7 ⟨rfl, hb⟩
        have I7 := Lib.hid (I6.out.next hb)
        clear hb g0 g1 g2 g3 g4 g5 I6 KL
        have g0 := I7.out.cell (i := 0) (by omega)
        have g1 := I7.out.cell (i := 1) (by omega)
        have g2 := I7.out.cell (i := 2) (by omega)
        have g3 := I7.out.cell (i := 3) (by omega)
        have g4 := I7.out.cell (i := 4) (by omega)
        have g5 := I7.out.cell (i := 5) (by omega)
        obtain ⟨g8, cp8, w8, hap, hI8⟩ := I7.out.push hL
        have I8 := Lib.hid hI8
        clear hI8
        go_wp2_with (at_builtin; refine Lib.wpList_append_run _ rfl _ _ _ _ rfl _ _ rfl rfl _ _ hap ?_)
        go_roundw
        case rel => exact ⟨k + 1, s', L ++ [s'], g8, cp8, by go_num, hlt, by rw [len_snoc], by rw [len_snoc]; omega, by rw [len_snoc]; omega, I8⟩
        case measure => simp [intOf]; omega
      by_cases k1 : x0 = 1
      · subst k1
        have KB := Lib.hid (fun wz (h : RtAt wz wz.heap.size (s a).1 (s a).2.2) => (show Calls Try.prog 22 #[vs s a, .int .i64 (a : Int), .int .i64 (e : Int)] wz (OutT wz (brk (tbs s a) (a : Int) (e : Int))) from pbreak_any (s a).1 (s a).2.1 (s a).2.2 (a : Int) (e : Int) wz (by have := TL.out a ha; unfold tbs at this; omega) h))
        have NN := Lib.hid (net_brk IQ.out.2.2.2.1.1 ha (e : Int))
        have NK := Lib.hid (brk_keeps IQ.out.2.2.2.1.1 ha (e : Int))
        generalize brk (tbs s a) (a : Int) (e : Int) = F at *
        go_wp2_with fail
        have HC := Lib.hid (fun (wz : World) (h : wz.heap[wr.heap.size]? = some (.cells #[.int .i64 1, .int .i64 (a : Int), .int .i64 (e : Int), .int .i64 x3, .int .i64 x4] 50 (0, 0))) => (show (fun w' : World => w'.cell? ⟨wr.heap.size, 1, none⟩ = some (.int .i64 (a : Int)) ∧ w'.cell? ⟨wr.heap.size, 2, none⟩ = some (.int .i64 (e : Int)) ∧ w'.cell? ⟨wr.heap.size, 3, none⟩ = some (.int .i64 x3)) wz from ⟨blk_cell h 1 rfl, blk_cell h 2 rfl, blk_cell h 3 rfl⟩))
        have Z0 : (wr.alloc (bxS 1 a e x3 x4)).drew.heap[wr.heap.size]? = some (.cells #[.int .i64 1, .int .i64 (a : Int), .int .i64 (e : Int), .int .i64 x3, .int .i64 x4] 50 (0, 0)) := XQ.out
        have ID := Lib.hid (IQ.out.next (Below.refl _ (wr.alloc (bxS 1 a e x3 x4))).drew)
        have n97 : (wr.alloc (bxS 1 a e x3 x4)).drew.cell? ⟨w.heap.size, a, none⟩ = some (vs s a) := ID.out.cell ha
        refine wp_region_held_drew (S := (fun w' : World => w'.cell? ⟨wr.heap.size, 1, none⟩ = some (.int .i64 (a : Int)) ∧ w'.cell? ⟨wr.heap.size, 2, none⟩ = some (.int .i64 (e : Int)) ∧ w'.cell? ⟨wr.heap.size, 3, none⟩ = some (.int .i64 x3))) (by kernel_rfl) (HC.out _ Z0) (fun hHeld => ?_)
        refine wpAnyH_take (i := 0) (v := (.pointer (some ⟨wr.heap.size, 1, none⟩))) at_zero (by kernel_rfl) (by kernel_rfl) (by kernel_rfl) (fun _ _ _ h => h) (Or.inl ⟨by kernel_rfl, fun wy hSw => ?_⟩) (by assumption) ?_
        · (try dsimp only at hSw); go_simp
        try simp only [Act.put, List.setIfInBounds_toArray, List.set_cons_zero, List.set_cons_succ]
        refine wpAnyH_take (i := 1) (v := (.int .i64 (a : Int))) (at_succ at_zero) (by kernel_rfl) (by kernel_rfl) (by kernel_rfl) (fun _ _ _ h => h) (Or.inl ⟨by kernel_rfl, fun wy hSw => ?_⟩) (by assumption) ?_
        · (try dsimp only at hSw); go_simp
        try simp only [Act.put, List.setIfInBounds_toArray, List.set_cons_zero, List.set_cons_succ]
        refine wpAnyH_take (i := 2) (v := (.pointer (some ⟨wr.heap.size, 1, none⟩))) (at_succ (at_succ at_zero)) (by kernel_rfl) (by kernel_rfl) (by kernel_rfl) (fun _ _ _ h => h) (Or.inl ⟨by kernel_rfl, fun wy hSw => ?_⟩) (by assumption) ?_
        · (try dsimp only at hSw); go_simp
        try simp only [Act.put, List.setIfInBounds_toArray, List.set_cons_zero, List.set_cons_succ]
        refine wpAnyH_take (i := 3) (v := (.int .i64 (a : Int))) (at_succ (at_succ (at_succ at_zero))) (by kernel_rfl) (by kernel_rfl) (by kernel_rfl) (fun _ _ _ h => h) (Or.inl ⟨by kernel_rfl, fun wy hSw => ?_⟩) (by assumption) ?_
        · (try dsimp only at hSw); go_simp
        try simp only [Act.put, List.setIfInBounds_toArray, List.set_cons_zero, List.set_cons_succ]
        refine wpAnyH_take (i := 4) (v := (.pointer (some ⟨w.heap.size, a, none⟩))) (at_succ (at_succ (at_succ (at_succ at_zero)))) (by kernel_rfl) (by kernel_rfl) (by kernel_rfl) (fun _ _ _ h => h) (Or.inl ⟨by kernel_rfl, fun wy hSw => ?_⟩) (by assumption) ?_
        · (try dsimp only at hSw); go_simp
        try simp only [Act.put, List.setIfInBounds_toArray, List.set_cons_zero, List.set_cons_succ]
        refine wpAnyH_take (i := 6) (v := (.pointer (some ⟨wr.heap.size, 1, none⟩))) (at_succ (at_succ (at_succ (at_succ (at_succ (at_succ at_zero)))))) (by kernel_rfl) (by kernel_rfl) (by kernel_rfl) (fun _ _ _ h => h) (Or.inl ⟨by kernel_rfl, fun wy hSw => ?_⟩) (by assumption) ?_
        · (try dsimp only at hSw); go_simp
        try simp only [Act.put, List.setIfInBounds_toArray, List.set_cons_zero, List.set_cons_succ]
        refine wpAnyH_take (i := 7) (v := (.int .i64 (a : Int))) (at_succ (at_succ (at_succ (at_succ (at_succ (at_succ (at_succ at_zero))))))) (by kernel_rfl) (by kernel_rfl) (by kernel_rfl) (fun _ _ _ h => h) (Or.inl ⟨by kernel_rfl, fun wy hSw => ?_⟩) (by assumption) ?_
        · (try dsimp only at hSw); go_simp
        try simp only [Act.put, List.setIfInBounds_toArray, List.set_cons_zero, List.set_cons_succ]
        refine wpAnyH_take (i := 8) (v := (.pointer (some ⟨wr.heap.size, 2, none⟩))) (at_succ (at_succ (at_succ (at_succ (at_succ (at_succ (at_succ (at_succ at_zero)))))))) (by kernel_rfl) (by kernel_rfl) (by kernel_rfl) (fun _ _ _ h => h) (Or.inl ⟨by kernel_rfl, fun wy hSw => ?_⟩) (by assumption) ?_
        · (try dsimp only at hSw); go_simp
        try simp only [Act.put, List.setIfInBounds_toArray, List.set_cons_zero, List.set_cons_succ]
        refine wpAnyH_take (i := 9) (v := (.int .i64 (e : Int))) (at_succ (at_succ (at_succ (at_succ (at_succ (at_succ (at_succ (at_succ (at_succ at_zero))))))))) (by kernel_rfl) (by kernel_rfl) (by kernel_rfl) (fun _ _ _ h => h) (Or.inl ⟨by kernel_rfl, fun wy hSw => ?_⟩) (by assumption) ?_
        · (try dsimp only at hSw); go_simp
        try simp only [Act.put, List.setIfInBounds_toArray, List.set_cons_zero, List.set_cons_succ]
        refine wpAnyH_ready (rs := [5]) (by kernel_rfl) (by simp) ?_
        refine AllReadyH.cons (at_succ (at_succ (at_succ (at_succ (at_succ at_zero))))) (fun K hK => ?_) AllReadyH.nil
        rw [if_pos (by kernel_rfl)]
        go_simp
        refine hK.out _ _ (HC.out _ Z0) (fun hHeld => ?_)
        clear hK K
        try simp only [Act.put, List.setIfInBounds_toArray, List.set_cons_zero, List.set_cons_succ]
        refine wpAnyH_ready (rs := [10]) (by kernel_rfl) (by simp) ?_
        refine AllReadyH.cons (at_succ (at_succ (at_succ (at_succ (at_succ (at_succ (at_succ (at_succ (at_succ (at_succ at_zero)))))))))) (fun K hK => ?_) AllReadyH.nil
        rw [if_pos (by kernel_rfl)]
        go_simp
        refine (KB.out _ (ID.out.2.2.1.1.read ha)).mono ?_
        rintro _ w5 ⟨v5, rfl, ho, hb⟩
        obtain ⟨A5, c5, e5, _⟩ := ho.form
        subst e5
        have O5 := Lib.hid (ho.down (Nat.zero_le _))
        have I5 := Lib.hid (ID.out.next hb)
        have Z1 := blk_below Z0 hb (blk_lt Z0)
        have f5 := blk_fr I5.out.1 a
        have c5a := I5.out.cell ha
        clear hb ho hHeld n97
        go_wp2_with fail
        refine hK.out _ _ (HC.out _ Z1) (fun hHeld => ?_)
        clear hK K
        try simp only [Act.put, List.setIfInBounds_toArray, List.set_cons_zero, List.set_cons_succ]
        refine wpAnyH_take (i := 11) (v := (.pointer (some ⟨w.heap.size, a, none⟩))) (at_succ (at_succ (at_succ (at_succ (at_succ (at_succ (at_succ (at_succ (at_succ (at_succ (at_succ at_zero))))))))))) (by kernel_rfl) (by kernel_rfl) (by kernel_rfl) (fun _ _ _ h => h) (Or.inl ⟨by kernel_rfl, fun wy hSw => ?_⟩) (by assumption) ?_
        · (try dsimp only at hSw); go_simp
        try simp only [Act.put, List.setIfInBounds_toArray, List.set_cons_zero, List.set_cons_succ]
        refine wpAnyH_ready (rs := [12]) (by kernel_rfl) (by simp) ?_
        refine AllReadyH.cons (at_succ (at_succ (at_succ (at_succ (at_succ (at_succ (at_succ (at_succ (at_succ (at_succ (at_succ (at_succ at_zero)))))))))))) (fun K hK => ?_) AllReadyH.nil
        rw [if_pos (by kernel_rfl)]
        go_simp
        have Z2 : (w5.setCell ⟨w.heap.size, a, none⟩ (.slice A5 F.length c5)).heap[wr.heap.size]? = _ := blk_other Z1 NE.out _
        refine hK.out _ _ (HC.out _ Z2) (fun hHeld => ?_)
        clear hK K
        try simp only [Act.put, List.setIfInBounds_toArray, List.set_cons_zero, List.set_cons_succ]
        refine wpAnyH_done (by kernel_rfl) ?_ _
        obtain ⟨wz, hwz⟩ : ∃ wz, wz = w5.setCell ⟨w.heap.size, a, none⟩ (.slice A5 F.length c5) := ⟨_, rfl⟩
        rw [← hwz]
        obtain ⟨s', hs'⟩ : ∃ s', s' = setS s a (A5, c5, F) := ⟨_, rfl⟩
        have I6 := Lib.hid (show Inv w (.slice (some ⟨g, 0, none⟩) L.length cp) L s' wz by rw [hwz, hs']; exact I5.out.store ha (A5, c5, F) O5.out NN.out NK.out)
        clear hwz hs' Z0 Z1 Z2 f5 c5a O5 I5 ID IQ XQ NN NK KB HC I AT6 TL
        have KL := Lib.hid (looping_any s' wz I6.out.2.2.1.1 I6.out.2.2.2.1.1)
        have g0 := I6.out.cell (i := 0) (by omega)
        have g1 := I6.out.cell (i := 1) (by omega)
        have g2 := I6.out.cell (i := 2) (by omega)
        have g3 := I6.out.cell (i := 3) (by omega)
        have g4 := I6.out.cell (i := 4) (by omega)
        have g5 := I6.out.cell (i := 5) (by omega)
        go_wp2_with fail
        refine KL.out.mono ?_
        rintro _ w7 ⟨rfl, hb⟩
        have I7 := Lib.hid (I6.out.next hb)
        clear hb g0 g1 g2 g3 g4 g5 I6 KL
        have g0 := I7.out.cell (i := 0) (by omega)
        have g1 := I7.out.cell (i := 1) (by omega)
        have g2 := I7.out.cell (i := 2) (by omega)
        have g3 := I7.out.cell (i := 3) (by omega)
        have g4 := I7.out.cell (i := 4) (by omega)
        have g5 := I7.out.cell (i := 5) (by omega)
        obtain ⟨g8, cp8, w8, hap, hI8⟩ := I7.out.push hL
        have I8 := Lib.hid hI8
        clear hI8
        go_wp2_with (at_builtin; refine Lib.wpList_append_run _ rfl _ _ _ _ rfl _ _ rfl rfl _ _ hap ?_)
        go_roundw
        case rel => exact ⟨k + 1, s', L ++ [s'], g8, cp8, by go_num, hlt, by rw [len_snoc], by rw [len_snoc]; omega, by rw [len_snoc]; omega, I8⟩
        case measure => simp [intOf]; omega
      have t0 : (x0 == 0) = false := by rw [← Bool.not_eq_true, beq_iff_eq]; exact k0
      have t1 : (x0 == 1) = false := by rw [← Bool.not_eq_true, beq_iff_eq]; exact k1
      have KU := Lib.hid (fun (Q : Sn) (hQ : ∀ i, i < 6 → (tbs Q i).length ≤ 24) wz (h : RtAt wz wz.heap.size (s a).1 (s a).2.2) (h2 : RtAt wz wz.heap.size (Q e).1 (Q e).2.2) => (show Calls Try.prog 18 #[vs s a, .int .i64 (a : Int), .int .i64 (e : Int), .int .i64 x3, vs Q e] wz (OutT wz (upd (tbs s a) (a : Int) (e : Int) x3 (tbs Q e))) from pupd_any (s a).1 (s a).2.1 (s a).2.2 (a : Int) (e : Int) x3 (Q e).1 (Q e).2.1 (Q e).2.2 wz (by have := TL.out a ha; unfold tbs at this; omega) h (by have := hQ e he; unfold tbs at this; omega) h2))
      have UN := Lib.hid (fun (Q : Sn) (hQ : Old (tbs Q) (tbs s)) => net_upd IQ.out.2.2.2.1.1 hQ ha he x3)
      have UK := Lib.hid (fun (Q : Sn) => upd_keeps IQ.out.2.2.2.1.1 ha (e : Int) x3 (tbs Q e))
      have ce := fun o => blk_cell (T := 47) (blk_alloc I.out.1 o) e (by have := six_at s he; simpa [six] using this)
      by_cases h5 : 0 ≤ x4
      · have z5 : decide (0 ≤ x4) = true := dt h5
        by_cases h6 : x4 < (L.length : Int)
        · have z6 : decide (x4 < (L.length : Int)) = true := dt h6
          obtain ⟨m, rfl⟩ : ∃ m : Nat, x4 = (m : Int) := ⟨x4.toNat, by omega⟩
          have hm : m < L.length := by omega
          have pm := fun o => (I.out.next (alloc_below wr o)).past hm he
          obtain ⟨Q, hQ⟩ : ∃ Q, L[m] = Q := ⟨_, rfl⟩
          have hQL : Q ∈ L := by rw [← hQ]; exact List.getElem_mem hm
          have OQ := Lib.hid (IQ.out.2.2.2.1.2 Q hQL)
          have TQ := Lib.hid (IQ.out.2.2.1.2 Q hQL)
          have QL := Lib.hid (fun i (hi : i < 6) => (OQ.out i hi).1.1.1)
          have MQ := Lib.hid hm
          rw [hQ] at pm
          have KB := Lib.hid (KU.out Q QL.out)
          have NN := Lib.hid (UN.out Q OQ.out)
          have NK := Lib.hid (UK.out Q)
          clear hQ KU UN UK QL
          generalize upd (tbs s a) (a : Int) (e : Int) x3 (tbs Q e) = F at *
          go_wp2_with fail
          go_quiet (fail)
          go_wp2_with fail
          obtain ⟨wp, hwp⟩ : ∃ wp, wp = (wr.alloc (bxS x0 a e x3 m)).drewN nq := ⟨_, rfl⟩
          rw [← hwp]
          have IQ := Lib.hid (show Inv w (.slice (some ⟨g, 0, none⟩) L.length cp) L s wp by rw [hwp]; exact IQ.out.next (below_drewN (Below.refl _ _) nq))
          have XQ := Lib.hid (show wp.heap[wr.heap.size]? = some (.cells #[.int .i64 x0, .int .i64 (a : Int), .int .i64 (e : Int), .int .i64 x3, .int .i64 (m : Int)] 50 (0, 0)) by rw [hwp]; exact XQ.out)
          have TQ := Lib.hid (show TbAt wp Q by rw [hwp]; exact TQ.out.below (below_drewN (Below.refl _ _) nq))
          clear hwp pm ce
          have HC := Lib.hid (fun (wz : World) (h : wz.heap[wr.heap.size]? = some (.cells #[.int .i64 x0, .int .i64 (a : Int), .int .i64 (e : Int), .int .i64 x3, .int .i64 (m : Int)] 50 (0, 0))) => (show (fun w' : World => w'.cell? ⟨wr.heap.size, 1, none⟩ = some (.int .i64 (a : Int)) ∧ w'.cell? ⟨wr.heap.size, 2, none⟩ = some (.int .i64 (e : Int)) ∧ w'.cell? ⟨wr.heap.size, 3, none⟩ = some (.int .i64 x3)) wz from ⟨blk_cell h 1 rfl, blk_cell h 2 rfl, blk_cell h 3 rfl⟩))
          have Z0 : (wp).drew.heap[wr.heap.size]? = some (.cells #[.int .i64 x0, .int .i64 (a : Int), .int .i64 (e : Int), .int .i64 x3, .int .i64 (m : Int)] 50 (0, 0)) := XQ.out
          have ID := Lib.hid (IQ.out.next (Below.refl _ (wp)).drew)
          have n97 : (wp).drew.cell? ⟨w.heap.size, a, none⟩ = some (vs s a) := ID.out.cell ha
          have TD := Lib.hid (TQ.out.below (Below.refl _ (wp)).drew)
          refine wp_region_held_drew (S := (fun w' : World => w'.cell? ⟨wr.heap.size, 1, none⟩ = some (.int .i64 (a : Int)) ∧ w'.cell? ⟨wr.heap.size, 2, none⟩ = some (.int .i64 (e : Int)) ∧ w'.cell? ⟨wr.heap.size, 3, none⟩ = some (.int .i64 x3))) (by kernel_rfl) (HC.out _ Z0) (fun hHeld => ?_)
          refine wpAnyH_take (i := 0) (v := (.pointer (some ⟨wr.heap.size, 1, none⟩))) at_zero (by kernel_rfl) (by kernel_rfl) (by kernel_rfl) (fun _ _ _ h => h) (Or.inl ⟨by kernel_rfl, fun wy hSw => ?_⟩) (by assumption) ?_
          · (try dsimp only at hSw); go_simp
          try simp only [Act.put, List.setIfInBounds_toArray, List.set_cons_zero, List.set_cons_succ]
          refine wpAnyH_take (i := 1) (v := (.int .i64 (a : Int))) (at_succ at_zero) (by kernel_rfl) (by kernel_rfl) (by kernel_rfl) (fun _ _ _ h => h) (Or.inl ⟨by kernel_rfl, fun wy hSw => ?_⟩) (by assumption) ?_
          · (try dsimp only at hSw); go_simp
          try simp only [Act.put, List.setIfInBounds_toArray, List.set_cons_zero, List.set_cons_succ]
          refine wpAnyH_take (i := 2) (v := (.pointer (some ⟨wr.heap.size, 1, none⟩))) (at_succ (at_succ at_zero)) (by kernel_rfl) (by kernel_rfl) (by kernel_rfl) (fun _ _ _ h => h) (Or.inl ⟨by kernel_rfl, fun wy hSw => ?_⟩) (by assumption) ?_
          · (try dsimp only at hSw); go_simp
          try simp only [Act.put, List.setIfInBounds_toArray, List.set_cons_zero, List.set_cons_succ]
          refine wpAnyH_take (i := 3) (v := (.int .i64 (a : Int))) (at_succ (at_succ (at_succ at_zero))) (by kernel_rfl) (by kernel_rfl) (by kernel_rfl) (fun _ _ _ h => h) (Or.inl ⟨by kernel_rfl, fun wy hSw => ?_⟩) (by assumption) ?_
          · (try dsimp only at hSw); go_simp
          try simp only [Act.put, List.setIfInBounds_toArray, List.set_cons_zero, List.set_cons_succ]
          refine wpAnyH_take (i := 4) (v := (.pointer (some ⟨w.heap.size, a, none⟩))) (at_succ (at_succ (at_succ (at_succ at_zero)))) (by kernel_rfl) (by kernel_rfl) (by kernel_rfl) (fun _ _ _ h => h) (Or.inl ⟨by kernel_rfl, fun wy hSw => ?_⟩) (by assumption) ?_
          · (try dsimp only at hSw); go_simp
          try simp only [Act.put, List.setIfInBounds_toArray, List.set_cons_zero, List.set_cons_succ]
          refine wpAnyH_take (i := 6) (v := (.pointer (some ⟨wr.heap.size, 1, none⟩))) (at_succ (at_succ (at_succ (at_succ (at_succ (at_succ at_zero)))))) (by kernel_rfl) (by kernel_rfl) (by kernel_rfl) (fun _ _ _ h => h) (Or.inl ⟨by kernel_rfl, fun wy hSw => ?_⟩) (by assumption) ?_
          · (try dsimp only at hSw); go_simp
          try simp only [Act.put, List.setIfInBounds_toArray, List.set_cons_zero, List.set_cons_succ]
          refine wpAnyH_take (i := 7) (v := (.int .i64 (a : Int))) (at_succ (at_succ (at_succ (at_succ (at_succ (at_succ (at_succ at_zero))))))) (by kernel_rfl) (by kernel_rfl) (by kernel_rfl) (fun _ _ _ h => h) (Or.inl ⟨by kernel_rfl, fun wy hSw => ?_⟩) (by assumption) ?_
          · (try dsimp only at hSw); go_simp
          try simp only [Act.put, List.setIfInBounds_toArray, List.set_cons_zero, List.set_cons_succ]
          refine wpAnyH_take (i := 8) (v := (.pointer (some ⟨wr.heap.size, 2, none⟩))) (at_succ (at_succ (at_succ (at_succ (at_succ (at_succ (at_succ (at_succ at_zero)))))))) (by kernel_rfl) (by kernel_rfl) (by kernel_rfl) (fun _ _ _ h => h) (Or.inl ⟨by kernel_rfl, fun wy hSw => ?_⟩) (by assumption) ?_
          · (try dsimp only at hSw); go_simp
          try simp only [Act.put, List.setIfInBounds_toArray, List.set_cons_zero, List.set_cons_succ]
          refine wpAnyH_take (i := 9) (v := (.int .i64 (e : Int))) (at_succ (at_succ (at_succ (at_succ (at_succ (at_succ (at_succ (at_succ (at_succ at_zero))))))))) (by kernel_rfl) (by kernel_rfl) (by kernel_rfl) (fun _ _ _ h => h) (Or.inl ⟨by kernel_rfl, fun wy hSw => ?_⟩) (by assumption) ?_
          · (try dsimp only at hSw); go_simp
          try simp only [Act.put, List.setIfInBounds_toArray, List.set_cons_zero, List.set_cons_succ]
          refine wpAnyH_take (i := 10) (v := (.pointer (some ⟨wr.heap.size, 3, none⟩))) (at_succ (at_succ (at_succ (at_succ (at_succ (at_succ (at_succ (at_succ (at_succ (at_succ at_zero)))))))))) (by kernel_rfl) (by kernel_rfl) (by kernel_rfl) (fun _ _ _ h => h) (Or.inl ⟨by kernel_rfl, fun wy hSw => ?_⟩) (by assumption) ?_
          · (try dsimp only at hSw); go_simp
          try simp only [Act.put, List.setIfInBounds_toArray, List.set_cons_zero, List.set_cons_succ]
          refine wpAnyH_take (i := 11) (v := (.int .i64 x3)) (at_succ (at_succ (at_succ (at_succ (at_succ (at_succ (at_succ (at_succ (at_succ (at_succ (at_succ at_zero))))))))))) (by kernel_rfl) (by kernel_rfl) (by kernel_rfl) (fun _ _ _ h => h) (Or.inl ⟨by kernel_rfl, fun wy hSw => ?_⟩) (by assumption) ?_
          · (try dsimp only at hSw); go_simp
          try simp only [Act.put, List.setIfInBounds_toArray, List.set_cons_zero, List.set_cons_succ]
          refine wpAnyH_take (i := 12) (v := (vs Q e)) (at_succ (at_succ (at_succ (at_succ (at_succ (at_succ (at_succ (at_succ (at_succ (at_succ (at_succ (at_succ at_zero)))))))))))) (by kernel_rfl) (by kernel_rfl) (by kernel_rfl) (fun _ _ _ h => h) (Or.inl ⟨by kernel_rfl, fun wy hSw => ?_⟩) (by assumption) ?_
          · (try dsimp only at hSw); go_simp
          try simp only [Act.put, List.setIfInBounds_toArray, List.set_cons_zero, List.set_cons_succ]
          refine wpAnyH_ready (rs := [5]) (by kernel_rfl) (by simp) ?_
          refine AllReadyH.cons (at_succ (at_succ (at_succ (at_succ (at_succ at_zero))))) (fun K hK => ?_) AllReadyH.nil
          rw [if_pos (by kernel_rfl)]
          go_simp
          refine hK.out _ _ (HC.out _ Z0) (fun hHeld => ?_)
          clear hK K
          try simp only [Act.put, List.setIfInBounds_toArray, List.set_cons_zero, List.set_cons_succ]
          refine wpAnyH_ready (rs := [13]) (by kernel_rfl) (by simp) ?_
          refine AllReadyH.cons (at_succ (at_succ (at_succ (at_succ (at_succ (at_succ (at_succ (at_succ (at_succ (at_succ (at_succ (at_succ (at_succ at_zero))))))))))))) (fun K hK => ?_) AllReadyH.nil
          rw [if_pos (by kernel_rfl)]
          go_simp
          refine (KB.out _ (ID.out.2.2.1.1.read ha) (TD.out.read he)).mono ?_
          rintro _ w5 ⟨v5, rfl, ho, hb⟩
          obtain ⟨A5, c5, e5, _⟩ := ho.form
          subst e5
          have O5 := Lib.hid (ho.down (Nat.zero_le _))
          have I5 := Lib.hid (ID.out.next hb)
          have Z1 := blk_below Z0 hb (blk_lt Z0)
          have f5 := blk_fr I5.out.1 a
          have c5a := I5.out.cell ha
          clear hb ho hHeld n97
          go_wp2_with fail
          refine hK.out _ _ (HC.out _ Z1) (fun hHeld => ?_)
          clear hK K
          try simp only [Act.put, List.setIfInBounds_toArray, List.set_cons_zero, List.set_cons_succ]
          refine wpAnyH_take (i := 14) (v := (.pointer (some ⟨w.heap.size, a, none⟩))) (at_succ (at_succ (at_succ (at_succ (at_succ (at_succ (at_succ (at_succ (at_succ (at_succ (at_succ (at_succ (at_succ (at_succ at_zero)))))))))))))) (by kernel_rfl) (by kernel_rfl) (by kernel_rfl) (fun _ _ _ h => h) (Or.inl ⟨by kernel_rfl, fun wy hSw => ?_⟩) (by assumption) ?_
          · (try dsimp only at hSw); go_simp
          try simp only [Act.put, List.setIfInBounds_toArray, List.set_cons_zero, List.set_cons_succ]
          refine wpAnyH_ready (rs := [15]) (by kernel_rfl) (by simp) ?_
          refine AllReadyH.cons (at_succ (at_succ (at_succ (at_succ (at_succ (at_succ (at_succ (at_succ (at_succ (at_succ (at_succ (at_succ (at_succ (at_succ (at_succ at_zero))))))))))))))) (fun K hK => ?_) AllReadyH.nil
          rw [if_pos (by kernel_rfl)]
          go_simp
          have Z2 : (w5.setCell ⟨w.heap.size, a, none⟩ (.slice A5 F.length c5)).heap[wr.heap.size]? = _ := blk_other Z1 NE.out _
          refine hK.out _ _ (HC.out _ Z2) (fun hHeld => ?_)
          clear hK K
          try simp only [Act.put, List.setIfInBounds_toArray, List.set_cons_zero, List.set_cons_succ]
          refine wpAnyH_done (by kernel_rfl) ?_ _
          obtain ⟨wz, hwz⟩ : ∃ wz, wz = w5.setCell ⟨w.heap.size, a, none⟩ (.slice A5 F.length c5) := ⟨_, rfl⟩
          rw [← hwz]
          obtain ⟨s', hs'⟩ : ∃ s', s' = setS s a (A5, c5, F) := ⟨_, rfl⟩
          have I6 := Lib.hid (show Inv w (.slice (some ⟨g, 0, none⟩) L.length cp) L s' wz by rw [hwz, hs']; exact I5.out.store ha (A5, c5, F) O5.out NN.out NK.out)
          clear hwz hs' Z0 Z1 Z2 f5 c5a O5 I5 ID IQ XQ NN NK KB HC I AT6 TL
          have KL := Lib.hid (looping_any s' wz I6.out.2.2.1.1 I6.out.2.2.2.1.1)
          have g0 := I6.out.cell (i := 0) (by omega)
          have g1 := I6.out.cell (i := 1) (by omega)
          have g2 := I6.out.cell (i := 2) (by omega)
          have g3 := I6.out.cell (i := 3) (by omega)
          have g4 := I6.out.cell (i := 4) (by omega)
          have g5 := I6.out.cell (i := 5) (by omega)
          go_wp2_with fail
          refine KL.out.mono ?_
          rintro _ w7 ⟨rfl, hb⟩
          have I7 := Lib.hid (I6.out.next hb)
          clear hb g0 g1 g2 g3 g4 g5 I6 KL
          have g0 := I7.out.cell (i := 0) (by omega)
          have g1 := I7.out.cell (i := 1) (by omega)
          have g2 := I7.out.cell (i := 2) (by omega)
          have g3 := I7.out.cell (i := 3) (by omega)
          have g4 := I7.out.cell (i := 4) (by omega)
          have g5 := I7.out.cell (i := 5) (by omega)
          obtain ⟨g8, cp8, w8, hap, hI8⟩ := I7.out.push hL
          have I8 := Lib.hid hI8
          clear hI8
          go_wp2_with (at_builtin; refine Lib.wpList_append_run _ rfl _ _ _ _ rfl _ _ rfl rfl _ _ hap ?_)
          go_roundw
          case rel => exact ⟨k + 1, s', L ++ [s'], g8, cp8, by go_num, hlt, by rw [len_snoc], by rw [len_snoc]; omega, by rw [len_snoc]; omega, I8⟩
          case measure => simp [intOf]; omega
        · have z6 : decide (x4 < (L.length : Int)) = false := df h6
          have KB := Lib.hid (KU.out s TL.out)
          have NN := Lib.hid (UN.out s (net_old IQ.out.2.2.2.1.1))
          have NK := Lib.hid (UK.out s)
          clear KU UN UK
          generalize upd (tbs s a) (a : Int) (e : Int) x3 (tbs s e) = F at *
          go_wp2_with fail
          have HC := Lib.hid (fun (wz : World) (h : wz.heap[wr.heap.size]? = some (.cells #[.int .i64 x0, .int .i64 (a : Int), .int .i64 (e : Int), .int .i64 x3, .int .i64 x4] 50 (0, 0))) => (show (fun w' : World => w'.cell? ⟨wr.heap.size, 1, none⟩ = some (.int .i64 (a : Int)) ∧ w'.cell? ⟨wr.heap.size, 2, none⟩ = some (.int .i64 (e : Int)) ∧ w'.cell? ⟨wr.heap.size, 3, none⟩ = some (.int .i64 x3)) wz from ⟨blk_cell h 1 rfl, blk_cell h 2 rfl, blk_cell h 3 rfl⟩))
          have Z0 : (wr.alloc (bxS x0 a e x3 x4)).drew.heap[wr.heap.size]? = some (.cells #[.int .i64 x0, .int .i64 (a : Int), .int .i64 (e : Int), .int .i64 x3, .int .i64 x4] 50 (0, 0)) := XQ.out
          have ID := Lib.hid (IQ.out.next (Below.refl _ (wr.alloc (bxS x0 a e x3 x4))).drew)
          have n97 : (wr.alloc (bxS x0 a e x3 x4)).drew.cell? ⟨w.heap.size, a, none⟩ = some (vs s a) := ID.out.cell ha
          refine wp_region_held_drew (S := (fun w' : World => w'.cell? ⟨wr.heap.size, 1, none⟩ = some (.int .i64 (a : Int)) ∧ w'.cell? ⟨wr.heap.size, 2, none⟩ = some (.int .i64 (e : Int)) ∧ w'.cell? ⟨wr.heap.size, 3, none⟩ = some (.int .i64 x3))) (by kernel_rfl) (HC.out _ Z0) (fun hHeld => ?_)
          refine wpAnyH_take (i := 0) (v := (.pointer (some ⟨wr.heap.size, 1, none⟩))) at_zero (by kernel_rfl) (by kernel_rfl) (by kernel_rfl) (fun _ _ _ h => h) (Or.inl ⟨by kernel_rfl, fun wy hSw => ?_⟩) (by assumption) ?_
          · (try dsimp only at hSw); go_simp
          try simp only [Act.put, List.setIfInBounds_toArray, List.set_cons_zero, List.set_cons_succ]
          refine wpAnyH_take (i := 1) (v := (.int .i64 (a : Int))) (at_succ at_zero) (by kernel_rfl) (by kernel_rfl) (by kernel_rfl) (fun _ _ _ h => h) (Or.inl ⟨by kernel_rfl, fun wy hSw => ?_⟩) (by assumption) ?_
          · (try dsimp only at hSw); go_simp
          try simp only [Act.put, List.setIfInBounds_toArray, List.set_cons_zero, List.set_cons_succ]
          refine wpAnyH_take (i := 2) (v := (.pointer (some ⟨wr.heap.size, 1, none⟩))) (at_succ (at_succ at_zero)) (by kernel_rfl) (by kernel_rfl) (by kernel_rfl) (fun _ _ _ h => h) (Or.inl ⟨by kernel_rfl, fun wy hSw => ?_⟩) (by assumption) ?_
          · (try dsimp only at hSw); go_simp
          try simp only [Act.put, List.setIfInBounds_toArray, List.set_cons_zero, List.set_cons_succ]
          refine wpAnyH_take (i := 3) (v := (.int .i64 (a : Int))) (at_succ (at_succ (at_succ at_zero))) (by kernel_rfl) (by kernel_rfl) (by kernel_rfl) (fun _ _ _ h => h) (Or.inl ⟨by kernel_rfl, fun wy hSw => ?_⟩) (by assumption) ?_
          · (try dsimp only at hSw); go_simp
          try simp only [Act.put, List.setIfInBounds_toArray, List.set_cons_zero, List.set_cons_succ]
          refine wpAnyH_take (i := 4) (v := (.pointer (some ⟨w.heap.size, a, none⟩))) (at_succ (at_succ (at_succ (at_succ at_zero)))) (by kernel_rfl) (by kernel_rfl) (by kernel_rfl) (fun _ _ _ h => h) (Or.inl ⟨by kernel_rfl, fun wy hSw => ?_⟩) (by assumption) ?_
          · (try dsimp only at hSw); go_simp
          try simp only [Act.put, List.setIfInBounds_toArray, List.set_cons_zero, List.set_cons_succ]
          refine wpAnyH_take (i := 6) (v := (.pointer (some ⟨wr.heap.size, 1, none⟩))) (at_succ (at_succ (at_succ (at_succ (at_succ (at_succ at_zero)))))) (by kernel_rfl) (by kernel_rfl) (by kernel_rfl) (fun _ _ _ h => h) (Or.inl ⟨by kernel_rfl, fun wy hSw => ?_⟩) (by assumption) ?_
          · (try dsimp only at hSw); go_simp
          try simp only [Act.put, List.setIfInBounds_toArray, List.set_cons_zero, List.set_cons_succ]
          refine wpAnyH_take (i := 7) (v := (.int .i64 (a : Int))) (at_succ (at_succ (at_succ (at_succ (at_succ (at_succ (at_succ at_zero))))))) (by kernel_rfl) (by kernel_rfl) (by kernel_rfl) (fun _ _ _ h => h) (Or.inl ⟨by kernel_rfl, fun wy hSw => ?_⟩) (by assumption) ?_
          · (try dsimp only at hSw); go_simp
          try simp only [Act.put, List.setIfInBounds_toArray, List.set_cons_zero, List.set_cons_succ]
          refine wpAnyH_take (i := 8) (v := (.pointer (some ⟨wr.heap.size, 2, none⟩))) (at_succ (at_succ (at_succ (at_succ (at_succ (at_succ (at_succ (at_succ at_zero)))))))) (by kernel_rfl) (by kernel_rfl) (by kernel_rfl) (fun _ _ _ h => h) (Or.inl ⟨by kernel_rfl, fun wy hSw => ?_⟩) (by assumption) ?_
          · (try dsimp only at hSw); go_simp
          try simp only [Act.put, List.setIfInBounds_toArray, List.set_cons_zero, List.set_cons_succ]
          refine wpAnyH_take (i := 9) (v := (.int .i64 (e : Int))) (at_succ (at_succ (at_succ (at_succ (at_succ (at_succ (at_succ (at_succ (at_succ at_zero))))))))) (by kernel_rfl) (by kernel_rfl) (by kernel_rfl) (fun _ _ _ h => h) (Or.inl ⟨by kernel_rfl, fun wy hSw => ?_⟩) (by assumption) ?_
          · (try dsimp only at hSw); go_simp
          try simp only [Act.put, List.setIfInBounds_toArray, List.set_cons_zero, List.set_cons_succ]
          refine wpAnyH_take (i := 10) (v := (.pointer (some ⟨wr.heap.size, 3, none⟩))) (at_succ (at_succ (at_succ (at_succ (at_succ (at_succ (at_succ (at_succ (at_succ (at_succ at_zero)))))))))) (by kernel_rfl) (by kernel_rfl) (by kernel_rfl) (fun _ _ _ h => h) (Or.inl ⟨by kernel_rfl, fun wy hSw => ?_⟩) (by assumption) ?_
          · (try dsimp only at hSw); go_simp
          try simp only [Act.put, List.setIfInBounds_toArray, List.set_cons_zero, List.set_cons_succ]
          refine wpAnyH_take (i := 11) (v := (.int .i64 x3)) (at_succ (at_succ (at_succ (at_succ (at_succ (at_succ (at_succ (at_succ (at_succ (at_succ (at_succ at_zero))))))))))) (by kernel_rfl) (by kernel_rfl) (by kernel_rfl) (fun _ _ _ h => h) (Or.inl ⟨by kernel_rfl, fun wy hSw => ?_⟩) (by assumption) ?_
          · (try dsimp only at hSw); go_simp
          try simp only [Act.put, List.setIfInBounds_toArray, List.set_cons_zero, List.set_cons_succ]
          refine wpAnyH_take (i := 12) (v := (vs s e)) (at_succ (at_succ (at_succ (at_succ (at_succ (at_succ (at_succ (at_succ (at_succ (at_succ (at_succ (at_succ at_zero)))))))))))) (by kernel_rfl) (by kernel_rfl) (by kernel_rfl) (fun _ _ _ h => h) (Or.inl ⟨by kernel_rfl, fun wy hSw => ?_⟩) (by assumption) ?_
          · (try dsimp only at hSw); go_simp
          try simp only [Act.put, List.setIfInBounds_toArray, List.set_cons_zero, List.set_cons_succ]
          refine wpAnyH_ready (rs := [5]) (by kernel_rfl) (by simp) ?_
          refine AllReadyH.cons (at_succ (at_succ (at_succ (at_succ (at_succ at_zero))))) (fun K hK => ?_) AllReadyH.nil
          rw [if_pos (by kernel_rfl)]
          go_simp
          refine hK.out _ _ (HC.out _ Z0) (fun hHeld => ?_)
          clear hK K
          try simp only [Act.put, List.setIfInBounds_toArray, List.set_cons_zero, List.set_cons_succ]
          refine wpAnyH_ready (rs := [13]) (by kernel_rfl) (by simp) ?_
          refine AllReadyH.cons (at_succ (at_succ (at_succ (at_succ (at_succ (at_succ (at_succ (at_succ (at_succ (at_succ (at_succ (at_succ (at_succ at_zero))))))))))))) (fun K hK => ?_) AllReadyH.nil
          rw [if_pos (by kernel_rfl)]
          go_simp
          refine (KB.out _ (ID.out.2.2.1.1.read ha) (ID.out.2.2.1.1.read he)).mono ?_
          rintro _ w5 ⟨v5, rfl, ho, hb⟩
          obtain ⟨A5, c5, e5, _⟩ := ho.form
          subst e5
          have O5 := Lib.hid (ho.down (Nat.zero_le _))
          have I5 := Lib.hid (ID.out.next hb)
          have Z1 := blk_below Z0 hb (blk_lt Z0)
          have f5 := blk_fr I5.out.1 a
          have c5a := I5.out.cell ha
          clear hb ho hHeld n97
          go_wp2_with fail
          refine hK.out _ _ (HC.out _ Z1) (fun hHeld => ?_)
          clear hK K
          try simp only [Act.put, List.setIfInBounds_toArray, List.set_cons_zero, List.set_cons_succ]
          refine wpAnyH_take (i := 14) (v := (.pointer (some ⟨w.heap.size, a, none⟩))) (at_succ (at_succ (at_succ (at_succ (at_succ (at_succ (at_succ (at_succ (at_succ (at_succ (at_succ (at_succ (at_succ (at_succ at_zero)))))))))))))) (by kernel_rfl) (by kernel_rfl) (by kernel_rfl) (fun _ _ _ h => h) (Or.inl ⟨by kernel_rfl, fun wy hSw => ?_⟩) (by assumption) ?_
          · (try dsimp only at hSw); go_simp
          try simp only [Act.put, List.setIfInBounds_toArray, List.set_cons_zero, List.set_cons_succ]
          refine wpAnyH_ready (rs := [15]) (by kernel_rfl) (by simp) ?_
          refine AllReadyH.cons (at_succ (at_succ (at_succ (at_succ (at_succ (at_succ (at_succ (at_succ (at_succ (at_succ (at_succ (at_succ (at_succ (at_succ (at_succ at_zero))))))))))))))) (fun K hK => ?_) AllReadyH.nil
          rw [if_pos (by kernel_rfl)]
          go_simp
          have Z2 : (w5.setCell ⟨w.heap.size, a, none⟩ (.slice A5 F.length c5)).heap[wr.heap.size]? = _ := blk_other Z1 NE.out _
          refine hK.out _ _ (HC.out _ Z2) (fun hHeld => ?_)
          clear hK K
          try simp only [Act.put, List.setIfInBounds_toArray, List.set_cons_zero, List.set_cons_succ]
          refine wpAnyH_done (by kernel_rfl) ?_ _
          obtain ⟨wz, hwz⟩ : ∃ wz, wz = w5.setCell ⟨w.heap.size, a, none⟩ (.slice A5 F.length c5) := ⟨_, rfl⟩
          rw [← hwz]
          obtain ⟨s', hs'⟩ : ∃ s', s' = setS s a (A5, c5, F) := ⟨_, rfl⟩
          have I6 := Lib.hid (show Inv w (.slice (some ⟨g, 0, none⟩) L.length cp) L s' wz by rw [hwz, hs']; exact I5.out.store ha (A5, c5, F) O5.out NN.out NK.out)
          clear hwz hs' Z0 Z1 Z2 f5 c5a O5 I5 ID IQ XQ NN NK KB HC I AT6 TL
          have KL := Lib.hid (looping_any s' wz I6.out.2.2.1.1 I6.out.2.2.2.1.1)
          have g0 := I6.out.cell (i := 0) (by omega)
          have g1 := I6.out.cell (i := 1) (by omega)
          have g2 := I6.out.cell (i := 2) (by omega)
          have g3 := I6.out.cell (i := 3) (by omega)
          have g4 := I6.out.cell (i := 4) (by omega)
          have g5 := I6.out.cell (i := 5) (by omega)
          go_wp2_with fail
          refine KL.out.mono ?_
          rintro _ w7 ⟨rfl, hb⟩
          have I7 := Lib.hid (I6.out.next hb)
          clear hb g0 g1 g2 g3 g4 g5 I6 KL
          have g0 := I7.out.cell (i := 0) (by omega)
          have g1 := I7.out.cell (i := 1) (by omega)
          have g2 := I7.out.cell (i := 2) (by omega)
          have g3 := I7.out.cell (i := 3) (by omega)
          have g4 := I7.out.cell (i := 4) (by omega)
          have g5 := I7.out.cell (i := 5) (by omega)
          obtain ⟨g8, cp8, w8, hap, hI8⟩ := I7.out.push hL
          have I8 := Lib.hid hI8
          clear hI8
          go_wp2_with (at_builtin; refine Lib.wpList_append_run _ rfl _ _ _ _ rfl _ _ rfl rfl _ _ hap ?_)
          go_roundw
          case rel => exact ⟨k + 1, s', L ++ [s'], g8, cp8, by go_num, hlt, by rw [len_snoc], by rw [len_snoc]; omega, by rw [len_snoc]; omega, I8⟩
          case measure => simp [intOf]; omega
      · have z5 : decide (0 ≤ x4) = false := df h5
        have KB := Lib.hid (KU.out s TL.out)
        have NN := Lib.hid (UN.out s (net_old IQ.out.2.2.2.1.1))
        have NK := Lib.hid (UK.out s)
        clear KU UN UK
        generalize upd (tbs s a) (a : Int) (e : Int) x3 (tbs s e) = F at *
        go_wp2_with fail
        have HC := Lib.hid (fun (wz : World) (h : wz.heap[wr.heap.size]? = some (.cells #[.int .i64 x0, .int .i64 (a : Int), .int .i64 (e : Int), .int .i64 x3, .int .i64 x4] 50 (0, 0))) => (show (fun w' : World => w'.cell? ⟨wr.heap.size, 1, none⟩ = some (.int .i64 (a : Int)) ∧ w'.cell? ⟨wr.heap.size, 2, none⟩ = some (.int .i64 (e : Int)) ∧ w'.cell? ⟨wr.heap.size, 3, none⟩ = some (.int .i64 x3)) wz from ⟨blk_cell h 1 rfl, blk_cell h 2 rfl, blk_cell h 3 rfl⟩))
        have Z0 : (wr.alloc (bxS x0 a e x3 x4)).drew.heap[wr.heap.size]? = some (.cells #[.int .i64 x0, .int .i64 (a : Int), .int .i64 (e : Int), .int .i64 x3, .int .i64 x4] 50 (0, 0)) := XQ.out
        have ID := Lib.hid (IQ.out.next (Below.refl _ (wr.alloc (bxS x0 a e x3 x4))).drew)
        have n97 : (wr.alloc (bxS x0 a e x3 x4)).drew.cell? ⟨w.heap.size, a, none⟩ = some (vs s a) := ID.out.cell ha
        refine wp_region_held_drew (S := (fun w' : World => w'.cell? ⟨wr.heap.size, 1, none⟩ = some (.int .i64 (a : Int)) ∧ w'.cell? ⟨wr.heap.size, 2, none⟩ = some (.int .i64 (e : Int)) ∧ w'.cell? ⟨wr.heap.size, 3, none⟩ = some (.int .i64 x3))) (by kernel_rfl) (HC.out _ Z0) (fun hHeld => ?_)
        refine wpAnyH_take (i := 0) (v := (.pointer (some ⟨wr.heap.size, 1, none⟩))) at_zero (by kernel_rfl) (by kernel_rfl) (by kernel_rfl) (fun _ _ _ h => h) (Or.inl ⟨by kernel_rfl, fun wy hSw => ?_⟩) (by assumption) ?_
        · (try dsimp only at hSw); go_simp
        try simp only [Act.put, List.setIfInBounds_toArray, List.set_cons_zero, List.set_cons_succ]
        refine wpAnyH_take (i := 1) (v := (.int .i64 (a : Int))) (at_succ at_zero) (by kernel_rfl) (by kernel_rfl) (by kernel_rfl) (fun _ _ _ h => h) (Or.inl ⟨by kernel_rfl, fun wy hSw => ?_⟩) (by assumption) ?_
        · (try dsimp only at hSw); go_simp
        try simp only [Act.put, List.setIfInBounds_toArray, List.set_cons_zero, List.set_cons_succ]
        refine wpAnyH_take (i := 2) (v := (.pointer (some ⟨wr.heap.size, 1, none⟩))) (at_succ (at_succ at_zero)) (by kernel_rfl) (by kernel_rfl) (by kernel_rfl) (fun _ _ _ h => h) (Or.inl ⟨by kernel_rfl, fun wy hSw => ?_⟩) (by assumption) ?_
        · (try dsimp only at hSw); go_simp
        try simp only [Act.put, List.setIfInBounds_toArray, List.set_cons_zero, List.set_cons_succ]
        refine wpAnyH_take (i := 3) (v := (.int .i64 (a : Int))) (at_succ (at_succ (at_succ at_zero))) (by kernel_rfl) (by kernel_rfl) (by kernel_rfl) (fun _ _ _ h => h) (Or.inl ⟨by kernel_rfl, fun wy hSw => ?_⟩) (by assumption) ?_
        · (try dsimp only at hSw); go_simp
        try simp only [Act.put, List.setIfInBounds_toArray, List.set_cons_zero, List.set_cons_succ]
        refine wpAnyH_take (i := 4) (v := (.pointer (some ⟨w.heap.size, a, none⟩))) (at_succ (at_succ (at_succ (at_succ at_zero)))) (by kernel_rfl) (by kernel_rfl) (by kernel_rfl) (fun _ _ _ h => h) (Or.inl ⟨by kernel_rfl, fun wy hSw => ?_⟩) (by assumption) ?_
        · (try dsimp only at hSw); go_simp
        try simp only [Act.put, List.setIfInBounds_toArray, List.set_cons_zero, List.set_cons_succ]
        refine wpAnyH_take (i := 6) (v := (.pointer (some ⟨wr.heap.size, 1, none⟩))) (at_succ (at_succ (at_succ (at_succ (at_succ (at_succ at_zero)))))) (by kernel_rfl) (by kernel_rfl) (by kernel_rfl) (fun _ _ _ h => h) (Or.inl ⟨by kernel_rfl, fun wy hSw => ?_⟩) (by assumption) ?_
        · (try dsimp only at hSw); go_simp
        try simp only [Act.put, List.setIfInBounds_toArray, List.set_cons_zero, List.set_cons_succ]
        refine wpAnyH_take (i := 7) (v := (.int .i64 (a : Int))) (at_succ (at_succ (at_succ (at_succ (at_succ (at_succ (at_succ at_zero))))))) (by kernel_rfl) (by kernel_rfl) (by kernel_rfl) (fun _ _ _ h => h) (Or.inl ⟨by kernel_rfl, fun wy hSw => ?_⟩) (by assumption) ?_
        · (try dsimp only at hSw); go_simp
        try simp only [Act.put, List.setIfInBounds_toArray, List.set_cons_zero, List.set_cons_succ]
        refine wpAnyH_take (i := 8) (v := (.pointer (some ⟨wr.heap.size, 2, none⟩))) (at_succ (at_succ (at_succ (at_succ (at_succ (at_succ (at_succ (at_succ at_zero)))))))) (by kernel_rfl) (by kernel_rfl) (by kernel_rfl) (fun _ _ _ h => h) (Or.inl ⟨by kernel_rfl, fun wy hSw => ?_⟩) (by assumption) ?_
        · (try dsimp only at hSw); go_simp
        try simp only [Act.put, List.setIfInBounds_toArray, List.set_cons_zero, List.set_cons_succ]
        refine wpAnyH_take (i := 9) (v := (.int .i64 (e : Int))) (at_succ (at_succ (at_succ (at_succ (at_succ (at_succ (at_succ (at_succ (at_succ at_zero))))))))) (by kernel_rfl) (by kernel_rfl) (by kernel_rfl) (fun _ _ _ h => h) (Or.inl ⟨by kernel_rfl, fun wy hSw => ?_⟩) (by assumption) ?_
        · (try dsimp only at hSw); go_simp
        try simp only [Act.put, List.setIfInBounds_toArray, List.set_cons_zero, List.set_cons_succ]
        refine wpAnyH_take (i := 10) (v := (.pointer (some ⟨wr.heap.size, 3, none⟩))) (at_succ (at_succ (at_succ (at_succ (at_succ (at_succ (at_succ (at_succ (at_succ (at_succ at_zero)))))))))) (by kernel_rfl) (by kernel_rfl) (by kernel_rfl) (fun _ _ _ h => h) (Or.inl ⟨by kernel_rfl, fun wy hSw => ?_⟩) (by assumption) ?_
        · (try dsimp only at hSw); go_simp
        try simp only [Act.put, List.setIfInBounds_toArray, List.set_cons_zero, List.set_cons_succ]
        refine wpAnyH_take (i := 11) (v := (.int .i64 x3)) (at_succ (at_succ (at_succ (at_succ (at_succ (at_succ (at_succ (at_succ (at_succ (at_succ (at_succ at_zero))))))))))) (by kernel_rfl) (by kernel_rfl) (by kernel_rfl) (fun _ _ _ h => h) (Or.inl ⟨by kernel_rfl, fun wy hSw => ?_⟩) (by assumption) ?_
        · (try dsimp only at hSw); go_simp
        try simp only [Act.put, List.setIfInBounds_toArray, List.set_cons_zero, List.set_cons_succ]
        refine wpAnyH_take (i := 12) (v := (vs s e)) (at_succ (at_succ (at_succ (at_succ (at_succ (at_succ (at_succ (at_succ (at_succ (at_succ (at_succ (at_succ at_zero)))))))))))) (by kernel_rfl) (by kernel_rfl) (by kernel_rfl) (fun _ _ _ h => h) (Or.inl ⟨by kernel_rfl, fun wy hSw => ?_⟩) (by assumption) ?_
        · (try dsimp only at hSw); go_simp
        try simp only [Act.put, List.setIfInBounds_toArray, List.set_cons_zero, List.set_cons_succ]
        refine wpAnyH_ready (rs := [5]) (by kernel_rfl) (by simp) ?_
        refine AllReadyH.cons (at_succ (at_succ (at_succ (at_succ (at_succ at_zero))))) (fun K hK => ?_) AllReadyH.nil
        rw [if_pos (by kernel_rfl)]
        go_simp
        refine hK.out _ _ (HC.out _ Z0) (fun hHeld => ?_)
        clear hK K
        try simp only [Act.put, List.setIfInBounds_toArray, List.set_cons_zero, List.set_cons_succ]
        refine wpAnyH_ready (rs := [13]) (by kernel_rfl) (by simp) ?_
        refine AllReadyH.cons (at_succ (at_succ (at_succ (at_succ (at_succ (at_succ (at_succ (at_succ (at_succ (at_succ (at_succ (at_succ (at_succ at_zero))))))))))))) (fun K hK => ?_) AllReadyH.nil
        rw [if_pos (by kernel_rfl)]
        go_simp
        refine (KB.out _ (ID.out.2.2.1.1.read ha) (ID.out.2.2.1.1.read he)).mono ?_
        rintro _ w5 ⟨v5, rfl, ho, hb⟩
        obtain ⟨A5, c5, e5, _⟩ := ho.form
        subst e5
        have O5 := Lib.hid (ho.down (Nat.zero_le _))
        have I5 := Lib.hid (ID.out.next hb)
        have Z1 := blk_below Z0 hb (blk_lt Z0)
        have f5 := blk_fr I5.out.1 a
        have c5a := I5.out.cell ha
        clear hb ho hHeld n97
        go_wp2_with fail
        refine hK.out _ _ (HC.out _ Z1) (fun hHeld => ?_)
        clear hK K
        try simp only [Act.put, List.setIfInBounds_toArray, List.set_cons_zero, List.set_cons_succ]
        refine wpAnyH_take (i := 14) (v := (.pointer (some ⟨w.heap.size, a, none⟩))) (at_succ (at_succ (at_succ (at_succ (at_succ (at_succ (at_succ (at_succ (at_succ (at_succ (at_succ (at_succ (at_succ (at_succ at_zero)))))))))))))) (by kernel_rfl) (by kernel_rfl) (by kernel_rfl) (fun _ _ _ h => h) (Or.inl ⟨by kernel_rfl, fun wy hSw => ?_⟩) (by assumption) ?_
        · (try dsimp only at hSw); go_simp
        try simp only [Act.put, List.setIfInBounds_toArray, List.set_cons_zero, List.set_cons_succ]
        refine wpAnyH_ready (rs := [15]) (by kernel_rfl) (by simp) ?_
        refine AllReadyH.cons (at_succ (at_succ (at_succ (at_succ (at_succ (at_succ (at_succ (at_succ (at_succ (at_succ (at_succ (at_succ (at_succ (at_succ (at_succ at_zero))))))))))))))) (fun K hK => ?_) AllReadyH.nil
        rw [if_pos (by kernel_rfl)]
        go_simp
        have Z2 : (w5.setCell ⟨w.heap.size, a, none⟩ (.slice A5 F.length c5)).heap[wr.heap.size]? = _ := blk_other Z1 NE.out _
        refine hK.out _ _ (HC.out _ Z2) (fun hHeld => ?_)
        clear hK K
        try simp only [Act.put, List.setIfInBounds_toArray, List.set_cons_zero, List.set_cons_succ]
        refine wpAnyH_done (by kernel_rfl) ?_ _
        obtain ⟨wz, hwz⟩ : ∃ wz, wz = w5.setCell ⟨w.heap.size, a, none⟩ (.slice A5 F.length c5) := ⟨_, rfl⟩
        rw [← hwz]
        obtain ⟨s', hs'⟩ : ∃ s', s' = setS s a (A5, c5, F) := ⟨_, rfl⟩
        have I6 := Lib.hid (show Inv w (.slice (some ⟨g, 0, none⟩) L.length cp) L s' wz by rw [hwz, hs']; exact I5.out.store ha (A5, c5, F) O5.out NN.out NK.out)
        clear hwz hs' Z0 Z1 Z2 f5 c5a O5 I5 ID IQ XQ NN NK KB HC I AT6 TL
        have KL := Lib.hid (looping_any s' wz I6.out.2.2.1.1 I6.out.2.2.2.1.1)
        have g0 := I6.out.cell (i := 0) (by omega)
        have g1 := I6.out.cell (i := 1) (by omega)
        have g2 := I6.out.cell (i := 2) (by omega)
        have g3 := I6.out.cell (i := 3) (by omega)
        have g4 := I6.out.cell (i := 4) (by omega)
        have g5 := I6.out.cell (i := 5) (by omega)
        go_wp2_with fail
        refine KL.out.mono ?_
        rintro _ w7 ⟨rfl, hb⟩
        have I7 := Lib.hid (I6.out.next hb)
        clear hb g0 g1 g2 g3 g4 g5 I6 KL
        have g0 := I7.out.cell (i := 0) (by omega)
        have g1 := I7.out.cell (i := 1) (by omega)
        have g2 := I7.out.cell (i := 2) (by omega)
        have g3 := I7.out.cell (i := 3) (by omega)
        have g4 := I7.out.cell (i := 4) (by omega)
        have g5 := I7.out.cell (i := 5) (by omega)
        obtain ⟨g8, cp8, w8, hap, hI8⟩ := I7.out.push hL
        have I8 := Lib.hid hI8
        clear hI8
        go_wp2_with (at_builtin; refine Lib.wpList_append_run _ rfl _ _ _ _ rfl _ _ rfl rfl _ _ hap ?_)
        go_roundw
        case rel => exact ⟨k + 1, s', L ++ [s'], g8, cp8, by go_num, hlt, by rw [len_snoc], by rw [len_snoc]; omega, by rw [len_snoc]; omega, I8⟩
        case measure => simp [intOf]; omega
end Go.Proofs.Ytcfnkfkdhcejeaa.Rte
