/- The reference's Decode. -/
import Derived.Test.YtcfnkfkdhcejeaaRT
import Derived.Test.YtcfnkfkdhcejeaaQH
set_option linter.unusedVariables false
namespace Go.Proofs.Ytcfnkfkdhcejeaa.Rte
open Go.RowKit

theorem chkD_cons (p : Int) (x : Rt) (r : List Rt) : chkD p (x :: r) = if Us1 x then (if x.1 ≤ p then 14 else chkD x.1 r) else 2 := rfl
theorem i64_plus (j n : Nat) (h : j + n ≤ 2000000) : IntKind.i64.wrap ((j : Int) + (n : Int)) = ((j + n : Nat) : Int) := by rw [IntKind.wrap_i64]; omega

set_option maxRecDepth 100000 in
set_option maxHeartbeats 1000000 in
theorem rdec_any (s : ByteArray) (w : World) (hs : s.size ≤ 1000000) :
    Calls Try.prog 25 #[.string s] w (OutD w (dec s.data.toList)) := by
  have hl := bytes_len s
  obtain ⟨L, hL⟩ : ∃ L, L = s.data.toList := ⟨_, rfl⟩
  rw [← hL] at hl ⊢
  have HL := Lib.hid hL
  clear hL
  have m0 : (s.size : Int).tmod 4 = ((s.size % 4 : Nat) : Int) := by rw [Int.tmod_eq_emod_of_nonneg (by omega)]; omega
  by_cases h4 : L.length % 4 ≠ 0
  · have R := Lib.hid (dec_4 h4)
    have d1 : (((s.size % 4 : Nat) : Int) != 0) = true := by rw [bne_iff_ne]; omega
    generalize dec L = D at *
    obtain ⟨D1, D2⟩ := D
    obtain ⟨rfl, rfl⟩ : D1 = [] ∧ D2 = 5 := by have := R.out; simpa using this
    clear h4
    generalize s.size % 4 = r at *
    go_enter Try.func25, Try.ntmps25
    go_wp2_with fail
    go_ret2
    exact ⟨_, rfl, OwnF.nil _ _, Below.refl _ _⟩
  by_cases h96 : 96 < L.length
  · have R := Lib.hid (dec_96 h4 h96)
    have d1 : (((s.size % 4 : Nat) : Int) != 0) = false := by rw [← Bool.not_eq_true, bne_iff_ne]; omega
    have d2 : decide (96 < (s.size : Int)) = true := dt (by omega)
    generalize dec L = D at *
    obtain ⟨D1, D2⟩ := D
    obtain ⟨rfl, rfl⟩ : D1 = [] ∧ D2 = 3 := by have := R.out; simpa using this
    clear h4 h96
    generalize s.size % 4 = r at *
    go_enter Try.func25, Try.ntmps25
    go_wp2_with fail
    go_ret2
    exact ⟨_, rfl, OwnF.nil _ _, Below.refl _ _⟩
  have R := Lib.hid (dec_0 h4 h96)
  have RNx : ∀ D1 D2, (D1, D2) = dec L → ∀ q, q ≠ 0 → chkD (-1) (rts L) = q → D1 = [] ∧ D2 = q := fun D1 D2 hD q hq he => by
    rw [R.out, he, if_neg hq] at hD; simpa using hD
  have RZx : ∀ D1 D2, (D1, D2) = dec L → chkD (-1) (rts L) = 0 → D1 = rts L ∧ D2 = 0 := fun D1 D2 hD he => by
    rw [R.out, he, if_pos rfl] at hD; simpa using hD
  have d1 : (((s.size % 4 : Nat) : Int) != 0) = false := by rw [← Bool.not_eq_true, bne_iff_ne]; omega
  have d2 : decide (96 < (s.size : Int)) = false := df (by omega)
  obtain ⟨m, hm⟩ : ∃ m, L.length = 4 * m := ⟨L.length / 4, by omega⟩
  have hm24 : m ≤ 24 := by omega
  have hsm : s.size = 4 * m := by omega
  have RL := Lib.hid (rts_back m L hm).2
  have RO := Lib.hid (fun k hk h2 => rts_one (k := k) hm hk h2)
  generalize dec L = D at *
  obtain ⟨D1, D2⟩ := D
  have RN := Lib.hid (RNx D1 D2 rfl)
  have RZ := Lib.hid (RZx D1 D2 rfl)
  clear h4 h96 RNx RZx
  go_enter Try.func25, Try.ntmps25
  generalize s.size % 4 = r at *
  go_wp2_with fail
  clear d1 d2 m0
  have CK := Lib.hid (show chkD (-1) (rts L) = chkD (pv (rts L) 0) ((rts L).drop 0) by rw [pv_zero]; rfl)
  go_loopw [4, 5] (fun vv vi wr => ∃ (k j : Nat) (A1 : Option Addr) (c1 : Nat), vi = .int .i64 j ∧ j = 4 * k ∧ k ≤ m ∧ vv = .slice A1 k c1 ∧ Hid (chkD (-1) (rts L) = chkD (pv (rts L) k) ((rts L).drop k)) ∧ Hid (OwnR wr w.heap.size (.slice A1 k c1) ((rts L).take k)) ∧ Below w.heap.size w wr) (fun _ vi _ => 4 * m - (intOf vi).toNat)
  case atStart => exact ⟨0, 0, none, 0, rfl, rfl, Nat.zero_le _, rfl, CK, Lib.hid (OwnF.nil _ _), Below.refl _ _⟩
  case round =>
    obtain ⟨k, j, A1, c1, rfl, hj, hk, rfl, HC0, O, hb⟩ := hrel
    have B := Lib.hid hb
    have hz := hb.size
    clear hb
    by_cases hlt : k < m
    · obtain ⟨j1, hj1⟩ : ∃ j1, j1 = j + 1 := ⟨_, rfl⟩
      obtain ⟨j2, hj2⟩ : ∃ j2, j2 = j + 2 := ⟨_, rfl⟩
      obtain ⟨j3, hj3⟩ : ∃ j3, j3 = j + 3 := ⟨_, rfl⟩
      have d0 : decide ((j : Int) < (s.size : Int)) = true := dt (by omega)
      have p0 : j < s.size := by omega
      have p1 : j1 < s.size := by omega
      have p2 : j2 < s.size := by omega
      have p3 : j3 < s.size := by omega
      have q0 : (j : Int) < (s.size : Int) := by omega
      have q1 : (j1 : Int) < (s.size : Int) := by omega
      have q2 : (j2 : Int) < (s.size : Int) := by omega
      have q3 : (j3 : Int) < (s.size : Int) := by omega
      have n0 : (0 : Int) ≤ (j : Int) := by omega
      have n1 : (0 : Int) ≤ (j1 : Int) := by omega
      have n2 : (0 : Int) ≤ (j2 : Int) := by omega
      have n3 : (0 : Int) ≤ (j3 : Int) := by omega
      have a1 : IntKind.i64.wrap ((j : Int) + 1) = (j1 : Int) := by rw [IntKind.wrap_i64]; omega
      have a2 : IntKind.i64.wrap ((j : Int) + 2) = (j2 : Int) := by rw [IntKind.wrap_i64]; omega
      have a3 : IntKind.i64.wrap ((j : Int) + 3) = (j3 : Int) := by rw [IntKind.wrap_i64]; omega
      have i0 := (byte_wrap (s[j]'p0)).2
      have i1 := (byte_wrap (s[j1]'p1)).2
      have i2 := (byte_wrap (s[j2]'p2)).2
      have i3 := (byte_wrap (s[j3]'p3)).2
      have i4 := (byte_wrap256 (s[j1]'p1)).2
      have i5 := (byte_wrap2 (s[j1]'p1) (s[j2]'p2)).2
      have h2 : k < (rts L).length := by rw [RL.out]; exact hlt
      obtain ⟨X, hX⟩ : ∃ X, X = rd4 (s[j]'p0) (s[j1]'p1) (s[j2]'p2) (s[j3]'p3) := ⟨_, rfl⟩
      have RK : fR.ok X := by rw [hX]; exact rd4_ok _ _ _ _
      have XK : (rts L)[k] = X := by
        rw [hX, RO.out k hlt h2, byte_at s j p0, byte_at s j1 p1, byte_at s j2 p2, byte_at s j3 p3, ← HL.out, hj1, hj2, hj3, hj]
      have XT := Lib.hid (show (rts L).take (k + 1) = (rts L).take k ++ [X] by rw [List.take_succ_eq_append_getElem h2, XK])
      have LK := Lib.hid (show ((rts L).take k).length = k by rw [List.length_take, RL.out]; omega)
      have AL := Lib.hid (show chkD (-1) (rts L) = if Us1 X then (if X.1 ≤ pv (rts L) k then 14 else chkD X.1 ((rts L).drop (k + 1))) else 2 by
        rw [HC0.out, List.drop_eq_getElem_cons h2, XK, chkD_cons])
      have PS := Lib.hid (show pv (rts L) (k + 1) = X.1 by rw [pv_succ (rts L) k h2, XK])
      have HJ := Lib.hid hj
      have HS := Lib.hid hsm
      have KU := Lib.hid (fun w => (show Calls Try.prog 38 #[.agg #[.int .i64 ((s[j]'p0).toNat : Int), .int .i64 (((s[j1]'p1).toNat : Int) * (256 : Int) + ((s[j2]'p2).toNat : Int)), .int .i64 ((s[j3]'p3).toNat : Int), .int .i64 255]] w (OutV w (.bool (decide (Us1 X)))) from by rw [hX]; exact (rusable_any (rd4 (s[j]'p0) (s[j1]'p1) (s[j2]'p2) (s[j3]'p3)) w).mono fun _ _ h => outG_V h))
      unfold OutV at KU
      have AP := Lib.hid (fun (wz : World) A c (hO : OwnR wz w.heap.size (.slice A k c) ((rts L).take k)) (hB : w.heap.size ≤ wz.heap.size) => (show ∃ A' c' w', (Builtin.append_ #[22, 22] 22 #[.slice A k c, .slice (some ⟨wz.heap.size, 0, none⟩) 1 1]).run Try.prog (wz.alloc (bxR ((s[j]'p0).toNat : Int) (((s[j1]'p1).toNat : Int) * (256 : Int) + ((s[j2]'p2).toNat : Int)) ((s[j3]'p3).toNat : Int) 255)) = .ok (.slice A' (k + 1) c') w' ∧ OwnR w' w.heap.size (.slice A' (k + 1) c') ((rts L).take (k + 1)) ∧ Below w.heap.size wz w' by
        obtain ⟨v', w', h1, h2, h3⟩ := app_route hO X RK (by rw [LK.out]; omega) hB
        obtain ⟨A', c', e', _⟩ := h2.form
        rw [List.length_append, LK.out] at e'
        subst e'
        rw [hX] at h1
        refine ⟨A', c', w', h1, ?_, h3⟩
        rw [XT.out]
        exact h2))
      have X0 := Lib.hid (show X.1 = ((s[j]'p0).toNat : Int) by rw [hX]; rfl)
      have PV := Lib.hid (show 0 < k → ∃ k', ∃ h' : k' < ((rts L).take k).length, k = k' + 1 ∧ pv (rts L) k = ((rts L).take k)[k'].1 from fun h => ⟨k - 1, by rw [LK.out]; omega, by omega, by
        have := pv_succ (rts L) (k - 1) (by omega)
        rw [show k - 1 + 1 = k by omega] at this
        rw [this, List.getElem_take]⟩)
      clear hj1 hj2 hj3 XK hX h2 hj
      clear hsm
      go_wp2_with fail
      have HC := Lib.hid (fun (wz : World) (h : Below w.heap.size w wz) => trivial)
      have Z0 : Below w.heap.size w wr.drew := B.out.drew
      refine wp_region_held_drew (S := (fun _ : World => True)) (by kernel_rfl) (HC.out _ Z0) (fun hHeld => ?_)
      refine wpAnyH_take (i := 0) (v := (.string s)) at_zero (by kernel_rfl) (by kernel_rfl) (by kernel_rfl) (fun _ _ _ h => h) (Or.inl ⟨by kernel_rfl, fun wy hSw => ?_⟩) (by assumption) ?_
      · (try dsimp only at hSw); go_simp
      try simp only [Act.put, List.setIfInBounds_toArray, List.set_cons_zero, List.set_cons_succ]
      refine wpAnyH_take (i := 1) (v := (.int .i64 (j : Int))) (at_succ at_zero) (by kernel_rfl) (by kernel_rfl) (by kernel_rfl) (fun _ _ _ h => h) (Or.inl ⟨by kernel_rfl, fun wy hSw => ?_⟩) (by assumption) ?_
      · (try dsimp only at hSw); go_simp
      try simp only [Act.put, List.setIfInBounds_toArray, List.set_cons_zero, List.set_cons_succ]
      refine wpAnyH_take (i := 2) (v := (.int .u8 ((s[j]'p0).toNat : Int))) (at_succ (at_succ at_zero)) (by kernel_rfl) (by kernel_rfl) (by kernel_rfl) (fun _ _ _ h => h) (Or.inl ⟨by kernel_rfl, fun wy hSw => ?_⟩) (by assumption) ?_
      · (try dsimp only at hSw); go_simp
      try simp only [Act.put, List.setIfInBounds_toArray, List.set_cons_zero, List.set_cons_succ]
      refine wpAnyH_take (i := 3) (v := (.int .i64 ((s[j]'p0).toNat : Int))) (at_succ (at_succ (at_succ at_zero))) (by kernel_rfl) (by kernel_rfl) (by kernel_rfl) (fun _ _ _ h => h) (Or.inl ⟨by kernel_rfl, fun wy hSw => ?_⟩) (by assumption) ?_
      · (try dsimp only at hSw); go_simp
      try simp only [Act.put, List.setIfInBounds_toArray, List.set_cons_zero, List.set_cons_succ]
      refine wpAnyH_take (i := 4) (v := (.string s)) (at_succ (at_succ (at_succ (at_succ at_zero)))) (by kernel_rfl) (by kernel_rfl) (by kernel_rfl) (fun _ _ _ h => h) (Or.inl ⟨by kernel_rfl, fun wy hSw => ?_⟩) (by assumption) ?_
      · (try dsimp only at hSw); go_simp
      try simp only [Act.put, List.setIfInBounds_toArray, List.set_cons_zero, List.set_cons_succ]
      refine wpAnyH_take (i := 5) (v := (.int .i64 (j : Int))) (at_succ (at_succ (at_succ (at_succ (at_succ at_zero))))) (by kernel_rfl) (by kernel_rfl) (by kernel_rfl) (fun _ _ _ h => h) (Or.inl ⟨by kernel_rfl, fun wy hSw => ?_⟩) (by assumption) ?_
      · (try dsimp only at hSw); go_simp
      try simp only [Act.put, List.setIfInBounds_toArray, List.set_cons_zero, List.set_cons_succ]
      refine wpAnyH_take (i := 6) (v := (.int .i64 (j1 : Int))) (at_succ (at_succ (at_succ (at_succ (at_succ (at_succ at_zero)))))) (by kernel_rfl) (by kernel_rfl) (by kernel_rfl) (fun _ _ _ h => h) (Or.inl ⟨by kernel_rfl, fun wy hSw => ?_⟩) (by assumption) ?_
      · (try dsimp only at hSw); go_simp
      try simp only [Act.put, List.setIfInBounds_toArray, List.set_cons_zero, List.set_cons_succ]
      refine wpAnyH_take (i := 7) (v := (.int .u8 ((s[j1]'p1).toNat : Int))) (at_succ (at_succ (at_succ (at_succ (at_succ (at_succ (at_succ at_zero))))))) (by kernel_rfl) (by kernel_rfl) (by kernel_rfl) (fun _ _ _ h => h) (Or.inl ⟨by kernel_rfl, fun wy hSw => ?_⟩) (by assumption) ?_
      · (try dsimp only at hSw); go_simp
      try simp only [Act.put, List.setIfInBounds_toArray, List.set_cons_zero, List.set_cons_succ]
      refine wpAnyH_take (i := 8) (v := (.int .i64 ((s[j1]'p1).toNat : Int))) (at_succ (at_succ (at_succ (at_succ (at_succ (at_succ (at_succ (at_succ at_zero)))))))) (by kernel_rfl) (by kernel_rfl) (by kernel_rfl) (fun _ _ _ h => h) (Or.inl ⟨by kernel_rfl, fun wy hSw => ?_⟩) (by assumption) ?_
      · (try dsimp only at hSw); go_simp
      try simp only [Act.put, List.setIfInBounds_toArray, List.set_cons_zero, List.set_cons_succ]
      refine wpAnyH_take (i := 9) (v := (.int .i64 (((s[j1]'p1).toNat : Int) * (256 : Int)))) (at_succ (at_succ (at_succ (at_succ (at_succ (at_succ (at_succ (at_succ (at_succ at_zero))))))))) (by kernel_rfl) (by kernel_rfl) (by kernel_rfl) (fun _ _ _ h => h) (Or.inl ⟨by kernel_rfl, fun wy hSw => ?_⟩) (by assumption) ?_
      · (try dsimp only at hSw); go_simp
      try simp only [Act.put, List.setIfInBounds_toArray, List.set_cons_zero, List.set_cons_succ]
      refine wpAnyH_take (i := 10) (v := (.string s)) (at_succ (at_succ (at_succ (at_succ (at_succ (at_succ (at_succ (at_succ (at_succ (at_succ at_zero)))))))))) (by kernel_rfl) (by kernel_rfl) (by kernel_rfl) (fun _ _ _ h => h) (Or.inl ⟨by kernel_rfl, fun wy hSw => ?_⟩) (by assumption) ?_
      · (try dsimp only at hSw); go_simp
      try simp only [Act.put, List.setIfInBounds_toArray, List.set_cons_zero, List.set_cons_succ]
      refine wpAnyH_take (i := 11) (v := (.int .i64 (j : Int))) (at_succ (at_succ (at_succ (at_succ (at_succ (at_succ (at_succ (at_succ (at_succ (at_succ (at_succ at_zero))))))))))) (by kernel_rfl) (by kernel_rfl) (by kernel_rfl) (fun _ _ _ h => h) (Or.inl ⟨by kernel_rfl, fun wy hSw => ?_⟩) (by assumption) ?_
      · (try dsimp only at hSw); go_simp
      try simp only [Act.put, List.setIfInBounds_toArray, List.set_cons_zero, List.set_cons_succ]
      refine wpAnyH_take (i := 12) (v := (.int .i64 (j2 : Int))) (at_succ (at_succ (at_succ (at_succ (at_succ (at_succ (at_succ (at_succ (at_succ (at_succ (at_succ (at_succ at_zero)))))))))))) (by kernel_rfl) (by kernel_rfl) (by kernel_rfl) (fun _ _ _ h => h) (Or.inl ⟨by kernel_rfl, fun wy hSw => ?_⟩) (by assumption) ?_
      · (try dsimp only at hSw); go_simp
      try simp only [Act.put, List.setIfInBounds_toArray, List.set_cons_zero, List.set_cons_succ]
      refine wpAnyH_take (i := 13) (v := (.int .u8 ((s[j2]'p2).toNat : Int))) (at_succ (at_succ (at_succ (at_succ (at_succ (at_succ (at_succ (at_succ (at_succ (at_succ (at_succ (at_succ (at_succ at_zero))))))))))))) (by kernel_rfl) (by kernel_rfl) (by kernel_rfl) (fun _ _ _ h => h) (Or.inl ⟨by kernel_rfl, fun wy hSw => ?_⟩) (by assumption) ?_
      · (try dsimp only at hSw); go_simp
      try simp only [Act.put, List.setIfInBounds_toArray, List.set_cons_zero, List.set_cons_succ]
      refine wpAnyH_take (i := 14) (v := (.int .i64 ((s[j2]'p2).toNat : Int))) (at_succ (at_succ (at_succ (at_succ (at_succ (at_succ (at_succ (at_succ (at_succ (at_succ (at_succ (at_succ (at_succ (at_succ at_zero)))))))))))))) (by kernel_rfl) (by kernel_rfl) (by kernel_rfl) (fun _ _ _ h => h) (Or.inl ⟨by kernel_rfl, fun wy hSw => ?_⟩) (by assumption) ?_
      · (try dsimp only at hSw); go_simp
      try simp only [Act.put, List.setIfInBounds_toArray, List.set_cons_zero, List.set_cons_succ]
      refine wpAnyH_take (i := 15) (v := (.int .i64 (((s[j1]'p1).toNat : Int) * (256 : Int) + ((s[j2]'p2).toNat : Int)))) (at_succ (at_succ (at_succ (at_succ (at_succ (at_succ (at_succ (at_succ (at_succ (at_succ (at_succ (at_succ (at_succ (at_succ (at_succ at_zero))))))))))))))) (by kernel_rfl) (by kernel_rfl) (by kernel_rfl) (fun _ _ _ h => h) (Or.inl ⟨by kernel_rfl, fun wy hSw => ?_⟩) (by assumption) ?_
      · (try dsimp only at hSw); go_simp
      try simp only [Act.put, List.setIfInBounds_toArray, List.set_cons_zero, List.set_cons_succ]
      refine wpAnyH_take (i := 16) (v := (.string s)) (at_succ (at_succ (at_succ (at_succ (at_succ (at_succ (at_succ (at_succ (at_succ (at_succ (at_succ (at_succ (at_succ (at_succ (at_succ (at_succ at_zero)))))))))))))))) (by kernel_rfl) (by kernel_rfl) (by kernel_rfl) (fun _ _ _ h => h) (Or.inl ⟨by kernel_rfl, fun wy hSw => ?_⟩) (by assumption) ?_
      · (try dsimp only at hSw); go_simp
      try simp only [Act.put, List.setIfInBounds_toArray, List.set_cons_zero, List.set_cons_succ]
      refine wpAnyH_take (i := 17) (v := (.int .i64 (j : Int))) (at_succ (at_succ (at_succ (at_succ (at_succ (at_succ (at_succ (at_succ (at_succ (at_succ (at_succ (at_succ (at_succ (at_succ (at_succ (at_succ (at_succ at_zero))))))))))))))))) (by kernel_rfl) (by kernel_rfl) (by kernel_rfl) (fun _ _ _ h => h) (Or.inl ⟨by kernel_rfl, fun wy hSw => ?_⟩) (by assumption) ?_
      · (try dsimp only at hSw); go_simp
      try simp only [Act.put, List.setIfInBounds_toArray, List.set_cons_zero, List.set_cons_succ]
      refine wpAnyH_take (i := 18) (v := (.int .i64 (j3 : Int))) (at_succ (at_succ (at_succ (at_succ (at_succ (at_succ (at_succ (at_succ (at_succ (at_succ (at_succ (at_succ (at_succ (at_succ (at_succ (at_succ (at_succ (at_succ at_zero)))))))))))))))))) (by kernel_rfl) (by kernel_rfl) (by kernel_rfl) (fun _ _ _ h => h) (Or.inl ⟨by kernel_rfl, fun wy hSw => ?_⟩) (by assumption) ?_
      · (try dsimp only at hSw); go_simp
      try simp only [Act.put, List.setIfInBounds_toArray, List.set_cons_zero, List.set_cons_succ]
      refine wpAnyH_take (i := 19) (v := (.int .u8 ((s[j3]'p3).toNat : Int))) (at_succ (at_succ (at_succ (at_succ (at_succ (at_succ (at_succ (at_succ (at_succ (at_succ (at_succ (at_succ (at_succ (at_succ (at_succ (at_succ (at_succ (at_succ (at_succ at_zero))))))))))))))))))) (by kernel_rfl) (by kernel_rfl) (by kernel_rfl) (fun _ _ _ h => h) (Or.inl ⟨by kernel_rfl, fun wy hSw => ?_⟩) (by assumption) ?_
      · (try dsimp only at hSw); go_simp
      try simp only [Act.put, List.setIfInBounds_toArray, List.set_cons_zero, List.set_cons_succ]
      refine wpAnyH_take (i := 20) (v := (.int .i64 ((s[j3]'p3).toNat : Int))) (at_succ (at_succ (at_succ (at_succ (at_succ (at_succ (at_succ (at_succ (at_succ (at_succ (at_succ (at_succ (at_succ (at_succ (at_succ (at_succ (at_succ (at_succ (at_succ (at_succ at_zero)))))))))))))))))))) (by kernel_rfl) (by kernel_rfl) (by kernel_rfl) (fun _ _ _ h => h) (Or.inl ⟨by kernel_rfl, fun wy hSw => ?_⟩) (by assumption) ?_
      · (try dsimp only at hSw); go_simp
      try simp only [Act.put, List.setIfInBounds_toArray, List.set_cons_zero, List.set_cons_succ]
      refine wpAnyH_take (i := 21) (v := (.agg #[(.int .i64 ((s[j]'p0).toNat : Int)), (.int .i64 (((s[j1]'p1).toNat : Int) * (256 : Int) + ((s[j2]'p2).toNat : Int))), (.int .i64 ((s[j3]'p3).toNat : Int)), .int .i64 255])) (at_succ (at_succ (at_succ (at_succ (at_succ (at_succ (at_succ (at_succ (at_succ (at_succ (at_succ (at_succ (at_succ (at_succ (at_succ (at_succ (at_succ (at_succ (at_succ (at_succ (at_succ at_zero))))))))))))))))))))) (by kernel_rfl) (by kernel_rfl) (by kernel_rfl) (fun _ _ _ h => h) (Or.inl ⟨by kernel_rfl, fun wy hSw => ?_⟩) (by assumption) ?_
      · (try dsimp only at hSw); go_simp
      try simp only [Act.put, List.setIfInBounds_toArray, List.set_cons_zero, List.set_cons_succ]
      refine wpAnyH_ready (rs := [22]) (by kernel_rfl) (by simp) ?_
      refine AllReadyH.cons (at_succ (at_succ (at_succ (at_succ (at_succ (at_succ (at_succ (at_succ (at_succ (at_succ (at_succ (at_succ (at_succ (at_succ (at_succ (at_succ (at_succ (at_succ (at_succ (at_succ (at_succ (at_succ at_zero)))))))))))))))))))))) (fun K hK => ?_) AllReadyH.nil
      rw [if_pos (by kernel_rfl)]
      go_simp
      refine hK.out _ _ trivial (fun hHeld => ?_)
      clear hK K
      try simp only [Act.put, List.setIfInBounds_toArray, List.set_cons_zero, List.set_cons_succ]
      refine wpAnyH_ready (rs := [23]) (by kernel_rfl) (by simp) ?_
      refine AllReadyH.cons (at_succ (at_succ (at_succ (at_succ (at_succ (at_succ (at_succ (at_succ (at_succ (at_succ (at_succ (at_succ (at_succ (at_succ (at_succ (at_succ (at_succ (at_succ (at_succ (at_succ (at_succ (at_succ (at_succ at_zero))))))))))))))))))))))) (fun K hK => ?_) AllReadyH.nil
      rw [if_pos (by kernel_rfl)]
      go_simp
      refine hK.out _ _ trivial (fun hHeld => ?_)
      clear hK K
      try simp only [Act.put, List.setIfInBounds_toArray, List.set_cons_zero, List.set_cons_succ]
      refine wpAnyH_done (by kernel_rfl) ?_ _
      go_wp2_with fail
      obtain ⟨wa, hwa⟩ : ∃ wa, wa = (wr.alloc (bxR ((s[j]'p0).toNat : Int) (((s[j1]'p1).toNat : Int) * (256 : Int) + ((s[j2]'p2).toNat : Int)) ((s[j3]'p3).toNat : Int) 255)).drew := ⟨_, rfl⟩
      rw [← hwa]
      have BA := Lib.hid (show Below w.heap.size w wa by rw [hwa]; exact (B.out.alloc hz _).drew)
      have OA := Lib.hid (show OwnR wa w.heap.size (.slice A1 k c1) ((rts L).take k) by rw [hwa]; exact (O.out.alloc _).drew 1)
      have xa : wa.heap[wr.heap.size]? = some (bxR ((s[j]'p0).toNat : Int) (((s[j1]'p1).toNat : Int) * (256 : Int) + ((s[j2]'p2).toNat : Int)) ((s[j3]'p3).toNat : Int) 255) := by rw [hwa]; exact blk_new _ _
      have hza := BA.out.size
      clear hwa
      by_cases hu : Us1 X
      rotate_left
      · rw [df hu] at KU
        obtain ⟨rfl, rfl⟩ := RN.out 2 (by decide) (AL.out.trans (if_neg hu))
        clear hu AL
        refine (KU.out _).mono ?_
        rintro _ w5 ⟨rfl, hb⟩
        have B5 := Lib.hid (BA.out.trans (hb.mono hza))
        clear hb
        go_wp2_with fail
        go_ret2
        exact ⟨_, rfl, OwnF.nil _ _, B5.out⟩
      have AL := Lib.hid (AL.out.trans (if_pos hu))
      have hX0 : 0 ≤ X.1 := hu.1.1.1
      rw [dt hu] at KU
      clear hu
      refine (KU.out _).mono ?_
      rintro _ w5 ⟨rfl, hb⟩
      have B5 := Lib.hid (BA.out.trans (hb.mono hza))
      have hz5 := B5.out.size
      have O5 := Lib.hid (OA.out.below hb)
      have x5 := blk_below xa hb (blk_lt xa)
      have X5 := Lib.hid x5
      have c0 := blk_cell x5 0 (v := .int .i64 ((s[j]'p0).toNat : Int)) rfl
      clear hb KU xa BA OA
      by_cases hk0 : 0 < k
      · obtain ⟨k', hk', hkk, hpv⟩ := PV.out hk0
        obtain ⟨g, cap, hv, hBg, hgw⟩ := O5.out.at (fun e => by rw [e] at hk'; simp at hk')
        simp only [Value.slice.injEq] at hv
        obtain ⟨rfl, -, rfl⟩ := hv
        have O5' : OwnR w5 w.heap.size (.slice (some ⟨g, 0, none⟩) ((rts L).take k).length c1) ((rts L).take k) := by rw [LK.out]; exact O5.out
        have r0 := (row4 O5' k' hk').1
        have z1 : (k : Int) - 1 = (k' : Int) := by omega
        have z2 : IntKind.i64.wrap (k' : Int) = (k' : Int) := by rw [IntKind.wrap_i64]; omega
        have z3 : (0 : Int) ≤ (k' : Int) := by omega
        have z4 : (k' : Int) < (k : Int) := by omega
        have dk := dt hk0
        have dk2 : decide (0 < (k : Int)) = true := dt (by omega)
        rw [X0.out, hpv] at AL
        generalize ((rts L).take k)[k'].1 = y0 at *
        clear O5' hkk hpv PV
        by_cases hle : ((s[j]'p0).toNat : Int) ≤ y0
        · obtain ⟨rfl, rfl⟩ := RN.out 14 (by decide) (AL.out.trans (if_pos hle))
          have d4 := dt hle
          clear hle AL
          go_wp2_with fail
          refine wp_region_quiet_lit (by kernel_rfl) (by kernel_rfl) ?_
          refine QH.out ?_
          repeat (
            refine qh_step (fun K hK => ?_)
            go_simp
            (refine hK _ ?_; clear hK K))
          refine qh_nil ?_
          intro _ hwx
          obtain ⟨nq, hwy⟩ := hwx
          subst hwy
          clear c0 r0
          go_wp2_with fail
          go_ret2
          exact ⟨_, rfl, OwnF.nil _ _, below_drewN B5.out _⟩
        · have N := Lib.hid (AL.out.trans (if_neg hle))
          have d4 := df hle
          clear hle AL
          go_wp2_with fail
          refine wp_region_quiet_lit (by kernel_rfl) (by kernel_rfl) ?_
          refine QH.out ?_
          repeat (
            refine qh_step (fun K hK => ?_)
            go_simp
            (refine hK _ ?_; clear hK K))
          refine qh_nil ?_
          intro _ hwx
          obtain ⟨nq, hwy⟩ := hwx
          subst hwy
          clear c0 r0
          obtain ⟨wq, hwq⟩ : ∃ wq, wq = w5.drewN nq := ⟨_, rfl⟩
          rw [← hwq]
          have B6 := Lib.hid (show Below w.heap.size w wq by rw [hwq]; exact below_drewN B5.out nq)
          have O6 := Lib.hid (show OwnR wq w.heap.size (.slice (some ⟨g, 0, none⟩) k c1) ((rts L).take k) by rw [hwq]; exact O5.out.drew nq)
          have x6 : wq.heap[wr.heap.size]? = some (bxR ((s[j]'p0).toNat : Int) (((s[j1]'p1).toNat : Int) * (256 : Int) + ((s[j2]'p2).toNat : Int)) ((s[j3]'p3).toNat : Int) 255) := by rw [hwq]; exact X5.out
          have c0 := blk_cell x6 0 (v := .int .i64 ((s[j]'p0).toNat : Int)) rfl
          have c1' := blk_cell x6 1 (v := .int .i64 (((s[j1]'p1).toNat : Int) * (256 : Int) + ((s[j2]'p2).toNat : Int))) rfl
          have c2 := blk_cell x6 2 (v := .int .i64 ((s[j3]'p3).toNat : Int)) rfl
          have c3 := blk_cell x6 3 (v := .int .i64 255) rfl
          have hz6 := B6.out.size
          clear hwq x6
          obtain ⟨A7, c7, w7, hap, ho7, hb7⟩ := AP.out wq _ _ O6.out hz6
          have O7 := Lib.hid ho7
          have B7 := Lib.hid (B6.out.trans hb7)
          have a4 : IntKind.i64.wrap ((j : Int) + 4) = ((j + 4 : Nat) : Int) := by rw [IntKind.wrap_i64]; omega
          clear ho7 hb7
          go_wp2_with (at_builtin; refine Lib.wpList_append_run _ rfl _ _ _ _ rfl _ _ rfl rfl _ _ hap ?_)
          go_roundw
          case rel => exact ⟨k + 1, j + 4, A7, c7, rfl, by have := HJ.out; omega, hlt, rfl, Lib.hid (by rw [N.out, PS.out, X0.out]), O7, B7.out⟩
          case measure => have := HJ.out; have := HS.out; simp [intOf]; omega
      · have dk := df hk0
        have dk2 : decide (0 < (k : Int)) = false := df (by omega)
        obtain rfl : k = 0 := by omega
        have N := Lib.hid (AL.out.trans (if_neg (by rw [pv_zero]; omega)))
        rw [X0.out] at N
        clear AL hk0
        go_wp2_with fail
        refine wp_region_quiet_lit (by kernel_rfl) (by kernel_rfl) ?_
        refine QH.out ?_
        repeat (
          refine qh_step (fun K hK => ?_)
          go_simp
          (refine hK _ ?_; clear hK K))
        refine qh_nil ?_
        intro _ hwx
        obtain ⟨nq, hwy⟩ := hwx
        subst hwy
        clear c0
        obtain ⟨wq, hwq⟩ : ∃ wq, wq = w5.drewN nq := ⟨_, rfl⟩
        rw [← hwq]
        have B6 := Lib.hid (show Below w.heap.size w wq by rw [hwq]; exact below_drewN B5.out nq)
        have O6 := Lib.hid (show OwnR wq w.heap.size (.slice A1 0 c1) ((rts L).take 0) by rw [hwq]; exact O5.out.drew nq)
        have x6 : wq.heap[wr.heap.size]? = some (bxR ((s[j]'p0).toNat : Int) (((s[j1]'p1).toNat : Int) * (256 : Int) + ((s[j2]'p2).toNat : Int)) ((s[j3]'p3).toNat : Int) 255) := by rw [hwq]; exact X5.out
        have c0 := blk_cell x6 0 (v := .int .i64 ((s[j]'p0).toNat : Int)) rfl
        have c1' := blk_cell x6 1 (v := .int .i64 (((s[j1]'p1).toNat : Int) * (256 : Int) + ((s[j2]'p2).toNat : Int))) rfl
        have c2 := blk_cell x6 2 (v := .int .i64 ((s[j3]'p3).toNat : Int)) rfl
        have c3 := blk_cell x6 3 (v := .int .i64 255) rfl
        have hz6 := B6.out.size
        clear hwq x6
        obtain ⟨A7, c7, w7, hap, ho7, hb7⟩ := AP.out wq _ _ O6.out hz6
        have O7 := Lib.hid ho7
        have B7 := Lib.hid (B6.out.trans hb7)
        have a4 : IntKind.i64.wrap ((j : Int) + 4) = ((j + 4 : Nat) : Int) := by rw [IntKind.wrap_i64]; omega
        clear ho7 hb7
        go_wp2_with (at_builtin; refine Lib.wpList_append_run _ rfl _ _ _ _ rfl _ _ rfl rfl _ _ hap ?_)
        go_roundw
        case rel => exact ⟨0 + 1, j + 4, A7, c7, rfl, by have := HJ.out; omega, hlt, rfl, Lib.hid (by rw [N.out, PS.out, X0.out]), O7, B7.out⟩
        case measure => have := HJ.out; have := HS.out; simp [intOf]; omega
    · obtain rfl : k = m := by omega
      have d0 : ¬ j < s.size := by omega
      have TA := Lib.hid (show (rts L).take k = rts L from List.take_of_length_le (by rw [RL.out]; exact Nat.le_refl _))
      obtain ⟨rfl, rfl⟩ := RZ.out (HC0.out.trans (by rw [List.drop_eq_nil_of_le (by rw [RL.out]; exact Nat.le_refl _)]; rfl))
      have O2 := Lib.hid (show OwnR wr w.heap.size (.slice A1 k c1) (rts L) by rw [← TA.out]; exact O.out)
      have HS := Lib.hid hsm
      clear hj hsm
      go_wp2_with fail
      go_ret2
      exact ⟨_, rfl, O2.out, B.out⟩
end Go.Proofs.Ytcfnkfkdhcejeaa.Rte
