/- The reference's Split and Expire. -/
import Derived.Test.YtljcjflbfjleoaaFgD
set_option linter.unusedVariables false
namespace Go.Proofs.Ytljcjflbfjleoaa.Frg
open Go.RowKit

/-- Pieces and an error are handed back. -/
def SplitR (w : World) (r : List ByteArray × Int) (e : Ending) (w' : World) : Prop := ∃ A c, e = .returned (.tuple #[.slice A r.1.length c, .int .i64 r.2]) ∧ SlS fSt w' A c r.1 ∧ Below w.heap.size w w'
theorem pcs_next (s : ByteArray) (id : Int) (k : Nat) : (List.range (k + 1)).map (piece s id) = (List.range k).map (piece s id) ++ [piece s id k] := by rw [List.range_succ, List.map_append]; rfl
theorem piece_ok (s : ByteArray) (id : Int) (k : Nat) (h : s.size ≤ 1000) : (piece s id k).size ≤ 9223372036854775807 := by rw [piece_size, part_len]; omega
theorem piece_is (s : ByteArray) (id : Int) (k e : Nat) (he : e = min (64 * (k + 1)) s.size) : bs [u8 id, u8 k, u8 (cnt s.size)] ++ s.extract (64 * k) e = piece s id k := by
  apply of_data
  rw [app_data, bs_data, ext_mid, bs_data]
  unfold piece part
  rw [bs_data]
  show _ = [u8 id, u8 k, u8 (cnt s.size)] ++ _
  congr 1
  by_cases h : 64 * (k + 1) ≤ s.size
  · rw [he, Nat.min_eq_left h]
    congr 1
    omega
  · rw [he, Nat.min_eq_right (by omega), List.take_of_length_le (by rw [List.length_drop, bytes_len]; omega), List.take_of_length_le (by rw [List.length_drop, bytes_len]; omega)]
theorem u8_wrap (n : Int) (h : 0 ≤ n ∧ n ≤ 255) : IntKind.u8.wrap n = ((u8 n).toNat : Int) := by
  rw [u8_nat n (by omega)]
  exact (by simp [IntKind.wrap, IntKind.signed, IntKind.bits]; omega)
set_option maxRecDepth 100000 in
set_option maxHeartbeats 4000000 in
theorem rsplit_any (s : ByteArray) (id : Int) (w : World) (hs : s.size ≤ 9223372036854775807) : Calls Try.prog 13 #[.string s, .int .i64 id] w (SplitR w (split s id)) := by
  by_cases h1 : 1000 < s.size
  · have d1 := dt (show (1000 : Int) < (s.size : Int) by omega)
    rw [show split s id = ([], 3) from if_pos h1]
    go_enter Try.func13, Try.ntmps13
    go_wp2_with fail
    go_ret2
    exact ⟨none, 0, rfl, SlS.nil _, Below.refl _ _⟩
  have d1 := df (show ¬ (1000 : Int) < (s.size : Int) by omega)
  by_cases h2 : id < 0
  · have d2 := dt h2
    rw [show split s id = ([], 2) by unfold split; rw [if_neg h1, if_pos (Or.inl h2)]]
    go_enter Try.func13, Try.ntmps13
    go_wp2_with fail
    go_ret2
    exact ⟨none, 0, rfl, SlS.nil _, Below.refl _ _⟩
  have d2 := df h2
  by_cases h3 : 255 < id
  · have d3 := dt h3
    rw [show split s id = ([], 2) by unfold split; rw [if_neg h1, if_pos (Or.inr h3)]]
    go_enter Try.func13, Try.ntmps13
    go_wp2_with fail
    go_ret2
    exact ⟨none, 0, rfl, SlS.nil _, Below.refl _ _⟩
  have d3 := df h3
  rw [show split s id = (pcs s id, 0) by unfold split; rw [if_neg h1, if_neg (by omega)]]
  have GE := Lib.hid (show (List.range (cnt s.size)).map (piece s id) = pcs s id from rfl)
  have G0 := Lib.hid (show (List.range 0).map (piece s id) = [] from rfl)
  have GN := Lib.hid (fun k => pcs_next s id k)
  have GL := Lib.hid (fun k : Nat => (show ((List.range k).map (piece s id)).length = k by simp))
  have OK := Lib.hid (fun k => piece_ok s id k (by omega))
  have PI := Lib.hid (fun k e he => piece_is s id k e he)
  have KN := Lib.hid (fun (k : Nat) (h : k < cnt s.size) => (show 64 * k ≤ s.size by unfold cnt at h; split at h <;> omega))
  have CL := Lib.hid (show cnt s.size ≤ 16 from cnt_le (by omega))
  have CC := Lib.hid (show cnt s.size = if s.size = 0 then 1 else (s.size + 63) / 64 from rfl)
  have w1 := u8_wrap id (by omega)
  have w2 := u8_wrap (cnt s.size) (by have := cnt_le (show s.size ≤ 1000 by omega); omega)
  generalize pcs s id = P at *
  obtain ⟨pk, hpk⟩ : ∃ pk, piece s id = pk := ⟨_, rfl⟩
  rw [hpk] at GE G0 GN GL OK PI
  obtain ⟨G, hG⟩ : ∃ G : Nat → List ByteArray, ∀ k, (List.range k).map pk = G k := ⟨_, fun _ => rfl⟩
  simp only [hG] at GE G0 GN GL
  clear hG hpk
  obtain ⟨n, hn⟩ : ∃ n, cnt s.size = n := ⟨_, rfl⟩
  rw [hn] at GE PI CL CC w2
  simp only [hn] at KN
  clear hn
  have z1 : IntKind.i64.wrap ((s.size : Int) + 64) = (s.size : Int) + 64 := by rw [IntKind.wrap_i64]; omega
  have z2 : IntKind.i64.wrap ((s.size : Int) + 64 - 1) = (s.size : Int) + 64 - 1 := by rw [IntKind.wrap_i64]; omega
  have START : ∃ n0 : Int, Int.tdiv ((s.size : Int) + 64 - 1) 64 = n0 ∧ I64 n0 ∧ ((n0 = 0 ∧ n = 1) ∨ (n0 ≠ 0 ∧ n0 = (n : Int))) := by
    refine ⟨_, rfl, ?_, ?_⟩
    · rw [Int.tdiv_eq_ediv_of_nonneg (by omega)]
      unfold I64
      omega
    · rw [Int.tdiv_eq_ediv_of_nonneg (by omega)]
      have := CC.out
      split at this <;> omega
  obtain ⟨n0, z3, z4, hn0⟩ := START
  have z5 : IntKind.i64.wrap n0 = n0 := IntWalk.i64_in _ ⟨z4.1, z4.2⟩
  have N0 := Lib.hid hn0
  clear CC z4 hn0
  go_enter Try.func13, Try.ntmps13
  rcases N0.out with ⟨q0, q1⟩ | ⟨q0, q1⟩
  · subst q0
    subst q1
    clear N0
    go_wp2_with fail
    go_loopw [7, 8] (fun vo vk wr => ∃ (k : Nat) (A1 : Option Addr) (c1 : Nat), vk = .int .i64 k ∧ k ≤ 1 ∧ vo = .slice A1 (G k).length c1 ∧ Hid (OwnF fSt 9 wr w.heap.size (.slice A1 (G k).length c1) (G k)) ∧ Below w.heap.size w wr) (fun _ vk _ => 1 - (intOf vk).toNat)
    case atStart => exact ⟨0, none, 0, rfl, by omega, by rw [G0.out]; rfl, Lib.hid (by rw [G0.out]; exact OwnF.nil _ _), Below.refl _ _⟩
    case round =>
      obtain ⟨k, A1, c1, rfl, hk, rfl, O, hb⟩ := hrel
      have B := Lib.hid hb
      clear hb
      by_cases hlt : k < 1
      rotate_left
      · obtain rfl : k = 1 := by omega
        have E := GE.out
        clear GN GL PI OK G0
        go_wp2_with fail
        go_ret2
        obtain ⟨A2, c2, e2, h2⟩ := O.out.slS
        simp only [Value.slice.injEq, true_and] at e2
        obtain ⟨rfl, rfl⟩ := e2
        rw [E] at h2 ⊢
        exact ⟨A1, c1, rfl, h2, B.out⟩
      have CL := CL.out
      have d4 := dt (show (k : Int) < (1 : Int) by omega)
      have d5 := dt hlt
      have m1 : IntKind.i64.wrap (((k : Int) + 1) * 64) = ((k : Int) + 1) * 64 := by rw [IntKind.wrap_i64]; omega
      have m2 : IntKind.i64.wrap ((k : Int) * 64) = (k : Int) * 64 := by rw [IntKind.wrap_i64]; omega
      have m3 : IntKind.i64.wrap ((k : Int) + 1) = (k : Int) + 1 := by rw [IntKind.wrap_i64]; omega
      have w3 := u8_wrap k (by omega)
      have w0 : IntKind.u8.wrap 1 = 1 := by rfl
      have LG := GL.out k
      have N := Lib.hid (GN.out k)
      have OKk := Lib.hid (OK.out k)
      have hkn : 64 * k ≤ s.size := by have := KN.out k hlt; omega
      by_cases hend : s.size < 64 * (k + 1)
      · have d7 : decide ((s.size : Int) < ((k : Int) + 1) * 64) = true := dt (by omega)
        have PK := Lib.hid (PI.out k (s.size) (by omega))
        
        have b2 := (below_drewN (Below.refl wr.heap.size wr) 1).trans ((alloc_below wr.drew (.cells #[.int .u8 ((u8 id).toNat : Int), .int .u8 ((u8 k).toNat : Int), .int .u8 1] 5)).mono (Nat.le_refl _))
        have cv := conv_lit wr.drew 5 #[.int .u8 ((u8 id).toNat : Int), .int .u8 ((u8 k).toNat : Int), .int .u8 1] [u8 id, u8 k, u8 (1 : Nat)] rfl 3 3 rfl
        have O2 := O.out.below b2
        have B2 := Lib.hid (B.out.trans (b2.mono B.out.size))
        obtain ⟨W1, hW1⟩ : ∃ W1, wr.drew.alloc (.cells #[.int .u8 ((u8 id).toNat : Int), .int .u8 ((u8 k).toNat : Int), .int .u8 1] 5) = W1 := ⟨_, rfl⟩
        have hp1 : (⟨wr.drew.heap.size, 0, none⟩ : Addr) = ⟨wr.heap.size, 0, none⟩ := rfl
        rw [hp1, hW1] at cv
        have O2 : OwnF fSt 9 W1 w.heap.size (.slice A1 (G k).length c1) (G k) := by rw [← hW1]; exact O2
        have B2 : Hid (Below w.heap.size w W1) := by rw [← hW1]; exact B2
        obtain ⟨v6, w6, hap, ho6, hb6⟩ := O2.one eSt 23 (pk k) #[.string (pk k)] rfl OKk.out (by omega) B2.out.size
        obtain ⟨A6, c6, e6, _⟩ := ho6.form
        subst e6
        have L6 := Lib.hid (congrArg List.length N.out.symm)
        have O6 := Lib.hid (show OwnF fSt 9 w6 w.heap.size (.slice A6 (G (k + 1)).length c6) (G (k + 1)) by rw [N.out]; exact ho6)
        have B6 := Lib.hid (B2.out.trans hb6)
        rw [L6.out] at hap
        clear ho6 hb6 O LG N OKk O2 B B2 b2 GN GL GE G0 PI OK KN
        go_wp2_with fail
        refine wp_region_held_drew (S := (fun _ => True)) (by kernel_rfl) (trivial) (fun hHeld => ?_)
        refine wpAnyH_take (i := 0) (v := (.slice A1 (G k).length c1)) at_zero (by kernel_rfl) (by kernel_rfl) (by kernel_rfl) (fun _ _ _ h => h) (Or.inl ⟨by kernel_rfl, fun wy hSw => ?_⟩) (by assumption) ?_
        · (try dsimp only at hSw); go_simp
        try simp only [Act.put, List.setIfInBounds_toArray, List.set_cons_zero, List.set_cons_succ]
        refine wpAnyH_take (i := 1) (v := (.int .i64 id)) (at_succ at_zero) (by kernel_rfl) (by kernel_rfl) (by kernel_rfl) (fun _ _ _ h => h) (Or.inl ⟨by kernel_rfl, fun wy hSw => ?_⟩) (by assumption) ?_
        · (try dsimp only at hSw); go_simp
        try simp only [Act.put, List.setIfInBounds_toArray, List.set_cons_zero, List.set_cons_succ]
        refine wpAnyH_take (i := 2) (v := (.int .u8 ((u8 id).toNat : Int))) (at_succ (at_succ at_zero)) (by kernel_rfl) (by kernel_rfl) (by kernel_rfl) (fun _ _ _ h => h) (Or.inl ⟨by kernel_rfl, fun wy hSw => ?_⟩) (by assumption) ?_
        · (try dsimp only at hSw); go_simp
        try simp only [Act.put, List.setIfInBounds_toArray, List.set_cons_zero, List.set_cons_succ]
        refine wpAnyH_take (i := 3) (v := (.int .i64 (k : Int))) (at_succ (at_succ (at_succ at_zero))) (by kernel_rfl) (by kernel_rfl) (by kernel_rfl) (fun _ _ _ h => h) (Or.inl ⟨by kernel_rfl, fun wy hSw => ?_⟩) (by assumption) ?_
        · (try dsimp only at hSw); go_simp
        try simp only [Act.put, List.setIfInBounds_toArray, List.set_cons_zero, List.set_cons_succ]
        refine wpAnyH_take (i := 4) (v := (.int .u8 ((u8 k).toNat : Int))) (at_succ (at_succ (at_succ (at_succ at_zero)))) (by kernel_rfl) (by kernel_rfl) (by kernel_rfl) (fun _ _ _ h => h) (Or.inl ⟨by kernel_rfl, fun wy hSw => ?_⟩) (by assumption) ?_
        · (try dsimp only at hSw); go_simp
        try simp only [Act.put, List.setIfInBounds_toArray, List.set_cons_zero, List.set_cons_succ]
        refine wpAnyH_take (i := 5) (v := (.int .i64 1)) (at_succ (at_succ (at_succ (at_succ (at_succ at_zero))))) (by kernel_rfl) (by kernel_rfl) (by kernel_rfl) (fun _ _ _ h => h) (Or.inl ⟨by kernel_rfl, fun wy hSw => ?_⟩) (by assumption) ?_
        · (try dsimp only at hSw); go_simp
        try simp only [Act.put, List.setIfInBounds_toArray, List.set_cons_zero, List.set_cons_succ]
        refine wpAnyH_take (i := 6) (v := (.int .u8 1)) (at_succ (at_succ (at_succ (at_succ (at_succ (at_succ at_zero)))))) (by kernel_rfl) (by kernel_rfl) (by kernel_rfl) (fun _ _ _ h => h) (Or.inl ⟨by kernel_rfl, fun wy hSw => ?_⟩) (by assumption) ?_
        · (try dsimp only at hSw); go_simp
        try simp only [Act.put, List.setIfInBounds_toArray, List.set_cons_zero, List.set_cons_succ]
        refine wpAnyH_take (i := 9) (v := (.string s)) (at_succ (at_succ (at_succ (at_succ (at_succ (at_succ (at_succ (at_succ (at_succ at_zero))))))))) (by kernel_rfl) (by kernel_rfl) (by kernel_rfl) (fun _ _ _ h => h) (Or.inl ⟨by kernel_rfl, fun wy hSw => ?_⟩) (by assumption) ?_
        · (try dsimp only at hSw); go_simp
        try simp only [Act.put, List.setIfInBounds_toArray, List.set_cons_zero, List.set_cons_succ]
        refine wpAnyH_take (i := 10) (v := (.int .i64 (k : Int))) (at_succ (at_succ (at_succ (at_succ (at_succ (at_succ (at_succ (at_succ (at_succ (at_succ at_zero)))))))))) (by kernel_rfl) (by kernel_rfl) (by kernel_rfl) (fun _ _ _ h => h) (Or.inl ⟨by kernel_rfl, fun wy hSw => ?_⟩) (by assumption) ?_
        · (try dsimp only at hSw); go_simp
        try simp only [Act.put, List.setIfInBounds_toArray, List.set_cons_zero, List.set_cons_succ]
        refine wpAnyH_take (i := 11) (v := (.int .i64 ((k : Int) * 64))) (at_succ (at_succ (at_succ (at_succ (at_succ (at_succ (at_succ (at_succ (at_succ (at_succ (at_succ at_zero))))))))))) (by kernel_rfl) (by kernel_rfl) (by kernel_rfl) (fun _ _ _ h => h) (Or.inl ⟨by kernel_rfl, fun wy hSw => ?_⟩) (by assumption) ?_
        · (try dsimp only at hSw); go_simp
        try simp only [Act.put, List.setIfInBounds_toArray, List.set_cons_zero, List.set_cons_succ]
        refine wpAnyH_take (i := 12) (v := (.int .i64 (s.size : Int))) (at_succ (at_succ (at_succ (at_succ (at_succ (at_succ (at_succ (at_succ (at_succ (at_succ (at_succ (at_succ at_zero)))))))))))) (by kernel_rfl) (by kernel_rfl) (by kernel_rfl) (fun _ _ _ h => h) (Or.inl ⟨by kernel_rfl, fun wy hSw => ?_⟩) (by assumption) ?_
        · (try dsimp only at hSw); go_simp
        try simp only [Act.put, List.setIfInBounds_toArray, List.set_cons_zero, List.set_cons_succ]
        refine wpAnyH_take (i := 13) (v := (.string (s.extract (64 * k) (s.size)))) (at_succ (at_succ (at_succ (at_succ (at_succ (at_succ (at_succ (at_succ (at_succ (at_succ (at_succ (at_succ (at_succ at_zero))))))))))))) (by kernel_rfl) (by kernel_rfl) (by kernel_rfl) (fun _ _ _ h => h) (Or.inl ⟨by kernel_rfl, fun wy hSw => ?_⟩) (by assumption) ?_
        · go_simp; rw [if_pos ⟨by omega, by omega⟩, show ((k : Int) * 64).toNat = 64 * k by omega]
        try simp only [Act.put, List.setIfInBounds_toArray, List.set_cons_zero, List.set_cons_succ]
        refine wpAnyH_ready (rs := [7]) (by kernel_rfl) (by simp) ?_
        refine AllReadyH.cons (at_succ (at_succ (at_succ (at_succ (at_succ (at_succ (at_succ at_zero))))))) (fun K hK => ?_) AllReadyH.nil
        rw [if_pos (by kernel_rfl)]
        go_simp
        refine hK.out _ _ (trivial) (fun hHeld => ?_)
        clear hK K
        try simp only [Act.put, List.setIfInBounds_toArray, List.set_cons_zero, List.set_cons_succ]
        try rw [hW1]
        refine wpAnyH_ready (rs := [8]) (by kernel_rfl) (by simp) ?_
        refine AllReadyH.cons (at_succ (at_succ (at_succ (at_succ (at_succ (at_succ (at_succ (at_succ at_zero)))))))) (fun K hK => ?_) AllReadyH.nil
        rw [if_pos (by kernel_rfl)]
        go_simp
        refine hK.out _ _ (trivial) (fun hHeld => ?_)
        clear hK K
        try simp only [Act.put, List.setIfInBounds_toArray, List.set_cons_zero, List.set_cons_succ]
        refine wpAnyH_take (i := 14) (v := (.string (pk k))) (at_succ (at_succ (at_succ (at_succ (at_succ (at_succ (at_succ (at_succ (at_succ (at_succ (at_succ (at_succ (at_succ (at_succ at_zero)))))))))))))) (by kernel_rfl) (by kernel_rfl) (by kernel_rfl) (fun _ _ _ h => h) (Or.inl ⟨by kernel_rfl, fun wy hSw => ?_⟩) (by assumption) ?_
        · go_simp; rw [if_neg (by rw [bs_size]; simp only [List.length_cons, List.length_nil]; omega)]; exact congrArg (fun x => Result.ok (Next.value (Value.string x)) wy) PK.out
        try simp only [Act.put, List.setIfInBounds_toArray, List.set_cons_zero, List.set_cons_succ]
        refine wpAnyH_ready (rs := [15]) (by kernel_rfl) (by simp) ?_
        refine AllReadyH.cons (at_succ (at_succ (at_succ (at_succ (at_succ (at_succ (at_succ (at_succ (at_succ (at_succ (at_succ (at_succ (at_succ (at_succ (at_succ at_zero))))))))))))))) (fun K hK => ?_) AllReadyH.nil
        rw [if_pos (by kernel_rfl)]
        go_simp
        refine hK.out _ _ (trivial) (fun hHeld => ?_)
        clear hK K
        try simp only [Act.put, List.setIfInBounds_toArray, List.set_cons_zero, List.set_cons_succ]
        refine wpAnyH_ready (rs := [16]) (by kernel_rfl) (by simp) ?_
        refine AllReadyH.cons (at_succ (at_succ (at_succ (at_succ (at_succ (at_succ (at_succ (at_succ (at_succ (at_succ (at_succ (at_succ (at_succ (at_succ (at_succ (at_succ at_zero)))))))))))))))) (fun K hK => ?_) AllReadyH.nil
        rw [if_pos (by kernel_rfl)]
        refine Lib.wp_append_run _ _ _ _ _ rfl _ _ rfl rfl _ _ hap ?_
        refine hK.out _ _ (trivial) (fun hHeld => ?_)
        clear hK K
        try simp only [Act.put, List.setIfInBounds_toArray, List.set_cons_zero, List.set_cons_succ]
        refine wpAnyH_take (i := 17) (v := (.slice A6 (G (k + 1)).length c6)) (at_succ (at_succ (at_succ (at_succ (at_succ (at_succ (at_succ (at_succ (at_succ (at_succ (at_succ (at_succ (at_succ (at_succ (at_succ (at_succ (at_succ at_zero))))))))))))))))) (by kernel_rfl) (by kernel_rfl) (by kernel_rfl) (fun _ _ _ h => h) (Or.inl ⟨by kernel_rfl, fun wy hSw => ?_⟩) (by assumption) ?_
        · (try dsimp only at hSw); go_simp
        try simp only [Act.put, List.setIfInBounds_toArray, List.set_cons_zero, List.set_cons_succ]
        refine wpAnyH_done (by kernel_rfl) ?_ _
        go_wp2_with fail
        go_roundw
        case rel => exact ⟨k + 1, A6, c6, by go_num, hlt, rfl, O6, B6.out⟩
        case measure => simp [intOf]; omega
      · have d7 : decide ((s.size : Int) < ((k : Int) + 1) * 64) = false := df (by omega)
        have PK := Lib.hid (PI.out k (64 * (k + 1)) (by omega))
        
        have b2 := (below_drewN (Below.refl wr.heap.size wr) 1).trans ((alloc_below wr.drew (.cells #[.int .u8 ((u8 id).toNat : Int), .int .u8 ((u8 k).toNat : Int), .int .u8 1] 5)).mono (Nat.le_refl _))
        have cv := conv_lit wr.drew 5 #[.int .u8 ((u8 id).toNat : Int), .int .u8 ((u8 k).toNat : Int), .int .u8 1] [u8 id, u8 k, u8 (1 : Nat)] rfl 3 3 rfl
        have O2 := O.out.below b2
        have B2 := Lib.hid (B.out.trans (b2.mono B.out.size))
        obtain ⟨W1, hW1⟩ : ∃ W1, wr.drew.alloc (.cells #[.int .u8 ((u8 id).toNat : Int), .int .u8 ((u8 k).toNat : Int), .int .u8 1] 5) = W1 := ⟨_, rfl⟩
        have hp1 : (⟨wr.drew.heap.size, 0, none⟩ : Addr) = ⟨wr.heap.size, 0, none⟩ := rfl
        rw [hp1, hW1] at cv
        have O2 : OwnF fSt 9 W1 w.heap.size (.slice A1 (G k).length c1) (G k) := by rw [← hW1]; exact O2
        have B2 : Hid (Below w.heap.size w W1) := by rw [← hW1]; exact B2
        obtain ⟨v6, w6, hap, ho6, hb6⟩ := O2.one eSt 23 (pk k) #[.string (pk k)] rfl OKk.out (by omega) B2.out.size
        obtain ⟨A6, c6, e6, _⟩ := ho6.form
        subst e6
        have L6 := Lib.hid (congrArg List.length N.out.symm)
        have O6 := Lib.hid (show OwnF fSt 9 w6 w.heap.size (.slice A6 (G (k + 1)).length c6) (G (k + 1)) by rw [N.out]; exact ho6)
        have B6 := Lib.hid (B2.out.trans hb6)
        rw [L6.out] at hap
        clear ho6 hb6 O LG N OKk O2 B B2 b2 GN GL GE G0 PI OK KN
        go_wp2_with fail
        refine wp_region_held_drew (S := (fun _ => True)) (by kernel_rfl) (trivial) (fun hHeld => ?_)
        refine wpAnyH_take (i := 0) (v := (.slice A1 (G k).length c1)) at_zero (by kernel_rfl) (by kernel_rfl) (by kernel_rfl) (fun _ _ _ h => h) (Or.inl ⟨by kernel_rfl, fun wy hSw => ?_⟩) (by assumption) ?_
        · (try dsimp only at hSw); go_simp
        try simp only [Act.put, List.setIfInBounds_toArray, List.set_cons_zero, List.set_cons_succ]
        refine wpAnyH_take (i := 1) (v := (.int .i64 id)) (at_succ at_zero) (by kernel_rfl) (by kernel_rfl) (by kernel_rfl) (fun _ _ _ h => h) (Or.inl ⟨by kernel_rfl, fun wy hSw => ?_⟩) (by assumption) ?_
        · (try dsimp only at hSw); go_simp
        try simp only [Act.put, List.setIfInBounds_toArray, List.set_cons_zero, List.set_cons_succ]
        refine wpAnyH_take (i := 2) (v := (.int .u8 ((u8 id).toNat : Int))) (at_succ (at_succ at_zero)) (by kernel_rfl) (by kernel_rfl) (by kernel_rfl) (fun _ _ _ h => h) (Or.inl ⟨by kernel_rfl, fun wy hSw => ?_⟩) (by assumption) ?_
        · (try dsimp only at hSw); go_simp
        try simp only [Act.put, List.setIfInBounds_toArray, List.set_cons_zero, List.set_cons_succ]
        refine wpAnyH_take (i := 3) (v := (.int .i64 (k : Int))) (at_succ (at_succ (at_succ at_zero))) (by kernel_rfl) (by kernel_rfl) (by kernel_rfl) (fun _ _ _ h => h) (Or.inl ⟨by kernel_rfl, fun wy hSw => ?_⟩) (by assumption) ?_
        · (try dsimp only at hSw); go_simp
        try simp only [Act.put, List.setIfInBounds_toArray, List.set_cons_zero, List.set_cons_succ]
        refine wpAnyH_take (i := 4) (v := (.int .u8 ((u8 k).toNat : Int))) (at_succ (at_succ (at_succ (at_succ at_zero)))) (by kernel_rfl) (by kernel_rfl) (by kernel_rfl) (fun _ _ _ h => h) (Or.inl ⟨by kernel_rfl, fun wy hSw => ?_⟩) (by assumption) ?_
        · (try dsimp only at hSw); go_simp
        try simp only [Act.put, List.setIfInBounds_toArray, List.set_cons_zero, List.set_cons_succ]
        refine wpAnyH_take (i := 5) (v := (.int .i64 1)) (at_succ (at_succ (at_succ (at_succ (at_succ at_zero))))) (by kernel_rfl) (by kernel_rfl) (by kernel_rfl) (fun _ _ _ h => h) (Or.inl ⟨by kernel_rfl, fun wy hSw => ?_⟩) (by assumption) ?_
        · (try dsimp only at hSw); go_simp
        try simp only [Act.put, List.setIfInBounds_toArray, List.set_cons_zero, List.set_cons_succ]
        refine wpAnyH_take (i := 6) (v := (.int .u8 1)) (at_succ (at_succ (at_succ (at_succ (at_succ (at_succ at_zero)))))) (by kernel_rfl) (by kernel_rfl) (by kernel_rfl) (fun _ _ _ h => h) (Or.inl ⟨by kernel_rfl, fun wy hSw => ?_⟩) (by assumption) ?_
        · (try dsimp only at hSw); go_simp
        try simp only [Act.put, List.setIfInBounds_toArray, List.set_cons_zero, List.set_cons_succ]
        refine wpAnyH_take (i := 9) (v := (.string s)) (at_succ (at_succ (at_succ (at_succ (at_succ (at_succ (at_succ (at_succ (at_succ at_zero))))))))) (by kernel_rfl) (by kernel_rfl) (by kernel_rfl) (fun _ _ _ h => h) (Or.inl ⟨by kernel_rfl, fun wy hSw => ?_⟩) (by assumption) ?_
        · (try dsimp only at hSw); go_simp
        try simp only [Act.put, List.setIfInBounds_toArray, List.set_cons_zero, List.set_cons_succ]
        refine wpAnyH_take (i := 10) (v := (.int .i64 (k : Int))) (at_succ (at_succ (at_succ (at_succ (at_succ (at_succ (at_succ (at_succ (at_succ (at_succ at_zero)))))))))) (by kernel_rfl) (by kernel_rfl) (by kernel_rfl) (fun _ _ _ h => h) (Or.inl ⟨by kernel_rfl, fun wy hSw => ?_⟩) (by assumption) ?_
        · (try dsimp only at hSw); go_simp
        try simp only [Act.put, List.setIfInBounds_toArray, List.set_cons_zero, List.set_cons_succ]
        refine wpAnyH_take (i := 11) (v := (.int .i64 ((k : Int) * 64))) (at_succ (at_succ (at_succ (at_succ (at_succ (at_succ (at_succ (at_succ (at_succ (at_succ (at_succ at_zero))))))))))) (by kernel_rfl) (by kernel_rfl) (by kernel_rfl) (fun _ _ _ h => h) (Or.inl ⟨by kernel_rfl, fun wy hSw => ?_⟩) (by assumption) ?_
        · (try dsimp only at hSw); go_simp
        try simp only [Act.put, List.setIfInBounds_toArray, List.set_cons_zero, List.set_cons_succ]
        refine wpAnyH_take (i := 12) (v := (.int .i64 (((k : Int) + 1) * 64))) (at_succ (at_succ (at_succ (at_succ (at_succ (at_succ (at_succ (at_succ (at_succ (at_succ (at_succ (at_succ at_zero)))))))))))) (by kernel_rfl) (by kernel_rfl) (by kernel_rfl) (fun _ _ _ h => h) (Or.inl ⟨by kernel_rfl, fun wy hSw => ?_⟩) (by assumption) ?_
        · (try dsimp only at hSw); go_simp
        try simp only [Act.put, List.setIfInBounds_toArray, List.set_cons_zero, List.set_cons_succ]
        refine wpAnyH_take (i := 13) (v := (.string (s.extract (64 * k) (64 * (k + 1))))) (at_succ (at_succ (at_succ (at_succ (at_succ (at_succ (at_succ (at_succ (at_succ (at_succ (at_succ (at_succ (at_succ at_zero))))))))))))) (by kernel_rfl) (by kernel_rfl) (by kernel_rfl) (fun _ _ _ h => h) (Or.inl ⟨by kernel_rfl, fun wy hSw => ?_⟩) (by assumption) ?_
        · go_simp; rw [if_pos ⟨by omega, by omega⟩, if_pos ⟨by omega, by omega⟩, show ((k : Int) * 64).toNat = 64 * k by omega, show (((k : Int) + 1) * 64).toNat = 64 * (k + 1) by omega]
        try simp only [Act.put, List.setIfInBounds_toArray, List.set_cons_zero, List.set_cons_succ]
        refine wpAnyH_ready (rs := [7]) (by kernel_rfl) (by simp) ?_
        refine AllReadyH.cons (at_succ (at_succ (at_succ (at_succ (at_succ (at_succ (at_succ at_zero))))))) (fun K hK => ?_) AllReadyH.nil
        rw [if_pos (by kernel_rfl)]
        go_simp
        refine hK.out _ _ (trivial) (fun hHeld => ?_)
        clear hK K
        try simp only [Act.put, List.setIfInBounds_toArray, List.set_cons_zero, List.set_cons_succ]
        try rw [hW1]
        refine wpAnyH_ready (rs := [8]) (by kernel_rfl) (by simp) ?_
        refine AllReadyH.cons (at_succ (at_succ (at_succ (at_succ (at_succ (at_succ (at_succ (at_succ at_zero)))))))) (fun K hK => ?_) AllReadyH.nil
        rw [if_pos (by kernel_rfl)]
        go_simp
        refine hK.out _ _ (trivial) (fun hHeld => ?_)
        clear hK K
        try simp only [Act.put, List.setIfInBounds_toArray, List.set_cons_zero, List.set_cons_succ]
        refine wpAnyH_take (i := 14) (v := (.string (pk k))) (at_succ (at_succ (at_succ (at_succ (at_succ (at_succ (at_succ (at_succ (at_succ (at_succ (at_succ (at_succ (at_succ (at_succ at_zero)))))))))))))) (by kernel_rfl) (by kernel_rfl) (by kernel_rfl) (fun _ _ _ h => h) (Or.inl ⟨by kernel_rfl, fun wy hSw => ?_⟩) (by assumption) ?_
        · go_simp; rw [if_neg (by rw [bs_size]; simp only [List.length_cons, List.length_nil]; omega)]; exact congrArg (fun x => Result.ok (Next.value (Value.string x)) wy) PK.out
        try simp only [Act.put, List.setIfInBounds_toArray, List.set_cons_zero, List.set_cons_succ]
        refine wpAnyH_ready (rs := [15]) (by kernel_rfl) (by simp) ?_
        refine AllReadyH.cons (at_succ (at_succ (at_succ (at_succ (at_succ (at_succ (at_succ (at_succ (at_succ (at_succ (at_succ (at_succ (at_succ (at_succ (at_succ at_zero))))))))))))))) (fun K hK => ?_) AllReadyH.nil
        rw [if_pos (by kernel_rfl)]
        go_simp
        refine hK.out _ _ (trivial) (fun hHeld => ?_)
        clear hK K
        try simp only [Act.put, List.setIfInBounds_toArray, List.set_cons_zero, List.set_cons_succ]
        refine wpAnyH_ready (rs := [16]) (by kernel_rfl) (by simp) ?_
        refine AllReadyH.cons (at_succ (at_succ (at_succ (at_succ (at_succ (at_succ (at_succ (at_succ (at_succ (at_succ (at_succ (at_succ (at_succ (at_succ (at_succ (at_succ at_zero)))))))))))))))) (fun K hK => ?_) AllReadyH.nil
        rw [if_pos (by kernel_rfl)]
        refine Lib.wp_append_run _ _ _ _ _ rfl _ _ rfl rfl _ _ hap ?_
        refine hK.out _ _ (trivial) (fun hHeld => ?_)
        clear hK K
        try simp only [Act.put, List.setIfInBounds_toArray, List.set_cons_zero, List.set_cons_succ]
        refine wpAnyH_take (i := 17) (v := (.slice A6 (G (k + 1)).length c6)) (at_succ (at_succ (at_succ (at_succ (at_succ (at_succ (at_succ (at_succ (at_succ (at_succ (at_succ (at_succ (at_succ (at_succ (at_succ (at_succ (at_succ at_zero))))))))))))))))) (by kernel_rfl) (by kernel_rfl) (by kernel_rfl) (fun _ _ _ h => h) (Or.inl ⟨by kernel_rfl, fun wy hSw => ?_⟩) (by assumption) ?_
        · (try dsimp only at hSw); go_simp
        try simp only [Act.put, List.setIfInBounds_toArray, List.set_cons_zero, List.set_cons_succ]
        refine wpAnyH_done (by kernel_rfl) ?_ _
        go_wp2_with fail
        go_roundw
        case rel => exact ⟨k + 1, A6, c6, by go_num, hlt, rfl, O6, B6.out⟩
        case measure => simp [intOf]; omega
  · subst q1
    have d6 : ((n : Int) == 0) = false := by simpa using q0
    clear N0 q0
    go_wp2_with fail
    go_loopw [7, 8] (fun vo vk wr => ∃ (k : Nat) (A1 : Option Addr) (c1 : Nat), vk = .int .i64 k ∧ k ≤ n ∧ vo = .slice A1 (G k).length c1 ∧ Hid (OwnF fSt 9 wr w.heap.size (.slice A1 (G k).length c1) (G k)) ∧ Below w.heap.size w wr) (fun _ vk _ => n - (intOf vk).toNat)
    case atStart => exact ⟨0, none, 0, rfl, by omega, by rw [G0.out]; rfl, Lib.hid (by rw [G0.out]; exact OwnF.nil _ _), Below.refl _ _⟩
    case round =>
      obtain ⟨k, A1, c1, rfl, hk, rfl, O, hb⟩ := hrel
      have B := Lib.hid hb
      clear hb
      by_cases hlt : k < n
      rotate_left
      · obtain rfl : k = n := by omega
        have E := GE.out
        clear GN GL PI OK G0
        go_wp2_with fail
        go_ret2
        obtain ⟨A2, c2, e2, h2⟩ := O.out.slS
        simp only [Value.slice.injEq, true_and] at e2
        obtain ⟨rfl, rfl⟩ := e2
        rw [E] at h2 ⊢
        exact ⟨A1, c1, rfl, h2, B.out⟩
      have CL := CL.out
      have d4 := dt (show (k : Int) < (n : Int) by omega)
      have d5 := dt hlt
      have m1 : IntKind.i64.wrap (((k : Int) + 1) * 64) = ((k : Int) + 1) * 64 := by rw [IntKind.wrap_i64]; omega
      have m2 : IntKind.i64.wrap ((k : Int) * 64) = (k : Int) * 64 := by rw [IntKind.wrap_i64]; omega
      have m3 : IntKind.i64.wrap ((k : Int) + 1) = (k : Int) + 1 := by rw [IntKind.wrap_i64]; omega
      have w3 := u8_wrap k (by omega)
      have w0 : IntKind.u8.wrap 1 = 1 := by rfl
      have LG := GL.out k
      have N := Lib.hid (GN.out k)
      have OKk := Lib.hid (OK.out k)
      have hkn : 64 * k ≤ s.size := by have := KN.out k hlt; omega
      by_cases hend : s.size < 64 * (k + 1)
      · have d7 : decide ((s.size : Int) < ((k : Int) + 1) * 64) = true := dt (by omega)
        have PK := Lib.hid (PI.out k (s.size) (by omega))
        
        have b2 := (below_drewN (Below.refl wr.heap.size wr) 1).trans ((alloc_below wr.drew (.cells #[.int .u8 ((u8 id).toNat : Int), .int .u8 ((u8 k).toNat : Int), .int .u8 ((u8 n).toNat : Int)] 5)).mono (Nat.le_refl _))
        have cv := conv_lit wr.drew 5 #[.int .u8 ((u8 id).toNat : Int), .int .u8 ((u8 k).toNat : Int), .int .u8 ((u8 n).toNat : Int)] [u8 id, u8 k, u8 (n : Nat)] rfl 3 3 rfl
        have O2 := O.out.below b2
        have B2 := Lib.hid (B.out.trans (b2.mono B.out.size))
        obtain ⟨W1, hW1⟩ : ∃ W1, wr.drew.alloc (.cells #[.int .u8 ((u8 id).toNat : Int), .int .u8 ((u8 k).toNat : Int), .int .u8 ((u8 n).toNat : Int)] 5) = W1 := ⟨_, rfl⟩
        have hp1 : (⟨wr.drew.heap.size, 0, none⟩ : Addr) = ⟨wr.heap.size, 0, none⟩ := rfl
        rw [hp1, hW1] at cv
        have O2 : OwnF fSt 9 W1 w.heap.size (.slice A1 (G k).length c1) (G k) := by rw [← hW1]; exact O2
        have B2 : Hid (Below w.heap.size w W1) := by rw [← hW1]; exact B2
        obtain ⟨v6, w6, hap, ho6, hb6⟩ := O2.one eSt 23 (pk k) #[.string (pk k)] rfl OKk.out (by omega) B2.out.size
        obtain ⟨A6, c6, e6, _⟩ := ho6.form
        subst e6
        have L6 := Lib.hid (congrArg List.length N.out.symm)
        have O6 := Lib.hid (show OwnF fSt 9 w6 w.heap.size (.slice A6 (G (k + 1)).length c6) (G (k + 1)) by rw [N.out]; exact ho6)
        have B6 := Lib.hid (B2.out.trans hb6)
        rw [L6.out] at hap
        clear ho6 hb6 O LG N OKk O2 B B2 b2 GN GL GE G0 PI OK KN
        go_wp2_with fail
        refine wp_region_held_drew (S := (fun _ => True)) (by kernel_rfl) (trivial) (fun hHeld => ?_)
        refine wpAnyH_take (i := 0) (v := (.slice A1 (G k).length c1)) at_zero (by kernel_rfl) (by kernel_rfl) (by kernel_rfl) (fun _ _ _ h => h) (Or.inl ⟨by kernel_rfl, fun wy hSw => ?_⟩) (by assumption) ?_
        · (try dsimp only at hSw); go_simp
        try simp only [Act.put, List.setIfInBounds_toArray, List.set_cons_zero, List.set_cons_succ]
        refine wpAnyH_take (i := 1) (v := (.int .i64 id)) (at_succ at_zero) (by kernel_rfl) (by kernel_rfl) (by kernel_rfl) (fun _ _ _ h => h) (Or.inl ⟨by kernel_rfl, fun wy hSw => ?_⟩) (by assumption) ?_
        · (try dsimp only at hSw); go_simp
        try simp only [Act.put, List.setIfInBounds_toArray, List.set_cons_zero, List.set_cons_succ]
        refine wpAnyH_take (i := 2) (v := (.int .u8 ((u8 id).toNat : Int))) (at_succ (at_succ at_zero)) (by kernel_rfl) (by kernel_rfl) (by kernel_rfl) (fun _ _ _ h => h) (Or.inl ⟨by kernel_rfl, fun wy hSw => ?_⟩) (by assumption) ?_
        · (try dsimp only at hSw); go_simp
        try simp only [Act.put, List.setIfInBounds_toArray, List.set_cons_zero, List.set_cons_succ]
        refine wpAnyH_take (i := 3) (v := (.int .i64 (k : Int))) (at_succ (at_succ (at_succ at_zero))) (by kernel_rfl) (by kernel_rfl) (by kernel_rfl) (fun _ _ _ h => h) (Or.inl ⟨by kernel_rfl, fun wy hSw => ?_⟩) (by assumption) ?_
        · (try dsimp only at hSw); go_simp
        try simp only [Act.put, List.setIfInBounds_toArray, List.set_cons_zero, List.set_cons_succ]
        refine wpAnyH_take (i := 4) (v := (.int .u8 ((u8 k).toNat : Int))) (at_succ (at_succ (at_succ (at_succ at_zero)))) (by kernel_rfl) (by kernel_rfl) (by kernel_rfl) (fun _ _ _ h => h) (Or.inl ⟨by kernel_rfl, fun wy hSw => ?_⟩) (by assumption) ?_
        · (try dsimp only at hSw); go_simp
        try simp only [Act.put, List.setIfInBounds_toArray, List.set_cons_zero, List.set_cons_succ]
        refine wpAnyH_take (i := 5) (v := (.int .i64 (n : Int))) (at_succ (at_succ (at_succ (at_succ (at_succ at_zero))))) (by kernel_rfl) (by kernel_rfl) (by kernel_rfl) (fun _ _ _ h => h) (Or.inl ⟨by kernel_rfl, fun wy hSw => ?_⟩) (by assumption) ?_
        · (try dsimp only at hSw); go_simp
        try simp only [Act.put, List.setIfInBounds_toArray, List.set_cons_zero, List.set_cons_succ]
        refine wpAnyH_take (i := 6) (v := (.int .u8 ((u8 n).toNat : Int))) (at_succ (at_succ (at_succ (at_succ (at_succ (at_succ at_zero)))))) (by kernel_rfl) (by kernel_rfl) (by kernel_rfl) (fun _ _ _ h => h) (Or.inl ⟨by kernel_rfl, fun wy hSw => ?_⟩) (by assumption) ?_
        · (try dsimp only at hSw); go_simp
        try simp only [Act.put, List.setIfInBounds_toArray, List.set_cons_zero, List.set_cons_succ]
        refine wpAnyH_take (i := 9) (v := (.string s)) (at_succ (at_succ (at_succ (at_succ (at_succ (at_succ (at_succ (at_succ (at_succ at_zero))))))))) (by kernel_rfl) (by kernel_rfl) (by kernel_rfl) (fun _ _ _ h => h) (Or.inl ⟨by kernel_rfl, fun wy hSw => ?_⟩) (by assumption) ?_
        · (try dsimp only at hSw); go_simp
        try simp only [Act.put, List.setIfInBounds_toArray, List.set_cons_zero, List.set_cons_succ]
        refine wpAnyH_take (i := 10) (v := (.int .i64 (k : Int))) (at_succ (at_succ (at_succ (at_succ (at_succ (at_succ (at_succ (at_succ (at_succ (at_succ at_zero)))))))))) (by kernel_rfl) (by kernel_rfl) (by kernel_rfl) (fun _ _ _ h => h) (Or.inl ⟨by kernel_rfl, fun wy hSw => ?_⟩) (by assumption) ?_
        · (try dsimp only at hSw); go_simp
        try simp only [Act.put, List.setIfInBounds_toArray, List.set_cons_zero, List.set_cons_succ]
        refine wpAnyH_take (i := 11) (v := (.int .i64 ((k : Int) * 64))) (at_succ (at_succ (at_succ (at_succ (at_succ (at_succ (at_succ (at_succ (at_succ (at_succ (at_succ at_zero))))))))))) (by kernel_rfl) (by kernel_rfl) (by kernel_rfl) (fun _ _ _ h => h) (Or.inl ⟨by kernel_rfl, fun wy hSw => ?_⟩) (by assumption) ?_
        · (try dsimp only at hSw); go_simp
        try simp only [Act.put, List.setIfInBounds_toArray, List.set_cons_zero, List.set_cons_succ]
        refine wpAnyH_take (i := 12) (v := (.int .i64 (s.size : Int))) (at_succ (at_succ (at_succ (at_succ (at_succ (at_succ (at_succ (at_succ (at_succ (at_succ (at_succ (at_succ at_zero)))))))))))) (by kernel_rfl) (by kernel_rfl) (by kernel_rfl) (fun _ _ _ h => h) (Or.inl ⟨by kernel_rfl, fun wy hSw => ?_⟩) (by assumption) ?_
        · (try dsimp only at hSw); go_simp
        try simp only [Act.put, List.setIfInBounds_toArray, List.set_cons_zero, List.set_cons_succ]
        refine wpAnyH_take (i := 13) (v := (.string (s.extract (64 * k) (s.size)))) (at_succ (at_succ (at_succ (at_succ (at_succ (at_succ (at_succ (at_succ (at_succ (at_succ (at_succ (at_succ (at_succ at_zero))))))))))))) (by kernel_rfl) (by kernel_rfl) (by kernel_rfl) (fun _ _ _ h => h) (Or.inl ⟨by kernel_rfl, fun wy hSw => ?_⟩) (by assumption) ?_
        · go_simp; rw [if_pos ⟨by omega, by omega⟩, show ((k : Int) * 64).toNat = 64 * k by omega]
        try simp only [Act.put, List.setIfInBounds_toArray, List.set_cons_zero, List.set_cons_succ]
        refine wpAnyH_ready (rs := [7]) (by kernel_rfl) (by simp) ?_
        refine AllReadyH.cons (at_succ (at_succ (at_succ (at_succ (at_succ (at_succ (at_succ at_zero))))))) (fun K hK => ?_) AllReadyH.nil
        rw [if_pos (by kernel_rfl)]
        go_simp
        refine hK.out _ _ (trivial) (fun hHeld => ?_)
        clear hK K
        try simp only [Act.put, List.setIfInBounds_toArray, List.set_cons_zero, List.set_cons_succ]
        try rw [hW1]
        refine wpAnyH_ready (rs := [8]) (by kernel_rfl) (by simp) ?_
        refine AllReadyH.cons (at_succ (at_succ (at_succ (at_succ (at_succ (at_succ (at_succ (at_succ at_zero)))))))) (fun K hK => ?_) AllReadyH.nil
        rw [if_pos (by kernel_rfl)]
        go_simp
        refine hK.out _ _ (trivial) (fun hHeld => ?_)
        clear hK K
        try simp only [Act.put, List.setIfInBounds_toArray, List.set_cons_zero, List.set_cons_succ]
        refine wpAnyH_take (i := 14) (v := (.string (pk k))) (at_succ (at_succ (at_succ (at_succ (at_succ (at_succ (at_succ (at_succ (at_succ (at_succ (at_succ (at_succ (at_succ (at_succ at_zero)))))))))))))) (by kernel_rfl) (by kernel_rfl) (by kernel_rfl) (fun _ _ _ h => h) (Or.inl ⟨by kernel_rfl, fun wy hSw => ?_⟩) (by assumption) ?_
        · go_simp; rw [if_neg (by rw [bs_size]; simp only [List.length_cons, List.length_nil]; omega)]; exact congrArg (fun x => Result.ok (Next.value (Value.string x)) wy) PK.out
        try simp only [Act.put, List.setIfInBounds_toArray, List.set_cons_zero, List.set_cons_succ]
        refine wpAnyH_ready (rs := [15]) (by kernel_rfl) (by simp) ?_
        refine AllReadyH.cons (at_succ (at_succ (at_succ (at_succ (at_succ (at_succ (at_succ (at_succ (at_succ (at_succ (at_succ (at_succ (at_succ (at_succ (at_succ at_zero))))))))))))))) (fun K hK => ?_) AllReadyH.nil
        rw [if_pos (by kernel_rfl)]
        go_simp
        refine hK.out _ _ (trivial) (fun hHeld => ?_)
        clear hK K
        try simp only [Act.put, List.setIfInBounds_toArray, List.set_cons_zero, List.set_cons_succ]
        refine wpAnyH_ready (rs := [16]) (by kernel_rfl) (by simp) ?_
        refine AllReadyH.cons (at_succ (at_succ (at_succ (at_succ (at_succ (at_succ (at_succ (at_succ (at_succ (at_succ (at_succ (at_succ (at_succ (at_succ (at_succ (at_succ at_zero)))))))))))))))) (fun K hK => ?_) AllReadyH.nil
        rw [if_pos (by kernel_rfl)]
        refine Lib.wp_append_run _ _ _ _ _ rfl _ _ rfl rfl _ _ hap ?_
        refine hK.out _ _ (trivial) (fun hHeld => ?_)
        clear hK K
        try simp only [Act.put, List.setIfInBounds_toArray, List.set_cons_zero, List.set_cons_succ]
        refine wpAnyH_take (i := 17) (v := (.slice A6 (G (k + 1)).length c6)) (at_succ (at_succ (at_succ (at_succ (at_succ (at_succ (at_succ (at_succ (at_succ (at_succ (at_succ (at_succ (at_succ (at_succ (at_succ (at_succ (at_succ at_zero))))))))))))))))) (by kernel_rfl) (by kernel_rfl) (by kernel_rfl) (fun _ _ _ h => h) (Or.inl ⟨by kernel_rfl, fun wy hSw => ?_⟩) (by assumption) ?_
        · (try dsimp only at hSw); go_simp
        try simp only [Act.put, List.setIfInBounds_toArray, List.set_cons_zero, List.set_cons_succ]
        refine wpAnyH_done (by kernel_rfl) ?_ _
        go_wp2_with fail
        go_roundw
        case rel => exact ⟨k + 1, A6, c6, by go_num, hlt, rfl, O6, B6.out⟩
        case measure => simp [intOf]; omega
      · have d7 : decide ((s.size : Int) < ((k : Int) + 1) * 64) = false := df (by omega)
        have PK := Lib.hid (PI.out k (64 * (k + 1)) (by omega))
        
        have b2 := (below_drewN (Below.refl wr.heap.size wr) 1).trans ((alloc_below wr.drew (.cells #[.int .u8 ((u8 id).toNat : Int), .int .u8 ((u8 k).toNat : Int), .int .u8 ((u8 n).toNat : Int)] 5)).mono (Nat.le_refl _))
        have cv := conv_lit wr.drew 5 #[.int .u8 ((u8 id).toNat : Int), .int .u8 ((u8 k).toNat : Int), .int .u8 ((u8 n).toNat : Int)] [u8 id, u8 k, u8 (n : Nat)] rfl 3 3 rfl
        have O2 := O.out.below b2
        have B2 := Lib.hid (B.out.trans (b2.mono B.out.size))
        obtain ⟨W1, hW1⟩ : ∃ W1, wr.drew.alloc (.cells #[.int .u8 ((u8 id).toNat : Int), .int .u8 ((u8 k).toNat : Int), .int .u8 ((u8 n).toNat : Int)] 5) = W1 := ⟨_, rfl⟩
        have hp1 : (⟨wr.drew.heap.size, 0, none⟩ : Addr) = ⟨wr.heap.size, 0, none⟩ := rfl
        rw [hp1, hW1] at cv
        have O2 : OwnF fSt 9 W1 w.heap.size (.slice A1 (G k).length c1) (G k) := by rw [← hW1]; exact O2
        have B2 : Hid (Below w.heap.size w W1) := by rw [← hW1]; exact B2
        obtain ⟨v6, w6, hap, ho6, hb6⟩ := O2.one eSt 23 (pk k) #[.string (pk k)] rfl OKk.out (by omega) B2.out.size
        obtain ⟨A6, c6, e6, _⟩ := ho6.form
        subst e6
        have L6 := Lib.hid (congrArg List.length N.out.symm)
        have O6 := Lib.hid (show OwnF fSt 9 w6 w.heap.size (.slice A6 (G (k + 1)).length c6) (G (k + 1)) by rw [N.out]; exact ho6)
        have B6 := Lib.hid (B2.out.trans hb6)
        rw [L6.out] at hap
        clear ho6 hb6 O LG N OKk O2 B B2 b2 GN GL GE G0 PI OK KN
        go_wp2_with fail
        refine wp_region_held_drew (S := (fun _ => True)) (by kernel_rfl) (trivial) (fun hHeld => ?_)
        refine wpAnyH_take (i := 0) (v := (.slice A1 (G k).length c1)) at_zero (by kernel_rfl) (by kernel_rfl) (by kernel_rfl) (fun _ _ _ h => h) (Or.inl ⟨by kernel_rfl, fun wy hSw => ?_⟩) (by assumption) ?_
        · (try dsimp only at hSw); go_simp
        try simp only [Act.put, List.setIfInBounds_toArray, List.set_cons_zero, List.set_cons_succ]
        refine wpAnyH_take (i := 1) (v := (.int .i64 id)) (at_succ at_zero) (by kernel_rfl) (by kernel_rfl) (by kernel_rfl) (fun _ _ _ h => h) (Or.inl ⟨by kernel_rfl, fun wy hSw => ?_⟩) (by assumption) ?_
        · (try dsimp only at hSw); go_simp
        try simp only [Act.put, List.setIfInBounds_toArray, List.set_cons_zero, List.set_cons_succ]
        refine wpAnyH_take (i := 2) (v := (.int .u8 ((u8 id).toNat : Int))) (at_succ (at_succ at_zero)) (by kernel_rfl) (by kernel_rfl) (by kernel_rfl) (fun _ _ _ h => h) (Or.inl ⟨by kernel_rfl, fun wy hSw => ?_⟩) (by assumption) ?_
        · (try dsimp only at hSw); go_simp
        try simp only [Act.put, List.setIfInBounds_toArray, List.set_cons_zero, List.set_cons_succ]
        refine wpAnyH_take (i := 3) (v := (.int .i64 (k : Int))) (at_succ (at_succ (at_succ at_zero))) (by kernel_rfl) (by kernel_rfl) (by kernel_rfl) (fun _ _ _ h => h) (Or.inl ⟨by kernel_rfl, fun wy hSw => ?_⟩) (by assumption) ?_
        · (try dsimp only at hSw); go_simp
        try simp only [Act.put, List.setIfInBounds_toArray, List.set_cons_zero, List.set_cons_succ]
        refine wpAnyH_take (i := 4) (v := (.int .u8 ((u8 k).toNat : Int))) (at_succ (at_succ (at_succ (at_succ at_zero)))) (by kernel_rfl) (by kernel_rfl) (by kernel_rfl) (fun _ _ _ h => h) (Or.inl ⟨by kernel_rfl, fun wy hSw => ?_⟩) (by assumption) ?_
        · (try dsimp only at hSw); go_simp
        try simp only [Act.put, List.setIfInBounds_toArray, List.set_cons_zero, List.set_cons_succ]
        refine wpAnyH_take (i := 5) (v := (.int .i64 (n : Int))) (at_succ (at_succ (at_succ (at_succ (at_succ at_zero))))) (by kernel_rfl) (by kernel_rfl) (by kernel_rfl) (fun _ _ _ h => h) (Or.inl ⟨by kernel_rfl, fun wy hSw => ?_⟩) (by assumption) ?_
        · (try dsimp only at hSw); go_simp
        try simp only [Act.put, List.setIfInBounds_toArray, List.set_cons_zero, List.set_cons_succ]
        refine wpAnyH_take (i := 6) (v := (.int .u8 ((u8 n).toNat : Int))) (at_succ (at_succ (at_succ (at_succ (at_succ (at_succ at_zero)))))) (by kernel_rfl) (by kernel_rfl) (by kernel_rfl) (fun _ _ _ h => h) (Or.inl ⟨by kernel_rfl, fun wy hSw => ?_⟩) (by assumption) ?_
        · (try dsimp only at hSw); go_simp
        try simp only [Act.put, List.setIfInBounds_toArray, List.set_cons_zero, List.set_cons_succ]
        refine wpAnyH_take (i := 9) (v := (.string s)) (at_succ (at_succ (at_succ (at_succ (at_succ (at_succ (at_succ (at_succ (at_succ at_zero))))))))) (by kernel_rfl) (by kernel_rfl) (by kernel_rfl) (fun _ _ _ h => h) (Or.inl ⟨by kernel_rfl, fun wy hSw => ?_⟩) (by assumption) ?_
        · (try dsimp only at hSw); go_simp
        try simp only [Act.put, List.setIfInBounds_toArray, List.set_cons_zero, List.set_cons_succ]
        refine wpAnyH_take (i := 10) (v := (.int .i64 (k : Int))) (at_succ (at_succ (at_succ (at_succ (at_succ (at_succ (at_succ (at_succ (at_succ (at_succ at_zero)))))))))) (by kernel_rfl) (by kernel_rfl) (by kernel_rfl) (fun _ _ _ h => h) (Or.inl ⟨by kernel_rfl, fun wy hSw => ?_⟩) (by assumption) ?_
        · (try dsimp only at hSw); go_simp
        try simp only [Act.put, List.setIfInBounds_toArray, List.set_cons_zero, List.set_cons_succ]
        refine wpAnyH_take (i := 11) (v := (.int .i64 ((k : Int) * 64))) (at_succ (at_succ (at_succ (at_succ (at_succ (at_succ (at_succ (at_succ (at_succ (at_succ (at_succ at_zero))))))))))) (by kernel_rfl) (by kernel_rfl) (by kernel_rfl) (fun _ _ _ h => h) (Or.inl ⟨by kernel_rfl, fun wy hSw => ?_⟩) (by assumption) ?_
        · (try dsimp only at hSw); go_simp
        try simp only [Act.put, List.setIfInBounds_toArray, List.set_cons_zero, List.set_cons_succ]
        refine wpAnyH_take (i := 12) (v := (.int .i64 (((k : Int) + 1) * 64))) (at_succ (at_succ (at_succ (at_succ (at_succ (at_succ (at_succ (at_succ (at_succ (at_succ (at_succ (at_succ at_zero)))))))))))) (by kernel_rfl) (by kernel_rfl) (by kernel_rfl) (fun _ _ _ h => h) (Or.inl ⟨by kernel_rfl, fun wy hSw => ?_⟩) (by assumption) ?_
        · (try dsimp only at hSw); go_simp
        try simp only [Act.put, List.setIfInBounds_toArray, List.set_cons_zero, List.set_cons_succ]
        refine wpAnyH_take (i := 13) (v := (.string (s.extract (64 * k) (64 * (k + 1))))) (at_succ (at_succ (at_succ (at_succ (at_succ (at_succ (at_succ (at_succ (at_succ (at_succ (at_succ (at_succ (at_succ at_zero))))))))))))) (by kernel_rfl) (by kernel_rfl) (by kernel_rfl) (fun _ _ _ h => h) (Or.inl ⟨by kernel_rfl, fun wy hSw => ?_⟩) (by assumption) ?_
        · go_simp; rw [if_pos ⟨by omega, by omega⟩, if_pos ⟨by omega, by omega⟩, show ((k : Int) * 64).toNat = 64 * k by omega, show (((k : Int) + 1) * 64).toNat = 64 * (k + 1) by omega]
        try simp only [Act.put, List.setIfInBounds_toArray, List.set_cons_zero, List.set_cons_succ]
        refine wpAnyH_ready (rs := [7]) (by kernel_rfl) (by simp) ?_
        refine AllReadyH.cons (at_succ (at_succ (at_succ (at_succ (at_succ (at_succ (at_succ at_zero))))))) (fun K hK => ?_) AllReadyH.nil
        rw [if_pos (by kernel_rfl)]
        go_simp
        refine hK.out _ _ (trivial) (fun hHeld => ?_)
        clear hK K
        try simp only [Act.put, List.setIfInBounds_toArray, List.set_cons_zero, List.set_cons_succ]
        try rw [hW1]
        refine wpAnyH_ready (rs := [8]) (by kernel_rfl) (by simp) ?_
        refine AllReadyH.cons (at_succ (at_succ (at_succ (at_succ (at_succ (at_succ (at_succ (at_succ at_zero)))))))) (fun K hK => ?_) AllReadyH.nil
        rw [if_pos (by kernel_rfl)]
        go_simp
        refine hK.out _ _ (trivial) (fun hHeld => ?_)
        clear hK K
        try simp only [Act.put, List.setIfInBounds_toArray, List.set_cons_zero, List.set_cons_succ]
        refine wpAnyH_take (i := 14) (v := (.string (pk k))) (at_succ (at_succ (at_succ (at_succ (at_succ (at_succ (at_succ (at_succ (at_succ (at_succ (at_succ (at_succ (at_succ (at_succ at_zero)))))))))))))) (by kernel_rfl) (by kernel_rfl) (by kernel_rfl) (fun _ _ _ h => h) (Or.inl ⟨by kernel_rfl, fun wy hSw => ?_⟩) (by assumption) ?_
        · go_simp; rw [if_neg (by rw [bs_size]; simp only [List.length_cons, List.length_nil]; omega)]; exact congrArg (fun x => Result.ok (Next.value (Value.string x)) wy) PK.out
        try simp only [Act.put, List.setIfInBounds_toArray, List.set_cons_zero, List.set_cons_succ]
        refine wpAnyH_ready (rs := [15]) (by kernel_rfl) (by simp) ?_
        refine AllReadyH.cons (at_succ (at_succ (at_succ (at_succ (at_succ (at_succ (at_succ (at_succ (at_succ (at_succ (at_succ (at_succ (at_succ (at_succ (at_succ at_zero))))))))))))))) (fun K hK => ?_) AllReadyH.nil
        rw [if_pos (by kernel_rfl)]
        go_simp
        refine hK.out _ _ (trivial) (fun hHeld => ?_)
        clear hK K
        try simp only [Act.put, List.setIfInBounds_toArray, List.set_cons_zero, List.set_cons_succ]
        refine wpAnyH_ready (rs := [16]) (by kernel_rfl) (by simp) ?_
        refine AllReadyH.cons (at_succ (at_succ (at_succ (at_succ (at_succ (at_succ (at_succ (at_succ (at_succ (at_succ (at_succ (at_succ (at_succ (at_succ (at_succ (at_succ at_zero)))))))))))))))) (fun K hK => ?_) AllReadyH.nil
        rw [if_pos (by kernel_rfl)]
        refine Lib.wp_append_run _ _ _ _ _ rfl _ _ rfl rfl _ _ hap ?_
        refine hK.out _ _ (trivial) (fun hHeld => ?_)
        clear hK K
        try simp only [Act.put, List.setIfInBounds_toArray, List.set_cons_zero, List.set_cons_succ]
        refine wpAnyH_take (i := 17) (v := (.slice A6 (G (k + 1)).length c6)) (at_succ (at_succ (at_succ (at_succ (at_succ (at_succ (at_succ (at_succ (at_succ (at_succ (at_succ (at_succ (at_succ (at_succ (at_succ (at_succ (at_succ at_zero))))))))))))))))) (by kernel_rfl) (by kernel_rfl) (by kernel_rfl) (fun _ _ _ h => h) (Or.inl ⟨by kernel_rfl, fun wy hSw => ?_⟩) (by assumption) ?_
        · (try dsimp only at hSw); go_simp
        try simp only [Act.put, List.setIfInBounds_toArray, List.set_cons_zero, List.set_cons_succ]
        refine wpAnyH_done (by kernel_rfl) ?_ _
        go_wp2_with fail
        go_roundw
        case rel => exact ⟨k + 1, A6, c6, by go_num, hlt, rfl, O6, B6.out⟩
        case measure => simp [intOf]; omega

/-- Entries are handed back, as they read. -/
def PsR (w : World) (x : List Pt) (e : Ending) (w' : World) : Prop := ∃ A c ys, e = .returned (.slice A (List.length ys) c) ∧ PsS w' A c ys ∧ xs ys = x ∧ Below w.heap.size w w'
theorem psR_of {w : World} {x : List Pt} {e : Ending} {w' : World} (h : OwnR w x e w') : PsR w x e w' := by
  obtain ⟨A, c, ys, h1, h2, h3, h4⟩ := h
  exact ⟨A, c, ys, h1, h2.psS, h3, h4⟩
/-- The first k that are young. -/
def yU (l : List Hp) (now life : Int) (k : Nat) : List Hp := (l.take k).filter fun y => decide (Young now life y.x)
theorem yU_next (l : List Hp) (now life : Int) (k : Nat) (h : k < l.length) : yU l now life (k + 1) = yU l now life k ++ if Young now life l[k].x then [l[k]] else [] := by
  unfold yU
  rw [List.take_succ_eq_append_getElem h, List.filter_append]
  congr 1
  by_cases e : Young now life l[k].x
  · rw [if_pos e, List.filter_cons_of_pos (by simpa using e)]; rfl
  · rw [if_neg e, List.filter_cons_of_neg (by simpa using e)]; rfl
theorem yU_len (l : List Hp) (now life : Int) (k : Nat) : (yU l now life k).length ≤ k := by
  unfold yU
  refine Nat.le_trans (List.length_filter_le _ _) ?_
  rw [List.length_take]; omega
theorem yU_end (l : List Hp) (now life : Int) : yU l now life l.length = l.filter fun y => decide (Young now life y.x) := by unfold yU; rw [List.take_length]
theorem xs_filter (l : List Hp) (p : Pt → Bool) : xs (l.filter fun y => p y.x) = (xs l).filter p := by unfold xs; rw [List.filter_map]; rfl
set_option maxRecDepth 100000 in
set_option maxHeartbeats 4000000 in
theorem rexpire_any (A : Option Addr) (c : Nat) (l : List Hp) (now life : Int) (w : World) (hl : l.length ≤ 1000) (hm : ∀ y ∈ l, y.x.h.length ≤ 9223372036854775807 ∧ y.x.d.length ≤ 9223372036854775807) (hA : PsS w A c l) :
    Calls Try.prog 22 #[.slice A l.length c, .int .i64 now, .int .i64 life] w (PsR w (expi (xs l) now life)) := by
  have K0 := Lib.hid (rorder_any A c l w hl hm hA)
  have OKo := Lib.hid (ord_ok (xs l))
  have FE := Lib.hid (show expi (xs l) now life = (ord (xs l)).filter fun x => decide (Young now life x) from rfl)
  clear hA hm
  generalize expi (xs l) now life = F at *
  generalize ord (xs l) = o at *
  have KL := Lib.hid (fun n w => rtick_any n w)
  have b1 := tick_in now
  have b3 := tick_in life
  unfold OwnR at K0
  go_enter Try.func22, Try.ntmps22
  go_wp2_with fail
  refine K0.out.mono ?_
  rintro _ w1 ⟨A1, c1, ys, rfl, hP, hx, hb⟩
  have HP := Lib.hid hP
  have B1 := Lib.hid hb
  have yl : ys.length ≤ 8 := by have := OKo.out.len; rw [← hx] at this; simpa using this
  have TK := Lib.hid (fun (k : Nat) (h : k < ys.length) => (show 0 ≤ ys[k].x.t ∧ ys[k].x.t ≤ 1099511627776 from (OKo.out.val ys[k].x (by rw [← hx]; exact List.mem_map_of_mem (List.getElem_mem h))).tk))
  have GN := Lib.hid (fun (k : Nat) (h : k < ys.length) => yU_next ys now life k h)
  have GL := Lib.hid (fun k => yU_len ys now life k)
  have GE := Lib.hid (show xs (yU ys now life ys.length) = F by rw [yU_end, FE.out, ← hx]; exact xs_filter ys (fun x => decide (Young now life x)))
  have GS := Lib.hid (fun k => (show (yU ys now life k).Sublist ys from (List.filter_sublist).trans (List.take_sublist _ _)))
  have G0 := Lib.hid (show yU ys now life 0 = [] from rfl)
  clear hP hx hb K0 OKo FE
  have YD := Lib.hid (fun (x : Pt) => (show Young now life x ↔ tick now - x.t ≤ tick life from Iff.rfl))
  obtain ⟨Yg, hY⟩ : ∃ Yg : Pt → Prop, Yg = Young now life := ⟨_, rfl⟩
  have GN : Hid (∀ (k : Nat) (h : k < ys.length), yU ys now life (k + 1) = yU ys now life k ++ (if tick now - ys[k].x.t ≤ tick life then [ys[k]] else [])) := Lib.hid fun k h => GN.out k h
  clear YD hY
  generalize yU ys now life = G at *
  generalize tick = f at *
  go_wp2_with fail
  go_loopw [7, 14] (fun vo vk wr => ∃ (k : Nat) (A2 : Option Addr) (c2 : Nat), vk = .int .i64 k ∧ k ≤ ys.length ∧ vo = .slice A2 (G k).length c2 ∧ Hid (OwnF fP 44 wr w1.heap.size (.slice A2 (G k).length c2) (G k)) ∧ Below w1.heap.size w1 wr) (fun _ vk _ => ys.length - (intOf vk).toNat)
  case atStart => exact ⟨0, none, 0, rfl, by omega, by rw [G0.out]; rfl, Lib.hid (by rw [G0.out]; exact OwnF.nil _ _), Below.refl _ _⟩
  case round =>
    obtain ⟨k, A2, c2, rfl, hk, rfl, O, hb⟩ := hrel
    have B := Lib.hid hb
    by_cases hlt : k < ys.length
    · obtain ⟨b, p, rfl, hbl, hc, hok⟩ := hp_cell ((HP.out.row.next hb).1) k hlt
      have b2 := TK.out k hlt
      have N := Lib.hid (GN.out k hlt)
      have LG := GL.out k
      clear hb HP TK GN GL GE GS G0
      have q0 : (k : Int) < (ys.length : Int) := by omega
      have q1 : (0 : Int) ≤ (k : Int) := by omega
      obtain ⟨x, hx⟩ : ∃ x, ys[k] = x := ⟨_, rfl⟩
      rw [hx] at hc hok N b2
      clear hx
      have HC := Lib.hid hc
      obtain ⟨⟨s, i, c', t, h, d⟩, a1, a2, a3, a4⟩ := x
      obtain ⟨g0, g1, g2, g3, g4, g5⟩ := hc
      simp only at g3 N b2
      have z1 : IntKind.i64.wrap (f now - t) = f now - t := by rw [IntKind.wrap_i64]; omega
      by_cases hv : f now - t ≤ f life
      · have d1 : decide (f now - t ≤ f life) = true := decide_eq_true hv
        have N := Lib.hid (N.out.trans (by rw [if_pos hv]))
        clear hv b1 b2 b3 g0 g1 g2 g4 g5
        go_wp2_with fail
        go_quiet ((go_at_call 41; exact quiet_same (KL.out _ _)))
        clear g3
        obtain ⟨wq, hwq⟩ : ∃ wq, wq = wr.drewN nq := ⟨_, rfl⟩
        rw [← hwq]
        have BQ : Below wr.heap.size wr wq := by rw [hwq]; exact below_drewN (Below.refl _ _) _
        have B2 := Lib.hid (B.out.trans (BQ.mono B.out.size))
        have O2 := Lib.hid (O.out.below BQ)
        obtain ⟨g0, g1, g2, g3, g4, g5⟩ := HC.out.below BQ hbl
        simp only at g0 g1 g2 g3 g4 g5
        clear HC BQ hwq O
        obtain ⟨v6, w6, hap, ho6, hb6, _⟩ := one_p ⟨⟨s, i, c', t, h, d⟩, a1, a2, a3, a4⟩ hok O2.out (by omega) B2.out.size
        obtain ⟨A6, c6, e6, _⟩ := ho6.form
        subst e6
        have L6 := Lib.hid (congrArg List.length N.out.symm)
        have O6 := Lib.hid (show OwnF fP 44 w6 w1.heap.size (.slice A6 (G (k + 1)).length c6) (G (k + 1)) by rw [N.out]; exact ho6)
        have B6 := Lib.hid (B2.out.trans hb6)
        rw [L6.out] at hap
        simp only [bxP] at hap
        clear ho6 hb6 LG N hok O2
        go_wp2_with (at_builtin; refine Lib.wpList_append_run _ rfl _ _ _ _ rfl _ _ rfl rfl _ _ hap ?_)
        go_roundw
        case rel => exact ⟨k + 1, A6, c6, by go_num, hlt, rfl, O6, B6.out⟩
        case measure => simp [intOf]; omega
      · have d1 : decide (f now - t ≤ f life) = false := decide_eq_false hv
        have N := Lib.hid (N.out.trans (by rw [if_neg hv, List.append_nil]))
        clear hv b1 b2 b3 g0 g1 g2 g4 g5 HC
        go_wp2_with fail
        go_quiet ((go_at_call 41; exact quiet_same (KL.out _ _)))
        go_wp2_with fail
        go_roundw
        case rel => exact ⟨k + 1, A2, c2, by go_num, hlt, by rw [N.out], Lib.hid (by rw [N.out]; exact O.out.drew _), below_drewN B.out _⟩
        case measure => simp [intOf]; omega
    · obtain rfl : k = ys.length := by omega
      have E := GE.out
      have hs := own_sls O.out
      have GSk := GS.out ys.length
      have HN := fun y hy => ((HP.out.nest y (GSk.subset hy)).below hb).nest
      have BE := B1.out.trans (hb.mono B1.out.size)
      clear GN GL G0 GE GS TK hb
      go_wp2_with fail
      go_ret
      exact ⟨A2, c2, G ys.length, rfl, ⟨hs, HN⟩, E, BE⟩
end Go.Proofs.Ytljcjflbfjleoaa.Frg
