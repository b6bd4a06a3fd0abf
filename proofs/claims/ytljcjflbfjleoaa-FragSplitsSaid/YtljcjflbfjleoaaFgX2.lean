/- Package frag: countOf, dataOf, Split, read, Check. -/
import Derived.Test.YtljcjflbfjleoaaFgX1
set_option linter.unusedVariables false
namespace Go.Proofs.Ytljcjflbfjleoaa.Frg
open Go.RowKit

theorem pcount_any (s : ByteArray) (w : World) (hs : s.size ≤ 1000) : Calls Try.prog 24 #[.string s] w fun e w' => e = .returned (.int .i64 (cnt s.size : Nat)) ∧ w = w' := by
  have z1 : IntKind.i64.wrap ((s.size : Int) + 64) = (s.size : Int) + 64 := by rw [IntKind.wrap_i64]; omega
  have z2 : IntKind.i64.wrap ((s.size : Int) + 64 - 1) = (s.size : Int) + 64 - 1 := by rw [IntKind.wrap_i64]; omega
  have START : ∃ n0 : Int, Int.tdiv ((s.size : Int) + 64 - 1) 64 = n0 ∧ I64 n0 ∧ max (1 : Int) n0 = (cnt s.size : Nat) := by
    refine ⟨_, rfl, ?_, ?_⟩
    · rw [Int.tdiv_eq_ediv_of_nonneg (by omega)]
      unfold I64
      omega
    · rw [Int.tdiv_eq_ediv_of_nonneg (by omega)]
      unfold cnt
      split <;> omega
  obtain ⟨n0, z3, z4, hn0⟩ := START
  have z5 : IntKind.i64.wrap n0 = n0 := IntWalk.i64_in _ ⟨z4.1, z4.2⟩
  generalize cnt s.size = n at *
  clear z4
  go_enter Try.func24, Try.ntmps24
  go_wp2_with fail
  go_ret
  exact ⟨rfl, rfl⟩
theorem pdata_any (s : ByteArray) (k : Nat) (w : World) (hs : s.size ≤ 1000) (hk : 64 * k ≤ s.size) : Calls Try.prog 25 #[.string s, .int .i64 (k : Int)] w fun e w' => e = .returned (.string (s.extract (64 * k) (min (64 * (k + 1)) s.size))) ∧ w = w' := by
  have z1 : IntKind.i64.wrap ((k : Int) * 64) = (k : Int) * 64 := by rw [IntKind.wrap_i64] <;> omega
  have z2 : IntKind.i64.wrap ((k : Int) * 64 + 64) = (k : Int) * 64 + 64 := by rw [IntKind.wrap_i64] <;> omega
  have z3 : min ((k : Int) * 64 + 64) (s.size : Int) = ((min (64 * (k + 1)) s.size : Nat) : Int) := by omega
  have z4 : (k : Int) * 64 = ((64 * k : Nat) : Int) := by omega
  have hm : min (64 * (k + 1)) s.size ≤ s.size := Nat.min_le_right _ _
  have hm2 : 64 * k ≤ min (64 * (k + 1)) s.size := by omega
  generalize min (64 * (k + 1)) s.size = e at *
  rw [z4] at z1 z2 z3
  generalize 64 * k = f at *
  have q0 : (0 : Int) ≤ (f : Int) := by omega
  have q1 : (f : Int) ≤ (e : Int) := by omega
  have q2 : (e : Int) ≤ (s.size : Int) := by omega
  go_enter Try.func25, Try.ntmps25
  go_wp2_with fail
  go_ret
  exact ⟨by simp, rfl⟩

/-- The pieces, the first k made. -/
def mkd (P : List ByteArray) (k : Nat) : List ByteArray := P.take k ++ List.replicate (P.length - k) eb
theorem mkd_len (P : List ByteArray) (k : Nat) (h : k ≤ P.length) : (mkd P k).length = P.length := by unfold mkd; rw [List.length_append, List.length_take, List.length_replicate]; omega
theorem mkd_zero (P : List ByteArray) : mkd P 0 = List.replicate P.length eb := by unfold mkd; simp
theorem mkd_all (P : List ByteArray) : mkd P P.length = P := by unfold mkd; simp
theorem mkd_set (P : List ByteArray) (k : Nat) (h : k < P.length) : (mkd P k).set k P[k] = mkd P (k + 1) := by
  unfold mkd
  have hl : (P.take k).length = k := by rw [List.length_take]; omega
  rw [List.set_append_right _ _ (by omega), hl, Nat.sub_self, List.take_succ_eq_append_getElem h, List.append_assoc]
  congr 1
  obtain ⟨m, hm⟩ : ∃ m, P.length - k = m + 1 := ⟨P.length - k - 1, by omega⟩
  rw [hm, List.replicate_succ, List.set_cons_zero, show P.length - (k + 1) = m by omega]
  rfl
set_option maxRecDepth 100000 in
set_option maxHeartbeats 4000000 in
theorem psplit_any (s : ByteArray) (id : Int) (w : World) (hs : s.size ≤ 9223372036854775807) : Calls Try.prog 12 #[.string s, .int .i64 id] w (SplitR w (split s id)) := by
  by_cases h1 : 1000 < s.size
  · have d1 := dt (show (1000 : Int) < (s.size : Int) by omega)
    rw [show split s id = ([], 3) from if_pos h1]
    go_enter Try.func12, Try.ntmps12
    go_wp2_with fail
    go_ret2
    exact ⟨none, 0, rfl, SlS.nil _, Below.refl _ _⟩
  have d1 := df (show ¬ (1000 : Int) < (s.size : Int) by omega)
  have KI := Lib.hid (fun w => pid_any id w)
  by_cases h2 : 0 ≤ id ∧ id ≤ 255
  rotate_left
  · rw [show split s id = ([], 2) by unfold split; rw [if_neg h1, if_pos (by omega)]]
    rw [decide_eq_false h2] at KI
    clear h2
    go_enter Try.func12, Try.ntmps12
    go_wp2_with fail
    refine (KI.out _).mono ?_
    rintro _ _ ⟨rfl, rfl⟩
    go_wp2_with fail
    go_ret2
    exact ⟨none, 0, rfl, SlS.nil _, Below.refl _ _⟩
  rw [decide_eq_true h2] at KI
  rw [show split s id = (pcs s id, 0) by unfold split; rw [if_neg h1, if_neg (by omega)]]
  have KC := Lib.hid (fun w => pcount_any s w (by omega))
  have KD := Lib.hid (fun k w h => pdata_any s k w (by omega) h)
  have CL := cnt_le (show s.size ≤ 1000 by omega)
  have PL := pcs_len s id
  have PA := Lib.hid (fun k h => pcs_at s id k h)
  have OK := Lib.hid (fun k => piece_ok s id k (by omega))
  have PI := Lib.hid (fun k => piece_is s id k _ rfl)
  have KN := Lib.hid (fun (k : Nat) (h : k < cnt s.size) => (show 64 * k ≤ s.size by unfold cnt at h; split at h <;> omega))
  have w1 := u8_wrap id (by omega)
  have w2 := u8_wrap (cnt s.size) (by omega)
  generalize pcs s id = P at *
  generalize cnt s.size = n at *
  obtain ⟨pk, hpk⟩ : ∃ pk, piece s id = pk := ⟨_, rfl⟩
  rw [hpk] at PA OK PI
  clear hpk
  subst PL
  obtain ⟨n, hn⟩ : ∃ n, P.length = n := ⟨_, rfl⟩
  have MK := Lib.hid (mk_texts n (by omega))
  have M0 := Lib.hid (made_texts w w.heap.size n (Nat.le_refl _) (by omega))
  rw [← hn, ← mkd_zero] at M0
  rw [← hn] at MK
  have mk := fun w => MK.out w
  have b0 := Lib.hid (alloc_below w (.cells (madeCells #[.string ⟨#[]⟩] P.length) 9))
  clear hn n MK h1 h2
  go_enter Try.func12, Try.ntmps12
  go_wp2_with fail
  refine (KI.out _).mono ?_
  rintro _ _ ⟨rfl, rfl⟩
  clear KI
  go_wp2_with fail
  refine (KC.out _).mono ?_
  rintro _ _ ⟨rfl, rfl⟩
  clear KC
  go_wp2_with fail
  clear mk
  obtain ⟨W, hW⟩ : ∃ W, w.alloc (.cells (madeCells #[.string ⟨#[]⟩] P.length) 9) = W := ⟨_, rfl⟩
  rw [hW] at M0 b0 ⊢
  have hgW : w.heap.size < W.heap.size := by rw [← hW]; simp
  clear hW
  go_loopw [20] (fun vk wr => ∃ k : Nat, vk = .int .i64 k ∧ k ≤ P.length ∧ Hid (OwnF fSt 9 wr w.heap.size (.slice (some ⟨w.heap.size, 0, none⟩) P.length P.length) (mkd P k)) ∧ Below w.heap.size w wr ∧ W.heap.size ≤ wr.heap.size) (fun vk _ => P.length - (intOf vk).toNat)
  case atStart => exact ⟨0, rfl, Nat.zero_le _, M0, b0.out, Nat.le_refl _⟩
  case round =>
    obtain ⟨k, rfl, hk, O, hb, hsz⟩ := hrel
    have B := Lib.hid hb
    clear hb M0 b0
    by_cases hlt : k < P.length
    rotate_left
    · obtain rfl : k = P.length := by omega
      rw [mkd_all] at O
      clear PA OK PI KN KD
      go_wp2_with fail
      go_ret2
      obtain ⟨A2, c2, e2, h2⟩ := O.out.slS
      simp only [Value.slice.injEq, true_and] at e2
      obtain ⟨rfl, rfl⟩ := e2
      exact ⟨_, _, rfl, h2, B.out⟩
    have w3 := u8_wrap k (by omega)
    have ML := mkd_len P k hk
    have KDk := Lib.hid (fun w => KD.out k w (KN.out k hlt))
    have PK := Lib.hid (show bs [Frg.u8 id, Frg.u8 k, Frg.u8 P.length] ++ s.extract (64 * k) (min (64 * (k + 1)) s.size) = pk k from PI.out k)
    have OKk := Lib.hid (OK.out k)
    have PAk := Lib.hid (PA.out k hlt)
    have DS : (s.extract (64 * k) (min (64 * (k + 1)) s.size)).size ≤ 9223372036854775000 := by rw [ByteArray.size_extract]; omega
    obtain ⟨D, hD⟩ : ∃ D, s.extract (64 * k) (min (64 * (k + 1)) s.size) = D := ⟨_, rfl⟩
    rw [hD] at KDk PK DS
    clear hD KD KN PI OK PA
    have hgr : w.heap.size < wr.heap.size := by omega
    have b1 := alloc_below wr (.cells #[.int .u8 ((Frg.u8 id).toNat : Int), .int .u8 ((Frg.u8 k).toNat : Int), .int .u8 ((Frg.u8 P.length).toNat : Int)] 5)
    have R0 := row_lit wr 5 #[.int .u8 ((Frg.u8 id).toNat : Int), .int .u8 ((Frg.u8 k).toNat : Int), .int .u8 ((Frg.u8 P.length).toNat : Int)] [Frg.u8 id, Frg.u8 k, Frg.u8 P.length] rfl
    obtain ⟨W1, hW1⟩ : ∃ W1, wr.alloc (.cells #[.int .u8 ((Frg.u8 id).toNat : Int), .int .u8 ((Frg.u8 k).toNat : Int), .int .u8 ((Frg.u8 P.length).toNat : Int)] 5) = W1 := ⟨_, rfl⟩
    rw [hW1] at b1 R0
    have O1 := O.out.below b1
    have B1 := Lib.hid (B.out.trans (b1.mono B.out.size))
    have O2 := O1.below (below_drewN (Below.refl W1.heap.size W1) 1)
    have R1 : RowB W1.drew wr.heap.size [Frg.u8 id, Frg.u8 k, Frg.u8 P.length] := R0.below (below_drewN (Below.refl W1.heap.size W1) 1) R0.lt
    rw [← ML] at O2
    have e0 : k * fSt.sz + 0 = k := by show k * 1 + 0 = k; omega
    have hv := OwnF.cell O2 k (by omega) 0 (by decide)
    rw [e0] at hv
    have fr := fun j => OwnF.fr O2 j
    have O3 := OwnF.put O2 k (by omega) 0 (by decide) (.string (pk k)) (pk k) rfl OKk.out
    replace hv : W1.drew.cell? ⟨w.heap.size, k, none⟩ = some (.string ((mkd P k)[k]'(by omega))) := hv
    rw [e0, ML] at O3
    rw [show (mkd P k).set k (pk k) = mkd P (k + 1) by rw [← PAk.out]; exact mkd_set P k hlt] at O3
    replace fr : ∀ j, W1.drew.frozen? ⟨w.heap.size, j, none⟩ = false := fr
    have O3h := Lib.hid O3
    clear O3
    generalize (mkd P k)[k]'(by omega) = old at hv
    have B3 : Hid (Below w.heap.size w (W1.drew.setCell ⟨w.heap.size, k, none⟩ (.string (pk k)))) := Lib.hid ((B1.out.trans ((below_drewN (Below.refl W1.heap.size W1) 1).mono B1.out.size)).setCell (Nat.le_refl _) _)
    have hne : wr.heap.size ≠ w.heap.size := by omega
    have R2 : Hid (RowB (W1.drew.setCell ⟨w.heap.size, k, none⟩ (.string (pk k))) wr.heap.size [Frg.u8 id, Frg.u8 k, Frg.u8 P.length]) := by
      obtain ⟨cs, T, m, n, h1, h2⟩ := R1
      exact ⟨cs, T, m, n, (Below.heap_setCell _ _ _ _ hne).trans h1, h2⟩
    have q0 : (k : Int) < (P.length : Int) := by omega
    have q1 : (0 : Int) ≤ (k : Int) := by omega
    have HS := Lib.hid (show W.heap.size ≤ (W1.drew.setCell ⟨w.heap.size, k, none⟩ (.string (pk k))).heap.size by rw [World.size_setCell]; exact Nat.le_trans hsz b1.size)
    clear O B O1 B1 R0 b1 O2 OKk PAk ML hgW hgr hne hsz
    go_wp2_with fail
    try rw [hW1]
    refine wp_region_held_drew (S := (fun wy : World => RowB wy wr.heap.size [Frg.u8 id, Frg.u8 k, Frg.u8 P.length])) (by kernel_rfl) (R1) (fun hHeld => ?_)
    refine wpAnyH_take (i := 0) (v := (.slice (some ⟨w.heap.size, 0, none⟩) P.length P.length)) at_zero (by kernel_rfl) (by kernel_rfl) (by kernel_rfl) (fun _ _ _ h => h) (Or.inl ⟨by kernel_rfl, fun wy hSw => ?_⟩) (by assumption) ?_
    · (try dsimp only at hSw); go_simp
    try simp only [Act.put, List.setIfInBounds_toArray, List.set_cons_zero, List.set_cons_succ]
    refine wpAnyH_take (i := 1) (v := (.int .i64 (k : Int))) (at_succ at_zero) (by kernel_rfl) (by kernel_rfl) (by kernel_rfl) (fun _ _ _ h => h) (Or.inl ⟨by kernel_rfl, fun wy hSw => ?_⟩) (by assumption) ?_
    · (try dsimp only at hSw); go_simp
    try simp only [Act.put, List.setIfInBounds_toArray, List.set_cons_zero, List.set_cons_succ]
    refine wpAnyH_take (i := 2) (v := (.slice (some ⟨wr.heap.size, 0, none⟩) 3 3)) (at_succ (at_succ at_zero)) (by kernel_rfl) (by kernel_rfl) (by kernel_rfl) (fun _ _ _ h => h) (Or.inl ⟨by kernel_rfl, fun wy hSw => ?_⟩) (by assumption) ?_
    · (try dsimp only at hSw); go_simp
    try simp only [Act.put, List.setIfInBounds_toArray, List.set_cons_zero, List.set_cons_succ]
    refine wpAnyH_take (i := 3) (v := (.string (bs [Frg.u8 id, Frg.u8 k, Frg.u8 P.length]))) (at_succ (at_succ (at_succ at_zero))) (by kernel_rfl) (by kernel_rfl) (by kernel_rfl) (fun _ _ _ h => h) (Or.inl ⟨by kernel_rfl, fun wy hSw => ?_⟩) (by assumption) ?_
    · have cv := RowB.back hSw 3 3 rfl; clear hv fr; go_simp
    try simp only [Act.put, List.setIfInBounds_toArray, List.set_cons_zero, List.set_cons_succ]
    refine wpAnyH_take (i := 4) (v := (.string s)) (at_succ (at_succ (at_succ (at_succ at_zero)))) (by kernel_rfl) (by kernel_rfl) (by kernel_rfl) (fun _ _ _ h => h) (Or.inl ⟨by kernel_rfl, fun wy hSw => ?_⟩) (by assumption) ?_
    · (try dsimp only at hSw); go_simp
    try simp only [Act.put, List.setIfInBounds_toArray, List.set_cons_zero, List.set_cons_succ]
    refine wpAnyH_take (i := 5) (v := (.int .i64 (k : Int))) (at_succ (at_succ (at_succ (at_succ (at_succ at_zero))))) (by kernel_rfl) (by kernel_rfl) (by kernel_rfl) (fun _ _ _ h => h) (Or.inl ⟨by kernel_rfl, fun wy hSw => ?_⟩) (by assumption) ?_
    · (try dsimp only at hSw); go_simp
    try simp only [Act.put, List.setIfInBounds_toArray, List.set_cons_zero, List.set_cons_succ]
    refine wpAnyH_ready (rs := [6]) (by kernel_rfl) (by simp) ?_
    refine AllReadyH.cons (at_succ (at_succ (at_succ (at_succ (at_succ (at_succ at_zero)))))) (fun K hK => ?_) AllReadyH.nil
    rw [if_pos (by kernel_rfl)]
    go_simp
    refine (KDk.out _).mono ?_
    rintro _ _ ⟨rfl, rfl⟩
    go_wp2_with fail
    refine hK.out _ _ (R1) (fun hHeld => ?_)
    clear hK K
    try simp only [Act.put, List.setIfInBounds_toArray, List.set_cons_zero, List.set_cons_succ]
    refine wpAnyH_take (i := 7) (v := (.string (pk k))) (at_succ (at_succ (at_succ (at_succ (at_succ (at_succ (at_succ at_zero))))))) (by kernel_rfl) (by kernel_rfl) (by kernel_rfl) (fun _ _ _ h => h) (Or.inl ⟨by kernel_rfl, fun wy hSw => ?_⟩) (by assumption) ?_
    · go_simp; rw [if_neg (by rw [bs_size]; simp only [List.length_cons, List.length_nil]; omega)]; exact congrArg (fun x => Result.ok (Next.value (Value.string x)) wy) PK.out
    try simp only [Act.put, List.setIfInBounds_toArray, List.set_cons_zero, List.set_cons_succ]
    refine wpAnyH_take (i := 8) (v := (.pointer (some ⟨w.heap.size, k, none⟩))) (at_succ (at_succ (at_succ (at_succ (at_succ (at_succ (at_succ (at_succ at_zero)))))))) (by kernel_rfl) (by kernel_rfl) (by kernel_rfl) (fun _ _ _ h => h) (Or.inl ⟨by kernel_rfl, fun wy hSw => ?_⟩) (by assumption) ?_
    · (try dsimp only at hSw); go_simp
    try simp only [Act.put, List.setIfInBounds_toArray, List.set_cons_zero, List.set_cons_succ]
    refine wpAnyH_ready (rs := [9]) (by kernel_rfl) (by simp) ?_
    refine AllReadyH.cons (at_succ (at_succ (at_succ (at_succ (at_succ (at_succ (at_succ (at_succ (at_succ at_zero))))))))) (fun K hK => ?_) AllReadyH.nil
    rw [if_pos (by kernel_rfl)]
    go_simp
    refine hK.out _ _ (R2.out) (fun hHeld => ?_)
    clear hK K
    try simp only [Act.put, List.setIfInBounds_toArray, List.set_cons_zero, List.set_cons_succ]
    refine wpAnyH_done (by kernel_rfl) ?_ _
    go_wp2_with fail
    go_roundw
    case rel => exact ⟨k + 1, by go_num, hlt, O3h, B3.out, HS.out⟩
    case measure => simp [intOf]; omega
end Go.Proofs.Ytljcjflbfjleoaa.Frg
