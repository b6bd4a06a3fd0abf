/- The laws Quietest, Receivers. -/
import Derived.Test.YtcnmknhjmflinaaRdM
import Derived.Test.YtcnmknhjmflinaaTNe
set_option linter.unusedVariables false
namespace Go.Proofs.Ytcnmknhjmflinaa.Rdo
open Go.RowKit
open Tpo (fE EdAt OwnE OwnI OutN OutL ramong_any rsamen_any rsamee_any pnear_any near wout sel)

set_option maxRecDepth 100000 in
set_option maxHeartbeats 4000000 in
theorem law_quietest (w : World) (A : Option Addr) (c : Nat) (l : List Int) (now limit : Int) (hA : FlAt fI w w.heap.size A l) :
    Calls Try.prog 9 #[.slice A l.length c, .int .i64 now, .int .i64 limit] w (OutB w true) := by
  have KW := Lib.hid awake_any
  unfold OutB at KW
  have B0 := Lib.hid (Below.refl w.heap.size w)
  have HA := Lib.hid hA
  clear hA
  by_cases h1 : 100 < l.length
  · have d1 := dt (show (100 : Int) < (l.length : Int) by omega)
    clear h1 HA
    go_enter Try.func9, Try.ntmps9
    go_wp2_with fail
    refine (KW.out _).mono ?_
    rintro _ wz ⟨rfl, hb⟩
    have BZ := Lib.hid (B0.out.trans (hb.mono B0.out.size))
    clear hb
    go_wp2_with fail
    go_ret
    exact outB rfl BZ.out
  have d1 := df (show ¬ (100 : Int) < (l.length : Int) by omega)
  have KP := Lib.hid (pchan_any A c l now limit w (by omega) HA.out)
  unfold OutI at KP
  rcases chan_in l now limit with ⟨he, hc⟩ | ⟨i, hi, hc, hq, hc2⟩
  · rw [hc] at KP
    have d2 : ((l.length : Int) == 0) = true := by rw [he]; rfl
    have d3 : (l.length == 0) = true := by rw [he]; rfl
    clear h1 HA hc he
    go_enter Try.func9, Try.ntmps9
    go_wp2_with fail
    refine KP.out.mono ?_
    rintro _ w2 ⟨rfl, hb⟩
    have B2 := Lib.hid hb
    clear hb KP
    go_wp2_with fail
    refine (KW.out _).mono ?_
    rintro _ wz ⟨rfl, hb⟩
    have BZ := Lib.hid (B2.out.trans (hb.mono B2.out.size))
    clear hb
    go_wp2_with fail
    go_ret
    exact outB rfl BZ.out
  rw [hc] at KP
  have KI := Lib.hid (fun w (h : FlAt fI w w.heap.size A l) => show Calls Try.prog 17 #[.slice A l.length c, .int .i64 (i : Int), .int .i64 limit] w (OutI w (i : Int)) from by have := pchan_any A c l i limit w (by omega) h; rw [hc2] at this; exact this)
  unfold OutI at KI
  have d2 : ((l.length : Int) == 0) = false := by simp; intro q; rw [q] at hi; simp at hi
  have d3 : (l.length == 0) = false := by simp; intro q; rw [q] at hi; simp at hi
  have d4 := df (show ¬ (i : Int) < 0 by omega)
  have d5 := df (show ¬ (l.length : Int) ≤ (i : Int) by omega)
  have d6 := df (show ¬ l.length ≤ i by omega)
  have ei : ∀ j (hj : j < l.length), l.getD j 0 = l[j] := fun j hj => by rw [List.getD_eq_getElem?_getD, List.getElem?_eq_getElem hj]; rfl
  rw [ei i hi] at hq
  have HQ := Lib.hid (show limit < l[i] → ∀ j (hj : j < l.length), l[i] ≤ l[j] from fun q j hj => by
    rcases hq with r | r
    · omega
    · rw [← ei j hj]; exact r j hj)
  have hL : l.length ≤ 100 := by omega
  clear h1 hc hc2 hq ei
  go_enter Try.func9, Try.ntmps9
  go_wp2_with fail
  refine KP.out.mono ?_
  rintro _ w2 ⟨rfl, hb⟩
  have B2 := Lib.hid hb
  have HA2 := Lib.hid (HA.out.next hb)
  clear hb KP
  obtain ⟨b, p, rfl, _, g0, _⟩ := fI_cell HA2.out i hi
  obtain ⟨x0, hx⟩ : ∃ x, l[i] = x := ⟨_, rfl⟩
  rw [hx] at g0 HQ
  clear hx
  by_cases hl : limit < x0
  · have HQ := Lib.hid (HQ.out hl)
    have d7 := dt hl
    clear hl
    go_wp2_with fail
    clear d1 d2 d3 d4 d5 d6 d7
    go_loop [42] (fun vk => ∃ k : Nat, vk = .int .i64 k ∧ k ≤ l.length) (fun vk => l.length - (intOf vk).toNat)
    case atStart => exact ⟨0, rfl, Nat.zero_le _⟩
    case round =>
      obtain ⟨k, rfl, hk⟩ := hrel
      by_cases hlt : k < l.length
      · obtain ⟨b', p', e1, _, g1, _⟩ := fI_cell HA2.out k hlt
        simp only [Option.some.injEq, Addr.mk.injEq, and_true] at e1
        obtain ⟨rfl, rfl⟩ := e1
        have q := HQ.out k hlt
        generalize l[k] = x1 at *
        have d8 := df (show ¬ x1 < x0 by omega)
        clear q
        go_wp2_with fail
        go_round
        case rel => exact ⟨k + 1, by go_num, hlt⟩
        case measure => simp [intOf]; omega
      · clear g0
        go_wp2_with fail
        refine (KI.out _ (HA.out.next B2.out)).mono ?_
        rintro _ w3 ⟨rfl, hb⟩
        have B3 := Lib.hid (B2.out.trans (hb.mono B2.out.size))
        clear hb
        go_wp2_with fail
        refine (KW.out _).mono ?_
        rintro _ wz ⟨rfl, hb⟩
        have BZ := Lib.hid (B3.out.trans (hb.mono B3.out.size))
        clear hb
        go_wp2_with fail
        go_ret
        exact outB rfl BZ.out
  · have d7 := df hl
    clear hl HQ
    go_wp2_with fail
    clear d1 d2 d3 d4 d5 d6 d7 g0
    refine (KI.out _ (HA.out.next B2.out)).mono ?_
    rintro _ w3 ⟨rfl, hb⟩
    have B3 := Lib.hid (B2.out.trans (hb.mono B2.out.size))
    clear hb
    go_wp2_with fail
    refine (KW.out _).mono ?_
    rintro _ wz ⟨rfl, hb⟩
    have BZ := Lib.hid (B3.out.trans (hb.mono B3.out.size))
    clear hb
    go_wp2_with fail
    go_ret
    exact outB rfl BZ.out

set_option maxRecDepth 100000 in
set_option maxHeartbeats 8000000 in
theorem law_receivers (x : Hd) (a : Ar) (fk ff ft fs fg fq fh : Int) (fu : Bool) (fd : ByteArray) (w : World) (h : AirS w x a) :
    Calls Try.prog 7 #[airV x a, frmV fk ff ft fs fg fq fh fu fd] w (OutB w true) := by
  have KW := Lib.hid awake_any
  have KF := Lib.hid (fun w => few_any x a w)
  have KC := Lib.hid (fun (hf : Few a) w (h : AirS w x a) => pcheck_any x a w (few_fit hf) h)
  have KD := Lib.hid (fun (hf : Few a) w (h : AirS w x a) => pdel_any x a fk ff ft fs fg fq fh fu fd w (few_fit hf) h)
  have KU := Lib.hid (fun (hf : Few a) w (h : AirS w x a) => pup_any x a w (few_fit hf) h)
  have KN := Lib.hid (fun (hf : Few a) A1 c1 w => pnear_any A1 c1 (up a) ff w (by have := (sane_fit (few_fit hf)).1; have h2 := Tpo.wout_len (sane a).e (sane a).o; unfold up; omega))
  have DL := del_len a ff ft
  have NL : (near (up a) ff).length ≤ 251 := near_len _ _
  have DG := Lib.hid (fun (h0 : achk a = 0) => del_good h0 ff ft)
  have K3 := Lib.hid (fun (hf : Few a) (v : Int) w => ramong_any x.A3 x.c3 a.n v w (by have := hf.2.2; omega))
  unfold OutB at KW
  unfold OutI at KC
  unfold DelR at KD
  unfold EdR at KU
  unfold OutN at KN
  generalize del a ff ft = D at *
  generalize near (up a) ff = NR at *
  generalize up a = U at *
  generalize achk a = r at *
  generalize hFW : Few a = FW at *
  clear hFW
  obtain ⟨D, db⟩ := D
  simp only at DL
  dsimp only at KD DG
  have b1 := alloc_below w (airO x a)
  have b2 := alloc_below (w.alloc (airO x a)) (.cells #[.int .i64 fk, .int .i64 ff, .int .i64 ft, .int .i64 fs, .int .i64 fg, .int .i64 fq, .int .i64 fh, .bool fu, .string fd] 31)
  have B1 := Lib.hid (b1.trans (b2.mono (by simp)))
  have H0 := Lib.hid (fun w' (hb : Below w.heap.size w w') => h.next hb)
  clear h b1 b2
  have X1 := blk_alloc (blk_new w (airO x a)) (.cells #[.int .i64 fk, .int .i64 ff, .int .i64 ft, .int .i64 fs, .int .i64 fg, .int .i64 fq, .int .i64 fh, .bool fu, .string fd] 31)
  have Y1 : ((w.alloc (airO x a)).alloc (.cells #[.int .i64 fk, .int .i64 ff, .int .i64 ft, .int .i64 fs, .int .i64 fg, .int .i64 fq, .int .i64 fh, .bool fu, .string fd] 31)).heap[w.heap.size + 1]? = some (.cells #[.int .i64 fk, .int .i64 ff, .int .i64 ft, .int .i64 fs, .int .i64 fg, .int .i64 fq, .int .i64 fh, .bool fu, .string fd] 31) := by have := blk_new (w.alloc (airO x a)) (.cells #[.int .i64 fk, .int .i64 ff, .int .i64 ft, .int .i64 fs, .int .i64 fg, .int .i64 fq, .int .i64 fh, .bool fu, .string fd] 31); simpa using this
  have hz1 : w.heap.size + 2 ≤ ((w.alloc (airO x a)).alloc (.cells #[.int .i64 fk, .int .i64 ff, .int .i64 ft, .int .i64 fs, .int .i64 fg, .int .i64 fq, .int .i64 fh, .bool fu, .string fd] 31)).heap.size := by simp
  obtain ⟨A1, c1, A2, c2, A3, c3⟩ := x
  obtain ⟨E, O, N⟩ := a
  dsimp only [airV, airO] at *
  go_enter Try.func7, Try.ntmps7
  go_wp2_with fail
  refine (KF.out _).mono ?_
  rintro _ w2 ⟨b, rfl, hf, hb⟩
  have X1 := Lib.hid X1
  have Y1 := Lib.hid Y1
  have B2 := Lib.hid (B1.out.trans (hb.mono B1.out.size))
  have X2 := Lib.hid (blk_below X1.out hb (by omega))
  have Y2 := Lib.hid (blk_below Y1.out hb (by omega))
  have hz2 := Nat.le_trans hz1 hb.size
  clear hb X1 Y1 hz1 KF B1
  cases b with
  | false =>
    clear X2 Y2
    go_wp2_with fail
    refine (KW.out _).mono ?_
    rintro _ wz ⟨rfl, hb⟩
    have BZ := Lib.hid (B2.out.trans (hb.mono B2.out.size))
    clear hb
    go_wp2_with fail
    go_ret
    exact outB rfl BZ.out
  | true =>
    have hf := hf rfl
    have KC := Lib.hid (KC.out hf)
    have KD := Lib.hid (KD.out hf)
    have KU := Lib.hid (KU.out hf)
    have KN := Lib.hid (KN.out hf)
    have K3 := Lib.hid (K3.out hf)
    clear hf
    obtain ⟨q0, q1, q2⟩ := air_block X2.out
    go_wp2_with fail
    refine (KC.out _ (H0.out _ B2.out)).mono ?_
    rintro _ w3 ⟨rfl, hb⟩
    have B3 := Lib.hid (B2.out.trans (hb.mono B2.out.size))
    have X3 := Lib.hid (blk_below X2.out hb (by omega))
    have Y3 := Lib.hid (blk_below Y2.out hb (by omega))
    have hz3 := Nat.le_trans hz2 hb.size
    clear hb X2 Y2 hz2 KC B2 q0 q1 q2
    by_cases h0 : r = 0
    rotate_left
    · have d0 : (r != 0) = true := by simpa using h0
      clear X3 Y3
      go_wp2_with fail
      refine (KW.out _).mono ?_
      rintro _ wz ⟨rfl, hb⟩
      have BZ := Lib.hid (B3.out.trans (hb.mono B3.out.size))
      clear hb
      go_wp2_with fail
      go_ret
      exact outB rfl BZ.out
    subst h0
    obtain ⟨g1, g2, g3⟩ := DG.out rfl
    have DA := Lib.hid (fun j k (hj : j < D.length) (hk : k < D.length) (hjk : j < k) => (show D[j] < D[k] from List.pairwise_iff_getElem.1 g1 j k hj hk hjk))
    have DM := Lib.hid (fun j (hj : j < D.length) => g2 _ (List.getElem_mem hj))
    have DT := Lib.hid g3
    clear g1 g2 g3 DG
    obtain ⟨q0, q1, q2⟩ := air_block X3.out
    obtain ⟨m0, m1, m2, m3, m4, m5, m6, m7, m8⟩ := frm_block Y3.out
    go_wp2_with fail
    refine (KD.out _ (H0.out _ B3.out)).mono ?_
    rintro _ w4 ⟨A5, c5, rfl, h5, hb⟩
    have B4 := Lib.hid (B3.out.trans (hb.mono B3.out.size))
    have X4 := Lib.hid (blk_below X3.out hb (by omega))
    have Y4 := Lib.hid (blk_below Y3.out hb (by omega))
    have hz4 := Nat.le_trans hz3 hb.size
    have S5 := Lib.hid h5
    clear hb h5 X3 Y3 hz3 KD B3 q0 q1 q2 m0 m1 m2 m3 m4 m5 m6 m7 m8
    have HA := Lib.hid (H0.out _ B4.out)
    have HC := Lib.hid (show ∀ wy, Below w4.heap.size w4 wy → wy.cell? ⟨w.heap.size, 0, none⟩ = some (.slice A1 E.length c1) ∧ wy.cell? ⟨w.heap.size, 1, none⟩ = some (.slice A2 O.length c2) ∧ wy.cell? ⟨w.heap.size, 2, none⟩ = some (.slice A3 N.length c3) ∧ wy.cell? ⟨w.heap.size + 1, 0, none⟩ = some (.int .i64 fk) ∧ wy.cell? ⟨w.heap.size + 1, 1, none⟩ = some (.int .i64 ff) ∧ wy.cell? ⟨w.heap.size + 1, 2, none⟩ = some (.int .i64 ft) ∧ wy.cell? ⟨w.heap.size + 1, 3, none⟩ = some (.int .i64 fs) ∧ wy.cell? ⟨w.heap.size + 1, 4, none⟩ = some (.int .i64 fg) ∧ wy.cell? ⟨w.heap.size + 1, 5, none⟩ = some (.int .i64 fq) ∧ wy.cell? ⟨w.heap.size + 1, 6, none⟩ = some (.int .i64 fh) ∧ wy.cell? ⟨w.heap.size + 1, 7, none⟩ = some (.bool fu) ∧ wy.cell? ⟨w.heap.size + 1, 8, none⟩ = some (.string fd) from fun wy hb => by
      obtain ⟨a0, a1, a2⟩ := air_block (blk_below X4.out hb (by omega))
      obtain ⟨m0, m1, m2, m3, m4, m5, m6, m7, m8⟩ := frm_block (blk_below Y4.out hb (by omega))
      exact ⟨a0, a1, a2, m0, m1, m2, m3, m4, m5, m6, m7, m8⟩)
    have Z0 : Below w4.heap.size w4 w4.drew := below_drewN (Below.refl _ _) 1
    go_wp2_with fail
    refine wp_region_held_drew (S := (fun wy : World => wy.cell? ⟨w.heap.size, 0, none⟩ = some (.slice A1 E.length c1) ∧ wy.cell? ⟨w.heap.size, 1, none⟩ = some (.slice A2 O.length c2) ∧ wy.cell? ⟨w.heap.size, 2, none⟩ = some (.slice A3 N.length c3) ∧ wy.cell? ⟨w.heap.size + 1, 0, none⟩ = some (.int .i64 fk) ∧ wy.cell? ⟨w.heap.size + 1, 1, none⟩ = some (.int .i64 ff) ∧ wy.cell? ⟨w.heap.size + 1, 2, none⟩ = some (.int .i64 ft) ∧ wy.cell? ⟨w.heap.size + 1, 3, none⟩ = some (.int .i64 fs) ∧ wy.cell? ⟨w.heap.size + 1, 4, none⟩ = some (.int .i64 fg) ∧ wy.cell? ⟨w.heap.size + 1, 5, none⟩ = some (.int .i64 fq) ∧ wy.cell? ⟨w.heap.size + 1, 6, none⟩ = some (.int .i64 fh) ∧ wy.cell? ⟨w.heap.size + 1, 7, none⟩ = some (.bool fu) ∧ wy.cell? ⟨w.heap.size + 1, 8, none⟩ = some (.string fd))) (by kernel_rfl) (HC.out _ Z0) (fun hHeld => ?_)
    refine wpAnyH_take (i := 0) (v := (.agg #[.slice A1 E.length c1, .slice A2 O.length c2, .slice A3 N.length c3])) at_zero (by kernel_rfl) (by kernel_rfl) (by kernel_rfl) (fun _ _ _ h => h) (Or.inl ⟨by kernel_rfl, fun wy hSw => ?_⟩) (by assumption) ?_
    · (try dsimp only at hSw); go_simp
    try simp only [Act.put, List.setIfInBounds_toArray, List.set_cons_zero, List.set_cons_succ]
    refine wpAnyH_take (i := 2) (v := (.pointer (some ⟨w.heap.size + 1, 1, none⟩))) (at_succ (at_succ at_zero)) (by kernel_rfl) (by kernel_rfl) (by kernel_rfl) (fun _ _ _ h => h) (Or.inl ⟨by kernel_rfl, fun wy hSw => ?_⟩) (by assumption) ?_
    · (try dsimp only at hSw); go_simp
    try simp only [Act.put, List.setIfInBounds_toArray, List.set_cons_zero, List.set_cons_succ]
    refine wpAnyH_take (i := 3) (v := (.int .i64 ff)) (at_succ (at_succ (at_succ at_zero))) (by kernel_rfl) (by kernel_rfl) (by kernel_rfl) (fun _ _ _ h => h) (Or.inl ⟨by kernel_rfl, fun wy hSw => ?_⟩) (by assumption) ?_
    · (try dsimp only at hSw); go_simp
    try simp only [Act.put, List.setIfInBounds_toArray, List.set_cons_zero, List.set_cons_succ]
    refine wpAnyH_ready (rs := [1]) (by kernel_rfl) (by simp) ?_
    refine AllReadyH.cons (at_succ at_zero) (fun K hK => ?_) AllReadyH.nil
    rw [if_pos (by kernel_rfl)]
    go_simp
    refine (KU.out _ (HA.out.next Z0)).mono ?_
    rintro _ wz ⟨D6, e6, rfl, hu, hb⟩
    have S5 := Lib.hid (S5.out.next (Z0.trans (hb.mono Z0.size)))
    have U6 := Lib.hid hu
    clear hu
    have Z1 := Z0.trans (hb.mono Z0.size)
    clear hb hHeld
    go_wp2_with fail
    refine hK.out _ _ (HC.out _ Z1) (fun hHeld => ?_)
    clear hK K
    try simp only [Act.put, List.setIfInBounds_toArray, List.set_cons_zero, List.set_cons_succ]
    refine wpAnyH_ready (rs := [4]) (by kernel_rfl) (by simp) ?_
    refine AllReadyH.cons (at_succ (at_succ (at_succ (at_succ at_zero)))) (fun K hK => ?_) AllReadyH.nil
    rw [if_pos (by kernel_rfl)]
    go_simp
    refine (KN.out D6 e6 _ U6.out.1).mono ?_
    rintro _ wz2 ⟨v7, rfl, ho, hb⟩
    obtain ⟨D7, e7, rfl, hn⟩ := ho.slS
    have S5 := Lib.hid (S5.out.next hb)
    have N7 := Lib.hid hn
    clear hn ho
    have Z2 := Z1.trans (hb.mono Z1.size)
    clear hb hHeld
    go_wp2_with fail
    refine hK.out _ _ (HC.out _ Z2) (fun hHeld => ?_)
    clear hK K
    try simp only [Act.put, List.setIfInBounds_toArray, List.set_cons_zero, List.set_cons_succ]
    refine wpAnyH_take (i := 5) (v := (.slice D7 NR.length e7)) (at_succ (at_succ (at_succ (at_succ (at_succ at_zero))))) (by kernel_rfl) (by kernel_rfl) (by kernel_rfl) (fun _ _ _ h => h) (Or.inl ⟨by kernel_rfl, fun wy hSw => ?_⟩) (by assumption) ?_
    · (try dsimp only at hSw); go_simp
    try simp only [Act.put, List.setIfInBounds_toArray, List.set_cons_zero, List.set_cons_succ]
    refine wpAnyH_done (by kernel_rfl) ?_ _
    have hb := Z2
    obtain ⟨w5, hw5⟩ : ∃ w5, w5 = wz2 := ⟨_, rfl⟩
    subst hw5
    have B5 := Lib.hid (B4.out.trans (hb.mono B4.out.size))
    have X5 := Lib.hid (blk_below X4.out hb (by omega))
    have Y5 := Lib.hid (blk_below Y4.out hb (by omega))
    have hz5 := Nat.le_trans hz4 hb.size
    clear hb X4 Y4 B4 HC KU KN
    go_wp2_with fail
    go_loopw [8, 33] (fun vo vk wr => ∃ (k : Nat) (lst : Int), vk = .int .i64 k ∧ k ≤ D.length ∧ vo = .int .i64 lst ∧ Hid (∀ j (hj : j < D.length), k ≤ j → lst < D[j]) ∧ wr = w5) (fun _ vk _ => D.length - (intOf vk).toNat)
    case atStart => exact ⟨0, -1, rfl, Nat.zero_le _, rfl, Lib.hid fun j hj _ => (by have := (DM.out j hj).1; unfold Tpo.Nd at this; omega), rfl⟩
    case round =>
      obtain ⟨k, lst, rfl, hk, rfl, HL, rfl⟩ := hrel
      obtain ⟨_, _, q2⟩ := air_block X5.out
      have m2 := blk_cell Y5.out 2 (v := .int .i64 ft) rfl
      by_cases hlt : k < D.length
      · obtain ⟨nb, np, rfl, _, g0, hI⟩ := fI_cell S5.out.1 k hlt
        have l1 := HL.out k hlt (Nat.le_refl _)
        obtain ⟨_, i2, i3, i4⟩ := DM.out k hlt
        have NX := Lib.hid (show ∀ j (hj : j < D.length), k + 1 ≤ j → D[k] < D[j] from fun j hj h => DA.out k j hlt hj (by omega))
        generalize D[k] = x0 at *
        have d1 := df (show ¬ x0 ≤ lst by omega)
        have KNr := Lib.hid (ramong_any D7 e7 NR x0 wr (by omega) N7.out.1)
        have K3r := Lib.hid (K3.out x0 wr (H0.out _ B5.out).2.2.1)
        rw [dt i2] at KNr
        rw [df i3] at K3r
        clear l1 i2 i3
        by_cases h255 : ft = 255
        · have d2 : (ft != 255) = false := by simpa using h255
          clear i4 h255
          go_wp2_with fail
          refine KNr.out.mono ?_
          rintro _ _ ⟨rfl, rfl⟩
          go_wp2_with fail
          refine K3r.out.mono ?_
          rintro _ _ ⟨rfl, rfl⟩
          go_wp2_with fail
          go_roundw
          case rel => exact ⟨k + 1, x0, by go_num, hlt, rfl, NX, by first | trivial | rfl⟩
          case measure => simp [intOf]; omega
        · have d2 : (ft != 255) = true := by simpa using h255
          have d3 : (x0 != ft) = false := by simpa using (i4.resolve_left h255)
          clear i4 h255
          go_wp2_with fail
          refine KNr.out.mono ?_
          rintro _ _ ⟨rfl, rfl⟩
          go_wp2_with fail
          refine K3r.out.mono ?_
          rintro _ _ ⟨rfl, rfl⟩
          go_wp2_with fail
          go_roundw
          case rel => exact ⟨k + 1, x0, by go_num, hlt, rfl, NX, by first | trivial | rfl⟩
          case measure => simp [intOf]; omega
      · clear q2 HL
        have KDr := Lib.hid (ramong_any A5 c5 D ft wr (by omega) S5.out.1)
        cases db with
        | false =>
          clear KDr m2
          go_wp2_with fail
          refine (KW.out _).mono ?_
          rintro _ wz ⟨rfl, hb⟩
          have BZ := Lib.hid (B5.out.trans (hb.mono B5.out.size))
          clear hb
          go_wp2_with fail
          go_ret
          exact outB rfl BZ.out
        | true =>
          by_cases h255 : ft = 255
          · have d2 : (ft != 255) = false := by simpa using h255
            clear KDr h255
            go_wp2_with fail
            refine (KW.out _).mono ?_
            rintro _ wz ⟨rfl, hb⟩
            have BZ := Lib.hid (B5.out.trans (hb.mono B5.out.size))
            clear hb
            go_wp2_with fail
            go_ret
            exact outB rfl BZ.out
          · have d2 : (ft != 255) = true := by simpa using h255
            rw [dt (DT.out rfl h255)] at KDr
            clear h255
            go_wp2_with fail
            refine KDr.out.mono ?_
            rintro _ _ ⟨rfl, rfl⟩
            go_wp2_with fail
            refine (KW.out _).mono ?_
            rintro _ wz ⟨rfl, hb⟩
            have BZ := Lib.hid (B5.out.trans (hb.mono B5.out.size))
            clear hb
            go_wp2_with fail
            go_ret
            exact outB rfl BZ.out
end Go.Proofs.Ytcnmknhjmflinaa.Rdo
