/- The laws Checks, Delivers, Channels, Jams. -/
import Derived.Test.YtcnmknhjmflinaaRdL
import Derived.Deep.RegionHeld3
set_option linter.unusedVariables false
namespace Go.Proofs.Ytcnmknhjmflinaa.Rdo
open Go.RowKit
open Tpo (fE EdAt OwnE OwnI OutN OutL ramong_any rsamen_any rsamee_any near wout sel)

theorem few_fit {a : Ar} (h : Few a) : Fit a := ⟨by have := h.1; omega, by have := h.2.1; omega, by have := h.2.2; omega⟩
theorem jam_fit {a : Ar} (h : Fit a) (l : List Int) : Fit (jam a l) := by
  obtain ⟨h1, h2, h3⟩ := sane_fit h
  exact ⟨h1, h2, Nat.le_trans (nsy_len _ _) (by decide)⟩
theorem clr_fit {a : Ar} (h : Fit a) : Fit (clr a) := by
  obtain ⟨h1, h2, h3⟩ := sane_fit h
  exact ⟨h1, h2, Nat.zero_le _⟩
/-- The nine cells of a frame's block. -/
theorem frm_block {w : World} {b : Nat} {T : TypeId} {v0 v1 v2 v3 v4 v5 v6 v7 v8 : Value} (h : w.heap[b]? = some (.cells #[v0, v1, v2, v3, v4, v5, v6, v7, v8] T (0, 0))) : w.cell? ⟨b, 0, none⟩ = some v0 ∧ w.cell? ⟨b, 1, none⟩ = some v1 ∧ w.cell? ⟨b, 2, none⟩ = some v2 ∧ w.cell? ⟨b, 3, none⟩ = some v3 ∧ w.cell? ⟨b, 4, none⟩ = some v4 ∧ w.cell? ⟨b, 5, none⟩ = some v5 ∧ w.cell? ⟨b, 6, none⟩ = some v6 ∧ w.cell? ⟨b, 7, none⟩ = some v7 ∧ w.cell? ⟨b, 8, none⟩ = some v8 :=
  ⟨blk_cell h 0 rfl, blk_cell h 1 rfl, blk_cell h 2 rfl, blk_cell h 3 rfl, blk_cell h 4 rfl, blk_cell h 5 rfl, blk_cell h 6 rfl, blk_cell h 7 rfl, blk_cell h 8 rfl⟩

set_option maxRecDepth 100000 in
set_option maxHeartbeats 4000000 in
theorem law_checks (x : Hd) (a : Ar) (w : World) (h : AirS w x a) : Calls Try.prog 3 #[airV x a] w (OutB w true) := by
  have KW := Lib.hid awake_any
  unfold OutB at KW
  have KP := Lib.hid (fun (hf : Fit a) w => pcheck_any x a w hf)
  have KR := Lib.hid (fun (hf : Fit a) w => rcheck_any x a w hf)
  unfold OutI at KP KR
  generalize hr : achk a = r at *
  clear hr
  obtain ⟨A1, c1, A2, c2, A3, c3⟩ := x
  obtain ⟨E, O, N⟩ := a
  dsimp only [airV] at KP KR ⊢
  have B1 := Lib.hid (alloc_below w (.cells #[.slice A1 E.length c1, .slice A2 O.length c2, .slice A3 N.length c3] 25))
  have HA := Lib.hid (h.next B1.out)
  clear h
  by_cases h1 : 300 < E.length
  · have d1 := dt (show (300 : Int) < (E.length : Int) by omega)
    clear h1 HA
    go_enter Try.func3, Try.ntmps3
    go_wp2_with fail
    refine (KW.out _).mono ?_
    rintro _ wz ⟨rfl, hb⟩
    have BZ := Lib.hid (B1.out.trans (hb.mono B1.out.size))
    clear hb
    go_wp2_with fail
    go_ret
    exact outB rfl BZ.out
  have d1 := df (show ¬ (300 : Int) < (E.length : Int) by omega)
  by_cases h2 : 40 < O.length
  · have d2 := dt (show (40 : Int) < (O.length : Int) by omega)
    clear h1 h2 HA
    go_enter Try.func3, Try.ntmps3
    go_wp2_with fail
    refine (KW.out _).mono ?_
    rintro _ wz ⟨rfl, hb⟩
    have BZ := Lib.hid (B1.out.trans (hb.mono B1.out.size))
    clear hb
    go_wp2_with fail
    go_ret
    exact outB rfl BZ.out
  have d2 := df (show ¬ (40 : Int) < (O.length : Int) by omega)
  by_cases h3 : 40 < N.length
  · have d3 := dt (show (40 : Int) < (N.length : Int) by omega)
    clear h1 h2 h3 HA
    go_enter Try.func3, Try.ntmps3
    go_wp2_with fail
    refine (KW.out _).mono ?_
    rintro _ wz ⟨rfl, hb⟩
    have BZ := Lib.hid (B1.out.trans (hb.mono B1.out.size))
    clear hb
    go_wp2_with fail
    go_ret
    exact outB rfl BZ.out
  have d3 := df (show ¬ (40 : Int) < (N.length : Int) by omega)
  have KP := Lib.hid (KP.out ⟨by show E.length ≤ 100000; omega, by show O.length ≤ 100000; omega, by show N.length ≤ 100000; omega⟩)
  have KR := Lib.hid (KR.out ⟨by show E.length ≤ 100000; omega, by show O.length ≤ 100000; omega, by show N.length ≤ 100000; omega⟩)
  clear h1 h2 h3
  have HC := Lib.hid (show ∀ wy, Below (w.alloc (.cells #[.slice A1 E.length c1, .slice A2 O.length c2, .slice A3 N.length c3] 25)).heap.size (w.alloc (.cells #[.slice A1 E.length c1, .slice A2 O.length c2, .slice A3 N.length c3] 25)) wy → wy.cell? ⟨w.heap.size, 0, none⟩ = some (.slice A1 E.length c1) ∧ wy.cell? ⟨w.heap.size, 1, none⟩ = some (.slice A2 O.length c2) ∧ wy.cell? ⟨w.heap.size, 2, none⟩ = some (.slice A3 N.length c3) from fun wy hb => by
    exact air_block (blk_below (blk_new w (.cells #[.slice A1 E.length c1, .slice A2 O.length c2, .slice A3 N.length c3] 25)) hb (by simp)))
  have Z0 : Below (w.alloc (.cells #[.slice A1 E.length c1, .slice A2 O.length c2, .slice A3 N.length c3] 25)).heap.size (w.alloc (.cells #[.slice A1 E.length c1, .slice A2 O.length c2, .slice A3 N.length c3] 25)) (w.alloc (.cells #[.slice A1 E.length c1, .slice A2 O.length c2, .slice A3 N.length c3] 25)).drew := below_drewN (Below.refl _ _) 1
  go_enter Try.func3, Try.ntmps3
  go_wp2_with fail
  clear d1 d2 d3
  refine wp_region_held_drew (S := (fun wy : World => wy.cell? ⟨w.heap.size, 0, none⟩ = some (.slice A1 E.length c1) ∧ wy.cell? ⟨w.heap.size, 1, none⟩ = some (.slice A2 O.length c2) ∧ wy.cell? ⟨w.heap.size, 2, none⟩ = some (.slice A3 N.length c3))) (by kernel_rfl) (HC.out _ Z0) (fun hHeld => ?_)
  refine wpAnyH_take (i := 0) (v := (.agg #[.slice A1 E.length c1, .slice A2 O.length c2, .slice A3 N.length c3])) at_zero (by kernel_rfl) (by kernel_rfl) (by kernel_rfl) (fun _ _ _ h => h) (Or.inl ⟨by kernel_rfl, fun wy hSw => ?_⟩) (by assumption) ?_
  · (try dsimp only at hSw); go_simp
  try simp only [Act.put, List.setIfInBounds_toArray, List.set_cons_zero, List.set_cons_succ]
  refine wpAnyH_take (i := 2) (v := (.agg #[.slice A1 E.length c1, .slice A2 O.length c2, .slice A3 N.length c3])) (at_succ (at_succ at_zero)) (by kernel_rfl) (by kernel_rfl) (by kernel_rfl) (fun _ _ _ h => h) (Or.inl ⟨by kernel_rfl, fun wy hSw => ?_⟩) (by assumption) ?_
  · (try dsimp only at hSw); go_simp
  try simp only [Act.put, List.setIfInBounds_toArray, List.set_cons_zero, List.set_cons_succ]
  refine wpAnyH_ready (rs := [1]) (by kernel_rfl) (by simp) ?_
  refine AllReadyH.cons (at_succ at_zero) (fun K hK => ?_) AllReadyH.nil
  rw [if_pos (by kernel_rfl)]
  go_simp
  refine (KP.out _ (HA.out.next Z0)).mono ?_
  rintro _ wz ⟨rfl, hb⟩
  have Z1 := Z0.trans (hb.mono Z0.size)
  clear hb hHeld
  go_wp2_with fail
  refine hK.out _ _ (HC.out _ Z1) (fun hHeld => ?_)
  clear hK K
  try simp only [Act.put, List.setIfInBounds_toArray, List.set_cons_zero, List.set_cons_succ]
  refine wpAnyH_ready (rs := [3]) (by kernel_rfl) (by simp) ?_
  refine AllReadyH.cons (at_succ (at_succ (at_succ at_zero))) (fun K hK => ?_) AllReadyH.nil
  rw [if_pos (by kernel_rfl)]
  go_simp
  refine (KR.out _ (HA.out.next Z1)).mono ?_
  rintro _ wz ⟨rfl, hb⟩
  have Z2 := Z1.trans (hb.mono Z1.size)
  clear hb hHeld
  go_wp2_with fail
  refine hK.out _ _ (HC.out _ Z2) (fun hHeld => ?_)
  clear hK K
  try simp only [Act.put, List.setIfInBounds_toArray, List.set_cons_zero, List.set_cons_succ]
  refine wpAnyH_take (i := 4) (v := (.bool true)) (at_succ (at_succ (at_succ (at_succ at_zero)))) (by kernel_rfl) (by kernel_rfl) (by kernel_rfl) (fun _ _ _ h => h) (Or.inl ⟨by kernel_rfl, fun wy hSw => ?_⟩) (by assumption) ?_
  · (try dsimp only at hSw); go_simp
  try simp only [Act.put, List.setIfInBounds_toArray, List.set_cons_zero, List.set_cons_succ]
  refine wpAnyH_take (i := 5) (v := (.bool true)) (at_succ (at_succ (at_succ (at_succ (at_succ at_zero))))) (by kernel_rfl) (by kernel_rfl) (by kernel_rfl) (fun _ _ _ h => h) (Or.inl ⟨by kernel_rfl, fun wy hSw => ?_⟩) (by assumption) ?_
  · (try dsimp only at hSw); go_simp
  try simp only [Act.put, List.setIfInBounds_toArray, List.set_cons_zero, List.set_cons_succ]
  refine wpAnyH_ready (rs := [6]) (by kernel_rfl) (by simp) ?_
  refine AllReadyH.cons (at_succ (at_succ (at_succ (at_succ (at_succ (at_succ at_zero)))))) (fun K hK => ?_) AllReadyH.nil
  rw [if_pos (by kernel_rfl)]
  go_simp
  refine (KW.out _).mono ?_
  rintro _ wz ⟨rfl, hb⟩
  have Z3 := Z2.trans (hb.mono Z2.size)
  clear hb hHeld
  go_wp2_with fail
  refine hK.out _ _ (HC.out _ Z3) (fun hHeld => ?_)
  clear hK K
  try simp only [Act.put, List.setIfInBounds_toArray, List.set_cons_zero, List.set_cons_succ]
  refine wpAnyH_take (i := 7) (v := (.bool true)) (at_succ (at_succ (at_succ (at_succ (at_succ (at_succ (at_succ at_zero))))))) (by kernel_rfl) (by kernel_rfl) (by kernel_rfl) (fun _ _ _ h => h) (Or.inl ⟨by kernel_rfl, fun wy hSw => ?_⟩) (by assumption) ?_
  · (try dsimp only at hSw); go_simp
  try simp only [Act.put, List.setIfInBounds_toArray, List.set_cons_zero, List.set_cons_succ]
  refine wpAnyH_take (i := 8) (v := (.bool true)) (at_succ (at_succ (at_succ (at_succ (at_succ (at_succ (at_succ (at_succ at_zero)))))))) (by kernel_rfl) (by kernel_rfl) (by kernel_rfl) (fun _ _ _ h => h) (Or.inl ⟨by kernel_rfl, fun wy hSw => ?_⟩) (by assumption) ?_
  · (try dsimp only at hSw); go_simp
  try simp only [Act.put, List.setIfInBounds_toArray, List.set_cons_zero, List.set_cons_succ]
  refine wpAnyH_done (by kernel_rfl) ?_ _
  go_wp2_with fail
  go_ret
  exact outB rfl (B1.out.trans (Z3.mono B1.out.size))

set_option maxRecDepth 100000 in
set_option maxHeartbeats 4000000 in
theorem law_delivers (x : Hd) (a : Ar) (fk ff ft fs fg fq fh : Int) (fu : Bool) (fd : ByteArray) (w : World) (h : AirS w x a) :
    Calls Try.prog 4 #[airV x a, frmV fk ff ft fs fg fq fh fu fd] w (OutB w true) := by
  have KW := Lib.hid awake_any
  have KF := Lib.hid (fun w => few_any x a w)
  have KP := Lib.hid (fun (hf : Fit a) w => pdel_any x a fk ff ft fs fg fq fh fu fd w hf)
  have KR := Lib.hid (fun (hf : Fit a) w => rdel_any x a fk ff ft fs fg fq fh fu fd w hf)
  have DL := del_len a ff ft
  have FF := Lib.hid (fun (h : Few a) => few_fit h)
  unfold OutB at KW
  unfold DelR at KP KR
  generalize del a ff ft = D at *
  generalize Few a = FW at *
  obtain ⟨D, db⟩ := D
  simp only at DL
  dsimp only at KP KR
  have b1 := alloc_below w (airO x a)
  have b2 := alloc_below (w.alloc (airO x a)) (.cells #[.int .i64 fk, .int .i64 ff, .int .i64 ft, .int .i64 fs, .int .i64 fg, .int .i64 fq, .int .i64 fh, .bool fu, .string fd] 31)
  have B1 := Lib.hid (b1.trans (b2.mono (by simp)))
  have HA := Lib.hid (h.next B1.out)
  clear h b1 b2
  have X1 := blk_alloc (blk_new w (airO x a)) (.cells #[.int .i64 fk, .int .i64 ff, .int .i64 ft, .int .i64 fs, .int .i64 fg, .int .i64 fq, .int .i64 fh, .bool fu, .string fd] 31)
  have Y1 : ((w.alloc (airO x a)).alloc (.cells #[.int .i64 fk, .int .i64 ff, .int .i64 ft, .int .i64 fs, .int .i64 fg, .int .i64 fq, .int .i64 fh, .bool fu, .string fd] 31)).heap[w.heap.size + 1]? = some (.cells #[.int .i64 fk, .int .i64 ff, .int .i64 ft, .int .i64 fs, .int .i64 fg, .int .i64 fq, .int .i64 fh, .bool fu, .string fd] 31) := by have := blk_new (w.alloc (airO x a)) (.cells #[.int .i64 fk, .int .i64 ff, .int .i64 ft, .int .i64 fs, .int .i64 fg, .int .i64 fq, .int .i64 fh, .bool fu, .string fd] 31); simpa using this
  have hz1 : w.heap.size + 2 ≤ ((w.alloc (airO x a)).alloc (.cells #[.int .i64 fk, .int .i64 ff, .int .i64 ft, .int .i64 fs, .int .i64 fg, .int .i64 fq, .int .i64 fh, .bool fu, .string fd] 31)).heap.size := by simp
  generalize Fit a = FT at *
  obtain ⟨A1, c1, A2, c2, A3, c3⟩ := x
  obtain ⟨E, O, N⟩ := a
  dsimp only [airV, airO] at *
  go_enter Try.func4, Try.ntmps4
  go_wp2_with fail
  refine (KF.out _).mono ?_
  rintro _ w2 ⟨b, rfl, hf, hb⟩
  have B2 := Lib.hid (B1.out.trans (hb.mono B1.out.size))
  have X2 := Lib.hid (blk_below X1 hb (by omega))
  have Y2 := Lib.hid (blk_below Y1 hb (by omega))
  have HA := Lib.hid (HA.out.next hb)
  have hz2 := Nat.le_trans hz1 hb.size
  clear hb X1 Y1 hz1 KF B1
  cases b with
  | false =>
    clear X2 Y2
    go_wp2_with fail
    refine (KW.out _).mono ?_
    rintro _ wz ⟨rfl, hb⟩
    have BZ := Lib.hid (B2.out.trans (hb.mono B2.out.size))
    clear hb
    go_wp2_with fail
    go_ret
    exact outB rfl BZ.out
  | true =>
    have fit := FF.out (hf rfl)
    have KP := Lib.hid (KP.out fit)
    have KR := Lib.hid (KR.out fit)
    clear hf FF fit
    obtain ⟨q0, q1, q2⟩ := air_block X2.out
    obtain ⟨m0, m1, m2, m3, m4, m5, m6, m7, m8⟩ := frm_block Y2.out
    go_wp2_with fail
    refine (KP.out _ HA.out).mono ?_
    rintro _ w3 ⟨A5, c5, rfl, h5, hb⟩
    have B3 := Lib.hid (B2.out.trans (hb.mono B2.out.size))
    have X3 := Lib.hid (blk_below X2.out hb (by omega))
    have Y3 := Lib.hid (blk_below Y2.out hb (by omega))
    have HA := Lib.hid (HA.out.next hb)
    have S3 := Lib.hid h5
    clear hb X2 Y2 q0 q1 q2 m0 m1 m2 m3 m4 m5 m6 m7 m8 h5 KP B2
    obtain ⟨q0, q1, q2⟩ := air_block X3.out
    obtain ⟨m0, m1, m2, m3, m4, m5, m6, m7, m8⟩ := frm_block Y3.out
    go_wp2_with fail
    refine (KR.out _ HA.out).mono ?_
    rintro _ w4 ⟨A6, c6, rfl, h6, hb⟩
    have B4 := Lib.hid (B3.out.trans (hb.mono B3.out.size))
    have KS := Lib.hid (rsamen_any A5 A6 c5 c6 D w4 (by omega) (S3.out.next hb).1 h6.1)
    unfold OutB at KS
    have e1 : (db == db) = true := by simp
    clear hb X3 Y3 q0 q1 q2 m0 m1 m2 m3 m4 m5 m6 m7 m8 h6 KR B3 S3 HA
    go_wp2_with fail
    refine KS.out.mono ?_
    rintro _ w5 ⟨rfl, hb⟩
    have B5 := Lib.hid (B4.out.trans (hb.mono B4.out.size))
    clear hb KS
    go_wp2_with fail
    refine (KW.out _).mono ?_
    rintro _ wz ⟨rfl, hb⟩
    have BZ := Lib.hid (B5.out.trans (hb.mono B5.out.size))
    clear hb
    go_wp2_with fail
    go_ret
    exact outB rfl BZ.out

set_option maxRecDepth 100000 in
set_option maxHeartbeats 4000000 in
theorem law_channels (w : World) (A : Option Addr) (c : Nat) (l : List Int) (now limit : Int) (hA : FlAt fI w w.heap.size A l) :
    Calls Try.prog 5 #[.slice A l.length c, .int .i64 now, .int .i64 limit] w (OutB w true) := by
  have KW := Lib.hid awake_any
  unfold OutB at KW
  have B0 := Lib.hid (Below.refl w.heap.size w)
  have HA := Lib.hid hA
  clear hA
  by_cases h1 : 100 < l.length
  · have d1 := dt (show (100 : Int) < (l.length : Int) by omega)
    clear h1 HA
    go_enter Try.func5, Try.ntmps5
    go_wp2_with fail
    refine (KW.out _).mono ?_
    rintro _ wz ⟨rfl, hb⟩
    have BZ := Lib.hid (B0.out.trans (hb.mono B0.out.size))
    clear hb
    go_wp2_with fail
    go_ret
    exact outB rfl BZ.out
  have d1 := df (show ¬ (100 : Int) < (l.length : Int) by omega)
  have KP := Lib.hid (pchan_any A c l now limit w (by omega) HA.out)
  have KR := Lib.hid (fun w (h : FlAt fI w w.heap.size A l) => rchan_any A c l now limit w (by omega) h)
  unfold OutI at KP KR
  generalize chan l now limit = r at *
  clear h1
  go_enter Try.func5, Try.ntmps5
  go_wp2_with fail
  refine KP.out.mono ?_
  rintro _ w2 ⟨rfl, hb⟩
  have B2 := Lib.hid hb
  have KR := Lib.hid (KR.out _ (HA.out.next hb))
  clear hb KP HA
  go_wp2_with fail
  refine KR.out.mono ?_
  rintro _ w3 ⟨rfl, hb⟩
  have B3 := Lib.hid (B2.out.trans (hb.mono B2.out.size))
  clear hb KR
  go_wp2_with fail
  refine (KW.out _).mono ?_
  rintro _ wz ⟨rfl, hb⟩
  have BZ := Lib.hid (B3.out.trans (hb.mono B3.out.size))
  clear hb
  go_wp2_with fail
  go_ret
  exact outB rfl BZ.out

set_option maxRecDepth 100000 in
set_option maxHeartbeats 4000000 in
theorem law_jams (x : Hd) (a : Ar) (A9 : Option Addr) (c9 : Nat) (L : List Int) (w : World) (h : AirS w x a) (hA9 : FlAt fI w w.heap.size A9 L) :
    Calls Try.prog 6 #[airV x a, .slice A9 L.length c9] w (OutB w true) := by
  have KW := Lib.hid awake_any
  have KF := Lib.hid (fun w => few_any x a w)
  have KP := Lib.hid (fun (hf : Few a) (hl : L.length ≤ 40) w (h : AirS w x a) (h9 : FlAt fI w w.heap.size A9 L) => pjam_any x a A9 c9 L w (few_fit hf) h (by omega) h9)
  have KR := Lib.hid (fun (hf : Few a) (hl : L.length ≤ 40) w (h : AirS w x a) (h9 : FlAt fI w w.heap.size A9 L) => rjam_any x a A9 c9 L w (few_fit hf) h (by omega) h9)
  have KC := Lib.hid (fun (hf : Few a) w (h : AirS w x a) => pclear_any x a w (few_fit hf) h)
  have KD := Lib.hid (fun (hf : Few a) w (h : AirS w x a) => rclear_any x a w (few_fit hf) h)
  have KU := Lib.hid (fun (hf : Few a) w (h : AirS w x a) => pup_any x a w (few_fit hf) h)
  have KV := Lib.hid (fun (hf : Few a) w (h : AirS w x a) => rup_any x a w (few_fit hf) h)
  have KS1 := Lib.hid (fun (hf : Few a) x y w => rsameair_any x y (jam a L) w (jam_fit (few_fit hf) L))
  have KS2 := Lib.hid (fun (hf : Few a) x y w => rsameair_any x y (clr a) w (clr_fit (few_fit hf)))
  have KE := Lib.hid (fun (hf : Few a) A1 A2 c1 c2 w => rsamee_any A1 A2 c1 c2 (up a) w (by have := (sane_fit (few_fit hf)).1; have h2 := Tpo.wout_len (sane a).e (sane a).o; unfold up; omega))
  unfold OutB at KW KS1 KS2 KE
  unfold AirR at KP KR KC KD
  unfold EdR at KU KV
  generalize jam a L = J at *
  generalize clr a = K at *
  generalize up a = U at *
  generalize Few a = FW at *
  have B1 := Lib.hid (alloc_below w (airO x a))
  have HA := Lib.hid (h.next B1.out)
  have H9 := Lib.hid (hA9.next B1.out)
  have X1 := blk_new w (airO x a)
  have hz1 : w.heap.size + 1 ≤ (w.alloc (airO x a)).heap.size := by simp
  clear h hA9
  obtain ⟨A1, c1, A2, c2, A3, c3⟩ := x
  obtain ⟨E, O, N⟩ := a
  obtain ⟨JE, JO, JN⟩ := J
  obtain ⟨KE_, KO_, KN_⟩ := K
  dsimp only [airV, airO] at *
  have B0 := Lib.hid (Below.refl w.heap.size w)
  go_enter Try.func6, Try.ntmps6
  go_wp2_with fail
  refine (KF.out _).mono ?_
  rintro _ w2 ⟨b, rfl, hf, hb⟩
  have B2 := Lib.hid (B1.out.trans (hb.mono B1.out.size))
  have X2 := Lib.hid (blk_below X1 hb (by omega))
  have HA := Lib.hid (HA.out.next hb)
  have H9 := Lib.hid (H9.out.next hb)
  have hz2 := Nat.le_trans hz1 hb.size
  clear hb X1 hz1 KF B1 B0
  cases b with
  | false =>
    clear X2
    go_wp2_with fail
    refine (KW.out _).mono ?_
    rintro _ wz ⟨rfl, hb⟩
    have BZ := Lib.hid (B2.out.trans (hb.mono B2.out.size))
    clear hb
    go_wp2_with fail
    go_ret
    exact outB rfl BZ.out
  | true =>
    have hf := hf rfl
    by_cases h40 : 40 < L.length
    · have d1 := dt (show (40 : Int) < (L.length : Int) by omega)
      clear X2 h40
      go_wp2_with fail
      refine (KW.out _).mono ?_
      rintro _ wz ⟨rfl, hb⟩
      have BZ := Lib.hid (B2.out.trans (hb.mono B2.out.size))
      clear hb
      go_wp2_with fail
      go_ret
      exact outB rfl BZ.out
    have d1 := df (show ¬ (40 : Int) < (L.length : Int) by omega)
    have KP := Lib.hid (KP.out hf (by omega))
    have KR := Lib.hid (KR.out hf (by omega))
    have KC := Lib.hid (KC.out hf)
    have KD := Lib.hid (KD.out hf)
    have KU := Lib.hid (KU.out hf)
    have KV := Lib.hid (KV.out hf)
    have KS1 := Lib.hid (KS1.out hf)
    have KS2 := Lib.hid (KS2.out hf)
    have KE := Lib.hid (KE.out hf)
    clear hf h40
    have HC := Lib.hid (show ∀ wy, Below w2.heap.size w2 wy → wy.cell? ⟨w.heap.size, 0, none⟩ = some (.slice A1 E.length c1) ∧ wy.cell? ⟨w.heap.size, 1, none⟩ = some (.slice A2 O.length c2) ∧ wy.cell? ⟨w.heap.size, 2, none⟩ = some (.slice A3 N.length c3) from fun wy hb => by
      exact air_block (blk_below X2.out hb (by omega)))
    have Z0 : Below w2.heap.size w2 w2.drew := below_drewN (Below.refl _ _) 1
    clear X2
    go_wp2_with fail
    clear d1
    refine wp_region_held_drew (S := (fun wy : World => wy.cell? ⟨w.heap.size, 0, none⟩ = some (.slice A1 E.length c1) ∧ wy.cell? ⟨w.heap.size, 1, none⟩ = some (.slice A2 O.length c2) ∧ wy.cell? ⟨w.heap.size, 2, none⟩ = some (.slice A3 N.length c3))) (by kernel_rfl) (HC.out _ Z0) (fun hHeld => ?_)
    refine wpAnyH_take (i := 0) (v := (.agg #[.slice A1 E.length c1, .slice A2 O.length c2, .slice A3 N.length c3])) at_zero (by kernel_rfl) (by kernel_rfl) (by kernel_rfl) (fun _ _ _ h => h) (Or.inl ⟨by kernel_rfl, fun wy hSw => ?_⟩) (by assumption) ?_
    · (try dsimp only at hSw); go_simp
    try simp only [Act.put, List.setIfInBounds_toArray, List.set_cons_zero, List.set_cons_succ]
    refine wpAnyH_take (i := 1) (v := (.slice A9 L.length c9)) (at_succ at_zero) (by kernel_rfl) (by kernel_rfl) (by kernel_rfl) (fun _ _ _ h => h) (Or.inl ⟨by kernel_rfl, fun wy hSw => ?_⟩) (by assumption) ?_
    · (try dsimp only at hSw); go_simp
    try simp only [Act.put, List.setIfInBounds_toArray, List.set_cons_zero, List.set_cons_succ]
    refine wpAnyH_take (i := 3) (v := (.agg #[.slice A1 E.length c1, .slice A2 O.length c2, .slice A3 N.length c3])) (at_succ (at_succ (at_succ at_zero))) (by kernel_rfl) (by kernel_rfl) (by kernel_rfl) (fun _ _ _ h => h) (Or.inl ⟨by kernel_rfl, fun wy hSw => ?_⟩) (by assumption) ?_
    · (try dsimp only at hSw); go_simp
    try simp only [Act.put, List.setIfInBounds_toArray, List.set_cons_zero, List.set_cons_succ]
    refine wpAnyH_take (i := 4) (v := (.slice A9 L.length c9)) (at_succ (at_succ (at_succ (at_succ at_zero)))) (by kernel_rfl) (by kernel_rfl) (by kernel_rfl) (fun _ _ _ h => h) (Or.inl ⟨by kernel_rfl, fun wy hSw => ?_⟩) (by assumption) ?_
    · (try dsimp only at hSw); go_simp
    try simp only [Act.put, List.setIfInBounds_toArray, List.set_cons_zero, List.set_cons_succ]
    refine wpAnyH_ready (rs := [2]) (by kernel_rfl) (by simp) ?_
    refine AllReadyH.cons (at_succ (at_succ at_zero)) (fun K hK => ?_) AllReadyH.nil
    rw [if_pos (by kernel_rfl)]
    go_simp
    refine (KP.out _ (HA.out.next Z0) (H9.out.next Z0)).mono ?_
    rintro _ wz ⟨⟨D11, e11, D12, e12, D13, e13⟩, rfl, hj, hb⟩
    try have HJ1 := Lib.hid (HJ1.out.next hb)
    try have HJ2 := Lib.hid (HJ2.out.next hb)
    try have HJ3 := Lib.hid (HJ3.out.next hb)
    try have HJ4 := Lib.hid (HJ4.out.next hb)
    try have U5 := Lib.hid (U5.out.next hb)
    have HJ1 := Lib.hid hj
    clear hj
    dsimp only [airV]
    have Z1 := Z0.trans (hb.mono Z0.size)
    clear hb hHeld
    go_wp2_with fail
    refine hK.out _ _ (HC.out _ Z1) (fun hHeld => ?_)
    clear hK K
    try simp only [Act.put, List.setIfInBounds_toArray, List.set_cons_zero, List.set_cons_succ]
    refine wpAnyH_ready (rs := [5]) (by kernel_rfl) (by simp) ?_
    refine AllReadyH.cons (at_succ (at_succ (at_succ (at_succ (at_succ at_zero))))) (fun K hK => ?_) AllReadyH.nil
    rw [if_pos (by kernel_rfl)]
    go_simp
    refine (KR.out _ (HA.out.next Z1) (H9.out.next Z1)).mono ?_
    rintro _ wz ⟨⟨D21, e21, D22, e22, D23, e23⟩, rfl, hj, hb⟩
    try have HJ1 := Lib.hid (HJ1.out.next hb)
    try have HJ2 := Lib.hid (HJ2.out.next hb)
    try have HJ3 := Lib.hid (HJ3.out.next hb)
    try have HJ4 := Lib.hid (HJ4.out.next hb)
    try have U5 := Lib.hid (U5.out.next hb)
    have HJ2 := Lib.hid hj
    clear hj
    dsimp only [airV]
    have Z2 := Z1.trans (hb.mono Z1.size)
    clear hb hHeld
    go_wp2_with fail
    refine hK.out _ _ (HC.out _ Z2) (fun hHeld => ?_)
    clear hK K
    try simp only [Act.put, List.setIfInBounds_toArray, List.set_cons_zero, List.set_cons_succ]
    refine wpAnyH_ready (rs := [6]) (by kernel_rfl) (by simp) ?_
    refine AllReadyH.cons (at_succ (at_succ (at_succ (at_succ (at_succ (at_succ at_zero)))))) (fun K hK => ?_) AllReadyH.nil
    rw [if_pos (by kernel_rfl)]
    go_simp
    refine (KS1.out _ _ _ HJ1.out HJ2.out).mono ?_
    rintro _ wz ⟨rfl, hb⟩
    try have HJ1 := Lib.hid (HJ1.out.next hb)
    try have HJ2 := Lib.hid (HJ2.out.next hb)
    try have HJ3 := Lib.hid (HJ3.out.next hb)
    try have HJ4 := Lib.hid (HJ4.out.next hb)
    try have U5 := Lib.hid (U5.out.next hb)
    have Z3 := Z2.trans (hb.mono Z2.size)
    clear hb hHeld
    go_wp2_with fail
    refine hK.out _ _ (HC.out _ Z3) (fun hHeld => ?_)
    clear hK K
    try simp only [Act.put, List.setIfInBounds_toArray, List.set_cons_zero, List.set_cons_succ]
    refine wpAnyH_take (i := 7) (v := (.bool true)) (at_succ (at_succ (at_succ (at_succ (at_succ (at_succ (at_succ at_zero))))))) (by kernel_rfl) (by kernel_rfl) (by kernel_rfl) (fun _ _ _ h => h) (Or.inl ⟨by kernel_rfl, fun wy hSw => ?_⟩) (by assumption) ?_
    · (try dsimp only at hSw); go_simp
    try simp only [Act.put, List.setIfInBounds_toArray, List.set_cons_zero, List.set_cons_succ]
    refine wpAnyH_take (i := 8) (v := (.agg #[.slice A1 E.length c1, .slice A2 O.length c2, .slice A3 N.length c3])) (at_succ (at_succ (at_succ (at_succ (at_succ (at_succ (at_succ (at_succ at_zero)))))))) (by kernel_rfl) (by kernel_rfl) (by kernel_rfl) (fun _ _ _ h => h) (Or.inl ⟨by kernel_rfl, fun wy hSw => ?_⟩) (by assumption) ?_
    · (try dsimp only at hSw); go_simp
    try simp only [Act.put, List.setIfInBounds_toArray, List.set_cons_zero, List.set_cons_succ]
    refine wpAnyH_take (i := 10) (v := (.agg #[.slice A1 E.length c1, .slice A2 O.length c2, .slice A3 N.length c3])) (at_succ (at_succ (at_succ (at_succ (at_succ (at_succ (at_succ (at_succ (at_succ (at_succ at_zero)))))))))) (by kernel_rfl) (by kernel_rfl) (by kernel_rfl) (fun _ _ _ h => h) (Or.inl ⟨by kernel_rfl, fun wy hSw => ?_⟩) (by assumption) ?_
    · (try dsimp only at hSw); go_simp
    try simp only [Act.put, List.setIfInBounds_toArray, List.set_cons_zero, List.set_cons_succ]
    refine wpAnyH_ready (rs := [9]) (by kernel_rfl) (by simp) ?_
    refine AllReadyH.cons (at_succ (at_succ (at_succ (at_succ (at_succ (at_succ (at_succ (at_succ (at_succ at_zero))))))))) (fun K hK => ?_) AllReadyH.nil
    rw [if_pos (by kernel_rfl)]
    go_simp
    refine (KC.out _ (HA.out.next Z3)).mono ?_
    rintro _ wz ⟨⟨D31, e31, D32, e32, D33, e33⟩, rfl, hj, hb⟩
    try have HJ1 := Lib.hid (HJ1.out.next hb)
    try have HJ2 := Lib.hid (HJ2.out.next hb)
    try have HJ3 := Lib.hid (HJ3.out.next hb)
    try have HJ4 := Lib.hid (HJ4.out.next hb)
    try have U5 := Lib.hid (U5.out.next hb)
    have HJ3 := Lib.hid hj
    clear hj
    dsimp only [airV]
    have Z4 := Z3.trans (hb.mono Z3.size)
    clear hb hHeld
    go_wp2_with fail
    refine hK.out _ _ (HC.out _ Z4) (fun hHeld => ?_)
    clear hK K
    try simp only [Act.put, List.setIfInBounds_toArray, List.set_cons_zero, List.set_cons_succ]
    refine wpAnyH_ready (rs := [11]) (by kernel_rfl) (by simp) ?_
    refine AllReadyH.cons (at_succ (at_succ (at_succ (at_succ (at_succ (at_succ (at_succ (at_succ (at_succ (at_succ (at_succ at_zero))))))))))) (fun K hK => ?_) AllReadyH.nil
    rw [if_pos (by kernel_rfl)]
    go_simp
    refine (KD.out _ (HA.out.next Z4)).mono ?_
    rintro _ wz ⟨⟨D41, e41, D42, e42, D43, e43⟩, rfl, hj, hb⟩
    try have HJ1 := Lib.hid (HJ1.out.next hb)
    try have HJ2 := Lib.hid (HJ2.out.next hb)
    try have HJ3 := Lib.hid (HJ3.out.next hb)
    try have HJ4 := Lib.hid (HJ4.out.next hb)
    try have U5 := Lib.hid (U5.out.next hb)
    have HJ4 := Lib.hid hj
    clear hj
    dsimp only [airV]
    have Z5 := Z4.trans (hb.mono Z4.size)
    clear hb hHeld
    go_wp2_with fail
    refine hK.out _ _ (HC.out _ Z5) (fun hHeld => ?_)
    clear hK K
    try simp only [Act.put, List.setIfInBounds_toArray, List.set_cons_zero, List.set_cons_succ]
    refine wpAnyH_ready (rs := [12]) (by kernel_rfl) (by simp) ?_
    refine AllReadyH.cons (at_succ (at_succ (at_succ (at_succ (at_succ (at_succ (at_succ (at_succ (at_succ (at_succ (at_succ (at_succ at_zero)))))))))))) (fun K hK => ?_) AllReadyH.nil
    rw [if_pos (by kernel_rfl)]
    go_simp
    refine (KS2.out _ _ _ HJ3.out HJ4.out).mono ?_
    rintro _ wz ⟨rfl, hb⟩
    try have HJ1 := Lib.hid (HJ1.out.next hb)
    try have HJ2 := Lib.hid (HJ2.out.next hb)
    try have HJ3 := Lib.hid (HJ3.out.next hb)
    try have HJ4 := Lib.hid (HJ4.out.next hb)
    try have U5 := Lib.hid (U5.out.next hb)
    have Z6 := Z5.trans (hb.mono Z5.size)
    clear hb hHeld
    go_wp2_with fail
    refine hK.out _ _ (HC.out _ Z6) (fun hHeld => ?_)
    clear hK K
    try simp only [Act.put, List.setIfInBounds_toArray, List.set_cons_zero, List.set_cons_succ]
    refine wpAnyH_take (i := 13) (v := (.bool true)) (at_succ (at_succ (at_succ (at_succ (at_succ (at_succ (at_succ (at_succ (at_succ (at_succ (at_succ (at_succ (at_succ at_zero))))))))))))) (by kernel_rfl) (by kernel_rfl) (by kernel_rfl) (fun _ _ _ h => h) (Or.inl ⟨by kernel_rfl, fun wy hSw => ?_⟩) (by assumption) ?_
    · (try dsimp only at hSw); go_simp
    try simp only [Act.put, List.setIfInBounds_toArray, List.set_cons_zero, List.set_cons_succ]
    refine wpAnyH_take (i := 14) (v := (.bool true)) (at_succ (at_succ (at_succ (at_succ (at_succ (at_succ (at_succ (at_succ (at_succ (at_succ (at_succ (at_succ (at_succ (at_succ at_zero)))))))))))))) (by kernel_rfl) (by kernel_rfl) (by kernel_rfl) (fun _ _ _ h => h) (Or.inl ⟨by kernel_rfl, fun wy hSw => ?_⟩) (by assumption) ?_
    · (try dsimp only at hSw); go_simp
    try simp only [Act.put, List.setIfInBounds_toArray, List.set_cons_zero, List.set_cons_succ]
    refine wpAnyH_take (i := 15) (v := (.agg #[.slice A1 E.length c1, .slice A2 O.length c2, .slice A3 N.length c3])) (at_succ (at_succ (at_succ (at_succ (at_succ (at_succ (at_succ (at_succ (at_succ (at_succ (at_succ (at_succ (at_succ (at_succ (at_succ at_zero))))))))))))))) (by kernel_rfl) (by kernel_rfl) (by kernel_rfl) (fun _ _ _ h => h) (Or.inl ⟨by kernel_rfl, fun wy hSw => ?_⟩) (by assumption) ?_
    · (try dsimp only at hSw); go_simp
    try simp only [Act.put, List.setIfInBounds_toArray, List.set_cons_zero, List.set_cons_succ]
    refine wpAnyH_take (i := 17) (v := (.agg #[.slice A1 E.length c1, .slice A2 O.length c2, .slice A3 N.length c3])) (at_succ (at_succ (at_succ (at_succ (at_succ (at_succ (at_succ (at_succ (at_succ (at_succ (at_succ (at_succ (at_succ (at_succ (at_succ (at_succ (at_succ at_zero))))))))))))))))) (by kernel_rfl) (by kernel_rfl) (by kernel_rfl) (fun _ _ _ h => h) (Or.inl ⟨by kernel_rfl, fun wy hSw => ?_⟩) (by assumption) ?_
    · (try dsimp only at hSw); go_simp
    try simp only [Act.put, List.setIfInBounds_toArray, List.set_cons_zero, List.set_cons_succ]
    refine wpAnyH_ready (rs := [16]) (by kernel_rfl) (by simp) ?_
    refine AllReadyH.cons (at_succ (at_succ (at_succ (at_succ (at_succ (at_succ (at_succ (at_succ (at_succ (at_succ (at_succ (at_succ (at_succ (at_succ (at_succ (at_succ at_zero)))))))))))))))) (fun K hK => ?_) AllReadyH.nil
    rw [if_pos (by kernel_rfl)]
    go_simp
    refine (KU.out _ (HA.out.next Z6)).mono ?_
    rintro _ wz ⟨D5, e5, rfl, hu, hb⟩
    have U5 := Lib.hid hu
    clear hu
    have Z7 := Z6.trans (hb.mono Z6.size)
    clear hb hHeld
    go_wp2_with fail
    refine hK.out _ _ (HC.out _ Z7) (fun hHeld => ?_)
    clear hK K
    try simp only [Act.put, List.setIfInBounds_toArray, List.set_cons_zero, List.set_cons_succ]
    refine wpAnyH_ready (rs := [18]) (by kernel_rfl) (by simp) ?_
    refine AllReadyH.cons (at_succ (at_succ (at_succ (at_succ (at_succ (at_succ (at_succ (at_succ (at_succ (at_succ (at_succ (at_succ (at_succ (at_succ (at_succ (at_succ (at_succ (at_succ at_zero)))))))))))))))))) (fun K hK => ?_) AllReadyH.nil
    rw [if_pos (by kernel_rfl)]
    go_simp
    refine (KV.out _ (HA.out.next Z7)).mono ?_
    rintro _ wz ⟨D6, e6, rfl, hu, hb⟩
    have U5 := Lib.hid (U5.out.next hb)
    have U6 := Lib.hid hu
    clear hu
    have Z8 := Z7.trans (hb.mono Z7.size)
    clear hb hHeld
    go_wp2_with fail
    refine hK.out _ _ (HC.out _ Z8) (fun hHeld => ?_)
    clear hK K
    try simp only [Act.put, List.setIfInBounds_toArray, List.set_cons_zero, List.set_cons_succ]
    refine wpAnyH_ready (rs := [19]) (by kernel_rfl) (by simp) ?_
    refine AllReadyH.cons (at_succ (at_succ (at_succ (at_succ (at_succ (at_succ (at_succ (at_succ (at_succ (at_succ (at_succ (at_succ (at_succ (at_succ (at_succ (at_succ (at_succ (at_succ (at_succ at_zero))))))))))))))))))) (fun K hK => ?_) AllReadyH.nil
    rw [if_pos (by kernel_rfl)]
    go_simp
    refine (KE.out D5 D6 e5 e6 _ U5.out.1 U6.out.1).mono ?_
    rintro _ wz ⟨rfl, hb⟩
    have Z9 := Z8.trans (hb.mono Z8.size)
    clear hb hHeld
    go_wp2_with fail
    refine hK.out _ _ (HC.out _ Z9) (fun hHeld => ?_)
    clear hK K
    try simp only [Act.put, List.setIfInBounds_toArray, List.set_cons_zero, List.set_cons_succ]
    refine wpAnyH_take (i := 20) (v := (.bool true)) (at_succ (at_succ (at_succ (at_succ (at_succ (at_succ (at_succ (at_succ (at_succ (at_succ (at_succ (at_succ (at_succ (at_succ (at_succ (at_succ (at_succ (at_succ (at_succ (at_succ at_zero)))))))))))))))))))) (by kernel_rfl) (by kernel_rfl) (by kernel_rfl) (fun _ _ _ h => h) (Or.inl ⟨by kernel_rfl, fun wy hSw => ?_⟩) (by assumption) ?_
    · (try dsimp only at hSw); go_simp
    try simp only [Act.put, List.setIfInBounds_toArray, List.set_cons_zero, List.set_cons_succ]
    refine wpAnyH_take (i := 21) (v := (.bool true)) (at_succ (at_succ (at_succ (at_succ (at_succ (at_succ (at_succ (at_succ (at_succ (at_succ (at_succ (at_succ (at_succ (at_succ (at_succ (at_succ (at_succ (at_succ (at_succ (at_succ (at_succ at_zero))))))))))))))))))))) (by kernel_rfl) (by kernel_rfl) (by kernel_rfl) (fun _ _ _ h => h) (Or.inl ⟨by kernel_rfl, fun wy hSw => ?_⟩) (by assumption) ?_
    · (try dsimp only at hSw); go_simp
    try simp only [Act.put, List.setIfInBounds_toArray, List.set_cons_zero, List.set_cons_succ]
    refine wpAnyH_ready (rs := [22]) (by kernel_rfl) (by simp) ?_
    refine AllReadyH.cons (at_succ (at_succ (at_succ (at_succ (at_succ (at_succ (at_succ (at_succ (at_succ (at_succ (at_succ (at_succ (at_succ (at_succ (at_succ (at_succ (at_succ (at_succ (at_succ (at_succ (at_succ (at_succ at_zero)))))))))))))))))))))) (fun K hK => ?_) AllReadyH.nil
    rw [if_pos (by kernel_rfl)]
    go_simp
    refine (KW.out _).mono ?_
    rintro _ wz ⟨rfl, hb⟩
    have Z10 := Z9.trans (hb.mono Z9.size)
    clear hb hHeld
    go_wp2_with fail
    refine hK.out _ _ (HC.out _ Z10) (fun hHeld => ?_)
    clear hK K
    try simp only [Act.put, List.setIfInBounds_toArray, List.set_cons_zero, List.set_cons_succ]
    refine wpAnyH_take (i := 23) (v := (.bool true)) (at_succ (at_succ (at_succ (at_succ (at_succ (at_succ (at_succ (at_succ (at_succ (at_succ (at_succ (at_succ (at_succ (at_succ (at_succ (at_succ (at_succ (at_succ (at_succ (at_succ (at_succ (at_succ (at_succ at_zero))))))))))))))))))))))) (by kernel_rfl) (by kernel_rfl) (by kernel_rfl) (fun _ _ _ h => h) (Or.inl ⟨by kernel_rfl, fun wy hSw => ?_⟩) (by assumption) ?_
    · (try dsimp only at hSw); go_simp
    try simp only [Act.put, List.setIfInBounds_toArray, List.set_cons_zero, List.set_cons_succ]
    refine wpAnyH_take (i := 24) (v := (.bool true)) (at_succ (at_succ (at_succ (at_succ (at_succ (at_succ (at_succ (at_succ (at_succ (at_succ (at_succ (at_succ (at_succ (at_succ (at_succ (at_succ (at_succ (at_succ (at_succ (at_succ (at_succ (at_succ (at_succ (at_succ at_zero)))))))))))))))))))))))) (by kernel_rfl) (by kernel_rfl) (by kernel_rfl) (fun _ _ _ h => h) (Or.inl ⟨by kernel_rfl, fun wy hSw => ?_⟩) (by assumption) ?_
    · (try dsimp only at hSw); go_simp
    try simp only [Act.put, List.setIfInBounds_toArray, List.set_cons_zero, List.set_cons_succ]
    refine wpAnyH_done (by kernel_rfl) ?_ _
    go_wp2_with fail
    go_ret
    exact outB rfl (B2.out.trans (Z10.mono B2.out.size))
end Go.Proofs.Ytcnmknhjmflinaa.Rdo
