/- Texts of this proof, one behind the other: no claim of its own. -/
import Derived.Test.YtagkmfhicpcjnaaDoorG5
import Derived.Deep.RegionHeld3
/- Layer 20: the law ValueNear. -/
set_option linter.unusedVariables false
set_option maxRecDepth 100000
namespace Go.Proofs.YtagkmfhicpcjnaaDoor.Vlu
open Go.RowKit

theorem lmt_size (a : At) {v : Vl} (h : v.2.2.size ≤ 9223372036854775807) : (lmt a v).2.2.size ≤ 9223372036854775807 := by
  unfold lmt
  split
  · exact h
  · exact h
theorem zer_size (a : At) : (zer a).2.2.size ≤ 9223372036854775807 := by
  unfold zer
  split
  · decide
  · exact lmt_size a (by show ByteArray.empty.size ≤ _; decide)
/-- What a limited integer is. -/
theorem near_facts {a : At} {v : Vl} (h : dfn a = 0) (hk : a.k = 2) (hv : v.1 = 2) (hc : chk v = 0) (o : Int) : ∃ yn, lmt a v = (2, yn, ByteArray.empty) ∧ fits a (2, yn, ByteArray.empty) = 0 ∧ (fits a v = 0 → (2, yn, ByteArray.empty) = v) ∧
    (fits a (2, o, ByteArray.empty) = 0 → -1099511627776 ≤ o ∧ o ≤ 1099511627776 ∧ (v.2.1 - yn).natAbs ≤ (v.2.1 - o).natAbs) ∧ -1099511627776 ≤ yn ∧ yn ≤ 1099511627776 ∧ -1099511627776 ≤ v.2.1 ∧ v.2.1 ≤ 1099511627776 := by
  obtain ⟨b1, b2, b3⟩ := dfn_int h hk
  obtain ⟨c1, c2, _⟩ := clp_in (n := v.2.1) b2
  have hs := (chk_iff.1 hc).2.2.2.2.2 (by omega)
  have hn := chk_n hc
  have e : lmt a v = (2, clp v.2.1 a.mn a.mx, ByteArray.empty) := by rw [lmt_int h hk hv, hv, hs]
  refine ⟨clp v.2.1 a.mn a.mx, e, by rw [← e]; exact lmt_fits h hk hv hc, fun q => ?_, fun q => ?_, by omega, by omega, by omega, by omega⟩
  · rw [← e]; exact lmt_same hv q
  · have hh := (fits_iff.1 q).2.1
    have := chk_n hh
    dsimp only at this
    have nr := lmt_near h hk hv q
    rw [e] at nr
    exact ⟨this.1, this.2, nr⟩
set_option maxRecDepth 100000 in
set_option maxHeartbeats 4000000 in
theorem law_near (a : At) (A : Option Addr) (c : Nat) (v : Vl) (other : Int) (w : World) (hT : Tabs w) (hA : StS w A c a.en) (hn : a.n.size ≤ 9223372036854775807) (hl : a.en.length ≤ 9223372036854775807) (hv : v.2.2.size ≤ 9223372036854775807) :
    Calls Tryd.prog 10 #[atV a A c, vlV v, .int .i64 other] w (OutB w true) := by
  have KW := Lib.hid (fun (w1 : World) (h : Tabs w1) => awake_any w1 h)
  have KF := Lib.hid (fun (w1 : World) (h : StS w1 A c a.en) => few_any a A c v w1 hn hl h hv)
  have K2 := Lib.hid (fun (w1 : World) (q : a.en.length ≤ 9223372036854775807) (h : StS w1 A c a.en) => pdef_any a A c w1 hn q h)
  have K3 := Lib.hid (fun (w1 : World) (q : a.en.length ≤ 9223372036854775807) (h : StS w1 A c a.en) => pzer_any a A c w1 hn q h)
  have K4 := Lib.hid (fun (w1 : World) (q : a.en.length ≤ 9223372036854775807) (h : StS w1 A c a.en) => pfits_any a A c (zer a) w1 hn q h (zer_size a))
  have K5 := Lib.hid (fun (w1 : World) => pcheck_any v w1 hv)
  have K6 := Lib.hid (fun (w1 : World) (q : a.en.length ≤ 9223372036854775807) (h : StS w1 A c a.en) => plmt_any a A c v w1 hn q h)
  have K7 := Lib.hid (fun (w1 : World) (q : a.en.length ≤ 9223372036854775807) (h : StS w1 A c a.en) => pfits_any a A c (lmt a v) w1 hn q h (lmt_size a hv))
  have K8 := Lib.hid (fun (w1 : World) (q : a.en.length ≤ 9223372036854775807) (h : StS w1 A c a.en) => pfits_any a A c v w1 hn q h hv)
  have K9 := Lib.hid (fun (w1 : World) (q : a.en.length ≤ 9223372036854775807) (h : StS w1 A c a.en) => pfits_any a A c (2, other, { data := #[] }) w1 hn q h (by show ({ data := #[] } : ByteArray).size ≤ _; decide))
  have FW := Lib.hid (fun (h : fw a v = true) => fw_is h)
  have FA := Lib.hid (fun (h : dfn a = 0) => And.intro (zer_fits h) (fun (hk : a.k = 2) (hv : v.1 = 2) (hc : chk v = 0) => near_facts h hk hv hc other))
  unfold OutB at KW KF
  unfold OutI at K2 K4 K5 K7 K8 K9
  unfold OutV at K3 K6
  rw [show (ByteArray.empty : ByteArray) = { data := #[] } from rfl] at FA
  generalize dfn a = e2 at *
  generalize zer a = z at *
  generalize fw a v = F at *
  generalize chk v = e5 at *
  generalize fits a v = e6 at *
  generalize fits a (2, other, { data := #[] }) = e7 at *
  have b0 := alloc_below w (bxA a A c)
  have b1 := b0.trans ((alloc_below (w.alloc (bxA a A c)) (bxV v)).mono (by simp <;> omega))
  have X0 := blk_new w (bxA a A c)
  have X1 := blk_new (w.alloc (bxA a A c)) (bxV v)
  rw [show (w.alloc (bxA a A c)).heap.size = w.heap.size + 1 by simp] at X1
  replace X0 := blk_alloc X0 (bxV v)
  have hz : w.heap.size + 2 ≤ ((w.alloc (bxA a A c)).alloc (bxV v)).heap.size := by simp
  obtain ⟨W, hW⟩ : ∃ W, ((w.alloc (bxA a A c)).alloc (bxV v)) = W := ⟨_, rfl⟩
  rw [hW] at X0 X1 hz b1
  have hA : StS w A c a.en := hA
  obtain ⟨an, ak, amn, amx, en, awr, asf⟩ := a
  obtain ⟨vk, vn, vs⟩ := v
  obtain ⟨zk, zn, zs⟩ := z
  dsimp only [vlV] at *
  have HA := Lib.hid (fun (w1 : World) (hb : Below W.heap.size W w1) => (show w1.cell? ⟨w.heap.size, 0, none⟩ = some (.string an) ∧ w1.cell? ⟨w.heap.size, 1, none⟩ = some (.int .i64 ak) ∧ w1.cell? ⟨w.heap.size, 2, none⟩ = some (.int .i64 amn) ∧ w1.cell? ⟨w.heap.size, 3, none⟩ = some (.int .i64 amx) ∧ w1.cell? ⟨w.heap.size, 4, none⟩ = some (.slice A en.length c) ∧ w1.cell? ⟨w.heap.size, 5, none⟩ = some (.bool awr) ∧ w1.cell? ⟨w.heap.size, 6, none⟩ = some (.bool asf) ∧ w1.cell? ⟨w.heap.size + 1, 0, none⟩ = some (.int .i64 vk) ∧ w1.cell? ⟨w.heap.size + 1, 1, none⟩ = some (.int .i64 vn) ∧ w1.cell? ⟨w.heap.size + 1, 2, none⟩ = some (.string vs) from ⟨blk_cell (blk_below X0 hb (by omega)) 0 rfl, blk_cell (blk_below X0 hb (by omega)) 1 rfl, blk_cell (blk_below X0 hb (by omega)) 2 rfl, blk_cell (blk_below X0 hb (by omega)) 3 rfl, blk_cell (blk_below X0 hb (by omega)) 4 rfl, blk_cell (blk_below X0 hb (by omega)) 5 rfl, blk_cell (blk_below X0 hb (by omega)) 6 rfl, blk_cell (blk_below X1 hb (by omega)) 0 rfl, blk_cell (blk_below X1 hb (by omega)) 1 rfl, blk_cell (blk_below X1 hb (by omega)) 2 rfl⟩))
  have HT := Lib.hid (fun (w1 : World) (hb : Below W.heap.size W w1) => hT.below (b1.trans (hb.mono b1.size)))
  have HB := Lib.hid (fun (w1 : World) (hb : Below W.heap.size W w1) => (show Below w.heap.size w w1 from b1.trans (hb.mono b1.size)))
  have HS := Lib.hid (fun (w1 : World) (hb : Below W.heap.size W w1) => (hA.next b1).next hb)
  have hW' : ((w.alloc (.cells #[.string an, .int .i64 ak, .int .i64 amn, .int .i64 amx, .slice A en.length c, .bool awr, .bool asf] 24)).alloc (.cells #[.int .i64 vk, .int .i64 vn, .string vs] 26)) = W := hW
  replace hW' := Lib.hid hW'
  clear hW b0 b1 X0 X1 hz hT hA
  have H0 := Below.refl W.heap.size W
  obtain ⟨p0_0, p0_1, p0_2, p0_3, p0_4, p0_5, p0_6, p1_0, p1_1, p1_2⟩ := HA.out W H0
  go_enter Tryd.func10, Tryd.ntmps10
  go_upto_region 1 with fail
  rw [hW'.out]
  clear hW'
  go_wp2_with fail
  refine (KF.out _ (HS.out _ H0)).mono ?_
  rintro _ w2 ⟨rfl, hb⟩
  have H1 := H0.trans (hb.mono H0.size)
  clear hb p0_0 p0_1 p0_2 p0_3 p0_4 p0_5 p0_6 p1_0 p1_1 p1_2
  obtain ⟨p0_0, p0_1, p0_2, p0_3, p0_4, p0_5, p0_6, p1_0, p1_1, p1_2⟩ := HA.out _ H1
  cases F with
  | false =>
    go_wp2_with fail
    refine (KW.out _ (HT.out _ H1)).mono ?_
    rintro _ wz ⟨rfl, hb⟩
    have BZ := Lib.hid (HB.out _ (H1.trans (hb.mono H1.size)))
    clear hb
    go_wp2_with fail
    go_ret
    exact outB rfl BZ.out
  | true =>
    obtain ⟨q1, q2, q3⟩ := FW.out rfl
    have K2 := Lib.hid (fun (w1 : World) => K2.out w1 (by omega))
    have K3 := Lib.hid (fun (w1 : World) => K3.out w1 (by omega))
    have K4 := Lib.hid (fun (w1 : World) => K4.out w1 (by omega))
    have K6 := Lib.hid (fun (w1 : World) => K6.out w1 (by omega))
    have K7 := Lib.hid (fun (w1 : World) => K7.out w1 (by omega))
    have K8 := Lib.hid (fun (w1 : World) => K8.out w1 (by omega))
    have K9 := Lib.hid (fun (w1 : World) => K9.out w1 (by omega))
    clear FW KF q1 q2 q3
    by_cases ed : e2 = 0
    rotate_left
    · have d2 : (e2 != 0) = true := by simpa using ed
      clear ed FA
      go_wp2_with fail
      refine (K2.out _ (HS.out _ H1)).mono ?_
      rintro _ w3 ⟨rfl, hb⟩
      replace H1 := H1.trans (hb.mono H1.size)
      clear hb p0_0 p0_1 p0_2 p0_3 p0_4 p0_5 p0_6 p1_0 p1_1 p1_2
      obtain ⟨p0_0, p0_1, p0_2, p0_3, p0_4, p0_5, p0_6, p1_0, p1_1, p1_2⟩ := HA.out _ H1
      go_wp2_with fail
      clear d2
      refine (KW.out _ (HT.out _ H1)).mono ?_
      rintro _ wz ⟨rfl, hb⟩
      have BZ := Lib.hid (HB.out _ (H1.trans (hb.mono H1.size)))
      clear hb
      go_wp2_with fail
      go_ret
      exact outB rfl BZ.out
    obtain ⟨f1, f2⟩ := FA.out ed
    have K4 := Lib.hid (fun (w1 : World) (h : StS w1 A c en) => (show Calls Tryd.prog 17 #[atV ⟨an, ak, amn, amx, en, awr, asf⟩ A c, vlV (zk, zn, zs)] w1 (OutI w1 0) from by
      have := K4.out w1 h
      rw [f1] at this
      exact this))
    unfold OutI at K4
    dsimp only [vlV] at K4
    clear FA f1
    have d2 : (e2 != 0) = false := by rw [ed]; rfl
    clear ed
    go_wp2_with fail
    refine (K2.out _ (HS.out _ H1)).mono ?_
    rintro _ w3 ⟨rfl, hb⟩
    replace H1 := H1.trans (hb.mono H1.size)
    clear hb p0_0 p0_1 p0_2 p0_3 p0_4 p0_5 p0_6 p1_0 p1_1 p1_2
    obtain ⟨p0_0, p0_1, p0_2, p0_3, p0_4, p0_5, p0_6, p1_0, p1_1, p1_2⟩ := HA.out _ H1
    have Z0 : Below W.heap.size W w3.drew := H1.trans (below_drewN (Below.refl _ _) 1 |>.mono H1.size)
    go_wp2_with fail
    clear d2 p0_0 p0_1 p0_2 p0_3 p0_4 p0_5 p0_6 p1_0 p1_1 p1_2 K2
    refine wp_region_held_drew (S := (fun wy : World => wy.cell? ⟨w.heap.size, 0, none⟩ = some (.string an) ∧ wy.cell? ⟨w.heap.size, 1, none⟩ = some (.int .i64 ak) ∧ wy.cell? ⟨w.heap.size, 2, none⟩ = some (.int .i64 amn) ∧ wy.cell? ⟨w.heap.size, 3, none⟩ = some (.int .i64 amx) ∧ wy.cell? ⟨w.heap.size, 4, none⟩ = some (.slice A en.length c) ∧ wy.cell? ⟨w.heap.size, 5, none⟩ = some (.bool awr) ∧ wy.cell? ⟨w.heap.size, 6, none⟩ = some (.bool asf) ∧ wy.cell? ⟨w.heap.size + 1, 0, none⟩ = some (.int .i64 vk) ∧ wy.cell? ⟨w.heap.size + 1, 1, none⟩ = some (.int .i64 vn) ∧ wy.cell? ⟨w.heap.size + 1, 2, none⟩ = some (.string vs))) (by kernel_rfl) (HA.out _ Z0) (fun hHeld => ?_)
    refine wpAnyH_take (i := 0) (v := (.agg #[.string an, .int .i64 ak, .int .i64 amn, .int .i64 amx, .slice A en.length c, .bool awr, .bool asf])) at_zero (by kernel_rfl) (by kernel_rfl) (by kernel_rfl) (fun _ _ _ h => h) (Or.inl ⟨by kernel_rfl, fun wy hSw => ?_⟩) (by assumption) ?_
    · (try dsimp only at hSw); go_simp
    try simp only [Act.put, List.setIfInBounds_toArray, List.set_cons_zero, List.set_cons_succ]
    refine wpAnyH_take (i := 1) (v := (.agg #[.string an, .int .i64 ak, .int .i64 amn, .int .i64 amx, .slice A en.length c, .bool awr, .bool asf])) (at_succ at_zero) (by kernel_rfl) (by kernel_rfl) (by kernel_rfl) (fun _ _ _ h => h) (Or.inl ⟨by kernel_rfl, fun wy hSw => ?_⟩) (by assumption) ?_
    · (try dsimp only at hSw); go_simp
    try simp only [Act.put, List.setIfInBounds_toArray, List.set_cons_zero, List.set_cons_succ]
    refine wpAnyH_ready (rs := [2]) (by kernel_rfl) (by simp) ?_
    refine AllReadyH.cons (at_succ (at_succ at_zero)) (fun K hK => ?_) AllReadyH.nil
    rw [if_pos (by kernel_rfl)]
    go_simp
    refine (K3.out _ (HS.out _ Z0)).mono ?_
    rintro _ wz ⟨rfl, hb⟩
    have Z1 := Z0.trans (hb.mono Z0.size)
    clear hb hHeld
    go_wp2_with fail
    refine hK.out _ _ (HA.out _ Z1) (fun hHeld => ?_)
    clear hK K
    try simp only [Act.put, List.setIfInBounds_toArray, List.set_cons_zero, List.set_cons_succ]
    refine wpAnyH_ready (rs := [3]) (by kernel_rfl) (by simp) ?_
    refine AllReadyH.cons (at_succ (at_succ (at_succ at_zero))) (fun K hK => ?_) AllReadyH.nil
    rw [if_pos (by kernel_rfl)]
    go_simp
    refine (K4.out _ (HS.out _ Z1)).mono ?_
    rintro _ wz ⟨rfl, hb⟩
    have Z2 := Z1.trans (hb.mono Z1.size)
    clear hb hHeld
    go_wp2_with fail
    refine hK.out _ _ (HA.out _ Z2) (fun hHeld => ?_)
    clear hK K
    try simp only [Act.put, List.setIfInBounds_toArray, List.set_cons_zero, List.set_cons_succ]
    refine wpAnyH_take (i := 4) (v := (.bool false)) (at_succ (at_succ (at_succ (at_succ at_zero)))) (by kernel_rfl) (by kernel_rfl) (by kernel_rfl) (fun _ _ _ h => h) (Or.inl ⟨by kernel_rfl, fun wy hSw => ?_⟩) (by assumption) ?_
    · (try dsimp only at hSw); go_simp
    try simp only [Act.put, List.setIfInBounds_toArray, List.set_cons_zero, List.set_cons_succ]
    refine wpAnyH_done (by kernel_rfl) ?_ _
    clear K3 K4
    have H3 := Z2
    obtain ⟨p0_0, p0_1, p0_2, p0_3, p0_4, p0_5, p0_6, p1_0, p1_1, p1_2⟩ := HA.out _ H3
    by_cases a2 : ak = 2
    rotate_left
    · have d3 : (ak != 2) = true := by simpa using a2
      clear a2 f2 K5 K6 K7 K8 K9
      go_wp2_with fail
      refine (KW.out _ (HT.out _ H3)).mono ?_
      rintro _ wz ⟨rfl, hb⟩
      have BZ := Lib.hid (HB.out _ (H3.trans (hb.mono H3.size)))
      clear hb
      go_wp2_with fail
      go_ret
      exact outB rfl BZ.out
    by_cases v2 : vk = 2
    rotate_left
    · have d3 : (vk != 2) = true := by simpa using v2
      have d3b : (ak != 2) = false := by rw [a2]; rfl
      clear v2 a2 f2 K5 K6 K7 K8 K9
      go_wp2_with fail
      refine (KW.out _ (HT.out _ H3)).mono ?_
      rintro _ wz ⟨rfl, hb⟩
      have BZ := Lib.hid (HB.out _ (H3.trans (hb.mono H3.size)))
      clear hb
      go_wp2_with fail
      go_ret
      exact outB rfl BZ.out
    have d3 : (ak != 2) = false := by rw [a2]; rfl
    have d3b : (vk != 2) = false := by rw [v2]; rfl
    by_cases ec : e5 = 0
    rotate_left
    · have d4 : (e5 != 0) = true := by simpa using ec
      clear v2 a2 f2 K6 K7 K8 K9 ec
      go_wp2_with fail
      refine (K5.out _).mono ?_
      rintro _ w4 ⟨rfl, hb⟩
      replace H3 := H3.trans (hb.mono H3.size)
      clear hb p0_0 p0_1 p0_2 p0_3 p0_4 p0_5 p0_6 p1_0 p1_1 p1_2
      go_wp2_with fail
      refine (KW.out _ (HT.out _ H3)).mono ?_
      rintro _ wz ⟨rfl, hb⟩
      have BZ := Lib.hid (HB.out _ (H3.trans (hb.mono H3.size)))
      clear hb
      go_wp2_with fail
      go_ret
      exact outB rfl BZ.out
    have d4 : (e5 != 0) = false := by rw [ec]; rfl
    obtain ⟨yn, ey, e6z, eyv, hnear, b1, b2, b3, b4⟩ := f2 a2 v2 ec
    have K6 := Lib.hid (fun (w1 : World) (h : StS w1 A c en) => (show Calls Tryd.prog 21 #[atV ⟨an, ak, amn, amx, en, awr, asf⟩ A c, vlV (vk, vn, vs)] w1 (OutV w1 (2, yn, ByteArray.empty)) from by
      have := K6.out w1 h
      rw [ey] at this
      exact this))
    have K7 := Lib.hid (fun (w1 : World) (h : StS w1 A c en) => (show Calls Tryd.prog 17 #[atV ⟨an, ak, amn, amx, en, awr, asf⟩ A c, vlV (2, yn, ByteArray.empty)] w1 (OutI w1 0) from by
      have := K7.out w1 h
      rw [ey, e6z] at this
      exact this))
    unfold OutV at K6
    unfold OutI at K7
    dsimp only [vlV] at K6 K7
    rw [show (ByteArray.empty : ByteArray) = { data := #[] } from rfl] at K6 K7
    have E3 := v_neq (2, yn, { data := #[] }) (vk, vn, vs)
    dsimp only [vlV] at E3
    have hyv : e6 = 0 → decide (((2, yn, { data := #[] }) : Vl) = (vk, vn, vs)) = true := fun h => decide_eq_true (eyv h)
    have hlo : decide (other < -1099511627776) = false ∨ e7 ≠ 0 := by
      by_cases h : e7 = 0
      · have := (hnear h).1; left; exact df (by omega)
      · right; exact h
    have hhi : decide (1099511627776 < other) = false ∨ e7 ≠ 0 := by
      by_cases h : e7 = 0
      · have := (hnear h).2.1; left; exact df (by omega)
      · right; exact h
    have hnr := Lib.hid (fun (h : e7 = 0) => (hnear h).2.2)
    have hob := Lib.hid (fun (h : e7 = 0) => And.intro (hnear h).1 (hnear h).2.1)
    clear ey e6z eyv hnear f2
    generalize decide (((2, yn, { data := #[] }) : Vl) = (vk, vn, vs)) = EE at *
    replace hyv := Lib.hid hyv
    replace hlo := Lib.hid hlo
    replace hhi := Lib.hid hhi
    replace b1 := Lib.hid b1
    replace b2 := Lib.hid b2
    replace b3 := Lib.hid b3
    replace b4 := Lib.hid b4
    clear ec v2 a2
    go_wp2_with fail
    refine (K5.out _).mono ?_
    rintro _ w4 ⟨rfl, hb⟩
    replace H3 := H3.trans (hb.mono H3.size)
    clear hb p0_0 p0_1 p0_2 p0_3 p0_4 p0_5 p0_6 p1_0 p1_1 p1_2
    obtain ⟨p0_0, p0_1, p0_2, p0_3, p0_4, p0_5, p0_6, p1_0, p1_1, p1_2⟩ := HA.out _ H3
    go_wp2_with fail
    refine (K6.out _ (HS.out _ H3)).mono ?_
    rintro _ w5 ⟨rfl, hb⟩
    replace H3 := H3.trans (hb.mono H3.size)
    clear hb p0_0 p0_1 p0_2 p0_3 p0_4 p0_5 p0_6 p1_0 p1_1 p1_2 K5 K6 d3 d3b d4
    have X5 := blk_new w5 (bxV (2, yn, { data := #[] }))
    have hz5 : w5.heap.size < (w5.alloc (bxV (2, yn, { data := #[] }))).heap.size := by simp
    have H4 := H3.trans ((alloc_below w5 (bxV (2, yn, { data := #[] }))).mono H3.size)
    try dsimp only at X5 H4 hz5
    have HC := Lib.hid (fun (wy : World) (hb : Below (w5.alloc (.cells #[.int .i64 2, .int .i64 yn, .string { data := #[] }] 26)).heap.size (w5.alloc (.cells #[.int .i64 2, .int .i64 yn, .string { data := #[] }] 26)) wy) => (show wy.cell? ⟨w.heap.size, 0, none⟩ = some (.string an) ∧ wy.cell? ⟨w.heap.size, 1, none⟩ = some (.int .i64 ak) ∧ wy.cell? ⟨w.heap.size, 2, none⟩ = some (.int .i64 amn) ∧ wy.cell? ⟨w.heap.size, 3, none⟩ = some (.int .i64 amx) ∧ wy.cell? ⟨w.heap.size, 4, none⟩ = some (.slice A en.length c) ∧ wy.cell? ⟨w.heap.size, 5, none⟩ = some (.bool awr) ∧ wy.cell? ⟨w.heap.size, 6, none⟩ = some (.bool asf) ∧ wy.cell? ⟨w.heap.size + 1, 0, none⟩ = some (.int .i64 vk) ∧ wy.cell? ⟨w.heap.size + 1, 1, none⟩ = some (.int .i64 vn) ∧ wy.cell? ⟨w.heap.size + 1, 2, none⟩ = some (.string vs) ∧ wy.cell? ⟨w5.heap.size, 0, none⟩ = some (.int .i64 2) ∧ wy.cell? ⟨w5.heap.size, 1, none⟩ = some (.int .i64 yn) ∧ wy.cell? ⟨w5.heap.size, 2, none⟩ = some (.string { data := #[] }) from by
      obtain ⟨p0_0, p0_1, p0_2, p0_3, p0_4, p0_5, p0_6, p1_0, p1_1, p1_2⟩ := HA.out wy (H4.trans (hb.mono H4.size))
      exact ⟨p0_0, p0_1, p0_2, p0_3, p0_4, p0_5, p0_6, p1_0, p1_1, p1_2, blk_cell (blk_below X5 hb hz5) 0 rfl, blk_cell (blk_below X5 hb hz5) 1 rfl, blk_cell (blk_below X5 hb hz5) 2 rfl⟩))
    have HT2 := Lib.hid (fun (wy : World) (hb : Below (w5.alloc (.cells #[.int .i64 2, .int .i64 yn, .string { data := #[] }] 26)).heap.size (w5.alloc (.cells #[.int .i64 2, .int .i64 yn, .string { data := #[] }] 26)) wy) => HT.out wy (H4.trans (hb.mono H4.size)))
    have HB2 := Lib.hid (fun (wy : World) (hb : Below (w5.alloc (.cells #[.int .i64 2, .int .i64 yn, .string { data := #[] }] 26)).heap.size (w5.alloc (.cells #[.int .i64 2, .int .i64 yn, .string { data := #[] }] 26)) wy) => HB.out wy (H4.trans (hb.mono H4.size)))
    have HS2 := Lib.hid (fun (wy : World) (hb : Below (w5.alloc (.cells #[.int .i64 2, .int .i64 yn, .string { data := #[] }] 26)).heap.size (w5.alloc (.cells #[.int .i64 2, .int .i64 yn, .string { data := #[] }] 26)) wy) => HS.out wy (H4.trans (hb.mono H4.size)))
    have I0 := Below.refl (w5.alloc (.cells #[.int .i64 2, .int .i64 yn, .string { data := #[] }] 26)).heap.size (w5.alloc (.cells #[.int .i64 2, .int .i64 yn, .string { data := #[] }] 26))
    clear X5 hz5 HA HT HB HS H4 H3
    obtain ⟨p0_0, p0_1, p0_2, p0_3, p0_4, p0_5, p0_6, p1_0, p1_1, p1_2, y0, y1, y2⟩ := HC.out _ I0
    go_wp2_with fail
    refine (K7.out _ (HS2.out _ I0)).mono ?_
    rintro _ w7 ⟨rfl, hb⟩
    replace I0 := I0.trans (hb.mono I0.size)
    clear hb p0_0 p0_1 p0_2 p0_3 p0_4 p0_5 p0_6 p1_0 p1_1 p1_2 y0 y1 y2
    obtain ⟨p0_0, p0_1, p0_2, p0_3, p0_4, p0_5, p0_6, p1_0, p1_1, p1_2, y0, y1, y2⟩ := HC.out _ I0
    by_cases e60 : e6 = 0
    · have d5 : (e6 == 0) = true := by rw [e60]; rfl
      obtain rfl := hyv.out e60
      clear e60 hyv
      go_wp2_with fail
      refine (K8.out _ (HS2.out _ I0)).mono ?_
      rintro _ w8 ⟨rfl, hb⟩
      replace I0 := I0.trans (hb.mono I0.size)
      clear hb p0_0 p0_1 p0_2 p0_3 p0_4 p0_5 p0_6 p1_0 p1_1 p1_2 y0 y1 y2
      obtain ⟨p0_0, p0_1, p0_2, p0_3, p0_4, p0_5, p0_6, p1_0, p1_1, p1_2, y0, y1, y2⟩ := HC.out _ I0
      go_upto_region 11 with fail
      clear d5 E3 K7 K8
      have X8 := blk_new w8 (bxV (2, other, { data := #[] }))
      have hz8 : w8.heap.size < (w8.alloc (bxV (2, other, { data := #[] }))).heap.size := by simp
      have H8 := I0.trans ((alloc_below w8 (bxV (2, other, { data := #[] }))).mono I0.size)
      try dsimp only at X8 H8 hz8
      have HD := Lib.hid (fun (wy : World) (hb : Below (w8.alloc (.cells #[.int .i64 2, .int .i64 other, .string { data := #[] }] 26)).heap.size (w8.alloc (.cells #[.int .i64 2, .int .i64 other, .string { data := #[] }] 26)) wy) => (show wy.cell? ⟨w.heap.size, 0, none⟩ = some (.string an) ∧ wy.cell? ⟨w.heap.size, 1, none⟩ = some (.int .i64 ak) ∧ wy.cell? ⟨w.heap.size, 2, none⟩ = some (.int .i64 amn) ∧ wy.cell? ⟨w.heap.size, 3, none⟩ = some (.int .i64 amx) ∧ wy.cell? ⟨w.heap.size, 4, none⟩ = some (.slice A en.length c) ∧ wy.cell? ⟨w.heap.size, 5, none⟩ = some (.bool awr) ∧ wy.cell? ⟨w.heap.size, 6, none⟩ = some (.bool asf) ∧ wy.cell? ⟨w.heap.size + 1, 0, none⟩ = some (.int .i64 vk) ∧ wy.cell? ⟨w.heap.size + 1, 1, none⟩ = some (.int .i64 vn) ∧ wy.cell? ⟨w.heap.size + 1, 2, none⟩ = some (.string vs) ∧ wy.cell? ⟨w5.heap.size, 0, none⟩ = some (.int .i64 2) ∧ wy.cell? ⟨w5.heap.size, 1, none⟩ = some (.int .i64 yn) ∧ wy.cell? ⟨w5.heap.size, 2, none⟩ = some (.string { data := #[] }) ∧ wy.cell? ⟨w8.heap.size, 0, none⟩ = some (.int .i64 2) ∧ wy.cell? ⟨w8.heap.size, 1, none⟩ = some (.int .i64 other) ∧ wy.cell? ⟨w8.heap.size, 2, none⟩ = some (.string { data := #[] }) from by
        obtain ⟨p0_0, p0_1, p0_2, p0_3, p0_4, p0_5, p0_6, p1_0, p1_1, p1_2, y0, y1, y2⟩ := HC.out wy (H8.trans (hb.mono H8.size))
        exact ⟨p0_0, p0_1, p0_2, p0_3, p0_4, p0_5, p0_6, p1_0, p1_1, p1_2, y0, y1, y2, blk_cell (blk_below X8 hb hz8) 0 rfl, blk_cell (blk_below X8 hb hz8) 1 rfl, blk_cell (blk_below X8 hb hz8) 2 rfl⟩))
      have HT3 := Lib.hid (fun (wy : World) (hb : Below (w8.alloc (.cells #[.int .i64 2, .int .i64 other, .string { data := #[] }] 26)).heap.size (w8.alloc (.cells #[.int .i64 2, .int .i64 other, .string { data := #[] }] 26)) wy) => HT2.out wy (H8.trans (hb.mono H8.size)))
      have HB3 := Lib.hid (fun (wy : World) (hb : Below (w8.alloc (.cells #[.int .i64 2, .int .i64 other, .string { data := #[] }] 26)).heap.size (w8.alloc (.cells #[.int .i64 2, .int .i64 other, .string { data := #[] }] 26)) wy) => HB2.out wy (H8.trans (hb.mono H8.size)))
      have HS3 := Lib.hid (fun (wy : World) (hb : Below (w8.alloc (.cells #[.int .i64 2, .int .i64 other, .string { data := #[] }] 26)).heap.size (w8.alloc (.cells #[.int .i64 2, .int .i64 other, .string { data := #[] }] 26)) wy) => HS2.out wy (H8.trans (hb.mono H8.size)))
      have J0 := Below.refl (w8.alloc (.cells #[.int .i64 2, .int .i64 other, .string { data := #[] }] 26)).heap.size (w8.alloc (.cells #[.int .i64 2, .int .i64 other, .string { data := #[] }] 26))
      clear X8 hz8 HC HT2 HB2 HS2 H8 I0 p0_0 p0_1 p0_2 p0_3 p0_4 p0_5 p0_6 p1_0 p1_1 p1_2 y0 y1 y2
      obtain ⟨p0_0, p0_1, p0_2, p0_3, p0_4, p0_5, p0_6, p1_0, p1_1, p1_2, y0, y1, y2, o0, o1, o2⟩ := HD.out _ J0
      go_wp2_with fail
      refine (K9.out _ (HS3.out _ J0)).mono ?_
      rintro _ w9 ⟨rfl, hb⟩
      replace J0 := J0.trans (hb.mono J0.size)
      clear hb K9 p0_0 p0_1 p0_2 p0_3 p0_4 p0_5 p0_6 p1_0 p1_1 p1_2 y0 y1 y2 o0 o1 o2
      obtain ⟨p0_0, p0_1, p0_2, p0_3, p0_4, p0_5, p0_6, p1_0, p1_1, p1_2, y0, y1, y2, o0, o1, o2⟩ := HD.out _ J0
      by_cases e70 : e7 = 0
      rotate_left
      · have d6 : (e7 != 0) = true := by simpa using e70
        clear e70 hlo hhi hnr hob
        go_wp2_with fail
        refine (KW.out _ (HT3.out _ J0)).mono ?_
        rintro _ wz ⟨rfl, hb⟩
        have BZ := Lib.hid (HB3.out _ (J0.trans (hb.mono J0.size)))
        clear hb
        go_wp2_with fail
        go_ret
        exact outB rfl BZ.out
      have d6 : (e7 != 0) = false := by rw [e70]; rfl
      have l1 : decide (other < -1099511627776) = false := hlo.out.resolve_right (fun q => q e70)
      have l2 : decide (1099511627776 < other) = false := hhi.out.resolve_right (fun q => q e70)
      have hnr := hnr.out e70
      obtain ⟨o1b, o2b⟩ := hob.out e70
      have hv1 := b1.out
      have hv2 := b2.out
      have hv3 := b3.out
      have hv4 := b4.out
      have s1 : IntKind.i64.wrap (vn - yn) = vn - yn := IntWalk.i64_in _ ⟨by omega, by omega⟩
      have s2 : IntKind.i64.wrap (vn - other) = vn - other := IntWalk.i64_in _ ⟨by omega, by omega⟩
      have s3 : IntKind.i64.wrap (-(vn - yn)) = -(vn - yn) := IntWalk.i64_in _ ⟨by omega, by omega⟩
      have s4 : IntKind.i64.wrap (-(vn - other)) = -(vn - other) := IntWalk.i64_in _ ⟨by omega, by omega⟩
      have key : ∃ d e : Int, vn - yn = d ∧ vn - other = e ∧ d.natAbs ≤ e.natAbs := ⟨_, _, rfl, rfl, hnr⟩
      obtain ⟨d, e, hd, he, hde⟩ := key
      rw [hd] at s1 s3
      rw [he] at s2 s4
      replace hd := Lib.hid hd
      replace he := Lib.hid he
      clear e70 hlo hhi hnr hob o1b o2b hv1 hv2 hv3 hv4 b1 b2 b3 b4
      go_upto_region 13 with fail
      clear d6 l1 l2
      have s1' : IntKind.i64.wrap (vn - yn) = d := by rw [hd.out]; exact s1
      have s2' : IntKind.i64.wrap (vn - other) = e := by rw [he.out]; exact s2
      clear s1 s2
      go_quiet (fail)
      clear s1' s2' hd he p0_0 p0_1 p0_2 p0_3 p0_4 p0_5 p0_6 p1_0 p1_1 p1_2 y0 y1 y2 o0 o1 o2
      by_cases n1 : d < 0 <;> by_cases n2 : e < 0
      · have t1 := dt n1
        have t2 := dt n2
        have t3 : decide (-d ≤ -e) = true := dt (by omega)
        have t4 : decide (e ≤ d) = true := dt (by omega)
        clear n1 n2 hde
        go_wp2_with fail
        refine (KW.out _ (HT3.out _ (below_drewN J0 _))).mono ?_
        rintro _ wz ⟨rfl, hb⟩
        have BZ := Lib.hid (HB3.out _ ((below_drewN J0 _).trans (hb.mono (below_drewN J0 _).size)))
        clear hb
        go_wp2_with fail
        go_ret
        exact outB rfl BZ.out
      · have t1 := dt n1
        have t2 := df n2
        have t3 : decide (-d ≤ e) = true := dt (by omega)
        clear n1 n2 hde
        go_wp2_with fail
        refine (KW.out _ (HT3.out _ (below_drewN J0 _))).mono ?_
        rintro _ wz ⟨rfl, hb⟩
        have BZ := Lib.hid (HB3.out _ ((below_drewN J0 _).trans (hb.mono (below_drewN J0 _).size)))
        clear hb
        go_wp2_with fail
        go_ret
        exact outB rfl BZ.out
      · have t1 := df n1
        have t2 := dt n2
        have t3 : decide (d ≤ -e) = true := dt (by omega)
        clear n1 n2 hde
        go_wp2_with fail
        refine (KW.out _ (HT3.out _ (below_drewN J0 _))).mono ?_
        rintro _ wz ⟨rfl, hb⟩
        have BZ := Lib.hid (HB3.out _ ((below_drewN J0 _).trans (hb.mono (below_drewN J0 _).size)))
        clear hb
        go_wp2_with fail
        go_ret
        exact outB rfl BZ.out
      · have t1 := df n1
        have t2 := df n2
        have t3 : decide (d ≤ e) = true := dt (by omega)
        clear n1 n2 hde
        go_wp2_with fail
        refine (KW.out _ (HT3.out _ (below_drewN J0 _))).mono ?_
        rintro _ wz ⟨rfl, hb⟩
        have BZ := Lib.hid (HB3.out _ ((below_drewN J0 _).trans (hb.mono (below_drewN J0 _).size)))
        clear hb
        go_wp2_with fail
        go_ret
        exact outB rfl BZ.out
    · have d5 : (e6 == 0) = false := by simpa using e60
      clear e60 hyv
      go_wp2_with fail
      refine (K8.out _ (HS2.out _ I0)).mono ?_
      rintro _ w8 ⟨rfl, hb⟩
      replace I0 := I0.trans (hb.mono I0.size)
      clear hb p0_0 p0_1 p0_2 p0_3 p0_4 p0_5 p0_6 p1_0 p1_1 p1_2 y0 y1 y2
      obtain ⟨p0_0, p0_1, p0_2, p0_3, p0_4, p0_5, p0_6, p1_0, p1_1, p1_2, y0, y1, y2⟩ := HC.out _ I0
      go_upto_region 11 with fail
      clear d5 E3 K7 K8
      have X8 := blk_new w8 (bxV (2, other, { data := #[] }))
      have hz8 : w8.heap.size < (w8.alloc (bxV (2, other, { data := #[] }))).heap.size := by simp
      have H8 := I0.trans ((alloc_below w8 (bxV (2, other, { data := #[] }))).mono I0.size)
      try dsimp only at X8 H8 hz8
      have HD := Lib.hid (fun (wy : World) (hb : Below (w8.alloc (.cells #[.int .i64 2, .int .i64 other, .string { data := #[] }] 26)).heap.size (w8.alloc (.cells #[.int .i64 2, .int .i64 other, .string { data := #[] }] 26)) wy) => (show wy.cell? ⟨w.heap.size, 0, none⟩ = some (.string an) ∧ wy.cell? ⟨w.heap.size, 1, none⟩ = some (.int .i64 ak) ∧ wy.cell? ⟨w.heap.size, 2, none⟩ = some (.int .i64 amn) ∧ wy.cell? ⟨w.heap.size, 3, none⟩ = some (.int .i64 amx) ∧ wy.cell? ⟨w.heap.size, 4, none⟩ = some (.slice A en.length c) ∧ wy.cell? ⟨w.heap.size, 5, none⟩ = some (.bool awr) ∧ wy.cell? ⟨w.heap.size, 6, none⟩ = some (.bool asf) ∧ wy.cell? ⟨w.heap.size + 1, 0, none⟩ = some (.int .i64 vk) ∧ wy.cell? ⟨w.heap.size + 1, 1, none⟩ = some (.int .i64 vn) ∧ wy.cell? ⟨w.heap.size + 1, 2, none⟩ = some (.string vs) ∧ wy.cell? ⟨w5.heap.size, 0, none⟩ = some (.int .i64 2) ∧ wy.cell? ⟨w5.heap.size, 1, none⟩ = some (.int .i64 yn) ∧ wy.cell? ⟨w5.heap.size, 2, none⟩ = some (.string { data := #[] }) ∧ wy.cell? ⟨w8.heap.size, 0, none⟩ = some (.int .i64 2) ∧ wy.cell? ⟨w8.heap.size, 1, none⟩ = some (.int .i64 other) ∧ wy.cell? ⟨w8.heap.size, 2, none⟩ = some (.string { data := #[] }) from by
        obtain ⟨p0_0, p0_1, p0_2, p0_3, p0_4, p0_5, p0_6, p1_0, p1_1, p1_2, y0, y1, y2⟩ := HC.out wy (H8.trans (hb.mono H8.size))
        exact ⟨p0_0, p0_1, p0_2, p0_3, p0_4, p0_5, p0_6, p1_0, p1_1, p1_2, y0, y1, y2, blk_cell (blk_below X8 hb hz8) 0 rfl, blk_cell (blk_below X8 hb hz8) 1 rfl, blk_cell (blk_below X8 hb hz8) 2 rfl⟩))
      have HT3 := Lib.hid (fun (wy : World) (hb : Below (w8.alloc (.cells #[.int .i64 2, .int .i64 other, .string { data := #[] }] 26)).heap.size (w8.alloc (.cells #[.int .i64 2, .int .i64 other, .string { data := #[] }] 26)) wy) => HT2.out wy (H8.trans (hb.mono H8.size)))
      have HB3 := Lib.hid (fun (wy : World) (hb : Below (w8.alloc (.cells #[.int .i64 2, .int .i64 other, .string { data := #[] }] 26)).heap.size (w8.alloc (.cells #[.int .i64 2, .int .i64 other, .string { data := #[] }] 26)) wy) => HB2.out wy (H8.trans (hb.mono H8.size)))
      have HS3 := Lib.hid (fun (wy : World) (hb : Below (w8.alloc (.cells #[.int .i64 2, .int .i64 other, .string { data := #[] }] 26)).heap.size (w8.alloc (.cells #[.int .i64 2, .int .i64 other, .string { data := #[] }] 26)) wy) => HS2.out wy (H8.trans (hb.mono H8.size)))
      have J0 := Below.refl (w8.alloc (.cells #[.int .i64 2, .int .i64 other, .string { data := #[] }] 26)).heap.size (w8.alloc (.cells #[.int .i64 2, .int .i64 other, .string { data := #[] }] 26))
      clear X8 hz8 HC HT2 HB2 HS2 H8 I0 p0_0 p0_1 p0_2 p0_3 p0_4 p0_5 p0_6 p1_0 p1_1 p1_2 y0 y1 y2
      obtain ⟨p0_0, p0_1, p0_2, p0_3, p0_4, p0_5, p0_6, p1_0, p1_1, p1_2, y0, y1, y2, o0, o1, o2⟩ := HD.out _ J0
      go_wp2_with fail
      refine (K9.out _ (HS3.out _ J0)).mono ?_
      rintro _ w9 ⟨rfl, hb⟩
      replace J0 := J0.trans (hb.mono J0.size)
      clear hb K9 p0_0 p0_1 p0_2 p0_3 p0_4 p0_5 p0_6 p1_0 p1_1 p1_2 y0 y1 y2 o0 o1 o2
      obtain ⟨p0_0, p0_1, p0_2, p0_3, p0_4, p0_5, p0_6, p1_0, p1_1, p1_2, y0, y1, y2, o0, o1, o2⟩ := HD.out _ J0
      by_cases e70 : e7 = 0
      rotate_left
      · have d6 : (e7 != 0) = true := by simpa using e70
        clear e70 hlo hhi hnr hob
        go_wp2_with fail
        refine (KW.out _ (HT3.out _ J0)).mono ?_
        rintro _ wz ⟨rfl, hb⟩
        have BZ := Lib.hid (HB3.out _ (J0.trans (hb.mono J0.size)))
        clear hb
        go_wp2_with fail
        go_ret
        exact outB rfl BZ.out
      have d6 : (e7 != 0) = false := by rw [e70]; rfl
      have l1 : decide (other < -1099511627776) = false := hlo.out.resolve_right (fun q => q e70)
      have l2 : decide (1099511627776 < other) = false := hhi.out.resolve_right (fun q => q e70)
      have hnr := hnr.out e70
      obtain ⟨o1b, o2b⟩ := hob.out e70
      have hv1 := b1.out
      have hv2 := b2.out
      have hv3 := b3.out
      have hv4 := b4.out
      have s1 : IntKind.i64.wrap (vn - yn) = vn - yn := IntWalk.i64_in _ ⟨by omega, by omega⟩
      have s2 : IntKind.i64.wrap (vn - other) = vn - other := IntWalk.i64_in _ ⟨by omega, by omega⟩
      have s3 : IntKind.i64.wrap (-(vn - yn)) = -(vn - yn) := IntWalk.i64_in _ ⟨by omega, by omega⟩
      have s4 : IntKind.i64.wrap (-(vn - other)) = -(vn - other) := IntWalk.i64_in _ ⟨by omega, by omega⟩
      have key : ∃ d e : Int, vn - yn = d ∧ vn - other = e ∧ d.natAbs ≤ e.natAbs := ⟨_, _, rfl, rfl, hnr⟩
      obtain ⟨d, e, hd, he, hde⟩ := key
      rw [hd] at s1 s3
      rw [he] at s2 s4
      replace hd := Lib.hid hd
      replace he := Lib.hid he
      clear e70 hlo hhi hnr hob o1b o2b hv1 hv2 hv3 hv4 b1 b2 b3 b4
      go_upto_region 13 with fail
      clear d6 l1 l2
      have s1' : IntKind.i64.wrap (vn - yn) = d := by rw [hd.out]; exact s1
      have s2' : IntKind.i64.wrap (vn - other) = e := by rw [he.out]; exact s2
      clear s1 s2
      go_quiet (fail)
      clear s1' s2' hd he p0_0 p0_1 p0_2 p0_3 p0_4 p0_5 p0_6 p1_0 p1_1 p1_2 y0 y1 y2 o0 o1 o2
      by_cases n1 : d < 0 <;> by_cases n2 : e < 0
      · have t1 := dt n1
        have t2 := dt n2
        have t3 : decide (-d ≤ -e) = true := dt (by omega)
        have t4 : decide (e ≤ d) = true := dt (by omega)
        clear n1 n2 hde
        go_wp2_with fail
        refine (KW.out _ (HT3.out _ (below_drewN J0 _))).mono ?_
        rintro _ wz ⟨rfl, hb⟩
        have BZ := Lib.hid (HB3.out _ ((below_drewN J0 _).trans (hb.mono (below_drewN J0 _).size)))
        clear hb
        go_wp2_with fail
        go_ret
        exact outB rfl BZ.out
      · have t1 := dt n1
        have t2 := df n2
        have t3 : decide (-d ≤ e) = true := dt (by omega)
        clear n1 n2 hde
        go_wp2_with fail
        refine (KW.out _ (HT3.out _ (below_drewN J0 _))).mono ?_
        rintro _ wz ⟨rfl, hb⟩
        have BZ := Lib.hid (HB3.out _ ((below_drewN J0 _).trans (hb.mono (below_drewN J0 _).size)))
        clear hb
        go_wp2_with fail
        go_ret
        exact outB rfl BZ.out
      · have t1 := df n1
        have t2 := dt n2
        have t3 : decide (d ≤ -e) = true := dt (by omega)
        clear n1 n2 hde
        go_wp2_with fail
        refine (KW.out _ (HT3.out _ (below_drewN J0 _))).mono ?_
        rintro _ wz ⟨rfl, hb⟩
        have BZ := Lib.hid (HB3.out _ ((below_drewN J0 _).trans (hb.mono (below_drewN J0 _).size)))
        clear hb
        go_wp2_with fail
        go_ret
        exact outB rfl BZ.out
      · have t1 := df n1
        have t2 := df n2
        have t3 : decide (d ≤ e) = true := dt (by omega)
        clear n1 n2 hde
        go_wp2_with fail
        refine (KW.out _ (HT3.out _ (below_drewN J0 _))).mono ?_
        rintro _ wz ⟨rfl, hb⟩
        have BZ := Lib.hid (HB3.out _ ((below_drewN J0 _).trans (hb.mono (below_drewN J0 _).size)))
        clear hb
        go_wp2_with fail
        go_ret
        exact outB rfl BZ.out
end Go.Proofs.YtagkmfhicpcjnaaDoor.Vlu
