/- Texts of this proof, one behind the other: no claim of its own. -/
import Derived.Test.YtagkmfhicpcjnaaDoorG4
import Derived.Deep.RegionHeld3
import Derived.Test.YtagkmfhicpcjnaaDoorG3
/- Layer 20: awake. -/
set_option linter.unusedVariables false
set_option maxRecDepth 100000
namespace Go.Proofs.YtagkmfhicpcjnaaDoor.Vlu
open Go.RowKit

set_option maxRecDepth 100000 in
set_option maxHeartbeats 4000000 in
theorem awake_any (w : World) (hT : Tabs w) : Calls Tryd.prog 12 #[] w (OutB w true) := by
  have K1 := Lib.hid (fun (w1 : World) => (show Calls Tryd.prog 15 #[.agg #[.string { data := #[108, 101, 118, 101, 108] }, .int .i64 2, .int .i64 10, .int .i64 100, .slice none 0 0, .bool false, .bool false]] w1 (OutI w1 0) from by
    have := pdef_any (⟨{ data := #[108, 101, 118, 101, 108] }, 2, 10, 100, [], false, false⟩ : At) none 0 w1 (by decide) (by decide) (SlS.nil w1)
    rw [show dfn (⟨{ data := #[108, 101, 118, 101, 108] }, 2, 10, 100, [], false, false⟩ : At) = 0 from by decide] at this
    exact this))
  have K2 := Lib.hid (fun (w1 : World) => (show Calls Tryd.prog 19 #[.agg #[.string { data := #[108, 101, 118, 101, 108] }, .int .i64 2, .int .i64 10, .int .i64 100, .slice none 0 0, .bool false, .bool false]] w1 (OutV w1 ((2, 10, { data := #[] }) : Vl)) from by
    have := pzer_any (⟨{ data := #[108, 101, 118, 101, 108] }, 2, 10, 100, [], false, false⟩ : At) none 0 w1 (by decide) (by decide) (SlS.nil w1)
    rw [show zer (⟨{ data := #[108, 101, 118, 101, 108] }, 2, 10, 100, [], false, false⟩ : At) = ((2, 10, { data := #[] }) : Vl) from by decide] at this
    exact this))
  have K3 := Lib.hid (fun (w1 : World) => (show Calls Tryd.prog 21 #[.agg #[.string { data := #[108, 101, 118, 101, 108] }, .int .i64 2, .int .i64 10, .int .i64 100, .slice none 0 0, .bool false, .bool false], .agg #[.int .i64 2, .int .i64 200, .string { data := #[] }]] w1 (OutV w1 ((2, 100, { data := #[] }) : Vl)) from by
    have := plmt_any (⟨{ data := #[108, 101, 118, 101, 108] }, 2, 10, 100, [], false, false⟩ : At) none 0 ((2, 200, { data := #[] }) : Vl) w1 (by decide) (by decide) (SlS.nil w1)
    rw [show lmt (⟨{ data := #[108, 101, 118, 101, 108] }, 2, 10, 100, [], false, false⟩ : At) ((2, 200, { data := #[] }) : Vl) = ((2, 100, { data := #[] }) : Vl) from by decide] at this
    exact this))
  have K4 := Lib.hid (fun (w1 : World) => (show Calls Tryd.prog 17 #[.agg #[.string { data := #[108, 101, 118, 101, 108] }, .int .i64 2, .int .i64 10, .int .i64 100, .slice none 0 0, .bool false, .bool false], .agg #[.int .i64 2, .int .i64 200, .string { data := #[] }]] w1 (OutI w1 2) from by
    have := pfits_any (⟨{ data := #[108, 101, 118, 101, 108] }, 2, 10, 100, [], false, false⟩ : At) none 0 ((2, 200, { data := #[] }) : Vl) w1 (by decide) (by decide) (SlS.nil w1) (by decide)
    rw [show fits (⟨{ data := #[108, 101, 118, 101, 108] }, 2, 10, 100, [], false, false⟩ : At) ((2, 200, { data := #[] }) : Vl) = 2 from by decide] at this
    exact this))
  have K5 := Lib.hid (fun (w1 : World) => (show Calls Tryd.prog 17 #[.agg #[.string { data := #[108, 101, 118, 101, 108] }, .int .i64 2, .int .i64 10, .int .i64 100, .slice none 0 0, .bool false, .bool false], .agg #[.int .i64 1, .int .i64 0, .string { data := #[] }]] w1 (OutI w1 11) from by
    have := pfits_any (⟨{ data := #[108, 101, 118, 101, 108] }, 2, 10, 100, [], false, false⟩ : At) none 0 ((1, 0, { data := #[] }) : Vl) w1 (by decide) (by decide) (SlS.nil w1) (by decide)
    rw [show fits (⟨{ data := #[108, 101, 118, 101, 108] }, 2, 10, 100, [], false, false⟩ : At) ((1, 0, { data := #[] }) : Vl) = 11 from by decide] at this
    exact this))
  have K6 := Lib.hid (fun (w1 : World) (hT1 : Tabs w1) => (show Calls Tryd.prog 36 #[.agg #[.int .i64 3, .int .i64 2, .string { data := #[] }]] w1 (OutY w1 { data := #[35, 50] }) from by
    have := pprt_any ((3, 2, { data := #[] }) : Vl) w1 (by decide) hT1
    rw [show prt ((3, 2, { data := #[] }) : Vl) = ({ data := #[35, 50] } : ByteArray) from by decide] at this
    exact this))
  have K7 := Lib.hid (fun (w1 : World) (hT1 : Tabs w1) => (show Calls Tryd.prog 36 #[.agg #[.int .i64 4, .int .i64 0, .string { data := #[97, 34, 98] }]] w1 (OutY w1 { data := #[34, 97, 92, 34, 98, 34] }) from by
    have := pprt_any ((4, 0, { data := #[97, 34, 98] }) : Vl) w1 (by decide) hT1
    rw [show prt ((4, 0, { data := #[97, 34, 98] }) : Vl) = ({ data := #[34, 97, 92, 34, 98, 34] } : ByteArray) from by decide] at this
    exact this))
  have K8 := Lib.hid (fun (w1 : World) => (show Calls Tryd.prog 27 #[.agg #[.int .i64 2, .int .i64 5, .string { data := #[] }]] w1 (OutY w1 { data := #[4, 10] }) from by
    have := pput_any ((2, 5, { data := #[] }) : Vl) w1 (by decide) (by unfold I64; decide) (by unfold I64; decide)
    rw [show Wire.bs (put ((2, 5, { data := #[] }) : Vl)) = ({ data := #[4, 10] } : ByteArray) from by decide] at this
    exact this))
  have K9 := Lib.hid (fun (w1 : World) => (show Calls Tryd.prog 23 #[.agg #[.int .i64 0, .int .i64 0, .string { data := #[] }], .agg #[.int .i64 2, .int .i64 200, .string { data := #[] }]] w1 (OutB w1 true) from by
    have := pless_any ((0, 0, { data := #[] }) : Vl) ((2, 200, { data := #[] }) : Vl) w1
    rw [show less ((0, 0, { data := #[] }) : Vl) ((2, 200, { data := #[] }) : Vl) = true from by decide] at this
    exact this))
  have KA := Lib.hid (fun (w1 : World) (hT1 : Tabs w1) => (show Calls Tryd.prog 34 #[.string { data := #[35, 54, 52] }] w1 (OutD w1 (((0, 0, { data := #[] }) : Vl), 4)) from by
    have := pprs_any { data := #[35, 54, 52] } w1 (by decide) hT1
    rw [show prs ({ data := #[35, 54, 52] } : ByteArray) = (((0, 0, { data := #[] }) : Vl), 4) from by decide] at this
    exact this))
  have KB := Lib.hid (fun (w1 : World) (hT1 : Tabs w1) => (show Calls Tryd.prog 34 #[.string { data := #[50, 48, 48] }] w1 (OutD w1 (((2, 200, { data := #[] }) : Vl), 0)) from by
    have := pprs_any { data := #[50, 48, 48] } w1 (by decide) hT1
    rw [show prs ({ data := #[50, 48, 48] } : ByteArray) = (((2, 200, { data := #[] }) : Vl), 0) from by decide] at this
    exact this))
  have KC := Lib.hid (fun (w1 : World) => (show Calls Tryd.prog 25 #[.string { data := #[4, 10] }] w1 (OutD w1 (((2, 5, { data := #[] }) : Vl), 0)) from by
    have := pdec_any { data := #[4, 10] } w1 (by decide)
    rw [show dcd ({ data := #[4, 10] } : ByteArray) = (((2, 5, { data := #[] }) : Vl), 0) from by decide] at this
    exact this))
  unfold OutI at K1 K4 K5
  unfold OutV at K2 K3
  unfold OutY at K6 K7 K8
  unfold OutB at K9
  unfold OutD at KA KB KC
  dsimp only [vlV] at K2 K3 KA KB KC
  have b0 := alloc_below w (bxA (⟨{ data := #[108, 101, 118, 101, 108] }, 2, 10, 100, [], false, false⟩ : At) none 0)
  have b1 := alloc_below (w.alloc (bxA (⟨{ data := #[108, 101, 118, 101, 108] }, 2, 10, 100, [], false, false⟩ : At) none 0)) (bxV ((2, 200, { data := #[] }) : Vl))
  have b01 := b0.trans (b1.mono (by simp))
  have XA := blk_alloc (blk_new w (bxA (⟨{ data := #[108, 101, 118, 101, 108] }, 2, 10, 100, [], false, false⟩ : At) none 0)) (bxV ((2, 200, { data := #[] }) : Vl))
  have XV := blk_new (w.alloc (bxA (⟨{ data := #[108, 101, 118, 101, 108] }, 2, 10, 100, [], false, false⟩ : At) none 0)) (bxV ((2, 200, { data := #[] }) : Vl))
  rw [show (w.alloc (bxA (⟨{ data := #[108, 101, 118, 101, 108] }, 2, 10, 100, [], false, false⟩ : At) none 0)).heap.size = w.heap.size + 1 by simp] at XV
  have hz : w.heap.size + 1 < ((w.alloc (bxA (⟨{ data := #[108, 101, 118, 101, 108] }, 2, 10, 100, [], false, false⟩ : At) none 0)).alloc (bxV ((2, 200, { data := #[] }) : Vl))).heap.size := by simp
  obtain ⟨W, hW⟩ : ∃ W, (w.alloc (bxA (⟨{ data := #[108, 101, 118, 101, 108] }, 2, 10, 100, [], false, false⟩ : At) none 0)).alloc (bxV ((2, 200, { data := #[] }) : Vl)) = W := ⟨_, rfl⟩
  rw [hW] at XA XV hz b01
  have hW' : (w.alloc (.cells #[.string { data := #[108, 101, 118, 101, 108] }, .int .i64 2, .int .i64 10, .int .i64 100, .slice none 0 0, .bool false, .bool false] 24)).alloc (.cells #[.int .i64 2, .int .i64 200, .string { data := #[] }] 26) = W := hW
  have HA := Lib.hid (fun (w1 : World) (hb : Below W.heap.size W w1) => (show w1.cell? ⟨w.heap.size, 0, none⟩ = some (.string { data := #[108, 101, 118, 101, 108] }) ∧ w1.cell? ⟨w.heap.size, 1, none⟩ = some (.int .i64 2) ∧ w1.cell? ⟨w.heap.size, 2, none⟩ = some (.int .i64 10) ∧ w1.cell? ⟨w.heap.size, 3, none⟩ = some (.int .i64 100) ∧ w1.cell? ⟨w.heap.size, 4, none⟩ = some (.slice none 0 0) ∧ w1.cell? ⟨w.heap.size, 5, none⟩ = some (.bool false) ∧ w1.cell? ⟨w.heap.size, 6, none⟩ = some (.bool false) ∧ w1.cell? ⟨w.heap.size + 1, 0, none⟩ = some (.int .i64 2) ∧ w1.cell? ⟨w.heap.size + 1, 1, none⟩ = some (.int .i64 200) ∧ w1.cell? ⟨w.heap.size + 1, 2, none⟩ = some (.string { data := #[] }) from ⟨blk_cell (blk_below XA hb (by omega)) 0 rfl, blk_cell (blk_below XA hb (by omega)) 1 rfl, blk_cell (blk_below XA hb (by omega)) 2 rfl, blk_cell (blk_below XA hb (by omega)) 3 rfl, blk_cell (blk_below XA hb (by omega)) 4 rfl, blk_cell (blk_below XA hb (by omega)) 5 rfl, blk_cell (blk_below XA hb (by omega)) 6 rfl, blk_cell (blk_below XV hb (by omega)) 0 rfl, blk_cell (blk_below XV hb (by omega)) 1 rfl, blk_cell (blk_below XV hb (by omega)) 2 rfl⟩))
  have HT := Lib.hid (fun (w1 : World) (hb : Below W.heap.size W w1) => hT.below (b01.trans (hb.mono b01.size)))
  have HB := Lib.hid (fun (w1 : World) (hb : Below W.heap.size W w1) => (show Below w.heap.size w w1 from b01.trans (hb.mono b01.size)))
  replace hW' := Lib.hid hW'
  clear b0 b1 b01 XA XV hz hW hT
  have H0 := Below.refl W.heap.size W
  have g1 : ∀ W : World, (Instr.field 26 (.agg #[.int .i64 2, .int .i64 10, .string { data := #[] }]) 1).run Tryd.prog W = .ok (.int .i64 10) W := fun W => by first | kernel_rfl | go_simp | simp [Instr.field]
  have g2 : ∀ W : World, (Instr.field 26 (.agg #[.int .i64 2, .int .i64 100, .string { data := #[] }]) 1).run Tryd.prog W = .ok (.int .i64 100) W := fun W => by first | kernel_rfl | go_simp | simp [Instr.field]
  obtain ⟨p0, p1, p2, p3, p4, p5, p6, n0, n1, n2⟩ := HA.out W H0
  go_enter Tryd.func12, Tryd.ntmps12
  go_upto_region 3 with fail
  rw [hW'.out]
  clear hW'
  go_wp2_with fail
  refine (K1.out _).mono ?_
  rintro _ w1 ⟨rfl, hb⟩
  have H1 := H0.trans (hb.mono H0.size)
  clear hb K1 p0 p1 p2 p3 p4 p5 p6 n0 n1 n2
  obtain ⟨p0, p1, p2, p3, p4, p5, p6, n0, n1, n2⟩ := HA.out w1 H1
  go_wp2_with fail
  refine (K2.out _).mono ?_
  rintro _ w2 ⟨rfl, hb⟩
  have H2 := H1.trans (hb.mono H1.size)
  clear hb K2 p0 p1 p2 p3 p4 p5 p6 n0 n1 n2
  obtain ⟨p0, p1, p2, p3, p4, p5, p6, n0, n1, n2⟩ := HA.out w2 H2
  go_wp2_with fail
  refine (K3.out _).mono ?_
  rintro _ w3 ⟨rfl, hb⟩
  have H3 := H2.trans (hb.mono H2.size)
  clear hb K3 p0 p1 p2 p3 p4 p5 p6 n0 n1 n2
  obtain ⟨p0, p1, p2, p3, p4, p5, p6, n0, n1, n2⟩ := HA.out w3 H3
  go_wp2_with fail
  refine (K4.out _).mono ?_
  rintro _ w4 ⟨rfl, hb⟩
  have H4 := H3.trans (hb.mono H3.size)
  clear hb K4 p0 p1 p2 p3 p4 p5 p6 n0 n1 n2
  obtain ⟨p0, p1, p2, p3, p4, p5, p6, n0, n1, n2⟩ := HA.out w4 H4
  go_wp2_with fail
  refine (K5.out _).mono ?_
  rintro _ w5 ⟨rfl, hb⟩
  have H5 := H4.trans (hb.mono H4.size)
  clear hb K5 p0 p1 p2 p3 p4 p5 p6 n0 n1 n2
  obtain ⟨p0, p1, p2, p3, p4, p5, p6, n0, n1, n2⟩ := HA.out w5 H5
  go_wp2_with fail
  refine (K6.out _ (HT.out _ H5)).mono ?_
  rintro _ w6 ⟨rfl, hb⟩
  have H6 := H5.trans (hb.mono H5.size)
  clear hb K6 p0 p1 p2 p3 p4 p5 p6 n0 n1 n2
  obtain ⟨p0, p1, p2, p3, p4, p5, p6, n0, n1, n2⟩ := HA.out w6 H6
  go_wp2_with fail
  refine (K7.out _ (HT.out _ H6)).mono ?_
  rintro _ w7 ⟨rfl, hb⟩
  have H7 := H6.trans (hb.mono H6.size)
  clear hb K7 p0 p1 p2 p3 p4 p5 p6 n0 n1 n2
  obtain ⟨p0, p1, p2, p3, p4, p5, p6, n0, n1, n2⟩ := HA.out w7 H7
  go_wp2_with fail
  refine (K8.out _).mono ?_
  rintro _ w8 ⟨rfl, hb⟩
  have H8 := H7.trans (hb.mono H7.size)
  clear hb K8 p0 p1 p2 p3 p4 p5 p6 n0 n1 n2
  obtain ⟨p0, p1, p2, p3, p4, p5, p6, n0, n1, n2⟩ := HA.out w8 H8
  go_wp2_with fail
  refine (K9.out _).mono ?_
  rintro _ w9 ⟨rfl, hb⟩
  have H9 := H8.trans (hb.mono H8.size)
  clear hb K9 p0 p1 p2 p3 p4 p5 p6 n0 n1 n2
  obtain ⟨p0, p1, p2, p3, p4, p5, p6, n0, n1, n2⟩ := HA.out w9 H9
  go_wp2_with fail
  refine (KA.out _ (HT.out _ H9)).mono ?_
  rintro _ w10 ⟨rfl, hb⟩
  have H10 := H9.trans (hb.mono H9.size)
  clear hb KA p0 p1 p2 p3 p4 p5 p6 n0 n1 n2
  obtain ⟨p0, p1, p2, p3, p4, p5, p6, n0, n1, n2⟩ := HA.out w10 H10
  go_wp2_with fail
  have HX := H10.trans ((alloc_below w10 (bxV ((0, 0, { data := #[] }) : Vl))).mono H10.size)
  refine (KB.out _ (HT.out _ HX)).mono ?_
  rintro _ w11 ⟨rfl, hb⟩
  have H11 := HX.trans (hb.mono HX.size)
  clear hb KB p0 p1 p2 p3 p4 p5 p6 n0 n1 n2
  obtain ⟨p0, p1, p2, p3, p4, p5, p6, n0, n1, n2⟩ := HA.out w11 H11
  have X5 := blk_new w11 (bxV ((2, 200, { data := #[] }) : Vl))
  have HY := H11.trans ((alloc_below w11 (bxV ((2, 200, { data := #[] }) : Vl))).mono H11.size)
  have hz5 : w11.heap.size < (w11.alloc (bxV ((2, 200, { data := #[] }) : Vl))).heap.size := by simp
  go_wp2_with fail
  refine (KC.out _).mono ?_
  rintro _ w12 ⟨rfl, hb⟩
  have H12 := HY.trans (hb.mono HY.size)
  replace X5 := blk_below X5 hb hz5
  clear hb KC p0 p1 p2 p3 p4 p5 p6 n0 n1 n2
  obtain ⟨p0, p1, p2, p3, p4, p5, p6, n0, n1, n2⟩ := HA.out w12 H12
  have HZ := H12.trans ((alloc_below w12 (bxV ((2, 5, { data := #[] }) : Vl))).mono H12.size)
  obtain ⟨z0c, z1c, z2c, z3c, z4c, z5c, z6c, y0c, y1c, y2c⟩ := HA.out _ HZ
  have X7 := blk_new w12 (bxV ((2, 5, { data := #[] }) : Vl))
  replace X5 := blk_alloc X5 (bxV ((2, 5, { data := #[] }) : Vl))
  have s0c := blk_cell X5 0 (v := .int .i64 2) rfl
  have s1c := blk_cell X5 1 (v := .int .i64 200) rfl
  have s2c := blk_cell X5 2 (v := .string { data := #[] }) rfl
  have r1c := blk_cell X7 1 (v := .int .i64 5) rfl
  have BB := Lib.hid (HB.out _ HZ)
  clear X5 X7
  go_wp2_with fail
  go_ret
  exact outB rfl BB.out
end Go.Proofs.YtagkmfhicpcjnaaDoor.Vlu
/- Layer 20: few; the law ValueOrder. -/
set_option linter.unusedVariables false
set_option maxRecDepth 100000
namespace Go.Proofs.YtagkmfhicpcjnaaDoor.Vlu
open Go.RowKit

def fw (a : At) (v : Vl) : Bool := !(decide (70 < a.en.length) || decide (100 < a.n.size) || decide (100 < v.2.2.size)) && a.en.all fun x => decide (x.size ≤ 100)
theorem fw_is {a : At} {v : Vl} (h : fw a v = true) : a.en.length ≤ 70 ∧ a.n.size ≤ 100 ∧ v.2.2.size ≤ 100 := by
  unfold fw at h
  simp only [Bool.and_eq_true, Bool.not_eq_true', Bool.or_eq_false_iff, decide_eq_false_iff_not] at h
  omega
theorem all_take (l : List ByteArray) (p : ByteArray → Bool) (k : Nat) (h : k < l.length) : (l.take (k + 1)).all p = ((l.take k).all p && p l[k]) := by
  rw [List.take_succ_eq_append_getElem h, List.all_append]
  simp
theorem all_no (l : List ByteArray) (p : ByteArray → Bool) (k : Nat) (h : k < l.length) (e : p l[k] = false) : l.all p = false := by
  cases q : l.all p with
  | false => rfl
  | true =>
    have := List.all_eq_true.1 q l[k] (List.getElem_mem h)
    rw [e] at this
    cases this
set_option maxRecDepth 100000 in
set_option maxHeartbeats 4000000 in
theorem few_any (a : At) (A : Option Addr) (c : Nat) (v : Vl) (w : World) (hn : a.n.size ≤ 9223372036854775807) (hl : a.en.length ≤ 9223372036854775807) (hA : StS w A c a.en) (hv : v.2.2.size ≤ 9223372036854775807) :
    Calls Tryd.prog 11 #[atV a A c, vlV v] w (OutB w (fw a v)) := by
  have b0 := alloc_below w (bxA a A c)
  have b1 := alloc_below (w.alloc (bxA a A c)) (bxV v)
  have b01 := b0.trans (b1.mono (by simp))
  have XA := blk_alloc (blk_new w (bxA a A c)) (bxV v)
  have XV := blk_new (w.alloc (bxA a A c)) (bxV v)
  rw [show (w.alloc (bxA a A c)).heap.size = w.heap.size + 1 by simp] at XV
  have hA1 := (hA.next b0).next b1
  have D : fw a v = (!(decide (70 < a.en.length) || decide (100 < a.n.size) || decide (100 < v.2.2.size)) && a.en.all fun x => decide (x.size ≤ 100)) := rfl
  obtain ⟨W, hW⟩ : ∃ W, (w.alloc (bxA a A c)).alloc (bxV v) = W := ⟨_, rfl⟩
  rw [hW] at XA XV hA1 b01
  generalize fw a v = F at *
  obtain ⟨an, ak, amn, amx, en, awr, asf⟩ := a
  obtain ⟨k, n, s⟩ := v
  have hW' : (w.alloc (.cells #[.string an, .int .i64 ak, .int .i64 amn, .int .i64 amx, .slice A en.length c, .bool awr, .bool asf] 24)).alloc (.cells #[.int .i64 k, .int .i64 n, .string s] 26) = W := hW
  dsimp only at D hn hl hv hA1
  replace D := Lib.hid D
  replace hW' := Lib.hid hW'
  have HA := Lib.hid hA1
  have B := Lib.hid b01
  have p0 := blk_cell XA 0 (v := .string an) rfl
  have p4 := blk_cell XA 4 (v := .slice A en.length c) rfl
  have v2 := blk_cell XV 2 (v := .string s) rfl
  clear b0 b1 b01 XA XV hW hA hA1
  go_enter Tryd.func11, Tryd.ntmps11
  go_upto_region 1 with fail
  rw [hW'.out]
  clear hW'
  by_cases h1 : 70 < en.length
  · have R := Lib.hid (show F = false by rw [D.out, decide_eq_true h1]; rfl)
    have d1 := dt (show (70 : Int) < (en.length : Int) by omega)
    clear D HA h1
    go_wp2_with fail
    go_ret
    exact outB R.out.symm B.out
  have d1 := df (show ¬ (70 : Int) < (en.length : Int) by omega)
  by_cases h2 : 100 < an.size
  · have R := Lib.hid (show F = false by rw [D.out, decide_eq_true h2, Bool.or_true]; rfl)
    have d2 := dt (show (100 : Int) < (an.size : Int) by omega)
    clear D HA h1 h2
    go_wp2_with fail
    go_ret
    exact outB R.out.symm B.out
  have d2 := df (show ¬ (100 : Int) < (an.size : Int) by omega)
  by_cases h3 : 100 < s.size
  · have R := Lib.hid (show F = false by rw [D.out, decide_eq_true h3, Bool.or_true]; rfl)
    have d3 := dt (show (100 : Int) < (s.size : Int) by omega)
    clear D HA h1 h2 h3
    go_wp2_with fail
    go_ret
    exact outB R.out.symm B.out
  have d3 := df (show ¬ (100 : Int) < (s.size : Int) by omega)
  have R := Lib.hid (show F = en.all fun x => decide (x.size ≤ 100) by rw [D.out, decide_eq_false h1, decide_eq_false h2, decide_eq_false h3]; rfl)
  have GN := Lib.hid (fun (k : Nat) (h : k < en.length) (q : (en.take k).all (fun x => decide (x.size ≤ 100)) = true) (e : en[k].size ≤ 100) => (show (en.take (k + 1)).all (fun x => decide (x.size ≤ 100)) = true from by rw [all_take _ _ k h, q]; simpa using e))
  have GF := Lib.hid (fun (k : Nat) (h : k < en.length) (e : ¬ en[k].size ≤ 100) => (show F = false from R.out.trans (all_no en _ k h (by simpa using e))))
  clear D h2 h3
  go_wp2_with fail
  clear d1 d2 d3 v2 p0
  go_loop [5] (fun vi => ∃ k : Nat, vi = .int .i64 k ∧ k ≤ en.length ∧ Hid ((en.take k).all (fun x => decide (x.size ≤ 100)) = true)) (fun vi => en.length - (intOf vi).toNat)
  case atStart => exact ⟨0, rfl, Nat.zero_le _, Lib.hid rfl⟩
  case round =>
    obtain ⟨k, rfl, hk, RK⟩ := hrel
    by_cases hlt : k < en.length
    · obtain ⟨b, p, rfl, hbw, hc, hsz⟩ := st_cell HA.out k hlt
      by_cases e : en[k].size ≤ 100
      · have R2 := Lib.hid (GN.out k hlt RK.out e)
        have d1 := df (show ¬ (100 : Int) < (en[k].size : Int) by omega)
        clear GN GF RK e R HA
        generalize en[k] = x at *
        go_wp2_with fail
        go_round
        case rel => exact ⟨k + 1, by go_num, hlt, R2⟩
        case measure => first | (simp [intOf]; done) | (simp [intOf]; omega)
      · have R2 := Lib.hid (GF.out k hlt e)
        have d1 := dt (show (100 : Int) < (en[k].size : Int) by omega)
        clear GN GF RK e R HA
        generalize en[k] = x at *
        go_wp2_with fail
        go_ret
        exact outB R2.out.symm B.out
    · obtain rfl : k = en.length := by omega
      have R2 := Lib.hid (show F = true by rw [R.out]; have := RK.out; rw [List.take_length] at this; exact this)
      clear GN GF RK R HA
      go_wp2_with fail
      go_ret
      exact outB R2.out.symm B.out
end Go.Proofs.YtagkmfhicpcjnaaDoor.Vlu
/- Layer 20: the laws ValueChecks, ValueLimits, ValueOrder. -/
set_option linter.unusedVariables false
set_option maxRecDepth 100000
namespace Go.Proofs.YtagkmfhicpcjnaaDoor.Vlu
open Go.RowKit

theorem v_eq (a b : Vl) (W : World) : (binOp .eql 26 (vlV a) (vlV b)).run Tryd.prog W = .ok (.bool (decide (a = b))) W := by
  have hS : Tryd.prog.underlying 26 = some (.struct (Tryd.prog.fieldsOf 26)) := by kernel_rfl
  have hp : Tryd.prog.stoodInHeld 26 = false := by kernel_rfl
  have u3 := Tryd.underlying3
  have u9 := Tryd.underlying9
  obtain ⟨ak, an, as_⟩ := a
  obtain ⟨bk, bn, bs_⟩ := b
  dsimp only [vlV]
  rw [run_eql_struct, show (10000 : Nat) = 9999 + 1 from rfl, run_equalIn_agg W 9999 26 _ _ hS hp]
  simp only [Program.fieldsOf, Tryd.underlying26]
  go_simp
  have q := seq_test as_ bs_
  have q2 : as_.toList = bs_.toList ↔ as_ = bs_ := by rw [← beq_iff_eq, q]; simp
  by_cases h1 : ak = bk <;> by_cases h2 : an = bn <;> by_cases h3 : as_ = bs_ <;> simp [h1, h2, h3, q2]
theorem v_neq (a b : Vl) (W : World) : (binOp .neq 26 (vlV a) (vlV b)).run Tryd.prog W = .ok (.bool (!decide (a = b))) W := by
  have := v_eq a b W
  simp only [binOp, Sem.run_bind, Sem.run_pure] at this ⊢
  generalize Sem.run Tryd.prog (Op.equal 26 (vlV a) (vlV b)) W = R at *
  cases R <;> simp_all [Result.andThen]
theorem v_self (a : Vl) (W : World) : (binOp .eql 26 (vlV a) (vlV a)).run Tryd.prog W = .ok (.bool true) W := by
  rw [v_eq, decide_eq_true rfl]

set_option maxRecDepth 100000 in
set_option maxHeartbeats 4000000 in
theorem law_checks (a : At) (A : Option Addr) (c : Nat) (v : Vl) (w : World) (hT : Tabs w) (hA : StS w A c a.en) (hn : a.n.size ≤ 9223372036854775807) (hl : a.en.length ≤ 9223372036854775807) (hv : v.2.2.size ≤ 9223372036854775807) :
    Calls Tryd.prog 3 #[atV a A c, vlV v] w (OutB w true) := by
  have KW := Lib.hid (fun (w1 : World) (h : Tabs w1) => awake_any w1 h)
  have KF := Lib.hid (fun (w1 : World) (h : StS w1 A c a.en) => few_any a A c v w1 hn hl h hv)
  have K1 := Lib.hid (fun (w1 : World) => pcheck_any v w1 hv)
  have K2 := Lib.hid (fun (w1 : World) => rcheck_any v w1 hv)
  have K3 := Lib.hid (fun (w1 : World) (q : a.en.length ≤ 9223372036854775807) (h : StS w1 A c a.en) => pdef_any a A c w1 hn q h)
  have K4 := Lib.hid (fun (w1 : World) (q : a.en.length ≤ 9223372036854775807) (h : StS w1 A c a.en) => rdef_any a A c w1 hn q h)
  have K5 := Lib.hid (fun (w1 : World) (q : a.en.length ≤ 9223372036854775807) (h : StS w1 A c a.en) => pfits_any a A c v w1 hn q h hv)
  have K6 := Lib.hid (fun (w1 : World) (q : a.en.length ≤ 9223372036854775807) (h : StS w1 A c a.en) => rfits_any a A c v w1 hn q h hv)
  have FW := Lib.hid (fun (h : fw a v = true) => fw_is h)
  unfold OutB at KW KF
  unfold OutI at K1 K2 K3 K4 K5 K6
  generalize chk v = e1 at *
  generalize dfn a = e2 at *
  generalize fits a v = e3 at *
  generalize fw a v = F at *
  have b0 := alloc_below w (bxA a A c)
  have b1 := b0.trans ((alloc_below (w.alloc (bxA a A c)) (bxV v)).mono (by simp <;> omega))
  have X0 := blk_new w (bxA a A c)
  have X1 := blk_new (w.alloc (bxA a A c)) (bxV v)
  rw [show (w.alloc (bxA a A c)).heap.size = w.heap.size + 1 by simp] at X1
  replace X0 := blk_alloc X0 (bxV v)
  have hz : w.heap.size + 2 ≤ ((w.alloc (bxA a A c)).alloc (bxV v)).heap.size := by simp
  obtain ⟨W, hW⟩ : ∃ W, ((w.alloc (bxA a A c)).alloc (bxV v)) = W := ⟨_, rfl⟩
  rw [hW] at X0 X1 hz b1
  have hA : StS w A c a.en := hA
  obtain ⟨an, ak, amn, amx, en, awr, asf⟩ := a
  obtain ⟨vk, vn, vs⟩ := v
  dsimp only at *
  have HA := Lib.hid (fun (w1 : World) (hb : Below W.heap.size W w1) => (show w1.cell? ⟨w.heap.size, 0, none⟩ = some (.string an) ∧ w1.cell? ⟨w.heap.size, 1, none⟩ = some (.int .i64 ak) ∧ w1.cell? ⟨w.heap.size, 2, none⟩ = some (.int .i64 amn) ∧ w1.cell? ⟨w.heap.size, 3, none⟩ = some (.int .i64 amx) ∧ w1.cell? ⟨w.heap.size, 4, none⟩ = some (.slice A en.length c) ∧ w1.cell? ⟨w.heap.size, 5, none⟩ = some (.bool awr) ∧ w1.cell? ⟨w.heap.size, 6, none⟩ = some (.bool asf) ∧ w1.cell? ⟨w.heap.size + 1, 0, none⟩ = some (.int .i64 vk) ∧ w1.cell? ⟨w.heap.size + 1, 1, none⟩ = some (.int .i64 vn) ∧ w1.cell? ⟨w.heap.size + 1, 2, none⟩ = some (.string vs) from ⟨blk_cell (blk_below X0 hb (by omega)) 0 rfl, blk_cell (blk_below X0 hb (by omega)) 1 rfl, blk_cell (blk_below X0 hb (by omega)) 2 rfl, blk_cell (blk_below X0 hb (by omega)) 3 rfl, blk_cell (blk_below X0 hb (by omega)) 4 rfl, blk_cell (blk_below X0 hb (by omega)) 5 rfl, blk_cell (blk_below X0 hb (by omega)) 6 rfl, blk_cell (blk_below X1 hb (by omega)) 0 rfl, blk_cell (blk_below X1 hb (by omega)) 1 rfl, blk_cell (blk_below X1 hb (by omega)) 2 rfl⟩))
  have HT := Lib.hid (fun (w1 : World) (hb : Below W.heap.size W w1) => hT.below (b1.trans (hb.mono b1.size)))
  have HB := Lib.hid (fun (w1 : World) (hb : Below W.heap.size W w1) => (show Below w.heap.size w w1 from b1.trans (hb.mono b1.size)))
  have HS := Lib.hid (fun (w1 : World) (hb : Below W.heap.size W w1) => (hA.next b1).next hb)
  have hW' : ((w.alloc (.cells #[.string an, .int .i64 ak, .int .i64 amn, .int .i64 amx, .slice A en.length c, .bool awr, .bool asf] 24)).alloc (.cells #[.int .i64 vk, .int .i64 vn, .string vs] 26)) = W := hW
  replace hW' := Lib.hid hW'
  clear hW b0 b1 X0 X1 hz hT hA
  have H0 := Below.refl W.heap.size W
  obtain ⟨p0_0, p0_1, p0_2, p0_3, p0_4, p0_5, p0_6, p1_0, p1_1, p1_2⟩ := HA.out W H0
  go_enter Tryd.func3, Tryd.ntmps3
  go_upto_region 1 with fail
  rw [hW'.out]
  clear hW'
  go_wp2_with fail
  refine (KF.out _ (HS.out _ H0)).mono ?_
  rintro _ w2 ⟨rfl, hb⟩
  have H1 := H0.trans (hb.mono H0.size)
  clear hb p0_0 p0_1 p0_2 p0_3 p0_4 p0_5 p0_6 p1_0 p1_1 p1_2
  cases F with
  | false =>
    go_wp2_with fail
    refine (KW.out _ (HT.out _ H1)).mono ?_
    rintro _ wz ⟨rfl, hb⟩
    have BZ := Lib.hid (HB.out _ (H1.trans (hb.mono H1.size)))
    clear hb
    go_wp2_with fail
    go_ret
    exact outB rfl BZ.out
  | true =>
    obtain ⟨q1, q2, q3⟩ := FW.out rfl
    have K3 := Lib.hid (fun (w1 : World) => K3.out w1 (by omega))
    have K4 := Lib.hid (fun (w1 : World) => K4.out w1 (by omega))
    have K5 := Lib.hid (fun (w1 : World) => K5.out w1 (by omega))
    have K6 := Lib.hid (fun (w1 : World) => K6.out w1 (by omega))
    clear FW KF q1 q2 q3
    have Z0 : Below W.heap.size W w2.drew := H1.trans (below_drewN (Below.refl _ _) 1 |>.mono H1.size)
    go_wp2_with fail
    refine wp_region_held_drew (S := (fun wy : World => wy.cell? ⟨w.heap.size, 0, none⟩ = some (.string an) ∧ wy.cell? ⟨w.heap.size, 1, none⟩ = some (.int .i64 ak) ∧ wy.cell? ⟨w.heap.size, 2, none⟩ = some (.int .i64 amn) ∧ wy.cell? ⟨w.heap.size, 3, none⟩ = some (.int .i64 amx) ∧ wy.cell? ⟨w.heap.size, 4, none⟩ = some (.slice A en.length c) ∧ wy.cell? ⟨w.heap.size, 5, none⟩ = some (.bool awr) ∧ wy.cell? ⟨w.heap.size, 6, none⟩ = some (.bool asf) ∧ wy.cell? ⟨w.heap.size + 1, 0, none⟩ = some (.int .i64 vk) ∧ wy.cell? ⟨w.heap.size + 1, 1, none⟩ = some (.int .i64 vn) ∧ wy.cell? ⟨w.heap.size + 1, 2, none⟩ = some (.string vs))) (by kernel_rfl) (HA.out _ Z0) (fun hHeld => ?_)
    refine wpAnyH_take (i := 0) (v := (.agg #[.int .i64 vk, .int .i64 vn, .string vs])) at_zero (by kernel_rfl) (by kernel_rfl) (by kernel_rfl) (fun _ _ _ h => h) (Or.inl ⟨by kernel_rfl, fun wy hSw => ?_⟩) (by assumption) ?_
    · (try dsimp only at hSw); go_simp
    try simp only [Act.put, List.setIfInBounds_toArray, List.set_cons_zero, List.set_cons_succ]
    refine wpAnyH_take (i := 2) (v := (.agg #[.int .i64 vk, .int .i64 vn, .string vs])) (at_succ (at_succ at_zero)) (by kernel_rfl) (by kernel_rfl) (by kernel_rfl) (fun _ _ _ h => h) (Or.inl ⟨by kernel_rfl, fun wy hSw => ?_⟩) (by assumption) ?_
    · (try dsimp only at hSw); go_simp
    try simp only [Act.put, List.setIfInBounds_toArray, List.set_cons_zero, List.set_cons_succ]
    refine wpAnyH_ready (rs := [1]) (by kernel_rfl) (by simp) ?_
    refine AllReadyH.cons (at_succ at_zero) (fun K hK => ?_) AllReadyH.nil
    rw [if_pos (by kernel_rfl)]
    go_simp
    refine (K1.out _).mono ?_
    rintro _ wz ⟨rfl, hb⟩
    have Z1 := Z0.trans (hb.mono Z0.size)
    clear hb hHeld
    go_wp2_with fail
    refine hK.out _ _ (HA.out _ Z1) (fun hHeld => ?_)
    clear hK K
    try simp only [Act.put, List.setIfInBounds_toArray, List.set_cons_zero, List.set_cons_succ]
    refine wpAnyH_ready (rs := [3]) (by kernel_rfl) (by simp) ?_
    refine AllReadyH.cons (at_succ (at_succ (at_succ at_zero))) (fun K hK => ?_) AllReadyH.nil
    rw [if_pos (by kernel_rfl)]
    go_simp
    refine (K2.out _).mono ?_
    rintro _ wz ⟨rfl, hb⟩
    have Z2 := Z1.trans (hb.mono Z1.size)
    clear hb hHeld
    go_wp2_with fail
    refine hK.out _ _ (HA.out _ Z2) (fun hHeld => ?_)
    clear hK K
    try simp only [Act.put, List.setIfInBounds_toArray, List.set_cons_zero, List.set_cons_succ]
    refine wpAnyH_take (i := 4) (v := (.bool true)) (at_succ (at_succ (at_succ (at_succ at_zero)))) (by kernel_rfl) (by kernel_rfl) (by kernel_rfl) (fun _ _ _ h => h) (Or.inl ⟨by kernel_rfl, fun wy hSw => ?_⟩) (by assumption) ?_
    · (try dsimp only at hSw); go_simp
    try simp only [Act.put, List.setIfInBounds_toArray, List.set_cons_zero, List.set_cons_succ]
    refine wpAnyH_take (i := 5) (v := (.bool true)) (at_succ (at_succ (at_succ (at_succ (at_succ at_zero))))) (by kernel_rfl) (by kernel_rfl) (by kernel_rfl) (fun _ _ _ h => h) (Or.inl ⟨by kernel_rfl, fun wy hSw => ?_⟩) (by assumption) ?_
    · (try dsimp only at hSw); go_simp
    try simp only [Act.put, List.setIfInBounds_toArray, List.set_cons_zero, List.set_cons_succ]
    refine wpAnyH_take (i := 6) (v := (.agg #[.string an, .int .i64 ak, .int .i64 amn, .int .i64 amx, .slice A en.length c, .bool awr, .bool asf])) (at_succ (at_succ (at_succ (at_succ (at_succ (at_succ at_zero)))))) (by kernel_rfl) (by kernel_rfl) (by kernel_rfl) (fun _ _ _ h => h) (Or.inl ⟨by kernel_rfl, fun wy hSw => ?_⟩) (by assumption) ?_
    · (try dsimp only at hSw); go_simp
    try simp only [Act.put, List.setIfInBounds_toArray, List.set_cons_zero, List.set_cons_succ]
    refine wpAnyH_take (i := 8) (v := (.agg #[.string an, .int .i64 ak, .int .i64 amn, .int .i64 amx, .slice A en.length c, .bool awr, .bool asf])) (at_succ (at_succ (at_succ (at_succ (at_succ (at_succ (at_succ (at_succ at_zero)))))))) (by kernel_rfl) (by kernel_rfl) (by kernel_rfl) (fun _ _ _ h => h) (Or.inl ⟨by kernel_rfl, fun wy hSw => ?_⟩) (by assumption) ?_
    · (try dsimp only at hSw); go_simp
    try simp only [Act.put, List.setIfInBounds_toArray, List.set_cons_zero, List.set_cons_succ]
    refine wpAnyH_ready (rs := [7]) (by kernel_rfl) (by simp) ?_
    refine AllReadyH.cons (at_succ (at_succ (at_succ (at_succ (at_succ (at_succ (at_succ at_zero))))))) (fun K hK => ?_) AllReadyH.nil
    rw [if_pos (by kernel_rfl)]
    go_simp
    refine (K3.out _ (HS.out _ Z2)).mono ?_
    rintro _ wz ⟨rfl, hb⟩
    have Z3 := Z2.trans (hb.mono Z2.size)
    clear hb hHeld
    go_wp2_with fail
    refine hK.out _ _ (HA.out _ Z3) (fun hHeld => ?_)
    clear hK K
    try simp only [Act.put, List.setIfInBounds_toArray, List.set_cons_zero, List.set_cons_succ]
    refine wpAnyH_ready (rs := [9]) (by kernel_rfl) (by simp) ?_
    refine AllReadyH.cons (at_succ (at_succ (at_succ (at_succ (at_succ (at_succ (at_succ (at_succ (at_succ at_zero))))))))) (fun K hK => ?_) AllReadyH.nil
    rw [if_pos (by kernel_rfl)]
    go_simp
    refine (K4.out _ (HS.out _ Z3)).mono ?_
    rintro _ wz ⟨rfl, hb⟩
    have Z4 := Z3.trans (hb.mono Z3.size)
    clear hb hHeld
    go_wp2_with fail
    refine hK.out _ _ (HA.out _ Z4) (fun hHeld => ?_)
    clear hK K
    try simp only [Act.put, List.setIfInBounds_toArray, List.set_cons_zero, List.set_cons_succ]
    refine wpAnyH_take (i := 10) (v := (.bool true)) (at_succ (at_succ (at_succ (at_succ (at_succ (at_succ (at_succ (at_succ (at_succ (at_succ at_zero)))))))))) (by kernel_rfl) (by kernel_rfl) (by kernel_rfl) (fun _ _ _ h => h) (Or.inl ⟨by kernel_rfl, fun wy hSw => ?_⟩) (by assumption) ?_
    · (try dsimp only at hSw); go_simp
    try simp only [Act.put, List.setIfInBounds_toArray, List.set_cons_zero, List.set_cons_succ]
    refine wpAnyH_take (i := 11) (v := (.bool true)) (at_succ (at_succ (at_succ (at_succ (at_succ (at_succ (at_succ (at_succ (at_succ (at_succ (at_succ at_zero))))))))))) (by kernel_rfl) (by kernel_rfl) (by kernel_rfl) (fun _ _ _ h => h) (Or.inl ⟨by kernel_rfl, fun wy hSw => ?_⟩) (by assumption) ?_
    · (try dsimp only at hSw); go_simp
    try simp only [Act.put, List.setIfInBounds_toArray, List.set_cons_zero, List.set_cons_succ]
    refine wpAnyH_take (i := 12) (v := (.bool true)) (at_succ (at_succ (at_succ (at_succ (at_succ (at_succ (at_succ (at_succ (at_succ (at_succ (at_succ (at_succ at_zero)))))))))))) (by kernel_rfl) (by kernel_rfl) (by kernel_rfl) (fun _ _ _ h => h) (Or.inl ⟨by kernel_rfl, fun wy hSw => ?_⟩) (by assumption) ?_
    · (try dsimp only at hSw); go_simp
    try simp only [Act.put, List.setIfInBounds_toArray, List.set_cons_zero, List.set_cons_succ]
    refine wpAnyH_take (i := 13) (v := (.agg #[.string an, .int .i64 ak, .int .i64 amn, .int .i64 amx, .slice A en.length c, .bool awr, .bool asf])) (at_succ (at_succ (at_succ (at_succ (at_succ (at_succ (at_succ (at_succ (at_succ (at_succ (at_succ (at_succ (at_succ at_zero))))))))))))) (by kernel_rfl) (by kernel_rfl) (by kernel_rfl) (fun _ _ _ h => h) (Or.inl ⟨by kernel_rfl, fun wy hSw => ?_⟩) (by assumption) ?_
    · (try dsimp only at hSw); go_simp
    try simp only [Act.put, List.setIfInBounds_toArray, List.set_cons_zero, List.set_cons_succ]
    refine wpAnyH_take (i := 14) (v := (.agg #[.int .i64 vk, .int .i64 vn, .string vs])) (at_succ (at_succ (at_succ (at_succ (at_succ (at_succ (at_succ (at_succ (at_succ (at_succ (at_succ (at_succ (at_succ (at_succ at_zero)))))))))))))) (by kernel_rfl) (by kernel_rfl) (by kernel_rfl) (fun _ _ _ h => h) (Or.inl ⟨by kernel_rfl, fun wy hSw => ?_⟩) (by assumption) ?_
    · (try dsimp only at hSw); go_simp
    try simp only [Act.put, List.setIfInBounds_toArray, List.set_cons_zero, List.set_cons_succ]
    refine wpAnyH_take (i := 16) (v := (.agg #[.string an, .int .i64 ak, .int .i64 amn, .int .i64 amx, .slice A en.length c, .bool awr, .bool asf])) (at_succ (at_succ (at_succ (at_succ (at_succ (at_succ (at_succ (at_succ (at_succ (at_succ (at_succ (at_succ (at_succ (at_succ (at_succ (at_succ at_zero)))))))))))))))) (by kernel_rfl) (by kernel_rfl) (by kernel_rfl) (fun _ _ _ h => h) (Or.inl ⟨by kernel_rfl, fun wy hSw => ?_⟩) (by assumption) ?_
    · (try dsimp only at hSw); go_simp
    try simp only [Act.put, List.setIfInBounds_toArray, List.set_cons_zero, List.set_cons_succ]
    refine wpAnyH_take (i := 17) (v := (.agg #[.int .i64 vk, .int .i64 vn, .string vs])) (at_succ (at_succ (at_succ (at_succ (at_succ (at_succ (at_succ (at_succ (at_succ (at_succ (at_succ (at_succ (at_succ (at_succ (at_succ (at_succ (at_succ at_zero))))))))))))))))) (by kernel_rfl) (by kernel_rfl) (by kernel_rfl) (fun _ _ _ h => h) (Or.inl ⟨by kernel_rfl, fun wy hSw => ?_⟩) (by assumption) ?_
    · (try dsimp only at hSw); go_simp
    try simp only [Act.put, List.setIfInBounds_toArray, List.set_cons_zero, List.set_cons_succ]
    refine wpAnyH_ready (rs := [15]) (by kernel_rfl) (by simp) ?_
    refine AllReadyH.cons (at_succ (at_succ (at_succ (at_succ (at_succ (at_succ (at_succ (at_succ (at_succ (at_succ (at_succ (at_succ (at_succ (at_succ (at_succ at_zero))))))))))))))) (fun K hK => ?_) AllReadyH.nil
    rw [if_pos (by kernel_rfl)]
    go_simp
    refine (K5.out _ (HS.out _ Z4)).mono ?_
    rintro _ wz ⟨rfl, hb⟩
    have Z5 := Z4.trans (hb.mono Z4.size)
    clear hb hHeld
    go_wp2_with fail
    refine hK.out _ _ (HA.out _ Z5) (fun hHeld => ?_)
    clear hK K
    try simp only [Act.put, List.setIfInBounds_toArray, List.set_cons_zero, List.set_cons_succ]
    refine wpAnyH_ready (rs := [18]) (by kernel_rfl) (by simp) ?_
    refine AllReadyH.cons (at_succ (at_succ (at_succ (at_succ (at_succ (at_succ (at_succ (at_succ (at_succ (at_succ (at_succ (at_succ (at_succ (at_succ (at_succ (at_succ (at_succ (at_succ at_zero)))))))))))))))))) (fun K hK => ?_) AllReadyH.nil
    rw [if_pos (by kernel_rfl)]
    go_simp
    refine (K6.out _ (HS.out _ Z5)).mono ?_
    rintro _ wz ⟨rfl, hb⟩
    have Z6 := Z5.trans (hb.mono Z5.size)
    clear hb hHeld
    go_wp2_with fail
    refine hK.out _ _ (HA.out _ Z6) (fun hHeld => ?_)
    clear hK K
    try simp only [Act.put, List.setIfInBounds_toArray, List.set_cons_zero, List.set_cons_succ]
    refine wpAnyH_take (i := 19) (v := (.bool true)) (at_succ (at_succ (at_succ (at_succ (at_succ (at_succ (at_succ (at_succ (at_succ (at_succ (at_succ (at_succ (at_succ (at_succ (at_succ (at_succ (at_succ (at_succ (at_succ at_zero))))))))))))))))))) (by kernel_rfl) (by kernel_rfl) (by kernel_rfl) (fun _ _ _ h => h) (Or.inl ⟨by kernel_rfl, fun wy hSw => ?_⟩) (by assumption) ?_
    · (try dsimp only at hSw); go_simp
    try simp only [Act.put, List.setIfInBounds_toArray, List.set_cons_zero, List.set_cons_succ]
    refine wpAnyH_take (i := 20) (v := (.bool true)) (at_succ (at_succ (at_succ (at_succ (at_succ (at_succ (at_succ (at_succ (at_succ (at_succ (at_succ (at_succ (at_succ (at_succ (at_succ (at_succ (at_succ (at_succ (at_succ (at_succ at_zero)))))))))))))))))))) (by kernel_rfl) (by kernel_rfl) (by kernel_rfl) (fun _ _ _ h => h) (Or.inl ⟨by kernel_rfl, fun wy hSw => ?_⟩) (by assumption) ?_
    · (try dsimp only at hSw); go_simp
    try simp only [Act.put, List.setIfInBounds_toArray, List.set_cons_zero, List.set_cons_succ]
    refine wpAnyH_take (i := 21) (v := (.bool true)) (at_succ (at_succ (at_succ (at_succ (at_succ (at_succ (at_succ (at_succ (at_succ (at_succ (at_succ (at_succ (at_succ (at_succ (at_succ (at_succ (at_succ (at_succ (at_succ (at_succ (at_succ at_zero))))))))))))))))))))) (by kernel_rfl) (by kernel_rfl) (by kernel_rfl) (fun _ _ _ h => h) (Or.inl ⟨by kernel_rfl, fun wy hSw => ?_⟩) (by assumption) ?_
    · (try dsimp only at hSw); go_simp
    try simp only [Act.put, List.setIfInBounds_toArray, List.set_cons_zero, List.set_cons_succ]
    refine wpAnyH_ready (rs := [22]) (by kernel_rfl) (by simp) ?_
    refine AllReadyH.cons (at_succ (at_succ (at_succ (at_succ (at_succ (at_succ (at_succ (at_succ (at_succ (at_succ (at_succ (at_succ (at_succ (at_succ (at_succ (at_succ (at_succ (at_succ (at_succ (at_succ (at_succ (at_succ at_zero)))))))))))))))))))))) (fun K hK => ?_) AllReadyH.nil
    rw [if_pos (by kernel_rfl)]
    go_simp
    refine (KW.out _ (HT.out _ Z6)).mono ?_
    rintro _ wz ⟨rfl, hb⟩
    have Z7 := Z6.trans (hb.mono Z6.size)
    clear hb hHeld
    go_wp2_with fail
    refine hK.out _ _ (HA.out _ Z7) (fun hHeld => ?_)
    clear hK K
    try simp only [Act.put, List.setIfInBounds_toArray, List.set_cons_zero, List.set_cons_succ]
    refine wpAnyH_take (i := 23) (v := (.bool true)) (at_succ (at_succ (at_succ (at_succ (at_succ (at_succ (at_succ (at_succ (at_succ (at_succ (at_succ (at_succ (at_succ (at_succ (at_succ (at_succ (at_succ (at_succ (at_succ (at_succ (at_succ (at_succ (at_succ at_zero))))))))))))))))))))))) (by kernel_rfl) (by kernel_rfl) (by kernel_rfl) (fun _ _ _ h => h) (Or.inl ⟨by kernel_rfl, fun wy hSw => ?_⟩) (by assumption) ?_
    · (try dsimp only at hSw); go_simp
    try simp only [Act.put, List.setIfInBounds_toArray, List.set_cons_zero, List.set_cons_succ]
    refine wpAnyH_take (i := 24) (v := (.bool true)) (at_succ (at_succ (at_succ (at_succ (at_succ (at_succ (at_succ (at_succ (at_succ (at_succ (at_succ (at_succ (at_succ (at_succ (at_succ (at_succ (at_succ (at_succ (at_succ (at_succ (at_succ (at_succ (at_succ (at_succ at_zero)))))))))))))))))))))))) (by kernel_rfl) (by kernel_rfl) (by kernel_rfl) (fun _ _ _ h => h) (Or.inl ⟨by kernel_rfl, fun wy hSw => ?_⟩) (by assumption) ?_
    · (try dsimp only at hSw); go_simp
    try simp only [Act.put, List.setIfInBounds_toArray, List.set_cons_zero, List.set_cons_succ]
    refine wpAnyH_done (by kernel_rfl) ?_ _
    go_wp2_with fail
    go_ret
    exact outB rfl (HB.out _ Z7)
set_option maxRecDepth 100000 in
set_option maxHeartbeats 4000000 in
theorem law_limits (a : At) (A : Option Addr) (c : Nat) (v u : Vl) (w : World) (hT : Tabs w) (hA : StS w A c a.en) (hn : a.n.size ≤ 9223372036854775807) (hl : a.en.length ≤ 9223372036854775807) (hv : v.2.2.size ≤ 9223372036854775807) :
    Calls Tryd.prog 4 #[atV a A c, vlV v, vlV u] w (OutB w true) := by
  have KW := Lib.hid (fun (w1 : World) (h : Tabs w1) => awake_any w1 h)
  have KF := Lib.hid (fun (w1 : World) (h : StS w1 A c a.en) => few_any a A c v w1 hn hl h hv)
  have K1 := Lib.hid (fun (w1 : World) (q : a.en.length ≤ 9223372036854775807) (h : StS w1 A c a.en) => pzer_any a A c w1 hn q h)
  have K2 := Lib.hid (fun (w1 : World) (q : a.en.length ≤ 9223372036854775807) (h : StS w1 A c a.en) => rzer_any a A c w1 hn q h)
  have K3 := Lib.hid (fun (w1 : World) (q : a.en.length ≤ 9223372036854775807) (h : StS w1 A c a.en) => plmt_any a A c v w1 hn q h)
  have K4 := Lib.hid (fun (w1 : World) (q : a.en.length ≤ 9223372036854775807) (h : StS w1 A c a.en) => rlmt_any a A c v w1 hn q h)
  have K5 := Lib.hid (fun (w1 : World) => pless_any v u w1)
  have K6 := Lib.hid (fun (w1 : World) => rless_any v u w1)
  have FW := Lib.hid (fun (h : fw a v = true) => fw_is h)
  unfold OutB at KW KF K5 K6
  unfold OutV at K1 K2 K3 K4
  generalize zer a = z at *
  generalize lmt a v = y at *
  generalize less v u = lb at *
  generalize fw a v = F at *
  have E1 := v_self z
  have E2 := v_self y
  have b0 := alloc_below w (bxA a A c)
  have b1 := b0.trans ((alloc_below (w.alloc (bxA a A c)) (bxV v)).mono (by simp <;> omega))
  have b2 := b1.trans ((alloc_below ((w.alloc (bxA a A c)).alloc (bxV v)) (bxV u)).mono (by simp <;> omega))
  have X0 := blk_new w (bxA a A c)
  have X1 := blk_new (w.alloc (bxA a A c)) (bxV v)
  rw [show (w.alloc (bxA a A c)).heap.size = w.heap.size + 1 by simp] at X1
  replace X0 := blk_alloc X0 (bxV v)
  have X2 := blk_new ((w.alloc (bxA a A c)).alloc (bxV v)) (bxV u)
  rw [show ((w.alloc (bxA a A c)).alloc (bxV v)).heap.size = w.heap.size + 2 by simp] at X2
  replace X0 := blk_alloc X0 (bxV u)
  replace X1 := blk_alloc X1 (bxV u)
  have hz : w.heap.size + 3 ≤ (((w.alloc (bxA a A c)).alloc (bxV v)).alloc (bxV u)).heap.size := by simp
  obtain ⟨W, hW⟩ : ∃ W, (((w.alloc (bxA a A c)).alloc (bxV v)).alloc (bxV u)) = W := ⟨_, rfl⟩
  rw [hW] at X0 X1 X2 hz b2
  have hA : StS w A c a.en := hA
  obtain ⟨an, ak, amn, amx, en, awr, asf⟩ := a
  obtain ⟨vk, vn, vs⟩ := v
  obtain ⟨uk, un, us⟩ := u
  obtain ⟨zk, zn, zs⟩ := z
  obtain ⟨yk, yn, ys⟩ := y
  dsimp only [vlV] at *
  have HA := Lib.hid (fun (w1 : World) (hb : Below W.heap.size W w1) => (show w1.cell? ⟨w.heap.size, 0, none⟩ = some (.string an) ∧ w1.cell? ⟨w.heap.size, 1, none⟩ = some (.int .i64 ak) ∧ w1.cell? ⟨w.heap.size, 2, none⟩ = some (.int .i64 amn) ∧ w1.cell? ⟨w.heap.size, 3, none⟩ = some (.int .i64 amx) ∧ w1.cell? ⟨w.heap.size, 4, none⟩ = some (.slice A en.length c) ∧ w1.cell? ⟨w.heap.size, 5, none⟩ = some (.bool awr) ∧ w1.cell? ⟨w.heap.size, 6, none⟩ = some (.bool asf) ∧ w1.cell? ⟨w.heap.size + 1, 0, none⟩ = some (.int .i64 vk) ∧ w1.cell? ⟨w.heap.size + 1, 1, none⟩ = some (.int .i64 vn) ∧ w1.cell? ⟨w.heap.size + 1, 2, none⟩ = some (.string vs) ∧ w1.cell? ⟨w.heap.size + 2, 0, none⟩ = some (.int .i64 uk) ∧ w1.cell? ⟨w.heap.size + 2, 1, none⟩ = some (.int .i64 un) ∧ w1.cell? ⟨w.heap.size + 2, 2, none⟩ = some (.string us) from ⟨blk_cell (blk_below X0 hb (by omega)) 0 rfl, blk_cell (blk_below X0 hb (by omega)) 1 rfl, blk_cell (blk_below X0 hb (by omega)) 2 rfl, blk_cell (blk_below X0 hb (by omega)) 3 rfl, blk_cell (blk_below X0 hb (by omega)) 4 rfl, blk_cell (blk_below X0 hb (by omega)) 5 rfl, blk_cell (blk_below X0 hb (by omega)) 6 rfl, blk_cell (blk_below X1 hb (by omega)) 0 rfl, blk_cell (blk_below X1 hb (by omega)) 1 rfl, blk_cell (blk_below X1 hb (by omega)) 2 rfl, blk_cell (blk_below X2 hb (by omega)) 0 rfl, blk_cell (blk_below X2 hb (by omega)) 1 rfl, blk_cell (blk_below X2 hb (by omega)) 2 rfl⟩))
  have HT := Lib.hid (fun (w1 : World) (hb : Below W.heap.size W w1) => hT.below (b2.trans (hb.mono b2.size)))
  have HB := Lib.hid (fun (w1 : World) (hb : Below W.heap.size W w1) => (show Below w.heap.size w w1 from b2.trans (hb.mono b2.size)))
  have HS := Lib.hid (fun (w1 : World) (hb : Below W.heap.size W w1) => (hA.next b2).next hb)
  have hW' : (((w.alloc (.cells #[.string an, .int .i64 ak, .int .i64 amn, .int .i64 amx, .slice A en.length c, .bool awr, .bool asf] 24)).alloc (.cells #[.int .i64 vk, .int .i64 vn, .string vs] 26)).alloc (.cells #[.int .i64 uk, .int .i64 un, .string us] 26)) = W := hW
  replace hW' := Lib.hid hW'
  clear hW b0 b1 b2 X0 X1 X2 hz hT hA
  have H0 := Below.refl W.heap.size W
  obtain ⟨p0_0, p0_1, p0_2, p0_3, p0_4, p0_5, p0_6, p1_0, p1_1, p1_2, p2_0, p2_1, p2_2⟩ := HA.out W H0
  go_enter Tryd.func4, Tryd.ntmps4
  go_upto_region 1 with fail
  rw [hW'.out]
  clear hW'
  by_cases h9 : 100 < us.size
  · have d9 := dt (show (100 : Int) < (us.size : Int) by omega)
    clear h9
    go_wp2_with fail
    refine (KF.out _ (HS.out _ H0)).mono ?_
    rintro _ w2 ⟨rfl, hb⟩
    have H1 := H0.trans (hb.mono H0.size)
    clear hb p0_0 p0_1 p0_2 p0_3 p0_4 p0_5 p0_6 p1_0 p1_1 p1_2 p2_0 p2_1 p2_2
    obtain ⟨p0_0, p0_1, p0_2, p0_3, p0_4, p0_5, p0_6, p1_0, p1_1, p1_2, p2_0, p2_1, p2_2⟩ := HA.out w2 H1
    cases F with
    | false =>
      clear d9 p0_0 p0_1 p0_2 p0_3 p0_4 p0_5 p0_6 p1_0 p1_1 p1_2 p2_0 p2_1 p2_2
      go_wp2_with fail
      refine (KW.out _ (HT.out _ H1)).mono ?_
      rintro _ wz ⟨rfl, hb⟩
      have BZ := Lib.hid (HB.out _ (H1.trans (hb.mono H1.size)))
      clear hb
      go_wp2_with fail
      go_ret
      exact outB rfl BZ.out
    | true =>
      go_wp2_with fail
      refine (KW.out _ (HT.out _ H1)).mono ?_
      rintro _ wz ⟨rfl, hb⟩
      have BZ := Lib.hid (HB.out _ (H1.trans (hb.mono H1.size)))
      clear hb
      go_wp2_with fail
      go_ret
      exact outB rfl BZ.out
  have d9 := df (show ¬ (100 : Int) < (us.size : Int) by omega)
  clear h9
  go_wp2_with fail
  refine (KF.out _ (HS.out _ H0)).mono ?_
  rintro _ w2 ⟨rfl, hb⟩
  have H1 := H0.trans (hb.mono H0.size)
  clear hb p0_0 p0_1 p0_2 p0_3 p0_4 p0_5 p0_6 p1_0 p1_1 p1_2 p2_0 p2_1 p2_2
  obtain ⟨p0_0, p0_1, p0_2, p0_3, p0_4, p0_5, p0_6, p1_0, p1_1, p1_2, p2_0, p2_1, p2_2⟩ := HA.out w2 H1
  cases F with
  | false =>
    clear d9 p0_0 p0_1 p0_2 p0_3 p0_4 p0_5 p0_6 p1_0 p1_1 p1_2 p2_0 p2_1 p2_2
    go_wp2_with fail
    refine (KW.out _ (HT.out _ H1)).mono ?_
    rintro _ wz ⟨rfl, hb⟩
    have BZ := Lib.hid (HB.out _ (H1.trans (hb.mono H1.size)))
    clear hb
    go_wp2_with fail
    go_ret
    exact outB rfl BZ.out
  | true =>
    obtain ⟨q1, q2, q3⟩ := FW.out rfl
    have K1 := Lib.hid (fun (w1 : World) => K1.out w1 (by omega))
    have K2 := Lib.hid (fun (w1 : World) => K2.out w1 (by omega))
    have K3 := Lib.hid (fun (w1 : World) => K3.out w1 (by omega))
    have K4 := Lib.hid (fun (w1 : World) => K4.out w1 (by omega))
    clear FW KF q1 q2 q3
    have Z0 : Below W.heap.size W w2.drew := H1.trans (below_drewN (Below.refl _ _) 1 |>.mono H1.size)
    go_wp2_with fail
    clear d9 p0_0 p0_1 p0_2 p0_3 p0_4 p0_5 p0_6 p1_0 p1_1 p1_2 p2_0 p2_1 p2_2
    refine wp_region_held_drew (S := (fun wy : World => wy.cell? ⟨w.heap.size, 0, none⟩ = some (.string an) ∧ wy.cell? ⟨w.heap.size, 1, none⟩ = some (.int .i64 ak) ∧ wy.cell? ⟨w.heap.size, 2, none⟩ = some (.int .i64 amn) ∧ wy.cell? ⟨w.heap.size, 3, none⟩ = some (.int .i64 amx) ∧ wy.cell? ⟨w.heap.size, 4, none⟩ = some (.slice A en.length c) ∧ wy.cell? ⟨w.heap.size, 5, none⟩ = some (.bool awr) ∧ wy.cell? ⟨w.heap.size, 6, none⟩ = some (.bool asf) ∧ wy.cell? ⟨w.heap.size + 1, 0, none⟩ = some (.int .i64 vk) ∧ wy.cell? ⟨w.heap.size + 1, 1, none⟩ = some (.int .i64 vn) ∧ wy.cell? ⟨w.heap.size + 1, 2, none⟩ = some (.string vs) ∧ wy.cell? ⟨w.heap.size + 2, 0, none⟩ = some (.int .i64 uk) ∧ wy.cell? ⟨w.heap.size + 2, 1, none⟩ = some (.int .i64 un) ∧ wy.cell? ⟨w.heap.size + 2, 2, none⟩ = some (.string us))) (by kernel_rfl) (HA.out _ Z0) (fun hHeld => ?_)
    refine wpAnyH_take (i := 0) (v := (.agg #[.string an, .int .i64 ak, .int .i64 amn, .int .i64 amx, .slice A en.length c, .bool awr, .bool asf])) at_zero (by kernel_rfl) (by kernel_rfl) (by kernel_rfl) (fun _ _ _ h => h) (Or.inl ⟨by kernel_rfl, fun wy hSw => ?_⟩) (by assumption) ?_
    · (try dsimp only at hSw); go_simp
    try simp only [Act.put, List.setIfInBounds_toArray, List.set_cons_zero, List.set_cons_succ]
    refine wpAnyH_take (i := 2) (v := (.agg #[.string an, .int .i64 ak, .int .i64 amn, .int .i64 amx, .slice A en.length c, .bool awr, .bool asf])) (at_succ (at_succ at_zero)) (by kernel_rfl) (by kernel_rfl) (by kernel_rfl) (fun _ _ _ h => h) (Or.inl ⟨by kernel_rfl, fun wy hSw => ?_⟩) (by assumption) ?_
    · (try dsimp only at hSw); go_simp
    try simp only [Act.put, List.setIfInBounds_toArray, List.set_cons_zero, List.set_cons_succ]
    refine wpAnyH_ready (rs := [1]) (by kernel_rfl) (by simp) ?_
    refine AllReadyH.cons (at_succ at_zero) (fun K hK => ?_) AllReadyH.nil
    rw [if_pos (by kernel_rfl)]
    go_simp
    refine (K1.out _ (HS.out _ Z0)).mono ?_
    rintro _ wz ⟨rfl, hb⟩
    have Z1 := Z0.trans (hb.mono Z0.size)
    clear hb hHeld
    go_wp2_with fail
    refine hK.out _ _ (HA.out _ Z1) (fun hHeld => ?_)
    clear hK K
    try simp only [Act.put, List.setIfInBounds_toArray, List.set_cons_zero, List.set_cons_succ]
    refine wpAnyH_ready (rs := [3]) (by kernel_rfl) (by simp) ?_
    refine AllReadyH.cons (at_succ (at_succ (at_succ at_zero))) (fun K hK => ?_) AllReadyH.nil
    rw [if_pos (by kernel_rfl)]
    go_simp
    refine (K2.out _ (HS.out _ Z1)).mono ?_
    rintro _ wz ⟨rfl, hb⟩
    have Z2 := Z1.trans (hb.mono Z1.size)
    clear hb hHeld
    go_wp2_with fail
    refine hK.out _ _ (HA.out _ Z2) (fun hHeld => ?_)
    clear hK K
    try simp only [Act.put, List.setIfInBounds_toArray, List.set_cons_zero, List.set_cons_succ]
    refine wpAnyH_take (i := 4) (v := (.bool true)) (at_succ (at_succ (at_succ (at_succ at_zero)))) (by kernel_rfl) (by kernel_rfl) (by kernel_rfl) (fun _ _ _ h => h) (Or.inl ⟨by kernel_rfl, fun wy hSw => ?_⟩) (by assumption) ?_
    · (try dsimp only at hSw); go_simp
    try simp only [Act.put, List.setIfInBounds_toArray, List.set_cons_zero, List.set_cons_succ]
    refine wpAnyH_take (i := 5) (v := (.bool true)) (at_succ (at_succ (at_succ (at_succ (at_succ at_zero))))) (by kernel_rfl) (by kernel_rfl) (by kernel_rfl) (fun _ _ _ h => h) (Or.inl ⟨by kernel_rfl, fun wy hSw => ?_⟩) (by assumption) ?_
    · (try dsimp only at hSw); go_simp
    try simp only [Act.put, List.setIfInBounds_toArray, List.set_cons_zero, List.set_cons_succ]
    refine wpAnyH_take (i := 6) (v := (.agg #[.string an, .int .i64 ak, .int .i64 amn, .int .i64 amx, .slice A en.length c, .bool awr, .bool asf])) (at_succ (at_succ (at_succ (at_succ (at_succ (at_succ at_zero)))))) (by kernel_rfl) (by kernel_rfl) (by kernel_rfl) (fun _ _ _ h => h) (Or.inl ⟨by kernel_rfl, fun wy hSw => ?_⟩) (by assumption) ?_
    · (try dsimp only at hSw); go_simp
    try simp only [Act.put, List.setIfInBounds_toArray, List.set_cons_zero, List.set_cons_succ]
    refine wpAnyH_take (i := 7) (v := (.agg #[.int .i64 vk, .int .i64 vn, .string vs])) (at_succ (at_succ (at_succ (at_succ (at_succ (at_succ (at_succ at_zero))))))) (by kernel_rfl) (by kernel_rfl) (by kernel_rfl) (fun _ _ _ h => h) (Or.inl ⟨by kernel_rfl, fun wy hSw => ?_⟩) (by assumption) ?_
    · (try dsimp only at hSw); go_simp
    try simp only [Act.put, List.setIfInBounds_toArray, List.set_cons_zero, List.set_cons_succ]
    refine wpAnyH_take (i := 9) (v := (.agg #[.string an, .int .i64 ak, .int .i64 amn, .int .i64 amx, .slice A en.length c, .bool awr, .bool asf])) (at_succ (at_succ (at_succ (at_succ (at_succ (at_succ (at_succ (at_succ (at_succ at_zero))))))))) (by kernel_rfl) (by kernel_rfl) (by kernel_rfl) (fun _ _ _ h => h) (Or.inl ⟨by kernel_rfl, fun wy hSw => ?_⟩) (by assumption) ?_
    · (try dsimp only at hSw); go_simp
    try simp only [Act.put, List.setIfInBounds_toArray, List.set_cons_zero, List.set_cons_succ]
    refine wpAnyH_take (i := 10) (v := (.agg #[.int .i64 vk, .int .i64 vn, .string vs])) (at_succ (at_succ (at_succ (at_succ (at_succ (at_succ (at_succ (at_succ (at_succ (at_succ at_zero)))))))))) (by kernel_rfl) (by kernel_rfl) (by kernel_rfl) (fun _ _ _ h => h) (Or.inl ⟨by kernel_rfl, fun wy hSw => ?_⟩) (by assumption) ?_
    · (try dsimp only at hSw); go_simp
    try simp only [Act.put, List.setIfInBounds_toArray, List.set_cons_zero, List.set_cons_succ]
    refine wpAnyH_ready (rs := [8]) (by kernel_rfl) (by simp) ?_
    refine AllReadyH.cons (at_succ (at_succ (at_succ (at_succ (at_succ (at_succ (at_succ (at_succ at_zero)))))))) (fun K hK => ?_) AllReadyH.nil
    rw [if_pos (by kernel_rfl)]
    go_simp
    refine (K3.out _ (HS.out _ Z2)).mono ?_
    rintro _ wz ⟨rfl, hb⟩
    have Z3 := Z2.trans (hb.mono Z2.size)
    clear hb hHeld
    go_wp2_with fail
    refine hK.out _ _ (HA.out _ Z3) (fun hHeld => ?_)
    clear hK K
    try simp only [Act.put, List.setIfInBounds_toArray, List.set_cons_zero, List.set_cons_succ]
    refine wpAnyH_ready (rs := [11]) (by kernel_rfl) (by simp) ?_
    refine AllReadyH.cons (at_succ (at_succ (at_succ (at_succ (at_succ (at_succ (at_succ (at_succ (at_succ (at_succ (at_succ at_zero))))))))))) (fun K hK => ?_) AllReadyH.nil
    rw [if_pos (by kernel_rfl)]
    go_simp
    refine (K4.out _ (HS.out _ Z3)).mono ?_
    rintro _ wz ⟨rfl, hb⟩
    have Z4 := Z3.trans (hb.mono Z3.size)
    clear hb hHeld
    go_wp2_with fail
    refine hK.out _ _ (HA.out _ Z4) (fun hHeld => ?_)
    clear hK K
    try simp only [Act.put, List.setIfInBounds_toArray, List.set_cons_zero, List.set_cons_succ]
    refine wpAnyH_take (i := 12) (v := (.bool true)) (at_succ (at_succ (at_succ (at_succ (at_succ (at_succ (at_succ (at_succ (at_succ (at_succ (at_succ (at_succ at_zero)))))))))))) (by kernel_rfl) (by kernel_rfl) (by kernel_rfl) (fun _ _ _ h => h) (Or.inl ⟨by kernel_rfl, fun wy hSw => ?_⟩) (by assumption) ?_
    · (try dsimp only at hSw); go_simp
    try simp only [Act.put, List.setIfInBounds_toArray, List.set_cons_zero, List.set_cons_succ]
    refine wpAnyH_take (i := 13) (v := (.bool true)) (at_succ (at_succ (at_succ (at_succ (at_succ (at_succ (at_succ (at_succ (at_succ (at_succ (at_succ (at_succ (at_succ at_zero))))))))))))) (by kernel_rfl) (by kernel_rfl) (by kernel_rfl) (fun _ _ _ h => h) (Or.inl ⟨by kernel_rfl, fun wy hSw => ?_⟩) (by assumption) ?_
    · (try dsimp only at hSw); go_simp
    try simp only [Act.put, List.setIfInBounds_toArray, List.set_cons_zero, List.set_cons_succ]
    refine wpAnyH_take (i := 14) (v := (.bool true)) (at_succ (at_succ (at_succ (at_succ (at_succ (at_succ (at_succ (at_succ (at_succ (at_succ (at_succ (at_succ (at_succ (at_succ at_zero)))))))))))))) (by kernel_rfl) (by kernel_rfl) (by kernel_rfl) (fun _ _ _ h => h) (Or.inl ⟨by kernel_rfl, fun wy hSw => ?_⟩) (by assumption) ?_
    · (try dsimp only at hSw); go_simp
    try simp only [Act.put, List.setIfInBounds_toArray, List.set_cons_zero, List.set_cons_succ]
    refine wpAnyH_take (i := 15) (v := (.agg #[.int .i64 vk, .int .i64 vn, .string vs])) (at_succ (at_succ (at_succ (at_succ (at_succ (at_succ (at_succ (at_succ (at_succ (at_succ (at_succ (at_succ (at_succ (at_succ (at_succ at_zero))))))))))))))) (by kernel_rfl) (by kernel_rfl) (by kernel_rfl) (fun _ _ _ h => h) (Or.inl ⟨by kernel_rfl, fun wy hSw => ?_⟩) (by assumption) ?_
    · (try dsimp only at hSw); go_simp
    try simp only [Act.put, List.setIfInBounds_toArray, List.set_cons_zero, List.set_cons_succ]
    refine wpAnyH_take (i := 16) (v := (.agg #[.int .i64 uk, .int .i64 un, .string us])) (at_succ (at_succ (at_succ (at_succ (at_succ (at_succ (at_succ (at_succ (at_succ (at_succ (at_succ (at_succ (at_succ (at_succ (at_succ (at_succ at_zero)))))))))))))))) (by kernel_rfl) (by kernel_rfl) (by kernel_rfl) (fun _ _ _ h => h) (Or.inl ⟨by kernel_rfl, fun wy hSw => ?_⟩) (by assumption) ?_
    · (try dsimp only at hSw); go_simp
    try simp only [Act.put, List.setIfInBounds_toArray, List.set_cons_zero, List.set_cons_succ]
    refine wpAnyH_take (i := 18) (v := (.agg #[.int .i64 vk, .int .i64 vn, .string vs])) (at_succ (at_succ (at_succ (at_succ (at_succ (at_succ (at_succ (at_succ (at_succ (at_succ (at_succ (at_succ (at_succ (at_succ (at_succ (at_succ (at_succ (at_succ at_zero)))))))))))))))))) (by kernel_rfl) (by kernel_rfl) (by kernel_rfl) (fun _ _ _ h => h) (Or.inl ⟨by kernel_rfl, fun wy hSw => ?_⟩) (by assumption) ?_
    · (try dsimp only at hSw); go_simp
    try simp only [Act.put, List.setIfInBounds_toArray, List.set_cons_zero, List.set_cons_succ]
    refine wpAnyH_take (i := 19) (v := (.agg #[.int .i64 uk, .int .i64 un, .string us])) (at_succ (at_succ (at_succ (at_succ (at_succ (at_succ (at_succ (at_succ (at_succ (at_succ (at_succ (at_succ (at_succ (at_succ (at_succ (at_succ (at_succ (at_succ (at_succ at_zero))))))))))))))))))) (by kernel_rfl) (by kernel_rfl) (by kernel_rfl) (fun _ _ _ h => h) (Or.inl ⟨by kernel_rfl, fun wy hSw => ?_⟩) (by assumption) ?_
    · (try dsimp only at hSw); go_simp
    try simp only [Act.put, List.setIfInBounds_toArray, List.set_cons_zero, List.set_cons_succ]
    refine wpAnyH_ready (rs := [17]) (by kernel_rfl) (by simp) ?_
    refine AllReadyH.cons (at_succ (at_succ (at_succ (at_succ (at_succ (at_succ (at_succ (at_succ (at_succ (at_succ (at_succ (at_succ (at_succ (at_succ (at_succ (at_succ (at_succ at_zero))))))))))))))))) (fun K hK => ?_) AllReadyH.nil
    rw [if_pos (by kernel_rfl)]
    go_simp
    refine (K5.out _).mono ?_
    rintro _ wz ⟨rfl, hb⟩
    have Z5 := Z4.trans (hb.mono Z4.size)
    clear hb hHeld
    go_wp2_with fail
    refine hK.out _ _ (HA.out _ Z5) (fun hHeld => ?_)
    clear hK K
    try simp only [Act.put, List.setIfInBounds_toArray, List.set_cons_zero, List.set_cons_succ]
    refine wpAnyH_ready (rs := [20]) (by kernel_rfl) (by simp) ?_
    refine AllReadyH.cons (at_succ (at_succ (at_succ (at_succ (at_succ (at_succ (at_succ (at_succ (at_succ (at_succ (at_succ (at_succ (at_succ (at_succ (at_succ (at_succ (at_succ (at_succ (at_succ (at_succ at_zero)))))))))))))))))))) (fun K hK => ?_) AllReadyH.nil
    rw [if_pos (by kernel_rfl)]
    go_simp
    refine (K6.out _).mono ?_
    rintro _ wz ⟨rfl, hb⟩
    have Z6 := Z5.trans (hb.mono Z5.size)
    clear hb hHeld
    go_wp2_with fail
    refine hK.out _ _ (HA.out _ Z6) (fun hHeld => ?_)
    clear hK K
    try simp only [Act.put, List.setIfInBounds_toArray, List.set_cons_zero, List.set_cons_succ]
    refine wpAnyH_take (i := 21) (v := (.bool true)) (at_succ (at_succ (at_succ (at_succ (at_succ (at_succ (at_succ (at_succ (at_succ (at_succ (at_succ (at_succ (at_succ (at_succ (at_succ (at_succ (at_succ (at_succ (at_succ (at_succ (at_succ at_zero))))))))))))))))))))) (by kernel_rfl) (by kernel_rfl) (by kernel_rfl) (fun _ _ _ h => h) (Or.inl ⟨by kernel_rfl, fun wy hSw => ?_⟩) (by assumption) ?_
    · (try dsimp only at hSw); go_simp
    try simp only [Act.put, List.setIfInBounds_toArray, List.set_cons_zero, List.set_cons_succ]
    refine wpAnyH_take (i := 22) (v := (.bool true)) (at_succ (at_succ (at_succ (at_succ (at_succ (at_succ (at_succ (at_succ (at_succ (at_succ (at_succ (at_succ (at_succ (at_succ (at_succ (at_succ (at_succ (at_succ (at_succ (at_succ (at_succ (at_succ at_zero)))))))))))))))))))))) (by kernel_rfl) (by kernel_rfl) (by kernel_rfl) (fun _ _ _ h => h) (Or.inl ⟨by kernel_rfl, fun wy hSw => ?_⟩) (by assumption) ?_
    · (try dsimp only at hSw); go_simp
    try simp only [Act.put, List.setIfInBounds_toArray, List.set_cons_zero, List.set_cons_succ]
    refine wpAnyH_take (i := 23) (v := (.bool true)) (at_succ (at_succ (at_succ (at_succ (at_succ (at_succ (at_succ (at_succ (at_succ (at_succ (at_succ (at_succ (at_succ (at_succ (at_succ (at_succ (at_succ (at_succ (at_succ (at_succ (at_succ (at_succ (at_succ at_zero))))))))))))))))))))))) (by kernel_rfl) (by kernel_rfl) (by kernel_rfl) (fun _ _ _ h => h) (Or.inl ⟨by kernel_rfl, fun wy hSw => ?_⟩) (by assumption) ?_
    · (try dsimp only at hSw); go_simp
    try simp only [Act.put, List.setIfInBounds_toArray, List.set_cons_zero, List.set_cons_succ]
    refine wpAnyH_ready (rs := [24]) (by kernel_rfl) (by simp) ?_
    refine AllReadyH.cons (at_succ (at_succ (at_succ (at_succ (at_succ (at_succ (at_succ (at_succ (at_succ (at_succ (at_succ (at_succ (at_succ (at_succ (at_succ (at_succ (at_succ (at_succ (at_succ (at_succ (at_succ (at_succ (at_succ (at_succ at_zero)))))))))))))))))))))))) (fun K hK => ?_) AllReadyH.nil
    rw [if_pos (by kernel_rfl)]
    go_simp
    refine (KW.out _ (HT.out _ Z6)).mono ?_
    rintro _ wz ⟨rfl, hb⟩
    have Z7 := Z6.trans (hb.mono Z6.size)
    clear hb hHeld
    go_wp2_with fail
    refine hK.out _ _ (HA.out _ Z7) (fun hHeld => ?_)
    clear hK K
    try simp only [Act.put, List.setIfInBounds_toArray, List.set_cons_zero, List.set_cons_succ]
    refine wpAnyH_take (i := 25) (v := (.bool true)) (at_succ (at_succ (at_succ (at_succ (at_succ (at_succ (at_succ (at_succ (at_succ (at_succ (at_succ (at_succ (at_succ (at_succ (at_succ (at_succ (at_succ (at_succ (at_succ (at_succ (at_succ (at_succ (at_succ (at_succ (at_succ at_zero))))))))))))))))))))))))) (by kernel_rfl) (by kernel_rfl) (by kernel_rfl) (fun _ _ _ h => h) (Or.inl ⟨by kernel_rfl, fun wy hSw => ?_⟩) (by assumption) ?_
    · (try dsimp only at hSw); go_simp
    try simp only [Act.put, List.setIfInBounds_toArray, List.set_cons_zero, List.set_cons_succ]
    refine wpAnyH_take (i := 26) (v := (.bool true)) (at_succ (at_succ (at_succ (at_succ (at_succ (at_succ (at_succ (at_succ (at_succ (at_succ (at_succ (at_succ (at_succ (at_succ (at_succ (at_succ (at_succ (at_succ (at_succ (at_succ (at_succ (at_succ (at_succ (at_succ (at_succ (at_succ at_zero)))))))))))))))))))))))))) (by kernel_rfl) (by kernel_rfl) (by kernel_rfl) (fun _ _ _ h => h) (Or.inl ⟨by kernel_rfl, fun wy hSw => ?_⟩) (by assumption) ?_
    · (try dsimp only at hSw); go_simp
    try simp only [Act.put, List.setIfInBounds_toArray, List.set_cons_zero, List.set_cons_succ]
    refine wpAnyH_done (by kernel_rfl) ?_ _
    go_wp2_with fail
    go_ret
    exact outB rfl (HB.out _ Z7)
set_option maxRecDepth 100000 in
set_option maxHeartbeats 4000000 in
theorem law_order (a b c : Vl) (w : World) (hT : Tabs w) :
    Calls Tryd.prog 9 #[vlV a, vlV b, vlV c] w (OutB w true) := by
  have KW := Lib.hid (fun (w1 : World) (h : Tabs w1) => awake_any w1 h)
  have K1 := Lib.hid (fun (w1 : World) => pless_any a b w1)
  have K2 := Lib.hid (fun (w1 : World) => pless_any b a w1)
  have K3 := Lib.hid (fun (w1 : World) => pless_any b c w1)
  have K4 := Lib.hid (fun (w1 : World) => pless_any a c w1)
  have E1 := v_eq a b
  have E2 := v_neq a b
  have G1 := Lib.hid (show decide (a = b) = true → less a b = false ∧ less b a = false from fun h => by
    obtain rfl := of_decide_eq_true h
    exact ⟨less_irr a, less_irr a⟩)
  have G0 := Lib.hid (show decide (a = b) = false → less b a = !less a b from fun h => less_total (of_decide_eq_false h))
  have G2 := Lib.hid (fun (h1 : less a b = true) (h2 : less b c = true) => less_trans h1 h2)
  unfold OutB at KW K1 K2 K3 K4
  generalize less a b = x at *
  generalize less b a = y at *
  generalize less b c = u at *
  generalize less a c = v at *
  generalize decide (a = b) = E at *
  have b0 := alloc_below w (bxV a)
  have b1 := b0.trans ((alloc_below (w.alloc (bxV a)) (bxV b)).mono (by simp <;> omega))
  have b2 := b1.trans ((alloc_below ((w.alloc (bxV a)).alloc (bxV b)) (bxV c)).mono (by simp <;> omega))
  have X0 := blk_new w (bxV a)
  have X1 := blk_new (w.alloc (bxV a)) (bxV b)
  rw [show (w.alloc (bxV a)).heap.size = w.heap.size + 1 by simp] at X1
  replace X0 := blk_alloc X0 (bxV b)
  have X2 := blk_new ((w.alloc (bxV a)).alloc (bxV b)) (bxV c)
  rw [show ((w.alloc (bxV a)).alloc (bxV b)).heap.size = w.heap.size + 2 by simp] at X2
  replace X0 := blk_alloc X0 (bxV c)
  replace X1 := blk_alloc X1 (bxV c)
  have hz : w.heap.size + 3 ≤ (((w.alloc (bxV a)).alloc (bxV b)).alloc (bxV c)).heap.size := by simp
  obtain ⟨W, hW⟩ : ∃ W, (((w.alloc (bxV a)).alloc (bxV b)).alloc (bxV c)) = W := ⟨_, rfl⟩
  rw [hW] at X0 X1 X2 hz b2
  obtain ⟨xak, xan, xas⟩ := a
  obtain ⟨xbk, xbn, xbs⟩ := b
  obtain ⟨xck, xcn, xcs⟩ := c
  dsimp only [vlV] at *
  have HA := Lib.hid (fun (w1 : World) (hb : Below W.heap.size W w1) => (show w1.cell? ⟨w.heap.size, 0, none⟩ = some (.int .i64 xak) ∧ w1.cell? ⟨w.heap.size, 1, none⟩ = some (.int .i64 xan) ∧ w1.cell? ⟨w.heap.size, 2, none⟩ = some (.string xas) ∧ w1.cell? ⟨w.heap.size + 1, 0, none⟩ = some (.int .i64 xbk) ∧ w1.cell? ⟨w.heap.size + 1, 1, none⟩ = some (.int .i64 xbn) ∧ w1.cell? ⟨w.heap.size + 1, 2, none⟩ = some (.string xbs) ∧ w1.cell? ⟨w.heap.size + 2, 0, none⟩ = some (.int .i64 xck) ∧ w1.cell? ⟨w.heap.size + 2, 1, none⟩ = some (.int .i64 xcn) ∧ w1.cell? ⟨w.heap.size + 2, 2, none⟩ = some (.string xcs) from ⟨blk_cell (blk_below X0 hb (by omega)) 0 rfl, blk_cell (blk_below X0 hb (by omega)) 1 rfl, blk_cell (blk_below X0 hb (by omega)) 2 rfl, blk_cell (blk_below X1 hb (by omega)) 0 rfl, blk_cell (blk_below X1 hb (by omega)) 1 rfl, blk_cell (blk_below X1 hb (by omega)) 2 rfl, blk_cell (blk_below X2 hb (by omega)) 0 rfl, blk_cell (blk_below X2 hb (by omega)) 1 rfl, blk_cell (blk_below X2 hb (by omega)) 2 rfl⟩))
  have HT := Lib.hid (fun (w1 : World) (hb : Below W.heap.size W w1) => hT.below (b2.trans (hb.mono b2.size)))
  have HB := Lib.hid (fun (w1 : World) (hb : Below W.heap.size W w1) => (show Below w.heap.size w w1 from b2.trans (hb.mono b2.size)))
  have hW' : (((w.alloc (.cells #[.int .i64 xak, .int .i64 xan, .string xas] 26)).alloc (.cells #[.int .i64 xbk, .int .i64 xbn, .string xbs] 26)).alloc (.cells #[.int .i64 xck, .int .i64 xcn, .string xcs] 26)) = W := hW
  replace hW' := Lib.hid hW'
  clear hW b0 b1 b2 X0 X1 X2 hz hT
  have H0 := Below.refl W.heap.size W
  obtain ⟨p0_0, p0_1, p0_2, p1_0, p1_1, p1_2, p2_0, p2_1, p2_2⟩ := HA.out W H0
  go_enter Tryd.func9, Tryd.ntmps9
  go_upto_region 1 with fail
  rw [hW'.out]
  clear hW'
  by_cases h1 : 100 < xas.size
  · have d1 := dt (show (100 : Int) < (xas.size : Int) by omega)
    clear h1
    go_wp2_with fail
    refine (KW.out _ (HT.out _ H0)).mono ?_
    rintro _ wz ⟨rfl, hb⟩
    have BZ := Lib.hid (HB.out _ (H0.trans (hb.mono H0.size)))
    clear hb
    go_wp2_with fail
    go_ret
    exact outB rfl BZ.out
  have d1 := df (show ¬ (100 : Int) < (xas.size : Int) by omega)
  clear h1
  by_cases h2 : 100 < xbs.size
  · have d2 := dt (show (100 : Int) < (xbs.size : Int) by omega)
    clear h2
    go_wp2_with fail
    refine (KW.out _ (HT.out _ H0)).mono ?_
    rintro _ wz ⟨rfl, hb⟩
    have BZ := Lib.hid (HB.out _ (H0.trans (hb.mono H0.size)))
    clear hb
    go_wp2_with fail
    go_ret
    exact outB rfl BZ.out
  have d2 := df (show ¬ (100 : Int) < (xbs.size : Int) by omega)
  clear h2
  by_cases h3 : 100 < xcs.size
  · have d3 := dt (show (100 : Int) < (xcs.size : Int) by omega)
    clear h3
    go_wp2_with fail
    refine (KW.out _ (HT.out _ H0)).mono ?_
    rintro _ wz ⟨rfl, hb⟩
    have BZ := Lib.hid (HB.out _ (H0.trans (hb.mono H0.size)))
    clear hb
    go_wp2_with fail
    go_ret
    exact outB rfl BZ.out
  have d3 := df (show ¬ (100 : Int) < (xcs.size : Int) by omega)
  clear h3
  have Z0 : Below W.heap.size W W.drew := below_drewN (Below.refl _ _) 1
  go_wp2_with fail
  clear d1 d2 d3 p0_0 p0_1 p0_2 p1_0 p1_1 p1_2 p2_0 p2_1 p2_2
  refine wp_region_held_drew (S := (fun wy : World => wy.cell? ⟨w.heap.size, 0, none⟩ = some (.int .i64 xak) ∧ wy.cell? ⟨w.heap.size, 1, none⟩ = some (.int .i64 xan) ∧ wy.cell? ⟨w.heap.size, 2, none⟩ = some (.string xas) ∧ wy.cell? ⟨w.heap.size + 1, 0, none⟩ = some (.int .i64 xbk) ∧ wy.cell? ⟨w.heap.size + 1, 1, none⟩ = some (.int .i64 xbn) ∧ wy.cell? ⟨w.heap.size + 1, 2, none⟩ = some (.string xbs) ∧ wy.cell? ⟨w.heap.size + 2, 0, none⟩ = some (.int .i64 xck) ∧ wy.cell? ⟨w.heap.size + 2, 1, none⟩ = some (.int .i64 xcn) ∧ wy.cell? ⟨w.heap.size + 2, 2, none⟩ = some (.string xcs))) (by kernel_rfl) (HA.out _ Z0) (fun hHeld => ?_)
  refine wpAnyH_take (i := 0) (v := (.agg #[.int .i64 xak, .int .i64 xan, .string xas])) at_zero (by kernel_rfl) (by kernel_rfl) (by kernel_rfl) (fun _ _ _ h => h) (Or.inl ⟨by kernel_rfl, fun wy hSw => ?_⟩) (by assumption) ?_
  · (try dsimp only at hSw); go_simp
  try simp only [Act.put, List.setIfInBounds_toArray, List.set_cons_zero, List.set_cons_succ]
  refine wpAnyH_take (i := 1) (v := (.agg #[.int .i64 xbk, .int .i64 xbn, .string xbs])) (at_succ at_zero) (by kernel_rfl) (by kernel_rfl) (by kernel_rfl) (fun _ _ _ h => h) (Or.inl ⟨by kernel_rfl, fun wy hSw => ?_⟩) (by assumption) ?_
  · (try dsimp only at hSw); go_simp
  try simp only [Act.put, List.setIfInBounds_toArray, List.set_cons_zero, List.set_cons_succ]
  refine wpAnyH_take (i := 3) (v := (.agg #[.int .i64 xbk, .int .i64 xbn, .string xbs])) (at_succ (at_succ (at_succ at_zero))) (by kernel_rfl) (by kernel_rfl) (by kernel_rfl) (fun _ _ _ h => h) (Or.inl ⟨by kernel_rfl, fun wy hSw => ?_⟩) (by assumption) ?_
  · (try dsimp only at hSw); go_simp
  try simp only [Act.put, List.setIfInBounds_toArray, List.set_cons_zero, List.set_cons_succ]
  refine wpAnyH_take (i := 4) (v := (.agg #[.int .i64 xak, .int .i64 xan, .string xas])) (at_succ (at_succ (at_succ (at_succ at_zero)))) (by kernel_rfl) (by kernel_rfl) (by kernel_rfl) (fun _ _ _ h => h) (Or.inl ⟨by kernel_rfl, fun wy hSw => ?_⟩) (by assumption) ?_
  · (try dsimp only at hSw); go_simp
  try simp only [Act.put, List.setIfInBounds_toArray, List.set_cons_zero, List.set_cons_succ]
  refine wpAnyH_ready (rs := [2]) (by kernel_rfl) (by simp) ?_
  refine AllReadyH.cons (at_succ (at_succ at_zero)) (fun K hK => ?_) AllReadyH.nil
  rw [if_pos (by kernel_rfl)]
  go_simp
  refine (K1.out _).mono ?_
  rintro _ wz ⟨rfl, hb⟩
  have Z1 := Z0.trans (hb.mono Z0.size)
  clear hb hHeld
  go_wp2_with fail
  refine hK.out _ _ (HA.out _ Z1) (fun hHeld => ?_)
  clear hK K
  try simp only [Act.put, List.setIfInBounds_toArray, List.set_cons_zero, List.set_cons_succ]
  refine wpAnyH_ready (rs := [5]) (by kernel_rfl) (by simp) ?_
  refine AllReadyH.cons (at_succ (at_succ (at_succ (at_succ (at_succ at_zero))))) (fun K hK => ?_) AllReadyH.nil
  rw [if_pos (by kernel_rfl)]
  go_simp
  refine (K2.out _).mono ?_
  rintro _ wz ⟨rfl, hb⟩
  have Z2 := Z1.trans (hb.mono Z1.size)
  clear hb hHeld
  go_wp2_with fail
  refine hK.out _ _ (HA.out _ Z2) (fun hHeld => ?_)
  clear hK K
  try simp only [Act.put, List.setIfInBounds_toArray, List.set_cons_zero, List.set_cons_succ]
  refine wpAnyH_take (i := 6) (v := (.bool x)) (at_succ (at_succ (at_succ (at_succ (at_succ (at_succ at_zero)))))) (by kernel_rfl) (by kernel_rfl) (by kernel_rfl) (fun _ _ _ h => h) (Or.inl ⟨by kernel_rfl, fun wy hSw => ?_⟩) (by assumption) ?_
  · (try dsimp only at hSw); go_simp
  try simp only [Act.put, List.setIfInBounds_toArray, List.set_cons_zero, List.set_cons_succ]
  refine wpAnyH_take (i := 7) (v := (.bool y)) (at_succ (at_succ (at_succ (at_succ (at_succ (at_succ (at_succ at_zero))))))) (by kernel_rfl) (by kernel_rfl) (by kernel_rfl) (fun _ _ _ h => h) (Or.inl ⟨by kernel_rfl, fun wy hSw => ?_⟩) (by assumption) ?_
  · (try dsimp only at hSw); go_simp
  try simp only [Act.put, List.setIfInBounds_toArray, List.set_cons_zero, List.set_cons_succ]
  refine wpAnyH_done (by kernel_rfl) ?_ _
  clear K1 K2
  have HX := Z2
  obtain ⟨p0_0, p0_1, p0_2, p1_0, p1_1, p1_2, p2_0, p2_1, p2_2⟩ := HA.out _ HX
  have fin : ∀ (wy : World), Below W.heap.size W wy → Below w.heap.size w wy := HB.out
  cases E with
  | true =>
    obtain ⟨rfl, rfl⟩ := G1.out rfl
    go_wp2_with fail
    refine (KW.out _ (HT.out _ HX)).mono ?_
    rintro _ wz ⟨rfl, hb⟩
    have BZ := Lib.hid (HB.out _ (HX.trans (hb.mono HX.size)))
    clear hb
    go_wp2_with fail
    go_ret
    exact outB rfl BZ.out
  | false =>
    obtain rfl := G0.out rfl
    cases x with
    | false =>
      go_wp2_with fail
      refine (KW.out _ (HT.out _ HX)).mono ?_
      rintro _ wz ⟨rfl, hb⟩
      have BZ := Lib.hid (HB.out _ (HX.trans (hb.mono HX.size)))
      clear hb
      go_wp2_with fail
      go_ret
      exact outB rfl BZ.out
    | true =>
      go_wp2_with fail
      refine (K3.out _).mono ?_
      rintro _ w5 ⟨rfl, hb⟩
      replace HX := HX.trans (hb.mono HX.size)
      clear hb K3 p0_0 p0_1 p0_2 p1_0 p1_1 p1_2 p2_0 p2_1 p2_2
      obtain ⟨p0_0, p0_1, p0_2, p1_0, p1_1, p1_2, p2_0, p2_1, p2_2⟩ := HA.out _ HX
      cases u with
      | false =>
        go_wp2_with fail
        refine (KW.out _ (HT.out _ HX)).mono ?_
        rintro _ wz ⟨rfl, hb⟩
        have BZ := Lib.hid (HB.out _ (HX.trans (hb.mono HX.size)))
        clear hb
        go_wp2_with fail
        go_ret
        exact outB rfl BZ.out
      | true =>
        have e := G2.out
        simp only [forall_const] at e
        subst e
        go_wp2_with fail
        refine (K4.out _).mono ?_
        rintro _ w6 ⟨rfl, hb⟩
        replace HX := HX.trans (hb.mono HX.size)
        clear hb K4 p0_0 p0_1 p0_2 p1_0 p1_1 p1_2 p2_0 p2_1 p2_2
        go_wp2_with fail
        refine (KW.out _ (HT.out _ HX)).mono ?_
        rintro _ wz ⟨rfl, hb⟩
        have BZ := Lib.hid (HB.out _ (HX.trans (hb.mono HX.size)))
        clear hb
        go_wp2_with fail
        go_ret
        exact outB rfl BZ.out
end Go.Proofs.YtagkmfhicpcjnaaDoor.Vlu
/- Arguments: a slice's word, a row of strings. -/
set_option linter.unusedVariables false
set_option maxRecDepth 100000
namespace Go.Proofs.YtagkmfhicpcjnaaDoor.Vlu
open Go.RowKit Go.ChangeShapes Go.WideShapes
variable {H : Type} {enc : TypeId × Value → H}

theorem slice_word {W : World} {fuel : Nat} {sp : Nat → Bool} {hd : Bool} {T e : TypeId} (ut : Tryd.prog.underlying T = some (.slice e)) {c0 : Value} {x : DataW H × List MemPlace} (hf : DataW.trod enc Tryd.prog W 0 sp hd fuel T [c0] = some x) : ∃ A n c, c0 = .slice A n c := by
  rcases Go.Deep.open_slice ut hf with ⟨hcs, hx⟩ | ⟨a, len, cap, m, k, D, Pl, hcs, _⟩
  · simp at hcs; exact ⟨_, _, _, hcs⟩
  · simp at hcs; exact ⟨_, _, _, hcs⟩
theorem strs_at {W : World} {fuel : Nat} {sp : Nat → Bool} {hd : Bool} {A : Option Addr} {n c : Nat} {x : DataW H × List MemPlace} (hf : DataW.trod enc Tryd.prog W 0 sp hd fuel 22 [.slice A n c] = some x) :
    ∃ l : List ByteArray, n = l.length ∧ StS W A c l ∧ l.length ≤ 9223372036854775807 := by
  obtain ⟨l, h1, h2, h3, h4, h5⟩ := flat_open (F := fT) Tryd.underlying22 (by kernel_rfl) (fun q cs y hl ht => by
    match cs, hl with
    | [c0], _ =>
      obtain ⟨n0, e0, _, w0⟩ := DataW.trod_string Tryd.underlying9 ht
      obtain rfl : c0 = .string n0 := by simpa using e0
      exact ⟨n0, rfl, w0⟩) hf
  exact ⟨l, h1, ⟨h2, h4, h5⟩, h3⟩
end Go.Proofs.YtagkmfhicpcjnaaDoor.Vlu
/- Arguments of layer 20: a value, an attribute by value, a row of values. -/
set_option linter.unusedVariables false
set_option maxRecDepth 100000
namespace Go.Proofs.YtagkmfhicpcjnaaDoor.Vlu
open Go.RowKit Go.ChangeShapes Go.WideShapes
variable {H : Type} {enc : TypeId × Value → H}

theorem vals_at {W : World} {fuel : Nat} {sp : Nat → Bool} {hd : Bool} {A : Option Addr} {n c : Nat} {x : DataW H × List MemPlace} (hf : DataW.trod enc Tryd.prog W 0 sp hd fuel 41 [.slice A n c] = some x) :
    ∃ l : List Vl, n = List.length l ∧ SlS fV W A c l ∧ l.length ≤ 9223372036854775807 := by
  obtain ⟨l, h1, h2, h3, h4, h5⟩ := flat_open (F := fV) Tryd.underlying41 (by kernel_rfl) (fun q cs y hl ht => by
    obtain ⟨xs, q, _, _, _, hxl, hfi⟩ := DataW.trod_struct Tryd.underlying26 ht
    match cs, hl with
    | [c0, c1, c2], _ =>
      have f0 : DataW.trod enc Tryd.prog W 0 sp hd q 3 [c0] = xs[0]? := hfi 0 _ rfl
      have f1 : DataW.trod enc Tryd.prog W 0 sp hd q 3 [c1] = xs[1]? := hfi 1 _ rfl
      have f2 : DataW.trod enc Tryd.prog W 0 sp hd q 9 [c2] = xs[2]? := hfi 2 _ rfl
      rw [List.getElem?_eq_getElem (by rw [hxl]; decide)] at f0 f1 f2
      obtain ⟨n0, e0, _, w0⟩ := DataW.trod_int Tryd.underlying3 f0
      obtain ⟨n1, e1, _, w1⟩ := DataW.trod_int Tryd.underlying3 f1
      obtain ⟨n2, e2, _, w2⟩ := DataW.trod_string Tryd.underlying9 f2
      obtain rfl : c0 = .int .i64 n0 := by simpa using e0
      obtain rfl : c1 = .int .i64 n1 := by simpa using e1
      obtain rfl : c2 = .string n2 := by simpa using e2
      exact ⟨(n0, n1, n2), rfl, lit_i64 w0, lit_i64 w1, w2⟩) hf
  exact ⟨l, h1, ⟨h2, h4, h5⟩, h3⟩
theorem value_at {W : World} {r : Reach} {b0 : Nat} {sp : Nat → Bool} {hd : Bool} {v : Value} {x : DataW H} {q : List MemPlace} (hv : Value.okWide Tryd.prog W r b0 26 v) (h : DataW.Trod enc Tryd.prog W 0 sp hd 26 v x q) :
    ∃ y : Vl, v = vlV y ∧ I64 y.1 ∧ I64 y.2.1 ∧ y.2.2.size ≤ 9223372036854775807 := by
  obtain ⟨cs, rfl, hsz⟩ := okWide_struct Tryd.underlying26 hv
  have hC : Tryd.prog.cellsOf 26 = 3 := by kernel_rfl
  rw [hC] at hsz
  obtain ⟨fuel, hf⟩ := h
  obtain ⟨l⟩ := cs
  have hf : DataW.trod enc Tryd.prog W 0 sp hd fuel 26 l = some (x, q) := hf
  obtain ⟨ys, k, _, _, _, hyl, hfj⟩ := DataW.trod_struct Tryd.underlying26 hf
  match l, hsz with
  | [c0, c1, c2], _ =>
    have f0 : DataW.trod enc Tryd.prog W 0 sp hd k 3 [c0] = ys[0]? := hfj 0 _ rfl
    have f1 : DataW.trod enc Tryd.prog W 0 sp hd k 3 [c1] = ys[1]? := hfj 1 _ rfl
    have f2 : DataW.trod enc Tryd.prog W 0 sp hd k 9 [c2] = ys[2]? := hfj 2 _ rfl
    rw [List.getElem?_eq_getElem (by rw [hyl]; decide)] at f0 f1 f2
    obtain ⟨n0, e0, _, w0⟩ := DataW.trod_int Tryd.underlying3 f0
    obtain ⟨n1, e1, _, w1⟩ := DataW.trod_int Tryd.underlying3 f1
    obtain ⟨n2, e2, _, w2⟩ := DataW.trod_string Tryd.underlying9 f2
    obtain rfl : c0 = .int .i64 n0 := by simpa using e0
    obtain rfl : c1 = .int .i64 n1 := by simpa using e1
    obtain rfl : c2 = .string n2 := by simpa using e2
    exact ⟨(n0, n1, n2), rfl, lit_i64 w0, lit_i64 w1, w2⟩
theorem attr_at {W : World} {r : Reach} {b0 : Nat} {sp : Nat → Bool} {hd : Bool} {v : Value} {x : DataW H} {q : List MemPlace} (hv : Value.okWide Tryd.prog W r b0 24 v) (h : DataW.Trod enc Tryd.prog W 0 sp hd 24 v x q) :
    ∃ (y : At) (A : Option Addr) (c : Nat), v = atV y A c ∧ StS W A c y.en ∧ y.n.size ≤ 9223372036854775807 ∧ y.en.length ≤ 9223372036854775807 ∧ I64 y.k ∧ I64 y.mn ∧ I64 y.mx := by
  obtain ⟨cs, rfl, hsz⟩ := okWide_struct Tryd.underlying24 hv
  have hC : Tryd.prog.cellsOf 24 = 7 := by kernel_rfl
  rw [hC] at hsz
  obtain ⟨fuel, hf⟩ := h
  obtain ⟨l⟩ := cs
  have hf : DataW.trod enc Tryd.prog W 0 sp hd fuel 24 l = some (x, q) := hf
  obtain ⟨ys, k, _, _, _, hyl, hfj⟩ := DataW.trod_struct Tryd.underlying24 hf
  match l, hsz with
  | [c0, c1, c2, c3, c4, c5, c6], _ =>
    have f0 : DataW.trod enc Tryd.prog W 0 sp hd k 9 [c0] = ys[0]? := hfj 0 _ rfl
    have f1 : DataW.trod enc Tryd.prog W 0 sp hd k 3 [c1] = ys[1]? := hfj 1 _ rfl
    have f2 : DataW.trod enc Tryd.prog W 0 sp hd k 3 [c2] = ys[2]? := hfj 2 _ rfl
    have f3 : DataW.trod enc Tryd.prog W 0 sp hd k 3 [c3] = ys[3]? := hfj 3 _ rfl
    have f4 : DataW.trod enc Tryd.prog W 0 sp hd k 22 [c4] = ys[4]? := hfj 4 _ rfl
    have f5 : DataW.trod enc Tryd.prog W 0 sp hd k 4 [c5] = ys[5]? := hfj 5 _ rfl
    have f6 : DataW.trod enc Tryd.prog W 0 sp hd k 4 [c6] = ys[6]? := hfj 6 _ rfl
    rw [List.getElem?_eq_getElem (by rw [hyl]; decide)] at f0 f1 f2 f3 f4 f5 f6
    obtain ⟨n0, e0, _, w0⟩ := DataW.trod_string Tryd.underlying9 f0
    obtain ⟨n1, e1, _, w1⟩ := DataW.trod_int Tryd.underlying3 f1
    obtain ⟨n2, e2, _, w2⟩ := DataW.trod_int Tryd.underlying3 f2
    obtain ⟨n3, e3, _, w3⟩ := DataW.trod_int Tryd.underlying3 f3
    obtain ⟨n5, e5, _⟩ := DataW.trod_bool Tryd.underlying4 f5
    obtain ⟨n6, e6, _⟩ := DataW.trod_bool Tryd.underlying4 f6
    obtain ⟨A4, m4, k4, rfl⟩ := slice_word Tryd.underlying22 f4
    obtain ⟨l4, rfl, h4, g4⟩ := strs_at f4
    obtain rfl : c0 = .string n0 := by simpa using e0
    obtain rfl : c1 = .int .i64 n1 := by simpa using e1
    obtain rfl : c2 = .int .i64 n2 := by simpa using e2
    obtain rfl : c3 = .int .i64 n3 := by simpa using e3
    obtain rfl : c5 = .bool n5 := by simpa using e5
    obtain rfl : c6 = .bool n6 := by simpa using e6
    exact ⟨⟨n0, n1, n2, n3, l4, n5, n6⟩, A4, k4, rfl, h4, w0, g4, lit_i64 w1, lit_i64 w2, lit_i64 w3⟩
end Go.Proofs.YtagkmfhicpcjnaaDoor.Vlu
/- Layer 20: the laws ValueBytes, ValueTexts. -/
set_option linter.unusedVariables false
set_option maxRecDepth 100000
namespace Go.Proofs.YtagkmfhicpcjnaaDoor.Vlu
open Go.RowKit

set_option maxRecDepth 100000 in
set_option maxHeartbeats 4000000 in
theorem law_bytes (v : Vl) (s : ByteArray) (w : World) (hT : Tabs w) (hv1 : I64 v.1) (hv2 : I64 v.2.1) (hv : v.2.2.size ≤ 9223372036854775807) (hs : s.size ≤ 9223372036854775807) :
    Calls Tryd.prog 5 #[vlV v, .string s] w (OutB w true) := by
  have KW := Lib.hid (fun (w1 : World) (h : Tabs w1) => awake_any w1 h)
  have K1 := Lib.hid (fun (w1 : World) (q : s.size ≤ 100000) => pdec_any s w1 q)
  have K2 := Lib.hid (fun (w1 : World) (q : s.size ≤ 100000) => rdec_any s w1 q)
  have K3 := Lib.hid (fun (w1 : World) (q : v.2.2.size ≤ 100000) => pput_any v w1 q hv1 hv2)
  have K4 := Lib.hid (fun (w1 : World) (q : v.2.2.size ≤ 100000) => rput_any v w1 q hv1 hv2)
  unfold OutB at KW
  unfold OutD at K1 K2
  unfold OutY at K3 K4
  generalize dcd s = z at *
  generalize Wire.bs (put v) = tx at *
  obtain ⟨z, er⟩ := z
  have E1 := v_self z
  have b0 := alloc_below w (bxV v)
  have X0 := blk_new w (bxV v)
  have hz : w.heap.size + 1 ≤ (w.alloc (bxV v)).heap.size := by simp
  obtain ⟨W, hW⟩ : ∃ W, (w.alloc (bxV v)) = W := ⟨_, rfl⟩
  rw [hW] at X0 hz b0
  obtain ⟨vk, vn, vs⟩ := v
  obtain ⟨zk, zn, zs⟩ := z
  dsimp only [vlV] at *
  have HA := Lib.hid (fun (w1 : World) (hb : Below W.heap.size W w1) => (show w1.cell? ⟨w.heap.size, 0, none⟩ = some (.int .i64 vk) ∧ w1.cell? ⟨w.heap.size, 1, none⟩ = some (.int .i64 vn) ∧ w1.cell? ⟨w.heap.size, 2, none⟩ = some (.string vs) from ⟨blk_cell (blk_below X0 hb (by omega)) 0 rfl, blk_cell (blk_below X0 hb (by omega)) 1 rfl, blk_cell (blk_below X0 hb (by omega)) 2 rfl⟩))
  have HT := Lib.hid (fun (w1 : World) (hb : Below W.heap.size W w1) => hT.below (b0.trans (hb.mono b0.size)))
  have HB := Lib.hid (fun (w1 : World) (hb : Below W.heap.size W w1) => (show Below w.heap.size w w1 from b0.trans (hb.mono b0.size)))
  have hW' : (w.alloc (.cells #[.int .i64 vk, .int .i64 vn, .string vs] 26)) = W := hW
  replace hW' := Lib.hid hW'
  clear hW b0 X0 hz hT
  have H0 := Below.refl W.heap.size W
  obtain ⟨p0_0, p0_1, p0_2⟩ := HA.out W H0
  go_enter Tryd.func5, Tryd.ntmps5
  go_upto_region 1 with fail
  rw [hW'.out]
  clear hW'
  by_cases h1 : 100 < vs.size
  · have d1 := dt (show (100 : Int) < (vs.size : Int) by omega)
    clear h1
    go_wp2_with fail
    refine (KW.out _ (HT.out _ H0)).mono ?_
    rintro _ wz ⟨rfl, hb⟩
    have BZ := Lib.hid (HB.out _ (H0.trans (hb.mono H0.size)))
    clear hb
    go_wp2_with fail
    go_ret
    exact outB rfl BZ.out
  have d1 := df (show ¬ (100 : Int) < (vs.size : Int) by omega)
  by_cases h2 : 100 < s.size
  · have d2 := dt (show (100 : Int) < (s.size : Int) by omega)
    clear h1 h2
    go_wp2_with fail
    refine (KW.out _ (HT.out _ H0)).mono ?_
    rintro _ wz ⟨rfl, hb⟩
    have BZ := Lib.hid (HB.out _ (H0.trans (hb.mono H0.size)))
    clear hb
    go_wp2_with fail
    go_ret
    exact outB rfl BZ.out
  have d2 := df (show ¬ (100 : Int) < (s.size : Int) by omega)
  have K1 := Lib.hid (fun (w1 : World) => K1.out w1 (by omega))
  have K2 := Lib.hid (fun (w1 : World) => K2.out w1 (by omega))
  have K3 := Lib.hid (fun (w1 : World) => K3.out w1 (by omega))
  have K4 := Lib.hid (fun (w1 : World) => K4.out w1 (by omega))
  clear h1 h2
  go_wp2_with fail
  refine (K1.out _).mono ?_
  rintro _ w2 ⟨rfl, hb⟩
  have H1 := H0.trans (hb.mono H0.size)
  clear hb K1 d1 d2 p0_0 p0_1 p0_2
  have X5 := blk_new w2 (bxV (zk, zn, zs))
  have H2 := H1.trans ((alloc_below w2 (bxV (zk, zn, zs))).mono H1.size)
  have hz5 : w2.heap.size < (w2.alloc (bxV (zk, zn, zs))).heap.size := by simp
  try dsimp only at X5 H2 hz5
  go_wp2_with fail
  refine (K2.out _).mono ?_
  rintro _ w3 ⟨rfl, hb⟩
  have H3 := H2.trans (hb.mono H2.size)
  replace X5 := blk_below X5 hb hz5
  replace hz5 := Nat.lt_of_lt_of_le hz5 hb.size
  clear hb K2
  have X7 := blk_new w3 (bxV (zk, zn, zs))
  replace X5 := blk_alloc X5 (bxV (zk, zn, zs))
  have H4 := H3.trans ((alloc_below w3 (bxV (zk, zn, zs))).mono H3.size)
  have hz7 : w3.heap.size < (w3.alloc (bxV (zk, zn, zs))).heap.size := by simp
  replace hz5 : w2.heap.size < (w3.alloc (bxV (zk, zn, zs))).heap.size := by simp; omega
  try dsimp only at X5 X7 H4 hz5 hz7
  have HC := Lib.hid (fun (wy : World) (hb : Below (w3.alloc (.cells #[.int .i64 zk, .int .i64 zn, .string zs] 26)).heap.size (w3.alloc (.cells #[.int .i64 zk, .int .i64 zn, .string zs] 26)) wy) => (show wy.cell? ⟨w.heap.size, 0, none⟩ = some (.int .i64 vk) ∧ wy.cell? ⟨w.heap.size, 1, none⟩ = some (.int .i64 vn) ∧ wy.cell? ⟨w.heap.size, 2, none⟩ = some (.string vs) ∧ wy.cell? ⟨w2.heap.size, 0, none⟩ = some (.int .i64 zk) ∧ wy.cell? ⟨w2.heap.size, 1, none⟩ = some (.int .i64 zn) ∧ wy.cell? ⟨w2.heap.size, 2, none⟩ = some (.string zs) ∧ wy.cell? ⟨w3.heap.size, 0, none⟩ = some (.int .i64 zk) ∧ wy.cell? ⟨w3.heap.size, 1, none⟩ = some (.int .i64 zn) ∧ wy.cell? ⟨w3.heap.size, 2, none⟩ = some (.string zs) from by
    obtain ⟨g0, g1, g2⟩ := HA.out wy (H4.trans (hb.mono H4.size))
    exact ⟨g0, g1, g2, blk_cell (blk_below X5 hb hz5) 0 rfl, blk_cell (blk_below X5 hb hz5) 1 rfl, blk_cell (blk_below X5 hb hz5) 2 rfl, blk_cell (blk_below X7 hb hz7) 0 rfl, blk_cell (blk_below X7 hb hz7) 1 rfl, blk_cell (blk_below X7 hb hz7) 2 rfl⟩))
  have HT2 := Lib.hid (fun (wy : World) (hb : Below (w3.alloc (.cells #[.int .i64 zk, .int .i64 zn, .string zs] 26)).heap.size (w3.alloc (.cells #[.int .i64 zk, .int .i64 zn, .string zs] 26)) wy) => HT.out wy (H4.trans (hb.mono H4.size)))
  have HB2 := Lib.hid (fun (wy : World) (hb : Below (w3.alloc (.cells #[.int .i64 zk, .int .i64 zn, .string zs] 26)).heap.size (w3.alloc (.cells #[.int .i64 zk, .int .i64 zn, .string zs] 26)) wy) => HB.out wy (H4.trans (hb.mono H4.size)))
  have Z0 : Below (w3.alloc (.cells #[.int .i64 zk, .int .i64 zn, .string zs] 26)).heap.size (w3.alloc (.cells #[.int .i64 zk, .int .i64 zn, .string zs] 26)) (w3.alloc (.cells #[.int .i64 zk, .int .i64 zn, .string zs] 26)).drew := below_drewN (Below.refl _ _) 1
  clear X5 X7 hz5 hz7
  go_wp2_with fail
  refine wp_region_held_drew (S := (fun wy : World => wy.cell? ⟨w.heap.size, 0, none⟩ = some (.int .i64 vk) ∧ wy.cell? ⟨w.heap.size, 1, none⟩ = some (.int .i64 vn) ∧ wy.cell? ⟨w.heap.size, 2, none⟩ = some (.string vs) ∧ wy.cell? ⟨w2.heap.size, 0, none⟩ = some (.int .i64 zk) ∧ wy.cell? ⟨w2.heap.size, 1, none⟩ = some (.int .i64 zn) ∧ wy.cell? ⟨w2.heap.size, 2, none⟩ = some (.string zs) ∧ wy.cell? ⟨w3.heap.size, 0, none⟩ = some (.int .i64 zk) ∧ wy.cell? ⟨w3.heap.size, 1, none⟩ = some (.int .i64 zn) ∧ wy.cell? ⟨w3.heap.size, 2, none⟩ = some (.string zs))) (by kernel_rfl) (HC.out _ Z0) (fun hHeld => ?_)
  refine wpAnyH_take (i := 0) (v := (.agg #[.int .i64 vk, .int .i64 vn, .string vs])) at_zero (by kernel_rfl) (by kernel_rfl) (by kernel_rfl) (fun _ _ _ h => h) (Or.inl ⟨by kernel_rfl, fun wy hSw => ?_⟩) (by assumption) ?_
  · (try dsimp only at hSw); go_simp
  try simp only [Act.put, List.setIfInBounds_toArray, List.set_cons_zero, List.set_cons_succ]
  refine wpAnyH_take (i := 2) (v := (.agg #[.int .i64 vk, .int .i64 vn, .string vs])) (at_succ (at_succ at_zero)) (by kernel_rfl) (by kernel_rfl) (by kernel_rfl) (fun _ _ _ h => h) (Or.inl ⟨by kernel_rfl, fun wy hSw => ?_⟩) (by assumption) ?_
  · (try dsimp only at hSw); go_simp
  try simp only [Act.put, List.setIfInBounds_toArray, List.set_cons_zero, List.set_cons_succ]
  refine wpAnyH_ready (rs := [1]) (by kernel_rfl) (by simp) ?_
  refine AllReadyH.cons (at_succ at_zero) (fun K hK => ?_) AllReadyH.nil
  rw [if_pos (by kernel_rfl)]
  go_simp
  refine (K3.out _).mono ?_
  rintro _ wz ⟨rfl, hb⟩
  have Z1 := Z0.trans (hb.mono Z0.size)
  clear hb hHeld
  go_wp2_with fail
  refine hK.out _ _ (HC.out _ Z1) (fun hHeld => ?_)
  clear hK K
  try simp only [Act.put, List.setIfInBounds_toArray, List.set_cons_zero, List.set_cons_succ]
  refine wpAnyH_ready (rs := [3]) (by kernel_rfl) (by simp) ?_
  refine AllReadyH.cons (at_succ (at_succ (at_succ at_zero))) (fun K hK => ?_) AllReadyH.nil
  rw [if_pos (by kernel_rfl)]
  go_simp
  refine (K4.out _).mono ?_
  rintro _ wz ⟨rfl, hb⟩
  have Z2 := Z1.trans (hb.mono Z1.size)
  clear hb hHeld
  go_wp2_with fail
  refine hK.out _ _ (HC.out _ Z2) (fun hHeld => ?_)
  clear hK K
  try simp only [Act.put, List.setIfInBounds_toArray, List.set_cons_zero, List.set_cons_succ]
  refine wpAnyH_take (i := 4) (v := (.bool true)) (at_succ (at_succ (at_succ (at_succ at_zero)))) (by kernel_rfl) (by kernel_rfl) (by kernel_rfl) (fun _ _ _ h => h) (Or.inl ⟨by kernel_rfl, fun wy hSw => ?_⟩) (by assumption) ?_
  · (try dsimp only at hSw); go_simp
  try simp only [Act.put, List.setIfInBounds_toArray, List.set_cons_zero, List.set_cons_succ]
  refine wpAnyH_take (i := 5) (v := (.bool true)) (at_succ (at_succ (at_succ (at_succ (at_succ at_zero))))) (by kernel_rfl) (by kernel_rfl) (by kernel_rfl) (fun _ _ _ h => h) (Or.inl ⟨by kernel_rfl, fun wy hSw => ?_⟩) (by assumption) ?_
  · (try dsimp only at hSw); go_simp
  try simp only [Act.put, List.setIfInBounds_toArray, List.set_cons_zero, List.set_cons_succ]
  refine wpAnyH_take (i := 6) (v := (.agg #[.int .i64 zk, .int .i64 zn, .string zs])) (at_succ (at_succ (at_succ (at_succ (at_succ (at_succ at_zero)))))) (by kernel_rfl) (by kernel_rfl) (by kernel_rfl) (fun _ _ _ h => h) (Or.inl ⟨by kernel_rfl, fun wy hSw => ?_⟩) (by assumption) ?_
  · (try dsimp only at hSw); go_simp
  try simp only [Act.put, List.setIfInBounds_toArray, List.set_cons_zero, List.set_cons_succ]
  refine wpAnyH_take (i := 7) (v := (.agg #[.int .i64 zk, .int .i64 zn, .string zs])) (at_succ (at_succ (at_succ (at_succ (at_succ (at_succ (at_succ at_zero))))))) (by kernel_rfl) (by kernel_rfl) (by kernel_rfl) (fun _ _ _ h => h) (Or.inl ⟨by kernel_rfl, fun wy hSw => ?_⟩) (by assumption) ?_
  · (try dsimp only at hSw); go_simp
  try simp only [Act.put, List.setIfInBounds_toArray, List.set_cons_zero, List.set_cons_succ]
  refine wpAnyH_take (i := 8) (v := (.bool true)) (at_succ (at_succ (at_succ (at_succ (at_succ (at_succ (at_succ (at_succ at_zero)))))))) (by kernel_rfl) (by kernel_rfl) (by kernel_rfl) (fun _ _ _ h => h) (Or.inl ⟨by kernel_rfl, fun wy hSw => ?_⟩) (by assumption) ?_
  · (try dsimp only at hSw); go_simp
  try simp only [Act.put, List.setIfInBounds_toArray, List.set_cons_zero, List.set_cons_succ]
  refine wpAnyH_take (i := 9) (v := (.bool true)) (at_succ (at_succ (at_succ (at_succ (at_succ (at_succ (at_succ (at_succ (at_succ at_zero))))))))) (by kernel_rfl) (by kernel_rfl) (by kernel_rfl) (fun _ _ _ h => h) (Or.inl ⟨by kernel_rfl, fun wy hSw => ?_⟩) (by assumption) ?_
  · (try dsimp only at hSw); go_simp
  try simp only [Act.put, List.setIfInBounds_toArray, List.set_cons_zero, List.set_cons_succ]
  refine wpAnyH_take (i := 10) (v := (.bool true)) (at_succ (at_succ (at_succ (at_succ (at_succ (at_succ (at_succ (at_succ (at_succ (at_succ at_zero)))))))))) (by kernel_rfl) (by kernel_rfl) (by kernel_rfl) (fun _ _ _ h => h) (Or.inl ⟨by kernel_rfl, fun wy hSw => ?_⟩) (by assumption) ?_
  · (try dsimp only at hSw); go_simp
  try simp only [Act.put, List.setIfInBounds_toArray, List.set_cons_zero, List.set_cons_succ]
  refine wpAnyH_take (i := 11) (v := (.int .i64 er)) (at_succ (at_succ (at_succ (at_succ (at_succ (at_succ (at_succ (at_succ (at_succ (at_succ (at_succ at_zero))))))))))) (by kernel_rfl) (by kernel_rfl) (by kernel_rfl) (fun _ _ _ h => h) (Or.inl ⟨by kernel_rfl, fun wy hSw => ?_⟩) (by assumption) ?_
  · (try dsimp only at hSw); go_simp
  try simp only [Act.put, List.setIfInBounds_toArray, List.set_cons_zero, List.set_cons_succ]
  refine wpAnyH_take (i := 12) (v := (.int .i64 er)) (at_succ (at_succ (at_succ (at_succ (at_succ (at_succ (at_succ (at_succ (at_succ (at_succ (at_succ (at_succ at_zero)))))))))))) (by kernel_rfl) (by kernel_rfl) (by kernel_rfl) (fun _ _ _ h => h) (Or.inl ⟨by kernel_rfl, fun wy hSw => ?_⟩) (by assumption) ?_
  · (try dsimp only at hSw); go_simp
  try simp only [Act.put, List.setIfInBounds_toArray, List.set_cons_zero, List.set_cons_succ]
  refine wpAnyH_take (i := 13) (v := (.bool true)) (at_succ (at_succ (at_succ (at_succ (at_succ (at_succ (at_succ (at_succ (at_succ (at_succ (at_succ (at_succ (at_succ at_zero))))))))))))) (by kernel_rfl) (by kernel_rfl) (by kernel_rfl) (fun _ _ _ h => h) (Or.inl ⟨by kernel_rfl, fun wy hSw => ?_⟩) (by assumption) ?_
  · (try dsimp only at hSw); go_simp
  try simp only [Act.put, List.setIfInBounds_toArray, List.set_cons_zero, List.set_cons_succ]
  refine wpAnyH_take (i := 14) (v := (.bool true)) (at_succ (at_succ (at_succ (at_succ (at_succ (at_succ (at_succ (at_succ (at_succ (at_succ (at_succ (at_succ (at_succ (at_succ at_zero)))))))))))))) (by kernel_rfl) (by kernel_rfl) (by kernel_rfl) (fun _ _ _ h => h) (Or.inl ⟨by kernel_rfl, fun wy hSw => ?_⟩) (by assumption) ?_
  · (try dsimp only at hSw); go_simp
  try simp only [Act.put, List.setIfInBounds_toArray, List.set_cons_zero, List.set_cons_succ]
  refine wpAnyH_take (i := 15) (v := (.bool true)) (at_succ (at_succ (at_succ (at_succ (at_succ (at_succ (at_succ (at_succ (at_succ (at_succ (at_succ (at_succ (at_succ (at_succ (at_succ at_zero))))))))))))))) (by kernel_rfl) (by kernel_rfl) (by kernel_rfl) (fun _ _ _ h => h) (Or.inl ⟨by kernel_rfl, fun wy hSw => ?_⟩) (by assumption) ?_
  · (try dsimp only at hSw); go_simp
  try simp only [Act.put, List.setIfInBounds_toArray, List.set_cons_zero, List.set_cons_succ]
  refine wpAnyH_ready (rs := [16]) (by kernel_rfl) (by simp) ?_
  refine AllReadyH.cons (at_succ (at_succ (at_succ (at_succ (at_succ (at_succ (at_succ (at_succ (at_succ (at_succ (at_succ (at_succ (at_succ (at_succ (at_succ (at_succ at_zero)))))))))))))))) (fun K hK => ?_) AllReadyH.nil
  rw [if_pos (by kernel_rfl)]
  go_simp
  refine (KW.out _ (HT2.out _ Z2)).mono ?_
  rintro _ wz ⟨rfl, hb⟩
  have Z3 := Z2.trans (hb.mono Z2.size)
  clear hb hHeld
  go_wp2_with fail
  refine hK.out _ _ (HC.out _ Z3) (fun hHeld => ?_)
  clear hK K
  try simp only [Act.put, List.setIfInBounds_toArray, List.set_cons_zero, List.set_cons_succ]
  refine wpAnyH_take (i := 17) (v := (.bool true)) (at_succ (at_succ (at_succ (at_succ (at_succ (at_succ (at_succ (at_succ (at_succ (at_succ (at_succ (at_succ (at_succ (at_succ (at_succ (at_succ (at_succ at_zero))))))))))))))))) (by kernel_rfl) (by kernel_rfl) (by kernel_rfl) (fun _ _ _ h => h) (Or.inl ⟨by kernel_rfl, fun wy hSw => ?_⟩) (by assumption) ?_
  · (try dsimp only at hSw); go_simp
  try simp only [Act.put, List.setIfInBounds_toArray, List.set_cons_zero, List.set_cons_succ]
  refine wpAnyH_take (i := 18) (v := (.bool true)) (at_succ (at_succ (at_succ (at_succ (at_succ (at_succ (at_succ (at_succ (at_succ (at_succ (at_succ (at_succ (at_succ (at_succ (at_succ (at_succ (at_succ (at_succ at_zero)))))))))))))))))) (by kernel_rfl) (by kernel_rfl) (by kernel_rfl) (fun _ _ _ h => h) (Or.inl ⟨by kernel_rfl, fun wy hSw => ?_⟩) (by assumption) ?_
  · (try dsimp only at hSw); go_simp
  try simp only [Act.put, List.setIfInBounds_toArray, List.set_cons_zero, List.set_cons_succ]
  refine wpAnyH_done (by kernel_rfl) ?_ _
  go_wp2_with fail
  go_ret
  exact outB rfl (HB2.out _ Z3)
set_option maxRecDepth 100000 in
set_option maxHeartbeats 4000000 in
theorem law_texts (v : Vl) (s : ByteArray) (w : World) (hT : Tabs w) (hv1 : I64 v.1) (hv2 : I64 v.2.1) (hv : v.2.2.size ≤ 9223372036854775807) (hs : s.size ≤ 9223372036854775807) :
    Calls Tryd.prog 7 #[vlV v, .string s] w (OutB w true) := by
  have KW := Lib.hid (fun (w1 : World) (h : Tabs w1) => awake_any w1 h)
  have K1 := Lib.hid (fun (w1 : World) (q : s.size ≤ 10000) (h : Tabs w1) => pprs_any s w1 q h)
  have K2 := Lib.hid (fun (w1 : World) (q : s.size ≤ 10000) => rprs_any s w1 q)
  have K3 := Lib.hid (fun (w1 : World) (q : v.2.2.size ≤ 100000) (h : Tabs w1) => pprt_any v w1 q h)
  have K4 := Lib.hid (fun (w1 : World) (q : v.2.2.size ≤ 100000) => rprt_any v w1 q)
  unfold OutB at KW
  unfold OutD at K1 K2
  unfold OutY at K3 K4
  generalize prs s = z at *
  generalize prt v = tx at *
  obtain ⟨z, er⟩ := z
  have E1 := v_self z
  have b0 := alloc_below w (bxV v)
  have X0 := blk_new w (bxV v)
  have hz : w.heap.size + 1 ≤ (w.alloc (bxV v)).heap.size := by simp
  obtain ⟨W, hW⟩ : ∃ W, (w.alloc (bxV v)) = W := ⟨_, rfl⟩
  rw [hW] at X0 hz b0
  obtain ⟨vk, vn, vs⟩ := v
  obtain ⟨zk, zn, zs⟩ := z
  dsimp only [vlV] at *
  have HA := Lib.hid (fun (w1 : World) (hb : Below W.heap.size W w1) => (show w1.cell? ⟨w.heap.size, 0, none⟩ = some (.int .i64 vk) ∧ w1.cell? ⟨w.heap.size, 1, none⟩ = some (.int .i64 vn) ∧ w1.cell? ⟨w.heap.size, 2, none⟩ = some (.string vs) from ⟨blk_cell (blk_below X0 hb (by omega)) 0 rfl, blk_cell (blk_below X0 hb (by omega)) 1 rfl, blk_cell (blk_below X0 hb (by omega)) 2 rfl⟩))
  have HT := Lib.hid (fun (w1 : World) (hb : Below W.heap.size W w1) => hT.below (b0.trans (hb.mono b0.size)))
  have HB := Lib.hid (fun (w1 : World) (hb : Below W.heap.size W w1) => (show Below w.heap.size w w1 from b0.trans (hb.mono b0.size)))
  have hW' : (w.alloc (.cells #[.int .i64 vk, .int .i64 vn, .string vs] 26)) = W := hW
  replace hW' := Lib.hid hW'
  clear hW b0 X0 hz hT
  have H0 := Below.refl W.heap.size W
  obtain ⟨p0_0, p0_1, p0_2⟩ := HA.out W H0
  go_enter Tryd.func7, Tryd.ntmps7
  go_upto_region 1 with fail
  rw [hW'.out]
  clear hW'
  by_cases h1 : 300 < vs.size
  · have d1 := dt (show (300 : Int) < (vs.size : Int) by omega)
    clear h1
    go_wp2_with fail
    refine (KW.out _ (HT.out _ H0)).mono ?_
    rintro _ wz ⟨rfl, hb⟩
    have BZ := Lib.hid (HB.out _ (H0.trans (hb.mono H0.size)))
    clear hb
    go_wp2_with fail
    go_ret
    exact outB rfl BZ.out
  have d1 := df (show ¬ (300 : Int) < (vs.size : Int) by omega)
  by_cases h2 : 300 < s.size
  · have d2 := dt (show (300 : Int) < (s.size : Int) by omega)
    clear h1 h2
    go_wp2_with fail
    refine (KW.out _ (HT.out _ H0)).mono ?_
    rintro _ wz ⟨rfl, hb⟩
    have BZ := Lib.hid (HB.out _ (H0.trans (hb.mono H0.size)))
    clear hb
    go_wp2_with fail
    go_ret
    exact outB rfl BZ.out
  have d2 := df (show ¬ (300 : Int) < (s.size : Int) by omega)
  have K1 := Lib.hid (fun (w1 : World) => K1.out w1 (by omega))
  have K2 := Lib.hid (fun (w1 : World) => K2.out w1 (by omega))
  have K3 := Lib.hid (fun (w1 : World) => K3.out w1 (by omega))
  have K4 := Lib.hid (fun (w1 : World) => K4.out w1 (by omega))
  clear h1 h2
  go_wp2_with fail
  refine (K1.out _ (HT.out _ H0)).mono ?_
  rintro _ w2 ⟨rfl, hb⟩
  have H1 := H0.trans (hb.mono H0.size)
  clear hb K1 d1 d2 p0_0 p0_1 p0_2
  have X5 := blk_new w2 (bxV (zk, zn, zs))
  have H2 := H1.trans ((alloc_below w2 (bxV (zk, zn, zs))).mono H1.size)
  have hz5 : w2.heap.size < (w2.alloc (bxV (zk, zn, zs))).heap.size := by simp
  try dsimp only at X5 H2 hz5
  go_wp2_with fail
  refine (K2.out _).mono ?_
  rintro _ w3 ⟨rfl, hb⟩
  have H3 := H2.trans (hb.mono H2.size)
  replace X5 := blk_below X5 hb hz5
  replace hz5 := Nat.lt_of_lt_of_le hz5 hb.size
  clear hb K2
  have X7 := blk_new w3 (bxV (zk, zn, zs))
  replace X5 := blk_alloc X5 (bxV (zk, zn, zs))
  have H4 := H3.trans ((alloc_below w3 (bxV (zk, zn, zs))).mono H3.size)
  have hz7 : w3.heap.size < (w3.alloc (bxV (zk, zn, zs))).heap.size := by simp
  replace hz5 : w2.heap.size < (w3.alloc (bxV (zk, zn, zs))).heap.size := by simp; omega
  try dsimp only at X5 X7 H4 hz5 hz7
  have HC := Lib.hid (fun (wy : World) (hb : Below (w3.alloc (.cells #[.int .i64 zk, .int .i64 zn, .string zs] 26)).heap.size (w3.alloc (.cells #[.int .i64 zk, .int .i64 zn, .string zs] 26)) wy) => (show wy.cell? ⟨w.heap.size, 0, none⟩ = some (.int .i64 vk) ∧ wy.cell? ⟨w.heap.size, 1, none⟩ = some (.int .i64 vn) ∧ wy.cell? ⟨w.heap.size, 2, none⟩ = some (.string vs) ∧ wy.cell? ⟨w2.heap.size, 0, none⟩ = some (.int .i64 zk) ∧ wy.cell? ⟨w2.heap.size, 1, none⟩ = some (.int .i64 zn) ∧ wy.cell? ⟨w2.heap.size, 2, none⟩ = some (.string zs) ∧ wy.cell? ⟨w3.heap.size, 0, none⟩ = some (.int .i64 zk) ∧ wy.cell? ⟨w3.heap.size, 1, none⟩ = some (.int .i64 zn) ∧ wy.cell? ⟨w3.heap.size, 2, none⟩ = some (.string zs) from by
    obtain ⟨g0, g1, g2⟩ := HA.out wy (H4.trans (hb.mono H4.size))
    exact ⟨g0, g1, g2, blk_cell (blk_below X5 hb hz5) 0 rfl, blk_cell (blk_below X5 hb hz5) 1 rfl, blk_cell (blk_below X5 hb hz5) 2 rfl, blk_cell (blk_below X7 hb hz7) 0 rfl, blk_cell (blk_below X7 hb hz7) 1 rfl, blk_cell (blk_below X7 hb hz7) 2 rfl⟩))
  have HT2 := Lib.hid (fun (wy : World) (hb : Below (w3.alloc (.cells #[.int .i64 zk, .int .i64 zn, .string zs] 26)).heap.size (w3.alloc (.cells #[.int .i64 zk, .int .i64 zn, .string zs] 26)) wy) => HT.out wy (H4.trans (hb.mono H4.size)))
  have HB2 := Lib.hid (fun (wy : World) (hb : Below (w3.alloc (.cells #[.int .i64 zk, .int .i64 zn, .string zs] 26)).heap.size (w3.alloc (.cells #[.int .i64 zk, .int .i64 zn, .string zs] 26)) wy) => HB.out wy (H4.trans (hb.mono H4.size)))
  have Z0 : Below (w3.alloc (.cells #[.int .i64 zk, .int .i64 zn, .string zs] 26)).heap.size (w3.alloc (.cells #[.int .i64 zk, .int .i64 zn, .string zs] 26)) (w3.alloc (.cells #[.int .i64 zk, .int .i64 zn, .string zs] 26)).drew := below_drewN (Below.refl _ _) 1
  clear X5 X7 hz5 hz7
  go_wp2_with fail
  refine wp_region_held_drew (S := (fun wy : World => wy.cell? ⟨w.heap.size, 0, none⟩ = some (.int .i64 vk) ∧ wy.cell? ⟨w.heap.size, 1, none⟩ = some (.int .i64 vn) ∧ wy.cell? ⟨w.heap.size, 2, none⟩ = some (.string vs) ∧ wy.cell? ⟨w2.heap.size, 0, none⟩ = some (.int .i64 zk) ∧ wy.cell? ⟨w2.heap.size, 1, none⟩ = some (.int .i64 zn) ∧ wy.cell? ⟨w2.heap.size, 2, none⟩ = some (.string zs) ∧ wy.cell? ⟨w3.heap.size, 0, none⟩ = some (.int .i64 zk) ∧ wy.cell? ⟨w3.heap.size, 1, none⟩ = some (.int .i64 zn) ∧ wy.cell? ⟨w3.heap.size, 2, none⟩ = some (.string zs))) (by kernel_rfl) (HC.out _ Z0) (fun hHeld => ?_)
  refine wpAnyH_take (i := 0) (v := (.agg #[.int .i64 vk, .int .i64 vn, .string vs])) at_zero (by kernel_rfl) (by kernel_rfl) (by kernel_rfl) (fun _ _ _ h => h) (Or.inl ⟨by kernel_rfl, fun wy hSw => ?_⟩) (by assumption) ?_
  · (try dsimp only at hSw); go_simp
  try simp only [Act.put, List.setIfInBounds_toArray, List.set_cons_zero, List.set_cons_succ]
  refine wpAnyH_take (i := 2) (v := (.agg #[.int .i64 vk, .int .i64 vn, .string vs])) (at_succ (at_succ at_zero)) (by kernel_rfl) (by kernel_rfl) (by kernel_rfl) (fun _ _ _ h => h) (Or.inl ⟨by kernel_rfl, fun wy hSw => ?_⟩) (by assumption) ?_
  · (try dsimp only at hSw); go_simp
  try simp only [Act.put, List.setIfInBounds_toArray, List.set_cons_zero, List.set_cons_succ]
  refine wpAnyH_ready (rs := [1]) (by kernel_rfl) (by simp) ?_
  refine AllReadyH.cons (at_succ at_zero) (fun K hK => ?_) AllReadyH.nil
  rw [if_pos (by kernel_rfl)]
  go_simp
  refine (K3.out _ (HT2.out _ Z0)).mono ?_
  rintro _ wz ⟨rfl, hb⟩
  have Z1 := Z0.trans (hb.mono Z0.size)
  clear hb hHeld
  go_wp2_with fail
  refine hK.out _ _ (HC.out _ Z1) (fun hHeld => ?_)
  clear hK K
  try simp only [Act.put, List.setIfInBounds_toArray, List.set_cons_zero, List.set_cons_succ]
  refine wpAnyH_ready (rs := [3]) (by kernel_rfl) (by simp) ?_
  refine AllReadyH.cons (at_succ (at_succ (at_succ at_zero))) (fun K hK => ?_) AllReadyH.nil
  rw [if_pos (by kernel_rfl)]
  go_simp
  refine (K4.out _).mono ?_
  rintro _ wz ⟨rfl, hb⟩
  have Z2 := Z1.trans (hb.mono Z1.size)
  clear hb hHeld
  go_wp2_with fail
  refine hK.out _ _ (HC.out _ Z2) (fun hHeld => ?_)
  clear hK K
  try simp only [Act.put, List.setIfInBounds_toArray, List.set_cons_zero, List.set_cons_succ]
  refine wpAnyH_take (i := 4) (v := (.bool true)) (at_succ (at_succ (at_succ (at_succ at_zero)))) (by kernel_rfl) (by kernel_rfl) (by kernel_rfl) (fun _ _ _ h => h) (Or.inl ⟨by kernel_rfl, fun wy hSw => ?_⟩) (by assumption) ?_
  · (try dsimp only at hSw); go_simp
  try simp only [Act.put, List.setIfInBounds_toArray, List.set_cons_zero, List.set_cons_succ]
  refine wpAnyH_take (i := 5) (v := (.bool true)) (at_succ (at_succ (at_succ (at_succ (at_succ at_zero))))) (by kernel_rfl) (by kernel_rfl) (by kernel_rfl) (fun _ _ _ h => h) (Or.inl ⟨by kernel_rfl, fun wy hSw => ?_⟩) (by assumption) ?_
  · (try dsimp only at hSw); go_simp
  try simp only [Act.put, List.setIfInBounds_toArray, List.set_cons_zero, List.set_cons_succ]
  refine wpAnyH_take (i := 6) (v := (.agg #[.int .i64 zk, .int .i64 zn, .string zs])) (at_succ (at_succ (at_succ (at_succ (at_succ (at_succ at_zero)))))) (by kernel_rfl) (by kernel_rfl) (by kernel_rfl) (fun _ _ _ h => h) (Or.inl ⟨by kernel_rfl, fun wy hSw => ?_⟩) (by assumption) ?_
  · (try dsimp only at hSw); go_simp
  try simp only [Act.put, List.setIfInBounds_toArray, List.set_cons_zero, List.set_cons_succ]
  refine wpAnyH_take (i := 7) (v := (.agg #[.int .i64 zk, .int .i64 zn, .string zs])) (at_succ (at_succ (at_succ (at_succ (at_succ (at_succ (at_succ at_zero))))))) (by kernel_rfl) (by kernel_rfl) (by kernel_rfl) (fun _ _ _ h => h) (Or.inl ⟨by kernel_rfl, fun wy hSw => ?_⟩) (by assumption) ?_
  · (try dsimp only at hSw); go_simp
  try simp only [Act.put, List.setIfInBounds_toArray, List.set_cons_zero, List.set_cons_succ]
  refine wpAnyH_take (i := 8) (v := (.bool true)) (at_succ (at_succ (at_succ (at_succ (at_succ (at_succ (at_succ (at_succ at_zero)))))))) (by kernel_rfl) (by kernel_rfl) (by kernel_rfl) (fun _ _ _ h => h) (Or.inl ⟨by kernel_rfl, fun wy hSw => ?_⟩) (by assumption) ?_
  · (try dsimp only at hSw); go_simp
  try simp only [Act.put, List.setIfInBounds_toArray, List.set_cons_zero, List.set_cons_succ]
  refine wpAnyH_take (i := 9) (v := (.bool true)) (at_succ (at_succ (at_succ (at_succ (at_succ (at_succ (at_succ (at_succ (at_succ at_zero))))))))) (by kernel_rfl) (by kernel_rfl) (by kernel_rfl) (fun _ _ _ h => h) (Or.inl ⟨by kernel_rfl, fun wy hSw => ?_⟩) (by assumption) ?_
  · (try dsimp only at hSw); go_simp
  try simp only [Act.put, List.setIfInBounds_toArray, List.set_cons_zero, List.set_cons_succ]
  refine wpAnyH_take (i := 10) (v := (.bool true)) (at_succ (at_succ (at_succ (at_succ (at_succ (at_succ (at_succ (at_succ (at_succ (at_succ at_zero)))))))))) (by kernel_rfl) (by kernel_rfl) (by kernel_rfl) (fun _ _ _ h => h) (Or.inl ⟨by kernel_rfl, fun wy hSw => ?_⟩) (by assumption) ?_
  · (try dsimp only at hSw); go_simp
  try simp only [Act.put, List.setIfInBounds_toArray, List.set_cons_zero, List.set_cons_succ]
  refine wpAnyH_take (i := 11) (v := (.int .i64 er)) (at_succ (at_succ (at_succ (at_succ (at_succ (at_succ (at_succ (at_succ (at_succ (at_succ (at_succ at_zero))))))))))) (by kernel_rfl) (by kernel_rfl) (by kernel_rfl) (fun _ _ _ h => h) (Or.inl ⟨by kernel_rfl, fun wy hSw => ?_⟩) (by assumption) ?_
  · (try dsimp only at hSw); go_simp
  try simp only [Act.put, List.setIfInBounds_toArray, List.set_cons_zero, List.set_cons_succ]
  refine wpAnyH_take (i := 12) (v := (.int .i64 er)) (at_succ (at_succ (at_succ (at_succ (at_succ (at_succ (at_succ (at_succ (at_succ (at_succ (at_succ (at_succ at_zero)))))))))))) (by kernel_rfl) (by kernel_rfl) (by kernel_rfl) (fun _ _ _ h => h) (Or.inl ⟨by kernel_rfl, fun wy hSw => ?_⟩) (by assumption) ?_
  · (try dsimp only at hSw); go_simp
  try simp only [Act.put, List.setIfInBounds_toArray, List.set_cons_zero, List.set_cons_succ]
  refine wpAnyH_take (i := 13) (v := (.bool true)) (at_succ (at_succ (at_succ (at_succ (at_succ (at_succ (at_succ (at_succ (at_succ (at_succ (at_succ (at_succ (at_succ at_zero))))))))))))) (by kernel_rfl) (by kernel_rfl) (by kernel_rfl) (fun _ _ _ h => h) (Or.inl ⟨by kernel_rfl, fun wy hSw => ?_⟩) (by assumption) ?_
  · (try dsimp only at hSw); go_simp
  try simp only [Act.put, List.setIfInBounds_toArray, List.set_cons_zero, List.set_cons_succ]
  refine wpAnyH_take (i := 14) (v := (.bool true)) (at_succ (at_succ (at_succ (at_succ (at_succ (at_succ (at_succ (at_succ (at_succ (at_succ (at_succ (at_succ (at_succ (at_succ at_zero)))))))))))))) (by kernel_rfl) (by kernel_rfl) (by kernel_rfl) (fun _ _ _ h => h) (Or.inl ⟨by kernel_rfl, fun wy hSw => ?_⟩) (by assumption) ?_
  · (try dsimp only at hSw); go_simp
  try simp only [Act.put, List.setIfInBounds_toArray, List.set_cons_zero, List.set_cons_succ]
  refine wpAnyH_take (i := 15) (v := (.bool true)) (at_succ (at_succ (at_succ (at_succ (at_succ (at_succ (at_succ (at_succ (at_succ (at_succ (at_succ (at_succ (at_succ (at_succ (at_succ at_zero))))))))))))))) (by kernel_rfl) (by kernel_rfl) (by kernel_rfl) (fun _ _ _ h => h) (Or.inl ⟨by kernel_rfl, fun wy hSw => ?_⟩) (by assumption) ?_
  · (try dsimp only at hSw); go_simp
  try simp only [Act.put, List.setIfInBounds_toArray, List.set_cons_zero, List.set_cons_succ]
  refine wpAnyH_ready (rs := [16]) (by kernel_rfl) (by simp) ?_
  refine AllReadyH.cons (at_succ (at_succ (at_succ (at_succ (at_succ (at_succ (at_succ (at_succ (at_succ (at_succ (at_succ (at_succ (at_succ (at_succ (at_succ (at_succ at_zero)))))))))))))))) (fun K hK => ?_) AllReadyH.nil
  rw [if_pos (by kernel_rfl)]
  go_simp
  refine (KW.out _ (HT2.out _ Z2)).mono ?_
  rintro _ wz ⟨rfl, hb⟩
  have Z3 := Z2.trans (hb.mono Z2.size)
  clear hb hHeld
  go_wp2_with fail
  refine hK.out _ _ (HC.out _ Z3) (fun hHeld => ?_)
  clear hK K
  try simp only [Act.put, List.setIfInBounds_toArray, List.set_cons_zero, List.set_cons_succ]
  refine wpAnyH_take (i := 17) (v := (.bool true)) (at_succ (at_succ (at_succ (at_succ (at_succ (at_succ (at_succ (at_succ (at_succ (at_succ (at_succ (at_succ (at_succ (at_succ (at_succ (at_succ (at_succ at_zero))))))))))))))))) (by kernel_rfl) (by kernel_rfl) (by kernel_rfl) (fun _ _ _ h => h) (Or.inl ⟨by kernel_rfl, fun wy hSw => ?_⟩) (by assumption) ?_
  · (try dsimp only at hSw); go_simp
  try simp only [Act.put, List.setIfInBounds_toArray, List.set_cons_zero, List.set_cons_succ]
  refine wpAnyH_take (i := 18) (v := (.bool true)) (at_succ (at_succ (at_succ (at_succ (at_succ (at_succ (at_succ (at_succ (at_succ (at_succ (at_succ (at_succ (at_succ (at_succ (at_succ (at_succ (at_succ (at_succ at_zero)))))))))))))))))) (by kernel_rfl) (by kernel_rfl) (by kernel_rfl) (fun _ _ _ h => h) (Or.inl ⟨by kernel_rfl, fun wy hSw => ?_⟩) (by assumption) ?_
  · (try dsimp only at hSw); go_simp
  try simp only [Act.put, List.setIfInBounds_toArray, List.set_cons_zero, List.set_cons_succ]
  refine wpAnyH_done (by kernel_rfl) ?_ _
  go_wp2_with fail
  go_ret
  exact outB rfl (HB2.out _ Z3)
end Go.Proofs.YtagkmfhicpcjnaaDoor.Vlu
/- Layer 20: the law ValueBack. -/
set_option linter.unusedVariables false
set_option maxRecDepth 100000
namespace Go.Proofs.YtagkmfhicpcjnaaDoor.Vlu
open Go.RowKit

theorem enI_small (m : Int) : (Wire.enI m).length ≤ 10 := Wire.enI_length m
theorem put_size (v : Vl) : (Wire.bs (put v)).size ≤ 100000 := by
  rw [Wire.bs_size]
  have h := nrm_ok v
  unfold put put0
  generalize nrm v = u at *
  have hs := (chk_iff.1 h).2.2.2.2.1
  have a := enI_small u.1
  have b := enI_small u.2.1
  have c := enT_sz u.2.2
  rw [Wire.bs_size] at c
  rw [List.length_append]
  split
  · simp; omega
  · split <;> omega
theorem quo_small (l : List UInt8) : (Names.quo l).length ≤ 4 * l.length + 2 := by
  have := Names.quo_size l
  rwa [show (Names.bs (Names.quo l)).size = (Names.quo l).length by show (Names.quo l).toArray.size = _; simp] at this
theorem chk_ok {v : Vl} (h : chk v = 0) : I64 v.1 ∧ I64 v.2.1 ∧ v.2.2.size ≤ 100000 := by
  obtain ⟨a, b, c, d, e, _⟩ := chk_iff.1 h
  have := lo_ge v.1
  have := hi_le v.1
  unfold I64
  omega
theorem dcd_ok (s : ByteArray) (hs : s.size ≤ 100000) : I64 (dcd s).1.1 ∧ I64 (dcd s).1.2.1 ∧ (dcd s).1.2.2.size ≤ 100000 := by
  by_cases h : (dcd s).2 = 0
  · exact chk_ok (dcd_canon (s := s) hs (Prod.ext rfl h)).1
  · have e : (dcd s).1 = z0 := by
      unfold dcd at *
      split
      · rfl
      · rename_i h1
        rw [if_neg h1] at h
        split
        · rfl
        · rename_i h2
          rw [if_neg h2] at h
          exact absurd rfl h
    rw [e]
    exact chk_ok chk_z0
theorem prs_ok (s : ByteArray) : (prs s).1.2.2.size ≤ 100000 := by
  by_cases h : (prs s).2 = 0
  · exact (chk_ok (prs_canon (s := s) (Prod.ext rfl h)).1).2.2
  · have e : (prs s).1 = z0 := by
      unfold prs at *
      split
      · rfl
      · rename_i h1
        rw [if_neg h1] at h
        exact absurd rfl h
    rw [e]
    decide
theorem prt_small (v : Vl) : (prt v).size ≤ 10000 := by
  by_cases h : chk v = 0
  · rw [prt_is h]
    obtain ⟨h1, h2, h3, h4, h5, h6⟩ := chk_iff.1 h
    have hd := digS_size v.2.1
    unfold prt0
    split
    · decide
    split
    · split <;> decide
    split
    · omega
    split
    · rw [ByteArray.size_append]
      have : (⟨#[35]⟩ : ByteArray).size = 1 := rfl
      omega
    · rw [Wire.bs_size]
      have := quo_small v.2.2.data.toList
      have e : v.2.2.data.toList.length = v.2.2.size := by simp
      omega
  · rw [prt_bad h]
    decide
set_option maxRecDepth 100000 in
set_option maxHeartbeats 4000000 in
theorem law_back (v : Vl) (s : ByteArray) (w : World) (hT : Tabs w) (hv1 : I64 v.1) (hv2 : I64 v.2.1) (hv : v.2.2.size ≤ 9223372036854775807) (hs : s.size ≤ 9223372036854775807) :
    Calls Tryd.prog 8 #[vlV v, .string s] w (OutB w true) := by
  by_cases h1 : 300 < v.2.2.size ∨ 300 < s.size
  · have KW := Lib.hid (fun (w1 : World) (h : Tabs w1) => awake_any w1 h)
    unfold OutB at KW
    have b0 := alloc_below w (bxV v)
    have X0 := blk_new w (bxV v)
    have hz : w.heap.size + 1 ≤ (w.alloc (bxV v)).heap.size := by simp
    obtain ⟨W, hW⟩ : ∃ W, (w.alloc (bxV v)) = W := ⟨_, rfl⟩
    rw [hW] at X0 hz b0
    obtain ⟨vk, vn, vs⟩ := v
    dsimp only [vlV] at *
    have HA := Lib.hid (fun (w1 : World) (hb : Below W.heap.size W w1) => (show w1.cell? ⟨w.heap.size, 0, none⟩ = some (.int .i64 vk) ∧ w1.cell? ⟨w.heap.size, 1, none⟩ = some (.int .i64 vn) ∧ w1.cell? ⟨w.heap.size, 2, none⟩ = some (.string vs) from ⟨blk_cell (blk_below X0 hb (by omega)) 0 rfl, blk_cell (blk_below X0 hb (by omega)) 1 rfl, blk_cell (blk_below X0 hb (by omega)) 2 rfl⟩))
    have HT := Lib.hid (fun (w1 : World) (hb : Below W.heap.size W w1) => hT.below (b0.trans (hb.mono b0.size)))
    have HB := Lib.hid (fun (w1 : World) (hb : Below W.heap.size W w1) => (show Below w.heap.size w w1 from b0.trans (hb.mono b0.size)))
    have hW' : (w.alloc (.cells #[.int .i64 vk, .int .i64 vn, .string vs] 26)) = W := hW
    replace hW' := Lib.hid hW'
    clear hW b0 X0 hz hT
    have H0 := Below.refl W.heap.size W
    obtain ⟨p0_0, p0_1, p0_2⟩ := HA.out W H0
    go_enter Tryd.func8, Tryd.ntmps8
    go_upto_region 1 with fail
    rw [hW'.out]
    clear hW'
    by_cases h2 : 300 < vs.size
    · have d1 := dt (show (300 : Int) < (vs.size : Int) by omega)
      clear h1 h2
      go_wp2_with fail
      refine (KW.out _ (HT.out _ H0)).mono ?_
      rintro _ wz ⟨rfl, hb⟩
      have BZ := Lib.hid (HB.out _ (H0.trans (hb.mono H0.size)))
      clear hb
      go_wp2_with fail
      go_ret
      exact outB rfl BZ.out
    have d1 := df (show ¬ (300 : Int) < (vs.size : Int) by omega)
    have d2 := dt (show (300 : Int) < (s.size : Int) by omega)
    clear h1 h2
    go_wp2_with fail
    refine (KW.out _ (HT.out _ H0)).mono ?_
    rintro _ wz ⟨rfl, hb⟩
    have BZ := Lib.hid (HB.out _ (H0.trans (hb.mono H0.size)))
    clear hb
    go_wp2_with fail
    go_ret
    exact outB rfl BZ.out
  have KW := Lib.hid (fun (w1 : World) (h : Tabs w1) => awake_any w1 h)
  have ps : (Wire.bs (put v)).size ≤ 100000 := put_size v
  have pt : (prt v).size ≤ 10000 := prt_small v
  have K0 := Lib.hid (fun (w1 : World) => pcheck_any v w1 hv)
  have K3 := Lib.hid (fun (w1 : World) => pput_any v w1 (by omega) hv1 hv2)
  have K4 := Lib.hid (fun (w1 : World) (h : Tabs w1) => pprt_any v w1 (by omega) h)
  have K1 := Lib.hid (fun (e : chk v = 0) (w1 : World) => (show Calls Tryd.prog 25 #[.string (Wire.bs (put v))] w1 (OutD w1 (v, 0)) from by
    have := pdec_any (Wire.bs (put v)) w1 ps
    rw [dcd_put, nrm_of e] at this
    exact this))
  have K2 := Lib.hid (fun (e : chk v = 0) (w1 : World) (h : Tabs w1) => (show Calls Tryd.prog 34 #[.string (prt v)] w1 (OutD w1 (v, 0)) from by
    have := pprs_any (prt v) w1 pt h
    rw [prs_prt e] at this
    exact this))
  have K5 := Lib.hid (fun (w1 : World) => pdec_any s w1 (by omega))
  have K6 := Lib.hid (fun (w1 : World) (h : Tabs w1) => pprs_any s w1 (by omega) h)
  have Kz := Lib.hid (fun (z : Vl) (q : z.2.2.size ≤ 100000) (i1 : I64 z.1) (i2 : I64 z.2.1) (w1 : World) => pput_any z w1 q i1 i2)
  obtain ⟨hz1, hz2, hz3⟩ := dcd_ok s (by omega)
  have hu3 := prs_ok s
  have K7 := Lib.hid (fun (w1 : World) => pput_any (dcd s).1 w1 hz3 hz1 hz2)
  have K8 := Lib.hid (fun (w1 : World) => pcheck_any (dcd s).1 w1 (by omega))
  have K9 := Lib.hid (fun (w1 : World) (h : Tabs w1) => pprt_any (prs s).1 w1 hu3 h)
  have KX := Lib.hid (fun (w1 : World) => pcheck_any (prs s).1 w1 (by omega))
  have GD := Lib.hid (fun (h : (dcd s).2 = 0) => (show Wire.bs (put (dcd s).1) = s ∧ chk (dcd s).1 = 0 from by
    have := dcd_canon (s := s) (v := (dcd s).1) (by omega) (Prod.ext rfl h)
    exact ⟨this.2, this.1⟩))
  have GP := Lib.hid (fun (h : (prs s).2 = 0) => (show prt (prs s).1 = s ∧ chk (prs s).1 = 0 from by
    have := prs_canon (s := s) (v := (prs s).1) (Prod.ext rfl h)
    exact ⟨this.2, this.1⟩))
  clear hz1 hz2 hz3 hu3 Kz ps pt
  unfold OutB at KW
  unfold OutI at K0
  unfold OutY at K3 K4
  unfold OutD at K5 K6
  generalize dcd s = z at *
  generalize prs s = u at *
  have E0 := v_eq v v
  have E1 := v_neq v v
  rw [decide_eq_true (rfl : v = v)] at E0 E1
  generalize Wire.bs (put v) = tx at *
  generalize prt v = ty at *
  generalize hce : chk v = ce at *
  clear hce
  obtain ⟨⟨zk, zn, zs⟩, er⟩ := z
  obtain ⟨⟨uk, un, us⟩, eq⟩ := u
  have b0 := alloc_below w (bxV v)
  have X0 := blk_new w (bxV v)
  have hz : w.heap.size + 1 ≤ (w.alloc (bxV v)).heap.size := by simp
  obtain ⟨W, hW⟩ : ∃ W, (w.alloc (bxV v)) = W := ⟨_, rfl⟩
  rw [hW] at X0 hz b0
  obtain ⟨vk, vn, vs⟩ := v
  dsimp only [vlV, Bool.not_true] at *
  have HA := Lib.hid (fun (w1 : World) (hb : Below W.heap.size W w1) => (show w1.cell? ⟨w.heap.size, 0, none⟩ = some (.int .i64 vk) ∧ w1.cell? ⟨w.heap.size, 1, none⟩ = some (.int .i64 vn) ∧ w1.cell? ⟨w.heap.size, 2, none⟩ = some (.string vs) from ⟨blk_cell (blk_below X0 hb (by omega)) 0 rfl, blk_cell (blk_below X0 hb (by omega)) 1 rfl, blk_cell (blk_below X0 hb (by omega)) 2 rfl⟩))
  have HT := Lib.hid (fun (w1 : World) (hb : Below W.heap.size W w1) => hT.below (b0.trans (hb.mono b0.size)))
  have HB := Lib.hid (fun (w1 : World) (hb : Below W.heap.size W w1) => (show Below w.heap.size w w1 from b0.trans (hb.mono b0.size)))
  have hW' : (w.alloc (.cells #[.int .i64 vk, .int .i64 vn, .string vs] 26)) = W := hW
  replace hW' := Lib.hid hW'
  clear hW b0 X0 hz hT
  have H0 := Below.refl W.heap.size W
  obtain ⟨p0_0, p0_1, p0_2⟩ := HA.out W H0
  have d1 := df (show ¬ (300 : Int) < (vs.size : Int) by omega)
  have d2 := df (show ¬ (300 : Int) < (s.size : Int) by omega)
  clear h1
  go_enter Tryd.func8, Tryd.ntmps8
  go_upto_region 1 with fail
  rw [hW'.out]
  clear hW'
  by_cases ec : ce = 0
  · go_upto_region 3 with fail
    clear d1 d2
    have K1 := Lib.hid (fun (w1 : World) => (show Calls Tryd.prog 25 #[.string tx] w1 (OutD w1 ((vk, vn, vs), 0)) from K1.out ec w1))
    have K2 := Lib.hid (fun (w1 : World) (h : Tabs w1) => (show Calls Tryd.prog 34 #[.string ty] w1 (OutD w1 ((vk, vn, vs), 0)) from K2.out ec w1 h))
    unfold OutD at K1 K2
    dsimp only [vlV] at K1 K2
    have dc : (ce == 0) = true := by rw [ec]; rfl
    clear ec
    go_wp2_with fail
    refine (K0.out _).mono ?_
    rintro _ w1 ⟨rfl, hb⟩
    have H1 := H0.trans (hb.mono H0.size)
    clear hb K0 p0_0 p0_1 p0_2
    obtain ⟨p0_0, p0_1, p0_2⟩ := HA.out _ H1
    go_wp2_with fail
    refine (K3.out _).mono ?_
    rintro _ w2 ⟨rfl, hb⟩
    have H2 := H1.trans (hb.mono H1.size)
    clear hb K3 dc p0_0 p0_1 p0_2
    go_wp2_with fail
    refine (K1.out _).mono ?_
    rintro _ w3 ⟨rfl, hb⟩
    have H3 := H2.trans (hb.mono H2.size)
    clear hb K1
    have X5 := blk_new w3 (bxV (vk, vn, vs))
    have hz5 : w3.heap.size < (w3.alloc (bxV (vk, vn, vs))).heap.size := by simp
    have H4 := H3.trans ((alloc_below w3 (bxV (vk, vn, vs))).mono H3.size)
    try dsimp only at X5 H4 hz5
    obtain ⟨p0_0, p0_1, p0_2⟩ := HA.out _ H4
    go_wp2_with fail
    refine (K4.out _ (HT.out _ H4)).mono ?_
    rintro _ w5 ⟨rfl, hb⟩
    have H5 := H4.trans (hb.mono H4.size)
    replace X5 := blk_below X5 hb hz5
    replace hz5 := Nat.lt_of_lt_of_le hz5 hb.size
    clear hb K4 p0_0 p0_1 p0_2
    go_wp2_with fail
    refine (K2.out _ (HT.out _ H5)).mono ?_
    rintro _ w6 ⟨rfl, hb⟩
    have H6 := H5.trans (hb.mono H5.size)
    replace X5 := blk_below X5 hb hz5
    replace hz5 := Nat.lt_of_lt_of_le hz5 hb.size
    clear hb K2
    have H7 := H6.trans ((alloc_below w6 (bxV (vk, vn, vs))).mono H6.size)
    have X7 := blk_new w6 (bxV (vk, vn, vs))
    replace X5 := blk_alloc X5 (bxV (vk, vn, vs))
    try dsimp only at X5 X7 H7
    obtain ⟨p0_0, p0_1, p0_2⟩ := HA.out _ H7
    have y0 := blk_cell X5 0 (v := .int .i64 vk) rfl
    have y1 := blk_cell X5 1 (v := .int .i64 vn) rfl
    have y2 := blk_cell X5 2 (v := .string vs) rfl
    have x0 := blk_cell X7 0 (v := .int .i64 vk) rfl
    have x1 := blk_cell X7 1 (v := .int .i64 vn) rfl
    have x2 := blk_cell X7 2 (v := .string vs) rfl
    clear X5 X7 hz5
    go_wp2_with fail
    clear p0_0 p0_1 p0_2 y0 y1 y2 x0 x1 x2 E0 E1
    refine (K5.out _).mono ?_
    rintro _ wa ⟨rfl, hb⟩
    have H1 := H7.trans (hb.mono H7.size)
    clear hb K5
    have X5 := blk_new wa (bxV (zk, zn, zs))
    have H2 := H1.trans ((alloc_below wa (bxV (zk, zn, zs))).mono H1.size)
    have hz5 : wa.heap.size < (wa.alloc (bxV (zk, zn, zs))).heap.size := by simp
    try dsimp only at X5 H2 hz5
    go_wp2_with fail
    refine (K6.out _ (HT.out _ H2)).mono ?_
    rintro _ wb ⟨rfl, hb⟩
    have H3 := H2.trans (hb.mono H2.size)
    replace X5 := blk_below X5 hb hz5
    replace hz5 := Nat.lt_of_lt_of_le hz5 hb.size
    clear hb K6
    have X7 := blk_new wb (bxV (uk, un, us))
    replace X5 := blk_alloc X5 (bxV (uk, un, us))
    have H4 := H3.trans ((alloc_below wb (bxV (uk, un, us))).mono H3.size)
    have hz7 : wb.heap.size < (wb.alloc (bxV (uk, un, us))).heap.size := by simp
    replace hz5 : wa.heap.size < (wb.alloc (bxV (uk, un, us))).heap.size := by simp; omega
    try dsimp only at X5 X7 H4 hz5 hz7
    have HC := Lib.hid (fun (wy : World) (hb : Below (wb.alloc (.cells #[.int .i64 uk, .int .i64 un, .string us] 26)).heap.size (wb.alloc (.cells #[.int .i64 uk, .int .i64 un, .string us] 26)) wy) => (show wy.cell? ⟨wa.heap.size, 0, none⟩ = some (.int .i64 zk) ∧ wy.cell? ⟨wa.heap.size, 1, none⟩ = some (.int .i64 zn) ∧ wy.cell? ⟨wa.heap.size, 2, none⟩ = some (.string zs) ∧ wy.cell? ⟨wb.heap.size, 0, none⟩ = some (.int .i64 uk) ∧ wy.cell? ⟨wb.heap.size, 1, none⟩ = some (.int .i64 un) ∧ wy.cell? ⟨wb.heap.size, 2, none⟩ = some (.string us) from ⟨blk_cell (blk_below X5 hb hz5) 0 rfl, blk_cell (blk_below X5 hb hz5) 1 rfl, blk_cell (blk_below X5 hb hz5) 2 rfl, blk_cell (blk_below X7 hb hz7) 0 rfl, blk_cell (blk_below X7 hb hz7) 1 rfl, blk_cell (blk_below X7 hb hz7) 2 rfl⟩))
    have HT2 := Lib.hid (fun (wy : World) (hb : Below (wb.alloc (.cells #[.int .i64 uk, .int .i64 un, .string us] 26)).heap.size (wb.alloc (.cells #[.int .i64 uk, .int .i64 un, .string us] 26)) wy) => HT.out wy (H4.trans (hb.mono H4.size)))
    have HB2 := Lib.hid (fun (wy : World) (hb : Below (wb.alloc (.cells #[.int .i64 uk, .int .i64 un, .string us] 26)).heap.size (wb.alloc (.cells #[.int .i64 uk, .int .i64 un, .string us] 26)) wy) => HB.out wy (H4.trans (hb.mono H4.size)))
    have I0 := Below.refl (wb.alloc (.cells #[.int .i64 uk, .int .i64 un, .string us] 26)).heap.size (wb.alloc (.cells #[.int .i64 uk, .int .i64 un, .string us] 26))
    clear X5 X7 hz5 hz7
    obtain ⟨c0, c1, c2, e0, e1, e2⟩ := HC.out _ I0
    by_cases eg : er = 0
    · by_cases eh : eq = 0
      · obtain ⟨r1, r2⟩ := GD.out eg
        obtain ⟨r3, r4⟩ := GP.out eh
        have d1 : (er == 0) = true := by rw [eg]; rfl
        have d1n : (er != 0) = false := by rw [eg]; rfl
        have d2 : (eq == 0) = true := by rw [eh]; rfl
        have d2n : (eq != 0) = false := by rw [eh]; rfl
        have K7 := Lib.hid (fun (w1 : World) => (show Calls Tryd.prog 27 #[vlV (zk, zn, zs)] w1 (OutY w1 s) from by
          have := K7.out w1
          rw [r1] at this
          exact this))
        have K8 := Lib.hid (fun (w1 : World) => (show Calls Tryd.prog 13 #[vlV (zk, zn, zs)] w1 (OutI w1 0) from by
          have := K8.out w1
          rw [r2] at this
          exact this))
        unfold OutY at K7
        unfold OutI at K8
        dsimp only [vlV] at K7 K8
        have K9 := Lib.hid (fun (w1 : World) (h : Tabs w1) => (show Calls Tryd.prog 36 #[vlV (uk, un, us)] w1 (OutY w1 s) from by
          have := K9.out w1 h
          rw [r3] at this
          exact this))
        have KX := Lib.hid (fun (w1 : World) => (show Calls Tryd.prog 13 #[vlV (uk, un, us)] w1 (OutI w1 0) from by
          have := KX.out w1
          rw [r4] at this
          exact this))
        unfold OutY at K9
        unfold OutI at KX
        dsimp only [vlV] at K9 KX
        clear GD GP eg eh r1 r2 r3 r4
        go_wp2_with fail
        refine (K7.out _).mono ?_
        rintro _ w7 ⟨rfl, hb⟩
        replace I0 := I0.trans (hb.mono I0.size)
        clear hb c0 c1 c2 e0 e1 e2
        obtain ⟨c0, c1, c2, e0, e1, e2⟩ := HC.out _ I0
        go_wp2_with fail
        refine (K8.out _).mono ?_
        rintro _ w8 ⟨rfl, hb⟩
        replace I0 := I0.trans (hb.mono I0.size)
        clear hb c0 c1 c2 e0 e1 e2
        obtain ⟨c0, c1, c2, e0, e1, e2⟩ := HC.out _ I0
        go_wp2_with fail
        refine (K9.out _ (HT2.out _ I0)).mono ?_
        rintro _ w9 ⟨rfl, hb⟩
        replace I0 := I0.trans (hb.mono I0.size)
        clear hb c0 c1 c2 e0 e1 e2
        obtain ⟨c0, c1, c2, e0, e1, e2⟩ := HC.out _ I0
        go_wp2_with fail
        refine (KX.out _).mono ?_
        rintro _ wx ⟨rfl, hb⟩
        replace I0 := I0.trans (hb.mono I0.size)
        clear hb c0 c1 c2 e0 e1 e2
        obtain ⟨c0, c1, c2, e0, e1, e2⟩ := HC.out _ I0
        go_wp2_with fail
        refine (KW.out _ (HT2.out _ I0)).mono ?_
        rintro _ wz ⟨rfl, hb⟩
        have BZ := Lib.hid (HB2.out _ (I0.trans (hb.mono I0.size)))
        clear hb
        go_wp2_with fail
        go_ret
        exact outB rfl BZ.out
      · obtain ⟨r1, r2⟩ := GD.out eg
        have d1 : (er == 0) = true := by rw [eg]; rfl
        have d1n : (er != 0) = false := by rw [eg]; rfl
        have d2 : (eq == 0) = false := by simpa using eh
        have d2n : (eq != 0) = true := by simpa using eh
        have K7 := Lib.hid (fun (w1 : World) => (show Calls Tryd.prog 27 #[vlV (zk, zn, zs)] w1 (OutY w1 s) from by
          have := K7.out w1
          rw [r1] at this
          exact this))
        have K8 := Lib.hid (fun (w1 : World) => (show Calls Tryd.prog 13 #[vlV (zk, zn, zs)] w1 (OutI w1 0) from by
          have := K8.out w1
          rw [r2] at this
          exact this))
        unfold OutY at K7
        unfold OutI at K8
        dsimp only [vlV] at K7 K8
        clear GD GP eg eh r1 r2
        go_wp2_with fail
        refine (K7.out _).mono ?_
        rintro _ w7 ⟨rfl, hb⟩
        replace I0 := I0.trans (hb.mono I0.size)
        clear hb c0 c1 c2 e0 e1 e2
        obtain ⟨c0, c1, c2, e0, e1, e2⟩ := HC.out _ I0
        go_wp2_with fail
        refine (K8.out _).mono ?_
        rintro _ w8 ⟨rfl, hb⟩
        replace I0 := I0.trans (hb.mono I0.size)
        clear hb c0 c1 c2 e0 e1 e2
        obtain ⟨c0, c1, c2, e0, e1, e2⟩ := HC.out _ I0
        go_wp2_with fail
        refine (KW.out _ (HT2.out _ I0)).mono ?_
        rintro _ wz ⟨rfl, hb⟩
        have BZ := Lib.hid (HB2.out _ (I0.trans (hb.mono I0.size)))
        clear hb
        go_wp2_with fail
        go_ret
        exact outB rfl BZ.out
    · by_cases eh : eq = 0
      · obtain ⟨r3, r4⟩ := GP.out eh
        have d1 : (er == 0) = false := by simpa using eg
        have d1n : (er != 0) = true := by simpa using eg
        have d2 : (eq == 0) = true := by rw [eh]; rfl
        have d2n : (eq != 0) = false := by rw [eh]; rfl
        have K9 := Lib.hid (fun (w1 : World) (h : Tabs w1) => (show Calls Tryd.prog 36 #[vlV (uk, un, us)] w1 (OutY w1 s) from by
          have := K9.out w1 h
          rw [r3] at this
          exact this))
        have KX := Lib.hid (fun (w1 : World) => (show Calls Tryd.prog 13 #[vlV (uk, un, us)] w1 (OutI w1 0) from by
          have := KX.out w1
          rw [r4] at this
          exact this))
        unfold OutY at K9
        unfold OutI at KX
        dsimp only [vlV] at K9 KX
        clear GD GP eg eh r3 r4
        go_wp2_with fail
        refine (K9.out _ (HT2.out _ I0)).mono ?_
        rintro _ w9 ⟨rfl, hb⟩
        replace I0 := I0.trans (hb.mono I0.size)
        clear hb c0 c1 c2 e0 e1 e2
        obtain ⟨c0, c1, c2, e0, e1, e2⟩ := HC.out _ I0
        go_wp2_with fail
        refine (KX.out _).mono ?_
        rintro _ wx ⟨rfl, hb⟩
        replace I0 := I0.trans (hb.mono I0.size)
        clear hb c0 c1 c2 e0 e1 e2
        obtain ⟨c0, c1, c2, e0, e1, e2⟩ := HC.out _ I0
        go_wp2_with fail
        refine (KW.out _ (HT2.out _ I0)).mono ?_
        rintro _ wz ⟨rfl, hb⟩
        have BZ := Lib.hid (HB2.out _ (I0.trans (hb.mono I0.size)))
        clear hb
        go_wp2_with fail
        go_ret
        exact outB rfl BZ.out
      · have d1 : (er == 0) = false := by simpa using eg
        have d1n : (er != 0) = true := by simpa using eg
        have d2 : (eq == 0) = false := by simpa using eh
        have d2n : (eq != 0) = true := by simpa using eh
        clear GD GP eg eh
        go_wp2_with fail
        refine (KW.out _ (HT2.out _ I0)).mono ?_
        rintro _ wz ⟨rfl, hb⟩
        have BZ := Lib.hid (HB2.out _ (I0.trans (hb.mono I0.size)))
        clear hb
        go_wp2_with fail
        go_ret
        exact outB rfl BZ.out
  · go_upto_region 3 with fail
    clear d1 d2
    have dc : (ce == 0) = false := by simpa using ec
    clear ec K1 K2 K3 K4 E0 E1
    go_wp2_with fail
    refine (K0.out _).mono ?_
    rintro _ w1 ⟨rfl, hb⟩
    have H1b := H0.trans (hb.mono H0.size)
    clear hb K0 p0_0 p0_1 p0_2
    go_wp2_with fail
    clear dc
    refine (K5.out _).mono ?_
    rintro _ wa ⟨rfl, hb⟩
    have H1 := H1b.trans (hb.mono H1b.size)
    clear hb K5
    have X5 := blk_new wa (bxV (zk, zn, zs))
    have H2 := H1.trans ((alloc_below wa (bxV (zk, zn, zs))).mono H1.size)
    have hz5 : wa.heap.size < (wa.alloc (bxV (zk, zn, zs))).heap.size := by simp
    try dsimp only at X5 H2 hz5
    go_wp2_with fail
    refine (K6.out _ (HT.out _ H2)).mono ?_
    rintro _ wb ⟨rfl, hb⟩
    have H3 := H2.trans (hb.mono H2.size)
    replace X5 := blk_below X5 hb hz5
    replace hz5 := Nat.lt_of_lt_of_le hz5 hb.size
    clear hb K6
    have X7 := blk_new wb (bxV (uk, un, us))
    replace X5 := blk_alloc X5 (bxV (uk, un, us))
    have H4 := H3.trans ((alloc_below wb (bxV (uk, un, us))).mono H3.size)
    have hz7 : wb.heap.size < (wb.alloc (bxV (uk, un, us))).heap.size := by simp
    replace hz5 : wa.heap.size < (wb.alloc (bxV (uk, un, us))).heap.size := by simp; omega
    try dsimp only at X5 X7 H4 hz5 hz7
    have HC := Lib.hid (fun (wy : World) (hb : Below (wb.alloc (.cells #[.int .i64 uk, .int .i64 un, .string us] 26)).heap.size (wb.alloc (.cells #[.int .i64 uk, .int .i64 un, .string us] 26)) wy) => (show wy.cell? ⟨wa.heap.size, 0, none⟩ = some (.int .i64 zk) ∧ wy.cell? ⟨wa.heap.size, 1, none⟩ = some (.int .i64 zn) ∧ wy.cell? ⟨wa.heap.size, 2, none⟩ = some (.string zs) ∧ wy.cell? ⟨wb.heap.size, 0, none⟩ = some (.int .i64 uk) ∧ wy.cell? ⟨wb.heap.size, 1, none⟩ = some (.int .i64 un) ∧ wy.cell? ⟨wb.heap.size, 2, none⟩ = some (.string us) from ⟨blk_cell (blk_below X5 hb hz5) 0 rfl, blk_cell (blk_below X5 hb hz5) 1 rfl, blk_cell (blk_below X5 hb hz5) 2 rfl, blk_cell (blk_below X7 hb hz7) 0 rfl, blk_cell (blk_below X7 hb hz7) 1 rfl, blk_cell (blk_below X7 hb hz7) 2 rfl⟩))
    have HT2 := Lib.hid (fun (wy : World) (hb : Below (wb.alloc (.cells #[.int .i64 uk, .int .i64 un, .string us] 26)).heap.size (wb.alloc (.cells #[.int .i64 uk, .int .i64 un, .string us] 26)) wy) => HT.out wy (H4.trans (hb.mono H4.size)))
    have HB2 := Lib.hid (fun (wy : World) (hb : Below (wb.alloc (.cells #[.int .i64 uk, .int .i64 un, .string us] 26)).heap.size (wb.alloc (.cells #[.int .i64 uk, .int .i64 un, .string us] 26)) wy) => HB.out wy (H4.trans (hb.mono H4.size)))
    have I0 := Below.refl (wb.alloc (.cells #[.int .i64 uk, .int .i64 un, .string us] 26)).heap.size (wb.alloc (.cells #[.int .i64 uk, .int .i64 un, .string us] 26))
    clear X5 X7 hz5 hz7
    obtain ⟨c0, c1, c2, e0, e1, e2⟩ := HC.out _ I0
    by_cases eg : er = 0
    · by_cases eh : eq = 0
      · obtain ⟨r1, r2⟩ := GD.out eg
        obtain ⟨r3, r4⟩ := GP.out eh
        have d1 : (er == 0) = true := by rw [eg]; rfl
        have d1n : (er != 0) = false := by rw [eg]; rfl
        have d2 : (eq == 0) = true := by rw [eh]; rfl
        have d2n : (eq != 0) = false := by rw [eh]; rfl
        have K7 := Lib.hid (fun (w1 : World) => (show Calls Tryd.prog 27 #[vlV (zk, zn, zs)] w1 (OutY w1 s) from by
          have := K7.out w1
          rw [r1] at this
          exact this))
        have K8 := Lib.hid (fun (w1 : World) => (show Calls Tryd.prog 13 #[vlV (zk, zn, zs)] w1 (OutI w1 0) from by
          have := K8.out w1
          rw [r2] at this
          exact this))
        unfold OutY at K7
        unfold OutI at K8
        dsimp only [vlV] at K7 K8
        have K9 := Lib.hid (fun (w1 : World) (h : Tabs w1) => (show Calls Tryd.prog 36 #[vlV (uk, un, us)] w1 (OutY w1 s) from by
          have := K9.out w1 h
          rw [r3] at this
          exact this))
        have KX := Lib.hid (fun (w1 : World) => (show Calls Tryd.prog 13 #[vlV (uk, un, us)] w1 (OutI w1 0) from by
          have := KX.out w1
          rw [r4] at this
          exact this))
        unfold OutY at K9
        unfold OutI at KX
        dsimp only [vlV] at K9 KX
        clear GD GP eg eh r1 r2 r3 r4
        go_wp2_with fail
        refine (K7.out _).mono ?_
        rintro _ w7 ⟨rfl, hb⟩
        replace I0 := I0.trans (hb.mono I0.size)
        clear hb c0 c1 c2 e0 e1 e2
        obtain ⟨c0, c1, c2, e0, e1, e2⟩ := HC.out _ I0
        go_wp2_with fail
        refine (K8.out _).mono ?_
        rintro _ w8 ⟨rfl, hb⟩
        replace I0 := I0.trans (hb.mono I0.size)
        clear hb c0 c1 c2 e0 e1 e2
        obtain ⟨c0, c1, c2, e0, e1, e2⟩ := HC.out _ I0
        go_wp2_with fail
        refine (K9.out _ (HT2.out _ I0)).mono ?_
        rintro _ w9 ⟨rfl, hb⟩
        replace I0 := I0.trans (hb.mono I0.size)
        clear hb c0 c1 c2 e0 e1 e2
        obtain ⟨c0, c1, c2, e0, e1, e2⟩ := HC.out _ I0
        go_wp2_with fail
        refine (KX.out _).mono ?_
        rintro _ wx ⟨rfl, hb⟩
        replace I0 := I0.trans (hb.mono I0.size)
        clear hb c0 c1 c2 e0 e1 e2
        obtain ⟨c0, c1, c2, e0, e1, e2⟩ := HC.out _ I0
        go_wp2_with fail
        refine (KW.out _ (HT2.out _ I0)).mono ?_
        rintro _ wz ⟨rfl, hb⟩
        have BZ := Lib.hid (HB2.out _ (I0.trans (hb.mono I0.size)))
        clear hb
        go_wp2_with fail
        go_ret
        exact outB rfl BZ.out
      · obtain ⟨r1, r2⟩ := GD.out eg
        have d1 : (er == 0) = true := by rw [eg]; rfl
        have d1n : (er != 0) = false := by rw [eg]; rfl
        have d2 : (eq == 0) = false := by simpa using eh
        have d2n : (eq != 0) = true := by simpa using eh
        have K7 := Lib.hid (fun (w1 : World) => (show Calls Tryd.prog 27 #[vlV (zk, zn, zs)] w1 (OutY w1 s) from by
          have := K7.out w1
          rw [r1] at this
          exact this))
        have K8 := Lib.hid (fun (w1 : World) => (show Calls Tryd.prog 13 #[vlV (zk, zn, zs)] w1 (OutI w1 0) from by
          have := K8.out w1
          rw [r2] at this
          exact this))
        unfold OutY at K7
        unfold OutI at K8
        dsimp only [vlV] at K7 K8
        clear GD GP eg eh r1 r2
        go_wp2_with fail
        refine (K7.out _).mono ?_
        rintro _ w7 ⟨rfl, hb⟩
        replace I0 := I0.trans (hb.mono I0.size)
        clear hb c0 c1 c2 e0 e1 e2
        obtain ⟨c0, c1, c2, e0, e1, e2⟩ := HC.out _ I0
        go_wp2_with fail
        refine (K8.out _).mono ?_
        rintro _ w8 ⟨rfl, hb⟩
        replace I0 := I0.trans (hb.mono I0.size)
        clear hb c0 c1 c2 e0 e1 e2
        obtain ⟨c0, c1, c2, e0, e1, e2⟩ := HC.out _ I0
        go_wp2_with fail
        refine (KW.out _ (HT2.out _ I0)).mono ?_
        rintro _ wz ⟨rfl, hb⟩
        have BZ := Lib.hid (HB2.out _ (I0.trans (hb.mono I0.size)))
        clear hb
        go_wp2_with fail
        go_ret
        exact outB rfl BZ.out
    · by_cases eh : eq = 0
      · obtain ⟨r3, r4⟩ := GP.out eh
        have d1 : (er == 0) = false := by simpa using eg
        have d1n : (er != 0) = true := by simpa using eg
        have d2 : (eq == 0) = true := by rw [eh]; rfl
        have d2n : (eq != 0) = false := by rw [eh]; rfl
        have K9 := Lib.hid (fun (w1 : World) (h : Tabs w1) => (show Calls Tryd.prog 36 #[vlV (uk, un, us)] w1 (OutY w1 s) from by
          have := K9.out w1 h
          rw [r3] at this
          exact this))
        have KX := Lib.hid (fun (w1 : World) => (show Calls Tryd.prog 13 #[vlV (uk, un, us)] w1 (OutI w1 0) from by
          have := KX.out w1
          rw [r4] at this
          exact this))
        unfold OutY at K9
        unfold OutI at KX
        dsimp only [vlV] at K9 KX
        clear GD GP eg eh r3 r4
        go_wp2_with fail
        refine (K9.out _ (HT2.out _ I0)).mono ?_
        rintro _ w9 ⟨rfl, hb⟩
        replace I0 := I0.trans (hb.mono I0.size)
        clear hb c0 c1 c2 e0 e1 e2
        obtain ⟨c0, c1, c2, e0, e1, e2⟩ := HC.out _ I0
        go_wp2_with fail
        refine (KX.out _).mono ?_
        rintro _ wx ⟨rfl, hb⟩
        replace I0 := I0.trans (hb.mono I0.size)
        clear hb c0 c1 c2 e0 e1 e2
        obtain ⟨c0, c1, c2, e0, e1, e2⟩ := HC.out _ I0
        go_wp2_with fail
        refine (KW.out _ (HT2.out _ I0)).mono ?_
        rintro _ wz ⟨rfl, hb⟩
        have BZ := Lib.hid (HB2.out _ (I0.trans (hb.mono I0.size)))
        clear hb
        go_wp2_with fail
        go_ret
        exact outB rfl BZ.out
      · have d1 : (er == 0) = false := by simpa using eg
        have d1n : (er != 0) = true := by simpa using eg
        have d2 : (eq == 0) = false := by simpa using eh
        have d2n : (eq != 0) = true := by simpa using eh
        clear GD GP eg eh
        go_wp2_with fail
        refine (KW.out _ (HT2.out _ I0)).mono ?_
        rintro _ wz ⟨rfl, hb⟩
        have BZ := Lib.hid (HB2.out _ (I0.trans (hb.mono I0.size)))
        clear hb
        go_wp2_with fail
        go_ret
        exact outB rfl BZ.out
end Go.Proofs.YtagkmfhicpcjnaaDoor.Vlu
/- Layer 20: the law ValueTakes. -/
set_option linter.unusedVariables false
set_option maxRecDepth 100000
namespace Go.Proofs.YtagkmfhicpcjnaaDoor.Vlu
open Go.RowKit
open Wire (bs enI enT fInt PB Out pt fInt_back live_int live_end new_any int_any)

/-- Values one after the other, with their numbers between them. -/
def tkL : Nat → List Vl → List UInt8
  | _, [] => []
  | i, v :: r => put v ++ (enI (i : Int) ++ tkL (i + 1) r)
theorem put_len (v : Vl) : (put v).length ≤ 85 := by
  have h := nrm_ok v
  unfold put put0
  generalize nrm v = u at *
  have hs := (chk_iff.1 h).2.2.2.2.1
  have a := Wire.enI_length u.1
  have b := Wire.enI_length u.2.1
  have c := enT_sz u.2.2
  rw [Wire.bs_size] at c
  rw [List.length_append]
  split
  · simp; omega
  · split <;> omega
theorem tkL_len : ∀ (i : Nat) (l : List Vl), (tkL i l).length ≤ 100 * l.length
  | _, [] => Nat.zero_le _
  | i, v :: r => by
    have := put_len v
    have := Wire.enI_length (i : Int)
    have := tkL_len (i + 1) r
    show (put v ++ (enI (i : Int) ++ tkL (i + 1) r)).length ≤ _
    rw [List.length_append, List.length_append, List.length_cons]
    omega
theorem tkL_at {l : List Vl} {k : Nat} (h : k < l.length) : tkL k (l.drop k) = put l[k] ++ (enI (k : Int) ++ tkL (k + 1) (l.drop (k + 1))) := by
  rw [List.drop_eq_getElem_cons h]
  rfl
theorem tkL_end {l : List Vl} {k : Nat} (h : l.length ≤ k) : tkL k (l.drop k) = [] := by
  rw [List.drop_of_length_le h]
  rfl
theorem val_cell {w : World} {A : Option Addr} {c : Nat} {l : List Vl} (h : SlS fV w A c l) (i : Nat) (hi : i < l.length) : ∃ b p, A = some ⟨b, p, none⟩ ∧ b < w.heap.size ∧ (w.cell? ⟨b, p + i * 3, none⟩ = some (.int .i64 l[i].1) ∧ w.cell? ⟨b, p + i * 3 + 1, none⟩ = some (.int .i64 l[i].2.1) ∧ w.cell? ⟨b, p + i * 3 + 2, none⟩ = some (.string l[i].2.2)) ∧ I64 l[i].1 ∧ I64 l[i].2.1 ∧ l[i].2.2.size ≤ 9223372036854775807 := by
  obtain ⟨b, p, h1, h2, h3, h4⟩ := h.1 i hi
  exact ⟨b, p, h1, h2, ⟨h3 0 _ rfl, h3 1 _ rfl, h3 2 _ rfl⟩, h4⟩
theorem v_nself (a : Vl) (W : World) : (binOp .neq 26 (vlV a) (vlV a)).run Tryd.prog W = .ok (.bool false) W := by
  rw [v_neq, decide_eq_true rfl]
  rfl

set_option maxRecDepth 100000 in
set_option maxHeartbeats 4000000 in
theorem law_takes (w : World) (A : Option Addr) (c : Nat) (l : List Vl) (hT : Tabs w) (hA : SlS fV w A c l) (hl : l.length ≤ 9223372036854775807) :
    Calls Tryd.prog 6 #[.slice A l.length c] w (OutB w true) := by
  have KW := Lib.hid (fun (w1 : World) (h : Tabs w1) => awake_any w1 h)
  unfold OutB at KW
  have HT := Lib.hid (fun (w1 : World) (h : Below w.heap.size w w1) => hT.below h)
  have B00 := Below.refl w.heap.size w
  clear hT
  by_cases h1 : 20 < l.length
  · have d1 := dt (show (20 : Int) < (l.length : Int) by omega)
    clear h1 hA
    go_enter Tryd.func6, Tryd.ntmps6
    go_wp2_with fail
    refine (KW.out _ (HT.out _ B00)).mono ?_
    rintro _ wz ⟨rfl, hb⟩
    have BZ := Lib.hid (B00.trans (hb.mono B00.size))
    clear hb
    go_wp2_with fail
    go_ret
    exact outB rfl BZ.out
  have d1 := df (show ¬ (20 : Int) < (l.length : Int) by omega)
  have HL := Lib.hid (show l.length ≤ 20 by omega)
  have HA := Lib.hid hA
  clear h1 hA
  go_enter Tryd.func6, Tryd.ntmps6
  go_wp2_with fail
  clear d1
  go_loopw [3, 4] (fun vs vk wr => ∃ (k : Nat) (S : List UInt8), vk = .int .i64 k ∧ k ≤ l.length ∧ vs = .string (bs S) ∧ Hid (S ++ tkL k (l.drop k) = tkL 0 l) ∧ Below w.heap.size w wr) (fun _ vk _ => l.length - (intOf vk).toNat)
  case atStart => exact ⟨0, [], rfl, Nat.zero_le _, rfl, Lib.hid rfl, B00⟩
  case round =>
    obtain ⟨k, S, rfl, hk, rfl, RK, hb⟩ := hrel
    have B := Lib.hid hb
    clear hb
    by_cases hlt : k < l.length
    · have RK2 := Lib.hid (show S ++ (put l[k] ++ (enI (k : Int) ++ tkL (k + 1) (l.drop (k + 1)))) = tkL 0 l by rw [← tkL_at hlt]; exact RK.out)
      obtain ⟨b, p, rfl, hbw, ⟨g0, g1, g2⟩, i0, i1, i2⟩ := val_cell (SlS.next HA.out B.out) k hlt
      clear RK
      have KP := Lib.hid (fun (q : l[k].2.2.size ≤ 100000) (w1 : World) => (show Calls Tryd.prog 27 #[.agg #[.int .i64 l[k].1, .int .i64 l[k].2.1, .string l[k].2.2]] w1 (OutY w1 (bs (put l[k]))) from pput_any l[k] w1 q i0 i1))
      have KN := Lib.hid (fun (w1 : World) => int_any (k : Int) w1 (by unfold Wire.I64; omega))
      unfold OutY at KP
      unfold Wire.OutS at KN
      by_cases h2 : 100 < l[k].2.2.size
      · have d2 := dt (show (100 : Int) < (l[k].2.2.size : Int) by omega)
        clear h2 KP KN RK2
        generalize l[k] = x at *
        obtain ⟨xk, xn, xs⟩ := x
        dsimp only at *
        go_wp2_with fail
        refine (KW.out _ (HT.out _ B.out)).mono ?_
        rintro _ wz ⟨rfl, hb⟩
        have BZ := Lib.hid (B.out.trans (hb.mono B.out.size))
        clear hb
        go_wp2_with fail
        go_ret
        exact outB rfl BZ.out
      have d2 := df (show ¬ (100 : Int) < (l[k].2.2.size : Int) by omega)
      have KP := Lib.hid (KP.out (by omega))
      clear h2
      have LZ : (bs S).size + (bs (put l[k])).size ≤ 9223372036854775807 ∧ (bs S).size + (bs (put l[k])).size + (bs (enI (k : Int))).size ≤ 9223372036854775807 := by
        have e1 := congrArg List.length RK2.out
        have e2 := tkL_len 0 l
        have e3 := HL.out
        simp only [List.length_append] at e1
        simp only [Wire.bs_size]
        omega
      obtain ⟨LZ1, LZ2⟩ := LZ
      generalize l[k] = x at *
      generalize hpx : put x = px at *
      obtain ⟨xk, xn, xs⟩ := x
      dsimp only at *
      clear hpx i0 i1 i2
      go_wp2_with fail
      refine (KP.out _).mono ?_
      rintro _ w2 ⟨rfl, hb⟩
      have B2 := Lib.hid (B.out.trans (hb.mono B.out.size))
      clear hb KP g0 g1 g2 d2
      go_wp2_with fail
      refine (KN.out _).mono ?_
      rintro _ w3 ⟨rfl, hb⟩
      have B3 := Lib.hid (B2.out.trans (hb.mono B2.out.size))
      clear hb KN
      go_wp2_with fail
      go_round
      case rel => exact ⟨k + 1, S ++ px ++ enI (k : Int), by go_num, hlt, by rw [← bs_app, ← bs_app], Lib.hid (by have := RK2.out; simp only [List.append_assoc] at this ⊢; exact this), B3.out⟩
      case measure => first | (simp [intOf]; done) | (simp [intOf]; omega)
    · obtain rfl : k = l.length := by omega
      have e0 := RK.out
      rw [tkL_end (Nat.le_refl _), List.append_nil] at e0
      subst e0
      clear RK hlt hk
      have KE := Lib.hid (fun (w1 : World) => new_any (bs (tkL 0 l)) w1)
      have TS := Lib.hid (fun (k : Nat) => tkL_len k (l.drop k))
      go_wp2_with fail
      refine (KE.out _).mono ?_
      rintro _ w4 ⟨rfl, hp, hb⟩
      have B4 := B.out.trans (hb.mono B.out.size)
      have hBw : w.heap.size ≤ wr.heap.size := B.out.size
      have P4 := Lib.hid hp
      have B4 := Lib.hid B4
      clear hp hb KE B
      obtain ⟨B, hB⟩ : ∃ B, wr.heap.size = B := ⟨_, rfl⟩
      rw [hB] at P4 hBw ⊢
      clear hB
      have hBw := Lib.hid hBw
      go_wp2_with fail
      go_loopw [6] (fun vi wr => ∃ k : Nat, vi = .int .i64 k ∧ k ≤ l.length ∧ Hid (PB wr B (bs (tkL k (l.drop k))) 0 true) ∧ Below w.heap.size w wr) (fun vi _ => l.length - (intOf vi).toNat)
      case atStart => exact ⟨0, rfl, Nat.zero_le _, P4, B4.out⟩
      case round =>
        obtain ⟨k, rfl, hk, P0, hb⟩ := hrel
        have B0 := Lib.hid hb
        clear hb P4 B4
        by_cases hlt : k < l.length
        · have P0 := Lib.hid (show PB wr B (bs (put l[k] ++ (enI (k : Int) ++ tkL (k + 1) (l.drop (k + 1))))) 0 true by rw [← tkL_at hlt]; exact P0.out)
          have sz : (put l[k] ++ (enI (k : Int) ++ tkL (k + 1) (l.drop (k + 1)))).length ≤ 100000 := by
            rw [← tkL_at hlt]
            have := TS.out k
            rw [List.length_drop] at this
            have := HL.out
            omega
          have KT := Lib.hid (fun (w1 : World) (h : PB w1 B (bs (put l[k] ++ (enI (k : Int) ++ tkL (k + 1) (l.drop (k + 1))))) 0 true) => (show Calls Tryd.prog 31 #[pt B] w1 (Out B w1 (vlV (nrm l[k])) (bs (enI (k : Int) ++ tkL (k + 1) (l.drop (k + 1)))) 0) from by
            have := ptake_live B _ w1 (by rw [Wire.bs_size]; exact sz) h
            rw [tk_put] at this
            exact this))
          have KI := Lib.hid (fun (w1 : World) (h : PB w1 B (bs (enI (k : Int) ++ tkL (k + 1) (l.drop (k + 1)))) 0 true) => (show Calls Tryd.prog 32 #[pt B] w1 (Out B w1 (.int .i64 (k : Int)) (bs (tkL (k + 1) (l.drop (k + 1)))) 0) from by
            have := live_int B _ w1 (by rw [Wire.bs_size]; rw [List.length_append] at sz; omega) h
            rw [fInt_back (k : Int) _ (by unfold Wire.I64; omega)] at this
            exact this))
          unfold Out at KT KI
          obtain ⟨b, p, rfl, hbw, ⟨g0, g1, g2⟩, i0, i1, i2⟩ := val_cell (SlS.next HA.out B0.out) k hlt
          have KC := Lib.hid (fun (w1 : World) => (show Calls Tryd.prog 14 #[.agg #[.int .i64 l[k].1, .int .i64 l[k].2.1, .string l[k].2.2]] w1 (OutI w1 (chk l[k])) from rcheck_any l[k] w1 i2))
          unfold OutI at KC
          have NE := v_nself (nrm l[k])
          clear sz i0 i1 i2 hbw TS
          by_cases hc : chk l[k] = 0
          · rw [nrm_of hc] at KT NE
            rw [hc] at KC
            clear hc
            generalize l[k] = x at *
            obtain ⟨xk, xn, xs⟩ := x
            generalize put (xk, xn, xs) = px at *
            -- valid
            obtain ⟨rest, hrest⟩ : ∃ r, tkL (k + 1) (l.drop (k + 1)) = r := ⟨_, rfl⟩
            rw [hrest] at KT KI P0
            have HR := Lib.hid hrest
            clear hrest
            dsimp only [vlV] at *
            have hlB := P0.out.lt
            have X0 := blk_new wr (bxV (xk, xn, xs))
            have P0 := Lib.hid (show PB (wr.alloc (bxV (xk, xn, xs))) B (bs (px ++ (enI (k : Int) ++ rest))) 0 true from blk_alloc P0.out _)
            have B0 := Lib.hid (B0.out.trans ((alloc_below wr (bxV (xk, xn, xs))).mono B0.out.size))
            have hzq : wr.heap.size < (wr.alloc (bxV (xk, xn, xs))).heap.size := by simp
            go_upto_region 17 with fail
            obtain ⟨wa, hwa⟩ : ∃ wa, wr.alloc (.cells #[.int .i64 xk, .int .i64 xn, .string xs] 26) = wa := ⟨_, rfl⟩
            have hwa2 : wr.alloc (bxV (xk, xn, xs)) = wa := hwa
            rw [hwa2] at X0 P0 B0 hzq
            rw [hwa]
            have x0 := blk_cell X0 0 (v := .int .i64 xk) rfl
            have x1 := blk_cell X0 1 (v := .int .i64 xn) rfl
            have x2 := blk_cell X0 2 (v := .string xs) rfl
            clear hwa hwa2 g0 g1 g2
            have hlB := Lib.hid hlB
            have hzq := Lib.hid hzq
            go_wp2_with fail
            refine (KC.out _).mono ?_
            rintro _ wc ⟨rfl, hb⟩
            have X0 := blk_below X0 hb hzq.out
            have P0 := Lib.hid (P0.out.below hb (by have := hlB.out; have := hzq.out; omega))
            have B0 := Lib.hid (B0.out.trans (hb.mono B0.out.size))
            have hzq := Lib.hid (Nat.lt_of_lt_of_le hzq.out hb.size)
            clear hb KC x0 x1 x2
            have hzq := hzq.out
            have hlB := hlB.out
            go_wp2_with fail
            have D1 := below_drewN (Below.refl wc.heap.size wc) 1
            have X0 := blk_below X0 D1 hzq
            have P0 := Lib.hid (P0.out.below D1 (by omega))
            have B0 := Lib.hid (B0.out.trans (D1.mono B0.out.size))
            have hzq : wr.heap.size < (wc.drewN 1).heap.size := Nat.lt_of_lt_of_le hzq D1.size
            clear D1
            refine wp_region_held_drew (S := (fun wy : World => wy.cell? ⟨wr.heap.size, 0, none⟩ = some (.int .i64 xk) ∧ wy.cell? ⟨wr.heap.size, 1, none⟩ = some (.int .i64 xn) ∧ wy.cell? ⟨wr.heap.size, 2, none⟩ = some (.string xs))) (by kernel_rfl) (⟨blk_cell X0 0 rfl, blk_cell X0 1 rfl, blk_cell X0 2 rfl⟩) (fun hHeld => ?_)
            refine wpAnyH_take (i := 0) (v := (.pointer (some ⟨B, 0, none⟩))) at_zero (by kernel_rfl) (by kernel_rfl) (by kernel_rfl) (fun _ _ _ h => h) (Or.inl ⟨by kernel_rfl, fun wy hSw => ?_⟩) (by assumption) ?_
            · (try dsimp only at hSw); go_simp
            try simp only [Act.put, List.setIfInBounds_toArray, List.set_cons_zero, List.set_cons_succ]
            refine wpAnyH_take (i := 2) (v := (.agg #[.int .i64 xk, .int .i64 xn, .string xs])) (at_succ (at_succ at_zero)) (by kernel_rfl) (by kernel_rfl) (by kernel_rfl) (fun _ _ _ h => h) (Or.inl ⟨by kernel_rfl, fun wy hSw => ?_⟩) (by assumption) ?_
            · (try dsimp only at hSw); go_simp
            try simp only [Act.put, List.setIfInBounds_toArray, List.set_cons_zero, List.set_cons_succ]
            refine wpAnyH_ready (rs := [1]) (by kernel_rfl) (by simp) ?_
            refine AllReadyH.cons (at_succ at_zero) (fun K hK => ?_) AllReadyH.nil
            rw [if_pos (by kernel_rfl)]
            go_simp
            refine (KT.out _ P0.out).mono ?_
            rintro _ wt ⟨rfl, hr, hg⟩
            have P1 := Lib.hid hr
            have X1 := blk_grown X0 hg (fun q => by simp only [Option.some.injEq] at q; omega)
            have B1 := Lib.hid (B0.out.trans ((gr_below hg (fun g q => by simp only [Option.some.injEq] at q; omega) B0.out.size)))
            have hzt := Nat.lt_of_lt_of_le hzq hg.size
            clear hr hg hHeld
            go_wp2_with fail
            refine hK.out _ _ (⟨blk_cell X1 0 rfl, blk_cell X1 1 rfl, blk_cell X1 2 rfl⟩) (fun hHeld => ?_)
            clear hK K
            try simp only [Act.put, List.setIfInBounds_toArray, List.set_cons_zero, List.set_cons_succ]
            refine wpAnyH_take (i := 3) (v := (.bool false)) (at_succ (at_succ (at_succ at_zero))) (by kernel_rfl) (by kernel_rfl) (by kernel_rfl) (fun _ _ _ h => h) (Or.inl ⟨by kernel_rfl, fun wy hSw => ?_⟩) (by assumption) ?_
            · (try dsimp only at hSw); go_simp
            try simp only [Act.put, List.setIfInBounds_toArray, List.set_cons_zero, List.set_cons_succ]
            refine wpAnyH_take (i := 4) (v := (.bool false)) (at_succ (at_succ (at_succ (at_succ at_zero)))) (by kernel_rfl) (by kernel_rfl) (by kernel_rfl) (fun _ _ _ h => h) (Or.inl ⟨by kernel_rfl, fun wy hSw => ?_⟩) (by assumption) ?_
            · (try dsimp only at hSw); go_simp
            try simp only [Act.put, List.setIfInBounds_toArray, List.set_cons_zero, List.set_cons_succ]
            refine wpAnyH_take (i := 5) (v := (.pointer (some ⟨B, 0, none⟩))) (at_succ (at_succ (at_succ (at_succ (at_succ at_zero))))) (by kernel_rfl) (by kernel_rfl) (by kernel_rfl) (fun _ _ _ h => h) (Or.inl ⟨by kernel_rfl, fun wy hSw => ?_⟩) (by assumption) ?_
            · (try dsimp only at hSw); go_simp
            try simp only [Act.put, List.setIfInBounds_toArray, List.set_cons_zero, List.set_cons_succ]
            refine wpAnyH_take (i := 7) (v := (.int .i64 (k : Int))) (at_succ (at_succ (at_succ (at_succ (at_succ (at_succ (at_succ at_zero))))))) (by kernel_rfl) (by kernel_rfl) (by kernel_rfl) (fun _ _ _ h => h) (Or.inl ⟨by kernel_rfl, fun wy hSw => ?_⟩) (by assumption) ?_
            · (try dsimp only at hSw); go_simp
            try simp only [Act.put, List.setIfInBounds_toArray, List.set_cons_zero, List.set_cons_succ]
            refine wpAnyH_ready (rs := [6]) (by kernel_rfl) (by simp) ?_
            refine AllReadyH.cons (at_succ (at_succ (at_succ (at_succ (at_succ (at_succ at_zero)))))) (fun K hK => ?_) AllReadyH.nil
            rw [if_pos (by kernel_rfl)]
            go_simp
            refine (KI.out _ P1.out).mono ?_
            rintro _ wu ⟨rfl, hr, hg⟩
            have P2 := Lib.hid hr
            have X2 := blk_grown X1 hg (fun q => by simp only [Option.some.injEq] at q; omega)
            have B2 := Lib.hid (B1.out.trans ((gr_below hg (fun g q => by simp only [Option.some.injEq] at q; omega) B1.out.size)))
            have hzu := Nat.lt_of_lt_of_le hzt hg.size
            clear hr hg hHeld
            go_wp2_with fail
            refine hK.out _ _ (⟨blk_cell X2 0 rfl, blk_cell X2 1 rfl, blk_cell X2 2 rfl⟩) (fun hHeld => ?_)
            clear hK K
            try simp only [Act.put, List.setIfInBounds_toArray, List.set_cons_zero, List.set_cons_succ]
            refine wpAnyH_take (i := 8) (v := (.bool false)) (at_succ (at_succ (at_succ (at_succ (at_succ (at_succ (at_succ (at_succ at_zero)))))))) (by kernel_rfl) (by kernel_rfl) (by kernel_rfl) (fun _ _ _ h => h) (Or.inl ⟨by kernel_rfl, fun wy hSw => ?_⟩) (by assumption) ?_
            · (try dsimp only at hSw); go_simp
            try simp only [Act.put, List.setIfInBounds_toArray, List.set_cons_zero, List.set_cons_succ]
            refine wpAnyH_take (i := 9) (v := (.bool false)) (at_succ (at_succ (at_succ (at_succ (at_succ (at_succ (at_succ (at_succ (at_succ at_zero))))))))) (by kernel_rfl) (by kernel_rfl) (by kernel_rfl) (fun _ _ _ h => h) (Or.inl ⟨by kernel_rfl, fun wy hSw => ?_⟩) (by assumption) ?_
            · (try dsimp only at hSw); go_simp
            try simp only [Act.put, List.setIfInBounds_toArray, List.set_cons_zero, List.set_cons_succ]
            refine wpAnyH_done (by kernel_rfl) ?_ _
            go_wp2_with fail
            go_round
            case rel => exact ⟨k + 1, by go_num, hlt, by rw [HR.out]; exact P2, B2.out⟩
            case measure => first | (simp [intOf]; done) | (simp [intOf]; omega)

          · rw [show nrm l[k] = (0, 0, { data := #[] }) from if_neg hc] at KT NE
            have d2 : (chk l[k] != 0) = true := by simpa using hc
            clear hc
            generalize l[k] = x at *
            obtain ⟨xk, xn, xs⟩ := x
            generalize put (xk, xn, xs) = px at *
            generalize chk (xk, xn, xs) = cx at *
            obtain ⟨rest, hrest⟩ : ∃ r, tkL (k + 1) (l.drop (k + 1)) = r := ⟨_, rfl⟩
            rw [hrest] at KT KI P0
            have HR := Lib.hid hrest
            clear hrest
            dsimp only [vlV] at *
            have hlB := P0.out.lt
            have X0 := blk_new wr (bxV (xk, xn, xs))
            have P0 := Lib.hid (show PB (wr.alloc (bxV (xk, xn, xs))) B (bs (px ++ (enI (k : Int) ++ rest))) 0 true from blk_alloc P0.out _)
            have B0 := Lib.hid (B0.out.trans ((alloc_below wr (bxV (xk, xn, xs))).mono B0.out.size))
            have hzq : wr.heap.size < (wr.alloc (bxV (xk, xn, xs))).heap.size := by simp
            go_upto_region 17 with fail
            obtain ⟨wa, hwa⟩ : ∃ wa, wr.alloc (.cells #[.int .i64 xk, .int .i64 xn, .string xs] 26) = wa := ⟨_, rfl⟩
            have hwa2 : wr.alloc (bxV (xk, xn, xs)) = wa := hwa
            rw [hwa2] at X0 P0 B0 hzq
            rw [hwa]
            have x0 := blk_cell X0 0 (v := .int .i64 xk) rfl
            have x1 := blk_cell X0 1 (v := .int .i64 xn) rfl
            have x2 := blk_cell X0 2 (v := .string xs) rfl
            clear hwa hwa2 g0 g1 g2
            have hlB := Lib.hid hlB
            have hzq := Lib.hid hzq
            go_wp2_with fail
            refine (KC.out _).mono ?_
            rintro _ wc ⟨rfl, hb⟩
            have X0 := blk_below X0 hb hzq.out
            have P0 := Lib.hid (P0.out.below hb (by have := hlB.out; have := hzq.out; omega))
            have B0 := Lib.hid (B0.out.trans (hb.mono B0.out.size))
            have hzq := Lib.hid (Nat.lt_of_lt_of_le hzq.out hb.size)
            clear hb KC x0 x1 x2
            have x0 := blk_cell X0 0 (v := .int .i64 xk) rfl
            have x1 := blk_cell X0 1 (v := .int .i64 xn) rfl
            have x2 := blk_cell X0 2 (v := .string xs) rfl
            have f0 := blk_fr X0 0
            have f1 := blk_fr X0 1
            have f2 := blk_fr X0 2
            have BV : Below wr.heap.size wc (putV wc wr.heap.size (0, 0, { data := #[] })) := putV_below (Below.refl _ _) (Nat.le_refl _) _
            have B0 := Lib.hid (putV_below (b := wr.heap.size) B0.out (by have := hlB.out; have := hBw.out; omega) (0, 0, { data := #[] }))
            have X0 := putV_blk X0 (0, 0, { data := #[] })
            have P0 := Lib.hid (P0.out.below BV hlB.out)
            have hzq := Lib.hid (Nat.lt_of_lt_of_le hzq.out BV.size)
            obtain ⟨V, hV⟩ : ∃ V, V = putV wc wr.heap.size (0, 0, { data := #[] }) := ⟨_, rfl⟩
            rw [← hV] at X0 P0 B0 hzq
            clear BV
            unfold putV at hV
            dsimp only at hV
            have hzq := hzq.out
            have hlB := hlB.out
            go_wp2_with fail
            rw [← hV]
            clear hV x0 x1 x2 f0 f1 f2 d2
            have D1 := below_drewN (Below.refl V.heap.size V) 1
            have X0 := blk_below X0 D1 hzq
            have P0 := Lib.hid (P0.out.below D1 (by omega))
            have B0 := Lib.hid (B0.out.trans (D1.mono B0.out.size))
            have hzq : wr.heap.size < (V.drewN 1).heap.size := Nat.lt_of_lt_of_le hzq D1.size
            clear D1
            refine wp_region_held_drew (S := (fun wy : World => wy.cell? ⟨wr.heap.size, 0, none⟩ = some (.int .i64 0) ∧ wy.cell? ⟨wr.heap.size, 1, none⟩ = some (.int .i64 0) ∧ wy.cell? ⟨wr.heap.size, 2, none⟩ = some (.string { data := #[] }))) (by kernel_rfl) (⟨blk_cell X0 0 rfl, blk_cell X0 1 rfl, blk_cell X0 2 rfl⟩) (fun hHeld => ?_)
            refine wpAnyH_take (i := 0) (v := (.pointer (some ⟨B, 0, none⟩))) at_zero (by kernel_rfl) (by kernel_rfl) (by kernel_rfl) (fun _ _ _ h => h) (Or.inl ⟨by kernel_rfl, fun wy hSw => ?_⟩) (by assumption) ?_
            · (try dsimp only at hSw); go_simp
            try simp only [Act.put, List.setIfInBounds_toArray, List.set_cons_zero, List.set_cons_succ]
            refine wpAnyH_take (i := 2) (v := (.agg #[.int .i64 0, .int .i64 0, .string { data := #[] }])) (at_succ (at_succ at_zero)) (by kernel_rfl) (by kernel_rfl) (by kernel_rfl) (fun _ _ _ h => h) (Or.inl ⟨by kernel_rfl, fun wy hSw => ?_⟩) (by assumption) ?_
            · (try dsimp only at hSw); go_simp
            try simp only [Act.put, List.setIfInBounds_toArray, List.set_cons_zero, List.set_cons_succ]
            refine wpAnyH_ready (rs := [1]) (by kernel_rfl) (by simp) ?_
            refine AllReadyH.cons (at_succ at_zero) (fun K hK => ?_) AllReadyH.nil
            rw [if_pos (by kernel_rfl)]
            go_simp
            refine (KT.out _ P0.out).mono ?_
            rintro _ wt ⟨rfl, hr, hg⟩
            have P1 := Lib.hid hr
            have X1 := blk_grown X0 hg (fun q => by simp only [Option.some.injEq] at q; omega)
            have B1 := Lib.hid (B0.out.trans ((gr_below hg (fun g q => by simp only [Option.some.injEq] at q; omega) B0.out.size)))
            have hzt := Nat.lt_of_lt_of_le hzq hg.size
            clear hr hg hHeld
            go_wp2_with fail
            refine hK.out _ _ (⟨blk_cell X1 0 rfl, blk_cell X1 1 rfl, blk_cell X1 2 rfl⟩) (fun hHeld => ?_)
            clear hK K
            try simp only [Act.put, List.setIfInBounds_toArray, List.set_cons_zero, List.set_cons_succ]
            refine wpAnyH_take (i := 3) (v := (.bool false)) (at_succ (at_succ (at_succ at_zero))) (by kernel_rfl) (by kernel_rfl) (by kernel_rfl) (fun _ _ _ h => h) (Or.inl ⟨by kernel_rfl, fun wy hSw => ?_⟩) (by assumption) ?_
            · (try dsimp only at hSw); go_simp
            try simp only [Act.put, List.setIfInBounds_toArray, List.set_cons_zero, List.set_cons_succ]
            refine wpAnyH_take (i := 4) (v := (.bool false)) (at_succ (at_succ (at_succ (at_succ at_zero)))) (by kernel_rfl) (by kernel_rfl) (by kernel_rfl) (fun _ _ _ h => h) (Or.inl ⟨by kernel_rfl, fun wy hSw => ?_⟩) (by assumption) ?_
            · (try dsimp only at hSw); go_simp
            try simp only [Act.put, List.setIfInBounds_toArray, List.set_cons_zero, List.set_cons_succ]
            refine wpAnyH_take (i := 5) (v := (.pointer (some ⟨B, 0, none⟩))) (at_succ (at_succ (at_succ (at_succ (at_succ at_zero))))) (by kernel_rfl) (by kernel_rfl) (by kernel_rfl) (fun _ _ _ h => h) (Or.inl ⟨by kernel_rfl, fun wy hSw => ?_⟩) (by assumption) ?_
            · (try dsimp only at hSw); go_simp
            try simp only [Act.put, List.setIfInBounds_toArray, List.set_cons_zero, List.set_cons_succ]
            refine wpAnyH_take (i := 7) (v := (.int .i64 (k : Int))) (at_succ (at_succ (at_succ (at_succ (at_succ (at_succ (at_succ at_zero))))))) (by kernel_rfl) (by kernel_rfl) (by kernel_rfl) (fun _ _ _ h => h) (Or.inl ⟨by kernel_rfl, fun wy hSw => ?_⟩) (by assumption) ?_
            · (try dsimp only at hSw); go_simp
            try simp only [Act.put, List.setIfInBounds_toArray, List.set_cons_zero, List.set_cons_succ]
            refine wpAnyH_ready (rs := [6]) (by kernel_rfl) (by simp) ?_
            refine AllReadyH.cons (at_succ (at_succ (at_succ (at_succ (at_succ (at_succ at_zero)))))) (fun K hK => ?_) AllReadyH.nil
            rw [if_pos (by kernel_rfl)]
            go_simp
            refine (KI.out _ P1.out).mono ?_
            rintro _ wu ⟨rfl, hr, hg⟩
            have P2 := Lib.hid hr
            have X2 := blk_grown X1 hg (fun q => by simp only [Option.some.injEq] at q; omega)
            have B2 := Lib.hid (B1.out.trans ((gr_below hg (fun g q => by simp only [Option.some.injEq] at q; omega) B1.out.size)))
            have hzu := Nat.lt_of_lt_of_le hzt hg.size
            clear hr hg hHeld
            go_wp2_with fail
            refine hK.out _ _ (⟨blk_cell X2 0 rfl, blk_cell X2 1 rfl, blk_cell X2 2 rfl⟩) (fun hHeld => ?_)
            clear hK K
            try simp only [Act.put, List.setIfInBounds_toArray, List.set_cons_zero, List.set_cons_succ]
            refine wpAnyH_take (i := 8) (v := (.bool false)) (at_succ (at_succ (at_succ (at_succ (at_succ (at_succ (at_succ (at_succ at_zero)))))))) (by kernel_rfl) (by kernel_rfl) (by kernel_rfl) (fun _ _ _ h => h) (Or.inl ⟨by kernel_rfl, fun wy hSw => ?_⟩) (by assumption) ?_
            · (try dsimp only at hSw); go_simp
            try simp only [Act.put, List.setIfInBounds_toArray, List.set_cons_zero, List.set_cons_succ]
            refine wpAnyH_take (i := 9) (v := (.bool false)) (at_succ (at_succ (at_succ (at_succ (at_succ (at_succ (at_succ (at_succ (at_succ at_zero))))))))) (by kernel_rfl) (by kernel_rfl) (by kernel_rfl) (fun _ _ _ h => h) (Or.inl ⟨by kernel_rfl, fun wy hSw => ?_⟩) (by assumption) ?_
            · (try dsimp only at hSw); go_simp
            try simp only [Act.put, List.setIfInBounds_toArray, List.set_cons_zero, List.set_cons_succ]
            refine wpAnyH_done (by kernel_rfl) ?_ _
            go_wp2_with fail
            go_round
            case rel => exact ⟨k + 1, by go_num, hlt, by rw [HR.out]; exact P2, B2.out⟩
            case measure => first | (simp [intOf]; done) | (simp [intOf]; omega)

        · obtain rfl : k = l.length := by omega
          have P0 := Lib.hid (show PB wr B (bs []) 0 true by have := P0.out; rw [tkL_end (Nat.le_refl _)] at this; exact this)
          have KE := Lib.hid (fun (w1 : World) (h : PB w1 B (bs []) 0 true) => live_end B (bs []) w1 h)
          have KN := Lib.hid ptake_nil
          have NE := v_self z0
          unfold OutV at KN
          dsimp only [vlV, z0] at KN NE
          rw [show (ByteArray.empty : ByteArray) = { data := #[] } from rfl] at KN NE
          rw [show (bs []).size = 0 from rfl, if_pos rfl] at KE
          clear HA TS hlt hk
          go_wp2_with fail
          refine (KE.out _ P0.out).mono ?_
          rintro _ w5 ⟨rfl, hw5⟩
          subst hw5
          clear KE P0
          go_wp2_with fail
          refine (KN.out _).mono ?_
          rintro _ w6 ⟨rfl, hb⟩
          have B0 := Lib.hid (B0.out.trans (hb.mono B0.out.size))
          clear hb KN
          go_wp2_with fail
          refine (KW.out _ (HT.out _ B0.out)).mono ?_
          rintro _ wz ⟨rfl, hb⟩
          have BZ := Lib.hid (B0.out.trans (hb.mono B0.out.size))
          clear hb
          go_wp2_with fail
          go_ret
          exact outB rfl BZ.out
end Go.Proofs.YtagkmfhicpcjnaaDoor.Vlu
