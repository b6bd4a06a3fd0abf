/- slices.Insert of one route into a row of the call's own. -/
import Derived.Test.YtcfnkfkdhcejeaaRI
import Derived.Test.YtcfnkfkdhcejeaaCp
import Derived.Lib.Overlaps
import Derived.Lib.AppendZerosOnto
import Derived.Laws.Externs
set_option linter.unusedVariables false
namespace Go.Proofs.Ytcfnkfkdhcejeaa.Rte
open Go.RowKit

theorem infoR : (Try.prog.info? 43).map (fun i => (i.zero, i.size, i.bytes)) = some (some (.agg #[.int .i64 0, .int .i64 0, .int .i64 0, .int .i64 0]), 4, 32) := by kernel_rfl
theorem sizeR : (Try.prog.info? 43).map (·.size) = some 4 := by
  obtain ⟨i, h1, _, h3, _⟩ := info_get infoR
  rw [h1]; exact congrArg some h3
theorem sizeOfR (w : World) : (Go.sizeOf 43).run Try.prog w = .ok 4 w := by
  obtain ⟨i, h1, _, h3, _⟩ := info_get infoR
  simp [sizeOf, typeInfo, h1, h3]
theorem flat_take {α : Type} {F : Flat α} (l : List α) (i : Nat) (hi : i ≤ l.length) : (l.flatMap F.enc).take (i * F.sz) = (l.take i).flatMap F.enc := by
  have e : l.flatMap F.enc = (l.take i).flatMap F.enc ++ (l.drop i).flatMap F.enc := by rw [← List.flatMap_append, List.take_append_drop]
  rw [e, List.take_append_of_le_length (by rw [flat_len, List.length_take, Nat.min_eq_left hi]; exact Nat.le_refl _), List.take_of_length_le (by rw [flat_len, List.length_take, Nat.min_eq_left hi]; exact Nat.le_refl _)]
theorem flat_dropR {α : Type} {F : Flat α} (l : List α) (i : Nat) (hi : i ≤ l.length) : (l.flatMap F.enc).drop (i * F.sz) = (l.drop i).flatMap F.enc := by
  have e : l.flatMap F.enc = (l.take i).flatMap F.enc ++ (l.drop i).flatMap F.enc := by rw [← List.flatMap_append, List.take_append_drop]
  have hl : ((l.take i).flatMap F.enc).length = i * F.sz := by rw [flat_len, List.length_take, Nat.min_eq_left hi]
  rw [e, List.drop_append_of_le_length (by rw [hl]; exact Nat.le_refl _), List.drop_of_length_le (by rw [hl]; exact Nat.le_refl _), List.nil_append]
/-- What two copies leave. -/
theorem splice_shift {α : Type} (Z D X : List α) (a : Nat) (ha : a + X.length + D.length ≤ Z.length) : (splice (splice Z (a + X.length) D) a X).take (a + X.length + D.length) = Z.take a ++ X ++ D := by
  have h1 : (Z.take (a + X.length)).length = a + X.length := by rw [List.length_take]; omega
  have h2 : (splice Z (a + X.length) D).take a = Z.take a := by
    unfold splice
    rw [List.take_append_of_le_length (by omega), List.take_take]
    congr 1; omega
  have h3 : (splice Z (a + X.length) D).drop (a + X.length) = D ++ Z.drop (a + X.length + D.length) := by
    unfold splice
    rw [List.drop_append_of_le_length (by omega), List.drop_of_length_le (by omega), List.nil_append]
  have h4 : (Z.take a).length = a := by rw [List.length_take]; omega
  rw [show splice (splice Z (a + X.length) D) a X = Z.take a ++ X ++ D ++ Z.drop (a + X.length + D.length) from by
    show (splice Z (a + X.length) D).take a ++ (X ++ (splice Z (a + X.length) D).drop (a + X.length)) = _
    rw [h2, h3]; simp only [List.append_assoc]]
  rw [List.take_append_of_le_length (by simp only [List.length_append, h4]; omega), List.take_of_length_le (by simp only [List.length_append, h4]; omega)]
theorem splice_grow {α : Type} (Z D X : List α) (a : Nat) (ha : a + X.length + D.length ≤ Z.length) : (splice (splice Z a X) (a + X.length) D).take (a + X.length + D.length) = Z.take a ++ X ++ D := by
  have h4 : (Z.take a).length = a := by rw [List.length_take]; omega
  have h2 : (splice Z a X).take (a + X.length) = Z.take a ++ X := by
    unfold splice
    rw [← List.append_assoc, List.take_append_of_le_length (by simp only [List.length_append, h4]; omega), List.take_of_length_le (by simp only [List.length_append, h4]; omega)]
  rw [show splice (splice Z a X) (a + X.length) D = Z.take a ++ X ++ D ++ (splice Z a X).drop (a + X.length + D.length) from by
    show (splice Z a X).take (a + X.length) ++ (D ++ (splice Z a X).drop (a + X.length + D.length)) = _
    rw [h2]; simp only [List.append_assoc]]
  rw [List.take_append_of_le_length (by simp only [List.length_append, h4]; omega), List.take_of_length_le (by simp only [List.length_append, h4]; omega)]

/-- A row of the call's own, somewhere above a bound, is handed back. -/
def OutR (B : Nat) (w : World) (l : List Rt) (e : Ending) (w' : World) : Prop := ∃ v, e = .returned v ∧ OwnR w' B v l ∧ Below B w w'
/-- A block that begins with these routes. -/
theorem own_block {w : World} {B g cap : Nat} {Z : List Value} {l : List Rt} (hB : B ≤ g) (h : w.heap[g]? = some (.cells Z.toArray 43 (0, 0))) (hc : l.length ≤ cap) (hm : cap ≤ maxLen) (hs : Z.length = cap * 4) (ht : Z.take (l.length * 4) = l.flatMap fR.enc) (hok : ∀ a ∈ l, fR.ok a) :
    OwnR w B (.slice (some ⟨g, 0, none⟩) l.length cap) l :=
  ⟨⟨flat_len l, Or.inr ⟨g, cap, Z.toArray, rfl, hB, h, hc, hm, (show Z.toArray.size = cap * 4 by simpa using hs), ht⟩⟩, hok⟩

theorem fin_list {t : List Rt} {x : Rt} {i : Nat} (hi : i ≤ t.length) (hx : fR.ok x) (ht : ∀ a ∈ t, fR.ok a) : (t.take i ++ [x] ++ t.drop i).length = t.length + 1 ∧ (∀ a ∈ t.take i ++ [x] ++ t.drop i, fR.ok a) ∧ (t.take i ++ [x] ++ t.drop i).flatMap fR.enc = (t.take i).flatMap fR.enc ++ fR.enc x ++ (t.drop i).flatMap fR.enc := by
  refine ⟨by simp only [List.length_append, List.length_take, List.length_drop, List.length_singleton]; omega, fun a ha => ?_, by simp [List.flatMap_append]⟩
  rcases List.mem_append.1 ha with ha | ha
  · rcases List.mem_append.1 ha with ha | ha
    · exact ht a (List.mem_of_mem_take ha)
    · rw [List.mem_singleton.1 ha]; exact hx
  · exact ht a (List.mem_of_mem_drop ha)
theorem fR_len (l : List Rt) : (l.flatMap fR.enc).length = l.length * 4 := flat_len l


section
variable (B : Nat) (t : List Rt) (x : Rt) (i : Nat) (w0 : World) (hB : B ≤ w0.heap.size) (hx : fR.ok x) (hlen : t.length ≤ 1000)
include hB hx hlen

set_option maxRecDepth 100000 in
set_option maxHeartbeats 4000000 in
theorem insert_end (v : Value) (hO : OwnR w0 B v t) :
    Calls Try.prog 55 #[v, .int .i64 t.length, .slice (some ⟨w0.heap.size, 0, none⟩) 1 1] (w0.alloc (bxR x.1 x.2.1 x.2.2.1 x.2.2.2)) (OutR B w0 (t ++ [x])) := by
  obtain ⟨v', w', hap, ho, hb⟩ := hO.one eRt 22 x #[.int .i64 x.1, .int .i64 x.2.1, .int .i64 x.2.2.1, .int .i64 x.2.2.2] rfl hx (by omega) hB
  have O := Lib.hid ho
  have BB := Lib.hid hb
  clear ho hb
  rcases hO.1.2 with ⟨rfl, hz⟩ | ⟨g, cap, cur, rfl, _, _, hnc, hcm, _⟩
  · have e0 : t = [] := List.eq_nil_of_length_eq_zero hz
    subst e0
    simp only [List.length_nil] at hap ⊢
    go_enter Try.func55, Try.ntmps55
    go_wp2_with (at_builtin; refine Lib.wpList_append_run _ rfl _ _ _ _ rfl _ _ rfl rfl _ _ hap ?_)
    go_ret
    exact ⟨_, rfl, O.out, BB.out⟩
  · unfold maxLen at hcm
    by_cases hci : cap = t.length
    · go_enter Try.func55, Try.ntmps55
      go_wp2_with (at_builtin; refine Lib.wpList_append_run _ rfl _ _ _ _ rfl _ _ rfl rfl _ _ hap ?_)
      go_ret
      exact ⟨_, rfl, O.out, BB.out⟩
    · go_enter Try.func55, Try.ntmps55
      go_wp2_with (at_builtin; refine Lib.wpList_append_run _ rfl _ _ _ _ rfl _ _ rfl rfl _ _ hap ?_)
      go_ret
      exact ⟨_, rfl, O.out, BB.out⟩

set_option maxRecDepth 100000 in
set_option maxHeartbeats 4000000 in
theorem insert_shift (g cap : Nat) (hi : i < t.length) (hO : OwnR w0 B (.slice (some ⟨g, 0, none⟩) t.length cap) t) (hroom : t.length < cap) :
    Calls Try.prog 55 #[.slice (some ⟨g, 0, none⟩) t.length cap, .int .i64 i, .slice (some ⟨w0.heap.size, 0, none⟩) 1 1] (w0.alloc (bxR x.1 x.2.1 x.2.2.1 x.2.2.2)) (OutR B w0 (t.take i ++ [x] ++ t.drop i)) := by
  have hok := hO.2
  obtain ⟨hl0, ⟨h1, _⟩ | ⟨g', cap', cur, h1, hBg, hg, hnc, hcm, hcs, htk⟩⟩ := hO.1
  · cases h1
  simp only [Value.slice.injEq, Option.some.injEq, Addr.mk.injEq, true_and, and_true] at h1
  obtain ⟨rfl, rfl⟩ := h1
  obtain ⟨Z, rfl⟩ : ∃ Z : List Value, cur = Z.toArray := ⟨cur.toList, by simp⟩
  have hZ : Z.length = cap * 4 := by have h : Z.toArray.size = cap * 4 := hcs; simpa using h
  have htk : Z.take (t.length * 4) = t.flatMap fR.enc := htk
  have hgs : g < w0.heap.size := blk_lt hg
  obtain ⟨w, hw⟩ : ∃ w, w = w0.alloc (bxR x.1 x.2.1 x.2.2.1 x.2.2.2) := ⟨_, rfl⟩
  have hgw : w.heap[g]? = some (.cells Z.toArray 43 (0, 0)) := by rw [hw]; exact blk_alloc hg _
  have hvw : w.heap[w0.heap.size]? = some (bxR x.1 x.2.1 x.2.2.1 x.2.2.2) := by rw [hw]; exact blk_new _ _
  have hbw : Below B w0 w := by rw [hw]; exact (Below.refl B w0).alloc hB _
  obtain ⟨vb, hvb⟩ : ∃ vb, vb = w0.heap.size := ⟨_, rfl⟩
  have hne : vb ≠ g := by omega
  rw [← hw]
  rw [← hvb] at hvw ⊢
  obtain ⟨D, hD⟩ : ∃ D, D = (t.drop i).flatMap fR.enc := ⟨_, rfl⟩
  obtain ⟨X, hX⟩ : ∃ X, X = fR.enc x := ⟨_, rfl⟩
  have nD : D.length = (t.length - i) * 4 := by rw [hD, fR_len, List.length_drop]
  have nX : X.length = 4 := by rw [hX]; rfl
  have oD : ∀ v ∈ D, v.oneCell' = true := by rw [hD]; exact flat_one _
  have oX : ∀ v ∈ X, v.oneCell' = true := by rw [hX]; exact fun v hv => fR.one x v hv
  have hov : ∀ lb cb, (callFunc 60 #[.slice (some ⟨vb, 0, none⟩) 1 1, .slice (some ⟨g, (i + 1) * 4, none⟩) lb cb]).run Try.prog w = .ok (.value (.bool false)) w := fun lb cb => by
    rw [run_callFunc_extern Try.func60 (by kernel_rfl) (by kernel_rfl) (by kernel_rfl) (e := Extern.SlicesOverlaps.overlaps #[22, 22] #[4]) (by kernel_rfl),
      Lib.run_overlaps_apart w 22 4 43 Try.underlying22 4 sizeOfR ⟨vb, 0, none⟩ ⟨g, (i + 1) * 4, none⟩ 1 1 lb cb hne 43 43 4 Z.toArray.size
        (by unfold World.shape?; rw [hvw]; rfl) (by unfold World.shape?; rw [hgw]) (by rw [List.size_toArray, hZ]; omega) (blk_fr hvw 0) (blk_fr hvw 4)]
    rfl
  have hgd : w.drew.heap[g]? = some (.cells Z.toArray 43 (0, 0)) := hgw
  have tD : D = (Z.drop (i * 4)).take D.length := by
    have e1 := flat_dropR (F := fR) t i (by omega)
    have e2 : (Z.take (t.length * 4)).drop (i * 4) = D := by rw [htk, hD]; exact e1
    rw [← e2, List.drop_take, List.length_take, List.length_drop]
    congr 1
    omega
  have srcD : ∀ (j : Nat) (u : Value), D[j]? = some u → w.drew.cell? ((⟨g, i * 4, none⟩ : Addr).add j) = some u := fun j u hj => by
    rw [add_off]
    refine blk_cell hgd _ ?_
    have hjl := (List.getElem?_eq_some_iff.1 hj).1
    rw [tD, List.getElem?_take, if_pos hjl, List.getElem?_drop] at hj
    rw [List.getElem?_toArray]; exact hj
  obtain ⟨w2, hcp, HG2, HB2⟩ := copy_eq (P := Try.prog) (w := w.drew) 22 22 3 43 4 Try.underlying22 sizeR (by decide) (some ⟨g, (i + 1) * 4, none⟩) (some ⟨g, i * 4, none⟩) (t.length - i) (cap - (i + 1)) (t.length + 1 - i) (cap - i) g (i * 4 + X.length) Z 43 hgd D
    (by rw [nD]; congr 1; exact (Nat.min_eq_right (by omega)).symm) (fun _ => ⟨by rw [nX, Nat.add_mul], _, rfl, srcD⟩) (by rw [nX, nD, hZ]; omega) oD B w0 hbw.drew hBg
  have hv2 : w2.heap[vb]? = some (bxR x.1 x.2.1 x.2.2.1 x.2.2.2) := by
    have hh := @run_copy_row_k Try.prog w.drew 22 22 3 43 4 g (i * 4 + X.length) (t.length - i) (cap - (i + 1)) ⟨g, i * 4, none⟩ (t.length + 1 - i) (cap - i) Z.toArray 43 D Try.underlying22 sizeR hgd
      (by rw [nD]; congr 1; exact (Nat.min_eq_right (by omega)).symm) srcD (by rw [nX, nD]; simp only [List.size_toArray]; omega) oD
    have e0 : (i + 1) * 4 = i * 4 + X.length := by rw [nX, Nat.add_mul]
    rw [e0] at hcp
    rw [hh] at hcp
    simp only [Result.ok.injEq] at hcp
    rw [← hcp.2, setRow_other _ _ _ _ hne]
    exact hvw
  obtain ⟨w3, hcp2, HG3, HB3⟩ := copy_eq (P := Try.prog) (w := w2) 22 22 3 43 4 Try.underlying22 sizeR (by decide) (some ⟨g, i * 4, none⟩) (some ⟨vb, 0, none⟩) (t.length + 1 - i) (cap - i) 1 1 g (i * 4) _ 43 HG2.out X
    (by rw [nX]; show 4 = min 1 (t.length + 1 - i) * 4; rw [Nat.min_eq_left (by omega)]) (fun _ => ⟨rfl, _, rfl, fun j u hj => by
      rw [add_off, Nat.zero_add]
      refine blk_cell hv2 _ ?_
      rw [hX] at hj
      rw [← hj]
      show (fR.enc x).toArray[j]? = _
      rw [List.getElem?_toArray]⟩) (by rw [length_splice _ _ _ (by rw [nX, nD, hZ]; omega), nX, hZ]; omega) oX B w0 HB2 hBg
  obtain ⟨fl, fo, fe⟩ := fin_list (t := t) (x := x) (i := i) (by omega) hx hok
  have FIN := Lib.hid (show OwnR w3 B (.slice (some ⟨g, 0, none⟩) (t.length + 1) cap) (t.take i ++ [x] ++ t.drop i) by
    have := own_block (B := B) (cap := cap) (l := t.take i ++ [x] ++ t.drop i) hBg HG3.out (by omega) hcm (by rw [length_splice _ _ _ (by rw [length_splice _ _ _ (by rw [nX, nD, hZ]; omega), nX, hZ]; omega), length_splice _ _ _ (by rw [nX, nD, hZ]; omega), hZ])
      (by
        rw [fl, show (t.length + 1) * 4 = i * 4 + X.length + D.length by rw [nX, nD]; omega, splice_shift Z D X (i * 4) (by rw [nX, nD, hZ]; omega), fe, hX, hD]
        congr 2
        have e1 := flat_take (F := fR) t i (by omega)
        rw [← htk] at e1
        rw [← e1]
        show _ = (Z.take (t.length * 4)).take (i * 4)
        rw [List.take_take]; congr 1; omega) fo
    rw [fl] at this
    exact this)
  have HB := Lib.hid HB3
  have hz2 : ((i : Int) == (t.length : Int)) = false := by simp; omega
  have hz5 : ¬ ((i : Int) = (t.length : Int)) := by omega
  have hz3 : ¬ ((cap : Int) < (t.length : Int) + 1) := by omega
  have hw1 : IntKind.i64.wrap ((i : Int) + 1) = (i : Int) + 1 := by rw [IntKind.wrap_i64]; omega
  have hw2 : IntKind.i64.wrap ((t.length : Int) + 1) = (t.length : Int) + 1 := by rw [IntKind.wrap_i64]; omega
  have hb1 : (0 : Int) ≤ (i : Int) + 1 := by omega
  have hin : i ≤ t.length := by omega
  have htn : ((i : Int) + 1).toNat = i + 1 := by omega
  have htn2 : ((t.length : Int) + 1).toNat = t.length + 1 := by omega
  unfold maxLen at hcm
  have hb2 : ¬ (cap = i + 1) := by omega
  have hb3 : (i : Int) ≤ (t.length : Int) + 1 := by omega
  have hb4 : ¬ (cap = i) := by omega
  have hb5 : (t.length : Int) + 1 ≤ (cap : Int) := by omega
  have hb6 : (i : Int) + 1 ≤ (t.length : Int) + 1 := by omega
  have hb7 : (0 : Int) ≤ (t.length : Int) + 1 := by omega
  clear hO hok hl0 hg hcs htk hgs hw hgw hvw hvb tD srcD HG2 HG3 HB2 HB3 hv2 fl fo fe hD hX nD nX oD oX hZ hgd hbw hB hx
  go_enter Try.func55, Try.ntmps55
  go_wp2_with (simp only [hov])
  have mixed := mixedB
  go_big_region_o
  go_wp2_with fail
  go_ret
  exact ⟨_, rfl, FIN.out, HB.out⟩

set_option maxRecDepth 100000 in
set_option maxHeartbeats 4000000 in
theorem insert_grow (g : Nat) (hi : i < t.length) (hO : OwnR w0 B (.slice (some ⟨g, 0, none⟩) t.length t.length) t) :
    Calls Try.prog 55 #[.slice (some ⟨g, 0, none⟩) t.length t.length, .int .i64 i, .slice (some ⟨w0.heap.size, 0, none⟩) 1 1] (w0.alloc (bxR x.1 x.2.1 x.2.2.1 x.2.2.2)) (OutR B w0 (t.take i ++ [x] ++ t.drop i)) := by
  have hok := hO.2
  obtain ⟨hl0, ⟨h1, _⟩ | ⟨g', cap', cur, h1, hBg, hg, hnc, hcm, hcs, htk⟩⟩ := hO.1
  · cases h1
  simp only [Value.slice.injEq, Option.some.injEq, Addr.mk.injEq, true_and, and_true] at h1
  obtain ⟨rfl, rfl⟩ := h1
  obtain ⟨Z, rfl⟩ : ∃ Z : List Value, cur = Z.toArray := ⟨cur.toList, by simp⟩
  have hZ : Z.length = t.length * 4 := by have h : Z.toArray.size = t.length * 4 := hcs; simpa using h
  have htk : Z.take (t.length * 4) = t.flatMap fR.enc := htk
  have hZt : Z = t.flatMap fR.enc := by rw [← htk, List.take_of_length_le (by omega)]
  have hgs : g < w0.heap.size := blk_lt hg
  obtain ⟨w, hw⟩ : ∃ w, w = w0.alloc (bxR x.1 x.2.1 x.2.2.1 x.2.2.2) := ⟨_, rfl⟩
  have hgw : w.heap[g]? = some (.cells Z.toArray 43 (0, 0)) := by rw [hw]; exact blk_alloc hg _
  have hvw : w.heap[w0.heap.size]? = some (bxR x.1 x.2.1 x.2.2.1 x.2.2.2) := by rw [hw]; exact blk_new _ _
  have hbw : Below B w0 w := by rw [hw]; exact (Below.refl B w0).alloc hB _
  obtain ⟨vb, hvb⟩ : ∃ vb, vb = w0.heap.size := ⟨_, rfl⟩
  have hne : vb ≠ g := by omega
  rw [← hw]
  rw [← hvb] at hvw ⊢
  have hvs : vb < w.heap.size := blk_lt hvw
  have hgs2 : g < w.heap.size := blk_lt hgw
  obtain ⟨D, hD⟩ : ∃ D, D = (t.drop i).flatMap fR.enc := ⟨_, rfl⟩
  obtain ⟨X, hX⟩ : ∃ X, X = fR.enc x := ⟨_, rfl⟩
  have nD : D.length = (t.length - i) * 4 := by rw [hD, fR_len, List.length_drop]
  have nX : X.length = 4 := by rw [hX]; rfl
  have oD : ∀ v ∈ D, v.oneCell' = true := by rw [hD]; exact flat_one _
  have oX : ∀ v ∈ X, v.oneCell' = true := by rw [hX]; exact fun v hv => fR.one x v hv
  have tD : D = Z.drop (i * 4) := by rw [hZt, hD]; exact (flat_dropR (F := fR) t i (by omega)).symm
  have tP : Z.take (i * 4) = (t.take i).flatMap fR.enc := by rw [hZt]; exact flat_take (F := fR) t i (by omega)
  obtain ⟨i0, hi0, hz0, hs0, hb0⟩ := info_get infoR
  have hgd : w.drew.heap[g]? = some (.cells Z.toArray 43 (0, 0)) := hgw
  have hold : (Builtin.firstCells i0.size i (.slice (some ⟨g, 0, none⟩) i t.length)).run Try.prog w.drew = .ok (Z.take (i * 4)).toArray w.drew := by
    rw [hs0]
    exact run_firstCells_some w.drew 4 i ⟨g, 0, none⟩ i t.length (Z.take (i * 4)) (by rw [List.length_take]; omega) (fun j v hj => by
      rw [add_off, Nat.zero_add]
      refine blk_cell hgd _ ?_
      rw [List.getElem?_take] at hj
      split at hj
      · rw [List.getElem?_toArray]; exact hj
      · cases hj)
  have hik : i + (t.length + 1 - i) = t.length + 1 := by omega
  obtain ⟨G, hG⟩ : ∃ G, G = grownCap w (t.length + 1) t.length 43 := ⟨_, rfl⟩
  have hGn : t.length + 1 ≤ G := by rw [hG]; exact grownCap_ge w _ _ _
  have hGm : G ≤ maxLen := by rw [hG]; exact grownCap_le_maxLen w _ _ _ (by unfold maxLen; omega)
  have hrz : ∀ ty, ∃ R : List Value, R.length = G * 4 ∧ R.take (i * 4) = Z.take (i * 4) ∧ (Builtin.append_ #[22, 3] ty #[.slice (some ⟨g, 0, none⟩) i t.length, .int .i64 ((t.length : Int) + 1 - (i : Int))]).run Try.prog w =
      .ok (.slice (some ⟨w.heap.size, 0, none⟩) (t.length + 1) G) (w.drew.alloc (.cells R.toArray 43)) := fun ty => by
    have h := Lib.run_append_grow_zeros w 22 3 ty 43 i0 _ .i64 .i64 Try.underlying22 Try.underlying3 hi0 hz0 (some ⟨g, 0, none⟩) i t.length (Z.take (i * 4)) hold (t.length + 1 - i) (by omega) (by omega) (by omega) (by omega) (by rw [hb0]; omega) (by rw [hb0, hik]; exact growslice_fits (by omega) (by omega))
    rw [hik, ← hG] at h
    refine ⟨Z.take (i * 4) ++ (Builtin.zeroCells (Value.agg #[.int .i64 0, .int .i64 0, .int .i64 0, .int .i64 0]).cells (t.length + 1 - i) ++ Builtin.zeroCells (Value.agg #[.int .i64 0, .int .i64 0, .int .i64 0, .int .i64 0]).cells (G - (t.length + 1))).toList, ?_, ?_, ?_⟩
    · have hs : ∀ (a b : Nat), ((Builtin.zeroCells (Value.agg #[.int .i64 0, .int .i64 0, .int .i64 0, .int .i64 0]).cells a ++ Builtin.zeroCells (Value.agg #[.int .i64 0, .int .i64 0, .int .i64 0, .int .i64 0]).cells b).toList).length = a * 4 + b * 4 := fun a b => by
        rw [Array.length_toList, Array.size_append, size_zeroCells, size_zeroCells]; rfl
      rw [List.length_append, List.length_take, hZ, hs, Nat.min_eq_left (by omega)]; omega
    · rw [List.take_append_of_le_length (by rw [List.length_take]; omega), List.take_take]; congr 1; omega
    · rw [show (t.length : Int) + 1 - (i : Int) = ((t.length + 1 - i : Nat) : Int) by omega, h]
      congr 3
      apply Array.ext'
      simp
  obtain ⟨R, nR, tR, hap⟩ := hrz 22
  obtain ⟨w1, hw1⟩ : ∃ w1, w1 = w.drew.alloc (.cells R.toArray 43) := ⟨_, rfl⟩
  have hN1 : w1.heap[w.heap.size]? = some (.cells R.toArray 43 (0, 0)) := by rw [hw1]; exact blk_new w.drew _
  have hv1 : w1.heap[vb]? = some (bxR x.1 x.2.1 x.2.2.1 x.2.2.2) := by rw [hw1]; exact blk_alloc (w := w.drew) hvw _
  have hg1 : w1.heap[g]? = some (.cells Z.toArray 43 (0, 0)) := by rw [hw1]; exact blk_alloc (w := w.drew) hgw _
  have hBw : B ≤ w.heap.size := Nat.le_trans hB hbw.size
  have hb1 : Below B w0 w1 := by rw [hw1]; exact hbw.drew.alloc hBw _
  rw [← hw1] at hap
  obtain ⟨N, hN⟩ : ∃ N, N = w.heap.size := ⟨_, rfl⟩
  rw [← hN] at hap hN1 hBw
  have hneN : g ≠ N := by omega
  obtain ⟨w2, hcp, HG2, HB2⟩ := copy_eq (P := Try.prog) (w := w1) 22 22 3 43 4 Try.underlying22 sizeR (by decide) (some ⟨N, i * 4, none⟩) (some ⟨vb, 0, none⟩) (t.length + 1 - i) (G - i) 1 1 N (i * 4) R 43 hN1 X
    (by rw [nX]; show 4 = min 1 (t.length + 1 - i) * 4; rw [Nat.min_eq_left (by omega)]) (fun _ => ⟨rfl, _, rfl, fun j u hj => by
      rw [add_off, Nat.zero_add]
      refine blk_cell hv1 _ ?_
      rw [hX] at hj
      rw [← hj]
      show (fR.enc x).toArray[j]? = _
      rw [List.getElem?_toArray]⟩) (by rw [nX, nR]; omega) oX B w0 hb1 hBw
  have hg2 : w2.heap[g]? = some (.cells Z.toArray 43 (0, 0)) := by
    have hh := @run_copy_row_k Try.prog w1 22 22 3 43 4 N (i * 4) (t.length + 1 - i) (G - i) ⟨vb, 0, none⟩ 1 1 R.toArray 43 X Try.underlying22 sizeR hN1
      (by rw [nX]; show 4 = min 1 (t.length + 1 - i) * 4; rw [Nat.min_eq_left (by omega)]) (fun j u hj => by
      rw [add_off, Nat.zero_add]
      refine blk_cell hv1 _ ?_
      rw [hX] at hj
      rw [← hj]
      show (fR.enc x).toArray[j]? = _
      rw [List.getElem?_toArray]) (by rw [nX, List.size_toArray, nR]; omega) oX
    rw [hh] at hcp
    simp only [Result.ok.injEq] at hcp
    rw [← hcp.2, setRow_other _ _ _ _ hneN]
    exact hg1
  have hgd2 : w2.drew.heap[g]? = some (.cells Z.toArray 43 (0, 0)) := hg2
  have hGd2 : w2.drew.heap[N]? = some (.cells (splice R (i * 4) X).toArray 43 (0, 0)) := HG2.out
  obtain ⟨w3, hcp2, HG3, HB3⟩ := copy_eq (P := Try.prog) (w := w2.drew) 22 22 3 43 4 Try.underlying22 sizeR (by decide) (some ⟨N, (i + 1) * 4, none⟩) (some ⟨g, i * 4, none⟩) (t.length - i) (G - (i + 1)) (t.length - i) (t.length - i) N (i * 4 + X.length) _ 43 hGd2 D
    (by rw [nD]; congr 1; exact (Nat.min_eq_right (Nat.le_refl _)).symm) (fun _ => ⟨by rw [nX, Nat.add_mul], _, rfl, fun j u hj => by
      rw [add_off]
      refine blk_cell hgd2 _ ?_
      rw [tD, List.getElem?_drop] at hj
      rw [List.getElem?_toArray]; exact hj⟩) (by rw [length_splice _ _ _ (by rw [nX, nR]; omega), nX, nD, nR]; omega) oD B w0 HB2.drew hBw
  obtain ⟨fl, fo, fe⟩ := fin_list (t := t) (x := x) (i := i) (by omega) hx hok
  have FIN := Lib.hid (show OwnR w3 B (.slice (some ⟨N, 0, none⟩) (t.length + 1) G) (t.take i ++ [x] ++ t.drop i) by
    have := own_block (B := B) (cap := G) (l := t.take i ++ [x] ++ t.drop i) hBw HG3.out (by omega) hGm (by rw [length_splice _ _ _ (by rw [length_splice _ _ _ (by rw [nX, nR]; omega), nX, nD, nR]; omega), length_splice _ _ _ (by rw [nX, nR]; omega), nR])
      (by
        rw [fl, show (t.length + 1) * 4 = i * 4 + X.length + D.length by rw [nX, nD]; omega, splice_grow R D X (i * 4) (by rw [nX, nD, nR]; omega), fe, hX, hD, tR, tP]) fo
    rw [fl] at this
    exact this)
  have HB := Lib.hid HB3
  have hz2 : ((i : Int) == (t.length : Int)) = false := by simp; omega
  have hz5 : ¬ ((i : Int) = (t.length : Int)) := by omega
  have hz3 : (t.length : Int) < (t.length : Int) + 1 := by omega
  have hw1' : IntKind.i64.wrap ((i : Int) + 1) = (i : Int) + 1 := by rw [IntKind.wrap_i64]; omega
  have hw2 : IntKind.i64.wrap ((t.length : Int) + 1) = (t.length : Int) + 1 := by rw [IntKind.wrap_i64]; omega
  have hw3 : IntKind.i64.wrap ((t.length : Int) + 1 - (i : Int)) = (t.length : Int) + 1 - (i : Int) := by rw [IntKind.wrap_i64]; omega
  have hp1 : (0 : Int) ≤ (i : Int) + 1 := by omega
  have hin : i ≤ t.length := by omega
  have htn : ((i : Int) + 1).toNat = i + 1 := by omega
  unfold maxLen at hcm hGm
  have hGi : ¬ (G = i) := by omega
  have hGim : ¬ (G = i + 1) := by omega
  have hci : ¬ (t.length = i) := by omega
  have hb3 : (i : Int) ≤ (t.length : Int) + 1 := by omega
  have hb6 : (i : Int) + 1 ≤ (t.length : Int) + 1 := by omega
  clear hO hok hl0 hg hcs htk hZt hgs hw hgw hvw hvb tD tP tR HG2 HG3 HB2 HB3 hv1 hg1 hN1 hg2 hgd2 hGd2 fl fo fe hD hX nD nX oD oX nR hZ hgd hbw hb1 hB hx hold hi0 hz0 hs0 hb0 hG hN hik hvs hgs2 hw1
  go_enter Try.func55, Try.ntmps55
  go_wp2_with (at_builtin; refine Lib.wpList_append_run _ rfl _ _ _ _ rfl _ _ rfl rfl _ _ hap ?_)
  have mixed := mixedB
  go_big_region_o
  go_wp2_with fail
  go_ret
  exact ⟨_, rfl, FIN.out, HB.out⟩

theorem insert_any (v : Value) (hi : i ≤ t.length) (hO : OwnR w0 B v t) :
    Calls Try.prog 55 #[v, .int .i64 i, .slice (some ⟨w0.heap.size, 0, none⟩) 1 1] (w0.alloc (bxR x.1 x.2.1 x.2.2.1 x.2.2.2)) (OutR B w0 (t.take i ++ [x] ++ t.drop i)) := by
  rcases Nat.lt_or_ge i t.length with h | h
  · obtain ⟨g, cap, rfl, _, _⟩ := hO.at (fun e => by rw [e] at h; simp at h)
    rcases hO.1.2 with ⟨e, _⟩ | ⟨g', cap', cur, e, _, _, hc, _⟩
    · cases e
    · simp only [Value.slice.injEq, true_and] at e
      obtain ⟨_, rfl⟩ := e
      rcases Nat.lt_or_ge t.length cap with h2 | h2
      · exact insert_shift B t x i w0 hB hx hlen g cap h hO h2
      · obtain rfl : cap = t.length := by omega
        exact insert_grow B t x i w0 hB hx hlen g h hO
  · obtain rfl : i = t.length := by omega
    have := insert_end B t x w0 hB hx hlen v hO
    rw [List.take_length, List.drop_length, List.append_nil]
    exact this
end
end Go.Proofs.Ytcfnkfkdhcejeaa.Rte
