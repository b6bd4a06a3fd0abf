/- Package mac: slices.Insert of one entry into a row of the call's own. -/
import Derived.Test.YtpfmfnogckeneaaMcX1
import Derived.Test.YtpfmfnogckeneaaCp
import Derived.Lib.Overlaps
import Derived.Lib.AppendZerosOnto
import Derived.Laws.Externs
set_option linter.unusedVariables false
namespace Go.Proofs.Ytpfmfnogckeneaa.Mcq
open Go.RowKit
open Mbx (Fm zf fmC fmV FOk fF)

theorem infoS : (Try.prog.info? 42).map (fun i => (i.zero, i.size, i.bytes)) = some (some (sdV z0), 11, 96) := by kernel_rfl
theorem sizeS : (Try.prog.info? 42).map (·.size) = some 11 := by
  obtain ⟨i, h1, _, h3, _⟩ := info_get infoS
  rw [h1]; exact congrArg some h3
theorem sizeOfS (w : World) : (Go.sizeOf 42).run Try.prog w = .ok 11 w := by
  obtain ⟨i, h1, _, h3, _⟩ := info_get infoS
  simp [sizeOf, typeInfo, h1, h3]
theorem flat_take {α : Type} {F : Flat α} (l : List α) (i : Nat) (hi : i ≤ l.length) : (l.flatMap F.enc).take (i * F.sz) = (l.take i).flatMap F.enc := by
  have e : l.flatMap F.enc = (l.take i).flatMap F.enc ++ (l.drop i).flatMap F.enc := by rw [← List.flatMap_append, List.take_append_drop]
  rw [e, List.take_append_of_le_length (by rw [flat_len, List.length_take, Nat.min_eq_left hi]; exact Nat.le_refl _), List.take_of_length_le (by rw [flat_len, List.length_take, Nat.min_eq_left hi]; exact Nat.le_refl _)]
theorem flat_dropR {α : Type} {F : Flat α} (l : List α) (i : Nat) (hi : i ≤ l.length) : (l.flatMap F.enc).drop (i * F.sz) = (l.drop i).flatMap F.enc := by
  have e : l.flatMap F.enc = (l.take i).flatMap F.enc ++ (l.drop i).flatMap F.enc := by rw [← List.flatMap_append, List.take_append_drop]
  have hl : ((l.take i).flatMap F.enc).length = i * F.sz := by rw [flat_len, List.length_take, Nat.min_eq_left hi]
  rw [e, List.drop_append_of_le_length (by rw [hl]; exact Nat.le_refl _), List.drop_of_length_le (by rw [hl]; exact Nat.le_refl _), List.nil_append]
/-- What two copies leave. -/
theorem splice_shift {α : Type} (Z D X : List α) (a : Nat) (ha : a + X.length + D.length ≤ Z.length) : (splice (splice Z (a + X.length) D) a X).take (a + X.length + D.length) = Z.take a ++ X ++ D := by
  have h1 : (Z.take (a + X.length)).length = a + X.length := by rw [List.length_take]; omega
  have h2 : (splice Z (a + X.length) D).take a = Z.take a := by
    unfold splice
    rw [List.take_append_of_le_length (by omega), List.take_take]
    congr 1; omega
  have h3 : (splice Z (a + X.length) D).drop (a + X.length) = D ++ Z.drop (a + X.length + D.length) := by
    unfold splice
    rw [List.drop_append_of_le_length (by omega), List.drop_of_length_le (by omega), List.nil_append]
  have h4 : (Z.take a).length = a := by rw [List.length_take]; omega
  rw [show splice (splice Z (a + X.length) D) a X = Z.take a ++ X ++ D ++ Z.drop (a + X.length + D.length) from by
    show (splice Z (a + X.length) D).take a ++ (X ++ (splice Z (a + X.length) D).drop (a + X.length)) = _
    rw [h2, h3]; simp only [List.append_assoc]]
  rw [List.take_append_of_le_length (by simp only [List.length_append, h4]; omega), List.take_of_length_le (by simp only [List.length_append, h4]; omega)]
theorem splice_grow {α : Type} (Z D X : List α) (a : Nat) (ha : a + X.length + D.length ≤ Z.length) : (splice (splice Z a X) (a + X.length) D).take (a + X.length + D.length) = Z.take a ++ X ++ D := by
  have h4 : (Z.take a).length = a := by rw [List.length_take]; omega
  have h2 : (splice Z a X).take (a + X.length) = Z.take a ++ X := by
    unfold splice
    rw [← List.append_assoc, List.take_append_of_le_length (by simp only [List.length_append, h4]; omega), List.take_of_length_le (by simp only [List.length_append, h4]; omega)]
  rw [show splice (splice Z a X) (a + X.length) D = Z.take a ++ X ++ D ++ (splice Z a X).drop (a + X.length + D.length) from by
    show (splice Z a X).take (a + X.length) ++ (D ++ (splice Z a X).drop (a + X.length + D.length)) = _
    rw [h2]; simp only [List.append_assoc]]
  rw [List.take_append_of_le_length (by simp only [List.length_append, h4]; omega), List.take_of_length_le (by simp only [List.length_append, h4]; omega)]

/-- A row of the call's own, somewhere above a bound, is handed back. -/
def OutV (B : Nat) (w : World) (l : List Sd) (e : Ending) (w' : World) : Prop := ∃ v, e = .returned v ∧ OwnS w' B v l ∧ Below B w w'
/-- A block that begins with these routes. -/
theorem own_block {w : World} {B g cap : Nat} {Z : List Value} {l : List Sd} (hB : B ≤ g) (h : w.heap[g]? = some (.cells Z.toArray 42 (0, 0))) (hc : l.length ≤ cap) (hm : cap ≤ maxLen) (hs : Z.length = cap * 11) (ht : Z.take (l.length * 11) = l.flatMap fS.enc) (hok : ∀ a ∈ l, fS.ok a) :
    OwnS w B (.slice (some ⟨g, 0, none⟩) l.length cap) l :=
  ⟨⟨flat_len l, Or.inr ⟨g, cap, Z.toArray, rfl, hB, h, hc, hm, (show Z.toArray.size = cap * 11 by simpa using hs), ht⟩⟩, hok⟩

theorem fin_list {t : List Sd} {x : Sd} {i : Nat} (hi : i ≤ t.length) (hx : fS.ok x) (ht : ∀ a ∈ t, fS.ok a) : (t.take i ++ [x] ++ t.drop i).length = t.length + 1 ∧ (∀ a ∈ t.take i ++ [x] ++ t.drop i, fS.ok a) ∧ (t.take i ++ [x] ++ t.drop i).flatMap fS.enc = (t.take i).flatMap fS.enc ++ fS.enc x ++ (t.drop i).flatMap fS.enc := by
  refine ⟨by simp only [List.length_append, List.length_take, List.length_drop, List.length_singleton]; omega, fun a ha => ?_, by simp [List.flatMap_append]⟩
  rcases List.mem_append.1 ha with ha | ha
  · rcases List.mem_append.1 ha with ha | ha
    · exact ht a (List.mem_of_mem_take ha)
    · rw [List.mem_singleton.1 ha]; exact hx
  · exact ht a (List.mem_of_mem_drop ha)
theorem fS_len (l : List Sd) : (l.flatMap fS.enc).length = l.length * 11 := flat_len l


section
variable (B : Nat) (t : List Sd) (x : Sd) (i : Nat) (w0 w : World) (hbw : Below B w0 w) (vb : Nat) (hvw : w.heap[vb]? = some (bxS x)) (hB : B ≤ w.heap.size) (hx : fS.ok x) (hlen : t.length ≤ 1000)
include hbw hvw hB hx hlen

set_option maxRecDepth 100000 in
set_option maxHeartbeats 4000000 in
theorem insert_end (v : Value) (hO : OwnS w B v t) :
    Calls Try.prog 25 #[v, .int .i64 t.length, .slice (some ⟨vb, 0, none⟩) 1 1] w (OutV B w0 (t ++ [x])) := by
  have hfx : FlAt fS w w.heap.size (some ⟨vb, 0, none⟩) [x] := fun k hk => by
    obtain rfl : k = 0 := by simpa using hk
    refine ⟨vb, 0, rfl, blk_lt hvw, fun j u hu => ?_, hx⟩
    rw [Nat.zero_mul, Nat.zero_add]
    exact blk_cell hvw j (by rw [← Array.getElem?_toList]; exact hu)
  obtain ⟨v', w', hap, ho, hb, _, _⟩ := hO.app eSd (c := 1) 22 hfx (by simp; omega) hB
  replace hb := hbw.trans hb
  simp only [List.length_singleton] at hap
  have O := Lib.hid ho
  have BB := Lib.hid hb
  clear ho hb
  rcases hO.1.2 with ⟨rfl, hz⟩ | ⟨g, cap, cur, rfl, _, _, hnc, hcm, _⟩
  · have e0 : t = [] := List.eq_nil_of_length_eq_zero hz
    subst e0
    simp only [List.length_nil] at hap ⊢
    go_enter Try.func25, Try.ntmps25
    go_wp2_with (at_builtin; refine Lib.wpList_append_run _ rfl _ _ _ _ rfl _ _ rfl rfl _ _ hap ?_)
    go_ret
    exact ⟨_, rfl, O.out, BB.out⟩
  · unfold maxLen at hcm
    by_cases hci : cap = t.length
    · go_enter Try.func25, Try.ntmps25
      go_wp2_with (at_builtin; refine Lib.wpList_append_run _ rfl _ _ _ _ rfl _ _ rfl rfl _ _ hap ?_)
      go_ret
      exact ⟨_, rfl, O.out, BB.out⟩
    · go_enter Try.func25, Try.ntmps25
      go_wp2_with (at_builtin; refine Lib.wpList_append_run _ rfl _ _ _ _ rfl _ _ rfl rfl _ _ hap ?_)
      go_ret
      exact ⟨_, rfl, O.out, BB.out⟩

set_option maxRecDepth 100000 in
set_option maxHeartbeats 4000000 in
omit hB in
theorem insert_shift (g cap : Nat) (hi : i < t.length) (hO : OwnS w B (.slice (some ⟨g, 0, none⟩) t.length cap) t) (hne : vb ≠ g) (hroom : t.length < cap) :
    Calls Try.prog 25 #[.slice (some ⟨g, 0, none⟩) t.length cap, .int .i64 i, .slice (some ⟨vb, 0, none⟩) 1 1] w (OutV B w0 (t.take i ++ [x] ++ t.drop i)) := by
  have hok := hO.2
  obtain ⟨hl0, ⟨h1, _⟩ | ⟨g', cap', cur, h1, hBg, hg, hnc, hcm, hcs, htk⟩⟩ := hO.1
  · cases h1
  simp only [Value.slice.injEq, Option.some.injEq, Addr.mk.injEq, true_and, and_true] at h1
  obtain ⟨rfl, rfl⟩ := h1
  obtain ⟨Z, rfl⟩ : ∃ Z : List Value, cur = Z.toArray := ⟨cur.toList, by simp⟩
  have hZ : Z.length = cap * 11 := by have h : Z.toArray.size = cap * 11 := hcs; simpa using h
  have htk : Z.take (t.length * 11) = t.flatMap fS.enc := htk
  have hgw : w.heap[g]? = some (.cells Z.toArray 42 (0, 0)) := hg
  obtain ⟨D, hD⟩ : ∃ D, D = (t.drop i).flatMap fS.enc := ⟨_, rfl⟩
  obtain ⟨X, hX⟩ : ∃ X, X = fS.enc x := ⟨_, rfl⟩
  have nD : D.length = (t.length - i) * 11 := by rw [hD, fS_len, List.length_drop]
  have nX : X.length = 11 := by rw [hX]; rfl
  have oD : ∀ v ∈ D, v.oneCell' = true := by rw [hD]; exact flat_one _
  have oX : ∀ v ∈ X, v.oneCell' = true := by rw [hX]; exact fun v hv => fS.one x v hv
  have hov : ∀ lb cb, (callFunc 36 #[.slice (some ⟨vb, 0, none⟩) 1 1, .slice (some ⟨g, (i + 1) * 11, none⟩) lb cb]).run Try.prog w = .ok (.value (.bool false)) w := fun lb cb => by
    rw [run_callFunc_extern Try.func36 (by kernel_rfl) (by kernel_rfl) (by kernel_rfl) (e := Extern.SlicesOverlaps.overlaps #[22, 22] #[4]) (by kernel_rfl),
      Lib.run_overlaps_apart w 22 4 42 Try.underlying22 11 sizeOfS ⟨vb, 0, none⟩ ⟨g, (i + 1) * 11, none⟩ 1 1 lb cb hne 42 42 11 Z.toArray.size
        (by unfold World.shape?; rw [hvw]; rfl) (by unfold World.shape?; rw [hgw]) (by rw [List.size_toArray, hZ]; omega) (blk_fr hvw 0) (blk_fr hvw 11)]
    rfl
  have hgd : w.drew.heap[g]? = some (.cells Z.toArray 42 (0, 0)) := hgw
  have tD : D = (Z.drop (i * 11)).take D.length := by
    have e1 := flat_dropR (F := fS) t i (by omega)
    have e2 : (Z.take (t.length * 11)).drop (i * 11) = D := by rw [htk, hD]; exact e1
    rw [← e2, List.drop_take, List.length_take, List.length_drop]
    congr 1
    omega
  have srcD : ∀ (j : Nat) (u : Value), D[j]? = some u → w.drew.cell? ((⟨g, i * 11, none⟩ : Addr).add j) = some u := fun j u hj => by
    rw [add_off]
    refine blk_cell hgd _ ?_
    have hjl := (List.getElem?_eq_some_iff.1 hj).1
    rw [tD, List.getElem?_take, if_pos hjl, List.getElem?_drop] at hj
    rw [List.getElem?_toArray]; exact hj
  obtain ⟨w2, hcp, HG2, HB2⟩ := copy_eq (P := Try.prog) (w := w.drew) 22 22 3 42 11 Try.underlying22 sizeS (by decide) (some ⟨g, (i + 1) * 11, none⟩) (some ⟨g, i * 11, none⟩) (t.length - i) (cap - (i + 1)) (t.length + 1 - i) (cap - i) g (i * 11 + X.length) Z 42 hgd D
    (by rw [nD]; congr 1; exact (Nat.min_eq_right (by omega)).symm) (fun _ => ⟨by rw [nX, Nat.add_mul], _, rfl, srcD⟩) (by rw [nX, nD, hZ]; omega) oD B w0 hbw.drew hBg
  have hv2 : w2.heap[vb]? = some (bxS x) := by
    have hh := @run_copy_row_k Try.prog w.drew 22 22 3 42 11 g (i * 11 + X.length) (t.length - i) (cap - (i + 1)) ⟨g, i * 11, none⟩ (t.length + 1 - i) (cap - i) Z.toArray 42 D Try.underlying22 sizeS hgd
      (by rw [nD]; congr 1; exact (Nat.min_eq_right (by omega)).symm) srcD (by rw [nX, nD]; simp only [List.size_toArray]; omega) oD
    have e0 : (i + 1) * 11 = i * 11 + X.length := by rw [nX, Nat.add_mul]
    rw [e0] at hcp
    rw [hh] at hcp
    simp only [Result.ok.injEq] at hcp
    rw [← hcp.2, setRow_other _ _ _ _ hne]
    exact hvw
  obtain ⟨w3, hcp2, HG3, HB3⟩ := copy_eq (P := Try.prog) (w := w2) 22 22 3 42 11 Try.underlying22 sizeS (by decide) (some ⟨g, i * 11, none⟩) (some ⟨vb, 0, none⟩) (t.length + 1 - i) (cap - i) 1 1 g (i * 11) _ 42 HG2.out X
    (by rw [nX]; show 11 = min 1 (t.length + 1 - i) * 11; rw [Nat.min_eq_left (by omega)]) (fun _ => ⟨rfl, _, rfl, fun j u hj => by
      rw [add_off, Nat.zero_add]
      refine blk_cell hv2 _ ?_
      rw [hX] at hj
      rw [← hj]
      show (fS.enc x).toArray[j]? = _
      rw [List.getElem?_toArray]⟩) (by rw [length_splice _ _ _ (by rw [nX, nD, hZ]; omega), nX, hZ]; omega) oX B w0 HB2 hBg
  obtain ⟨fl, fo, fe⟩ := fin_list (t := t) (x := x) (i := i) (by omega) hx hok
  have FIN := Lib.hid (show OwnS w3 B (.slice (some ⟨g, 0, none⟩) (t.length + 1) cap) (t.take i ++ [x] ++ t.drop i) by
    have := own_block (B := B) (cap := cap) (l := t.take i ++ [x] ++ t.drop i) hBg HG3.out (by omega) hcm (by rw [length_splice _ _ _ (by rw [length_splice _ _ _ (by rw [nX, nD, hZ]; omega), nX, hZ]; omega), length_splice _ _ _ (by rw [nX, nD, hZ]; omega), hZ])
      (by
        rw [fl, show (t.length + 1) * 11 = i * 11 + X.length + D.length by rw [nX, nD]; omega, splice_shift Z D X (i * 11) (by rw [nX, nD, hZ]; omega), fe, hX, hD]
        congr 2
        have e1 := flat_take (F := fS) t i (by omega)
        rw [← htk] at e1
        rw [← e1]
        show _ = (Z.take (t.length * 11)).take (i * 11)
        rw [List.take_take]; congr 1; omega) fo
    rw [fl] at this
    exact this)
  have HB := Lib.hid HB3
  have hz2 : ((i : Int) == (t.length : Int)) = false := by simp; omega
  have hz5 : ¬ ((i : Int) = (t.length : Int)) := by omega
  have hz3 : ¬ ((cap : Int) < (t.length : Int) + 1) := by omega
  have hw1 : IntKind.i64.wrap ((i : Int) + 1) = (i : Int) + 1 := by rw [IntKind.wrap_i64]; omega
  have hw2 : IntKind.i64.wrap ((t.length : Int) + 1) = (t.length : Int) + 1 := by rw [IntKind.wrap_i64]; omega
  have hb1 : (0 : Int) ≤ (i : Int) + 1 := by omega
  have hin : i ≤ t.length := by omega
  have htn : ((i : Int) + 1).toNat = i + 1 := by omega
  have htn2 : ((t.length : Int) + 1).toNat = t.length + 1 := by omega
  unfold maxLen at hcm
  have hb2 : ¬ (cap = i + 1) := by omega
  have hb3 : (i : Int) ≤ (t.length : Int) + 1 := by omega
  have hb4 : ¬ (cap = i) := by omega
  have hb5 : (t.length : Int) + 1 ≤ (cap : Int) := by omega
  have hb6 : (i : Int) + 1 ≤ (t.length : Int) + 1 := by omega
  have hb7 : (0 : Int) ≤ (t.length : Int) + 1 := by omega
  clear hO hok hl0 hg hcs htk hgw hvw tD srcD HG2 HG3 HB2 HB3 hv2 fl fo fe hD hX nD nX oD oX hZ hgd hbw hx
  go_enter Try.func25, Try.ntmps25
  go_wp2_with (simp only [hov])
  have mixed := mixedB
  go_big_region_o
  go_wp2_with fail
  go_ret
  exact ⟨_, rfl, FIN.out, HB.out⟩

set_option maxRecDepth 100000 in
set_option maxHeartbeats 4000000 in
theorem insert_grow (g : Nat) (hi : i < t.length) (hO : OwnS w B (.slice (some ⟨g, 0, none⟩) t.length t.length) t) (hne : vb ≠ g) :
    Calls Try.prog 25 #[.slice (some ⟨g, 0, none⟩) t.length t.length, .int .i64 i, .slice (some ⟨vb, 0, none⟩) 1 1] w (OutV B w0 (t.take i ++ [x] ++ t.drop i)) := by
  have hok := hO.2
  obtain ⟨hl0, ⟨h1, _⟩ | ⟨g', cap', cur, h1, hBg, hg, hnc, hcm, hcs, htk⟩⟩ := hO.1
  · cases h1
  simp only [Value.slice.injEq, Option.some.injEq, Addr.mk.injEq, true_and, and_true] at h1
  obtain ⟨rfl, rfl⟩ := h1
  obtain ⟨Z, rfl⟩ : ∃ Z : List Value, cur = Z.toArray := ⟨cur.toList, by simp⟩
  have hZ : Z.length = t.length * 11 := by have h : Z.toArray.size = t.length * 11 := hcs; simpa using h
  have htk : Z.take (t.length * 11) = t.flatMap fS.enc := htk
  have hZt : Z = t.flatMap fS.enc := by rw [← htk, List.take_of_length_le (by omega)]
  have hgw : w.heap[g]? = some (.cells Z.toArray 42 (0, 0)) := hg
  have hvs : vb < w.heap.size := blk_lt hvw
  have hgs2 : g < w.heap.size := blk_lt hgw
  obtain ⟨D, hD⟩ : ∃ D, D = (t.drop i).flatMap fS.enc := ⟨_, rfl⟩
  obtain ⟨X, hX⟩ : ∃ X, X = fS.enc x := ⟨_, rfl⟩
  have nD : D.length = (t.length - i) * 11 := by rw [hD, fS_len, List.length_drop]
  have nX : X.length = 11 := by rw [hX]; rfl
  have oD : ∀ v ∈ D, v.oneCell' = true := by rw [hD]; exact flat_one _
  have oX : ∀ v ∈ X, v.oneCell' = true := by rw [hX]; exact fun v hv => fS.one x v hv
  have tD : D = Z.drop (i * 11) := by rw [hZt, hD]; exact (flat_dropR (F := fS) t i (by omega)).symm
  have tP : Z.take (i * 11) = (t.take i).flatMap fS.enc := by rw [hZt]; exact flat_take (F := fS) t i (by omega)
  obtain ⟨i0, hi0, hz0, hs0, hb0⟩ := info_get infoS
  have hgd : w.drew.heap[g]? = some (.cells Z.toArray 42 (0, 0)) := hgw
  have hold : (Builtin.firstCells i0.size i (.slice (some ⟨g, 0, none⟩) i t.length)).run Try.prog w.drew = .ok (Z.take (i * 11)).toArray w.drew := by
    rw [hs0]
    exact run_firstCells_some w.drew 11 i ⟨g, 0, none⟩ i t.length (Z.take (i * 11)) (by rw [List.length_take]; omega) (fun j v hj => by
      rw [add_off, Nat.zero_add]
      refine blk_cell hgd _ ?_
      rw [List.getElem?_take] at hj
      split at hj
      · rw [List.getElem?_toArray]; exact hj
      · cases hj)
  have hik : i + (t.length + 1 - i) = t.length + 1 := by omega
  obtain ⟨G, hG⟩ : ∃ G, G = grownCap w (t.length + 1) t.length 42 := ⟨_, rfl⟩
  have hGn : t.length + 1 ≤ G := by rw [hG]; exact grownCap_ge w _ _ _
  have hGm : G ≤ maxLen := by rw [hG]; exact grownCap_le_maxLen w _ _ _ (by unfold maxLen; omega)
  have hrz : ∀ ty, ∃ R : List Value, R.length = G * 11 ∧ R.take (i * 11) = Z.take (i * 11) ∧ (Builtin.append_ #[22, 3] ty #[.slice (some ⟨g, 0, none⟩) i t.length, .int .i64 ((t.length : Int) + 1 - (i : Int))]).run Try.prog w =
      .ok (.slice (some ⟨w.heap.size, 0, none⟩) (t.length + 1) G) (w.drew.alloc (.cells R.toArray 42)) := fun ty => by
    have h := Lib.run_append_grow_zeros w 22 3 ty 42 i0 _ .i64 .i64 Try.underlying22 Try.underlying3 hi0 hz0 (some ⟨g, 0, none⟩) i t.length (Z.take (i * 11)) hold (t.length + 1 - i) (by omega) (by omega) (by omega) (by omega) (by rw [hb0]; omega) (by rw [hb0, hik]; exact growslice_fits (by omega) (by omega))
    rw [hik, ← hG] at h
    refine ⟨Z.take (i * 11) ++ (Builtin.zeroCells (sdV z0).cells (t.length + 1 - i) ++ Builtin.zeroCells (sdV z0).cells (G - (t.length + 1))).toList, ?_, ?_, ?_⟩
    · have hs : ∀ (a b : Nat), ((Builtin.zeroCells (sdV z0).cells a ++ Builtin.zeroCells (sdV z0).cells b).toList).length = a * 11 + b * 11 := fun a b => by
        rw [Array.length_toList, Array.size_append, size_zeroCells, size_zeroCells]; rfl
      rw [List.length_append, List.length_take, hZ, hs, Nat.min_eq_left (by omega)]; omega
    · rw [List.take_append_of_le_length (by rw [List.length_take]; omega), List.take_take]; congr 1; omega
    · rw [show (t.length : Int) + 1 - (i : Int) = ((t.length + 1 - i : Nat) : Int) by omega, h]
      congr 3
      apply Array.ext'
      simp
  obtain ⟨R, nR, tR, hap⟩ := hrz 22
  obtain ⟨w1, hw1⟩ : ∃ w1, w1 = w.drew.alloc (.cells R.toArray 42) := ⟨_, rfl⟩
  have hN1 : w1.heap[w.heap.size]? = some (.cells R.toArray 42 (0, 0)) := by rw [hw1]; exact blk_new w.drew _
  have hv1 : w1.heap[vb]? = some (bxS x) := by rw [hw1]; exact blk_alloc (w := w.drew) hvw _
  have hg1 : w1.heap[g]? = some (.cells Z.toArray 42 (0, 0)) := by rw [hw1]; exact blk_alloc (w := w.drew) hgw _
  have hBw : B ≤ w.heap.size := hB
  have hb1 : Below B w0 w1 := by rw [hw1]; exact hbw.drew.alloc hBw _
  rw [← hw1] at hap
  obtain ⟨N, hN⟩ : ∃ N, N = w.heap.size := ⟨_, rfl⟩
  rw [← hN] at hap hN1 hBw
  have hneN : g ≠ N := by omega
  obtain ⟨w2, hcp, HG2, HB2⟩ := copy_eq (P := Try.prog) (w := w1) 22 22 3 42 11 Try.underlying22 sizeS (by decide) (some ⟨N, i * 11, none⟩) (some ⟨vb, 0, none⟩) (t.length + 1 - i) (G - i) 1 1 N (i * 11) R 42 hN1 X
    (by rw [nX]; show 11 = min 1 (t.length + 1 - i) * 11; rw [Nat.min_eq_left (by omega)]) (fun _ => ⟨rfl, _, rfl, fun j u hj => by
      rw [add_off, Nat.zero_add]
      refine blk_cell hv1 _ ?_
      rw [hX] at hj
      rw [← hj]
      show (fS.enc x).toArray[j]? = _
      rw [List.getElem?_toArray]⟩) (by rw [nX, nR]; omega) oX B w0 hb1 hBw
  have hg2 : w2.heap[g]? = some (.cells Z.toArray 42 (0, 0)) := by
    have hh := @run_copy_row_k Try.prog w1 22 22 3 42 11 N (i * 11) (t.length + 1 - i) (G - i) ⟨vb, 0, none⟩ 1 1 R.toArray 42 X Try.underlying22 sizeS hN1
      (by rw [nX]; show 11 = min 1 (t.length + 1 - i) * 11; rw [Nat.min_eq_left (by omega)]) (fun j u hj => by
      rw [add_off, Nat.zero_add]
      refine blk_cell hv1 _ ?_
      rw [hX] at hj
      rw [← hj]
      show (fS.enc x).toArray[j]? = _
      rw [List.getElem?_toArray]) (by rw [nX, List.size_toArray, nR]; omega) oX
    rw [hh] at hcp
    simp only [Result.ok.injEq] at hcp
    rw [← hcp.2, setRow_other _ _ _ _ hneN]
    exact hg1
  have hgd2 : w2.drew.heap[g]? = some (.cells Z.toArray 42 (0, 0)) := hg2
  have hGd2 : w2.drew.heap[N]? = some (.cells (splice R (i * 11) X).toArray 42 (0, 0)) := HG2.out
  obtain ⟨w3, hcp2, HG3, HB3⟩ := copy_eq (P := Try.prog) (w := w2.drew) 22 22 3 42 11 Try.underlying22 sizeS (by decide) (some ⟨N, (i + 1) * 11, none⟩) (some ⟨g, i * 11, none⟩) (t.length - i) (G - (i + 1)) (t.length - i) (t.length - i) N (i * 11 + X.length) _ 42 hGd2 D
    (by rw [nD]; congr 1; exact (Nat.min_eq_right (Nat.le_refl _)).symm) (fun _ => ⟨by rw [nX, Nat.add_mul], _, rfl, fun j u hj => by
      rw [add_off]
      refine blk_cell hgd2 _ ?_
      rw [tD, List.getElem?_drop] at hj
      rw [List.getElem?_toArray]; exact hj⟩) (by rw [length_splice _ _ _ (by rw [nX, nR]; omega), nX, nD, nR]; omega) oD B w0 HB2.drew hBw
  obtain ⟨fl, fo, fe⟩ := fin_list (t := t) (x := x) (i := i) (by omega) hx hok
  have FIN := Lib.hid (show OwnS w3 B (.slice (some ⟨N, 0, none⟩) (t.length + 1) G) (t.take i ++ [x] ++ t.drop i) by
    have := own_block (B := B) (cap := G) (l := t.take i ++ [x] ++ t.drop i) hBw HG3.out (by omega) hGm (by rw [length_splice _ _ _ (by rw [length_splice _ _ _ (by rw [nX, nR]; omega), nX, nD, nR]; omega), length_splice _ _ _ (by rw [nX, nR]; omega), nR])
      (by
        rw [fl, show (t.length + 1) * 11 = i * 11 + X.length + D.length by rw [nX, nD]; omega, splice_grow R D X (i * 11) (by rw [nX, nD, nR]; omega), fe, hX, hD, tR, tP]) fo
    rw [fl] at this
    exact this)
  have HB := Lib.hid HB3
  have hz2 : ((i : Int) == (t.length : Int)) = false := by simp; omega
  have hz5 : ¬ ((i : Int) = (t.length : Int)) := by omega
  have hz3 : (t.length : Int) < (t.length : Int) + 1 := by omega
  have hw1' : IntKind.i64.wrap ((i : Int) + 1) = (i : Int) + 1 := by rw [IntKind.wrap_i64]; omega
  have hw2 : IntKind.i64.wrap ((t.length : Int) + 1) = (t.length : Int) + 1 := by rw [IntKind.wrap_i64]; omega
  have hw3 : IntKind.i64.wrap ((t.length : Int) + 1 - (i : Int)) = (t.length : Int) + 1 - (i : Int) := by rw [IntKind.wrap_i64]; omega
  have hp1 : (0 : Int) ≤ (i : Int) + 1 := by omega
  have hin : i ≤ t.length := by omega
  have htn : ((i : Int) + 1).toNat = i + 1 := by omega
  unfold maxLen at hcm hGm
  have hGi : ¬ (G = i) := by omega
  have hGim : ¬ (G = i + 1) := by omega
  have hci : ¬ (t.length = i) := by omega
  have hb3 : (i : Int) ≤ (t.length : Int) + 1 := by omega
  have hb6 : (i : Int) + 1 ≤ (t.length : Int) + 1 := by omega
  clear hO hok hl0 hg hcs htk hZt hgw hvw tD tP tR HG2 HG3 HB2 HB3 hv1 hg1 hN1 hg2 hgd2 hGd2 fl fo fe hD hX nD nX oD oX nR hZ hgd hbw hb1 hB hx hold hi0 hz0 hs0 hb0 hG hN hik hvs hgs2 hw1
  go_enter Try.func25, Try.ntmps25
  go_wp2_with (at_builtin; refine Lib.wpList_append_run _ rfl _ _ _ _ rfl _ _ rfl rfl _ _ hap ?_)
  have mixed := mixedB
  go_big_region_o
  go_wp2_with fail
  go_ret
  exact ⟨_, rfl, FIN.out, HB.out⟩

theorem insert_any (v : Value) (hi : i ≤ t.length) (hO : OwnS w B v t) (hne : ∀ g, v.ownBlock = some g → vb ≠ g) :
    Calls Try.prog 25 #[v, .int .i64 i, .slice (some ⟨vb, 0, none⟩) 1 1] w (OutV B w0 (t.take i ++ [x] ++ t.drop i)) := by
  rcases Nat.lt_or_ge i t.length with h | h
  · obtain ⟨g, cap, rfl, _, _⟩ := hO.at (fun e => by rw [e] at h; simp at h)
    rcases hO.1.2 with ⟨e, _⟩ | ⟨g', cap', cur, e, _, _, hc, _⟩
    · cases e
    · simp only [Value.slice.injEq, true_and] at e
      obtain ⟨_, rfl⟩ := e
      rcases Nat.lt_or_ge t.length cap with h2 | h2
      · exact insert_shift B t x i w0 w hbw vb hvw hx hlen g cap h hO (hne g rfl) h2
      · obtain rfl : cap = t.length := by omega
        exact insert_grow B t x i w0 w hbw vb hvw hB hx hlen g h hO (hne g rfl)
  · obtain rfl : i = t.length := by omega
    have := insert_end B t x w0 w hbw vb hvw hB hx hlen v hO
    rw [List.take_length, List.drop_length, List.append_nil]
    exact this
end
end Go.Proofs.Ytpfmfnogckeneaa.Mcq
