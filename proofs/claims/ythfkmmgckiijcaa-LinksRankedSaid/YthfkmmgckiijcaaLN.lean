/- Contract of replaced. -/
import Derived.Test.YthfkmmgckiijcaaLM
import Derived.Test.YthfkmmgckiijcaaCp
import Derived.Deep.Cut
import Derived.Deep.CutRange
import Derived.Deep.DeepCutAuto
set_option linter.unusedVariables false
namespace Go.Proofs.Ythfkmmgckiijcaa.Lnk
open Go.RowKit

theorem infoL : (Try.prog.info? 38).map (fun i => (i.zero, i.size, i.bytes)) = some (some (.agg #[.int .i64 0, .int .i64 0, .int .i64 0]), 3, 24) := by kernel_rfl
theorem sizeL : (Try.prog.info? 38).map (·.size) = some 3 := by
  obtain ⟨i, h1, _, h3, _⟩ := info_get infoL
  rw [h1]; exact congrArg some h3
theorem make_links (n : Nat) (hn : n ≤ 1000000) : ∃ Z : Array Value, Z.size = n * 3 ∧ ∀ w, (Instr.makeSlice 22 (.int .i64 (n : Int)) (.int .i64 (n : Int))).run Try.prog w = .ok (.slice (some ⟨w.heap.size, 0, none⟩) n n) (w.alloc (.cells Z 38)) := by
  obtain ⟨i, h1, h2, h3, h4⟩ := info_get infoL
  refine ⟨madeCells (Value.agg #[.int .i64 0, .int .i64 0, .int .i64 0]).cells (n * i.size), by rw [size_madeCells, h3], fun w => ?_⟩
  have := run_make (P := Try.prog) w 22 38 i _ Try.underlying22 h1 h2 .i64 .i64 (n : Int) (n : Int) (by omega) (Int.le_refl _) (by rw [h4]; omega) (by omega)
  simpa only [Int.toNat_natCast] using this

section
variable {α : Type} {F : Flat α}
theorem flat_block {w : World} {g : Nat} {T : TypeId} {l : List α} (h : w.heap[g]? = some (.cells (l.flatMap F.enc).toArray T (0, 0))) (hok : ∀ a ∈ l, F.ok a) : FlAt F w w.heap.size (some ⟨g, 0, none⟩) l := fun i hi => by
  refine ⟨g, 0, rfl, blk_lt h, fun j u hu => ?_, hok _ (List.getElem_mem _)⟩
  have hj : j < F.sz := by rw [← F.len l[i]]; exact (List.getElem?_eq_some_iff.1 hu).1
  rw [Nat.zero_add]
  refine blk_cell h _ ?_
  rw [List.getElem?_toArray, flat_get l i hi j hj]
  exact hu
/-- A part of a slice, cell by cell. -/
theorem flat_seg {w : World} {B a n : Nat} {A : Option Addr} {l : List α} (h : FlAt F w B A l) (h0 : 0 < (((l.drop a).take n).flatMap F.enc).length) : ∃ ad, Option.map (fun x => x.add (a * F.sz)) A = some ad ∧ ∀ (q : Nat) (v : Value), (((l.drop a).take n).flatMap F.enc)[q]? = some v → w.cell? (ad.add q) = some v := by
  have hp := F.pos
  cases l with
  | nil => simp at h0
  | cons y r =>
    obtain ⟨b, p, rfl, _⟩ := h 0 (by simp)
    refine ⟨⟨b, p + a * F.sz, none⟩, by simp [add_off], fun q v hv => ?_⟩
    have hq := (List.getElem?_eq_some_iff.1 hv).1
    rw [flat_len, List.length_take, List.length_drop] at hq
    have hi : q / F.sz < min n ((y :: r).length - a) := Nat.div_lt_of_lt_mul (by rw [Nat.mul_comm]; exact hq)
    have hm : q % F.sz < F.sz := Nat.mod_lt _ hp
    have e : q / F.sz * F.sz + q % F.sz = q := by rw [Nat.mul_comm]; exact Nat.div_add_mod q F.sz
    have hk : a + q / F.sz < (y :: r).length := by
      have h5 : q / F.sz < (y :: r).length - a := Nat.lt_of_lt_of_le hi (Nat.min_le_right _ _)
      exact Nat.add_lt_of_lt_sub' h5
    have h1 := flat_get (F := F) (((y :: r).drop a).take n) (q / F.sz) (by rw [List.length_take, List.length_drop]; exact hi) (q % F.sz) hm
    rw [e, hv, List.getElem_take, List.getElem_drop] at h1
    obtain ⟨b', p', e1, _, h3, _⟩ := h (a + q / F.sz) hk
    simp only [Option.some.injEq, Addr.mk.injEq, and_true] at e1
    obtain ⟨rfl, rfl⟩ := e1
    have := h3 (q % F.sz) v h1.symm
    rw [add_off]
    rw [← this]
    congr 2
    rw [Nat.add_mul]
    omega
end

set_option maxRecDepth 100000 in
set_option maxHeartbeats 2000000 in
theorem replaced_any (A A2 : Option Addr) (c c2 i j : Nat) (l es : List Lk) (w : World) (hij : i ≤ j) (hj : j ≤ l.length) (hl : l.length ≤ 1000) (he : es.length ≤ 1000) (hc : l.length ≤ c) (hA : LkAt w w.heap.size A l) (hE : LkAt w w.heap.size A2 es) :
    Calls Try.prog 30 #[.slice A l.length c, .int .i64 i, .int .i64 j, .slice A2 es.length c2] w (OutF fL w (l.take i ++ es ++ l.drop j)) := by
  obtain ⟨N, hN⟩ : ∃ N, N = i + es.length + (l.length - j) := ⟨_, rfl⟩
  have eN : (i : Int) + (es.length : Int) + ((l.length - j : Nat) : Int) = (N : Int) := by omega
  obtain ⟨Z, hZ, hmk⟩ := make_links N (by omega)
  obtain ⟨Zl, rfl⟩ : ∃ Zl : List Value, Z = Zl.toArray := ⟨Z.toList, by simp⟩
  have hZ : Zl.length = N * 3 := by simpa using hZ
  obtain ⟨X1, hX1⟩ : ∃ X, X = ((l.drop 0).take i).flatMap fL.enc := ⟨_, rfl⟩
  obtain ⟨X2, hX2⟩ : ∃ X, X = ((es.drop 0).take es.length).flatMap fL.enc := ⟨_, rfl⟩
  obtain ⟨X3, hX3⟩ : ∃ X, X = ((l.drop j).take l.length).flatMap fL.enc := ⟨_, rfl⟩
  have n1 : X1.length = i * 3 := by rw [hX1, flat_len, List.drop_zero, List.length_take]; show min i l.length * 3 = _; rw [Nat.min_eq_left (by omega)]
  have n2 : X2.length = es.length * 3 := by rw [hX2, flat_len, List.drop_zero, List.length_take]; show min es.length es.length * 3 = _; rw [Nat.min_self]
  have n3 : X3.length = (l.length - j) * 3 := by rw [hX3, flat_len, List.length_take, List.length_drop]; show min l.length (l.length - j) * 3 = _; rw [Nat.min_eq_right (by omega)]
  have S1 : Hid (∀ w', Below w.heap.size w w' → 0 < X1.length → ∃ ad, A = some ad ∧ ∀ (q : Nat) (v : Value), X1[q]? = some v → w'.cell? (ad.add q) = some v) := Lib.hid fun w' hb h0 => by
    subst hX1
    obtain ⟨ad, e, h⟩ := flat_seg (hA.below hb) h0
    refine ⟨ad, ?_, h⟩
    cases A with
    | none => cases e
    | some a => simp only [Nat.zero_mul, Option.map_some] at e; rw [add_none] at e; exact e
  have S2 : Hid (∀ w', Below w.heap.size w w' → 0 < X2.length → ∃ ad, A2 = some ad ∧ ∀ (q : Nat) (v : Value), X2[q]? = some v → w'.cell? (ad.add q) = some v) := Lib.hid fun w' hb h0 => by
    subst hX2
    obtain ⟨ad, e, h⟩ := flat_seg (hE.below hb) h0
    refine ⟨ad, ?_, h⟩
    cases A2 with
    | none => cases e
    | some a => simp only [Nat.zero_mul, Option.map_some] at e; rw [add_none] at e; exact e
  have S3 : Hid (∀ w', Below w.heap.size w w' → 0 < X3.length → ∃ ad, Option.map (fun x => x.add (j * 3)) A = some ad ∧ ∀ (q : Nat) (v : Value), X3[q]? = some v → w'.cell? (ad.add q) = some v) := Lib.hid fun w' hb h0 => by
    subst hX3
    exact flat_seg (hA.below hb) h0
  have O1 : Hid (∀ v ∈ X1, v.oneCell' = true) := Lib.hid (by rw [hX1]; exact flat_one _)
  have O2 : Hid (∀ v ∈ X2, v.oneCell' = true) := Lib.hid (by rw [hX2]; exact flat_one _)
  have O3 : Hid (∀ v ∈ X3, v.oneCell' = true) := Lib.hid (by rw [hX3]; exact flat_one _)
  have FIN : Hid (∀ w', w'.heap[w.heap.size]? = some (.cells (splice (splice (splice Zl 0 X1) (i * 3) X2) (i * 3 + es.length * 3) X3).toArray 38 (0, 0)) → Below w.heap.size w w' → OutF fL w (l.take i ++ es ++ l.drop j) (.returned (.slice (some ⟨w.heap.size, 0, none⟩) N N)) w') := Lib.hid fun w' h hb => by
    rw [splice_splice_splice Zl X1 X2 X3 (i * 3) (es.length * 3) n1 n2 (by rw [hZ, n3, hN, Nat.add_mul, Nat.add_mul])] at h
    have e : X1 ++ (X2 ++ X3) = (l.take i ++ es ++ l.drop j).flatMap fL.enc := by
      rw [hX1, hX2, hX3, List.flatMap_append, List.flatMap_append, List.drop_zero, List.drop_zero, List.take_length, List.take_of_length_le (i := l.length) (by rw [List.length_drop]; omega), List.append_assoc]
    rw [e] at h
    have hlen : (l.take i ++ es ++ l.drop j).length = N := by rw [List.length_append, List.length_append, List.length_take, List.length_drop]; omega
    refine ⟨_, N, by rw [hlen], flat_block h fun a ha => ?_, by omega, (fun e => by cases e), hb⟩
    rcases List.mem_append.1 ha with ha | ha
    · rcases List.mem_append.1 ha with ha | ha
      · exact hA.ok a (List.mem_of_mem_take ha)
      · exact hE.ok a ha
    · exact hA.ok a (List.mem_of_mem_drop ha)
  have HN := Lib.hid hN
  have N1 := Lib.hid n1
  have N2 := Lib.hid n2
  have N3 := Lib.hid n3
  have NZ := Lib.hid hZ
  have G1 := Lib.hid (show (splice Zl 0 X1).length = N * 3 by rw [length_splice _ _ _ (by rw [n1, hZ]; omega)]; exact hZ)
  have G2 := Lib.hid (show (splice (splice Zl 0 X1) (i * 3) X2).length = N * 3 by rw [length_splice _ _ _ (by rw [G1.out, n2]; omega)]; exact G1.out)
  have k1 : i ≤ N := by omega
  have k2 : i + es.length ≤ N := by omega
  clear hA hE hN hZ hX1 hX2 hX3 n1 n2 n3
  go_enter Try.func30, Try.ntmps30
  go_upto_region 1 with fail
  go_cut [9] from 10 (fun v wx => v = .slice (some ⟨w.heap.size, 0, none⟩) N N ∧ wx = w.alloc (.cells Zl.toArray 38))
  case first => as_aux_lemma =>
    by_cases hcj : c = j
    · go_wp2_with fail
      go_meet
      exact ⟨rfl, rfl⟩
    · go_wp2_with fail
      go_meet
      exact ⟨rfl, rfl⟩
  case rest => as_aux_lemma =>
    obtain ⟨rfl, rfl⟩ := hcut
    clear hmk eN
    go_upto_region 2 with fail
    go_cut [] from 10 (fun wx => Hid (wx.heap[w.heap.size]? = some (.cells (splice Zl 0 X1).toArray 38 (0, 0))) ∧ Below w.heap.size w wx)
    case first => as_aux_lemma =>
      have HM := Lib.hid (show X1.length = Nat.min i N * 3 by rw [N1.out]; congr 1; exact (Nat.min_eq_left k1).symm)
      obtain ⟨w2, hcp, HG2, HB2⟩ := copy_eq (P := Try.prog) 22 22 3 38 3 Try.underlying22 sizeL (by decide) (some ⟨w.heap.size, 0, none⟩) A N N i c w.heap.size 0 Zl 38 (blk_new w (.cells Zl.toArray 38)) X1 HM.out (fun h0 => ⟨rfl, S1.out _ (alloc_below _ _) h0⟩) (by rw [N1.out, NZ.out]; omega) O1.out w.heap.size w (alloc_below _ _) (Nat.le_refl _)
      have HBH := Lib.hid HB2
      clear HB2
      go_wp2_with fail
      go_meet
      exact ⟨HG2, HBH.out⟩
    case rest => as_aux_lemma =>
      obtain ⟨HG, HBx⟩ := hcut
      have HB := Lib.hid HBx
      clear HBx
      go_upto_region 3 with fail
      go_cut [] from 10 (fun wx => Hid (wx.heap[w.heap.size]? = some (.cells (splice (splice Zl 0 X1) (i * 3) X2).toArray 38 (0, 0))) ∧ Below w.heap.size w wx)
      case first => as_aux_lemma =>
        by_cases hNi : N = i
        · have hz : es.length = 0 := by omega
          have HZ := Lib.hid (show ¬ 0 < X2.length by rw [N2.out, hz]; omega)
          have HM := Lib.hid (show X2.length = Nat.min es.length 0 * 3 by rw [N2.out, hz]; rfl)
          clear hz
          obtain ⟨w2, hcp, HG2, HB2⟩ := copy_eq (P := Try.prog) 22 22 3 38 3 Try.underlying22 sizeL (by decide) (some ⟨w.heap.size, 0, none⟩) A2 0 0 es.length c2 w.heap.size (i * 3) (splice Zl 0 X1) 38 HG.out X2 HM.out (fun h0 => absurd h0 HZ.out) (by rw [G1.out, N2.out]; omega) O2.out w.heap.size w HB.out (Nat.le_refl _)
          have HBH := Lib.hid HB2
          clear HB2
          go_wp2_with fail
          go_meet
          exact ⟨HG2, HBH.out⟩
        · have HM := Lib.hid (show X2.length = Nat.min es.length (N - i) * 3 by rw [N2.out]; congr 1; exact (Nat.min_eq_left (by omega)).symm)
          obtain ⟨w2, hcp, HG2, HB2⟩ := copy_eq (P := Try.prog) 22 22 3 38 3 Try.underlying22 sizeL (by decide) (some ⟨w.heap.size, i * 3, none⟩) A2 (N - i) (N - i) es.length c2 w.heap.size (i * 3) (splice Zl 0 X1) 38 HG.out X2 HM.out (fun h0 => ⟨rfl, S2.out _ HB.out h0⟩) (by rw [G1.out, N2.out]; omega) O2.out w.heap.size w HB.out (Nat.le_refl _)
          have HBH := Lib.hid HB2
          clear HB2
          go_wp2_with fail
          go_meet
          exact ⟨HG2, HBH.out⟩
      case rest => as_aux_lemma =>
        obtain ⟨HG4, HB4x⟩ := hcut
        have HB4 := Lib.hid HB4x
        clear HB4x HG HB
        go_upto_region 4 with fail
        go_cut [] from 10 (fun wx => OutF fL w (l.take i ++ es ++ l.drop j) (.returned (.slice (some ⟨w.heap.size, 0, none⟩) N N)) wx)
        case first => as_aux_lemma =>
          have e1 : ((i : Int) + (es.length : Int)).toNat = i + es.length := by omega
          have p1 : (0 : Int) ≤ (i : Int) + (es.length : Int) := by omega
          have b1 : (i : Int) + (es.length : Int) ≤ (N : Int) := by omega
          have r1 : IntKind.i64.wrap ((i : Int) + (es.length : Int)) = (i : Int) + (es.length : Int) := by rw [IntKind.wrap_i64]; omega
          have hgd : Hid (wc.drew.heap[w.heap.size]? = some (.cells (splice (splice Zl 0 X1) (i * 3) X2).toArray 38 (0, 0))) := HG4
          have hbd : Hid (Below w.heap.size w wc.drew) := Lib.hid HB4.out.drew
          by_cases hlj : l.length ≤ j
          · have hNe : N = i + es.length := by have := HN.out; omega
            have HM := Lib.hid (show X3.length = Nat.min 0 0 * 3 by rw [N3.out, show l.length - j = 0 by omega]; rfl)
            have HZ := Lib.hid (show ¬ 0 < X3.length by rw [N3.out]; omega)
            have HFT := Lib.hid (show i * 3 + es.length * 3 + X3.length ≤ (splice (splice Zl 0 X1) (i * 3) X2).length by rw [G2.out, N3.out]; have := HN.out; omega)
            by_cases hcj : c = j
            · obtain ⟨w2, hcp, HG2, HB2⟩ := copy_eq (P := Try.prog) 22 22 3 38 3 Try.underlying22 sizeL (by decide) (some ⟨w.heap.size, 0, none⟩) A 0 0 0 0 w.heap.size (i * 3 + es.length * 3) (splice (splice Zl 0 X1) (i * 3) X2) 38 hgd.out X3 HM.out (fun h0 => absurd h0 HZ.out) HFT.out O3.out w.heap.size w hbd.out (Nat.le_refl _)
              have HF := Lib.hid (FIN.out w2 HG2.out HB2)
              clear HB2
              go_wp2_with fail
              have mixed := mixedB
              go_big_region_o
              go_wp2_with fail
              go_meet
              exact HF.out
            · obtain ⟨w2, hcp, HG2, HB2⟩ := copy_eq (P := Try.prog) 22 22 3 38 3 Try.underlying22 sizeL (by decide) (some ⟨w.heap.size, 0, none⟩) (Option.map (fun x => x.add (j * 3)) A) 0 0 0 (c - j) w.heap.size (i * 3 + es.length * 3) (splice (splice Zl 0 X1) (i * 3) X2) 38 hgd.out X3 HM.out (fun h0 => absurd h0 HZ.out) HFT.out O3.out w.heap.size w hbd.out (Nat.le_refl _)
              have HF := Lib.hid (FIN.out w2 HG2.out HB2)
              clear HB2
              go_wp2_with fail
              have mixed := mixedB
              go_big_region_o
              go_wp2_with fail
              go_meet
              exact HF.out
          · have hcj : ¬ c = j := by omega
            have hNe : ¬ N = i + es.length := by have := HN.out; omega
            have HM := Lib.hid (show X3.length = Nat.min (l.length - j) (N - (i + es.length)) * 3 by rw [N3.out]; congr 1; have := HN.out; exact (Nat.min_eq_left (by omega)).symm)
            obtain ⟨w2, hcp, HG2, HB2⟩ := copy_eq (P := Try.prog) 22 22 3 38 3 Try.underlying22 sizeL (by decide) (some ⟨w.heap.size, (i + es.length) * 3, none⟩) (Option.map (fun x => x.add (j * 3)) A) (N - (i + es.length)) (N - (i + es.length)) (l.length - j) (c - j) w.heap.size (i * 3 + es.length * 3) (splice (splice Zl 0 X1) (i * 3) X2) 38 hgd.out X3 HM.out (fun h0 => ⟨by rw [Nat.add_mul], S3.out _ hbd.out h0⟩) (by rw [G2.out, N3.out]; have := HN.out; omega) O3.out w.heap.size w hbd.out (Nat.le_refl _)
            have HF := Lib.hid (FIN.out w2 HG2.out HB2)
            clear HB2
            go_wp2_with fail
            have mixed := mixedB
            go_big_region_o
            go_wp2_with fail
            go_meet
            exact HF.out
        case rest => as_aux_lemma =>
          have HX := Lib.hid hcut
          clear hcut
          go_wp2_with fail
          go_ret
          exact HX.out
end Go.Proofs.Ythfkmmgckiijcaa.Lnk
