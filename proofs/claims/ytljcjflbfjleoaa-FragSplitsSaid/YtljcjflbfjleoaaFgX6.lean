/- Package frag: inOrder. -/
import Derived.Test.YtljcjflbfjleoaaFgX5
import Derived.Test.YtljcjflbfjleoaaMv
import Derived.DeepKeys4
set_option linter.unusedVariables false
namespace Go.Proofs.Ytljcjflbfjleoaa.Frg
open Go.RowKit

/-! The names found. -/
theorem laidN : laidOutB Try.prog = true := by kernel_rfl
theorem rowN : (58 : TypeId) < Try.prog.types.size := of_decide_eq_true (by kernel_rfl)
theorem wideN : (match Try.prog.underlying 58 with | some (.array _ _) | some (.struct _) => true | _ => false) = true := by rw [Try.underlying58]
theorem lawN : Go.Maps.Keyed Try.prog 58 := Go.Maps.Keyed.of_law (deep_law_laid laidN (m := 2) (by omega) rowN (by kernel_rfl) wideN)
theorem cellsN : Try.prog.cellsOf 58 = 2 := by kernel_rfl
theorem cellsNI : Try.prog.cellsOf 3 = 1 := by kernel_rfl
theorem keyTN : Try.prog.keyType 58 = true := by kernel_rfl
theorem keyOf_name {a b : Int} (ha : I64 a) (hb : I64 b) : ∃ l, keyOf Try.prog 58 (.agg #[.int .i64 a, .int .i64 b]) = some l := by
  have h1 : ∀ d, Try.prog.keyLits (d + 1) 3 [.int .i64 a] = some [.int .i64 a] := fun d => by simp [Program.keyLits, Try.underlying3, i64_wf ha]
  have h2 : ∀ d, Try.prog.keyLits (d + 1) 3 [.int .i64 b] = some [.int .i64 b] := fun d => by simp [Program.keyLits, Try.underlying3, i64_wf hb]
  have h3 : ∀ d, Try.prog.keyLits (d + 2) 58 [.int .i64 a, .int .i64 b] = some [.int .i64 a, .int .i64 b] := fun d => by
    unfold Program.keyLits
    simp [Try.underlying58, cellsN, cellsNI, h1, h2]
  obtain ⟨d, hd⟩ : ∃ d, Try.prog.types.size + 1 = d + 2 := ⟨Try.prog.types.size - 1, by have h : (58 : Nat) < Try.prog.types.size := rowN; omega⟩
  refine ⟨.string (keyBytes [.int .i64 a, .int .i64 b]), ?_⟩
  have hf : (Value.agg #[.int .i64 a, .int .i64 b]).formed Try.prog 58 = true := by simp [Value.formed, Try.underlying58, cellsN]
  have hc : (Value.agg #[.int .i64 a, .int .i64 b]).cells.toList = [.int .i64 a, .int .i64 b] := rfl
  unfold keyOf
  simp only [Try.underlying58, keyTN, hf, hc, hd, h3]
  rfl
def MN : MvTy (Int × Int) := ⟨69, 58, 4, fun x => .agg #[.int .i64 x.1, .int .i64 x.2], fun x => I64 x.1 ∧ I64 x.2, .bool false⟩
theorem mn_of : MN.Of Try.prog := ⟨Try.underlying69, lawN, fun x hx => keyOf_name hx.1 hx.2, fun x y h => by
  obtain ⟨a, b⟩ := x
  obtain ⟨c, d⟩ := y
  simp [MN] at h
  rw [h.1, h.2], fun w => by kernel_rfl⟩
abbrev NmAt (w : World) (b n : Nat) (f : Int × Int → Option Value) : Prop := MvAt MN Try.prog w b n f
theorem nm_get {w : World} {b n : Nat} {f : Int × Int → Option Value} (h : NmAt w b n f) (x y : Int) (hx : I64 x ∧ I64 y) : (Instr.lookup 69 (.map (some b)) (.agg #[.int .i64 x, .int .i64 y]) false).run Try.prog w = .ok ((f (x, y)).getD (.bool false)) w := h.get mn_of (x, y) hx
theorem nm_put {w : World} {b n : Nat} {f : Int × Int → Option Value} (h : NmAt w b n f) (x y : Int) (hx : I64 x ∧ I64 y) (hn : n ≤ 1000000000) :
    ∃ w', (Instr.mapUpdate 69 (.map (some b)) (.agg #[.int .i64 x, .int .i64 y]) (.bool true)).run Try.prog w = .ok () w' ∧ NmAt w' b (n + 1) (fun z => if z = (x, y) then some (.bool true) else f z) ∧ w.grownBy w' (some b) := h.put mn_of (x, y) (.bool true) hx (by unfold maxLen; omega)
/-- What has been found. -/
def fnd (a : List Pt) (z : Int × Int) : Option Value := if has a z.1 z.2 = true then some (.bool true) else none
theorem fnd_nil (z : Int × Int) : (fun _ => none : Int × Int → Option Value) z = fnd [] z := by unfold fnd has; simp
theorem fnd_push (a : List Pt) (x : Pt) (z : Int × Int) : (if z = (x.s, x.i) then some (.bool true) else fnd a z) = fnd (a ++ [x]) z := by
  obtain ⟨p, q⟩ := z
  unfold fnd has
  rw [List.any_append, List.any_cons, List.any_nil, Bool.or_false]
  by_cases h : (p, q) = (x.s, x.i)
  · have e : key p q x = true := key_iff.2 (by simp only [Prod.mk.injEq] at h; exact ⟨h.1.symm, h.2.symm⟩)
    rw [if_pos h, e, Bool.or_true, if_pos rfl]
  · have e : key p q x = false := by
      cases e : key p q x with
      | false => rfl
      | true => have := key_iff.1 e; exact absurd (by rw [this.1, this.2]) h
    rw [if_neg h, e, Bool.or_false]

/-- A row, or none. -/
def RowV (w : World) (B : Nat) (A : Option Addr) (c : Nat) (l : List Hp) : Prop := (A = none ∧ c = 0 ∧ l = []) ∨ OwnT fP 44 w B (.slice A l.length c) l
theorem OwnF.rowV {w : World} {B : Nat} {A : Option Addr} {c : Nat} {l : List Hp} (h : OwnF fP 44 w B (.slice A l.length c) l) : RowV w B A c l := by
  rcases h.1.2 with ⟨e, h0⟩ | ⟨g, cap, cur, e, hB, hg, hn, hm, hs, ht⟩
  · simp only [Value.slice.injEq] at e
    exact Or.inl ⟨e.1, e.2.2, List.eq_nil_of_length_eq_zero h0⟩
  · refine Or.inr ⟨g, 0, cap, cur, e, hB, hg, hn, by rw [hs]; omega, fun j u hu => ?_, h.2⟩
    have hj : j < l.length * fP.sz := by rw [← flat_len (F := fP)]; exact (List.getElem?_eq_some_iff.1 hu).1
    have e : (cur.toList.take (l.length * fP.sz))[j]? = some u := by rw [ht]; exact hu
    rw [List.getElem?_take_of_lt hj] at e
    rw [Nat.zero_add, ← Array.getElem?_toList]
    exact e
theorem RowV.cut {w : World} {B : Nat} {A : Option Addr} {c : Nat} {l : List Hp} (h : RowV w B A c l) (k : Nat) (hk : k ≤ l.length) :
    ∃ A' c', (∀ W : World, (Instr.sliceAt 31 (.slice A l.length c) (some (.int .i64 (k : Int))) none none).run Try.prog W = .ok (.slice A' (l.drop k).length c') W) ∧ RowV w B A' c' (l.drop k) := by
  rcases h with ⟨rfl, rfl, rfl⟩ | h
  · obtain rfl : k = 0 := by simpa using hk
    refine ⟨none, 0, fun W => ?_, Or.inl ⟨rfl, rfl, rfl⟩⟩
    show (Instr.sliceAt 31 (.slice none 0 0) (some (.int .i64 ((0 : Nat) : Int))) none none).run Try.prog W = .ok (.slice none 0 0) W
    rw [run_sliceAt_slice W _ _ _ _ _ utP, run_slice_l W _ none 0 0 utP .i64 ((0 : Nat) : Int) (by omega) (by omega), szP]
    unfold sliced
    simp
  · obtain ⟨v', h1, h2⟩ := h.cut utP szP k hk
    obtain ⟨g, off, cap, cur, rfl, h3⟩ := h2
    exact ⟨_, _, h1, Or.inr ⟨g, off, cap, cur, rfl, h3⟩⟩
theorem one_h (y : Hp) : (#[.int .i64 y.x.s, .int .i64 y.x.i, .int .i64 y.x.c, .int .i64 y.x.t, .slice y.hA y.x.h.length y.hc, .slice y.dA y.x.d.length y.dc] : Array Value).all (·.oneCell') = true := all_oneCell_toArray (fun v hv => fP.one y v hv)

/-- Entries of the call's own are handed back. -/
def OrdV (w : World) (x : List Pt) (e : Ending) (w' : World) : Prop := ∃ A c ys, e = .returned (.slice A (List.length ys) c) ∧ OwnV w' w.heap.size A c ys ∧ xs ys = x ∧ Below w.heap.size w w'
theorem oU_mem (l : List Hp) (k : Nat) : ∀ x ∈ oU l k, Valid x := by
  obtain ⟨a, _, _⟩ := ords_inv (xs (l.take k)) [] (fun x hx => by cases hx) List.Pairwise.nil
  exact a
set_option maxRecDepth 100000 in
set_option maxHeartbeats 1000000 in
theorem porder_any (A : Option Addr) (c : Nat) (l : List Hp) (w : World) (hl : l.length ≤ 1000) (hm : ∀ y ∈ l, y.x.h.length ≤ 9223372036854775807 ∧ y.x.d.length ≤ 9223372036854775807) (hA : PsS w A c l) :
    Calls Try.prog 29 #[.slice A l.length c] w (OrdV w (ord (xs l))) := by
  have HA := Lib.hid hA
  have HM := Lib.hid hm
  have GN := Lib.hid (fun (k : Nat) (h : k < l.length) => oU_next l k h)
  have GL := Lib.hid (fun (k : Nat) (h : k ≤ l.length) => oU_len l k h)
  have GV := Lib.hid (oU_mem l)
  have GE := Lib.hid (show last8 (oU l l.length) = ord (xs l) by unfold oU; rw [List.take_length]; rfl)
  have G0 := Lib.hid (show oU l 0 = [] from rfl)
  clear hA hm
  generalize ord (xs l) = F at *
  generalize oU l = G at *
  have hmm := @run_makeMap Try.prog
  have M0 := Lib.hid (MvAt.made (M := MN) (P := Try.prog) w)
  have b0 := Lib.hid (alloc_below w (.map #[] 0))
  have hz0 : (w.alloc (.map #[] 0)).heap.size = w.heap.size + 1 := by simp
  go_enter Try.func29, Try.ntmps29
  go_wp2_with fail
  clear hmm
  obtain ⟨W, hW⟩ : ∃ W, w.alloc (.map #[] 0) = W := ⟨_, rfl⟩
  rw [hW] at M0 b0 hz0 ⊢
  have hz1 : W.heap.size ≤ w.heap.size + 1 := by omega
  have hz2 : w.heap.size + 1 ≤ W.heap.size := by omega
  clear hW hz0
  go_loopw [3, 12] (fun vo vk wr => ∃ (k : Nat) (A1 : Option Addr) (c1 : Nat) (ys : List Hp), vk = .int .i64 k ∧ k ≤ l.length ∧ vo = .slice A1 ys.length c1 ∧ Hid (OwnF fP 44 wr W.heap.size (.slice A1 ys.length c1) ys) ∧ Hid (∀ y ∈ ys, y ∈ l) ∧ Hid (xs ys = G k) ∧ Hid (NmAt wr w.heap.size k (fnd (G k))) ∧ Below w.heap.size w wr ∧ W.heap.size ≤ wr.heap.size) (fun _ vk _ => l.length - (intOf vk).toNat)
  case atStart => exact ⟨0, none, 0, [], rfl, Nat.zero_le _, rfl, Lib.hid (OwnF.nil _ _), Lib.hid (fun y hy => by cases hy), Lib.hid (by rw [G0.out]; rfl), Lib.hid (by rw [G0.out]; exact M0.out.same fnd_nil), b0.out, Nat.le_refl _⟩
  case round =>
    obtain ⟨k, A1, c1, ys, rfl, hk, rfl, O, MY, Q, MP, hb, hsz⟩ := hrel
    have B := Lib.hid hb
    have yl : ys.length ≤ k := by have := GL.out k hk; have q := congrArg List.length Q.out; simp at q; omega
    clear M0 b0 G0
    by_cases hlt : k < l.length
    · obtain ⟨b, p, rfl, hbl, hc, hok, hn⟩ := ps_cell (HA.out.next hb) k hlt
      have HMk := HM.out _ (List.getElem_mem hlt)
      have MX := Lib.hid (List.getElem_mem hlt)
      have GK := Lib.hid (GN.out k hlt)
      have NX := Lib.hid hn
      clear hb hn GN GL GE HA HM GV
      have q0 : (k : Int) < (l.length : Int) := by omega
      have q1 : (0 : Int) ≤ (k : Int) := by omega
      obtain ⟨x, hx⟩ : ∃ x, l[k] = x := ⟨_, rfl⟩
      rw [hx] at hc GK hok NX MX
      simp only [hx] at HMk
      clear hx
      have IX := Lib.hid (show I64 x.x.s ∧ I64 x.x.i from ⟨hok.1, hok.2.1⟩)
      have OKx := Lib.hid hok
      have a1 := alloc_below wr (bxP x)
      have X1 := Lib.hid (blk_new wr (bxP x))
      have L1 := Lib.hid (show wr.heap.size < (wr.alloc (bxP x)).heap.size by simp)
      have O1 := Lib.hid (O.out.below a1)
      have M1 := Lib.hid (MP.out.below a1)
      have B1 := Lib.hid (B.out.trans (a1.mono B.out.size))
      have S1 := Lib.hid (Nat.le_trans hsz a1.size)
      have KV := Lib.hid (pvalid_any x (wr.alloc (bxP x)) HMk (NX.out.next a1))
      have KN := Lib.hid (fun w => pname_any x w)
      unfold OutB at KV
      clear a1 O MP B HMk NX hok
      have hmb : w.heap.size < W.heap.size := by omega
      obtain ⟨⟨s, i, c2, t, h, d⟩, a1, a2, a3, a4⟩ := x
      obtain ⟨g0, g1, g2, g3, g4, g5⟩ := hc
      simp only at g0 g1 g2 g3 g4 g5 GK KV KN IX
      by_cases hv : Valid ⟨s, i, c2, t, h, d⟩
      rotate_left
      · have GK := Lib.hid (GK.out.trans (show ord1 (G k) ⟨s, i, c2, t, h, d⟩ = G k from if_neg fun q => hv q.1))
        rw [decide_eq_false hv] at KV
        clear hv
        go_wp2_with fail
        refine KV.out.mono ?_
        rintro _ w2 ⟨rfl, hb⟩
        have O2 := Lib.hid (O1.out.below hb)
        have M2 := Lib.hid (M1.out.below hb)
        have B2 := Lib.hid (B1.out.trans (hb.mono B1.out.size))
        have S2 := Lib.hid (Nat.le_trans S1.out hb.size)
        clear hb KV KN X1 L1 O1 M1 B1 S1 g0 g1 g2 g3 g4 g5
        go_wp2_with fail
        go_roundw
        case rel => exact ⟨k + 1, A1, c1, ys, by go_num, hlt, rfl, O2, MY, Lib.hid (by rw [GK.out]; exact Q.out), Lib.hid (by rw [GK.out]; exact M2.out.mono (Nat.le_succ _)), B2.out, S2.out⟩
        case measure => simp [intOf]; omega
      rw [decide_eq_true hv] at KV
      by_cases hh : has (G k) s i = true
      · have GK := Lib.hid (GK.out.trans (show ord1 (G k) ⟨s, i, c2, t, h, d⟩ = G k from if_neg fun q => by have := q.2; rw [hh] at this; cases this))
        have FN := Lib.hid (show fnd (G k) (s, i) = some (.bool true) from if_pos hh)
        clear hv hh
        go_wp2_with fail
        refine KV.out.mono ?_
        rintro _ w2 ⟨rfl, hb⟩
        have O2 := Lib.hid (O1.out.below hb)
        have M2 := Lib.hid (M1.out.below hb)
        have B2 := Lib.hid (B1.out.trans (hb.mono B1.out.size))
        have S2 := Lib.hid (Nat.le_trans S1.out hb.size)
        have X2 := Lib.hid (blk_below X1.out hb L1.out)
        have L2 := Lib.hid (Nat.lt_of_lt_of_le L1.out hb.size)
        clear hb KV X1 L1 O1 M1 B1 S1 g0 g1 g2 g3 g4 g5
        obtain ⟨f0, f1, f2, f3, f4, f5⟩ := hp_block X2.out
        simp only [Nat.zero_add] at f0 f1 f2 f3 f4 f5
        go_wp2_with fail
        refine (KN.out w2).mono ?_
        rintro _ w3 ⟨rfl, q, os, hw3⟩
        have hb : Below w2.heap.size w2 w3 := by rw [hw3]; exact grown_below _ _ _
        have O3 := Lib.hid (O2.out.below hb)
        have M3 := Lib.hid (M2.out.below hb)
        have B3 := Lib.hid (B2.out.trans (hb.mono B2.out.size))
        have S3 := Lib.hid (Nat.le_trans S2.out hb.size)
        have hget := nm_get M3.out s i IX.out
        rw [FN.out] at hget
        simp only [Option.getD] at hget
        clear hb hw3 O2 M2 B2 S2 X2 L2 f0 f1 f2 f3 f4 f5 KN FN
        go_wp2_with fail
        go_roundw
        case rel => exact ⟨k + 1, A1, c1, ys, by go_num, hlt, rfl, O3, MY, Lib.hid (by rw [GK.out]; exact Q.out), Lib.hid (by rw [GK.out]; exact M3.out.mono (Nat.le_succ _)), B3.out, S3.out⟩
        case measure => simp [intOf]; omega
      · have GK := Lib.hid (GK.out.trans (show ord1 (G k) ⟨s, i, c2, t, h, d⟩ = G k ++ [⟨s, i, c2, t, h, d⟩] from if_pos ⟨hv, by simpa using hh⟩))
        have FN := Lib.hid (show fnd (G k) (s, i) = none from if_neg hh)
        clear hv hh
        go_wp2_with fail
        refine KV.out.mono ?_
        rintro _ w2 ⟨rfl, hb⟩
        have O2 := Lib.hid (O1.out.below hb)
        have M2 := Lib.hid (M1.out.below hb)
        have B2 := Lib.hid (B1.out.trans (hb.mono B1.out.size))
        have S2 := Lib.hid (Nat.le_trans S1.out hb.size)
        have X2 := Lib.hid (blk_below X1.out hb L1.out)
        have L2 := Lib.hid (Nat.lt_of_lt_of_le L1.out hb.size)
        clear hb KV X1 L1 O1 M1 B1 S1 g0 g1 g2 g3 g4 g5
        obtain ⟨f0, f1, f2, f3, f4, f5⟩ := hp_block X2.out
        simp only [Nat.zero_add] at f0 f1 f2 f3 f4 f5
        go_wp2_with fail
        refine (KN.out w2).mono ?_
        rintro _ w3 ⟨rfl, q, os, hw3⟩
        have hb : Below w2.heap.size w2 w3 := by rw [hw3]; exact grown_below _ _ _
        have O3 := Lib.hid (O2.out.below hb)
        have M3 := Lib.hid (M2.out.below hb)
        have B3 := Lib.hid (B2.out.trans (hb.mono B2.out.size))
        have S3 := Lib.hid (Nat.le_trans S2.out hb.size)
        have X3 := Lib.hid (blk_below X2.out hb L2.out)
        have L3 := Lib.hid (Nat.lt_of_lt_of_le L2.out hb.size)
        have hget := nm_get M3.out s i IX.out
        rw [FN.out] at hget
        simp only [Option.getD] at hget
        clear hb hw3 O2 M2 B2 S2 X2 L2 f0 f1 f2 f3 f4 f5 FN
        obtain ⟨f0, f1, f2, f3, f4, f5⟩ := hp_block X3.out
        simp only [Nat.zero_add] at f0 f1 f2 f3 f4 f5
        go_wp2_with fail
        refine (KN.out w3).mono ?_
        rintro _ w4 ⟨rfl, q, os, hw4⟩
        have hb : Below w3.heap.size w3 w4 := by rw [hw4]; exact grown_below _ _ _
        have O4 := O3.out.below hb
        have M4 := M3.out.below hb
        have B4 := B3.out.trans (hb.mono B3.out.size)
        have S4 := Nat.le_trans S3.out hb.size
        have X4 := blk_below X3.out hb L3.out
        have L4 := Nat.lt_of_lt_of_le L3.out hb.size
        obtain ⟨w5, hput, hm5, hg5⟩ := nm_put M4 s i IX.out (by omega)
        have O5 := OwnF.kept O4 hg5 (by
          cases e : Value.ownBlock (.slice A1 ys.length c1) with
          | none => exact Or.inl rfl
          | some b9 => exact Or.inr (fun q => by have := (O4.lt b9 e).1; simp only [Option.some.injEq] at q; omega))
        have X5 := blk_grown X4 hg5 (by simp only [ne_eq, Option.some.injEq]; omega)
        have B5 := B4.trans (gr_below hg5 (B := w.heap.size) (fun z e => by simp only [Option.some.injEq] at e; omega) B4.size)
        have S5 := Nat.le_trans S4 hg5.size
        obtain ⟨v6, w6, hap, ho6, hb6, _⟩ := one_p ⟨⟨s, i, c2, t, h, d⟩, a1, a2, a3, a4⟩ OKx.out O5 (by omega) S5
        obtain ⟨A6, c6, e6, _⟩ := ho6.form
        subst e6
        have M6 := Lib.hid (show NmAt w6 w.heap.size (k + 1) (fnd (G (k + 1))) from by
          rw [GK.out]
          exact (hm5.belowB hb6 hmb).same (fnd_push (G k) ⟨s, i, c2, t, h, d⟩))
        have O6 := Lib.hid ho6
        have B6 := Lib.hid (B5.trans (hb6.mono (by omega)))
        have S6 := Lib.hid (Nat.le_trans S5 hb6.size)
        have Q6 := Lib.hid (show xs (ys ++ [⟨⟨s, i, c2, t, h, d⟩, a1, a2, a3, a4⟩]) = G (k + 1) from by
          rw [GK.out, ← Q.out]
          unfold xs
          rw [List.map_append]
          rfl)
        have MY6 := Lib.hid (show ∀ y ∈ ys ++ [⟨⟨s, i, c2, t, h, d⟩, a1, a2, a3, a4⟩], y ∈ l from fun y hy => by
          rcases List.mem_append.1 hy with q | q
          · exact MY.out y q
          · rw [List.mem_singleton.1 q]; exact MX.out)
        have ly : (ys ++ [(⟨⟨s, i, c2, t, h, d⟩, a1, a2, a3, a4⟩ : Hp)]).length = ys.length + 1 := by rw [List.length_append]; rfl
        simp only [bxP] at hap
        clear hb hw4 O3 M3 B3 S3 X3 L3 f0 f1 f2 f3 f4 f5 KN O4 M4 B4 S4 X4 L4 hm5 hg5 O5 B5 S5 ho6 hb6 GK Q MY MX hget
        generalize (ys ++ [(⟨⟨s, i, c2, t, h, d⟩, a1, a2, a3, a4⟩ : Hp)]) = zs at *
        obtain ⟨f0, f1, f2, f3, f4, f5⟩ := hp_block X5
        simp only [Nat.zero_add] at f0 f1 f2 f3 f4 f5
        clear X5 ly
        go_wp2_with (first | (at_builtin; refine Lib.wpList_append_run _ rfl _ _ _ _ rfl _ _ rfl rfl _ _ hap ?_) | fail)
        go_roundw
        case rel => exact ⟨k + 1, A6, c6, zs, by go_num, hlt, rfl, O6, MY6, Q6, M6, B6.out, S6.out⟩
        case measure => simp [intOf]; omega
    · obtain rfl : k = l.length := by omega
      have RV := OwnF.rowV O.out
      obtain ⟨A2, c2, hcut, RV2⟩ := RV.cut (ys.length - 8) (by omega)
      have KL := Lib.hid (plast_any A1 A2 ys.length 8 c1 (ys.drop (ys.length - 8)).length c2 wr (by omega) (by omega) hcut)
      have VY := Lib.hid (show ∀ y ∈ ys.drop (ys.length - 8), y ∈ l ∧ Valid y.x from fun y hy => ⟨MY.out y (List.mem_of_mem_drop hy), GV.out l.length y.x (by rw [← Q.out]; unfold xs; exact List.mem_map_of_mem (List.mem_of_mem_drop hy))⟩)
      have XM := Lib.hid (show xs (ys.drop (ys.length - 8)) = F from by rw [xs_drop, Q.out, ← GE.out]; unfold last8; rw [← Q.out]; unfold xs; rw [List.length_map])
      have M8 : (ys.drop (ys.length - 8)).length ≤ 8 := by rw [List.length_drop]; omega
      have S0 := Lib.hid hsz
      clear GN GL GV GE O MY Q MP RV hcut hb HM hlt
      generalize ys.drop (ys.length - 8) = m at *
      go_wp2_with fail
      refine KL.out.mono ?_
      rintro _ _ ⟨rfl, rfl⟩
      clear KL
      rcases RV2 with ⟨rfl, rfl, rfl⟩ | RV2
      · have XM2 := Lib.hid (show F = [] from XM.out.symm)
        clear XM VY
        go_wp2_with fail
        go_loop [37] (fun vi => vi = .int .i64 0) (fun _ => 0)
        case atStart => rfl
        case round =>
          obtain rfl := hrel
          go_wp2_with fail
          go_ret
          rw [XM2.out]
          exact ⟨none, 0, [], rfl, OwnV.nil _ _, rfl, B.out⟩
      · obtain ⟨g, off, cap, cur, e, R⟩ := RV2.ro
        simp only [Value.slice.injEq, true_and] at e
        obtain ⟨rfl, rfl⟩ := e
        have MD0 := Lib.hid (R.mid 0 (Nat.zero_le _))
        have hmc := R.len
        clear R RV2
        go_wp2_with fail
        go_loopw [37] (fun vk wv => ∃ (k : Nat) (zs : List Hp), vk = .int .i64 k ∧ k ≤ m.length ∧ Hid (MidT fP 44 wv W.heap.size g off c2 zs k (m.drop k)) ∧ Hid (xs zs = (xs m).take k) ∧ Hid (∀ y ∈ zs, OwnN wv wr.heap.size y) ∧ Hid (zs.Pairwise fun a b => a.hA ≠ b.hA ∧ a.dA ≠ b.dA) ∧ Hid (zs.length = k) ∧ Below w.heap.size w wv ∧ wr.heap.size ≤ wv.heap.size) (fun vk _ => m.length - (intOf vk).toNat)
        case atStart => exact ⟨0, [], rfl, Nat.zero_le _, MD0, Lib.hid (by simp [xs]), Lib.hid (fun y hy => by cases hy), Lib.hid List.Pairwise.nil, Lib.hid rfl, B.out, Nat.le_refl _⟩
        case round =>
          obtain ⟨k, zs, rfl, hk, MD, QZ, NZ, PZ, LZ, hb, hsv⟩ := hrel
          have BV := Lib.hid hb
          clear hb MD0
          by_cases hlt : k < m.length
          · have hdr := drop_one m k hlt
            rw [hdr] at MD
            have ML := MD.out.lt
            have VX := VY.out m[k] (List.getElem_mem hlt)
            have QX := Lib.hid (show (xs m).take (k + 1) = (xs m).take k ++ [m[k].x] from by
              have hk' : k < (xs m).length := by unfold xs; rw [List.length_map]; exact hlt
              rw [List.take_succ_eq_append_getElem hk', xs_at])
            obtain ⟨x, hx⟩ : ∃ x, m[k] = x := ⟨_, rfl⟩
            rw [hx] at MD VX QX
            clear hx hdr VY
            have g0 : wr.cell? ⟨g, off + k * 6, none⟩ = some (.int .i64 x.x.s) := MD.out.cell 0 (by decide)
            have g1 : wr.cell? ⟨g, off + k * 6 + 1, none⟩ = some (.int .i64 x.x.i) := MD.out.cell 1 (by decide)
            have g2 : wr.cell? ⟨g, off + k * 6 + 2, none⟩ = some (.int .i64 x.x.c) := MD.out.cell 2 (by decide)
            have g3 : wr.cell? ⟨g, off + k * 6 + 3, none⟩ = some (.int .i64 x.x.t) := MD.out.cell 3 (by decide)
            have g4 : wr.cell? ⟨g, off + k * 6 + 4, none⟩ = some (.slice x.hA x.x.h.length x.hc) := MD.out.cell 4 (by decide)
            have g5 : wr.cell? ⟨g, off + k * 6 + 5, none⟩ = some (.slice x.dA x.x.d.length x.dc) := MD.out.cell 5 (by decide)
            have OKx := MD.out.okb x List.mem_cons_self
            have NX := ((HA.out.2 x VX.1).next BV.out)
            have v := VX.2
            obtain ⟨n, hn⟩ : ∃ n : Nat, x.x.c = n := ⟨x.x.c.toNat, by have := v.ct; omega⟩
            have a1 := alloc_below wr (bxP x)
            have KC := Lib.hid (pcopied_any x n (wr.alloc (bxP x)) (by have := v.ct; omega) ⟨hn, by have := v.hl; omega, by have := v.dl; omega⟩ (NX.next a1))
            unfold CopyR at KC
            have hgB := MD.out.base
            have q0 : (k : Int) < (m.length : Int) := by omega
            have q1 : (0 : Int) ≤ (k : Int) := by omega
            have A1h := Lib.hid a1
            have OKh := Lib.hid (show PtOk x.x from OKx)
            have L9 := LZ.out
            clear a1 NX VX v hn OKx
            obtain ⟨⟨s, i, c9, t, h, d⟩, a1, a2, a3, a4⟩ := x
            simp only at g0 g1 g2 g3 g4 g5 KC QX OKh
            go_wp2_with fail
            refine KC.out.mono ?_
            rintro _ w2 ⟨⟨x', b1, b2, b3, b4⟩, rfl, hx, hoN, hb⟩
            simp only at hx
            subst hx
            have hb1 := A1h.out.trans (hb.mono A1h.out.size)
            have MD2 := MD.out.below hb1
            have TH := Lib.hid (show w2.there g (off + k * 6) 6 from MD2.there k (by omega))
            have MD3 := MD2.store ⟨⟨s, i, c9, t, h, d⟩, b1, b2, b3, b4⟩ OKh.out
            rw [L9] at MD3
            obtain ⟨cu, he1, _⟩ := MD2.ex
            obtain ⟨n1, n2⟩ := OwnP.push NZ.out PZ.out hb1 (hoN.down A1h.out.size) hsv
            have gr := setCells_grown g (hpC ⟨⟨s, i, c9, t, h, d⟩, b1, b2, b3, b4⟩) (off + k * 6) w2
            have NZ3 := Lib.hid (fun y hy => (n1 y hy).keptRow gr he1)
            have MD3h := Lib.hid MD3
            have PZ3 := Lib.hid n2
            have B3 := Lib.hid ((BV.out.trans (hb1.mono BV.out.size)).trans (gr_below gr (B := w.heap.size) (fun z e => by simp only [Option.some.injEq] at e; omega) (Nat.le_trans BV.out.size hb1.size)))
            have S3 := Lib.hid (Nat.le_trans (Nat.le_trans hsv hb1.size) gr.size)
            have Q3 := Lib.hid (show xs (zs ++ [⟨⟨s, i, c9, t, h, d⟩, b1, b2, b3, b4⟩]) = (xs m).take (k + 1) from by
              rw [QX.out, ← QZ.out]
              unfold xs
              rw [List.map_append]
              rfl)
            have L3 := Lib.hid (show (zs ++ [(⟨⟨s, i, c9, t, h, d⟩, b1, b2, b3, b4⟩ : Hp)]).length = k + 1 by rw [List.length_append, L9]; rfl)
            clear hb1 MD2 MD3 he1 n1 n2 gr hoN hb MD QZ NZ PZ LZ L9 BV QX g0 g1 g2 g3 g4 g5 A1h OKh KC
            go_wp2_with (first | (refine wpList_store_mid rfl _ _ _ rfl g (off + k * 6) #[.int .i64 s, .int .i64 i, .int .i64 c9, .int .i64 t, .slice b1 h.length b2, .slice b3 d.length b4] ?_ ?_ ?_ ?_ ?_ ?_; (· rfl); (· rfl); (· exact TH.out); (· kernel_rfl); (· exact one_h ⟨⟨s, i, c9, t, h, d⟩, b1, b2, b3, b4⟩)) | fail)
            go_roundw
            case rel => exact ⟨k + 1, _, by go_num, hlt, MD3h, Q3, NZ3, PZ3, L3, B3.out, S3.out⟩
            case measure => simp [intOf]; omega
          · obtain rfl : k = m.length := by omega
            have L9 := LZ.out
            clear VY
            go_wp2_with fail
            go_ret
            obtain ⟨cur', R9⟩ := MD.out.ro
            refine ⟨some ⟨g, off, none⟩, c2, zs, by rw [L9]; rfl, ⟨Or.inr (R9.own.down (by omega)), fun y hy => (NZ.out y hy).down (by have := B.out.size; omega), PZ.out⟩, ?_, BV.out⟩
            rw [QZ.out, ← XM.out, List.take_of_length_le (by unfold xs; rw [List.length_map]; exact Nat.le_refl _)]
end Go.Proofs.Ytljcjflbfjleoaa.Frg
