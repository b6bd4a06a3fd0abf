/- Entries that are the call's own; the reference's Copy, Remove. -/
import Derived.Test.YtljcjflbfjleoaaFgB
set_option linter.unusedVariables false
namespace Go.Proofs.Ytljcjflbfjleoaa.Frg
open Go.RowKit

/-- An entry whose rows are the call's own. -/
structure OwnN (w : World) (B : Nat) (y : Hp) : Prop where
  bo : OwnF fBo 4 w B (.slice y.hA y.x.h.length y.hc) y.x.h
  st : OwnF fSt 9 w B (.slice y.dA y.x.d.length y.dc) y.x.d
  nb : y.hA ≠ none
  ns : y.dA ≠ none
theorem own_sls {α : Type} {F : Flat α} {T : TypeId} {w : World} {B : Nat} {A : Option Addr} {c : Nat} {l : List α} (h : OwnF F T w B (.slice A l.length c) l) : SlS F w A c l := by
  obtain ⟨A1, c1, e, h1⟩ := h.slS
  simp only [Value.slice.injEq, true_and] at e
  obtain ⟨rfl, rfl⟩ := e
  exact h1
theorem own_blk {α : Type} {F : Flat α} {T : TypeId} {w : World} {B : Nat} {A : Option Addr} {n c : Nat} {l : List α} (h : OwnF F T w B (.slice A n c) l) (hA : A ≠ none) : ∃ g cur, A = some ⟨g, 0, none⟩ ∧ B ≤ g ∧ w.heap[g]? = some (.cells cur T (0, 0)) := by
  rcases h.1.2 with ⟨h1, _⟩ | ⟨g, cap, cur, h1, h2, h3, _⟩
  · simp only [Value.slice.injEq] at h1
    exact absurd h1.1 hA
  · simp only [Value.slice.injEq] at h1
    exact ⟨g, cur, h1.1, h2, h3⟩
theorem OwnN.below {w w' : World} {B : Nat} {y : Hp} (h : OwnN w B y) (hb : Below w.heap.size w w') : OwnN w' B y := ⟨h.bo.below hb, h.st.below hb, h.nb, h.ns⟩
theorem OwnN.down {w : World} {B B' : Nat} {y : Hp} (h : OwnN w B y) (hB : B' ≤ B) : OwnN w B' y := ⟨h.bo.down hB, h.st.down hB, h.nb, h.ns⟩
theorem OwnN.nest {w : World} {B : Nat} {y : Hp} (h : OwnN w B y) : Nest w y := ⟨own_sls h.bo, own_sls h.st⟩
/-- What was made later lies elsewhere. -/
theorem OwnN.apart {w w' : World} {B B' : Nat} {y y' : Hp} (h : OwnN w B y) (h' : OwnN w' B' y') (hB : w.heap.size ≤ B') : y.hA ≠ y'.hA ∧ y.dA ≠ y'.dA := by
  obtain ⟨g, _, e1, _, e2⟩ := own_blk h.bo h.nb
  obtain ⟨g', _, e1', e3', _⟩ := own_blk h'.bo h'.nb
  obtain ⟨k, _, d1, _, d2⟩ := own_blk h.st h.ns
  obtain ⟨k', _, d1', d3', _⟩ := own_blk h'.st h'.ns
  have l1 := (Array.getElem?_eq_some_iff.1 e2).1
  have l2 := (Array.getElem?_eq_some_iff.1 d2).1
  constructor
  · rw [e1, e1']
    intro e
    simp only [Option.some.injEq, Addr.mk.injEq, and_true] at e
    omega
  · rw [d1, d1']
    intro e
    simp only [Option.some.injEq, Addr.mk.injEq, and_true] at e
    omega
/-- Entries that are the call's own. -/
structure OwnP (w : World) (B : Nat) (A : Option Addr) (c : Nat) (l : List Hp) : Prop where
  row : SlS fP w A c l
  ty : ∀ b p, A = some ⟨b, p, none⟩ → B ≤ b ∧ ∃ cur fz, w.heap[b]? = some (.cells cur 44 fz)
  own : OwnF fP 44 w B (.slice A l.length c) l ∨ l.length = 8
  nest : ∀ y ∈ l, OwnN w B y
  ap : l.Pairwise fun a b => a.hA ≠ b.hA ∧ a.dA ≠ b.dA
theorem OwnP.below {w w' : World} {B : Nat} {A : Option Addr} {c : Nat} {l : List Hp} (h : OwnP w B A c l) (hb : Below w.heap.size w w') : OwnP w' B A c l :=
  ⟨h.row.next hb, fun b p e => by
    obtain ⟨h1, cur, fz, h2⟩ := h.ty b p e
    exact ⟨h1, cur, fz, (hb.block b (Array.getElem?_eq_some_iff.1 h2).1).trans h2⟩, h.own.imp_left fun o => o.below hb, fun y hy => (h.nest y hy).below hb, h.ap⟩
theorem OwnP.down {w : World} {B B' : Nat} {A : Option Addr} {c : Nat} {l : List Hp} (h : OwnP w B A c l) (hB : B' ≤ B) : OwnP w B' A c l :=
  ⟨h.row, fun b p e => ⟨Nat.le_trans hB (h.ty b p e).1, (h.ty b p e).2⟩, h.own.imp_left fun o => o.down hB, fun y hy => (h.nest y hy).down hB, h.ap⟩
theorem OwnP.psS {w : World} {B : Nat} {A : Option Addr} {c : Nat} {l : List Hp} (h : OwnP w B A c l) : PsS w A c l := ⟨h.row, fun y hy => (h.nest y hy).nest⟩
theorem OwnP.of {w : World} {B : Nat} {v : Value} {l : List Hp} (h : OwnF fP 44 w B v l) (hn : ∀ y ∈ l, OwnN w B y) (ha : l.Pairwise fun a b => a.hA ≠ b.hA ∧ a.dA ≠ b.dA) : ∃ A c, v = .slice A l.length c ∧ OwnP w B A c l := by
  obtain ⟨A, c, rfl, hs⟩ := h.slS
  refine ⟨A, c, rfl, hs, fun b p e => ?_, Or.inl h, hn, ha⟩
  obtain ⟨g, cur, e1, e2, e3⟩ := own_blk h (by rw [e]; exact fun q => by cases q)
  rw [e] at e1
  simp only [Option.some.injEq, Addr.mk.injEq, and_true] at e1
  obtain ⟨rfl, rfl⟩ := e1
  exact ⟨e2, cur, _, e3⟩
theorem OwnP.nil (w : World) (B : Nat) : OwnP w B none 0 [] := ⟨SlS.nil w, fun b p e => (by cases e), Or.inl (OwnF.nil _ _), fun y hy => (by cases hy), List.Pairwise.nil⟩

/-- Entries that are the call's own, wherever their row begins. -/
structure OwnQ (w : World) (B : Nat) (A : Option Addr) (c : Nat) (l : List Hp) : Prop where
  row : SlS fP w A c l
  ty : ∀ b p, A = some ⟨b, p, none⟩ → B ≤ b ∧ ∃ cur fz, w.heap[b]? = some (.cells cur 44 fz)
  nest : ∀ y ∈ l, OwnN w B y
  ap : l.Pairwise fun a b => a.hA ≠ b.hA ∧ a.dA ≠ b.dA
theorem OwnP.q {w : World} {B : Nat} {A : Option Addr} {c : Nat} {l : List Hp} (h : OwnP w B A c l) : OwnQ w B A c l := ⟨h.row, h.ty, h.nest, h.ap⟩
theorem OwnQ.below {w w' : World} {B : Nat} {A : Option Addr} {c : Nat} {l : List Hp} (h : OwnQ w B A c l) (hb : Below w.heap.size w w') : OwnQ w' B A c l :=
  ⟨h.row.next hb, fun b p e => by
    obtain ⟨h1, cur, fz, h2⟩ := h.ty b p e
    exact ⟨h1, cur, fz, (hb.block b (Array.getElem?_eq_some_iff.1 h2).1).trans h2⟩, fun y hy => (h.nest y hy).below hb, h.ap⟩
theorem OwnQ.down {w : World} {B B' : Nat} {A : Option Addr} {c : Nat} {l : List Hp} (h : OwnQ w B A c l) (hB : B' ≤ B) : OwnQ w B' A c l :=
  ⟨h.row, fun b p e => ⟨Nat.le_trans hB (h.ty b p e).1, (h.ty b p e).2⟩, fun y hy => (h.nest y hy).down hB, h.ap⟩
theorem OwnQ.psS {w : World} {B : Nat} {A : Option Addr} {c : Nat} {l : List Hp} (h : OwnQ w B A c l) : PsS w A c l := ⟨h.row, fun y hy => (h.nest y hy).nest⟩
theorem OwnQ.nil (w : World) (B : Nat) : OwnQ w B none 0 [] := ⟨SlS.nil w, fun b p e => (by cases e), fun y hy => (by cases hy), List.Pairwise.nil⟩

abbrev zp : Hp := ⟨⟨0, 0, 0, 0, [], []⟩, none, 0, none, 0⟩
theorem set_grown (w : World) (a : Addr) (v : Value) : w.grownBy (w.setCell a v) (some a.block) := ⟨rfl, rfl, rfl, by rw [World.size_setCell]; exact Nat.le_refl _, fun k hk hr => Below.heap_setCell w a v k (fun e => hr (by rw [e]))⟩
theorem own_set {α : Type} {F : Flat α} {T : TypeId} {w : World} {B : Nat} {v : Value} {l : List α} (h : OwnF F T w B v l) (a : Addr) (u : Value) (hB : a.block < B) : OwnF F T (w.setCell a u) B v l :=
  h.kept (set_grown w a u) (by
    cases e : v.ownBlock with
    | none => exact Or.inl rfl
    | some b => exact Or.inr (fun q => by have := (h.lt b e).1; simp only [Option.some.injEq] at q; omega))
/-- An entry is written over another. -/
def put6 (w : World) (b : Nat) (y : Hp) : World := (((((w.setCell ⟨b, 0, none⟩ (.int .i64 y.x.s)).setCell ⟨b, 1, none⟩ (.int .i64 y.x.i)).setCell ⟨b, 2, none⟩ (.int .i64 y.x.c)).setCell ⟨b, 3, none⟩ (.int .i64 y.x.t)).setCell ⟨b, 4, none⟩ (.slice y.hA y.x.h.length y.hc)).setCell ⟨b, 5, none⟩ (.slice y.dA y.x.d.length y.dc)
theorem grown_trans {a b c : World} {r : Option Nat} (h : a.grownBy b r) (k : b.grownBy c r) : a.grownBy c r :=
  ⟨k.os.trans h.os, k.tape.trans h.tape, k.output.trans h.output, Nat.le_trans h.size k.size, fun i hi hr => (k.block i (Nat.lt_of_lt_of_le hi h.size) hr).trans (h.block i hi hr)⟩
theorem put6_grown (w : World) (b : Nat) (y : Hp) : w.grownBy (put6 w b y) (some b) := by
  unfold put6
  exact grown_trans (grown_trans (grown_trans (grown_trans (grown_trans (set_grown w ⟨b, 0, none⟩ _) (set_grown _ ⟨b, 1, none⟩ _)) (set_grown _ ⟨b, 2, none⟩ _)) (set_grown _ ⟨b, 3, none⟩ _)) (set_grown _ ⟨b, 4, none⟩ _)) (set_grown _ ⟨b, 5, none⟩ _)
theorem six_blk {w : World} {b : Nat} {T : TypeId} {a0 a1 a2 a3 a4 a5 : Value} (h : w.heap[b]? = some (.cells #[a0, a1, a2, a3, a4, a5] T (0, 0))) (b0 b1 b2 b3 b4 b5 : Value) :
    ((((((w.setCell ⟨b, 0, none⟩ b0).setCell ⟨b, 1, none⟩ b1).setCell ⟨b, 2, none⟩ b2).setCell ⟨b, 3, none⟩ b3).setCell ⟨b, 4, none⟩ b4).setCell ⟨b, 5, none⟩ b5).heap[b]? = some (.cells #[b0, b1, b2, b3, b4, b5] T (0, 0)) := by
  have h1 := blk_set h 0 b0
  rw [show (#[a0, a1, a2, a3, a4, a5] : Array Value).setIfInBounds 0 b0 = #[b0, a1, a2, a3, a4, a5] from rfl] at h1
  have h2 := blk_set h1 1 b1
  rw [show (#[b0, a1, a2, a3, a4, a5] : Array Value).setIfInBounds 1 b1 = #[b0, b1, a2, a3, a4, a5] from rfl] at h2
  have h3 := blk_set h2 2 b2
  rw [show (#[b0, b1, a2, a3, a4, a5] : Array Value).setIfInBounds 2 b2 = #[b0, b1, b2, a3, a4, a5] from rfl] at h3
  have h4 := blk_set h3 3 b3
  rw [show (#[b0, b1, b2, a3, a4, a5] : Array Value).setIfInBounds 3 b3 = #[b0, b1, b2, b3, a4, a5] from rfl] at h4
  have h5 := blk_set h4 4 b4
  rw [show (#[b0, b1, b2, b3, a4, a5] : Array Value).setIfInBounds 4 b4 = #[b0, b1, b2, b3, b4, a5] from rfl] at h5
  have h6 := blk_set h5 5 b5
  rw [show (#[b0, b1, b2, b3, b4, a5] : Array Value).setIfInBounds 5 b5 = #[b0, b1, b2, b3, b4, b5] from rfl] at h6
  exact h6
theorem put6_blk {w : World} {b : Nat} {z : Hp} (h : w.heap[b]? = some (bxP z)) (y : Hp) : (put6 w b y).heap[b]? = some (bxP y) := by
  unfold put6
  exact six_blk h _ _ _ _ _ _

/-- A list without the one at an index (any int): the first k looked at. -/
def woP (l : List Hp) (i : Int) (k : Nat) : List Hp := ((l.take k).zipIdx.filter fun y => decide ((y.2 : Int) ≠ i)).map (·.1)
theorem woP_yes (l : List Hp) (i : Int) (k : Nat) (h : k < l.length) (e : (k : Int) ≠ i) : woP l i (k + 1) = woP l i k ++ [l[k]] := by
  unfold woP
  rw [List.take_succ_eq_append_getElem h, List.zipIdx_append, List.filter_append, List.map_append]
  congr 1
  have hl : (l.take k).length = k := by rw [List.length_take]; omega
  simp [hl, e]
theorem woP_no (l : List Hp) (i : Int) (k : Nat) (h : k < l.length) (e : (k : Int) = i) : woP l i (k + 1) = woP l i k := by
  unfold woP
  rw [List.take_succ_eq_append_getElem h, List.zipIdx_append, List.filter_append, List.map_append]
  have hl : (l.take k).length = k := by rw [List.length_take]; omega
  simp [hl, e]
theorem woP_len (l : List Hp) (i : Int) (k : Nat) : (woP l i k).length ≤ k := by
  unfold woP
  rw [List.length_map]
  refine Nat.le_trans (List.length_filter_le _ _) ?_
  rw [List.length_zipIdx, List.length_take]
  omega
theorem woP_all (l : List Hp) (i : Nat) : ∀ k, k ≤ l.length → woP l i k = if k ≤ i then l.take k else (l.take k).eraseIdx i
  | 0, _ => by rw [if_pos (Nat.zero_le _)]; rfl
  | k + 1, hk => by
    have ih := woP_all l i k (by omega)
    by_cases e : k = i
    · subst e
      rw [woP_no l _ k (by omega) rfl, ih, if_pos (Nat.le_refl _), if_neg (by omega), List.take_succ_eq_append_getElem (by omega)]
      have hl : (l.take k).length = k := by rw [List.length_take]; omega
      rw [List.eraseIdx_append_of_length_le (by omega), hl, Nat.sub_self]
      simp
    · rw [woP_yes l _ k (by omega) (by omega), ih]
      by_cases c : k ≤ i
      · rw [if_pos c, if_pos (by omega), List.take_succ_eq_append_getElem (by omega)]
      · have hl : (l.take k).length = k := by rw [List.length_take]; omega
        rw [if_neg c, if_neg (by omega), List.take_succ_eq_append_getElem (by omega), List.eraseIdx_append_of_lt_length (by omega)]
theorem woP_neg (l : List Hp) (i : Int) (hi : i < 0) : ∀ k, k ≤ l.length → woP l i k = l.take k
  | 0, _ => rfl
  | k + 1, hk => by rw [woP_yes l i k (by omega) (by omega), woP_neg l i hi k (by omega), List.take_succ_eq_append_getElem (by omega)]
theorem woP_end (l : List Hp) (i : Int) : woP l i l.length = if 0 ≤ i then l.eraseIdx i.toNat else l := by
  by_cases h : 0 ≤ i
  · rw [if_pos h]
    have e : i = (i.toNat : Int) := by omega
    conv => lhs; rw [e]
    rw [woP_all l i.toNat l.length (Nat.le_refl _)]
    split
    · rw [List.take_length, List.eraseIdx_of_length_le (by omega)]
    · rw [List.take_length]
  · rw [if_neg h, woP_neg l i (by omega) l.length (Nat.le_refl _), List.take_length]

/-- An entry in memory of its own is handed back. -/
def CopyR (w : World) (x : Pt) (e : Ending) (w' : World) : Prop := ∃ y', e = .returned (hpV y') ∧ y'.x = x ∧ OwnN w' w.heap.size y' ∧ Below w.heap.size w w'
set_option maxRecDepth 100000 in
set_option maxHeartbeats 4000000 in
theorem rcopy_any (y : Hp) (w : World) (hl : y.x.h.length ≤ 1000 ∧ y.x.d.length ≤ 1000) (hn : Nest w y) : Calls Try.prog 56 #[hpV y] w (CopyR w y.x) := by
  obtain ⟨⟨s, i, c, t, h, d⟩, A1, c1, D1, e1⟩ := y
  simp only at hl hn ⊢
  have b0 : Below w.heap.size w ((w.alloc (bxP ⟨⟨s, i, c, t, h, d⟩, A1, c1, D1, e1⟩)).alloc (.cells #[.int .i64 0, .int .i64 0, .int .i64 0, .int .i64 0, .slice none 0 0, .slice none 0 0] 44)) := (alloc_below w (bxP ⟨⟨s, i, c, t, h, d⟩, A1, c1, D1, e1⟩)).trans ((alloc_below (w.alloc (bxP ⟨⟨s, i, c, t, h, d⟩, A1, c1, D1, e1⟩)) (.cells #[.int .i64 0, .int .i64 0, .int .i64 0, .int .i64 0, .slice none 0 0, .slice none 0 0] 44)).mono (by simp))
  have X1 : ((w.alloc (bxP ⟨⟨s, i, c, t, h, d⟩, A1, c1, D1, e1⟩)).alloc (.cells #[.int .i64 0, .int .i64 0, .int .i64 0, .int .i64 0, .slice none 0 0, .slice none 0 0] 44)).heap[w.heap.size]? = some (bxP ⟨⟨s, i, c, t, h, d⟩, A1, c1, D1, e1⟩) := blk_alloc (blk_new w _) _
  have R1 : ((w.alloc (bxP ⟨⟨s, i, c, t, h, d⟩, A1, c1, D1, e1⟩)).alloc (.cells #[.int .i64 0, .int .i64 0, .int .i64 0, .int .i64 0, .slice none 0 0, .slice none 0 0] 44)).heap[w.heap.size + 1]? = some (.cells #[.int .i64 0, .int .i64 0, .int .i64 0, .int .i64 0, .slice none 0 0, .slice none 0 0] 44) := by have := blk_new (w.alloc (bxP ⟨⟨s, i, c, t, h, d⟩, A1, c1, D1, e1⟩)) (.cells #[.int .i64 0, .int .i64 0, .int .i64 0, .int .i64 0, .slice none 0 0, .slice none 0 0] 44); simpa using this
  have hz1 : ((w.alloc (bxP ⟨⟨s, i, c, t, h, d⟩, A1, c1, D1, e1⟩)).alloc (.cells #[.int .i64 0, .int .i64 0, .int .i64 0, .int .i64 0, .slice none 0 0, .slice none 0 0] 44)).heap.size = w.heap.size + 2 := by simp
  obtain ⟨v3, w3, hap, ho3, hb3, hnil3, _⟩ := (OwnF.lit (F := fBo) (T := 4) ((w.alloc (bxP ⟨⟨s, i, c, t, h, d⟩, A1, c1, D1, e1⟩)).alloc (.cells #[.int .i64 0, .int .i64 0, .int .i64 0, .int .i64 0, .slice none 0 0, .slice none 0 0] 44)) ((w.alloc (bxP ⟨⟨s, i, c, t, h, d⟩, A1, c1, D1, e1⟩)).alloc (.cells #[.int .i64 0, .int .i64 0, .int .i64 0, .int .i64 0, .slice none 0 0, .slice none 0 0] 44)).heap.size [] #[] (Nat.le_refl _) (by unfold maxLen; simp) rfl (by simp)).app eBo (c := c1) 40 ((hn.1.next b0).1.below (alloc_below _ _)) (by simp; omega) (by simp)
  have nn3 : ∀ A c, v3 = .slice A h.length c → A ≠ none := by
    rintro A c rfl rfl
    rcases ho3.1.2 with ⟨q, _⟩ | ⟨_, _, _, q, _⟩
    · have := hnil3 q; simp at this
    · simp at q
  obtain ⟨A3, c3, e3, _⟩ := ho3.form
  subst e3
  have nn3 := nn3 A3 c3 (by simp)
  have ho3 : OwnF fBo 4 w3 (w.heap.size + 2) (.slice A3 h.length c3) h := by have q := ho3; simpa using q
  have hb3 : Below (w.heap.size + 2) ((w.alloc (bxP ⟨⟨s, i, c, t, h, d⟩, A1, c1, D1, e1⟩)).alloc (.cells #[.int .i64 0, .int .i64 0, .int .i64 0, .int .i64 0, .slice none 0 0, .slice none 0 0] 44)) w3 := ((alloc_below ((w.alloc (bxP ⟨⟨s, i, c, t, h, d⟩, A1, c1, D1, e1⟩)).alloc (.cells #[.int .i64 0, .int .i64 0, .int .i64 0, .int .i64 0, .slice none 0 0, .slice none 0 0] 44)) (.cells #[] 4)).mono (by omega)).trans (by simpa using hb3)
  have bz3 : w.heap.size + 2 ≤ w3.heap.size := by have := hb3.size; omega
  have X3 := blk_below X1 hb3 (by omega)
  have R3 := blk_below R1 hb3 (by omega)
  have Y4 := blk_set X3 4 (.slice A3 h.length c3)
  rw [show (#[Value.int .i64 s, .int .i64 i, .int .i64 c, .int .i64 t, .slice A1 h.length c1, .slice D1 d.length e1] : Array Value).setIfInBounds 4 (.slice A3 h.length c3) = #[Value.int .i64 s, .int .i64 i, .int .i64 c, .int .i64 t, .slice A3 h.length c3, .slice D1 d.length e1] from rfl] at Y4
  obtain ⟨w4, hw4⟩ : ∃ w4, w3.setCell ⟨w.heap.size, 4, none⟩ (.slice A3 h.length c3) = w4 := ⟨_, rfl⟩
  rw [hw4] at Y4
  have R4 : w4.heap[w.heap.size + 1]? = some (.cells #[.int .i64 0, .int .i64 0, .int .i64 0, .int .i64 0, .slice none 0 0, .slice none 0 0] 44) := by rw [← hw4]; exact blk_other R3 (by simp) _
  have b4 : Below w.heap.size w w4 := by rw [← hw4]; exact (b0.trans (hb3.mono (by omega))).setCell (Nat.le_refl _) _
  have o4 : OwnF fBo 4 w4 (w.heap.size + 2) (.slice A3 h.length c3) h := by rw [← hw4]; exact own_set ho3 _ _ (by show w.heap.size < w.heap.size + 2; omega)
  have sz4 : w4.heap.size = w3.heap.size := by rw [← hw4, World.size_setCell]
  obtain ⟨v6, w6, hap2, ho6, hb6, hnil6, _⟩ := (OwnF.lit (F := fSt) (T := 9) w4 w4.heap.size [] #[] (Nat.le_refl _) (by unfold maxLen; simp) rfl (by simp)).app eSt (c := e1) 23 ((hn.2.next b4).1.below (alloc_below _ _)) (by simp; omega) (by simp)
  have nn6 : ∀ A c, v6 = .slice A d.length c → A ≠ none := by
    rintro A c rfl rfl
    rcases ho6.1.2 with ⟨q, _⟩ | ⟨_, _, _, q, _⟩
    · have := hnil6 q; simp at this
    · simp at q
  obtain ⟨A6, c6, e6, _⟩ := ho6.form
  subst e6
  have nn6 := nn6 A6 c6 (by simp)
  have hb6 : Below w4.heap.size w4 w6 := (alloc_below w4 (.cells #[] 9)).trans hb6
  have ho6 : OwnF fSt 9 w6 (w.heap.size + 2) (.slice A6 d.length c6) d := by have q := ho6.down (show w.heap.size + 2 ≤ w4.heap.size by omega); simpa using q
  have o6 := o4.below hb6
  have X6 := blk_below Y4 hb6 (by omega)
  have R6 := blk_below R4 hb6 (by omega)
  have Y7 := blk_set X6 5 (.slice A6 d.length c6)
  rw [show (#[Value.int .i64 s, .int .i64 i, .int .i64 c, .int .i64 t, .slice A3 h.length c3, .slice D1 d.length e1] : Array Value).setIfInBounds 5 (.slice A6 d.length c6) = #[Value.int .i64 s, .int .i64 i, .int .i64 c, .int .i64 t, .slice A3 h.length c3, .slice A6 d.length c6] from rfl] at Y7
  obtain ⟨w7, hw7⟩ : ∃ w7, w6.setCell ⟨w.heap.size, 5, none⟩ (.slice A6 d.length c6) = w7 := ⟨_, rfl⟩
  rw [hw7] at Y7
  have R7 : w7.heap[w.heap.size + 1]? = some (bxP zp) := by rw [← hw7]; exact blk_other R6 (by simp) _
  have b7 : Below w.heap.size w w7 := by rw [← hw7]; exact (b4.trans (hb6.mono b4.size)).setCell (Nat.le_refl _) _
  have o7 : OwnF fBo 4 w7 (w.heap.size + 2) (.slice A3 h.length c3) h := by rw [← hw7]; exact own_set o6 _ _ (by show w.heap.size < w.heap.size + 2; omega)
  have p7 : OwnF fSt 9 w7 (w.heap.size + 2) (.slice A6 d.length c6) d := by rw [← hw7]; exact own_set ho6 _ _ (by show w.heap.size < w.heap.size + 2; omega)
  have RES : CopyR w ⟨s, i, c, t, h, d⟩ (.returned (hpV ⟨⟨s, i, c, t, h, d⟩, A3, c3, A6, c6⟩)) (put6 w7 (w.heap.size + 1) ⟨⟨s, i, c, t, h, d⟩, A3, c3, A6, c6⟩) := ⟨⟨⟨s, i, c, t, h, d⟩, A3, c3, A6, c6⟩, rfl, rfl,
    ⟨(o7.kept (put6_grown w7 (w.heap.size + 1) ⟨⟨s, i, c, t, h, d⟩, A3, c3, A6, c6⟩) (by
      cases e : Value.ownBlock (.slice A3 h.length c3) with
      | none => exact Or.inl rfl
      | some b => exact Or.inr (fun q => by have := (o7.lt b e).1; simp only [Option.some.injEq] at q; omega))).down (by omega),
     (p7.kept (put6_grown w7 (w.heap.size + 1) ⟨⟨s, i, c, t, h, d⟩, A3, c3, A6, c6⟩) (by
      cases e : Value.ownBlock (.slice A6 d.length c6) with
      | none => exact Or.inl rfl
      | some b => exact Or.inr (fun q => by have := (p7.lt b e).1; simp only [Option.some.injEq] at q; omega))).down (by omega), nn3, nn6⟩,
    by unfold put6; exact (((((b7.setCell (Nat.le_succ _) _).setCell (Nat.le_succ _) _).setCell (Nat.le_succ _) _).setCell (Nat.le_succ _) _).setCell (Nat.le_succ _) _).setCell (Nat.le_succ _) _⟩
  have RES := Lib.hid RES
  have Z := Lib.hid (hp_block (put6_blk R7 ⟨⟨s, i, c, t, h, d⟩, A3, c3, A6, c6⟩))
  have l4 : ((((w.alloc (bxP ⟨⟨s, i, c, t, h, d⟩, A1, c1, D1, e1⟩)).alloc (.cells #[.int .i64 0, .int .i64 0, .int .i64 0, .int .i64 0, .slice none 0 0, .slice none 0 0] 44))).alloc (.cells #[] 4)).cell? ⟨w.heap.size, 4, none⟩ = some (.slice A1 h.length c1) := blk_cell (blk_alloc X1 _) 4 rfl
  have fr3 := fun j => blk_fr X3 j
  have k3 : w3.cell? ⟨w.heap.size, 4, none⟩ = some (.slice A1 h.length c1) := blk_cell X3 4 rfl
  have k6 : w6.cell? ⟨w.heap.size, 5, none⟩ = some (.slice D1 d.length e1) := blk_cell X6 5 rfl
  have fr6 := fun j => blk_fr X6 j
  have l5 : (w4.alloc (.cells #[] 9)).cell? ⟨w.heap.size, 5, none⟩ = some (.slice D1 d.length e1) := blk_cell (blk_alloc Y4 _) 5 rfl
  have g0 := blk_cell Y7 0 (v := .int .i64 s) rfl
  have g1 := blk_cell Y7 1 (v := .int .i64 i) rfl
  have g2 := blk_cell Y7 2 (v := .int .i64 c) rfl
  have g3 := blk_cell Y7 3 (v := .int .i64 t) rfl
  have g4 := blk_cell Y7 4 (v := .slice A3 h.length c3) rfl
  have g5 := blk_cell Y7 5 (v := .slice A6 d.length c6) rfl
  have fr7 := fun j => blk_fr R7 j
  obtain ⟨z0, z1, z2, z3, z4, z5⟩ := hp_block R7
  simp only [List.length_nil, List.nil_append, World.size_alloc, bxP] at hap hap2 l4 l5
  clear sz4 hn b0 X1 R1 hz1 ho3 hb3 hnil3 bz3 X3 R3 Y4 R4 b4 o4 ho6 hb6 hnil6 nn3 nn6 o6 X6 R6 Y7 R7 b7 o7 p7
  go_enter Try.func56, Try.ntmps56
  go_wp2_with (first | (at_builtin; refine Lib.wpList_append_run _ rfl _ _ _ _ rfl _ _ rfl rfl _ _ hap ?_) | (at_builtin; refine Lib.wpList_append_run _ rfl _ _ _ _ rfl _ _ rfl rfl _ _ hap2 ?_) | fail)
  clear z0 z1 z2 z3 z4 z5 g0 g1 g2 g3 g4 g5 l4 l5 fr3 fr6 fr7 k3 k6 hap hap2
  obtain ⟨V, hV⟩ : ∃ V, V = put6 w7 (w.heap.size + 1) ⟨⟨s, i, c, t, h, d⟩, A3, c3, A6, c6⟩ := ⟨_, rfl⟩
  rw [← hV] at Z RES
  obtain ⟨r0, r1, r2, r3, r4, r5⟩ := Z.out
  unfold put6 at hV
  dsimp only at hV r0 r1 r2 r3 r4 r5
  simp only [Nat.zero_add] at r0 r1 r2 r3 r4 r5
  rw [← hV]
  clear hV
  refine bodyPost_ret (v := hpV ⟨⟨s, i, c, t, h, d⟩, A3, c3, A6, c6⟩) (by simp [results, Try.results56, go_sem, r0, r1, r2, r3, r4, r5]) rfl RES.out

set_option maxRecDepth 100000 in
set_option maxHeartbeats 2000000 in
theorem rremove_any (A : Option Addr) (c : Nat) (l : List Hp) (i : Int) (B : Nat) (w : World) (hl : l.length ≤ 1000) (hB : B ≤ w.heap.size) (hA : OwnP w B A c l) (E : List Hp) (hE : E = if 0 ≤ i then l.eraseIdx i.toNat else l) :
    Calls Try.prog 40 #[.slice A l.length c, .int .i64 i] w (fun e w' => ∃ A' c', e = .returned (.slice A' E.length c') ∧ OwnP w' B A' c' E ∧ OwnF fP 44 w' B (.slice A' E.length c') E ∧ Below w.heap.size w w') := by
  have HA := Lib.hid hA
  have sub : E.Sublist l := by
    rw [hE]
    split
    · exact List.eraseIdx_sublist _ _
    · exact List.Sublist.refl _
  have G0 := Lib.hid (show ((l.take 0).zipIdx.filter fun y => decide ((y.2 : Int) ≠ i)).map (·.1) = [] from rfl)
  have GY := Lib.hid (fun (k : Nat) (h : k < l.length) (e : (k : Int) ≠ i) => woP_yes l i k h e)
  have GZ := Lib.hid (fun (k : Nat) (h : k < l.length) (e : (k : Int) = i) => woP_no l i k h e)
  have GL := Lib.hid (fun k : Nat => woP_len l i k)
  have GE := Lib.hid (show woP l i l.length = E by rw [woP_end, hE])
  have GF := Lib.hid (show woP l i 0 = [] from rfl)
  clear hA hE G0
  generalize woP l i = G at *
  go_enter Try.func40, Try.ntmps40
  go_wp2_with fail
  go_loopw [5, 9] (fun vo vk wr => ∃ (k : Nat) (A1 : Option Addr) (c1 : Nat), vk = .int .i64 k ∧ k ≤ l.length ∧ vo = .slice A1 (G k).length c1 ∧ Hid (OwnF fP 44 wr w.heap.size (.slice A1 (G k).length c1) (G k)) ∧ Below w.heap.size w wr) (fun _ vk _ => l.length - (intOf vk).toNat)
  case atStart => exact ⟨0, none, 0, rfl, by omega, by rw [GF.out]; rfl, Lib.hid (by rw [GF.out]; exact OwnF.nil _ _), Below.refl _ _⟩
  case round =>
    obtain ⟨k, A1, c1, rfl, hk, rfl, O, hb⟩ := hrel
    have B := Lib.hid hb
    by_cases hlt : k < l.length
    · by_cases hki : (k : Int) = i
      · have N := Lib.hid (GZ.out k hlt hki)
        have d1 : ((k : Int) != i) = false := by simpa using hki
        clear GY GZ GL GE GF hki hb
        go_wp2_with fail
        go_roundw
        case rel => exact ⟨k + 1, A1, c1, by go_num, hlt, by rw [N.out], Lib.hid (by rw [N.out]; exact O.out), B.out⟩
        case measure => simp [intOf]; omega
      · have d1 : ((k : Int) != i) = true := by simpa using hki
        have N := Lib.hid (GY.out k hlt hki)
        have LG := GL.out k
        obtain ⟨bb, p, rfl, _, hc, hok⟩ := hp_cell ((HA.out.row.next hb).1) k hlt
        clear GY GZ GL GE GF hki hb
        obtain ⟨x, hx⟩ : ∃ x, l[k] = x := ⟨_, rfl⟩
        rw [hx] at hc hok N
        clear hx
        obtain ⟨v6, w6, hap, ho6, hb6⟩ := O.out.one eP 31 x #[.int .i64 x.x.s, .int .i64 x.x.i, .int .i64 x.x.c, .int .i64 x.x.t, .slice x.hA x.x.h.length x.hc, .slice x.dA x.x.d.length x.dc] rfl hok (by omega) B.out.size
        obtain ⟨g0, g1, g2, g3, g4, g5⟩ := hc
        obtain ⟨A6, c6, e6, _⟩ := ho6.form
        subst e6
        have L6 := Lib.hid (congrArg List.length N.out.symm)
        have O6 := Lib.hid (show OwnF fP 44 w6 w.heap.size (.slice A6 (G (k + 1)).length c6) (G (k + 1)) by rw [N.out]; exact ho6)
        have B6 := Lib.hid (B.out.trans hb6)
        rw [L6.out] at hap
        clear ho6 hb6 O LG N hok
        obtain ⟨⟨s, i', c', t, h, d⟩, a1, a2, a3, a4⟩ := x
        simp only at g0 g1 g2 g3 g4 g5 hap
        go_wp2_with (at_builtin; refine Lib.wpList_append_run _ rfl _ _ _ _ rfl _ _ rfl rfl _ _ hap ?_)
        go_roundw
        case rel => exact ⟨k + 1, A6, c6, by go_num, hlt, rfl, O6, B6.out⟩
        case measure => simp [intOf]; omega
    · obtain rfl : k = l.length := by omega
      have E1 := GE.out
      clear GY GZ GL GE GF
      go_wp2_with fail
      go_ret
      rw [E1] at O ⊢
      have HB := HA.out.below hb
      have o := O.out.down hB
      have hbl := own_blk (A := A1) (n := E.length) (c := c1) O.out
      refine ⟨A1, c1, rfl, ⟨own_sls o, fun b p e => ?_, Or.inl o, fun y hy => HB.nest y (sub.subset hy), HB.ap.sublist sub⟩, o, B.out⟩
      obtain ⟨g, cur, e1, e2, e3⟩ := hbl (by rw [e]; exact fun q => by cases q)
      rw [e] at e1
      simp only [Option.some.injEq, Addr.mk.injEq, and_true] at e1
      obtain ⟨rfl, rfl⟩ := e1
      exact ⟨Nat.le_trans hB e2, cur, _, e3⟩
end Go.Proofs.Ytljcjflbfjleoaa.Frg
