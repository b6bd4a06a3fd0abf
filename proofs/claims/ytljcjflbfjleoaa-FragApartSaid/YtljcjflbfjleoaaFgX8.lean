/- Package frag: store; strings.Join of an entry's data; an entry appended. -/
import Derived.Test.YtljcjflbfjleoaaFgX7
import Derived.Test.YtljcjflbfjleoaaNShelf
set_option linter.unusedVariables false
namespace Go.Proofs.Ytljcjflbfjleoaa.Frg
open Go.RowKit

theorem OwnT.kept {α : Type} {F : Flat α} {T : TypeId} {w w' : World} {B : Nat} {v : Value} {l : List α} {r : Option Nat} (h : OwnT F T w B v l) (hg : w.grownBy w' r) (hr : v.ownBlock ≠ r) : OwnT F T w' B v l := by
  obtain ⟨g, off, cap, cur, rfl, h1, h2, h3⟩ := h
  exact ⟨g, off, cap, cur, rfl, h1, (hg.block g (Array.getElem?_eq_some_iff.1 h2).1 hr).trans h2, h3⟩
/-- The list reads the same but for what an entry's rows hold. -/
theorem OwnV.over {w w' : World} {B : Nat} {A : Option Addr} {c : Nat} {l : List Hp} (h : OwnV w B A c l) (k : Nat) (hk : k < l.length) (y : Hp) (he : hpC y = hpC l[k]) (ho : PtOk y.x) (ha : y.hA = l[k].hA) (hd : y.dA = l[k].dA)
    {r : Option Nat} (hg : w.grownBy w' r) (hr : ∀ b, r = some b → ∀ cur fz, w.heap[b]? ≠ some (.cells cur 44 fz))
    (hn : OwnN w' B y) (hm : ∀ i (hi : i < l.length), i ≠ k → OwnN w' B l[i]) : OwnV w' B A c (l.set k y) := by
  have hlen : (l.set k y).length = l.length := List.length_set
  refine ⟨?_, fun x hx => ?_, ?_⟩
  · rcases h.row with ⟨_, _, e⟩ | h
    · rw [e] at hk; simp at hk
    · obtain ⟨g, off, cap, cur, e, h1, h2, h3, h4, h5, h6⟩ := h
      refine Or.inr ⟨g, off, cap, cur, by rw [hlen]; exact e, h1, (hg.block g (Array.getElem?_eq_some_iff.1 h2).1 fun q => hr g q.symm cur _ h2).trans h2, by rw [hlen]; exact h3, h4, fun j u hu => h5 j u (by rw [← flat_set_same (F := fP) l k y hk he]; exact hu), fun x hx => ?_⟩
      rcases List.mem_or_eq_of_mem_set hx with hx | rfl
      · exact h6 x hx
      · exact ho
  · obtain ⟨i, hi, rfl⟩ := List.getElem_of_mem hx
    rw [hlen] at hi
    rw [List.getElem_set]
    split
    · exact hn
    · rename_i e
      exact hm i hi (fun q => e q.symm)
  · rw [List.pairwise_iff_getElem]
    intro i j hi hj hij
    rw [hlen] at hi hj
    have := List.pairwise_iff_getElem.1 h.ap i j hi hj hij
    rw [List.getElem_set, List.getElem_set]
    split
    · rename_i e
      subst e
      rw [if_neg (by omega), ha, hd]
      exact this
    · split
      · rename_i e
        subst e
        rw [ha, hd]
        exact this
      · exact this
theorem OwnV.storeH {w : World} {B : Nat} {A : Option Addr} {c : Nat} {l : List Hp} (h : OwnV w B A c l) (k : Nat) (hk : k < l.length) (j : Nat) (hj : j < l[k].x.h.length) (g : Nat) (hg : l[k].hA = some ⟨g, 0, none⟩) :
    OwnV (w.setCell ⟨g, j, none⟩ (.bool true)) B A c (l.set k (setH l[k] j)) := by
  have hN := h.nest l[k] (List.getElem_mem hk)
  have hB := hN.bo
  rw [hg] at hB
  obtain ⟨g', cur, e1, hgB, hgt⟩ := own_blk hB (fun q => by cases q)
  simp only [Option.some.injEq, Addr.mk.injEq, and_true] at e1
  subst e1
  have hG := set_grown w ⟨g, j, none⟩ (.bool true)
  have e0 : j * (fBo).sz + 0 = j := by show j * 1 + 0 = j; omega
  refine h.over k hk (setH l[k] j) (by simp [hpC, setH]) (by have := h.q.row.1.ok _ (List.getElem_mem hk); exact this) rfl rfl (r := some g) hG (fun b e cur' fz q => ?_) ?_ (fun i hi hne => ?_)
  · simp only [Option.some.injEq] at e
    subst e
    rw [hgt] at q
    simp only [Option.some.injEq, Obj.cells.injEq] at q
    exact absurd q.2.1 (by decide)
  · have hP := OwnF.put hB j hj 0 (by decide) (.bool true) true rfl trivial
    rw [e0] at hP
    have hO := OwnF.kept hN.st hG (OwnF.ne_ty hN.st hN.ns (by decide) hgt)
    exact ⟨by have q := hP; rw [← hg] at q; simpa [setH] using q, hO, hN.nb, hN.ns⟩
  · have hN' := h.nest l[i] (List.getElem_mem hi)
    have hap : l[i].hA ≠ l[k].hA ∧ l[i].dA ≠ l[k].dA := by
      rcases Nat.lt_or_ge i k with q | q
      · exact List.pairwise_iff_getElem.1 h.ap i k hi hk q
      · have := List.pairwise_iff_getElem.1 h.ap k i hk hi (by omega)
        exact ⟨fun e => this.1 e.symm, fun e => this.2 e.symm⟩
    have hM := OwnF.kept hN'.bo hG (OwnF.ne_at hN'.bo hN'.nb (by rw [← hg]; exact hap.1))
    have hO := OwnF.kept hN'.st hG (OwnF.ne_ty hN'.st hN'.ns (by decide) hgt)
    exact ⟨hM, hO, hN'.nb, hN'.ns⟩
theorem OwnV.storeD {w : World} {B : Nat} {A : Option Addr} {c : Nat} {l : List Hp} (h : OwnV w B A c l) (k : Nat) (hk : k < l.length) (j : Nat) (hj : j < l[k].x.d.length) (b : ByteArray) (hb : b.size ≤ 9223372036854775807) (g : Nat) (hg : l[k].dA = some ⟨g, 0, none⟩) :
    OwnV (w.setCell ⟨g, j, none⟩ (.string b)) B A c (l.set k (setD l[k] j b)) := by
  have hN := h.nest l[k] (List.getElem_mem hk)
  have hB := hN.st
  rw [hg] at hB
  obtain ⟨g', cur, e1, hgB, hgt⟩ := own_blk hB (fun q => by cases q)
  simp only [Option.some.injEq, Addr.mk.injEq, and_true] at e1
  subst e1
  have hG := set_grown w ⟨g, j, none⟩ (.string b)
  have e0 : j * (fSt).sz + 0 = j := by show j * 1 + 0 = j; omega
  refine h.over k hk (setD l[k] j b) (by simp [hpC, setD]) (by have := h.q.row.1.ok _ (List.getElem_mem hk); exact this) rfl rfl (r := some g) hG (fun b e cur' fz q => ?_) ?_ (fun i hi hne => ?_)
  · simp only [Option.some.injEq] at e
    subst e
    rw [hgt] at q
    simp only [Option.some.injEq, Obj.cells.injEq] at q
    exact absurd q.2.1 (by decide)
  · have hP := OwnF.put hB j hj 0 (by decide) (.string b) b rfl hb
    rw [e0] at hP
    have hO := OwnF.kept hN.bo hG (OwnF.ne_ty hN.bo hN.nb (by decide) hgt)
    exact ⟨hO, by have q := hP; rw [← hg] at q; simpa [setD] using q, hN.nb, hN.ns⟩
  · have hN' := h.nest l[i] (List.getElem_mem hi)
    have hap : l[i].hA ≠ l[k].hA ∧ l[i].dA ≠ l[k].dA := by
      rcases Nat.lt_or_ge i k with q | q
      · exact List.pairwise_iff_getElem.1 h.ap i k hi hk q
      · have := List.pairwise_iff_getElem.1 h.ap k i hk hi (by omega)
        exact ⟨fun e => this.1 e.symm, fun e => this.2 e.symm⟩
    have hM := OwnF.kept hN'.st hG (OwnF.ne_at hN'.st hN'.ns (by rw [← hg]; exact hap.2))
    have hO := OwnF.kept hN'.bo hG (OwnF.ne_ty hN'.bo hN'.nb (by decide) hgt)
    exact ⟨hO, hM, hN'.nb, hN'.ns⟩

abbrev frB (x0 x1 x2 : Nat) (D : ByteArray) : Obj := .cells #[.int .i64 (x0 : Int), .int .i64 (x1 : Int), .int .i64 (x2 : Int), .string D] 51
set_option maxRecDepth 100000 in
set_option maxHeartbeats 1000000 in
theorem pstore_has (y : Hp) (x0 x1 x2 : Nat) (D : ByteArray) (g : Nat) (w : World) (hy : y.hA = some ⟨g, 0, none⟩) (hj : x1 < y.x.h.length) (hl : y.x.h.length ≤ 1000) (hg : g < w.heap.size) (hv : w.cell? ⟨g, x1, none⟩ = some (.bool true)) :
    Calls Try.prog 35 #[hpV y, .agg #[.int .i64 (x0 : Int), .int .i64 (x1 : Int), .int .i64 (x2 : Int), .string D]] w fun e w' => e = .returned (.tuple #[]) ∧ Below w.heap.size w w' := by
  obtain ⟨⟨s, i, c, t, h, d⟩, A1, c1, D1, e1⟩ := y
  simp only at hy hj hl ⊢
  subst hy
  have b0 : Below w.heap.size w ((w.alloc (bxP ⟨⟨s, i, c, t, h, d⟩, some ⟨g, 0, none⟩, c1, D1, e1⟩)).alloc (frB x0 x1 x2 D)) := (alloc_below w _).trans ((alloc_below _ _).mono (by simp))
  have X0 : ((w.alloc (bxP ⟨⟨s, i, c, t, h, d⟩, some ⟨g, 0, none⟩, c1, D1, e1⟩)).alloc (frB x0 x1 x2 D)).heap[w.heap.size]? = some (bxP ⟨⟨s, i, c, t, h, d⟩, some ⟨g, 0, none⟩, c1, D1, e1⟩) := blk_alloc (blk_new w _) _
  have X1 : ((w.alloc (bxP ⟨⟨s, i, c, t, h, d⟩, some ⟨g, 0, none⟩, c1, D1, e1⟩)).alloc (frB x0 x1 x2 D)).heap[w.heap.size + 1]? = some (frB x0 x1 x2 D) := by have := blk_new (w.alloc (bxP ⟨⟨s, i, c, t, h, d⟩, some ⟨g, 0, none⟩, c1, D1, e1⟩)) (frB x0 x1 x2 D); simpa using this
  obtain ⟨f0, f1, f2, f3, f4, f5⟩ := hp_block X0
  simp only [Nat.zero_add] at f0 f1 f2 f3 f4 f5
  have k1 := blk_cell X1 1 (v := .int .i64 (x1 : Int)) rfl
  have hv1 := (b0.cell (p := ⟨g, x1, none⟩) hg).trans hv
  have B0 := Lib.hid b0
  have q0 : (x1 : Int) < (h.length : Int) := by omega
  have q1 : (0 : Int) ≤ (x1 : Int) := by omega
  clear b0 X0 X1 hv
  go_enter Try.func35, Try.ntmps35
  go_wp2_with fail
  go_end0
  exact ⟨rfl, B0.out⟩
set_option maxRecDepth 100000 in
set_option maxHeartbeats 1000000 in
theorem pstore_not (y : Hp) (x0 x1 x2 : Nat) (D : ByteArray) (g g2 : Nat) (x : ByteArray) (w : World) (hy : y.hA = some ⟨g, 0, none⟩) (hy2 : y.dA = some ⟨g2, 0, none⟩) (hj : x1 < y.x.h.length) (hj2 : x1 < y.x.d.length) (hl : y.x.h.length ≤ 1000) (hl2 : y.x.d.length ≤ 1000) (hg : g < w.heap.size) (hg2 : g2 < w.heap.size) (hne : g ≠ g2)
    (hv : w.cell? ⟨g, x1, none⟩ = some (.bool false)) (hf : w.frozen? ⟨g, x1, none⟩ = false) (hv2 : w.cell? ⟨g2, x1, none⟩ = some (.string x)) (hf2 : w.frozen? ⟨g2, x1, none⟩ = false) :
    Calls Try.prog 35 #[hpV y, .agg #[.int .i64 (x0 : Int), .int .i64 (x1 : Int), .int .i64 (x2 : Int), .string D]] w fun e w' => e = .returned (.tuple #[]) ∧ ∃ W, Below w.heap.size w W ∧ w' = (W.setCell ⟨g, x1, none⟩ (.bool true)).setCell ⟨g2, x1, none⟩ (.string D) := by
  obtain ⟨⟨s, i, c, t, h, d⟩, A1, c1, D1, e1⟩ := y
  simp only at hy hy2 hj hj2 hl hl2 ⊢
  subst hy
  subst hy2
  have b0 : Below w.heap.size w ((w.alloc (bxP ⟨⟨s, i, c, t, h, d⟩, some ⟨g, 0, none⟩, c1, some ⟨g2, 0, none⟩, e1⟩)).alloc (frB x0 x1 x2 D)) := (alloc_below w _).trans ((alloc_below _ _).mono (by simp))
  have X0 : ((w.alloc (bxP ⟨⟨s, i, c, t, h, d⟩, some ⟨g, 0, none⟩, c1, some ⟨g2, 0, none⟩, e1⟩)).alloc (frB x0 x1 x2 D)).heap[w.heap.size]? = some (bxP ⟨⟨s, i, c, t, h, d⟩, some ⟨g, 0, none⟩, c1, some ⟨g2, 0, none⟩, e1⟩) := blk_alloc (blk_new w _) _
  have X1 : ((w.alloc (bxP ⟨⟨s, i, c, t, h, d⟩, some ⟨g, 0, none⟩, c1, some ⟨g2, 0, none⟩, e1⟩)).alloc (frB x0 x1 x2 D)).heap[w.heap.size + 1]? = some (frB x0 x1 x2 D) := by have := blk_new (w.alloc (bxP ⟨⟨s, i, c, t, h, d⟩, some ⟨g, 0, none⟩, c1, some ⟨g2, 0, none⟩, e1⟩)) (frB x0 x1 x2 D); simpa using this
  have hv1 := (b0.cell (p := ⟨g, x1, none⟩) hg).trans hv
  have hv3 := (b0.cell (p := ⟨g2, x1, none⟩) hg2).trans hv2
  have hz := b0.size
  have hbg := b0.block g hg
  have hbg2 := b0.block g2 hg2
  have hf1 : ((w.alloc (bxP ⟨⟨s, i, c, t, h, d⟩, some ⟨g, 0, none⟩, c1, some ⟨g2, 0, none⟩, e1⟩)).alloc (frB x0 x1 x2 D)).frozen? ⟨g, x1, none⟩ = false := (World.frozen?_of_block (a := ⟨g, x1, none⟩) hbg).trans hf
  have hf3 : ((w.alloc (bxP ⟨⟨s, i, c, t, h, d⟩, some ⟨g, 0, none⟩, c1, some ⟨g2, 0, none⟩, e1⟩)).alloc (frB x0 x1 x2 D)).frozen? ⟨g2, x1, none⟩ = false := (World.frozen?_of_block (a := ⟨g2, x1, none⟩) hbg2).trans hf2
  obtain ⟨f0, f1, f2, f3, f4, f5⟩ := hp_block X0
  simp only [Nat.zero_add] at f0 f1 f2 f3 f4 f5
  have k1 := blk_cell X1 1 (v := .int .i64 (x1 : Int)) rfl
  have q0 : (x1 : Int) < (h.length : Int) := by omega
  have q1 : (0 : Int) ≤ (x1 : Int) := by omega
  have q2 : (x1 : Int) < (d.length : Int) := by omega
  have B0 := Lib.hid b0
  have X0h := Lib.hid X0
  have X1h := Lib.hid X1
  clear b0 X0 X1 hv hv2 hf hf2 hbg hbg2
  go_enter Try.func35, Try.ntmps35
  go_wp2_with fail
  clear f0 f1 f2 f3 f4 f5 k1
  obtain ⟨W, hW⟩ : ∃ W, (w.alloc (bxP ⟨⟨s, i, c, t, h, d⟩, some ⟨g, 0, none⟩, c1, some ⟨g2, 0, none⟩, e1⟩)).alloc (frB x0 x1 x2 D) = W := ⟨_, rfl⟩
  have hW' : (w.alloc (.cells #[.int .i64 s, .int .i64 i, .int .i64 c, .int .i64 t, .slice (some ⟨g, 0, none⟩) h.length c1, .slice (some ⟨g2, 0, none⟩) d.length e1] 44)).alloc (.cells #[.int .i64 (x0 : Int), .int .i64 (x1 : Int), .int .i64 (x2 : Int), .string D] 51) = W := hW
  rw [hW] at B0 X0h X1h hz hv1 hv3 hf1 hf3
  rw [hW']
  clear hW hW'
  have gw : w.heap.size ≠ g := by omega
  have gw1 : w.heap.size + 1 ≠ g := by omega
  have gw2 : w.heap.size ≠ g2 := by omega
  have gw3 : w.heap.size + 1 ≠ g2 := by omega
  have Y0 : W.drew.heap[w.heap.size]? = some (bxP ⟨⟨s, i, c, t, h, d⟩, some ⟨g, 0, none⟩, c1, some ⟨g2, 0, none⟩, e1⟩) := X0h.out
  have Y1 : W.drew.heap[w.heap.size + 1]? = some (frB x0 x1 x2 D) := X1h.out
  replace hv1 : W.drew.cell? ⟨g, x1, none⟩ = some (.bool false) := hv1
  replace hf1 : W.drew.frozen? ⟨g, x1, none⟩ = false := hf1
  replace hv3 : W.drew.cell? ⟨g2, x1, none⟩ = some (.string x) := hv3
  replace hf3 : W.drew.frozen? ⟨g2, x1, none⟩ = false := hf3
  have Y2 := blk_other Y0 (a := ⟨g, x1, none⟩) gw (.bool true)
  have Y3 := blk_other Y1 (a := ⟨g, x1, none⟩) gw1 (.bool true)
  have hv4 : (W.drew.setCell ⟨g, x1, none⟩ (.bool true)).cell? ⟨g2, x1, none⟩ = some (.string x) := (World.cell?_of_block (a := ⟨g2, x1, none⟩) (Below.heap_setCell W.drew ⟨g, x1, none⟩ (.bool true) g2 (fun e => hne e.symm))).trans hv3
  have hf4 : (W.drew.setCell ⟨g, x1, none⟩ (.bool true)).frozen? ⟨g2, x1, none⟩ = false := (World.frozen?_of_block (a := ⟨g2, x1, none⟩) (Below.heap_setCell W.drew ⟨g, x1, none⟩ (.bool true) g2 (fun e => hne e.symm))).trans hf3
  have Y4 := blk_other Y2 (a := ⟨g2, x1, none⟩) gw2 (.string D)
  have Y5 := blk_other Y3 (a := ⟨g2, x1, none⟩) gw3 (.string D)
  have S1 : W.drew.cell? ⟨w.heap.size, 4, none⟩ = some (.slice (some ⟨g, 0, none⟩) h.length c1) ∧ W.drew.cell? ⟨w.heap.size, 5, none⟩ = some (.slice (some ⟨g2, 0, none⟩) d.length e1) ∧ W.drew.cell? ⟨w.heap.size + 1, 1, none⟩ = some (.int .i64 (x1 : Int)) ∧ W.drew.cell? ⟨w.heap.size + 1, 3, none⟩ = some (.string D) := ⟨blk_cell Y0 4 rfl, blk_cell Y0 5 rfl, blk_cell Y1 1 rfl, blk_cell Y1 3 rfl⟩
  have S2 : Hid (((W.drew.setCell ⟨g, x1, none⟩ (.bool true)).cell? ⟨w.heap.size, 4, none⟩ = some (.slice (some ⟨g, 0, none⟩) h.length c1) ∧ (W.drew.setCell ⟨g, x1, none⟩ (.bool true)).cell? ⟨w.heap.size, 5, none⟩ = some (.slice (some ⟨g2, 0, none⟩) d.length e1) ∧ (W.drew.setCell ⟨g, x1, none⟩ (.bool true)).cell? ⟨w.heap.size + 1, 1, none⟩ = some (.int .i64 (x1 : Int)) ∧ (W.drew.setCell ⟨g, x1, none⟩ (.bool true)).cell? ⟨w.heap.size + 1, 3, none⟩ = some (.string D))) := Lib.hid ⟨blk_cell Y2 4 rfl, blk_cell Y2 5 rfl, blk_cell Y3 1 rfl, blk_cell Y3 3 rfl⟩
  have S3 : Hid ((((W.drew.setCell ⟨g, x1, none⟩ (.bool true)).setCell ⟨g2, x1, none⟩ (.string D)).cell? ⟨w.heap.size, 4, none⟩ = some (.slice (some ⟨g, 0, none⟩) h.length c1) ∧ ((W.drew.setCell ⟨g, x1, none⟩ (.bool true)).setCell ⟨g2, x1, none⟩ (.string D)).cell? ⟨w.heap.size, 5, none⟩ = some (.slice (some ⟨g2, 0, none⟩) d.length e1) ∧ ((W.drew.setCell ⟨g, x1, none⟩ (.bool true)).setCell ⟨g2, x1, none⟩ (.string D)).cell? ⟨w.heap.size + 1, 1, none⟩ = some (.int .i64 (x1 : Int)) ∧ ((W.drew.setCell ⟨g, x1, none⟩ (.bool true)).setCell ⟨g2, x1, none⟩ (.string D)).cell? ⟨w.heap.size + 1, 3, none⟩ = some (.string D))) := Lib.hid ⟨blk_cell Y4 4 rfl, blk_cell Y4 5 rfl, blk_cell Y5 1 rfl, blk_cell Y5 3 rfl⟩
  have BD := Lib.hid (below_drewN B0.out 1)
  clear hz gw gw1 gw2 gw3 Y0 Y1 Y2 Y3 Y4 Y5 X0h X1h B0
  replace hv3 : W.cell? ⟨g2, x1, none⟩ = some (.string x) := hv3
  replace hf3 : W.frozen? ⟨g2, x1, none⟩ = false := hf3
  go_wp2_with fail
  refine wp_region_held_drew (S := (fun wy : World => wy.cell? ⟨w.heap.size, 4, none⟩ = some (.slice (some ⟨g, 0, none⟩) h.length c1) ∧ wy.cell? ⟨w.heap.size, 5, none⟩ = some (.slice (some ⟨g2, 0, none⟩) d.length e1) ∧ wy.cell? ⟨w.heap.size + 1, 1, none⟩ = some (.int .i64 (x1 : Int)) ∧ wy.cell? ⟨w.heap.size + 1, 3, none⟩ = some (.string D))) (by kernel_rfl) (S1) (fun hHeld => ?_)
  refine wpAnyH_take (i := 0) (v := (.pointer (some ⟨w.heap.size, 4, none⟩))) at_zero (by kernel_rfl) (by kernel_rfl) (by kernel_rfl) (fun _ _ _ h => h) (Or.inl ⟨by kernel_rfl, fun wy hSw => ?_⟩) (by assumption) ?_
  · (try dsimp only at hSw); go_simp
  try simp only [Act.put, List.setIfInBounds_toArray, List.set_cons_zero, List.set_cons_succ]
  refine wpAnyH_take (i := 1) (v := (.slice (some ⟨g, 0, none⟩) h.length c1)) (at_succ at_zero) (by kernel_rfl) (by kernel_rfl) (by kernel_rfl) (fun _ _ _ h => h) (Or.inl ⟨by kernel_rfl, fun wy hSw => ?_⟩) (by assumption) ?_
  · (try dsimp only at hSw); obtain ⟨u0, u1, u2, u3⟩ := hSw; go_simp
  try simp only [Act.put, List.setIfInBounds_toArray, List.set_cons_zero, List.set_cons_succ]
  refine wpAnyH_take (i := 2) (v := (.pointer (some ⟨w.heap.size + 1, 1, none⟩))) (at_succ (at_succ at_zero)) (by kernel_rfl) (by kernel_rfl) (by kernel_rfl) (fun _ _ _ h => h) (Or.inl ⟨by kernel_rfl, fun wy hSw => ?_⟩) (by assumption) ?_
  · (try dsimp only at hSw); go_simp
  try simp only [Act.put, List.setIfInBounds_toArray, List.set_cons_zero, List.set_cons_succ]
  refine wpAnyH_take (i := 3) (v := (.int .i64 (x1 : Int))) (at_succ (at_succ (at_succ at_zero))) (by kernel_rfl) (by kernel_rfl) (by kernel_rfl) (fun _ _ _ h => h) (Or.inl ⟨by kernel_rfl, fun wy hSw => ?_⟩) (by assumption) ?_
  · (try dsimp only at hSw); obtain ⟨u0, u1, u2, u3⟩ := hSw; go_simp
  try simp only [Act.put, List.setIfInBounds_toArray, List.set_cons_zero, List.set_cons_succ]
  refine wpAnyH_take (i := 4) (v := (.pointer (some ⟨w.heap.size, 5, none⟩))) (at_succ (at_succ (at_succ (at_succ at_zero)))) (by kernel_rfl) (by kernel_rfl) (by kernel_rfl) (fun _ _ _ h => h) (Or.inl ⟨by kernel_rfl, fun wy hSw => ?_⟩) (by assumption) ?_
  · (try dsimp only at hSw); go_simp
  try simp only [Act.put, List.setIfInBounds_toArray, List.set_cons_zero, List.set_cons_succ]
  refine wpAnyH_take (i := 5) (v := (.slice (some ⟨g2, 0, none⟩) d.length e1)) (at_succ (at_succ (at_succ (at_succ (at_succ at_zero))))) (by kernel_rfl) (by kernel_rfl) (by kernel_rfl) (fun _ _ _ h => h) (Or.inl ⟨by kernel_rfl, fun wy hSw => ?_⟩) (by assumption) ?_
  · (try dsimp only at hSw); obtain ⟨u0, u1, u2, u3⟩ := hSw; go_simp
  try simp only [Act.put, List.setIfInBounds_toArray, List.set_cons_zero, List.set_cons_succ]
  refine wpAnyH_take (i := 6) (v := (.pointer (some ⟨w.heap.size + 1, 1, none⟩))) (at_succ (at_succ (at_succ (at_succ (at_succ (at_succ at_zero)))))) (by kernel_rfl) (by kernel_rfl) (by kernel_rfl) (fun _ _ _ h => h) (Or.inl ⟨by kernel_rfl, fun wy hSw => ?_⟩) (by assumption) ?_
  · (try dsimp only at hSw); go_simp
  try simp only [Act.put, List.setIfInBounds_toArray, List.set_cons_zero, List.set_cons_succ]
  refine wpAnyH_take (i := 7) (v := (.int .i64 (x1 : Int))) (at_succ (at_succ (at_succ (at_succ (at_succ (at_succ (at_succ at_zero))))))) (by kernel_rfl) (by kernel_rfl) (by kernel_rfl) (fun _ _ _ h => h) (Or.inl ⟨by kernel_rfl, fun wy hSw => ?_⟩) (by assumption) ?_
  · (try dsimp only at hSw); obtain ⟨u0, u1, u2, u3⟩ := hSw; go_simp
  try simp only [Act.put, List.setIfInBounds_toArray, List.set_cons_zero, List.set_cons_succ]
  refine wpAnyH_take (i := 8) (v := (.pointer (some ⟨w.heap.size + 1, 3, none⟩))) (at_succ (at_succ (at_succ (at_succ (at_succ (at_succ (at_succ (at_succ at_zero)))))))) (by kernel_rfl) (by kernel_rfl) (by kernel_rfl) (fun _ _ _ h => h) (Or.inl ⟨by kernel_rfl, fun wy hSw => ?_⟩) (by assumption) ?_
  · (try dsimp only at hSw); go_simp
  try simp only [Act.put, List.setIfInBounds_toArray, List.set_cons_zero, List.set_cons_succ]
  refine wpAnyH_take (i := 9) (v := (.string D)) (at_succ (at_succ (at_succ (at_succ (at_succ (at_succ (at_succ (at_succ (at_succ at_zero))))))))) (by kernel_rfl) (by kernel_rfl) (by kernel_rfl) (fun _ _ _ h => h) (Or.inl ⟨by kernel_rfl, fun wy hSw => ?_⟩) (by assumption) ?_
  · (try dsimp only at hSw); obtain ⟨u0, u1, u2, u3⟩ := hSw; go_simp
  try simp only [Act.put, List.setIfInBounds_toArray, List.set_cons_zero, List.set_cons_succ]
  refine wpAnyH_take (i := 10) (v := (.pointer (some ⟨g, x1, none⟩))) (at_succ (at_succ (at_succ (at_succ (at_succ (at_succ (at_succ (at_succ (at_succ (at_succ at_zero)))))))))) (by kernel_rfl) (by kernel_rfl) (by kernel_rfl) (fun _ _ _ h => h) (Or.inl ⟨by kernel_rfl, fun wy hSw => ?_⟩) (by assumption) ?_
  · (try dsimp only at hSw); go_simp
  try simp only [Act.put, List.setIfInBounds_toArray, List.set_cons_zero, List.set_cons_succ]
  refine wpAnyH_ready (rs := [11]) (by kernel_rfl) (by simp) ?_
  refine AllReadyH.cons (at_succ (at_succ (at_succ (at_succ (at_succ (at_succ (at_succ (at_succ (at_succ (at_succ (at_succ at_zero))))))))))) (fun K hK => ?_) AllReadyH.nil
  rw [if_pos (by kernel_rfl)]
  go_simp
  refine hK.out _ _ (S2.out) (fun hHeld => ?_)
  clear hK K
  try simp only [Act.put, List.setIfInBounds_toArray, List.set_cons_zero, List.set_cons_succ]
  refine wpAnyH_take (i := 12) (v := (.pointer (some ⟨g2, x1, none⟩))) (at_succ (at_succ (at_succ (at_succ (at_succ (at_succ (at_succ (at_succ (at_succ (at_succ (at_succ (at_succ at_zero)))))))))))) (by kernel_rfl) (by kernel_rfl) (by kernel_rfl) (fun _ _ _ h => h) (Or.inl ⟨by kernel_rfl, fun wy hSw => ?_⟩) (by assumption) ?_
  · (try dsimp only at hSw); go_simp
  try simp only [Act.put, List.setIfInBounds_toArray, List.set_cons_zero, List.set_cons_succ]
  refine wpAnyH_ready (rs := [13]) (by kernel_rfl) (by simp) ?_
  refine AllReadyH.cons (at_succ (at_succ (at_succ (at_succ (at_succ (at_succ (at_succ (at_succ (at_succ (at_succ (at_succ (at_succ (at_succ at_zero))))))))))))) (fun K hK => ?_) AllReadyH.nil
  rw [if_pos (by kernel_rfl)]
  go_simp
  refine hK.out _ _ (S3.out) (fun hHeld => ?_)
  clear hK K
  try simp only [Act.put, List.setIfInBounds_toArray, List.set_cons_zero, List.set_cons_succ]
  refine wpAnyH_done (by kernel_rfl) ?_ _
  go_wp2_with fail
  go_end0
  exact ⟨rfl, W.drew, BD.out, rfl⟩
end Go.Proofs.Ytljcjflbfjleoaa.Frg
