/- Package frag: withoutPieces, copied; slices.Delete. -/
import Derived.Test.YtljcjflbfjleoaaFgX4
import Derived.Test.YtljcjflbfjleoaaCp
set_option linter.unusedVariables false
namespace Go.Proofs.Ytljcjflbfjleoaa.Frg
open Go.RowKit

/-- Entries of the call's own, wherever their row begins. -/
structure OwnV (w : World) (B : Nat) (A : Option Addr) (c : Nat) (l : List Hp) : Prop where
  row : (A = none ∧ c = 0 ∧ l = []) ∨ OwnT fP 44 w B (.slice A l.length c) l
  nest : ∀ y ∈ l, OwnN w B y
  ap : l.Pairwise fun a b => a.hA ≠ b.hA ∧ a.dA ≠ b.dA
theorem OwnV.nil (w : World) (B : Nat) : OwnV w B none 0 [] := ⟨Or.inl ⟨rfl, rfl, rfl⟩, fun y hy => (by cases hy), List.Pairwise.nil⟩
theorem OwnV.q {w : World} {B : Nat} {A : Option Addr} {c : Nat} {l : List Hp} (h : OwnV w B A c l) : OwnQ w B A c l := by
  refine ⟨?_, fun b p e => ?_, h.nest, h.ap⟩
  · rcases h.row with ⟨rfl, rfl, rfl⟩ | h
    · exact SlS.nil w
    · obtain ⟨A1, c1, e, hs⟩ := h.slS
      simp only [Value.slice.injEq, true_and] at e
      obtain ⟨rfl, rfl⟩ := e
      exact hs
  · rcases h.row with ⟨rfl, _, _⟩ | h
    · cases e
    · obtain ⟨g, off, cap, cur, e1, h1, h2, _⟩ := h
      subst e
      simp only [Value.slice.injEq, Option.some.injEq, Addr.mk.injEq, and_true] at e1
      obtain ⟨⟨rfl, _⟩, _⟩ := e1
      exact ⟨h1, cur, _, h2⟩
theorem OwnV.below {w w' : World} {B : Nat} {A : Option Addr} {c : Nat} {l : List Hp} (h : OwnV w B A c l) (hb : Below w.heap.size w w') : OwnV w' B A c l := ⟨h.row.imp_right fun o => o.below hb, fun y hy => (h.nest y hy).below hb, h.ap⟩
theorem OwnV.down {w : World} {B B' : Nat} {A : Option Addr} {c : Nat} {l : List Hp} (h : OwnV w B A c l) (hB : B' ≤ B) : OwnV w B' A c l := ⟨h.row.imp_right fun o => o.down hB, fun y hy => (h.nest y hy).down hB, h.ap⟩
theorem OwnN.keptRow {w w' : World} {B : Nat} {y : Hp} (h : OwnN w B y) {g : Nat} {cur : Array Value} (hg : w.grownBy w' (some g)) (hb : w.heap[g]? = some (.cells cur 44 (0, 0))) : OwnN w' B y :=
  h.kept hg fun k e => by
    simp only [Option.some.injEq] at e
    subst e
    exact ⟨cur, _, hb⟩

/-- An entry of which no piece has arrived. -/
def blank (x : Pt) (n : Nat) : Pt := { x with h := List.replicate n false, d := List.replicate n eb }
def WoR (w : World) (x : Pt) (n : Nat) (e : Ending) (w' : World) : Prop := ∃ g g2, e = .returned (hpV ⟨blank x n, some ⟨g, 0, none⟩, n, some ⟨g2, 0, none⟩, n⟩) ∧ OwnN w' w.heap.size ⟨blank x n, some ⟨g, 0, none⟩, n, some ⟨g2, 0, none⟩, n⟩ ∧ Below w.heap.size w w'
set_option maxRecDepth 100000 in
set_option maxHeartbeats 4000000 in
theorem pwout_any (y : Hp) (n : Nat) (w : World) (hn : n ≤ 1000) (hc : y.x.c = n) : Calls Try.prog 34 #[hpV y] w (WoR w y.x n) := by
  obtain ⟨⟨s, i, c, t, h, d⟩, A1, c1, D1, e1⟩ := y
  simp only at hc ⊢
  subst hc
  have b0 : Below w.heap.size w ((w.alloc (bxP ⟨⟨s, i, (n : Int), t, h, d⟩, A1, c1, D1, e1⟩)).alloc (bxP zp)) := (alloc_below w (bxP ⟨⟨s, i, (n : Int), t, h, d⟩, A1, c1, D1, e1⟩)).trans ((alloc_below (w.alloc (bxP ⟨⟨s, i, (n : Int), t, h, d⟩, A1, c1, D1, e1⟩)) (bxP zp)).mono (by simp))
  have X1 : ((w.alloc (bxP ⟨⟨s, i, (n : Int), t, h, d⟩, A1, c1, D1, e1⟩)).alloc (bxP zp)).heap[w.heap.size]? = some (bxP ⟨⟨s, i, (n : Int), t, h, d⟩, A1, c1, D1, e1⟩) := blk_alloc (blk_new w _) _
  have R1 : ((w.alloc (bxP ⟨⟨s, i, (n : Int), t, h, d⟩, A1, c1, D1, e1⟩)).alloc (bxP zp)).heap[w.heap.size + 1]? = some (bxP zp) := by have := blk_new (w.alloc (bxP ⟨⟨s, i, (n : Int), t, h, d⟩, A1, c1, D1, e1⟩)) (bxP zp); simpa using this
  have hz1 : ((w.alloc (bxP ⟨⟨s, i, (n : Int), t, h, d⟩, A1, c1, D1, e1⟩)).alloc (bxP zp)).heap.size = w.heap.size + 2 := by simp
  have f1 := (hp_block X1).2.2.1
  have hmk := mk_bools n hn ((w.alloc (bxP ⟨⟨s, i, (n : Int), t, h, d⟩, A1, c1, D1, e1⟩)).alloc (bxP zp))
  have ho3 := made_bools ((w.alloc (bxP ⟨⟨s, i, (n : Int), t, h, d⟩, A1, c1, D1, e1⟩)).alloc (bxP zp)) (w.heap.size + 2) n (by omega) hn
  have hb3 := alloc_below ((w.alloc (bxP ⟨⟨s, i, (n : Int), t, h, d⟩, A1, c1, D1, e1⟩)).alloc (bxP zp)) (.cells (madeCells #[.bool false] n) 4)
  obtain ⟨w3, hw3⟩ : ∃ w3, ((w.alloc (bxP ⟨⟨s, i, (n : Int), t, h, d⟩, A1, c1, D1, e1⟩)).alloc (bxP zp)).alloc (.cells (madeCells #[.bool false] n) 4) = w3 := ⟨_, rfl⟩
  rw [hw3] at hmk ho3 hb3
  obtain ⟨g, hg⟩ : ∃ g, ((w.alloc (bxP ⟨⟨s, i, (n : Int), t, h, d⟩, A1, c1, D1, e1⟩)).alloc (bxP zp)).heap.size = g := ⟨_, rfl⟩
  rw [hg] at hmk ho3
  have bz3 : w.heap.size + 2 ≤ w3.heap.size := by have := hb3.size; omega
  have X3 := blk_below X1 hb3 (by omega)
  have R3 := blk_below R1 hb3 (by omega)
  have Y4 := blk_set X3 4 (.slice (some ⟨g, 0, none⟩) n n)
  rw [show (#[Value.int .i64 s, .int .i64 i, .int .i64 (n : Int), .int .i64 t, .slice A1 h.length c1, .slice D1 d.length e1] : Array Value).setIfInBounds 4 (.slice (some ⟨g, 0, none⟩) n n) = #[Value.int .i64 s, .int .i64 i, .int .i64 (n : Int), .int .i64 t, .slice (some ⟨g, 0, none⟩) n n, .slice D1 d.length e1] from rfl] at Y4
  obtain ⟨w4, hw4⟩ : ∃ w4, w3.setCell ⟨w.heap.size, 4, none⟩ (.slice (some ⟨g, 0, none⟩) n n) = w4 := ⟨_, rfl⟩
  rw [hw4] at Y4
  have R4 : w4.heap[w.heap.size + 1]? = some (bxP zp) := by rw [← hw4]; exact blk_other R3 (by simp) _
  have b4 : Below w.heap.size w w4 := by rw [← hw4]; exact (b0.trans (hb3.mono (by omega))).setCell (Nat.le_refl _) _
  have o4 : OwnF fBo 4 w4 (w.heap.size + 2) (.slice (some ⟨g, 0, none⟩) n n) (List.replicate n false) := by rw [← hw4]; exact own_set ho3 _ _ (by show w.heap.size < w.heap.size + 2; omega)
  have sz4 : w4.heap.size = w3.heap.size := by rw [← hw4, World.size_setCell]
  have hmk2 := mk_texts n hn w4
  have ho6 := made_texts w4 (w.heap.size + 2) n (by omega) hn
  have hb6 := alloc_below w4 (.cells (madeCells #[.string ⟨#[]⟩] n) 9)
  obtain ⟨w6, hw6⟩ : ∃ w6, w4.alloc (.cells (madeCells #[.string ⟨#[]⟩] n) 9) = w6 := ⟨_, rfl⟩
  rw [hw6] at hmk2 ho6 hb6
  obtain ⟨g2, hg2⟩ : ∃ g, w4.heap.size = g := ⟨_, rfl⟩
  rw [hg2] at hmk2 ho6
  have o6 := o4.below hb6
  have X6 := blk_below Y4 hb6 (by omega)
  have R6 := blk_below R4 hb6 (by omega)
  have Y7 := blk_set X6 5 (.slice (some ⟨g2, 0, none⟩) n n)
  rw [show (#[Value.int .i64 s, .int .i64 i, .int .i64 (n : Int), .int .i64 t, .slice (some ⟨g, 0, none⟩) n n, .slice D1 d.length e1] : Array Value).setIfInBounds 5 (.slice (some ⟨g2, 0, none⟩) n n) = #[Value.int .i64 s, .int .i64 i, .int .i64 (n : Int), .int .i64 t, .slice (some ⟨g, 0, none⟩) n n, .slice (some ⟨g2, 0, none⟩) n n] from rfl] at Y7
  obtain ⟨w7, hw7⟩ : ∃ w7, w6.setCell ⟨w.heap.size, 5, none⟩ (.slice (some ⟨g2, 0, none⟩) n n) = w7 := ⟨_, rfl⟩
  rw [hw7] at Y7
  have R7 : w7.heap[w.heap.size + 1]? = some (bxP zp) := by rw [← hw7]; exact blk_other R6 (by simp) _
  have b7 : Below w.heap.size w w7 := by rw [← hw7]; exact (b4.trans (hb6.mono b4.size)).setCell (Nat.le_refl _) _
  have o7 : OwnF fBo 4 w7 (w.heap.size + 2) (.slice (some ⟨g, 0, none⟩) n n) (List.replicate n false) := by rw [← hw7]; exact own_set o6 _ _ (by show w.heap.size < w.heap.size + 2; omega)
  have p7 : OwnF fSt 9 w7 (w.heap.size + 2) (.slice (some ⟨g2, 0, none⟩) n n) (List.replicate n eb) := by rw [← hw7]; exact own_set ho6 _ _ (by show w.heap.size < w.heap.size + 2; omega)
  obtain ⟨Y, hY⟩ : ∃ Y : Hp, Y = ⟨blank ⟨s, i, (n : Int), t, h, d⟩ n, some ⟨g, 0, none⟩, n, some ⟨g2, 0, none⟩, n⟩ := ⟨_, rfl⟩
  have hYb : bxP Y = .cells #[.int .i64 s, .int .i64 i, .int .i64 (n : Int), .int .i64 t, .slice (some ⟨g, 0, none⟩) n n, .slice (some ⟨g2, 0, none⟩) n n] 44 := by subst hY; simp [blank]
  have hYv : hpV Y = .agg #[.int .i64 s, .int .i64 i, .int .i64 (n : Int), .int .i64 t, .slice (some ⟨g, 0, none⟩) n n, .slice (some ⟨g2, 0, none⟩) n n] := by subst hY; simp [blank]
  have RES : WoR w ⟨s, i, (n : Int), t, h, d⟩ n (.returned (hpV Y)) (put6 w7 (w.heap.size + 1) Y) := by
    have hg1 := put6_grown w7 (w.heap.size + 1) Y
    have n1 := (OwnF.kept o7 hg1 (Or.inr (fun q => by simp only [Value.ownBlock, Option.some.injEq] at q; have := (o7.lt g rfl).1; omega))).down (show w.heap.size ≤ w.heap.size + 2 by omega)
    have n2 := (OwnF.kept p7 hg1 (Or.inr (fun q => by simp only [Value.ownBlock, Option.some.injEq] at q; have := (p7.lt g2 rfl).1; omega))).down (show w.heap.size ≤ w.heap.size + 2 by omega)
    have hbl : Below w.heap.size w (put6 w7 (w.heap.size + 1) Y) := by unfold put6; exact (((((b7.setCell (Nat.le_succ _) _).setCell (Nat.le_succ _) _).setCell (Nat.le_succ _) _).setCell (Nat.le_succ _) _).setCell (Nat.le_succ _) _).setCell (Nat.le_succ _) _
    subst hY
    exact ⟨g, g2, rfl, ⟨by simpa [blank] using n1, by simpa [blank] using n2, fun q => (by cases q), fun q => (by cases q)⟩, hbl⟩
  have Z := put6_blk R7 Y
  unfold put6 at RES Z
  rw [hYb] at Z
  rw [hYv] at RES
  have eY : Y.x.s = s ∧ Y.x.i = i ∧ Y.x.c = (n : Int) ∧ Y.x.t = t ∧ Y.hA = some ⟨g, 0, none⟩ ∧ Y.x.h.length = n ∧ Y.hc = n ∧ Y.dA = some ⟨g2, 0, none⟩ ∧ Y.x.d.length = n ∧ Y.dc = n := by subst hY; simp [blank]
  obtain ⟨y0, y1, y2, y3, y4, y5, y6, y7, y8, y9⟩ := eY
  rw [y0, y1, y2, y3, y4, y5, y6, y7, y8, y9] at RES Z
  replace RES := Lib.hid RES
  replace Z := Lib.hid Z
  have fr3 := fun j => blk_fr X3 j
  have k3 := blk_cell X3 4 (v := .slice A1 h.length c1) rfl
  have k4 := blk_cell Y4 2 (v := .int .i64 (n : Int)) rfl
  have k6 := blk_cell X6 5 (v := .slice D1 d.length e1) rfl
  have fr6 := fun j => blk_fr X6 j
  have g0 := blk_cell Y7 0 (v := .int .i64 s) rfl
  have g1 := blk_cell Y7 1 (v := .int .i64 i) rfl
  have g2' := blk_cell Y7 2 (v := .int .i64 (n : Int)) rfl
  have g3 := blk_cell Y7 3 (v := .int .i64 t) rfl
  have g4 := blk_cell Y7 4 (v := .slice (some ⟨g, 0, none⟩) n n) rfl
  have g5 := blk_cell Y7 5 (v := .slice (some ⟨g2, 0, none⟩) n n) rfl
  have fr7 := fun j => blk_fr R7 j
  obtain ⟨z0, z1, z2, z3, z4, z5⟩ := hp_block R7
  simp only [Nat.zero_add] at f1
  simp only [bxP, List.length_nil] at hmk
  clear sz4 b0 X1 R1 hz1 ho3 hb3 bz3 X3 R3 Y4 R4 b4 o4 ho6 hb6 o6 X6 R6 Y7 R7 b7 o7 p7 hw3 hw6 hg hg2 hY hYb hYv y0 y1 y2 y3 y4 y5 y6 y7 y8 y9 Y
  go_enter Try.func34, Try.ntmps34
  go_wp2_with fail
  have r0 := blk_cell Z.out 0 (v := .int .i64 s) rfl
  have r1 := blk_cell Z.out 1 (v := .int .i64 i) rfl
  have r2 := blk_cell Z.out 2 (v := .int .i64 (n : Int)) rfl
  have r3 := blk_cell Z.out 3 (v := .int .i64 t) rfl
  have r4 := blk_cell Z.out 4 (v := .slice (some ⟨g, 0, none⟩) n n) rfl
  have r5 := blk_cell Z.out 5 (v := .slice (some ⟨g2, 0, none⟩) n n) rfl
  refine bodyPost_ret (v := .agg #[.int .i64 s, .int .i64 i, .int .i64 (n : Int), .int .i64 t, .slice (some ⟨g, 0, none⟩) n n, .slice (some ⟨g2, 0, none⟩) n n]) (by simp [results, Try.results34, go_sem, r0, r1, r2, r3, r4, r5]) rfl RES.out

theorem setRow_grown (w : World) (g : Nat) (cs : Array Value) : w.grownBy (w.setRow g cs) (some g) :=
  ⟨rfl, rfl, rfl, by simp [World.setRow], fun k hk hr => setRow_other w g k cs (fun e => hr (by rw [e]))⟩
/-- 'copy' into a row of the call's own, whole. -/
theorem copy_own {α : Type} {F : Flat α} (hz : F.sz = 1) {T t : TypeId} (ut : Try.prog.underlying t = some (.slice T)) (hs : (Try.prog.info? T).map (·.size) = some 1) {w : World} {B g n : Nat} {l0 l : List α} (ho : OwnF F T w B (.slice (some ⟨g, 0, none⟩) n n) l0)
    {A : Option Addr} {c : Nat} (hr : SlS F w A c l) (hl : l.length = n) (h0 : l0.length = n) (hn : 0 < n ∧ n ≤ 1000) :
    ∃ w', (∀ ty, (Builtin.copy_ #[t, t] ty #[.slice (some ⟨g, 0, none⟩) n n, .slice A n c]).run Try.prog w = .ok (goInt n) w') ∧ OwnF F T w' B (.slice (some ⟨g, 0, none⟩) n n) l ∧ w.grownBy w' (some g) := by
  subst hl
  obtain ⟨b, p, rfl, _⟩ := hr.1 0 hn.1
  rcases ho.1.2 with ⟨e, _⟩ | ⟨g', cap, cur, e, hB, hblk, hle, hmx, hsz, _⟩
  · simp at e
  simp only [Value.slice.injEq, Option.some.injEq, Addr.mk.injEq, and_true] at e
  obtain ⟨rfl, _, rfl⟩ := e
  have hcl : (l.flatMap F.enc).length = l.length := by rw [flat_len, hz, Nat.mul_one]
  have hcs : cur.size = l.length := by rw [hsz, hz, Nat.mul_one]
  have ec : (cur.toList.take 0 ++ l.flatMap F.enc ++ cur.toList.drop (0 + (l.flatMap F.enc).length)).toArray = (l.flatMap F.enc).toArray := by
    rw [List.take_zero, List.nil_append, hcl, Nat.zero_add, List.drop_of_length_le (by rw [Array.length_toList]; omega), List.append_nil]
  refine ⟨w.setRow g (l.flatMap F.enc).toArray, fun ty => ?_, ⟨⟨by rw [flat_len], Or.inr ⟨g, l.length, (l.flatMap F.enc).toArray, rfl, hB, setRow_heap w g cur _ T (0, 0) hblk, Nat.le_refl _, hmx, by rw [List.size_toArray, flat_len], ?_⟩⟩, hr.1.ok⟩, setRow_grown w g _⟩
  · have := run_copy_row_k (P := Try.prog) w t t ty T 1 g 0 l.length l.length ⟨b, p, none⟩ l.length c cur T (l.flatMap F.enc) ut hs hblk (by rw [hcl]; simp) hr.1.cells (by rw [hcl, hcs]; omega) (flat_one l)
    rw [ec] at this
    rw [this]
    simp
  · rw [List.take_of_length_le (by rw [flat_len]; exact Nat.le_refl _)]
set_option maxRecDepth 100000 in
set_option maxHeartbeats 4000000 in
theorem pcopied_any (y : Hp) (n : Nat) (w : World) (hn : 0 < n ∧ n ≤ 1000) (hc : y.x.c = n ∧ y.x.h.length = n ∧ y.x.d.length = n) (hN : Nest w y) : Calls Try.prog 48 #[hpV y] w (CopyR w y.x) := by
  obtain ⟨⟨s, i, c, t, h, d⟩, A1, c1, D1, e1⟩ := y
  simp only at hc ⊢
  obtain ⟨rfl, hh, hd⟩ := hc
  have b0 : Below w.heap.size w ((w.alloc (bxP ⟨⟨s, i, (n : Int), t, h, d⟩, A1, c1, D1, e1⟩)).alloc (bxP zp)) := (alloc_below w (bxP ⟨⟨s, i, (n : Int), t, h, d⟩, A1, c1, D1, e1⟩)).trans ((alloc_below (w.alloc (bxP ⟨⟨s, i, (n : Int), t, h, d⟩, A1, c1, D1, e1⟩)) (bxP zp)).mono (by simp))
  have X1 : ((w.alloc (bxP ⟨⟨s, i, (n : Int), t, h, d⟩, A1, c1, D1, e1⟩)).alloc (bxP zp)).heap[w.heap.size]? = some (bxP ⟨⟨s, i, (n : Int), t, h, d⟩, A1, c1, D1, e1⟩) := blk_alloc (blk_new w _) _
  have R1 : ((w.alloc (bxP ⟨⟨s, i, (n : Int), t, h, d⟩, A1, c1, D1, e1⟩)).alloc (bxP zp)).heap[w.heap.size + 1]? = some (bxP zp) := by have := blk_new (w.alloc (bxP ⟨⟨s, i, (n : Int), t, h, d⟩, A1, c1, D1, e1⟩)) (bxP zp); simpa using this
  have hz1 : ((w.alloc (bxP ⟨⟨s, i, (n : Int), t, h, d⟩, A1, c1, D1, e1⟩)).alloc (bxP zp)).heap.size = w.heap.size + 2 := by simp
  have KW := Lib.hid (pwout_any ⟨⟨s, i, (n : Int), t, h, d⟩, A1, c1, D1, e1⟩ n ((w.alloc (bxP ⟨⟨s, i, (n : Int), t, h, d⟩, A1, c1, D1, e1⟩)).alloc (bxP zp)) hn.2 rfl)
  unfold WoR blank at KW
  simp only [hpV, List.length_replicate] at KW
  obtain ⟨f0, f1, f2, f3, f4, f5⟩ := hp_block X1
  simp only [Nat.zero_add] at f0 f1 f2 f3 f4 f5
  have X1h := Lib.hid X1
  have R1h := Lib.hid R1
  have b0h := Lib.hid b0
  have hz1h := Lib.hid hz1
  have hNh := Lib.hid hN
  have hh1 : h.length ≤ n := by omega
  have hh2 : n ≤ h.length := by omega
  have hd1 : d.length ≤ n := by omega
  have hd2 : n ≤ d.length := by omega
  clear X1 R1 b0 hz1 hN hh hd
  go_enter Try.func48, Try.ntmps48
  go_wp2_with fail
  clear f0 f1 f2 f3 f4 f5
  obtain ⟨W, hW⟩ : ∃ W, (w.alloc (bxP ⟨⟨s, i, (n : Int), t, h, d⟩, A1, c1, D1, e1⟩)).alloc (bxP zp) = W := ⟨_, rfl⟩
  have hW' : (w.alloc (.cells #[.int .i64 s, .int .i64 i, .int .i64 (n : Int), .int .i64 t, .slice A1 h.length c1, .slice D1 d.length e1] 44)).alloc (.cells #[.int .i64 0, .int .i64 0, .int .i64 0, .int .i64 0, .slice none 0 0, .slice none 0 0] 44) = W := hW
  rw [hW] at KW X1h R1h b0h hz1h
  rw [hW']
  refine KW.out.mono ?_
  rintro _ w2 ⟨g, g2, rfl, ho, hb⟩
  clear hW hW' KW
  have X2 := blk_below X1h.out hb (by have := hz1h.out; omega)
  have R2 := blk_below R1h.out hb (by have := hz1h.out; omega)
  have hgg := (ho.bo.lt g rfl).1
  have hgg2 := (ho.st.lt g2 rfl).1
  have hgl := (ho.bo.lt g rfl).2
  have hgl2 := (ho.st.lt g2 rfl).2
  rw [hz1h.out] at hgg hgg2
  have B2 := b0h.out.trans (hb.mono b0h.out.size)
  obtain ⟨Y, hY⟩ : ∃ Y : Obj, Y = .cells #[.int .i64 s, .int .i64 i, .int .i64 (n : Int), .int .i64 t, .slice (some ⟨g, 0, none⟩) n n, .slice (some ⟨g2, 0, none⟩) n n] 44 := ⟨_, rfl⟩
  have a3 := alloc_below w2 Y
  have ho3 := ho.below a3
  have X3 := blk_below X2 a3 (by have := B2.size; have := hb.size; have := hz1h.out; omega)
  have R3 := blk_below R2 a3 (by have := hb.size; have := hz1h.out; omega)
  have Y3 := blk_new w2 Y
  have B3 := B2.trans (a3.mono B2.size)
  have N3 := hNh.out.next B3
  obtain ⟨w3, hw3⟩ : ∃ w3, w2.alloc Y = w3 := ⟨_, rfl⟩
  rw [hw3] at ho3 X3 R3 Y3 B3 N3
  obtain ⟨b3, hb3⟩ : ∃ b, w2.heap.size = b := ⟨_, rfl⟩
  rw [hb3] at Y3 hgl hgl2
  obtain ⟨w4, hcp, ho4, hg4⟩ := copy_own (F := fBo) rfl Try.underlying40 (by kernel_rfl) (by have := ho3.bo; simp only [List.length_replicate] at this; exact this) N3.1 (show h.length = n by omega) (by simp) hn
  have hcp' : ∀ ty, (Builtin.copy_ #[40, 40] ty #[.slice (some ⟨g, 0, none⟩) n n, .slice A1 h.length c1]).run Try.prog w3 = .ok (goInt n) w4 := by rw [show h.length = n by omega]; exact hcp
  have st4 : OwnF fSt 9 w4 W.heap.size (.slice (some ⟨g2, 0, none⟩) n n) (List.replicate n eb) := OwnF.kept (by have := ho3.st; simp only [List.length_replicate] at this; exact this) hg4 (by
    have q3 := ho3.bo
    simp only [List.length_replicate] at q3
    obtain ⟨_, cu, e9, _, q4⟩ := own_blk q3 (fun q => by cases q)
    simp only [Option.some.injEq, Addr.mk.injEq, and_true] at e9
    subst e9
    have q5 := ho3.st
    simp only [List.length_replicate] at q5
    exact OwnF.ne_ty q5 (fun q => by cases q) (by decide) q4)
  have X4 := blk_grown X3 hg4 (by simp only [ne_eq, Option.some.injEq]; omega)
  have R4 := blk_grown R3 hg4 (by simp only [ne_eq, Option.some.injEq]; omega)
  have Y4 := blk_grown (hY ▸ Y3) hg4 (by simp only [ne_eq, Option.some.injEq]; omega)
  have B4 := B3.trans (gr_below hg4 (B := w.heap.size) (fun k e => by simp only [Option.some.injEq] at e; omega) B3.size)
  have N4 := (hNh.out.next B4).2
  have bo4 : OwnF fBo 4 w4 W.heap.size (.slice (some ⟨g, 0, none⟩) n n) h := ho4
  obtain ⟨w5, hcp2, ho5, hg5⟩ := copy_own (F := fSt) rfl Try.underlying23 (by kernel_rfl) st4 N4 (show d.length = n by omega) (by simp) hn
  have hcp2' : ∀ ty, (Builtin.copy_ #[23, 23] ty #[.slice (some ⟨g2, 0, none⟩) n n, .slice D1 d.length e1]).run Try.prog w4 = .ok (goInt n) w5 := by rw [show d.length = n by omega]; exact hcp2
  have bo5 : OwnF fBo 4 w5 W.heap.size (.slice (some ⟨g, 0, none⟩) n n) h := by
    obtain ⟨_, cu, e9, _, q4⟩ := own_blk st4 (fun q => by cases q)
    simp only [Option.some.injEq, Addr.mk.injEq, and_true] at e9
    subst e9
    exact OwnF.kept bo4 hg5 (Or.inr fun q => by
      simp only [Value.ownBlock, Option.some.injEq] at q
      subst q
      have q6 := bo4
      rw [show (.slice (some ⟨g, 0, none⟩) n n : Value) = .slice (some ⟨g, 0, none⟩) h.length n by rw [show h.length = n by omega]] at q6
      obtain ⟨_, cu', e10, _, q7⟩ := own_blk q6 (fun q => by cases q)
      simp only [Option.some.injEq, Addr.mk.injEq, and_true] at e10
      subst e10
      rw [q4] at q7
      simp only [Option.some.injEq, Obj.cells.injEq] at q7
      exact absurd q7.2.1 (by decide))
  have X5 := blk_grown X4 hg5 (by simp only [ne_eq, Option.some.injEq]; omega)
  have R5 := blk_grown R4 hg5 (by simp only [ne_eq, Option.some.injEq]; omega)
  have Y5 := blk_grown Y4 hg5 (by simp only [ne_eq, Option.some.injEq]; omega)
  have B5 := B4.trans (gr_below hg5 (B := w.heap.size) (fun k e => by simp only [Option.some.injEq] at e; omega) B4.size)
  obtain ⟨Z, hZ⟩ : ∃ Z : Hp, Z = ⟨⟨s, i, (n : Int), t, h, d⟩, some ⟨g, 0, none⟩, n, some ⟨g2, 0, none⟩, n⟩ := ⟨_, rfl⟩
  have RES : CopyR w ⟨s, i, (n : Int), t, h, d⟩ (.returned (hpV Z)) (put6 w5 (w.heap.size + 1) Z) := by
    have hg1 := put6_grown w5 (w.heap.size + 1) Z
    have hws := hz1h.out
    have n1 := (OwnF.kept bo5 hg1 (Or.inr (fun q => by simp only [Value.ownBlock, Option.some.injEq] at q; omega))).down (show w.heap.size ≤ W.heap.size by omega)
    have n2 := (OwnF.kept ho5 hg1 (Or.inr (fun q => by simp only [Value.ownBlock, Option.some.injEq] at q; omega))).down (show w.heap.size ≤ W.heap.size by omega)
    have hbl : Below w.heap.size w (put6 w5 (w.heap.size + 1) Z) := by unfold put6; exact (((((B5.setCell (Nat.le_succ _) _).setCell (Nat.le_succ _) _).setCell (Nat.le_succ _) _).setCell (Nat.le_succ _) _).setCell (Nat.le_succ _) _).setCell (Nat.le_succ _) _
    subst hZ
    refine ⟨_, rfl, rfl, ⟨?_, ?_, fun q => (by cases q), fun q => (by cases q)⟩, hbl⟩
    · simp only
      rw [show h.length = n by omega]
      exact n1
    · simp only
      rw [show d.length = n by omega]
      exact n2
  have Q := put6_blk R5 Z
  have hZv : hpV Z = .agg #[.int .i64 s, .int .i64 i, .int .i64 (n : Int), .int .i64 t, .slice (some ⟨g, 0, none⟩) n n, .slice (some ⟨g2, 0, none⟩) n n] := by subst hZ; simp only [hpV]; rw [show h.length = n by omega, show d.length = n by omega]
  have hZb : bxP Z = .cells #[.int .i64 s, .int .i64 i, .int .i64 (n : Int), .int .i64 t, .slice (some ⟨g, 0, none⟩) n n, .slice (some ⟨g2, 0, none⟩) n n] 44 := by subst hZ; simp only [bxP]; rw [show h.length = n by omega, show d.length = n by omega]
  have eZ : Z.x.s = s ∧ Z.x.i = i ∧ Z.x.c = (n : Int) ∧ Z.x.t = t ∧ Z.hA = some ⟨g, 0, none⟩ ∧ Z.x.h.length = n ∧ Z.hc = n ∧ Z.dA = some ⟨g2, 0, none⟩ ∧ Z.x.d.length = n ∧ Z.dc = n := by subst hZ; exact ⟨rfl, rfl, rfl, rfl, rfl, by simp only; omega, rfl, rfl, by simp only; omega, rfl⟩
  obtain ⟨y0, y1, y2, y3, y4, y5, y6, y7, y8, y9⟩ := eZ
  unfold put6 at RES Q
  rw [hZb] at Q
  rw [hZv] at RES
  rw [y0, y1, y2, y3, y4, y5, y6, y7, y8, y9] at RES Q
  replace RES := Lib.hid RES
  replace Q := Lib.hid Q
  have k3 := blk_cell (hY ▸ Y3) 4 (v := .slice (some ⟨g, 0, none⟩) n n) rfl
  have k3' := blk_cell X3 4 (v := .slice A1 h.length c1) rfl
  have k4 := blk_cell Y4 5 (v := .slice (some ⟨g2, 0, none⟩) n n) rfl
  have k4' := blk_cell X4 5 (v := .slice D1 d.length e1) rfl
  have g0 := blk_cell Y5 0 (v := .int .i64 s) rfl
  have g1 := blk_cell Y5 1 (v := .int .i64 i) rfl
  have g2' := blk_cell Y5 2 (v := .int .i64 (n : Int)) rfl
  have g3 := blk_cell Y5 3 (v := .int .i64 t) rfl
  have g4 := blk_cell Y5 4 (v := .slice (some ⟨g, 0, none⟩) n n) rfl
  have g5 := blk_cell Y5 5 (v := .slice (some ⟨g2, 0, none⟩) n n) rfl
  have fr7 := fun j => blk_fr R5 j
  obtain ⟨z0, z1, z2, z3, z4, z5⟩ := hp_block R5
  subst hY
  clear X1h R1h b0h hz1h hNh ho hb X2 R2 hgg hgg2 hgl hgl2 B2 a3 ho3 X3 R3 Y3 B3 N3 hcp ho4 hg4 st4 X4 R4 Y4 B4 N4 bo4 hcp2 ho5 hg5 bo5 X5 R5 Y5 B5 hZ hZv hZb y0 y1 y2 y3 y4 y5 y6 y7 y8 y9 Z hh1 hh2 hd1 hd2
  go_wp2_with fail
  have r0 := blk_cell Q.out 0 (v := .int .i64 s) rfl
  have r1 := blk_cell Q.out 1 (v := .int .i64 i) rfl
  have r2 := blk_cell Q.out 2 (v := .int .i64 (n : Int)) rfl
  have r3 := blk_cell Q.out 3 (v := .int .i64 t) rfl
  have r4 := blk_cell Q.out 4 (v := .slice (some ⟨g, 0, none⟩) n n) rfl
  have r5 := blk_cell Q.out 5 (v := .slice (some ⟨g2, 0, none⟩) n n) rfl
  refine bodyPost_ret (v := .agg #[.int .i64 s, .int .i64 i, .int .i64 (n : Int), .int .i64 t, .slice (some ⟨g, 0, none⟩) n n, .slice (some ⟨g2, 0, none⟩) n n]) (by simp [results, Try.results48, go_sem, r0, r1, r2, r3, r4, r5]) rfl RES.out

set_option maxRecDepth 100000 in
set_option maxHeartbeats 4000000 in
theorem pdelete_any (A : Option Addr) (c : Nat) (l : List Hp) (k B : Nat) (w : World) (hl : l.length ≤ 1000) (hk : k < l.length) (h : OwnV w B A c l) :
    Calls Try.prog 31 #[.slice A l.length c, .int .i64 (k : Int), .int .i64 ((k : Int) + 1)] w (fun e w' => e = .returned (.slice A (l.eraseIdx k).length c) ∧ OwnV w' B A c (l.eraseIdx k) ∧ w.grownBy w' (Value.ownBlock (.slice A l.length c))) := by
  rcases h.row with ⟨_, _, e⟩ | ht
  · rw [e] at hk; simp at hk
  obtain ⟨g, off, cap, cur, e, R⟩ := ht.ro
  simp only [Value.slice.injEq, true_and] at e
  obtain ⟨rfl, rfl⟩ := e
  have hcap := R.len
  have bd := below_drewN (Below.refl w.heap.size w) 1
  have R1 : RoT fP 44 w.drew B g off c cur l := R.below bd
  have s3 := RoT.part3 (F := fP) utP szP g off l.length c k (k + 1) l.length (by omega) (by omega) hcap (k : Int) ((k : Int) + 1) rfl (by omega)
  rw [if_neg (by omega)] at s3
  have st := RoT.to (F := fP) utP szP g off l.length c k (by omega)
  have sf := RoT.from (F := fP) utP szP g off l.length c (k + 1) (by omega) ((k : Int) + 1) (by omega)
  have el : (l.take k).length = k := by rw [List.length_take]; omega
  have ed : (l.drop (k + 1)).length = l.length - (k + 1) := List.length_drop
  have en : (l.eraseIdx k).length = l.length - 1 := by rw [List.length_eraseIdx, if_pos hk]
  have ee : l.take k ++ l.drop (k + 1) = l.eraseIdx k := (List.eraseIdx_eq_take_drop_succ l k).symm
  obtain ⟨w1, cur1, hap, Q1, sz1, gr1⟩ := (R1.take k).app eP 31 (if c = k + 1 then ⟨g, off, none⟩ else ⟨g, off + (k + 1) * fP.sz, none⟩) (c - (k + 1)) (m := l.drop (k + 1)) (fun j u hu => by
      by_cases hc : c = k + 1
      · rw [List.drop_of_length_le (by omega)] at hu
        simp at hu
      · rw [if_neg hc, add_at, cell_of_row _ g _ cur _ (0, 0) R1.blk, ← Array.getElem?_toList]
        exact R1.drop (k + 1) (by omega) j u hu) (fun x hx => R.ok x (List.mem_of_mem_drop hx)) (by omega)
  rw [ee] at Q1
  rw [el, ed, show k + (l.length - (k + 1)) = l.length - 1 by omega] at hap
  have hAif : (if c = k + 1 then some (⟨g, off, none⟩ : Addr) else some ⟨g, off + (k + 1) * 6, none⟩) = some (if c = k + 1 then (⟨g, off, none⟩ : Addr) else ⟨g, off + (k + 1) * fP.sz, none⟩) := by split <;> rfl
  have hAif0 : (some (if c = k + 1 then (⟨g, off, none⟩ : Addr) else ⟨g, off + (k + 1) * fP.sz, none⟩)) = some (if c = k + 1 then (⟨g, off, none⟩ : Addr) else ⟨g, off + (k + 1) * fP.sz, none⟩) := rfl
  clear hAif0
  generalize (if c = k + 1 then (⟨g, off, none⟩ : Addr) else ⟨g, off + (k + 1) * fP.sz, none⟩) = A2 at *
  replace hAif := Lib.hid hAif
  have i0 : (0 : Int) ≤ (k : Int) := by omega
  have i1 : (k : Int) ≤ (c : Int) := by omega
  have i2 : (k : Int) + 1 ≤ (l.length : Int) := by omega
  have i3 : (0 : Int) ≤ (k : Int) + 1 := by omega
  have s2 := RoT.part (F := fP) utP szP g off (l.length - 1) c (l.length - 1) l.length (by omega) (by omega) ((l.length - 1 : Nat) : Int) (l.length : Int) rfl rfl
  rw [if_neg (by omega)] at s2
  obtain ⟨w2, cur2, hcl, Q2, sz2, gr2⟩ := Q1.clear Try.underlying31 (z := #[.int .i64 0, .int .i64 0, .int .i64 0, .int .i64 0, .slice none 0 0, .slice none 0 0]) (fun w => by kernel_rfl) rfl (by intro v hv; simp at hv; rcases hv with rfl | rfl <;> rfl) 31 (l.length - 1) (l.length - (l.length - 1)) (c - (l.length - 1)) (by omega) (by omega)
  have GR := Lib.hid (gr_trans (gr_trans (gr_drew w 1 (some g)) gr1) gr2)
  have RES := Lib.hid (show OwnV w2 B (some ⟨g, off, none⟩) c (l.eraseIdx k) from ⟨Or.inr Q2.own, fun y hy => (h.nest y (List.mem_of_mem_eraseIdx hy)).keptRow GR.out R.blk, h.ap.sublist (List.eraseIdx_sublist _ _)⟩)
  have d1 : ((k : Int) == (k : Int) + 1) = false := by simp; omega
  have d0 : ((l.length - 1 : Nat) : Int) = ((l.length - 1 : Nat) : Int) := rfl
  have hcl2 : ∀ ty, (Builtin.clear_ #[31] ty #[.slice (some ⟨g, off + (l.length - 1) * fP.sz, none⟩) (l.length - (l.length - 1)) (c - (l.length - 1))]).run Try.prog w1 = .ok (.tuple #[]) w2 := fun ty => hcl
  have LE := Lib.hid en
  obtain ⟨N, hN⟩ : ∃ N, l.length - 1 = N := ⟨_, rfl⟩
  rw [hN] at hap s2 hcl2 LE
  obtain ⟨A3, hA3⟩ : ∃ A3, (⟨g, off + N * fP.sz, none⟩ : Addr) = A3 := ⟨_, rfl⟩
  rw [hA3] at s2 hcl2
  clear hN hA3 d0 R R1 h ht el ed en ee hcl Q1 Q2 sz1 sz2 gr1 gr2 bd hcap
  generalize l.eraseIdx k = E at *
  go_enter Try.func31, Try.ntmps31
  go_wp2_with fail
  refine wp_region_held_drew (S := (fun _ => True)) (by kernel_rfl) (trivial) (fun hHeld => ?_)
  refine wpAnyH_take (i := 0) (v := (.slice (some ⟨g, off, none⟩) l.length c)) at_zero (by kernel_rfl) (by kernel_rfl) (by kernel_rfl) (fun _ _ _ h => h) (Or.inl ⟨by kernel_rfl, fun wy hSw => ?_⟩) (by assumption) ?_
  · (try dsimp only at hSw); go_simp
  try simp only [Act.put, List.setIfInBounds_toArray, List.set_cons_zero, List.set_cons_succ]
  refine wpAnyH_take (i := 1) (v := (.int .i64 (k : Int))) (at_succ at_zero) (by kernel_rfl) (by kernel_rfl) (by kernel_rfl) (fun _ _ _ h => h) (Or.inl ⟨by kernel_rfl, fun wy hSw => ?_⟩) (by assumption) ?_
  · (try dsimp only at hSw); go_simp
  try simp only [Act.put, List.setIfInBounds_toArray, List.set_cons_zero, List.set_cons_succ]
  refine wpAnyH_take (i := 2) (v := (.slice (some ⟨g, off, none⟩) k c)) (at_succ (at_succ at_zero)) (by kernel_rfl) (by kernel_rfl) (by kernel_rfl) (fun _ _ _ h => h) (Or.inl ⟨by kernel_rfl, fun wy hSw => ?_⟩) (by assumption) ?_
  · go_simp; first | done | (intro h9; omega) | (rw [st]; done) | simp [st]
  try simp only [Act.put, List.setIfInBounds_toArray, List.set_cons_zero, List.set_cons_succ]
  refine wpAnyH_take (i := 3) (v := (.slice (some ⟨g, off, none⟩) l.length c)) (at_succ (at_succ (at_succ at_zero))) (by kernel_rfl) (by kernel_rfl) (by kernel_rfl) (fun _ _ _ h => h) (Or.inl ⟨by kernel_rfl, fun wy hSw => ?_⟩) (by assumption) ?_
  · (try dsimp only at hSw); go_simp
  try simp only [Act.put, List.setIfInBounds_toArray, List.set_cons_zero, List.set_cons_succ]
  refine wpAnyH_take (i := 4) (v := (.int .i64 ((k : Int) + 1))) (at_succ (at_succ (at_succ (at_succ at_zero)))) (by kernel_rfl) (by kernel_rfl) (by kernel_rfl) (fun _ _ _ h => h) (Or.inl ⟨by kernel_rfl, fun wy hSw => ?_⟩) (by assumption) ?_
  · (try dsimp only at hSw); go_simp
  try simp only [Act.put, List.setIfInBounds_toArray, List.set_cons_zero, List.set_cons_succ]
  refine wpAnyH_take (i := 5) (v := (.slice (some A2) (l.length - (k + 1)) (c - (k + 1)))) (at_succ (at_succ (at_succ (at_succ (at_succ at_zero))))) (by kernel_rfl) (by kernel_rfl) (by kernel_rfl) (fun _ _ _ h => h) (Or.inl ⟨by kernel_rfl, fun wy hSw => ?_⟩) (by assumption) ?_
  · go_simp; first | done | (intro h9; omega) | (rw [hAif.out]; done) | simp [hAif.out]
  try simp only [Act.put, List.setIfInBounds_toArray, List.set_cons_zero, List.set_cons_succ]
  refine wpAnyH_ready (rs := [6]) (by kernel_rfl) (by simp) ?_
  refine AllReadyH.cons (at_succ (at_succ (at_succ (at_succ (at_succ (at_succ at_zero)))))) (fun K hK => ?_) AllReadyH.nil
  rw [if_pos (by kernel_rfl)]
  refine Lib.wp_append_run _ _ _ _ _ rfl _ _ rfl rfl _ _ hap ?_
  refine hK.out _ _ (trivial) (fun hHeld => ?_)
  clear hK K
  try simp only [Act.put, List.setIfInBounds_toArray, List.set_cons_zero, List.set_cons_succ]
  refine wpAnyH_take (i := 7) (v := (.slice (some ⟨g, off, none⟩) N c)) (at_succ (at_succ (at_succ (at_succ (at_succ (at_succ (at_succ at_zero))))))) (by kernel_rfl) (by kernel_rfl) (by kernel_rfl) (fun _ _ _ h => h) (Or.inl ⟨by kernel_rfl, fun wy hSw => ?_⟩) (by assumption) ?_
  · (try dsimp only at hSw); go_simp
  try simp only [Act.put, List.setIfInBounds_toArray, List.set_cons_zero]
  refine wpAnyH_done (by kernel_rfl) ?_ _
  go_wp2_with fail
  go_ret
  exact ⟨by rw [LE.out]; rfl, RES.out, GR.out⟩
end Go.Proofs.Ytljcjflbfjleoaa.Frg
