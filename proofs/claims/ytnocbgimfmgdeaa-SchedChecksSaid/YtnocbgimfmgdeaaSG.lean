/- Contract of the closure that combine hands to sweep. -/
import Derived.Test.YtnocbgimfmgdeaaSF
set_option linter.unusedVariables false
namespace Go.Proofs.Ytnocbgimfmgdeaa
open Go.RowKit

/-- A span's cells. -/
def flS : List Spn → List Value
  | [] => []
  | s :: r => .int .i64 s.1 :: .int .i64 s.2 :: flS r
theorem flS_append (a b : List Spn) : flS (a ++ b) = flS a ++ flS b := by
  induction a with
  | nil => rfl
  | cons t r ih => simp only [List.cons_append, flS, ih]
theorem flS_length (a : List Spn) : (flS a).length = a.length * 2 := by
  induction a with
  | nil => rfl
  | cons t r ih => simp only [flS, List.length_cons, ih]; omega
theorem flS_get (a : List Spn) (i : Nat) (hi : i < a.length) : (flS a)[i * 2]? = some (.int .i64 a[i].1) ∧ (flS a)[i * 2 + 1]? = some (.int .i64 a[i].2) := by
  induction a generalizing i with
  | nil => exact absurd hi (by simp)
  | cons t r ih =>
    cases i with
    | zero => exact ⟨rfl, rfl⟩
    | succ i =>
      have := ih i (by simpa using hi)
      have e : ∀ j, (flS (t :: r))[j + 2]? = (flS r)[j]? := fun j => rfl
      rw [show (i + 1) * 2 = i * 2 + 2 by omega, show i * 2 + 2 + 1 = i * 2 + 1 + 2 by omega, e, e]
      simpa using this
/-- A row of spans of the call's own. -/
abbrev OwnS (w : World) (B : Nat) (v : Value) (l : List Spn) : Prop := w.ownsRow B 37 2 v l.length (flS l)
theorem info_span : ∃ i, Try.prog.info? 37 = some i ∧ i.zero = some (.agg #[.int .i64 0, .int .i64 0]) ∧ i.size = 2 ∧ i.bytes = 16 :=
  info_get (show (Try.prog.info? 37).map (fun i => (i.zero, i.size, i.bytes)) = some (some (.agg #[.int .i64 0, .int .i64 0]), 2, 16) by kernel_rfl)
theorem stwo_cells (w : World) (a b : Value) (T : TypeId) : ∀ j u, [a, b][j]? = some u → (w.alloc (.cells #[a, b] T)).cell? ((⟨w.heap.size, 0, none⟩ : Addr).add j) = some u := by
  intro j u hu
  match j, hu with
  | 0, hu => simp at hu; subst hu; simp [Addr.add]
  | 1, hu => simp at hu; subst hu; simp [Addr.add]
theorem ownS_at {w : World} {B : Nat} {v : Value} {l : List Spn} (h : OwnS w B v l) (hl : ∀ s ∈ l, I64 s.1 ∧ I64 s.2) : ∃ A c, v = .slice A l.length c ∧ SpAt w w.heap.size A l := by
  rcases h.2 with ⟨h1, h2⟩ | ⟨g, cap, cur, h1, h2, h3, _⟩
  · obtain rfl := List.eq_nil_of_length_eq_zero h2
    exact ⟨none, 0, h1, SpAt.nil _ _ _⟩
  · subst h1
    refine ⟨_, _, rfl, fun i hi => ?_⟩
    obtain ⟨e0, e1⟩ := flS_get l i hi
    obtain ⟨b0, b1⟩ := hl l[i] (List.getElem_mem _)
    have c0 := h.cellAt (i * 2) (by omega)
    have c1 := h.cellAt (i * 2 + 1) (by omega)
    exact ⟨g, 0, rfl, (Array.getElem?_eq_some_iff.1 h3).1, by rw [Nat.zero_add, c0, e0], by rw [Nat.zero_add, c1, e1], b0, b1⟩

theorem ownS_form {w : World} {B : Nat} {v : Value} {l : List Spn} (h : OwnS w B v l) : ∃ A c, v = .slice A l.length c := by
  rcases h.2 with ⟨h1, h2⟩ | ⟨g, cap, cur, h1, _⟩
  · exact ⟨none, 0, by rw [h1, h2]⟩
  · exact ⟨_, _, h1⟩

/-- The closure's variables: what belongs, the list found, whether the last minute was inside, where it began. -/
structure CBx (w : World) (n B : Nat) (g : FuncId) (ins : Bool) (frm : Int) (v : Value) (F : List Spn) (wr : World) : Prop where
  h0 : wr.heap[n]? = some (.cells #[.func (.func g) #[] #[]] 44 (0, 0))
  h1 : wr.heap[n + 1]? = some (.cells #[v] 22 (0, 0))
  h2 : wr.heap[n + 2]? = some (.cells #[.bool ins] 4 (0, 0))
  h3 : wr.heap[n + 3]? = some (.cells #[.int .i64 frm] 3 (0, 0))
  own : OwnS wr B v F
  below : Below n w wr
  lo : n + 4 ≤ B
  hi : B ≤ wr.heap.size
/-- Nothing below B has changed but the closure's variables. -/
structure But (n B : Nat) (w w' : World) : Prop where
  size : w.heap.size ≤ w'.heap.size
  block : ∀ k, k < B → k ≠ n + 1 → k ≠ n + 2 → k ≠ n + 3 → w'.heap[k]? = w.heap[k]?
namespace But
variable {n B : Nat} {w w' w'' : World}
theorem refl (n B : Nat) (w : World) : But n B w w := ⟨Nat.le_refl _, fun _ _ _ _ _ => rfl⟩
theorem trans (h : But n B w w') (k : But n B w' w'') : But n B w w'' := ⟨Nat.le_trans h.size k.size, fun i h0 h1 h2 h3 => (k.block i h0 h1 h2 h3).trans (h.block i h0 h1 h2 h3)⟩
theorem of (h : Below B w w') : But n B w w' := ⟨h.size, fun i h0 _ _ _ => h.block i h0⟩
theorem set (n B : Nat) (w : World) {a : Addr} (ha : a.block = n + 1 ∨ a.block = n + 2 ∨ a.block = n + 3) (u : Value) : But n B w (w.setCell a u) :=
  ⟨by simp, fun k _ h1 h2 h3 => Below.heap_setCell w a u k (by omega)⟩
end But
namespace CBx
variable {w wr wt : World} {n B : Nat} {g : FuncId} {ins : Bool} {frm : Int} {v : Value} {F : List Spn}
theorem lt (h : CBx w n B g ins frm v F wr) : n + 4 ≤ wr.heap.size := blk_lt h.h3
theorem c0 (h : CBx w n B g ins frm v F wr) : wr.cell? ⟨n, 0, none⟩ = some (.func (.func g) #[] #[]) := blk_cell h.h0 0 rfl
theorem c1 (h : CBx w n B g ins frm v F wr) : wr.cell? ⟨n + 1, 0, none⟩ = some v := blk_cell h.h1 0 rfl
theorem c2 (h : CBx w n B g ins frm v F wr) : wr.cell? ⟨n + 2, 0, none⟩ = some (.bool ins) := blk_cell h.h2 0 rfl
theorem c3 (h : CBx w n B g ins frm v F wr) : wr.cell? ⟨n + 3, 0, none⟩ = some (.int .i64 frm) := blk_cell h.h3 0 rfl
theorem f1 (h : CBx w n B g ins frm v F wr) : wr.frozen? ⟨n + 1, 0, none⟩ = false := blk_fr h.h1 0
theorem f2 (h : CBx w n B g ins frm v F wr) : wr.frozen? ⟨n + 2, 0, none⟩ = false := blk_fr h.h2 0
theorem f3 (h : CBx w n B g ins frm v F wr) : wr.frozen? ⟨n + 3, 0, none⟩ = false := blk_fr h.h3 0
theorem own_set (h : OwnS wr B v F) {a : Addr} (ha : a.block < B) (u : Value) : OwnS (wr.setCell a u) B v F := ownsRow_setCell_below h ha u
theorem set2 (h : CBx w n B g ins frm v F wr) (x : Bool) : CBx w n B g x frm v F (wr.setCell ⟨n + 2, 0, none⟩ (.bool x)) :=
  ⟨blk_other h.h0 (by show n ≠ n + 2; omega) _, blk_other h.h1 (by show n + 1 ≠ n + 2; omega) _, blk_set h.h2 0 _, blk_other h.h3 (by show n + 3 ≠ n + 2; omega) _, own_set h.own (by have := h.lo; show n + 2 < B; omega) _, h.below.setCell (by show n ≤ n + 2; omega) _, h.lo, by rw [World.size_setCell]; exact h.hi⟩
theorem set3 (h : CBx w n B g ins frm v F wr) (m : Int) : CBx w n B g ins m v F (wr.setCell ⟨n + 3, 0, none⟩ (.int .i64 m)) :=
  ⟨blk_other h.h0 (by show n ≠ n + 3; omega) _, blk_other h.h1 (by show n + 1 ≠ n + 3; omega) _, blk_other h.h2 (by show n + 2 ≠ n + 3; omega) _, blk_set h.h3 0 _, own_set h.own (by have := h.lo; show n + 3 < B; omega) _, h.below.setCell (by show n ≤ n + 3; omega) _, h.lo, by rw [World.size_setCell]; exact h.hi⟩
theorem kept (h : CBx w n B g ins frm v F wr) (hb : Below B wr wt) (ho : OwnS wt B v F) : CBx w n B g ins frm v F wt :=
  have := h.lo
  have := h.hi
  ⟨blk_below h.h0 hb (by omega), blk_below h.h1 hb (by omega), blk_below h.h2 hb (by omega), blk_below h.h3 hb (by omega), ho, h.below.trans (hb.mono (by omega)), h.lo, by have := hb.size; omega⟩
theorem next (h : CBx w n B g ins frm v F wr) (hb : Below wr.heap.size wr wt) : CBx w n B g ins frm v F wt := h.kept (hb.mono h.hi) (own_below h.own hb)
/-- A store into a block between. -/
theorem setIn (h : CBx w n B g ins frm v F wr) {a : Addr} (h1 : n + 4 ≤ a.block) (h2 : a.block < B) (u : Value) : CBx w n B g ins frm v F (wr.setCell a u) :=
  ⟨blk_other h.h0 (by omega) _, blk_other h.h1 (by omega) _, blk_other h.h2 (by omega) _, blk_other h.h3 (by omega) _, own_set h.own h2 u, h.below.setCell (by omega) _, h.lo, by rw [World.size_setCell]; exact h.hi⟩
theorem put (h : CBx w n B g ins frm v F wr) {v' : Value} {F' : List Spn} (hb : Below B wr wt) (ho : OwnS wt B v' F') : CBx w n B g ins frm v' F' (wt.setCell ⟨n + 1, 0, none⟩ v') :=
  have := h.lo
  have := h.hi
  ⟨blk_other (blk_below h.h0 hb (by omega)) (by show n ≠ n + 1; omega) _, blk_set (blk_below h.h1 hb (by omega)) 0 _, blk_other (blk_below h.h2 hb (by omega)) (by show n + 2 ≠ n + 1; omega) _, blk_other (blk_below h.h3 hb (by omega)) (by show n + 3 ≠ n + 1; omega) _,
    own_set ho (by show n + 1 < B; omega) _, (h.below.trans (hb.mono (by omega))).setCell (by show n ≤ n + 1; omega) _, h.lo, by rw [World.size_setCell]; have := hb.size; omega⟩
end CBx
/-- What the closure leaves. -/
def OutC (w : World) (n B : Nat) (g : FuncId) (ins x : Bool) (frm m : Int) (F : List Spn) (wr : World) (e : Ending) (w' : World) : Prop :=
  e = .returned (.tuple #[]) ∧ (∃ v, CBx w n B g x (if x && !ins then m else frm) v (if ins && !x then F ++ [(frm, m)] else F) w') ∧ But n B wr w'

set_option maxRecDepth 100000 in
set_option maxHeartbeats 2000000 in
theorem tell_any (w : World) (n B : Nat) (g : FuncId) (ins x a b : Bool) (frm m : Int) (v : Value) (F : List Spn) (wr : World) (eg : ∀ args w, (callFunc g args).run Try.prog w = .ok (.enter g args) w)
    (hg : ∀ w, Calls Try.prog g #[.bool a, .bool b] w fun e w' => e = .returned (.bool x) ∧ w = w') (h : CBx w n B g ins frm v F wr) (hF : F.length ≤ 100000) :
    Calls Try.prog 44 #[.int .i64 m, .bool a, .bool b, .pointer (some ⟨n + 2, 0, none⟩), .pointer (some ⟨n, 0, none⟩), .pointer (some ⟨n + 3, 0, none⟩), .pointer (some ⟨n + 1, 0, none⟩)] wr (OutC w n B g ins x frm m F wr) := by
  have X := Lib.hid h
  have HG := Lib.hid hg
  have c0 := h.c0
  have c2 := h.c2
  have f2 := h.f2
  clear h hg
  obtain ⟨i0, hi, hz0, hz1', hz2'⟩ := info_span
  have HI0 := Lib.hid hi
  have HI1 := Lib.hid hz0
  have HI2 := Lib.hid hz1'
  have HI3 := Lib.hid hz2'
  clear hi hz0 hz1' hz2'
  have E1 := Lib.hid eg
  cases ins with
  | false =>
    cases x with
    | false =>
      have X2 := Lib.hid (X.out.set2 false)
      go_enter Try.func44, Try.ntmps44
      go_wp2_with fail
      refine (HG.out _).mono ?_
      rintro e w' ⟨rfl, rfl⟩
      clear eg
      go_wp2_with fail
      go_end0
      exact ⟨rfl, ⟨v, X2.out⟩, But.set n B wr (by simp) _⟩
    | true =>
      have X2 := Lib.hid (X.out.set2 true)
      have f3 := X2.out.f3
      have X3 := Lib.hid (X2.out.set3 m)
      go_enter Try.func44, Try.ntmps44
      go_wp2_with fail
      refine (HG.out _).mono ?_
      rintro e w' ⟨rfl, rfl⟩
      clear eg
      have d3 := X2.out.c3
      go_wp2_with fail
      go_end0
      exact ⟨rfl, ⟨v, X3.out⟩, (But.set n B wr (by simp) _).trans (But.set n B _ (by simp) _)⟩
  | true =>
    cases x with
    | true =>
      have X2 := Lib.hid (X.out.set2 true)
      go_enter Try.func44, Try.ntmps44
      go_wp2_with fail
      refine (HG.out _).mono ?_
      rintro e w' ⟨rfl, rfl⟩
      clear eg
      go_wp2_with fail
      go_end0
      exact ⟨rfl, ⟨v, X2.out⟩, But.set n B wr (by simp) _⟩
    | false =>
      have X2 := Lib.hid (X.out.set2 false)
      go_enter Try.func44, Try.ntmps44
      go_wp2_with fail
      refine (HG.out _).mono ?_
      rintro e w' ⟨rfl, rfl⟩
      clear eg
      have d1 := X2.out.c1
      have d2 := X2.out.c2
      have d3 := X2.out.c3
      have g1 := X2.out.f1
      have hz : n + 4 ≤ wr.heap.size := X.out.lt
      have hown := X2.out.own.alloc (Obj.cells #[.int .i64 frm, .int .i64 m] 37)
      have h2 := stwo_cells (wr.setCell ⟨n + 2, 0, none⟩ (.bool false)) (.int .i64 frm) (.int .i64 m) 37
      rw [show (wr.setCell ⟨n + 2, 0, none⟩ (.bool false)).heap.size = wr.heap.size by simp [World.setCell]] at h2
      have H2 := Lib.hid h2
      clear h2
      go_wp2_with (at_builtin; refine wpList_append_own _ rfl (.tmp 29) (.tmp 33) 22 rfl B 37 i0 _ 2 16 Try.underlying22 HI0.out HI1.out HI2.out HI3.out rfl (by decide) _ _ _ rfl hown ⟨wr.heap.size, 0, none⟩ 1 1 [.int .i64 frm, .int .i64 m] rfl rfl H2.out ?c2 ?c3 ?c4 ?c5 ?_)
      case c2 => intro u hu; simp at hu; rcases hu with rfl | rfl <;> rfl
      case c3 => unfold maxLen; omega
      case c4 => omega
      case c5 => exact Nat.le_trans X2.out.hi (World.grownBy_alloc _ _ none).size
      intro v' w4 hown' hgrow hxx
      have B4 := Lib.hid (((Below.refl B (wr.setCell ⟨n + 2, 0, none⟩ (.bool false))).alloc X2.out.hi _).grown hgrow (Nat.le_trans X2.out.hi (World.grownBy_alloc _ _ none).size) (fun q hq => (hown.lt q hq).1))
      have O4 := Lib.hid (show OwnS w4 B v' (F ++ [(frm, m)]) by
        unfold OwnS; rw [flS_append, List.length_append]; exact hown')
      have f4 := (B4.out.frozen (p := ⟨n + 1, 0, none⟩) (by have := X2.out.lo; show n + 1 < B; omega)).trans g1
      have e4 := (B4.out.cell (p := ⟨n + 1, 0, none⟩) (by have := X2.out.lo; show n + 1 < B; omega)).trans d1
      have X4 := Lib.hid (X2.out.put B4.out O4.out)
      obtain ⟨A4, k4, hv4⟩ := ownS_form O4.out
      rw [List.length_append, show ([(frm, m)] : List Spn).length = 1 from rfl] at hv4
      subst hv4
      clear hown' hgrow hxx hown d1 d2 d3 g1
      go_wp2_with fail
      go_end0
      exact ⟨rfl, ⟨_, X4.out⟩, ((But.set n B wr (by simp) _).trans (But.of B4.out)).trans (But.set n B _ (by simp) _)⟩
end Go.Proofs.Ytnocbgimfmgdeaa
