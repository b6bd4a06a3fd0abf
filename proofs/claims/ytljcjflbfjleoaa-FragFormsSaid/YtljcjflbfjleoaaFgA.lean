/- Entries in memory; the reference's Tick, Size, Check, SamePieces, SameParts, SameList. -/
import Derived.Test.YtljcjflbfjleoaaGr
import Derived.Test.YtljcjflbfjleoaaQH
import Derived.Test.YtljcjflbfjleoaaAf
import Derived.Test.YtljcjflbfjleoaaFgPlain
import Derived.Deep.RegionHeld3
set_option linter.unusedVariables false
namespace Go.Proofs.Ytljcjflbfjleoaa.Frg
open Go.RowKit

theorem at_zero {o : Oper} {r : List Oper} : (o :: r).toArray[0]? = some o := rfl
theorem at_succ {x o : Oper} {r : List Oper} {n : Nat} (h : r.toArray[n]? = some o) : (x :: r).toArray[n + 1]? = some o := by simpa using h
/-- An entry, and where its rows lie. -/
structure Hp where
  x : Pt
  hA : Option Addr
  hc : Nat
  dA : Option Addr
  dc : Nat
abbrev hpC (y : Hp) : List Value := [.int .i64 y.x.s, .int .i64 y.x.i, .int .i64 y.x.c, .int .i64 y.x.t, .slice y.hA y.x.h.length y.hc, .slice y.dA y.x.d.length y.dc]
abbrev hpV (y : Hp) : Value := .agg #[.int .i64 y.x.s, .int .i64 y.x.i, .int .i64 y.x.c, .int .i64 y.x.t, .slice y.hA y.x.h.length y.hc, .slice y.dA y.x.d.length y.dc]
abbrev bxP (y : Hp) : Obj := .cells #[.int .i64 y.x.s, .int .i64 y.x.i, .int .i64 y.x.c, .int .i64 y.x.t, .slice y.hA y.x.h.length y.hc, .slice y.dA y.x.d.length y.dc] 44
def PtOk (x : Pt) : Prop := I64 x.s ∧ I64 x.i ∧ I64 x.c ∧ I64 x.t
def fP : Flat Hp := ⟨6, hpC, fun y => PtOk y.x, by decide, fun _ => rfl, fun _ v h => by simp at h; rcases h with rfl | rfl | rfl | rfl | rfl | rfl <;> rfl⟩
def fBo : Flat Bool := ⟨1, fun b => [.bool b], fun _ => True, by decide, fun _ => rfl, fun _ v h => by simp at h; subst h; rfl⟩
def fSt : Flat ByteArray := ⟨1, fun s => [.string s], fun s => s.size ≤ 9223372036854775807, by decide, fun _ => rfl, fun _ v h => by simp at h; subst h; rfl⟩
/-- An entry's rows. -/
def Nest (w : World) (y : Hp) : Prop := SlS fBo w y.hA y.hc y.x.h ∧ SlS fSt w y.dA y.dc y.x.d
theorem Nest.next {w w' : World} {y : Hp} (h : Nest w y) (hb : Below w.heap.size w w') : Nest w' y := ⟨h.1.next hb, h.2.next hb⟩
/-- Entries, as they read. -/
def PsS (w : World) (A : Option Addr) (c : Nat) (l : List Hp) : Prop := SlS fP w A c l ∧ ∀ y ∈ l, Nest w y
theorem PsS.next {w w' : World} {A : Option Addr} {c : Nat} {l : List Hp} (h : PsS w A c l) (hb : Below w.heap.size w w') : PsS w' A c l := ⟨h.1.next hb, fun y hy => (h.2 y hy).next hb⟩
theorem PsS.nil (w : World) : PsS w none 0 [] := ⟨SlS.nil w, fun y hy => by cases hy⟩
/-- The six cells of an entry. -/
def HpC (w : World) (b p : Nat) (y : Hp) : Prop := w.cell? ⟨b, p, none⟩ = some (.int .i64 y.x.s) ∧ w.cell? ⟨b, p + 1, none⟩ = some (.int .i64 y.x.i) ∧ w.cell? ⟨b, p + 2, none⟩ = some (.int .i64 y.x.c) ∧ w.cell? ⟨b, p + 3, none⟩ = some (.int .i64 y.x.t) ∧ w.cell? ⟨b, p + 4, none⟩ = some (.slice y.hA y.x.h.length y.hc) ∧ w.cell? ⟨b, p + 5, none⟩ = some (.slice y.dA y.x.d.length y.dc)
theorem HpC.block {w w' : World} {b p : Nat} {y : Hp} (h : HpC w b p y) (e : w'.heap[b]? = w.heap[b]?) : HpC w' b p y := by
  have k : ∀ j, w'.cell? ⟨b, j, none⟩ = w.cell? ⟨b, j, none⟩ := fun j => World.cell?_of_block (a := ⟨b, j, none⟩) e
  unfold HpC
  rw [k, k, k, k, k, k]
  exact h
theorem HpC.below {w w' : World} {b p B : Nat} {y : Hp} (h : HpC w b p y) (hb : Below B w w') (hlt : b < B) : HpC w' b p y := h.block (hb.block b hlt)
theorem hp_block {w : World} {b : Nat} {y : Hp} (h : w.heap[b]? = some (bxP y)) : HpC w b 0 y := ⟨blk_cell h 0 rfl, blk_cell h 1 rfl, blk_cell h 2 rfl, blk_cell h 3 rfl, blk_cell h 4 rfl, blk_cell h 5 rfl⟩
theorem hp_cell {w : World} {B : Nat} {A : Option Addr} {l : List Hp} (h : FlAt fP w B A l) (i : Nat) (hi : i < l.length) : ∃ b p, A = some ⟨b, p, none⟩ ∧ b < B ∧ HpC w b (p + i * 6) l[i] ∧ PtOk l[i].x := by
  obtain ⟨b, p, h1, h2, h3, h4⟩ := h i hi
  exact ⟨b, p, h1, h2, ⟨h3 0 _ rfl, h3 1 _ rfl, h3 2 _ rfl, h3 3 _ rfl, h3 4 _ rfl, h3 5 _ rfl⟩, h4⟩
theorem ps_cell {w : World} {A : Option Addr} {c : Nat} {l : List Hp} (h : PsS w A c l) (i : Nat) (hi : i < l.length) : ∃ b p, A = some ⟨b, p, none⟩ ∧ b < w.heap.size ∧ HpC w b (p + i * 6) l[i] ∧ PtOk l[i].x ∧ Nest w l[i] := by
  obtain ⟨b, p, h1, h2, h3, h4⟩ := hp_cell h.1.1 i hi
  exact ⟨b, p, h1, h2, h3, h4, h.2 _ (List.getElem_mem hi)⟩
theorem bo_cell {w : World} {A : Option Addr} {c : Nat} {l : List Bool} (h : SlS fBo w A c l) (i : Nat) (hi : i < l.length) : ∃ b p, A = some ⟨b, p, none⟩ ∧ b < w.heap.size ∧ w.cell? ⟨b, p + i, none⟩ = some (.bool l[i]) := by
  obtain ⟨b, p, h1, h2, h3, h4⟩ := h.1 i hi
  have := h3 0 _ rfl
  rw [show p + i * fBo.sz + 0 = p + i by show p + i * 1 + 0 = p + i; omega] at this
  exact ⟨b, p, h1, h2, this⟩
theorem st_cell {w : World} {A : Option Addr} {c : Nat} {l : List ByteArray} (h : SlS fSt w A c l) (i : Nat) (hi : i < l.length) : ∃ b p, A = some ⟨b, p, none⟩ ∧ b < w.heap.size ∧ w.cell? ⟨b, p + i, none⟩ = some (.string l[i]) ∧ l[i].size ≤ 9223372036854775807 := by
  obtain ⟨b, p, h1, h2, h3, h4⟩ := h.1 i hi
  have := h3 0 _ rfl
  rw [show p + i * fSt.sz + 0 = p + i by show p + i * 1 + 0 = p + i; omega] at this
  exact ⟨b, p, h1, h2, this, h4⟩
theorem eP : Elems Try.prog 31 44 fP.sz := Elems.mk' Try.underlying31 (z := .agg #[.int .i64 0, .int .i64 0, .int .i64 0, .int .i64 0, .slice none 0 0, .slice none 0 0]) (m := 80) (by kernel_rfl) (by decide) rfl
theorem eBo : Elems Try.prog 40 4 fBo.sz := Elems.mk' Try.underlying40 (z := .bool false) (m := 1) (by kernel_rfl) (by decide) rfl
theorem eSt : Elems Try.prog 23 9 fSt.sz := Elems.mk' Try.underlying23 (z := .string ⟨#[]⟩) (m := 16) (by kernel_rfl) (by decide) rfl

section
open Go.ChangeShapes Go.WideShapes
variable {H : Type} {enc : TypeId × Value → H}
theorem bools_at {W : World} {fuel : Nat} {sp : Nat → Bool} {hd : Bool} {A : Option Addr} {n c : Nat} {x : DataW H × List MemPlace} (hf : DataW.trod enc Try.prog W 0 sp hd fuel 40 [.slice A n c] = some x) :
    ∃ l : List Bool, n = l.length ∧ SlS fBo W A c l ∧ l.length ≤ 9223372036854775807 := by
  obtain ⟨l, h1, h2, h3, h4, h5⟩ := flat_open (F := fBo) Try.underlying40 (by kernel_rfl) (fun q cs y hl ht => by
    match cs, hl with
    | [c0], _ =>
      obtain ⟨b, e, _⟩ := DataW.trod_bool Try.underlying4 ht
      obtain rfl : c0 = .bool b := by simpa using e
      exact ⟨b, rfl, trivial⟩) hf
  exact ⟨l, h1, ⟨h2, h4, h5⟩, h3⟩
theorem texts_at {W : World} {fuel : Nat} {sp : Nat → Bool} {hd : Bool} {A : Option Addr} {n c : Nat} {x : DataW H × List MemPlace} (hf : DataW.trod enc Try.prog W 0 sp hd fuel 23 [.slice A n c] = some x) :
    ∃ l : List ByteArray, n = l.length ∧ SlS fSt W A c l ∧ l.length ≤ 9223372036854775807 := by
  obtain ⟨l, h1, h2, h3, h4, h5⟩ := flat_open (F := fSt) Try.underlying23 (by kernel_rfl) (fun q cs y hl ht => by
    match cs, hl with
    | [c0], _ =>
      obtain ⟨b, e, _, wf⟩ := DataW.trod_string Try.underlying9 ht
      obtain rfl : c0 = .string b := by simpa using e
      exact ⟨b, rfl, by unfold maxLen at wf; exact wf⟩) hf
  exact ⟨l, h1, ⟨h2, h4, h5⟩, h3⟩
theorem slice_word {W : World} {fuel : Nat} {sp : Nat → Bool} {hd : Bool} {T e : TypeId} (ut : Try.prog.underlying T = some (.slice e)) {c0 : Value} {x : DataW H × List MemPlace} (hf : DataW.trod enc Try.prog W 0 sp hd fuel T [c0] = some x) : ∃ A n c, c0 = .slice A n c := by
  rcases Go.Deep.open_slice ut hf with ⟨hcs, hx⟩ | ⟨a, len, cap, m, k, D, Pl, hcs, _⟩
  · simp at hcs; exact ⟨_, _, _, hcs⟩
  · simp at hcs; exact ⟨_, _, _, hcs⟩
theorem parts_at {W : World} {fuel : Nat} {sp : Nat → Bool} {hd : Bool} {A : Option Addr} {n c : Nat} {x : DataW H × List MemPlace} (hf : DataW.trod enc Try.prog W 0 sp hd fuel 31 [.slice A n c] = some x) :
    ∃ l : List Hp, n = l.length ∧ PsS W A c l ∧ l.length ≤ 9223372036854775807 ∧ ∀ y ∈ l, y.x.h.length ≤ 9223372036854775807 ∧ y.x.d.length ≤ 9223372036854775807 := by
  obtain ⟨l, h1, h2, h3, h4, h5⟩ := flat_open (F := ⟨6, hpC, fun y => PtOk y.x ∧ Nest W y ∧ y.x.h.length ≤ 9223372036854775807 ∧ y.x.d.length ≤ 9223372036854775807, by decide, fun _ => rfl, fP.one⟩) Try.underlying31 (by kernel_rfl) (fun q cs y hl ht => by
    obtain ⟨xs, q, _, _, _, hxl, hfi⟩ := DataW.trod_struct Try.underlying44 ht
    match cs, hl with
    | [c0, c1, c2, c3, c4, c5], _ =>
      have g0 : DataW.trod enc Try.prog W 0 sp hd q 3 [c0] = xs[0]? := hfi 0 _ rfl
      have g1 : DataW.trod enc Try.prog W 0 sp hd q 3 [c1] = xs[1]? := hfi 1 _ rfl
      have g2 : DataW.trod enc Try.prog W 0 sp hd q 3 [c2] = xs[2]? := hfi 2 _ rfl
      have g3 : DataW.trod enc Try.prog W 0 sp hd q 3 [c3] = xs[3]? := hfi 3 _ rfl
      have g4 : DataW.trod enc Try.prog W 0 sp hd q 40 [c4] = xs[4]? := hfi 4 _ rfl
      have g5 : DataW.trod enc Try.prog W 0 sp hd q 23 [c5] = xs[5]? := hfi 5 _ rfl
      rw [List.getElem?_eq_getElem (by rw [hxl]; decide)] at g0 g1 g2 g3 g4 g5
      obtain ⟨n0, e0, _, w0⟩ := DataW.trod_int Try.underlying3 g0
      obtain ⟨n1, e1, _, w1⟩ := DataW.trod_int Try.underlying3 g1
      obtain ⟨n2, e2, _, w2⟩ := DataW.trod_int Try.underlying3 g2
      obtain ⟨n3, e3, _, w3⟩ := DataW.trod_int Try.underlying3 g3
      obtain rfl : c0 = .int .i64 n0 := by simpa using e0
      obtain rfl : c1 = .int .i64 n1 := by simpa using e1
      obtain rfl : c2 = .int .i64 n2 := by simpa using e2
      obtain rfl : c3 = .int .i64 n3 := by simpa using e3
      obtain ⟨A4, m4, k4, rfl⟩ := slice_word Try.underlying40 g4
      obtain ⟨A5, m5, k5, rfl⟩ := slice_word Try.underlying23 g5
      obtain ⟨lh, rfl, hh, lhl⟩ := bools_at g4
      obtain ⟨ld, rfl, hd', ldl⟩ := texts_at g5
      exact ⟨⟨⟨n0, n1, n2, n3, lh, ld⟩, A4, k4, A5, k5⟩, rfl, ⟨lit_i64 w0, lit_i64 w1, lit_i64 w2, lit_i64 w3⟩, ⟨hh, hd'⟩, lhl, ldl⟩) hf
  have hk := FlAt.ok h2
  refine ⟨l, h1, ⟨⟨fun i hi => ?_, h4, h5⟩, fun y hy => (hk y hy).2.1⟩, h3, fun y hy => (hk y hy).2.2⟩
  obtain ⟨b, p, a1, a2, a3, a4⟩ := h2 i hi
  exact ⟨b, p, a1, a2, a3, a4.1⟩
end

theorem rtick_any (n : Int) (w : World) : Calls Try.prog 41 #[.int .i64 n] w fun e w' => e = .returned (.int .i64 (tick n)) ∧ w = w' := by
  by_cases h1 : n < 0
  · have R := Lib.hid (show tick n = 0 from if_pos h1)
    have d1 := dt h1
    go_enter Try.func41, Try.ntmps41
    go_wp2_with fail
    go_ret
    exact ⟨ret_int R.out.symm, rfl⟩
  · have d1 := df h1
    by_cases h2 : 1099511627776 < n
    · have R := Lib.hid (show tick n = 1099511627776 by unfold tick; rw [if_neg h1, if_pos h2])
      have d2 := dt h2
      go_enter Try.func41, Try.ntmps41
      go_wp2_with fail
      go_ret
      exact ⟨ret_int R.out.symm, rfl⟩
    · have R := Lib.hid (show tick n = n by unfold tick; rw [if_neg h1, if_neg h2])
      have d2 := df h2
      go_enter Try.func41, Try.ntmps41
      go_wp2_with fail
      go_ret
      exact ⟨ret_int R.out.symm, rfl⟩

theorem rsize_any (i c n : Int) (w : World) (hc : I64 c ∧ -9223372036854775808 < c) : Calls Try.prog 28 #[.int .i64 i, .int .i64 c, .int .i64 n] w fun e w' => e = .returned (.bool (decide (Sz i c n))) ∧ w = w' := by
  have z1 : IntKind.i64.wrap (c - 1) = c - 1 := by obtain ⟨⟨h1, h2⟩, h3⟩ := hc; rw [IntKind.wrap_i64] <;> omega
  clear hc
  by_cases h1 : i < c - 1
  · have d1 := dt h1
    have R := Lib.hid (show (n == 64) = decide (Sz i c n) by unfold Sz; simp only [if_pos h1]; rfl)
    generalize decide (Sz i c n) = r at *
    clear h1
    go_enter Try.func28, Try.ntmps28
    go_wp2_with fail
    rw [R.out]
    go_ret
    exact ⟨rfl, rfl⟩
  have d1 := df h1
  by_cases h2 : c = 1
  · have d2 : (c == 1) = true := by simpa using h2
    have R := Lib.hid (show decide (n ≤ 64) = decide (Sz i c n) by unfold Sz; simp only [if_neg h1, if_pos h2])
    generalize decide (Sz i c n) = r at *
    clear h1 h2
    go_enter Try.func28, Try.ntmps28
    go_wp2_with fail
    rw [R.out]
    go_ret
    exact ⟨rfl, rfl⟩
  have d2 : (c == 1) = false := by simpa using h2
  by_cases h3 : c = 16
  · have d3 : (c == 16) = true := by simpa using h3
    by_cases h4 : 1 ≤ n
    · have d4 := dt h4
      have R := Lib.hid (show decide (n ≤ 40) = decide (Sz i c n) by unfold Sz; simp only [if_neg h1, if_neg h2, if_pos h3, h4, true_and])
      generalize decide (Sz i c n) = r at *
      clear h1 h2 h3 h4
      go_enter Try.func28, Try.ntmps28
      go_wp2_with fail
      rw [R.out]
      go_ret
      exact ⟨rfl, rfl⟩
    · have d4 := df h4
      have R := Lib.hid (show false = decide (Sz i c n) by unfold Sz; simp only [if_neg h1, if_neg h2, if_pos h3, h4, false_and, decide_false])
      generalize decide (Sz i c n) = r at *
      clear h1 h2 h3 h4
      go_enter Try.func28, Try.ntmps28
      go_wp2_with fail
      go_ret
      exact ⟨congrArg (fun b => Ending.returned (.bool b)) R.out, rfl⟩
  · have d3 : (c == 16) = false := by simpa using h3
    by_cases h4 : 1 ≤ n
    · have d4 := dt h4
      have R := Lib.hid (show decide (n ≤ 64) = decide (Sz i c n) by unfold Sz; simp only [if_neg h1, if_neg h2, if_neg h3, h4, true_and])
      generalize decide (Sz i c n) = r at *
      clear h1 h2 h3 h4
      go_enter Try.func28, Try.ntmps28
      go_wp2_with fail
      rw [R.out]
      go_ret
      exact ⟨rfl, rfl⟩
    · have d4 := df h4
      have R := Lib.hid (show false = decide (Sz i c n) by unfold Sz; simp only [if_neg h1, if_neg h2, if_neg h3, h4, false_and, decide_false])
      generalize decide (Sz i c n) = r at *
      clear h1 h2 h3 h4
      go_enter Try.func28, Try.ntmps28
      go_wp2_with fail
      go_ret
      exact ⟨congrArg (fun b => Ending.returned (.bool b)) R.out, rfl⟩

set_option maxRecDepth 100000 in
set_option maxHeartbeats 2000000 in
theorem rpieces_any (A1 A2 : Option Addr) (c1 c2 : Nat) (l : List ByteArray) (w : World) (hl : l.length ≤ 9223372036854775807) (h1 : SlS fSt w A1 c1 l) (h2 : SlS fSt w A2 c2 l) : Calls Try.prog 14 #[.slice A1 l.length c1, .slice A2 l.length c2] w (OutB w true) := by
  have H1 := Lib.hid h1
  have H2 := Lib.hid h2
  clear h1 h2
  go_enter Try.func14, Try.ntmps14
  go_wp2_with fail
  go_loopw [13] (fun i wr => ∃ k : Nat, i = .int .i64 k ∧ k ≤ l.length ∧ Below w.heap.size w wr) (fun i _ => l.length - (intOf i).toNat)
  case atStart => exact ⟨0, rfl, Nat.zero_le _, Below.refl _ _⟩
  case round =>
    obtain ⟨k, rfl, hk, hb⟩ := hrel
    have B := Lib.hid hb
    by_cases hlt : k < l.length
    · obtain ⟨b, p, rfl, _, hc, _⟩ := st_cell (H1.out.next hb) k hlt
      obtain ⟨b', p', rfl, _, hc', _⟩ := st_cell (H2.out.next hb) k hlt
      clear hb
      generalize l[k] = x at *
      have q0 : (k : Int) < (l.length : Int) := by omega
      have q1 : (0 : Int) ≤ (k : Int) := by omega
      have d1 : (x.toList == x.toList) = true := by simp
      go_wp2_with fail
      go_quiet (fail)
      go_wp2_with fail
      go_roundw
      case rel => exact ⟨k + 1, by go_num, hlt, below_drewN B.out _⟩
      case measure => simp [intOf]; omega
    · clear hb
      go_wp2_with fail
      go_ret
      exact outB rfl B.out

set_option maxRecDepth 100000 in
set_option maxHeartbeats 4000000 in
theorem rparts_any (y1 y2 : Hp) (w : World) (hx : y1.x = y2.x) (hl : y1.x.h.length ≤ 9223372036854775807 ∧ y1.x.d.length ≤ 9223372036854775807) (h1 : Nest w y1) (h2 : Nest w y2) : Calls Try.prog 43 #[hpV y1, hpV y2] w (OutB w true) := by
  obtain ⟨⟨s, i, c, t, h, d⟩, A1, c1, D1, e1⟩ := y1
  obtain ⟨_, A2, c2, D2, e2⟩ := y2
  simp only at hx hl
  subst hx
  have b0 := (alloc_below w (bxP ⟨⟨s, i, c, t, h, d⟩, A1, c1, D1, e1⟩)).trans ((alloc_below (w.alloc (bxP ⟨⟨s, i, c, t, h, d⟩, A1, c1, D1, e1⟩)) (bxP ⟨⟨s, i, c, t, h, d⟩, A2, c2, D2, e2⟩)).mono (by simp))
  have H1 := Lib.hid (h1.1.next b0)
  have H2 := Lib.hid (h2.1.next b0)
  have Q1 := Lib.hid (h1.2.next b0)
  have Q2 := Lib.hid (h2.2.next b0)
  have B0 := Lib.hid b0
  have X1 : ((w.alloc (bxP ⟨⟨s, i, c, t, h, d⟩, A1, c1, D1, e1⟩)).alloc (bxP ⟨⟨s, i, c, t, h, d⟩, A2, c2, D2, e2⟩)).heap[w.heap.size]? = some (bxP ⟨⟨s, i, c, t, h, d⟩, A1, c1, D1, e1⟩) := blk_alloc (blk_new w _) _
  have X2 : ((w.alloc (bxP ⟨⟨s, i, c, t, h, d⟩, A1, c1, D1, e1⟩)).alloc (bxP ⟨⟨s, i, c, t, h, d⟩, A2, c2, D2, e2⟩)).heap[w.heap.size + 1]? = some (bxP ⟨⟨s, i, c, t, h, d⟩, A2, c2, D2, e2⟩) := by have := blk_new (w.alloc (bxP ⟨⟨s, i, c, t, h, d⟩, A1, c1, D1, e1⟩)) (bxP ⟨⟨s, i, c, t, h, d⟩, A2, c2, D2, e2⟩); simpa using this
  obtain ⟨f0, f1, f2, f3, f4, f5⟩ := hp_block X1
  obtain ⟨g0, g1, g2, g3, g4, g5⟩ := hp_block X2
  simp only [Nat.zero_add] at f0 f1 f2 f3 f4 f5 g0 g1 g2 g3 g4 g5
  have F := Lib.hid (hp_block X1)
  have G := Lib.hid (hp_block X2)
  have hz : w.heap.size + 1 < ((w.alloc (bxP ⟨⟨s, i, c, t, h, d⟩, A1, c1, D1, e1⟩)).alloc (bxP ⟨⟨s, i, c, t, h, d⟩, A2, c2, D2, e2⟩)).heap.size := by simp
  clear h1 h2 b0 X1 X2
  go_enter Try.func43, Try.ntmps43
  go_wp2_with fail
  obtain ⟨W, hW⟩ : ∃ W, ((w.alloc (bxP ⟨⟨s, i, c, t, h, d⟩, A1, c1, D1, e1⟩)).alloc (bxP ⟨⟨s, i, c, t, h, d⟩, A2, c2, D2, e2⟩)) = W := ⟨_, rfl⟩
  simp only [hW] at H1 H2 Q1 Q2 B0 F G hz ⊢
  clear f0 f1 f2 f3 f4 f5 g0 g1 g2 g3 g4 g5 hW
  go_loopw [44] (fun vi wr => ∃ k : Nat, vi = .int .i64 k ∧ k ≤ h.length ∧ Below W.heap.size W wr) (fun vi _ => h.length - (intOf vi).toNat)
  case atStart => exact ⟨0, rfl, Nat.zero_le _, Below.refl _ _⟩
  case round =>
    obtain ⟨k, rfl, hk, hb⟩ := hrel
    have B := Lib.hid hb
    obtain ⟨f0, f1, f2, f3, f4, f5⟩ := F.out.below hb (by omega)
    obtain ⟨g0, g1, g2, g3, g4, g5⟩ := G.out.below hb (by omega)
    simp only [Nat.zero_add] at f0 f1 f2 f3 f4 f5 g0 g1 g2 g3 g4 g5
    by_cases hlt : k < h.length
    · obtain ⟨b, p, rfl, _, hc⟩ := bo_cell (H1.out.next hb) k hlt
      obtain ⟨b', p', rfl, _, hc'⟩ := bo_cell (H2.out.next hb) k hlt
      clear hb
      obtain ⟨x, hx⟩ : ∃ x, h[k] = x := ⟨_, rfl⟩
      rw [hx] at hc hc'
      clear hx
      have q0 : (k : Int) < (h.length : Int) := by omega
      have q1 : (0 : Int) ≤ (k : Int) := by omega
      cases x with
      | false =>
        go_wp2_with fail
        go_quiet (fail)
        go_wp2_with fail
        go_roundw
        case rel => exact ⟨k + 1, by go_num, hlt, below_drewN B.out _⟩
        case measure => simp [intOf]; omega
      | true =>
        go_wp2_with fail
        go_quiet (fail)
        go_wp2_with fail
        go_roundw
        case rel => exact ⟨k + 1, by go_num, hlt, below_drewN B.out _⟩
        case measure => simp [intOf]; omega
    · have KS := Lib.hid (rpieces_any D1 D2 e1 e2 d wr hl.2 (Q1.out.next hb) (Q2.out.next hb))
      have B2 := Lib.hid (B0.out.trans (hb.mono B0.out.size))
      unfold OutB at KS
      clear hb
      go_wp2_with fail
      refine KS.out.mono ?_
      rintro _ w3 ⟨rfl, hb⟩
      have B3 := Lib.hid (B2.out.trans (hb.mono B2.out.size))
      clear hb
      go_wp2_with fail
      go_ret
      exact outB rfl B3.out

set_option maxRecDepth 100000 in
set_option maxHeartbeats 2000000 in
theorem rlist_any (A1 A2 : Option Addr) (c1 c2 : Nat) (l1 l2 : List Hp) (w : World) (hx : l1.map (·.x) = l2.map (·.x)) (hl : l1.length ≤ 1000000) (hm : ∀ y ∈ l1, y.x.h.length ≤ 9223372036854775807 ∧ y.x.d.length ≤ 9223372036854775807) (h1 : PsS w A1 c1 l1) (h2 : PsS w A2 c2 l2) : Calls Try.prog 20 #[.slice A1 l1.length c1, .slice A2 l2.length c2] w (OutB w true) := by
  have hll : l1.length = l2.length := by have := congrArg List.length hx; simpa using this
  have H1 := Lib.hid h1
  have H2 := Lib.hid h2
  have HX := Lib.hid (fun (k : Nat) (a : k < l1.length) (b : k < l2.length) => (show l1[k].x = l2[k].x from by
    have e := congrArg (fun l => l[k]?) hx
    simp only [List.getElem?_map, List.getElem?_eq_getElem a, List.getElem?_eq_getElem b, Option.map_some, Option.some.injEq] at e
    exact e))
  have HM := Lib.hid hm
  clear h1 h2 hx hm
  have d0 : ((l1.length : Int) != (l2.length : Int)) = false := by simp; omega
  have h12 : l1.length ≤ l2.length := by omega
  clear hll
  go_enter Try.func20, Try.ntmps20
  go_wp2_with fail
  go_loopw [13] (fun i wr => ∃ k : Nat, i = .int .i64 k ∧ k ≤ l1.length ∧ Below w.heap.size w wr) (fun i _ => l1.length - (intOf i).toNat)
  case atStart => exact ⟨0, rfl, Nat.zero_le _, Below.refl _ _⟩
  case round =>
    obtain ⟨k, rfl, hk, hb⟩ := hrel
    have B := Lib.hid hb
    by_cases hlt : k < l1.length
    · obtain ⟨b, p, rfl, hbl, hc, _, hn⟩ := ps_cell (H1.out.next hb) k hlt
      obtain ⟨b', p', rfl, hbl', hc', _, hn'⟩ := ps_cell (H2.out.next hb) k (by omega)
      have bd := below_drewN (Below.refl wr.heap.size wr) 1
      have KP := Lib.hid (rparts_any l1[k] (l2[k]'(by omega)) wr.drew (HX.out k hlt (by omega)) (HM.out _ (List.getElem_mem hlt)) (hn.next bd) (hn'.next bd))
      have c0 := hc.below bd hbl
      have c0' := hc'.below bd hbl'
      unfold OutB at KP
      clear hb HX HM hc hc' hn hn' bd
      have q0 : (k : Int) < (l1.length : Int) := by omega
      have q1 : (0 : Int) ≤ (k : Int) := by omega
      have q2 : (k : Int) < (l2.length : Int) := by omega
      obtain ⟨x, hx⟩ : ∃ x, l1[k] = x := ⟨_, rfl⟩
      obtain ⟨x', hx'⟩ : ∃ x, l2[k]'(by omega) = x := ⟨_, rfl⟩
      rw [hx] at KP c0
      rw [hx'] at KP c0'
      clear hx hx'
      obtain ⟨⟨s, i, c, t, h, d⟩, a1, a2, a3, a4⟩ := x
      obtain ⟨⟨s', i', c', t', h', d'⟩, a1', a2', a3', a4'⟩ := x'
      unfold HpC at c0 c0'
      simp only at c0 c0'
      go_wp2_with fail
      refine wp_region_held_drew (S := (fun wy : World => (wy.cell? ⟨b, p + k * 6, none⟩ = some (.int .i64 s) ∧ wy.cell? ⟨b, p + k * 6 + 1, none⟩ = some (.int .i64 i) ∧ wy.cell? ⟨b, p + k * 6 + 2, none⟩ = some (.int .i64 c) ∧ wy.cell? ⟨b, p + k * 6 + 3, none⟩ = some (.int .i64 t) ∧ wy.cell? ⟨b, p + k * 6 + 4, none⟩ = some (.slice a1 h.length a2) ∧ wy.cell? ⟨b, p + k * 6 + 5, none⟩ = some (.slice a3 d.length a4)) ∧ (wy.cell? ⟨b', p' + k * 6, none⟩ = some (.int .i64 s') ∧ wy.cell? ⟨b', p' + k * 6 + 1, none⟩ = some (.int .i64 i') ∧ wy.cell? ⟨b', p' + k * 6 + 2, none⟩ = some (.int .i64 c') ∧ wy.cell? ⟨b', p' + k * 6 + 3, none⟩ = some (.int .i64 t') ∧ wy.cell? ⟨b', p' + k * 6 + 4, none⟩ = some (.slice a1' h'.length a2') ∧ wy.cell? ⟨b', p' + k * 6 + 5, none⟩ = some (.slice a3' d'.length a4')))) (by kernel_rfl) (⟨c0, c0'⟩) (fun hHeld => ?_)
      refine wpAnyH_take (i := 0) (v := (.slice (some ⟨b, p, none⟩) l1.length c1)) at_zero (by kernel_rfl) (by kernel_rfl) (by kernel_rfl) (fun _ _ _ h => h) (Or.inl ⟨by kernel_rfl, fun wy hSw => ?_⟩) (by assumption) ?_
      · (try dsimp only at hSw); go_simp
      try simp only [Act.put, List.setIfInBounds_toArray, List.set_cons_zero, List.set_cons_succ]
      refine wpAnyH_take (i := 1) (v := (.int .i64 (k : Int))) (at_succ at_zero) (by kernel_rfl) (by kernel_rfl) (by kernel_rfl) (fun _ _ _ h => h) (Or.inl ⟨by kernel_rfl, fun wy hSw => ?_⟩) (by assumption) ?_
      · (try dsimp only at hSw); go_simp
      try simp only [Act.put, List.setIfInBounds_toArray, List.set_cons_zero, List.set_cons_succ]
      refine wpAnyH_take (i := 2) (v := (.pointer (some ⟨b, p + k * 6, none⟩))) (at_succ (at_succ at_zero)) (by kernel_rfl) (by kernel_rfl) (by kernel_rfl) (fun _ _ _ h => h) (Or.inl ⟨by kernel_rfl, fun wy hSw => ?_⟩) (by assumption) ?_
      · (try dsimp only at hSw); go_simp
      try simp only [Act.put, List.setIfInBounds_toArray, List.set_cons_zero, List.set_cons_succ]
      refine wpAnyH_take (i := 3) (v := (.agg #[.int .i64 s, .int .i64 i, .int .i64 c, .int .i64 t, .slice a1 h.length a2, .slice a3 d.length a4])) (at_succ (at_succ (at_succ at_zero))) (by kernel_rfl) (by kernel_rfl) (by kernel_rfl) (fun _ _ _ h => h) (Or.inl ⟨by kernel_rfl, fun wy hSw => ?_⟩) (by assumption) ?_
      · (try dsimp only at hSw); obtain ⟨⟨u0, u1, u2, u3, u4, u5⟩, v0, v1, v2, v3, v4, v5⟩ := hSw; go_simp
      try simp only [Act.put, List.setIfInBounds_toArray, List.set_cons_zero, List.set_cons_succ]
      refine wpAnyH_take (i := 4) (v := (.slice (some ⟨b', p', none⟩) l2.length c2)) (at_succ (at_succ (at_succ (at_succ at_zero)))) (by kernel_rfl) (by kernel_rfl) (by kernel_rfl) (fun _ _ _ h => h) (Or.inl ⟨by kernel_rfl, fun wy hSw => ?_⟩) (by assumption) ?_
      · (try dsimp only at hSw); go_simp
      try simp only [Act.put, List.setIfInBounds_toArray, List.set_cons_zero, List.set_cons_succ]
      refine wpAnyH_take (i := 5) (v := (.int .i64 (k : Int))) (at_succ (at_succ (at_succ (at_succ (at_succ at_zero))))) (by kernel_rfl) (by kernel_rfl) (by kernel_rfl) (fun _ _ _ h => h) (Or.inl ⟨by kernel_rfl, fun wy hSw => ?_⟩) (by assumption) ?_
      · (try dsimp only at hSw); go_simp
      try simp only [Act.put, List.setIfInBounds_toArray, List.set_cons_zero, List.set_cons_succ]
      refine wpAnyH_take (i := 6) (v := (.pointer (some ⟨b', p' + k * 6, none⟩))) (at_succ (at_succ (at_succ (at_succ (at_succ (at_succ at_zero)))))) (by kernel_rfl) (by kernel_rfl) (by kernel_rfl) (fun _ _ _ h => h) (Or.inl ⟨by kernel_rfl, fun wy hSw => ?_⟩) (by assumption) ?_
      · (try dsimp only at hSw); go_simp
      try simp only [Act.put, List.setIfInBounds_toArray, List.set_cons_zero, List.set_cons_succ]
      refine wpAnyH_take (i := 7) (v := (.agg #[.int .i64 s', .int .i64 i', .int .i64 c', .int .i64 t', .slice a1' h'.length a2', .slice a3' d'.length a4'])) (at_succ (at_succ (at_succ (at_succ (at_succ (at_succ (at_succ at_zero))))))) (by kernel_rfl) (by kernel_rfl) (by kernel_rfl) (fun _ _ _ h => h) (Or.inl ⟨by kernel_rfl, fun wy hSw => ?_⟩) (by assumption) ?_
      · (try dsimp only at hSw); obtain ⟨⟨u0, u1, u2, u3, u4, u5⟩, v0, v1, v2, v3, v4, v5⟩ := hSw; go_simp
      try simp only [Act.put, List.setIfInBounds_toArray, List.set_cons_zero, List.set_cons_succ]
      refine wpAnyH_ready (rs := [8]) (by kernel_rfl) (by simp) ?_
      refine AllReadyH.cons (at_succ (at_succ (at_succ (at_succ (at_succ (at_succ (at_succ (at_succ at_zero)))))))) (fun K hK => ?_) AllReadyH.nil
      rw [if_pos (by kernel_rfl)]
      go_simp
      refine KP.out.mono ?_
      rintro _ w5 ⟨rfl, hb⟩
      have c5 : HpC w5 b (p + k * 6) ⟨⟨s, i, c, t, h, d⟩, a1, a2, a3, a4⟩ := (show HpC wr.drew b (p + k * 6) ⟨⟨s, i, c, t, h, d⟩, a1, a2, a3, a4⟩ from c0).below hb hbl
      have c5' : HpC w5 b' (p' + k * 6) ⟨⟨s', i', c', t', h', d'⟩, a1', a2', a3', a4'⟩ := (show HpC wr.drew b' (p' + k * 6) ⟨⟨s', i', c', t', h', d'⟩, a1', a2', a3', a4'⟩ from c0').below hb hbl'
      have B5 := Lib.hid (B.out.trans (((below_drewN (Below.refl wr.heap.size wr) 1).trans (hb.mono (by simp))).mono B.out.size))
      clear hb hHeld
      go_wp2_with fail
      refine hK.out _ _ (⟨c5, c5'⟩) (fun hHeld => ?_)
      clear hK K
      try simp only [Act.put, List.setIfInBounds_toArray, List.set_cons_zero, List.set_cons_succ]
      refine wpAnyH_take (i := 9) (v := (.bool false)) (at_succ (at_succ (at_succ (at_succ (at_succ (at_succ (at_succ (at_succ (at_succ at_zero))))))))) (by kernel_rfl) (by kernel_rfl) (by kernel_rfl) (fun _ _ _ h => h) (Or.inl ⟨by kernel_rfl, fun wy hSw => ?_⟩) (by assumption) ?_
      · (try dsimp only at hSw); go_simp
      try simp only [Act.put, List.setIfInBounds_toArray, List.set_cons_zero, List.set_cons_succ]
      refine wpAnyH_done (by kernel_rfl) ?_ _
      go_wp2_with fail
      go_roundw
      case rel => exact ⟨k + 1, by go_num, hlt, B5.out⟩
      case measure => simp [intOf]; omega
    · clear hb HX HM
      go_wp2_with fail
      go_ret
      exact outB rfl B.out
end Go.Proofs.Ytljcjflbfjleoaa.Frg
