/- Entries of a queue, pairs in memory; arguments. -/
import Derived.Test.YtpfmfnogckeneaaMbA
import Derived.Test.YtpfmfnogckeneaaAf
import Derived.Test.YtpfmfnogckeneaaMcPlain
set_option linter.unusedVariables false
namespace Go.Proofs.Ytpfmfnogckeneaa.Mcq
open Go.RowKit
open Mbx (Fm zf fmC fmV FOk fF)

abbrev sdV (x : Sd) : Value := .agg #[.int .i64 x.1.k, .int .i64 x.1.f, .int .i64 x.1.t, .int .i64 x.1.s, .int .i64 x.1.g, .int .i64 x.1.q, .int .i64 x.1.h, .bool x.1.u, .string x.1.d, .int .i64 x.2.1, .int .i64 x.2.2]
def fS : Flat Sd := ⟨11, fun x => [.int .i64 x.1.k, .int .i64 x.1.f, .int .i64 x.1.t, .int .i64 x.1.s, .int .i64 x.1.g, .int .i64 x.1.q, .int .i64 x.1.h, .bool x.1.u, .string x.1.d, .int .i64 x.2.1, .int .i64 x.2.2], fun x => FOk x.1 ∧ I64 x.2.1 ∧ I64 x.2.2, by decide, fun _ => rfl, fun _ v h => by simp at h; rcases h with rfl | rfl | rfl | rfl | rfl | rfl | rfl | rfl | rfl | rfl | rfl <;> rfl⟩
abbrev SdAt (w : World) (B : Nat) (A : Option Addr) (l : List Sd) : Prop := FlAt fS w B A l
abbrev SdS (w : World) (A : Option Addr) (c : Nat) (l : List Sd) : Prop := SlS fS w A c l
abbrev OwnS (w : World) (B : Nat) (v : Value) (l : List Sd) : Prop := OwnF fS 42 w B v l
/-- The eleven cells of an entry. -/
def SdC (w : World) (b p : Nat) (x : Sd) : Prop := w.cell? ⟨b, p, none⟩ = some (.int .i64 x.1.k) ∧ w.cell? ⟨b, p + 1, none⟩ = some (.int .i64 x.1.f) ∧ w.cell? ⟨b, p + 2, none⟩ = some (.int .i64 x.1.t) ∧ w.cell? ⟨b, p + 3, none⟩ = some (.int .i64 x.1.s) ∧ w.cell? ⟨b, p + 4, none⟩ = some (.int .i64 x.1.g) ∧ w.cell? ⟨b, p + 5, none⟩ = some (.int .i64 x.1.q) ∧ w.cell? ⟨b, p + 6, none⟩ = some (.int .i64 x.1.h) ∧ w.cell? ⟨b, p + 7, none⟩ = some (.bool x.1.u) ∧ w.cell? ⟨b, p + 8, none⟩ = some (.string x.1.d) ∧ w.cell? ⟨b, p + 9, none⟩ = some (.int .i64 x.2.1) ∧ w.cell? ⟨b, p + 10, none⟩ = some (.int .i64 x.2.2)
theorem sd_cell {w : World} {B : Nat} {A : Option Addr} {l : List Sd} (h : SdAt w B A l) (i : Nat) (hi : i < l.length) : ∃ b p, A = some ⟨b, p, none⟩ ∧ b < B ∧ SdC w b (p + i * 11) l[i] ∧ fS.ok l[i] := by
  obtain ⟨b, p, h1, h2, h3, h4⟩ := h i hi
  exact ⟨b, p, h1, h2, ⟨h3 0 _ rfl, h3 1 _ rfl, h3 2 _ rfl, h3 3 _ rfl, h3 4 _ rfl, h3 5 _ rfl, h3 6 _ rfl, h3 7 _ rfl, h3 8 _ rfl, h3 9 _ rfl, h3 10 _ rfl⟩, h4⟩
theorem SdC.block {w w' : World} {b p : Nat} {y : Sd} (h : SdC w b p y) (e : w'.heap[b]? = w.heap[b]?) : SdC w' b p y := by
  have k : ∀ j, w'.cell? ⟨b, j, none⟩ = w.cell? ⟨b, j, none⟩ := fun j => World.cell?_of_block (a := ⟨b, j, none⟩) e
  unfold SdC
  rw [k, k, k, k, k, k, k, k, k, k, k]
  exact h
theorem SdC.below {w w' : World} {b p B : Nat} {y : Sd} (h : SdC w b p y) (hb : Below B w w') (hlt : b < B) : SdC w' b p y := h.block (hb.block b hlt)
theorem eSd : Elems Try.prog 22 42 fS.sz := Elems.mk' Try.underlying22 (z := sdV z0) (m := 96) (by kernel_rfl) (by decide) rfl
/-- Entries are handed back: a row of the call's own. -/
def OutS (w : World) (l : List Sd) (e : Ending) (w' : World) : Prop := ∃ v, e = .returned v ∧ OwnS w' w.heap.size v l ∧ Below w.heap.size w w'
/-- Entries are handed back, as they read. -/
def SdR (w : World) (l : List Sd) (e : Ending) (w' : World) : Prop := ∃ A c, e = .returned (.slice A l.length c) ∧ SdS w' A c l ∧ Below w.heap.size w w'
/-- Entries and a bool. -/
def SbR (w : World) (r : List Sd × Bool) (e : Ending) (w' : World) : Prop := ∃ A c, e = .returned (.tuple #[.slice A r.1.length c, .bool r.2]) ∧ SdS w' A c r.1 ∧ Below w.heap.size w w'
/-! Pairs. -/
abbrev prV (x : Pr) : Value := .agg #[.int .i64 x.1, .int .i64 x.2]
def fQ : Flat Pr := ⟨2, fun x => [.int .i64 x.1, .int .i64 x.2], fun x => I64 x.1 ∧ I64 x.2, by decide, fun _ => rfl, fun _ v h => by simp at h; rcases h with rfl | rfl <;> rfl⟩
abbrev PrS (w : World) (A : Option Addr) (c : Nat) (l : List Pr) : Prop := SlS fQ w A c l
theorem pr_cell {w : World} {B : Nat} {A : Option Addr} {l : List Pr} (h : FlAt fQ w B A l) (i : Nat) (hi : i < l.length) : ∃ b p, A = some ⟨b, p, none⟩ ∧ b < B ∧ w.cell? ⟨b, p + i * 2, none⟩ = some (.int .i64 l[i].1) ∧ w.cell? ⟨b, p + i * 2 + 1, none⟩ = some (.int .i64 l[i].2) ∧ fQ.ok l[i] := by
  obtain ⟨b, p, h1, h2, h3, h4⟩ := h i hi
  exact ⟨b, p, h1, h2, h3 0 _ rfl, h3 1 _ rfl, h4⟩
theorem ePr : Elems Try.prog 34 36 fQ.sz := Elems.mk' Try.underlying34 (z := prV (0, 0)) (m := 16) (by kernel_rfl) (by decide) rfl
def PbR (w : World) (r : List Pr × Bool) (e : Ending) (w' : World) : Prop := ∃ A c, e = .returned (.tuple #[.slice A r.1.length c, .bool r.2]) ∧ PrS w' A c r.1 ∧ Below w.heap.size w w'
/-! Changes of a queue. -/
structure Ch where
  kind : Int
  i : Int
  f : Fm
  ok : Bool
abbrev chC (x : Ch) : List Value := [.int .i64 x.kind, .int .i64 x.i, .int .i64 x.f.k, .int .i64 x.f.f, .int .i64 x.f.t, .int .i64 x.f.s, .int .i64 x.f.g, .int .i64 x.f.q, .int .i64 x.f.h, .bool x.f.u, .string x.f.d, .bool x.ok]
def fCh : Flat Ch := ⟨12, chC, fun x => I64 x.kind ∧ I64 x.i ∧ FOk x.f, by decide, fun _ => rfl, fun _ v h => by simp at h; rcases h with rfl | rfl | rfl | rfl | rfl | rfl | rfl | rfl | rfl | rfl | rfl | rfl <;> rfl⟩
theorem ch_cell {w : World} {A : Option Addr} {c : Nat} {l : List Ch} (h : SlS fCh w A c l) (i : Nat) (hi : i < l.length) : ∃ b p, A = some ⟨b, p, none⟩ ∧ b < w.heap.size ∧ w.cell? ⟨b, p + i * 12, none⟩ = some (.int .i64 l[i].kind) ∧ w.cell? ⟨b, p + i * 12 + 1, none⟩ = some (.int .i64 l[i].i) ∧ w.cell? ⟨b, p + i * 12 + 2, none⟩ = some (.int .i64 l[i].f.k) ∧ w.cell? ⟨b, p + i * 12 + 3, none⟩ = some (.int .i64 l[i].f.f) ∧ w.cell? ⟨b, p + i * 12 + 4, none⟩ = some (.int .i64 l[i].f.t) ∧ w.cell? ⟨b, p + i * 12 + 5, none⟩ = some (.int .i64 l[i].f.s) ∧ w.cell? ⟨b, p + i * 12 + 6, none⟩ = some (.int .i64 l[i].f.g) ∧ w.cell? ⟨b, p + i * 12 + 7, none⟩ = some (.int .i64 l[i].f.q) ∧ w.cell? ⟨b, p + i * 12 + 8, none⟩ = some (.int .i64 l[i].f.h) ∧ w.cell? ⟨b, p + i * 12 + 9, none⟩ = some (.bool l[i].f.u) ∧ w.cell? ⟨b, p + i * 12 + 10, none⟩ = some (.string l[i].f.d) ∧ w.cell? ⟨b, p + i * 12 + 11, none⟩ = some (.bool l[i].ok) ∧ fCh.ok l[i] := by
  obtain ⟨b, p, h1, h2, h3, h4⟩ := h.1 i hi
  exact ⟨b, p, h1, h2, h3 0 _ rfl, h3 1 _ rfl, h3 2 _ rfl, h3 3 _ rfl, h3 4 _ rfl, h3 5 _ rfl, h3 6 _ rfl, h3 7 _ rfl, h3 8 _ rfl, h3 9 _ rfl, h3 10 _ rfl, h3 11 _ rfl, h4⟩

section
open Go.ChangeShapes Go.WideShapes
variable {H : Type} {enc : TypeId × Value → H}
theorem sends_at {W : World} {fuel : Nat} {sp : Nat → Bool} {hd : Bool} {A : Option Addr} {n c : Nat} {x : DataW H × List MemPlace} (hf : DataW.trod enc Try.prog W 0 sp hd fuel 22 [.slice A n c] = some x) :
    ∃ l, n = List.length l ∧ SdS W A c l ∧ l.length ≤ 9223372036854775807 := by
  obtain ⟨l, h1, h2, h3, h4, h5⟩ := flat_open (F := fS) Try.underlying22 (by kernel_rfl) (fun q cs y hl ht => by
    obtain ⟨xs, q, _, _, _, hxl, hfi⟩ := DataW.trod_struct Try.underlying42 ht
    match cs, hl with
    | [c0, c1, c2, c3, c4, c5, c6, c7, c8, c9, c10], _ =>
      have g0 : DataW.trod enc Try.prog W 0 sp hd q 24 [c0, c1, c2, c3, c4, c5, c6, c7, c8] = xs[0]? := hfi 0 _ rfl
      have g1 : DataW.trod enc Try.prog W 0 sp hd q 3 [c9] = xs[1]? := hfi 1 _ rfl
      have g2 : DataW.trod enc Try.prog W 0 sp hd q 3 [c10] = xs[2]? := hfi 2 _ rfl
      rw [List.getElem?_eq_getElem (by rw [hxl]; decide)] at g0 g1 g2
      obtain ⟨n9, e9, _, w9⟩ := DataW.trod_int Try.underlying3 g1
      obtain ⟨n10, e10, _, w10⟩ := DataW.trod_int Try.underlying3 g2
      obtain ⟨ys, k, _, _, _, hyl, hfj⟩ := DataW.trod_struct Try.underlying24 g0
      have f0 : DataW.trod enc Try.prog W 0 sp hd k 3 [c0] = ys[0]? := hfj 0 _ rfl
      have f1 : DataW.trod enc Try.prog W 0 sp hd k 3 [c1] = ys[1]? := hfj 1 _ rfl
      have f2 : DataW.trod enc Try.prog W 0 sp hd k 3 [c2] = ys[2]? := hfj 2 _ rfl
      have f3 : DataW.trod enc Try.prog W 0 sp hd k 3 [c3] = ys[3]? := hfj 3 _ rfl
      have f4 : DataW.trod enc Try.prog W 0 sp hd k 3 [c4] = ys[4]? := hfj 4 _ rfl
      have f5 : DataW.trod enc Try.prog W 0 sp hd k 3 [c5] = ys[5]? := hfj 5 _ rfl
      have f6 : DataW.trod enc Try.prog W 0 sp hd k 3 [c6] = ys[6]? := hfj 6 _ rfl
      have f7 : DataW.trod enc Try.prog W 0 sp hd k 4 [c7] = ys[7]? := hfj 7 _ rfl
      have f8 : DataW.trod enc Try.prog W 0 sp hd k 9 [c8] = ys[8]? := hfj 8 _ rfl
      rw [List.getElem?_eq_getElem (by rw [hyl]; decide)] at f0 f1 f2 f3 f4 f5 f6 f7 f8
      obtain ⟨n0, e0, _, w0⟩ := DataW.trod_int Try.underlying3 f0
      obtain ⟨n1, e1, _, w1⟩ := DataW.trod_int Try.underlying3 f1
      obtain ⟨n2, e2, _, w2⟩ := DataW.trod_int Try.underlying3 f2
      obtain ⟨n3, e3, _, w3⟩ := DataW.trod_int Try.underlying3 f3
      obtain ⟨n4, e4, _, w4⟩ := DataW.trod_int Try.underlying3 f4
      obtain ⟨n5, e5, _, w5⟩ := DataW.trod_int Try.underlying3 f5
      obtain ⟨n6, e6, _, w6⟩ := DataW.trod_int Try.underlying3 f6
      obtain ⟨n7, e7, _⟩ := DataW.trod_bool Try.underlying4 f7
      obtain ⟨n8, e8, _, w8⟩ := DataW.trod_string Try.underlying9 f8
      obtain rfl : c0 = .int .i64 n0 := by simpa using e0
      obtain rfl : c1 = .int .i64 n1 := by simpa using e1
      obtain rfl : c2 = .int .i64 n2 := by simpa using e2
      obtain rfl : c3 = .int .i64 n3 := by simpa using e3
      obtain rfl : c4 = .int .i64 n4 := by simpa using e4
      obtain rfl : c5 = .int .i64 n5 := by simpa using e5
      obtain rfl : c6 = .int .i64 n6 := by simpa using e6
      obtain rfl : c7 = .bool n7 := by simpa using e7
      obtain rfl : c8 = .string n8 := by simpa using e8
      obtain rfl : c9 = .int .i64 n9 := by simpa using e9
      obtain rfl : c10 = .int .i64 n10 := by simpa using e10
      exact ⟨(⟨n0, n1, n2, n3, n4, n5, n6, n7, n8⟩, n9, n10), rfl, ⟨lit_i64 w0, lit_i64 w1, lit_i64 w2, lit_i64 w3, lit_i64 w4, lit_i64 w5, lit_i64 w6, by unfold maxLen at w8; exact w8⟩, lit_i64 w9, lit_i64 w10⟩) hf
  exact ⟨l, h1, ⟨h2, h4, h5⟩, h3⟩
theorem pairs_at {W : World} {fuel : Nat} {sp : Nat → Bool} {hd : Bool} {A : Option Addr} {n c : Nat} {x : DataW H × List MemPlace} (hf : DataW.trod enc Try.prog W 0 sp hd fuel 34 [.slice A n c] = some x) :
    ∃ l, n = List.length l ∧ PrS W A c l ∧ l.length ≤ 9223372036854775807 := by
  obtain ⟨l, h1, h2, h3, h4, h5⟩ := flat_open (F := fQ) Try.underlying34 (by kernel_rfl) (fun q cs y hl ht => by
    obtain ⟨xs, q, _, _, _, hxl, hfi⟩ := DataW.trod_struct Try.underlying36 ht
    match cs, hl with
    | [c0, c1], _ =>
      have g0 : DataW.trod enc Try.prog W 0 sp hd q 3 [c0] = xs[0]? := hfi 0 _ rfl
      have g1 : DataW.trod enc Try.prog W 0 sp hd q 3 [c1] = xs[1]? := hfi 1 _ rfl
      rw [List.getElem?_eq_getElem (by rw [hxl]; decide)] at g0 g1
      obtain ⟨n0, e0, _, w0⟩ := DataW.trod_int Try.underlying3 g0
      obtain ⟨n1, e1, _, w1⟩ := DataW.trod_int Try.underlying3 g1
      obtain rfl : c0 = .int .i64 n0 := by simpa using e0
      obtain rfl : c1 = .int .i64 n1 := by simpa using e1
      exact ⟨(n0, n1), rfl, lit_i64 w0, lit_i64 w1⟩) hf
  exact ⟨l, h1, ⟨h2, h4, h5⟩, h3⟩
theorem chs_at {W : World} {fuel : Nat} {sp : Nat → Bool} {hd : Bool} {A : Option Addr} {n c : Nat} {x : DataW H × List MemPlace} (hf : DataW.trod enc Try.prog W 0 sp hd fuel 44 [.slice A n c] = some x) :
    ∃ l, n = List.length l ∧ SlS fCh W A c l ∧ l.length ≤ 9223372036854775807 := by
  obtain ⟨l, h1, h2, h3, h4, h5⟩ := flat_open (F := fCh) Try.underlying44 (by kernel_rfl) (fun q cs y hl ht => by
    obtain ⟨xs, q, _, _, _, hxl, hfi⟩ := DataW.trod_struct Try.underlying46 ht
    match cs, hl with
    | [a0, a1, c0, c1, c2, c3, c4, c5, c6, c7, c8, a3], _ =>
      have g0 : DataW.trod enc Try.prog W 0 sp hd q 3 [a0] = xs[0]? := hfi 0 _ rfl
      have g1 : DataW.trod enc Try.prog W 0 sp hd q 3 [a1] = xs[1]? := hfi 1 _ rfl
      have g2 : DataW.trod enc Try.prog W 0 sp hd q 24 [c0, c1, c2, c3, c4, c5, c6, c7, c8] = xs[2]? := hfi 2 _ rfl
      have g3 : DataW.trod enc Try.prog W 0 sp hd q 4 [a3] = xs[3]? := hfi 3 _ rfl
      rw [List.getElem?_eq_getElem (by rw [hxl]; decide)] at g0 g1 g2 g3
      obtain ⟨n9, e9, _, w9⟩ := DataW.trod_int Try.underlying3 g0
      obtain ⟨n10, e10, _, w10⟩ := DataW.trod_int Try.underlying3 g1
      obtain ⟨n11, e11, _⟩ := DataW.trod_bool Try.underlying4 g3
      obtain ⟨ys, k, _, _, _, hyl, hfj⟩ := DataW.trod_struct Try.underlying24 g2
      have f0 : DataW.trod enc Try.prog W 0 sp hd k 3 [c0] = ys[0]? := hfj 0 _ rfl
      have f1 : DataW.trod enc Try.prog W 0 sp hd k 3 [c1] = ys[1]? := hfj 1 _ rfl
      have f2 : DataW.trod enc Try.prog W 0 sp hd k 3 [c2] = ys[2]? := hfj 2 _ rfl
      have f3 : DataW.trod enc Try.prog W 0 sp hd k 3 [c3] = ys[3]? := hfj 3 _ rfl
      have f4 : DataW.trod enc Try.prog W 0 sp hd k 3 [c4] = ys[4]? := hfj 4 _ rfl
      have f5 : DataW.trod enc Try.prog W 0 sp hd k 3 [c5] = ys[5]? := hfj 5 _ rfl
      have f6 : DataW.trod enc Try.prog W 0 sp hd k 3 [c6] = ys[6]? := hfj 6 _ rfl
      have f7 : DataW.trod enc Try.prog W 0 sp hd k 4 [c7] = ys[7]? := hfj 7 _ rfl
      have f8 : DataW.trod enc Try.prog W 0 sp hd k 9 [c8] = ys[8]? := hfj 8 _ rfl
      rw [List.getElem?_eq_getElem (by rw [hyl]; decide)] at f0 f1 f2 f3 f4 f5 f6 f7 f8
      obtain ⟨n0, e0, _, w0⟩ := DataW.trod_int Try.underlying3 f0
      obtain ⟨n1, e1, _, w1⟩ := DataW.trod_int Try.underlying3 f1
      obtain ⟨n2, e2, _, w2⟩ := DataW.trod_int Try.underlying3 f2
      obtain ⟨n3, e3, _, w3⟩ := DataW.trod_int Try.underlying3 f3
      obtain ⟨n4, e4, _, w4⟩ := DataW.trod_int Try.underlying3 f4
      obtain ⟨n5, e5, _, w5⟩ := DataW.trod_int Try.underlying3 f5
      obtain ⟨n6, e6, _, w6⟩ := DataW.trod_int Try.underlying3 f6
      obtain ⟨n7, e7, _⟩ := DataW.trod_bool Try.underlying4 f7
      obtain ⟨n8, e8, _, w8⟩ := DataW.trod_string Try.underlying9 f8
      obtain rfl : c0 = .int .i64 n0 := by simpa using e0
      obtain rfl : c1 = .int .i64 n1 := by simpa using e1
      obtain rfl : c2 = .int .i64 n2 := by simpa using e2
      obtain rfl : c3 = .int .i64 n3 := by simpa using e3
      obtain rfl : c4 = .int .i64 n4 := by simpa using e4
      obtain rfl : c5 = .int .i64 n5 := by simpa using e5
      obtain rfl : c6 = .int .i64 n6 := by simpa using e6
      obtain rfl : c7 = .bool n7 := by simpa using e7
      obtain rfl : c8 = .string n8 := by simpa using e8
      obtain rfl : a0 = .int .i64 n9 := by simpa using e9
      obtain rfl : a1 = .int .i64 n10 := by simpa using e10
      obtain rfl : a3 = .bool n11 := by simpa using e11
      exact ⟨⟨n9, n10, ⟨n0, n1, n2, n3, n4, n5, n6, n7, n8⟩, n11⟩, rfl, lit_i64 w9, lit_i64 w10, ⟨lit_i64 w0, lit_i64 w1, lit_i64 w2, lit_i64 w3, lit_i64 w4, lit_i64 w5, lit_i64 w6, by unfold maxLen at w8; exact w8⟩⟩) hf
  exact ⟨l, h1, ⟨h2, h4, h5⟩, h3⟩
end
end Go.Proofs.Ytpfmfnogckeneaa.Mcq
