/- Arguments: a medium and a frame by value, a row of ints. -/
import Derived.Test.YtcnmknhjmflinaaRdO
set_option linter.unusedVariables false
namespace Go.Proofs.Ytcnmknhjmflinaa.Rdo
open Go.RowKit Go.ChangeShapes Go.WideShapes
open Tpo (fE)
variable {H : Type} {enc : TypeId × Value → H}

theorem slice_word {W : World} {fuel : Nat} {sp : Nat → Bool} {hd : Bool} {T e : TypeId} (ut : Try.prog.underlying T = some (.slice e)) {c0 : Value} {x : DataW H × List MemPlace} (hf : DataW.trod enc Try.prog W 0 sp hd fuel T [c0] = some x) : ∃ A n c, c0 = .slice A n c := by
  rcases Go.Deep.open_slice ut hf with ⟨hcs, hx⟩ | ⟨a, len, cap, m, k, D, Pl, hcs, _⟩
  · simp at hcs; exact ⟨_, _, _, hcs⟩
  · simp at hcs; exact ⟨_, _, _, hcs⟩
theorem nums_at {W : World} {fuel : Nat} {sp : Nat → Bool} {hd : Bool} {A : Option Addr} {n c : Nat} {x : DataW H × List MemPlace} (hf : DataW.trod enc Try.prog W 0 sp hd fuel 23 [.slice A n c] = some x) :
    ∃ l : List Int, n = l.length ∧ SlS fI W A c l ∧ l.length ≤ 9223372036854775807 := by
  obtain ⟨l, h1, h2, h3, h4, h5⟩ := flat_open (F := fI) Try.underlying23 (by kernel_rfl) (fun q cs y hl ht => by
    match cs, hl with
    | [c0], _ =>
      obtain ⟨n0, e0, _, w0⟩ := DataW.trod_int Try.underlying3 ht
      obtain rfl : c0 = .int .i64 n0 := by simpa using e0
      exact ⟨n0, rfl, lit_i64 w0⟩) hf
  exact ⟨l, h1, ⟨h2, h4, h5⟩, h3⟩
theorem edges_at {W : World} {fuel : Nat} {sp : Nat → Bool} {hd : Bool} {A : Option Addr} {n c : Nat} {x : DataW H × List MemPlace} (hf : DataW.trod enc Try.prog W 0 sp hd fuel 22 [.slice A n c] = some x) :
    ∃ l : List Tpo.Ed, n = l.length ∧ SlS fE W A c l := by
  obtain ⟨l, h1, h2, h3, h4, h5⟩ := flat_open (F := fE) Try.underlying22 (by kernel_rfl) (fun q cs y hl ht => by
    obtain ⟨xs, q, _, _, _, hxl, hfi⟩ := DataW.trod_struct Try.underlying49 ht
    match cs, hl with
    | [c0, c1], _ =>
      have f0 : DataW.trod enc Try.prog W 0 sp hd q 3 [c0] = xs[0]? := hfi 0 _ rfl
      have f1 : DataW.trod enc Try.prog W 0 sp hd q 3 [c1] = xs[1]? := hfi 1 _ rfl
      rw [List.getElem?_eq_getElem (by rw [hxl]; decide)] at f0 f1
      obtain ⟨n0, e0, _, w0⟩ := DataW.trod_int Try.underlying3 f0
      obtain ⟨n1, e1, _, w1⟩ := DataW.trod_int Try.underlying3 f1
      obtain rfl : c0 = .int .i64 n0 := by simpa using e0
      obtain rfl : c1 = .int .i64 n1 := by simpa using e1
      exact ⟨(n0, n1), rfl, lit_i64 w0, lit_i64 w1⟩) hf
  exact ⟨l, h1, h2, h4, h5⟩
theorem air_at {W : World} {r : Reach} {b0 : Nat} {sp : Nat → Bool} {hd : Bool} {v : Value} {x : DataW H} {q : List MemPlace} (hv : Value.okWide Try.prog W r b0 25 v) (h : DataW.Trod enc Try.prog W 0 sp hd 25 v x q) :
    ∃ (y : Hd) (a : Ar), v = airV y a ∧ AirS W y a := by
  obtain ⟨cs, rfl, hsz⟩ := okWide_struct Try.underlying25 hv
  have hC : Try.prog.cellsOf 25 = 3 := by kernel_rfl
  rw [hC] at hsz
  obtain ⟨fuel, hf⟩ := h
  obtain ⟨l⟩ := cs
  have hf : DataW.trod enc Try.prog W 0 sp hd fuel 25 l = some (x, q) := hf
  obtain ⟨ys, k, _, _, _, hyl, hfj⟩ := DataW.trod_struct Try.underlying25 hf
  match l, hsz with
  | [c0, c1, c2], _ =>
    have f0 : DataW.trod enc Try.prog W 0 sp hd k 22 [c0] = ys[0]? := hfj 0 _ rfl
    have f1 : DataW.trod enc Try.prog W 0 sp hd k 23 [c1] = ys[1]? := hfj 1 _ rfl
    have f2 : DataW.trod enc Try.prog W 0 sp hd k 23 [c2] = ys[2]? := hfj 2 _ rfl
    rw [List.getElem?_eq_getElem (by rw [hyl]; decide)] at f0 f1 f2
    obtain ⟨A0, m0, k0, rfl⟩ := slice_word Try.underlying22 f0
    obtain ⟨A1, m1, k1, rfl⟩ := slice_word Try.underlying23 f1
    obtain ⟨A2, m2, k2, rfl⟩ := slice_word Try.underlying23 f2
    obtain ⟨l0, rfl, h0⟩ := edges_at f0
    obtain ⟨l1, rfl, h1, _⟩ := nums_at f1
    obtain ⟨l2, rfl, h2, _⟩ := nums_at f2
    exact ⟨⟨A0, k0, A1, k1, A2, k2⟩, ⟨l0, l1, l2⟩, rfl, h0, h1, h2⟩
/-- A frame's nine fields. -/
structure Fm9 where
  k : Int
  f : Int
  t : Int
  s : Int
  g : Int
  q : Int
  h : Int
  u : Bool
  d : ByteArray
theorem frame_at {W : World} {r : Reach} {b0 : Nat} {sp : Nat → Bool} {hd : Bool} {v : Value} {x : DataW H} {q : List MemPlace} (hv : Value.okWide Try.prog W r b0 31 v) (h : DataW.Trod enc Try.prog W 0 sp hd 31 v x q) :
    ∃ y : Fm9, v = frmV y.k y.f y.t y.s y.g y.q y.h y.u y.d ∧ True := by
  obtain ⟨cs, rfl, hsz⟩ := okWide_struct Try.underlying31 hv
  have hC : Try.prog.cellsOf 31 = 9 := by kernel_rfl
  rw [hC] at hsz
  obtain ⟨fuel, hf⟩ := h
  obtain ⟨l⟩ := cs
  have hf : DataW.trod enc Try.prog W 0 sp hd fuel 31 l = some (x, q) := hf
  obtain ⟨ys, k, _, _, _, hyl, hfj⟩ := DataW.trod_struct Try.underlying31 hf
  match l, hsz with
  | [c0, c1, c2, c3, c4, c5, c6, c7, c8], _ =>
    have f0 : DataW.trod enc Try.prog W 0 sp hd k 3 [c0] = ys[0]? := hfj 0 _ rfl
    have f1 : DataW.trod enc Try.prog W 0 sp hd k 3 [c1] = ys[1]? := hfj 1 _ rfl
    have f2 : DataW.trod enc Try.prog W 0 sp hd k 3 [c2] = ys[2]? := hfj 2 _ rfl
    have f3 : DataW.trod enc Try.prog W 0 sp hd k 3 [c3] = ys[3]? := hfj 3 _ rfl
    have f4 : DataW.trod enc Try.prog W 0 sp hd k 3 [c4] = ys[4]? := hfj 4 _ rfl
    have f5 : DataW.trod enc Try.prog W 0 sp hd k 3 [c5] = ys[5]? := hfj 5 _ rfl
    have f6 : DataW.trod enc Try.prog W 0 sp hd k 3 [c6] = ys[6]? := hfj 6 _ rfl
    have f7 : DataW.trod enc Try.prog W 0 sp hd k 4 [c7] = ys[7]? := hfj 7 _ rfl
    have f8 : DataW.trod enc Try.prog W 0 sp hd k 9 [c8] = ys[8]? := hfj 8 _ rfl
    rw [List.getElem?_eq_getElem (by rw [hyl]; decide)] at f0 f1 f2 f3 f4 f5 f6 f7 f8
    obtain ⟨n0, e0, _, w0⟩ := DataW.trod_int Try.underlying3 f0
    obtain ⟨n1, e1, _, w1⟩ := DataW.trod_int Try.underlying3 f1
    obtain ⟨n2, e2, _, w2⟩ := DataW.trod_int Try.underlying3 f2
    obtain ⟨n3, e3, _, w3⟩ := DataW.trod_int Try.underlying3 f3
    obtain ⟨n4, e4, _, w4⟩ := DataW.trod_int Try.underlying3 f4
    obtain ⟨n5, e5, _, w5⟩ := DataW.trod_int Try.underlying3 f5
    obtain ⟨n6, e6, _, w6⟩ := DataW.trod_int Try.underlying3 f6
    obtain ⟨n7, e7, _⟩ := DataW.trod_bool Try.underlying4 f7
    obtain ⟨n8, e8, _, w8⟩ := DataW.trod_string Try.underlying9 f8
    obtain rfl : c0 = .int .i64 n0 := by simpa using e0
    obtain rfl : c1 = .int .i64 n1 := by simpa using e1
    obtain rfl : c2 = .int .i64 n2 := by simpa using e2
    obtain rfl : c3 = .int .i64 n3 := by simpa using e3
    obtain rfl : c4 = .int .i64 n4 := by simpa using e4
    obtain rfl : c5 = .int .i64 n5 := by simpa using e5
    obtain rfl : c6 = .int .i64 n6 := by simpa using e6
    obtain rfl : c7 = .bool n7 := by simpa using e7
    obtain rfl : c8 = .string n8 := by simpa using e8
    exact ⟨⟨n0, n1, n2, n3, n4, n5, n6, n7, n8⟩, rfl, trivial⟩
end Go.Proofs.Ytcnmknhjmflinaa.Rdo
