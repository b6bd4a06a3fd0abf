/- Arguments: a frame, a pair by value. -/
import Derived.Test.YtpfmfnogckeneaaMcM
import Derived.Test.YtpfmfnogckeneaaMcL
import Derived.Test.YtpfmfnogckeneaaMcT
import Derived.Test.YtpfmfnogckeneaaMcO
set_option linter.unusedVariables false
namespace Go.Proofs.Ytpfmfnogckeneaa.Mcq
open Go.RowKit Go.ChangeShapes Go.WideShapes
open Mbx (Fm zf fmC fmV FOk fF)
variable {H : Type} {enc : TypeId × Value → H}

theorem frame_at {W : World} {r : Reach} {b0 : Nat} {sp : Nat → Bool} {hd : Bool} {v : Value} {x : DataW H} {q : List MemPlace} (hv : Value.okWide Try.prog W r b0 24 v) (h : DataW.Trod enc Try.prog W 0 sp hd 24 v x q) :
    ∃ f : Fm, v = fmV f ∧ FOk f := by
  obtain ⟨cs, rfl, hsz⟩ := okWide_struct Try.underlying24 hv
  have hC : Try.prog.cellsOf 24 = 9 := by kernel_rfl
  rw [hC] at hsz
  obtain ⟨fuel, hf⟩ := h
  obtain ⟨l⟩ := cs
  have hf : DataW.trod enc Try.prog W 0 sp hd fuel 24 l = some (x, q) := hf
  obtain ⟨ys, k, _, _, _, hyl, hfj⟩ := DataW.trod_struct Try.underlying24 hf
  match l, hsz with
  | [c0, c1, c2, c3, c4, c5, c6, c7, c8], _ =>
    have f0 : DataW.trod enc Try.prog W 0 sp hd k 3 [c0] = ys[0]? := hfj 0 _ rfl
    have f1 : DataW.trod enc Try.prog W 0 sp hd k 3 [c1] = ys[1]? := hfj 1 _ rfl
    have f2 : DataW.trod enc Try.prog W 0 sp hd k 3 [c2] = ys[2]? := hfj 2 _ rfl
    have f3 : DataW.trod enc Try.prog W 0 sp hd k 3 [c3] = ys[3]? := hfj 3 _ rfl
    have f4 : DataW.trod enc Try.prog W 0 sp hd k 3 [c4] = ys[4]? := hfj 4 _ rfl
    have f5 : DataW.trod enc Try.prog W 0 sp hd k 3 [c5] = ys[5]? := hfj 5 _ rfl
    have f6 : DataW.trod enc Try.prog W 0 sp hd k 3 [c6] = ys[6]? := hfj 6 _ rfl
    have f7 : DataW.trod enc Try.prog W 0 sp hd k 4 [c7] = ys[7]? := hfj 7 _ rfl
    have f8 : DataW.trod enc Try.prog W 0 sp hd k 9 [c8] = ys[8]? := hfj 8 _ rfl
    rw [List.getElem?_eq_getElem (by rw [hyl]; decide)] at f0 f1 f2 f3 f4 f5 f6 f7 f8
    obtain ⟨n0, e0, _, w0⟩ := DataW.trod_int Try.underlying3 f0
    obtain ⟨n1, e1, _, w1⟩ := DataW.trod_int Try.underlying3 f1
    obtain ⟨n2, e2, _, w2⟩ := DataW.trod_int Try.underlying3 f2
    obtain ⟨n3, e3, _, w3⟩ := DataW.trod_int Try.underlying3 f3
    obtain ⟨n4, e4, _, w4⟩ := DataW.trod_int Try.underlying3 f4
    obtain ⟨n5, e5, _, w5⟩ := DataW.trod_int Try.underlying3 f5
    obtain ⟨n6, e6, _, w6⟩ := DataW.trod_int Try.underlying3 f6
    obtain ⟨n7, e7, _⟩ := DataW.trod_bool Try.underlying4 f7
    obtain ⟨n8, e8, _, w8⟩ := DataW.trod_string Try.underlying9 f8
    obtain rfl : c0 = .int .i64 n0 := by simpa using e0
    obtain rfl : c1 = .int .i64 n1 := by simpa using e1
    obtain rfl : c2 = .int .i64 n2 := by simpa using e2
    obtain rfl : c3 = .int .i64 n3 := by simpa using e3
    obtain rfl : c4 = .int .i64 n4 := by simpa using e4
    obtain rfl : c5 = .int .i64 n5 := by simpa using e5
    obtain rfl : c6 = .int .i64 n6 := by simpa using e6
    obtain rfl : c7 = .bool n7 := by simpa using e7
    obtain rfl : c8 = .string n8 := by simpa using e8
    exact ⟨⟨n0, n1, n2, n3, n4, n5, n6, n7, n8⟩, rfl, ⟨lit_i64 w0, lit_i64 w1, lit_i64 w2, lit_i64 w3, lit_i64 w4, lit_i64 w5, lit_i64 w6, by unfold maxLen at w8; exact w8⟩⟩
theorem pr_at {W : World} {r : Reach} {b0 : Nat} {sp : Nat → Bool} {hd : Bool} {v : Value} {x : DataW H} {q : List MemPlace} (hv : Value.okWide Try.prog W r b0 36 v) (h : DataW.Trod enc Try.prog W 0 sp hd 36 v x q) :
    ∃ x y, v = .agg #[.int .i64 x, .int .i64 y] ∧ I64 x ∧ I64 y := by
  obtain ⟨cs, rfl, hsz⟩ := okWide_struct Try.underlying36 hv
  have hC : Try.prog.cellsOf 36 = 2 := by kernel_rfl
  rw [hC] at hsz
  obtain ⟨fuel, hf⟩ := h
  obtain ⟨l⟩ := cs
  have hf : DataW.trod enc Try.prog W 0 sp hd fuel 36 l = some (x, q) := hf
  obtain ⟨ys, k, _, _, _, hyl, hfj⟩ := DataW.trod_struct Try.underlying36 hf
  match l, hsz with
  | [c0, c1], _ =>
    have f0 : DataW.trod enc Try.prog W 0 sp hd k 3 [c0] = ys[0]? := hfj 0 _ rfl
    have f1 : DataW.trod enc Try.prog W 0 sp hd k 3 [c1] = ys[1]? := hfj 1 _ rfl
    rw [List.getElem?_eq_getElem (by rw [hyl]; decide)] at f0 f1
    obtain ⟨n0, e0, _, w0⟩ := DataW.trod_int Try.underlying3 f0
    obtain ⟨n1, e1, _, w1⟩ := DataW.trod_int Try.underlying3 f1
    obtain rfl : c0 = .int .i64 n0 := by simpa using e0
    obtain rfl : c1 = .int .i64 n1 := by simpa using e1
    exact ⟨n0, n1, rfl, lit_i64 w0, lit_i64 w1⟩
end Go.Proofs.Ytpfmfnogckeneaa.Mcq
