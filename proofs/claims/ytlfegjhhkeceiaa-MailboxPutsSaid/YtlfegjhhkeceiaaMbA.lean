/- Mails in memory; the reference's Limit, first, Count, Expire. -/
import Derived.Test.YtlfegjhhkeceiaaGr
import Derived.Test.YtlfegjhhkeceiaaQH
import Derived.Test.YtlfegjhhkeceiaaMbPlain
set_option linter.unusedVariables false
namespace Go.Proofs.Ytlfegjhhkeceiaa.Mbx
open Go.RowKit

/-- A frame, a mail in cells. -/
abbrev fmC (x : Fm) : List Value := [.int .i64 x.k, .int .i64 x.f, .int .i64 x.t, .int .i64 x.s, .int .i64 x.g, .int .i64 x.q, .int .i64 x.h, .bool x.u, .string x.d]
abbrev fmV (x : Fm) : Value := .agg #[.int .i64 x.k, .int .i64 x.f, .int .i64 x.t, .int .i64 x.s, .int .i64 x.g, .int .i64 x.q, .int .i64 x.h, .bool x.u, .string x.d]
abbrev mlV (x : Ml) : Value := .agg #[.int .i64 x.1.k, .int .i64 x.1.f, .int .i64 x.1.t, .int .i64 x.1.s, .int .i64 x.1.g, .int .i64 x.1.q, .int .i64 x.1.h, .bool x.1.u, .string x.1.d, .int .i64 x.2]
def FOk (x : Fm) : Prop := I64 x.k ∧ I64 x.f ∧ I64 x.t ∧ I64 x.s ∧ I64 x.g ∧ I64 x.q ∧ I64 x.h ∧ x.d.size ≤ 9223372036854775807
def fM : Flat Ml := ⟨10, fun x => [.int .i64 x.1.k, .int .i64 x.1.f, .int .i64 x.1.t, .int .i64 x.1.s, .int .i64 x.1.g, .int .i64 x.1.q, .int .i64 x.1.h, .bool x.1.u, .string x.1.d, .int .i64 x.2], fun x => FOk x.1 ∧ I64 x.2, by decide, fun _ => rfl, fun _ v h => by simp at h; rcases h with rfl | rfl | rfl | rfl | rfl | rfl | rfl | rfl | rfl | rfl <;> rfl⟩
def fF : Flat Fm := ⟨9, fmC, FOk, by decide, fun _ => rfl, fun _ v h => by simp at h; rcases h with rfl | rfl | rfl | rfl | rfl | rfl | rfl | rfl | rfl <;> rfl⟩
abbrev MlAt (w : World) (B : Nat) (A : Option Addr) (l : List Ml) : Prop := FlAt fM w B A l
abbrev FmAt (w : World) (B : Nat) (A : Option Addr) (l : List Fm) : Prop := FlAt fF w B A l
abbrev OwnM (w : World) (B : Nat) (v : Value) (l : List Ml) : Prop := OwnF fM 39 w B v l
/-- The ten cells of a mail. -/
def MlC (w : World) (b p : Nat) (x : Ml) : Prop := w.cell? ⟨b, p, none⟩ = some (.int .i64 x.1.k) ∧ w.cell? ⟨b, p + 1, none⟩ = some (.int .i64 x.1.f) ∧ w.cell? ⟨b, p + 2, none⟩ = some (.int .i64 x.1.t) ∧ w.cell? ⟨b, p + 3, none⟩ = some (.int .i64 x.1.s) ∧ w.cell? ⟨b, p + 4, none⟩ = some (.int .i64 x.1.g) ∧ w.cell? ⟨b, p + 5, none⟩ = some (.int .i64 x.1.q) ∧ w.cell? ⟨b, p + 6, none⟩ = some (.int .i64 x.1.h) ∧ w.cell? ⟨b, p + 7, none⟩ = some (.bool x.1.u) ∧ w.cell? ⟨b, p + 8, none⟩ = some (.string x.1.d) ∧ w.cell? ⟨b, p + 9, none⟩ = some (.int .i64 x.2)
theorem ml_cell {w : World} {B : Nat} {A : Option Addr} {l : List Ml} (h : MlAt w B A l) (i : Nat) (hi : i < l.length) : ∃ b p, A = some ⟨b, p, none⟩ ∧ b < B ∧ MlC w b (p + i * 10) l[i] ∧ fM.ok l[i] := by
  obtain ⟨b, p, h1, h2, h3, h4⟩ := h i hi
  exact ⟨b, p, h1, h2, ⟨h3 0 _ rfl, h3 1 _ rfl, h3 2 _ rfl, h3 3 _ rfl, h3 4 _ rfl, h3 5 _ rfl, h3 6 _ rfl, h3 7 _ rfl, h3 8 _ rfl, h3 9 _ rfl⟩, h4⟩
theorem eMl : Elems Try.prog 22 39 fM.sz := Elems.mk' Try.underlying22 (z := mlV (zf, 0)) (m := 88) (by kernel_rfl) (by decide) rfl
/-- Mails are handed back: a row of the call's own. -/
def OutM (w : World) (l : List Ml) (e : Ending) (w' : World) : Prop := ∃ v, e = .returned v ∧ OwnM w' w.heap.size v l ∧ Below w.heap.size w w'
theorem lim_i64 (n : Int) : I64 (lim n) := by have := lim_in n; unfold I64; omega

section
open Go.ChangeShapes Go.WideShapes
variable {H : Type} {enc : TypeId × Value → H}
theorem mails_at {W : World} {fuel : Nat} {sp : Nat → Bool} {hd : Bool} {A : Option Addr} {n c : Nat} {x : DataW H × List MemPlace} (hf : DataW.trod enc Try.prog W 0 sp hd fuel 22 [.slice A n c] = some x) :
    ∃ l, n = List.length l ∧ MlAt W W.heap.size A l ∧ l.length ≤ 9223372036854775807 ∧ l.length ≤ c ∧ (A = none → c = 0) := by
  refine flat_open Try.underlying22 (by kernel_rfl) (fun q cs y hl ht => ?_) hf
  obtain ⟨xs, q, _, _, _, hxl, hfi⟩ := DataW.trod_struct Try.underlying39 ht
  match cs, hl with
  | [c0, c1, c2, c3, c4, c5, c6, c7, c8, c9], _ =>
    have g0 : DataW.trod enc Try.prog W 0 sp hd q 24 [c0, c1, c2, c3, c4, c5, c6, c7, c8] = xs[0]? := hfi 0 _ rfl
    have g1 : DataW.trod enc Try.prog W 0 sp hd q 3 [c9] = xs[1]? := hfi 1 _ rfl
    rw [List.getElem?_eq_getElem (by rw [hxl]; decide)] at g0 g1
    obtain ⟨n9, e9, _, w9⟩ := DataW.trod_int Try.underlying3 g1
    obtain ⟨ys, k, _, _, _, hyl, hfj⟩ := DataW.trod_struct Try.underlying24 g0
    have f0 : DataW.trod enc Try.prog W 0 sp hd k 3 [c0] = ys[0]? := hfj 0 _ rfl
    have f1 : DataW.trod enc Try.prog W 0 sp hd k 3 [c1] = ys[1]? := hfj 1 _ rfl
    have f2 : DataW.trod enc Try.prog W 0 sp hd k 3 [c2] = ys[2]? := hfj 2 _ rfl
    have f3 : DataW.trod enc Try.prog W 0 sp hd k 3 [c3] = ys[3]? := hfj 3 _ rfl
    have f4 : DataW.trod enc Try.prog W 0 sp hd k 3 [c4] = ys[4]? := hfj 4 _ rfl
    have f5 : DataW.trod enc Try.prog W 0 sp hd k 3 [c5] = ys[5]? := hfj 5 _ rfl
    have f6 : DataW.trod enc Try.prog W 0 sp hd k 3 [c6] = ys[6]? := hfj 6 _ rfl
    have f7 : DataW.trod enc Try.prog W 0 sp hd k 4 [c7] = ys[7]? := hfj 7 _ rfl
    have f8 : DataW.trod enc Try.prog W 0 sp hd k 9 [c8] = ys[8]? := hfj 8 _ rfl
    rw [List.getElem?_eq_getElem (by rw [hyl]; decide)] at f0 f1 f2 f3 f4 f5 f6 f7 f8
    obtain ⟨n0, e0, _, w0⟩ := DataW.trod_int Try.underlying3 f0
    obtain ⟨n1, e1, _, w1⟩ := DataW.trod_int Try.underlying3 f1
    obtain ⟨n2, e2, _, w2⟩ := DataW.trod_int Try.underlying3 f2
    obtain ⟨n3, e3, _, w3⟩ := DataW.trod_int Try.underlying3 f3
    obtain ⟨n4, e4, _, w4⟩ := DataW.trod_int Try.underlying3 f4
    obtain ⟨n5, e5, _, w5⟩ := DataW.trod_int Try.underlying3 f5
    obtain ⟨n6, e6, _, w6⟩ := DataW.trod_int Try.underlying3 f6
    obtain ⟨n7, e7, _⟩ := DataW.trod_bool Try.underlying4 f7
    obtain ⟨n8, e8, _, w8⟩ := DataW.trod_string Try.underlying9 f8
    obtain rfl : c0 = .int .i64 n0 := by simpa using e0
    obtain rfl : c1 = .int .i64 n1 := by simpa using e1
    obtain rfl : c2 = .int .i64 n2 := by simpa using e2
    obtain rfl : c3 = .int .i64 n3 := by simpa using e3
    obtain rfl : c4 = .int .i64 n4 := by simpa using e4
    obtain rfl : c5 = .int .i64 n5 := by simpa using e5
    obtain rfl : c6 = .int .i64 n6 := by simpa using e6
    obtain rfl : c7 = .bool n7 := by simpa using e7
    obtain rfl : c8 = .string n8 := by simpa using e8
    obtain rfl : c9 = .int .i64 n9 := by simpa using e9
    exact ⟨(⟨n0, n1, n2, n3, n4, n5, n6, n7, n8⟩, n9), rfl, ⟨lit_i64 w0, lit_i64 w1, lit_i64 w2, lit_i64 w3, lit_i64 w4, lit_i64 w5, lit_i64 w6, by unfold maxLen at w8; exact w8⟩, lit_i64 w9⟩
theorem frames_at {W : World} {fuel : Nat} {sp : Nat → Bool} {hd : Bool} {A : Option Addr} {n c : Nat} {x : DataW H × List MemPlace} (hf : DataW.trod enc Try.prog W 0 sp hd fuel 36 [.slice A n c] = some x) :
    ∃ l, n = List.length l ∧ FmAt W W.heap.size A l ∧ l.length ≤ 9223372036854775807 ∧ l.length ≤ c ∧ (A = none → c = 0) := by
  refine flat_open Try.underlying36 (by kernel_rfl) (fun q cs y hl ht => ?_) hf
  obtain ⟨ys, k, _, _, _, hyl, hfj⟩ := DataW.trod_struct Try.underlying24 ht
  match cs, hl with
  | [c0, c1, c2, c3, c4, c5, c6, c7, c8], _ =>
    have f0 : DataW.trod enc Try.prog W 0 sp hd k 3 [c0] = ys[0]? := hfj 0 _ rfl
    have f1 : DataW.trod enc Try.prog W 0 sp hd k 3 [c1] = ys[1]? := hfj 1 _ rfl
    have f2 : DataW.trod enc Try.prog W 0 sp hd k 3 [c2] = ys[2]? := hfj 2 _ rfl
    have f3 : DataW.trod enc Try.prog W 0 sp hd k 3 [c3] = ys[3]? := hfj 3 _ rfl
    have f4 : DataW.trod enc Try.prog W 0 sp hd k 3 [c4] = ys[4]? := hfj 4 _ rfl
    have f5 : DataW.trod enc Try.prog W 0 sp hd k 3 [c5] = ys[5]? := hfj 5 _ rfl
    have f6 : DataW.trod enc Try.prog W 0 sp hd k 3 [c6] = ys[6]? := hfj 6 _ rfl
    have f7 : DataW.trod enc Try.prog W 0 sp hd k 4 [c7] = ys[7]? := hfj 7 _ rfl
    have f8 : DataW.trod enc Try.prog W 0 sp hd k 9 [c8] = ys[8]? := hfj 8 _ rfl
    rw [List.getElem?_eq_getElem (by rw [hyl]; decide)] at f0 f1 f2 f3 f4 f5 f6 f7 f8
    obtain ⟨n0, e0, _, w0⟩ := DataW.trod_int Try.underlying3 f0
    obtain ⟨n1, e1, _, w1⟩ := DataW.trod_int Try.underlying3 f1
    obtain ⟨n2, e2, _, w2⟩ := DataW.trod_int Try.underlying3 f2
    obtain ⟨n3, e3, _, w3⟩ := DataW.trod_int Try.underlying3 f3
    obtain ⟨n4, e4, _, w4⟩ := DataW.trod_int Try.underlying3 f4
    obtain ⟨n5, e5, _, w5⟩ := DataW.trod_int Try.underlying3 f5
    obtain ⟨n6, e6, _, w6⟩ := DataW.trod_int Try.underlying3 f6
    obtain ⟨n7, e7, _⟩ := DataW.trod_bool Try.underlying4 f7
    obtain ⟨n8, e8, _, w8⟩ := DataW.trod_string Try.underlying9 f8
    obtain rfl : c0 = .int .i64 n0 := by simpa using e0
    obtain rfl : c1 = .int .i64 n1 := by simpa using e1
    obtain rfl : c2 = .int .i64 n2 := by simpa using e2
    obtain rfl : c3 = .int .i64 n3 := by simpa using e3
    obtain rfl : c4 = .int .i64 n4 := by simpa using e4
    obtain rfl : c5 = .int .i64 n5 := by simpa using e5
    obtain rfl : c6 = .int .i64 n6 := by simpa using e6
    obtain rfl : c7 = .bool n7 := by simpa using e7
    obtain rfl : c8 = .string n8 := by simpa using e8
    exact ⟨⟨n0, n1, n2, n3, n4, n5, n6, n7, n8⟩, rfl, ⟨lit_i64 w0, lit_i64 w1, lit_i64 w2, lit_i64 w3, lit_i64 w4, lit_i64 w5, lit_i64 w6, by unfold maxLen at w8; exact w8⟩⟩
end

theorem rlimit_any (n : Int) (w : World) : Calls Try.prog 30 #[.int .i64 n] w fun e w' => e = .returned (.int .i64 (lim n)) ∧ w = w' := by
  by_cases h1 : n < 0
  · have R := Lib.hid (show lim n = 0 from if_pos h1)
    have d1 := dt h1
    go_enter Try.func30, Try.ntmps30
    go_wp2_with fail
    go_ret
    exact ⟨ret_int R.out.symm, rfl⟩
  · have d1 := df h1
    by_cases h2 : 1099511627776 < n
    · have R := Lib.hid (show lim n = 1099511627776 by unfold lim; rw [if_neg h1, if_pos h2])
      have d2 := dt h2
      go_enter Try.func30, Try.ntmps30
      go_wp2_with fail
      go_ret
      exact ⟨ret_int R.out.symm, rfl⟩
    · have R := Lib.hid (show lim n = n by unfold lim; rw [if_neg h1, if_neg h2])
      have d2 := df h2
      go_enter Try.func30, Try.ntmps30
      go_wp2_with fail
      go_ret
      exact ⟨ret_int R.out.symm, rfl⟩
end Go.Proofs.Ytlfegjhhkeceiaa.Mbx
