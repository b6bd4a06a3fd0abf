/- Arguments: a case and a window by value, numbers, a byte. -/
import Derived.Test.YticlcjabhemdiaaYZ
set_option linter.unusedVariables false
namespace Go.Proofs.Yticlcjabhemdiaa.Rpl
open Go.RowKit Go.ChangeShapes Go.WideShapes

theorem nat_64 {a : Int} (h : (Lit.int .u64 a).wf = true) : ∃ k : Nat, a = (k : Int) ∧ k < 18446744073709551616 := by
  have := lit_u64 h
  exact ⟨a.toNat, by omega, by omega⟩
theorem law_keeps_arg (w : World) (t : Int) (b : Nat) (n a : Int) (hb0 : b < 18446744073709551616) (hn : I64 n) (h : (Lit.int .u8 a).wf = true) :
    Calls Try.prog 7 #[.agg #[.int .i64 t, .int .u64 (b : Int)], .int .i64 n, .int .u8 a] w (OutB w true) := by
  have := lit_u8 h
  obtain ⟨k, rfl⟩ : ∃ k : Nat, a = (k : Int) := ⟨a.toNat, by omega⟩
  exact law_keeps awake_any w t b n k hb0 hn (by omega)
theorem law_back_arg (w : World) (k : Nat) (node n : Int) (s o : ByteArray) (t : Int) (b : Nat) (a : Int) (hk : k < 18446744073709551616) (hb0 : b < 18446744073709551616) (h : (Lit.int .u8 a).wf = true) :
    Calls Try.prog 8 #[.agg #[.int .u64 (k : Int), .int .i64 node, .int .i64 n, .string s, .string o], .agg #[.int .i64 t, .int .u64 (b : Int)], .int .u8 a] w (OutB w true) := by
  have := lit_u8 h
  obtain ⟨m, rfl⟩ : ∃ m : Nat, a = (m : Int) := ⟨a.toNat, by omega⟩
  exact law_back w k node n s o t b m hk hb0 (by omega)
section
variable {H : Type} {enc : TypeId × Value → H}
theorem nums_at {W : World} {fuel : Nat} {sp : Nat → Bool} {hd : Bool} {A : Option Addr} {n c : Nat} {x : DataW H × List MemPlace} (hf : DataW.trod enc Try.prog W 0 sp hd fuel 39 [.slice A n c] = some x) :
    ∃ l, n = List.length l ∧ FlAt fI W W.heap.size A l ∧ l.length ≤ 9223372036854775807 ∧ l.length ≤ c ∧ (A = none → c = 0) := by
  refine flat_open Try.underlying39 (by kernel_rfl) (fun q cs y hl ht => ?_) hf
  match cs, hl with
  | [c0], _ =>
    obtain ⟨n0, e0, _, w0⟩ := DataW.trod_int Try.underlying3 ht
    obtain rfl : c0 = .int .i64 n0 := by simpa using e0
    exact ⟨n0, rfl, lit_i64 w0⟩
theorem window_at {W : World} {r : Reach} {b0 : Nat} {sp : Nat → Bool} {hd : Bool} {v : Value} {x : DataW H} {q : List MemPlace} (hv : Value.okWide Try.prog W r b0 24 v) (h : DataW.Trod enc Try.prog W 0 sp hd 24 v x q) :
    ∃ (t : Int) (b : Nat), v = .agg #[.int .i64 t, .int .u64 (b : Int)] ∧ I64 t ∧ b < 18446744073709551616 := by
  obtain ⟨cs, rfl, hsz⟩ := okWide_struct Try.underlying24 hv
  have hC : Try.prog.cellsOf 24 = 2 := by kernel_rfl
  rw [hC] at hsz
  obtain ⟨fuel, hf⟩ := h
  obtain ⟨l⟩ := cs
  have hf : DataW.trod enc Try.prog W 0 sp hd fuel 24 l = some (x, q) := hf
  obtain ⟨xs, k, _, _, _, hxl, hfi⟩ := DataW.trod_struct Try.underlying24 hf
  match l, hsz with
  | [c0, c1], _ =>
    have f0 : DataW.trod enc Try.prog W 0 sp hd k 3 [c0] = xs[0]? := hfi 0 _ rfl
    have f1 : DataW.trod enc Try.prog W 0 sp hd k 22 [c1] = xs[1]? := hfi 1 _ rfl
    rw [List.getElem?_eq_getElem (by rw [hxl]; decide)] at f0 f1
    obtain ⟨n0, e0, _, w0⟩ := DataW.trod_int Try.underlying3 f0
    obtain ⟨n1, e1, _, w1⟩ := DataW.trod_int Try.underlying22 f1
    obtain ⟨b, rfl, hb⟩ := nat_64 w1
    obtain rfl : c0 = .int .i64 n0 := by simpa using e0
    obtain rfl : c1 = .int .u64 (b : Int) := by simpa using e1
    exact ⟨n0, b, rfl, lit_i64 w0, hb⟩
theorem case_at {W : World} {r : Reach} {b0 : Nat} {sp : Nat → Bool} {hd : Bool} {v : Value} {x : DataW H} {q : List MemPlace} (hv : Value.okWide Try.prog W r b0 32 v) (h : DataW.Trod enc Try.prog W 0 sp hd 32 v x q) :
    ∃ (k : Nat) (node n : Int) (s o : ByteArray), v = .agg #[.int .u64 (k : Int), .int .i64 node, .int .i64 n, .string s, .string o] ∧ k < 18446744073709551616 ∧ I64 node ∧ I64 n := by
  obtain ⟨cs, rfl, hsz⟩ := okWide_struct Try.underlying32 hv
  have hC : Try.prog.cellsOf 32 = 5 := by kernel_rfl
  rw [hC] at hsz
  obtain ⟨fuel, hf⟩ := h
  obtain ⟨l⟩ := cs
  have hf : DataW.trod enc Try.prog W 0 sp hd fuel 32 l = some (x, q) := hf
  obtain ⟨xs, k, _, _, _, hxl, hfi⟩ := DataW.trod_struct Try.underlying32 hf
  match l, hsz with
  | [c0, c1, c2, c3, c4], _ =>
    have f0 : DataW.trod enc Try.prog W 0 sp hd k 22 [c0] = xs[0]? := hfi 0 _ rfl
    have f1 : DataW.trod enc Try.prog W 0 sp hd k 3 [c1] = xs[1]? := hfi 1 _ rfl
    have f2 : DataW.trod enc Try.prog W 0 sp hd k 3 [c2] = xs[2]? := hfi 2 _ rfl
    have f3 : DataW.trod enc Try.prog W 0 sp hd k 9 [c3] = xs[3]? := hfi 3 _ rfl
    have f4 : DataW.trod enc Try.prog W 0 sp hd k 9 [c4] = xs[4]? := hfi 4 _ rfl
    rw [List.getElem?_eq_getElem (by rw [hxl]; decide)] at f0 f1 f2 f3 f4
    obtain ⟨n0, e0, _, w0⟩ := DataW.trod_int Try.underlying22 f0
    obtain ⟨n1, e1, _, w1⟩ := DataW.trod_int Try.underlying3 f1
    obtain ⟨n2, e2, _, w2⟩ := DataW.trod_int Try.underlying3 f2
    obtain ⟨n3, e3, _, w3⟩ := DataW.trod_string Try.underlying9 f3
    obtain ⟨n4, e4, _, w4⟩ := DataW.trod_string Try.underlying9 f4
    obtain ⟨b, rfl, hb⟩ := nat_64 w0
    obtain rfl : c0 = .int .u64 (b : Int) := by simpa using e0
    obtain rfl : c1 = .int .i64 n1 := by simpa using e1
    obtain rfl : c2 = .int .i64 n2 := by simpa using e2
    obtain rfl : c3 = .string n3 := by simpa using e3
    obtain rfl : c4 = .string n4 := by simpa using e4
    exact ⟨b, n1, n2, n3, n4, rfl, hb, lit_i64 w1, lit_i64 w2⟩
end
end Go.Proofs.Yticlcjabhemdiaa.Rpl
