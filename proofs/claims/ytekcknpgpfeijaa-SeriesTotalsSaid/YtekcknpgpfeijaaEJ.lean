/- Arguments opened: slices of numbers and of points, arrays of two and of three numbers. -/
import Derived.Test.YtekcknpgpfeijaaEF
import Derived.Test.YtekcknpgpfeijaaM0
import Derived.ProofKit
import Derived.OpenShut
import Derived.Deep.Slices
import Derived.Deep.Fields
set_option linter.unusedVariables false
namespace Go.Proofs.Ytekcknpgpfeijaa.Series
open Go.RowKit Go.ChangeShapes Go.WideShapes

theorem i64_lit {n : Int} (h : (Lit.int .i64 n).wf = true) : I64 n := by
  unfold I64
  simpa [Lit.wf, IntKind.min, IntKind.max, IntKind.signed, IntKind.bits] using h

section
variable {H : Type} {enc : TypeId × Value → H}

theorem nums_at {W : World} {fuel : Nat} {sp : Nat → Bool} {hd : Bool} {A : Option Addr} {n c : Nat} {x : DataW H × List MemPlace} (hf : DataW.trod enc Try.prog W 0 sp hd fuel 22 [.slice A n c] = some x) :
    ∃ l, n = List.length l ∧ NsAt W W.heap.size A l ∧ l.length ≤ 9223372036854775807 ∧ l.length ≤ c ∧ (A = none → c = 0) := by
  rcases open_ints Try.underlying22 Try.underlying3 (by kernel_rfl) hf with ⟨hcs, hx⟩ | ⟨a, len, cap, zs, hcs, _, hl, hm, hz, hx, hcell, hwz⟩
  · simp at hcs
    obtain ⟨rfl, rfl, rfl⟩ := hcs
    exact ⟨[], rfl, NsAt.nil _ _ _, Nat.zero_le _, Nat.zero_le _, fun _ => rfl⟩
  · simp at hcs
    obtain ⟨rfl, rfl, rfl⟩ := hcs
    have hle : n ≤ zs.length := by rw [hz]; split <;> omega
    refine ⟨zs.take n, by simp; omega, fun i hi => ?_, by unfold maxLen at hm; simp; omega, by simp; omega, fun h => by cases h⟩
    have hin : i < n := by simp at hi; omega
    have h00 := hcell 0 (by omega)
    rw [add_none] at h00
    obtain ⟨b, o', rfl⟩ := plain_of h00
    refine ⟨b, o', rfl, World.block_lt_of_cell? W _ h00, ?_⟩
    have := hcell i (by omega)
    rw [add_off] at this
    rw [this]
    have hz2 : i < zs.length := by omega
    simp [List.getD, hz2]

theorem pts_at {W : World} {fuel : Nat} {sp : Nat → Bool} {hd : Bool} {A : Option Addr} {n c : Nat} {x : DataW H × List MemPlace} (hf : DataW.trod enc Try.prog W 0 sp hd fuel 35 [.slice A n c] = some x) :
    ∃ l : List Pt, n = List.length l ∧ PtAt W W.heap.size A l ∧ l.length ≤ 9223372036854775807 := by
  rcases Go.Deep.open_slice Try.underlying35 hf with ⟨hcs, hx⟩ | ⟨a, len, cap, m, k, D, Pl, hcs, _, hl, hm, hmm, hx, hi⟩
  · simp at hcs
    obtain ⟨rfl, rfl, rfl⟩ := hcs
    exact ⟨[], rfl, fun i h => absurd h (by simp), by simp⟩
  · simp at hcs
    obtain ⟨rfl, rfl, rfl⟩ := hcs
    have hle : n ≤ m := by rw [hmm]; split <;> omega
    have hC : Try.prog.cellsOf 23 = 2 := by kernel_rfl
    have hC1 : Try.prog.cellsOf 3 = 1 := by kernel_rfl
    rcases Nat.eq_zero_or_pos n with rfl | hn0
    · exact ⟨[], rfl, fun i h => absurd h (by simp), by simp⟩
    obtain ⟨b, o2, rfl⟩ : ∃ b o, a = ⟨b, o, none⟩ := by
      obtain ⟨cs, hcs, ht⟩ := hi 0 (by omega)
      rw [hC, Nat.zero_mul, add_none] at hcs
      have h00 := (World.cells?_some hcs).2.2 0 (by omega)
      rw [add_none, List.getElem?_eq_getElem (by rw [(World.cells?_some hcs).2.1]; omega)] at h00
      exact plain_of h00
    obtain ⟨l, hll, hp⟩ := list_of n (p := fun i (s : Pt) => b < W.heap.size ∧ W.cell? ⟨b, o2 + i * 2, none⟩ = some (.int .i64 s.1) ∧ W.cell? ⟨b, o2 + i * 2 + 1, none⟩ = some (.int .i64 s.2))
      (fun i hin => by
        obtain ⟨cs, hcs, ht⟩ := hi i (by omega)
        rw [hC] at hcs
        obtain ⟨_, hlen, hat⟩ := World.cells?_some hcs
        obtain ⟨xs, q, _, _, _, hxl, hfi⟩ := DataW.trod_array Try.underlying23 ht
        rw [hC1] at hfi
        match cs, hlen with
        | [c0, c1], _ =>
          have f0 : DataW.trod enc Try.prog W 0 sp hd q 3 [c0] = xs[0]? := hfi 0 (by omega)
          have f1 : DataW.trod enc Try.prog W 0 sp hd q 3 [c1] = xs[1]? := hfi 1 (by omega)
          rw [List.getElem?_eq_getElem (by omega)] at f0 f1
          obtain ⟨n0, e0, _, w0⟩ := DataW.trod_int Try.underlying3 f0
          obtain ⟨n1, e1, _, w1⟩ := DataW.trod_int Try.underlying3 f1
          have g0 := hat 0 (by omega)
          have g1 := hat 1 (by omega)
          have g0 : _ = some c0 := g0
          have g1 : _ = some c1 := g1
          obtain rfl : c0 = .int .i64 n0 := by simpa using e0
          obtain rfl : c1 = .int .i64 n1 := by simpa using e1
          simp only [add_off] at g0 g1
          exact ⟨⟨n0, n1⟩, World.block_lt_of_cell? W _ g0, by simpa using g0, g1⟩)
    exact ⟨l, hll.symm, fun i hi => ⟨b, o2, rfl, (hp i hi).1, by rw [ptN_get l i hi]; exact (hp i hi).2.1, by rw [ptN_get l i hi]; exact (hp i hi).2.2⟩, by unfold maxLen at hm; omega⟩

theorem two_at {W : World} {r : Reach} {b0 : Nat} {sp : Nat → Bool} {hd : Bool} {v : Value} {x : DataW H} {q : List MemPlace} (hv : Value.okWide Try.prog W r b0 23 v) (h : DataW.Trod enc Try.prog W 0 sp hd 23 v x q) :
    ∃ x y, v = .agg #[.int .i64 x, .int .i64 y] ∧ I64 x ∧ I64 y := by
  simp only [Value.okWide, Try.underlying23] at hv
  obtain ⟨cs, rfl, hsz, _⟩ := hv
  have hC : Try.prog.cellsOf 23 = 2 := by kernel_rfl
  have hC1 : Try.prog.cellsOf 3 = 1 := by kernel_rfl
  rw [hC] at hsz
  obtain ⟨fuel, hf⟩ := h
  obtain ⟨l⟩ := cs
  have hf : DataW.trod enc Try.prog W 0 sp hd fuel 23 l = some (x, q) := hf
  obtain ⟨xs, k, _, _, _, hxl, hfi⟩ := DataW.trod_array Try.underlying23 hf
  rw [hC1] at hfi
  match l, hsz with
  | [c0, c1], _ =>
    have f0 : DataW.trod enc Try.prog W 0 sp hd k 3 [c0] = xs[0]? := hfi 0 (by omega)
    have f1 : DataW.trod enc Try.prog W 0 sp hd k 3 [c1] = xs[1]? := hfi 1 (by omega)
    rw [List.getElem?_eq_getElem (by omega)] at f0 f1
    obtain ⟨n0, e0, _, w0⟩ := DataW.trod_int Try.underlying3 f0
    obtain ⟨n1, e1, _, w1⟩ := DataW.trod_int Try.underlying3 f1
    obtain rfl : c0 = .int .i64 n0 := by simpa using e0
    obtain rfl : c1 = .int .i64 n1 := by simpa using e1
    exact ⟨n0, n1, rfl, i64_lit w0, i64_lit w1⟩

theorem three_at {W : World} {r : Reach} {b0 : Nat} {sp : Nat → Bool} {hd : Bool} {v : Value} {x : DataW H} {q : List MemPlace} (hv : Value.okWide Try.prog W r b0 43 v) (h : DataW.Trod enc Try.prog W 0 sp hd 43 v x q) :
    ∃ x y z, v = .agg #[.int .i64 x, .int .i64 y, .int .i64 z] ∧ I64 x ∧ I64 y ∧ I64 z := by
  simp only [Value.okWide, Try.underlying43] at hv
  obtain ⟨cs, rfl, hsz, _⟩ := hv
  have hC : Try.prog.cellsOf 43 = 3 := by kernel_rfl
  have hC1 : Try.prog.cellsOf 3 = 1 := by kernel_rfl
  rw [hC] at hsz
  obtain ⟨fuel, hf⟩ := h
  obtain ⟨l⟩ := cs
  have hf : DataW.trod enc Try.prog W 0 sp hd fuel 43 l = some (x, q) := hf
  obtain ⟨xs, k, _, _, _, hxl, hfi⟩ := DataW.trod_array Try.underlying43 hf
  rw [hC1] at hfi
  match l, hsz with
  | [c0, c1, c2], _ =>
    have f0 : DataW.trod enc Try.prog W 0 sp hd k 3 [c0] = xs[0]? := hfi 0 (by omega)
    have f1 : DataW.trod enc Try.prog W 0 sp hd k 3 [c1] = xs[1]? := hfi 1 (by omega)
    have f2 : DataW.trod enc Try.prog W 0 sp hd k 3 [c2] = xs[2]? := hfi 2 (by omega)
    rw [List.getElem?_eq_getElem (by omega)] at f0 f1 f2
    obtain ⟨n0, e0, _, w0⟩ := DataW.trod_int Try.underlying3 f0
    obtain ⟨n1, e1, _, w1⟩ := DataW.trod_int Try.underlying3 f1
    obtain ⟨n2, e2, _, w2⟩ := DataW.trod_int Try.underlying3 f2
    obtain rfl : c0 = .int .i64 n0 := by simpa using e0
    obtain rfl : c1 = .int .i64 n1 := by simpa using e1
    obtain rfl : c2 = .int .i64 n2 := by simpa using e2
    exact ⟨n0, n1, n2, rfl, i64_lit w0, i64_lit w1, i64_lit w2⟩
end
end Go.Proofs.Ytekcknpgpfeijaa.Series
