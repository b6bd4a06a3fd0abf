/- Arguments opened: a slice of spans. -/
import Derived.Test.YtnocbgimfmgdeaaSA
import Derived.Test.YtnocbgimfmgdeaaM0
import Derived.ProofKit
import Derived.OpenShut
import Derived.Deep.Slices
import Derived.Deep.Fields
set_option linter.unusedVariables false
namespace Go.Proofs.Ytnocbgimfmgdeaa
open Go.RowKit Go.ChangeShapes Go.WideShapes

theorem i64_lit {n : Int} (h : (Lit.int .i64 n).wf = true) : I64 n := by
  unfold I64
  simpa [Lit.wf, IntKind.min, IntKind.max, IntKind.signed, IntKind.bits] using h

section
variable {H : Type} {enc : TypeId × Value → H}
theorem spans_at {W : World} {fuel : Nat} {sp : Nat → Bool} {hd : Bool} {A : Option Addr} {n c : Nat} {x : DataW H × List MemPlace} (hf : DataW.trod enc Try.prog W 0 sp hd fuel 22 [.slice A n c] = some x) :
    ∃ l, n = List.length l ∧ SpAt W W.heap.size A l ∧ l.length ≤ 9223372036854775807 := by
  rcases Go.Deep.open_slice Try.underlying22 hf with ⟨hcs, hx⟩ | ⟨a, len, cap, m, k, D, Pl, hcs, _, hl, hm, hmm, hx, hi⟩
  · simp at hcs
    obtain ⟨rfl, rfl, rfl⟩ := hcs
    exact ⟨[], rfl, fun i h => absurd h (by simp), by simp⟩
  · simp at hcs
    obtain ⟨rfl, rfl, rfl⟩ := hcs
    have hle : n ≤ m := by rw [hmm]; split <;> omega
    have hC : Try.prog.cellsOf 37 = 2 := by kernel_rfl
    rcases Nat.eq_zero_or_pos n with rfl | hn0
    · exact ⟨[], rfl, fun i h => absurd h (by simp), by simp⟩
    obtain ⟨b, o2, rfl⟩ : ∃ b o, a = ⟨b, o, none⟩ := by
      obtain ⟨cs, hcs, ht⟩ := hi 0 (by omega)
      rw [hC, Nat.zero_mul, add_none] at hcs
      have h00 := (World.cells?_some hcs).2.2 0 (by omega)
      rw [add_none, List.getElem?_eq_getElem (by rw [(World.cells?_some hcs).2.1]; omega)] at h00
      exact plain_of h00
    obtain ⟨l, hll, hp⟩ := list_of n (p := fun i (s : Spn) => b < W.heap.size ∧ W.cell? ⟨b, o2 + i * 2, none⟩ = some (.int .i64 s.1) ∧ W.cell? ⟨b, o2 + i * 2 + 1, none⟩ = some (.int .i64 s.2) ∧ I64 s.1 ∧ I64 s.2)
      (fun i hin => by
        obtain ⟨cs, hcs, ht⟩ := hi i (by omega)
        rw [hC] at hcs
        obtain ⟨_, hlen, hat⟩ := World.cells?_some hcs
        obtain ⟨xs, q, _, _, _, hxl, hfi⟩ := DataW.trod_struct Try.underlying37 ht
        match cs, hlen with
        | [c0, c1], _ =>
          have f0 : DataW.trod enc Try.prog W 0 sp hd q 3 [c0] = xs[0]? := hfi 0 _ rfl
          have f1 : DataW.trod enc Try.prog W 0 sp hd q 3 [c1] = xs[1]? := hfi 1 _ rfl
          rw [List.getElem?_eq_getElem (by rw [hxl]; decide)] at f0 f1
          obtain ⟨n0, e0, _, w0⟩ := DataW.trod_int Try.underlying3 f0
          obtain ⟨n1, e1, _, w1⟩ := DataW.trod_int Try.underlying3 f1
          have g0 := hat 0 (by omega)
          have g1 := hat 1 (by omega)
          have g0 : _ = some c0 := g0
          have g1 : _ = some c1 := g1
          obtain rfl : c0 = .int .i64 n0 := by simpa using e0
          obtain rfl : c1 = .int .i64 n1 := by simpa using e1
          simp only [add_off] at g0 g1
          exact ⟨⟨n0, n1⟩, World.block_lt_of_cell? W _ g0, by simpa using g0, g1, i64_lit w0, i64_lit w1⟩)
    exact ⟨l, hll.symm, fun i hi => ⟨b, o2, rfl, (hp i hi).1, (hp i hi).2.1, (hp i hi).2.2.1, (hp i hi).2.2.2.1, (hp i hi).2.2.2.2⟩, by unfold maxLen at hm; omega⟩
end
end Go.Proofs.Ytnocbgimfmgdeaa
