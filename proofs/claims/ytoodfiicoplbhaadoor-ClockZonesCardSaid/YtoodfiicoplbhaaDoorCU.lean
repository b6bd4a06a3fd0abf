/- Arguments opened: a date, a zone. -/
import Derived.Test.YtoodfiicoplbhaaDoorCH
import Derived.Test.YtoodfiicoplbhaaDoorM0
import Derived.ProofKit
import Derived.OpenShut
import Derived.Lib.SmallJoins
import Derived.Deep.Slices
import Derived.Deep.Fields
set_option linter.unusedVariables false
namespace Go.Proofs.YtoodfiicoplbhaaDoor
open Go.RowKit Go.ChangeShapes Go.WideShapes

theorem i64_of {n : Int} (h : (Lit.int .i64 n).wf = true) : I64 n := by
  unfold I64
  simpa [Lit.wf, IntKind.min, IntKind.max, IntKind.signed, IntKind.bits] using h

section
variable {H : Type} {enc : TypeId × Value → H}

theorem date_at {W : World} {r : Reach} {b0 : Nat} {sp : Nat → Bool} {hd : Bool} {v : Value} {x : DataW H} {q : List MemPlace} (hv : Value.okWide Tryd.prog W r b0 23 v) (h : DataW.Trod enc Tryd.prog W 0 sp hd 23 v x q) :
    ∃ y m d h i, v = dV y m d h i ∧ I64 y ∧ I64 m ∧ I64 d ∧ I64 h ∧ I64 i := by
  obtain ⟨cs, rfl, hsz⟩ := okWide_struct Tryd.underlying23 hv
  have hC : Tryd.prog.cellsOf 23 = 5 := by kernel_rfl
  rw [hC] at hsz
  obtain ⟨fuel, hf⟩ := h
  obtain ⟨l⟩ := cs
  have hf : DataW.trod enc Tryd.prog W 0 sp hd fuel 23 l = some (x, q) := hf
  obtain ⟨xs, k, _, _, _, hxl, hfi⟩ := DataW.trod_struct Tryd.underlying23 hf
  match l, hsz with
  | [c0, c1, c2, c3, c4], _ =>
    have f0 : DataW.trod enc Tryd.prog W 0 sp hd k 3 [c0] = xs[0]? := hfi 0 _ rfl
    have f1 : DataW.trod enc Tryd.prog W 0 sp hd k 3 [c1] = xs[1]? := hfi 1 _ rfl
    have f2 : DataW.trod enc Tryd.prog W 0 sp hd k 3 [c2] = xs[2]? := hfi 2 _ rfl
    have f3 : DataW.trod enc Tryd.prog W 0 sp hd k 3 [c3] = xs[3]? := hfi 3 _ rfl
    have f4 : DataW.trod enc Tryd.prog W 0 sp hd k 3 [c4] = xs[4]? := hfi 4 _ rfl
    rw [List.getElem?_eq_getElem (by rw [hxl]; decide)] at f0 f1 f2 f3 f4
    obtain ⟨n0, e0, _, w0⟩ := DataW.trod_int Tryd.underlying3 f0
    obtain ⟨n1, e1, _, w1⟩ := DataW.trod_int Tryd.underlying3 f1
    obtain ⟨n2, e2, _, w2⟩ := DataW.trod_int Tryd.underlying3 f2
    obtain ⟨n3, e3, _, w3⟩ := DataW.trod_int Tryd.underlying3 f3
    obtain ⟨n4, e4, _, w4⟩ := DataW.trod_int Tryd.underlying3 f4
    obtain rfl : c0 = .int .i64 n0 := by simpa using e0
    obtain rfl : c1 = .int .i64 n1 := by simpa using e1
    obtain rfl : c2 = .int .i64 n2 := by simpa using e2
    obtain rfl : c3 = .int .i64 n3 := by simpa using e3
    obtain rfl : c4 = .int .i64 n4 := by simpa using e4
    exact ⟨n0, n1, n2, n3, n4, rfl, i64_of w0, i64_of w1, i64_of w2, i64_of w3, i64_of w4⟩

theorem chg_at {W : World} {fuel : Nat} {sp : Nat → Bool} {hd : Bool} {v : Value} {x : DataW H × List MemPlace} (hf : DataW.trod enc Tryd.prog W 0 sp hd fuel 32 [v] = some x) :
    ∃ A c l, v = .slice A (List.length l) c ∧ ChgAt W W.heap.size A l ∧ l.length ≤ 9223372036854775807 := by
  rcases Go.Deep.open_slice Tryd.underlying32 hf with ⟨hcs, hx⟩ | ⟨a, len, cap, m, k, D, Pl, hcs, _, hl, hm, hmm, hx, hi⟩
  · obtain rfl : v = .slice none 0 0 := by simpa using hcs
    exact ⟨none, 0, [], rfl, fun i h => absurd h (by simp), by simp⟩
  · obtain rfl : v = .slice (some a) len cap := by simpa using hcs
    have hle : len ≤ m := by rw [hmm]; split <;> omega
    have hC : Tryd.prog.cellsOf 46 = 2 := by kernel_rfl
    rcases Nat.eq_zero_or_pos len with rfl | hn0
    · exact ⟨some a, cap, [], rfl, fun i h => absurd h (by simp), by simp⟩
    obtain ⟨b, o2, rfl⟩ : ∃ b o, a = ⟨b, o, none⟩ := by
      obtain ⟨cs, hcs, ht⟩ := hi 0 (by omega)
      rw [hC, Nat.zero_mul, add_none] at hcs
      have h00 := (World.cells?_some hcs).2.2 0 (by omega)
      rw [add_none, List.getElem?_eq_getElem (by rw [(World.cells?_some hcs).2.1]; omega)] at h00
      exact plain_of h00
    obtain ⟨l, hll, hp⟩ := list_of len (p := fun i (c : Chg) => b < W.heap.size ∧ W.cell? ⟨b, o2 + i * 2, none⟩ = some (.int .i64 c.1) ∧ W.cell? ⟨b, o2 + i * 2 + 1, none⟩ = some (.int .i64 c.2) ∧ I64 c.1 ∧ I64 c.2)
      (fun i hin => by
        obtain ⟨cs, hcs, ht⟩ := hi i (by omega)
        rw [hC] at hcs
        obtain ⟨_, hlen, hat⟩ := World.cells?_some hcs
        obtain ⟨xs, q, _, _, _, hxl, hfi⟩ := DataW.trod_struct Tryd.underlying46 ht
        match cs, hlen with
        | [c0, c1], _ =>
          have f0 : DataW.trod enc Tryd.prog W 0 sp hd q 3 [c0] = xs[0]? := hfi 0 _ rfl
          have f1 : DataW.trod enc Tryd.prog W 0 sp hd q 3 [c1] = xs[1]? := hfi 1 _ rfl
          rw [List.getElem?_eq_getElem (by rw [hxl]; decide)] at f0 f1
          obtain ⟨n0, e0, _, w0⟩ := DataW.trod_int Tryd.underlying3 f0
          obtain ⟨n1, e1, _, w1⟩ := DataW.trod_int Tryd.underlying3 f1
          have g0 := hat 0 (by omega)
          have g1 := hat 1 (by omega)
          have g0 : _ = some c0 := g0
          have g1 : _ = some c1 := g1
          obtain rfl : c0 = .int .i64 n0 := by simpa using e0
          obtain rfl : c1 = .int .i64 n1 := by simpa using e1
          simp only [add_off] at g0 g1
          exact ⟨⟨n0, n1⟩, World.block_lt_of_cell? W _ g0, by simpa using g0, g1, i64_of w0, i64_of w1⟩)
    exact ⟨some ⟨b, o2, none⟩, cap, l, by rw [hll], fun i hi => ⟨b, o2, rfl, (hp i hi).1, (hp i hi).2.1, (hp i hi).2.2.1, (hp i hi).2.2.2.1, (hp i hi).2.2.2.2⟩, by unfold maxLen at hm; omega⟩

theorem zone_at {W : World} {r : Reach} {b0 : Nat} {sp : Nat → Bool} {hd : Bool} {v : Value} {x : DataW H} {q : List MemPlace} (hv : Value.okWide Tryd.prog W r b0 34 v) (h : DataW.Trod enc Tryd.prog W 0 sp hd 34 v x q) :
    ∃ o A c l, v = zV o A (List.length l) c ∧ I64 o ∧ ChgAt W W.heap.size A l ∧ l.length ≤ 9223372036854775807 := by
  obtain ⟨cs, rfl, hsz⟩ := okWide_struct Tryd.underlying34 hv
  have hC : Tryd.prog.cellsOf 34 = 2 := by kernel_rfl
  rw [hC] at hsz
  obtain ⟨fuel, hf⟩ := h
  obtain ⟨l⟩ := cs
  have hf : DataW.trod enc Tryd.prog W 0 sp hd fuel 34 l = some (x, q) := hf
  obtain ⟨xs, k, _, _, _, hxl, hfi⟩ := DataW.trod_struct Tryd.underlying34 hf
  match l, hsz with
  | [c0, c1], _ =>
    have f0 : DataW.trod enc Tryd.prog W 0 sp hd k 3 [c0] = xs[0]? := hfi 0 _ rfl
    have f1 : DataW.trod enc Tryd.prog W 0 sp hd k 32 [c1] = xs[1]? := hfi 1 _ rfl
    rw [List.getElem?_eq_getElem (by rw [hxl]; decide)] at f0 f1
    obtain ⟨n0, e0, _, w0⟩ := DataW.trod_int Tryd.underlying3 f0
    obtain rfl : c0 = .int .i64 n0 := by simpa using e0
    obtain ⟨A, c, l, rfl, hA, hl⟩ := chg_at f1
    exact ⟨n0, A, c, l, rfl, i64_of w0, hA, hl⟩
end
end Go.Proofs.YtoodfiicoplbhaaDoor
