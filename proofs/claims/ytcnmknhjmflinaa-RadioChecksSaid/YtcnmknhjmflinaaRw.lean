/- Rows of numbers that are made at one length and written by index, their content as a function of the index; for every seat. -/
import Derived.Test.YtcnmknhjmflinaaSh
import Derived.Lib.Walk
import Derived.Lib.SliceRun
set_option linter.unusedVariables false
namespace Go.Proofs.Ytcnmknhjmflinaa
open Go.RowKit

/-- A row of its own, its content by the index. -/
abbrev RowI (w : World) (g n : Nat) (f : Nat → Int) : Prop := w.rowIs g 3 n (fun i => .int .i64 (f i))
theorem RowI.put {w : World} {g n : Nat} {f : Nat → Int} (h : RowI w g n f) (k : Nat) (x : Int) : RowI (w.setCell ⟨g, k, none⟩ (.int .i64 x)) g n (fun i => if i = k then x else f i) :=
  (h.set k (.int .i64 x)).congr fun i hi => by show _ = Value.int .i64 (if i = k then x else f i); split <;> rfl
theorem RowI.same {w : World} {g n : Nat} {f f' : Nat → Int} (h : RowI w g n f) (e : ∀ i : Nat, i < n → f i = f' i) : RowI w g n f' := World.rowIs.congr h fun i hi => by rw [e i hi]
theorem RowI.below {w w' : World} {g n B : Nat} {f : Nat → Int} (h : RowI w g n f) (hb : Below B w w') (hg : g < B) : RowI w' g n f := World.rowIs.of_block h (hb.block g hg)
theorem RowI.next {w w' : World} {g n : Nat} {f : Nat → Int} (h : RowI w g n f) (hb : Below w.heap.size w w') : RowI w' g n f := h.below hb (World.rowIs.lt h)
theorem rowI_at {w : World} {g n : Nat} {f : Nat → Int} (h : RowI w g n f) (hf : ∀ i, i < n → I64 (f i)) : FlAt fI w w.heap.size (some ⟨g, 0, none⟩) ((List.range n).map f) := fun i hi => by
  have hin : i < n := by simpa using hi
  refine ⟨g, 0, rfl, World.rowIs.lt h, fun j u hu => ?_, by simp; exact hf i hin⟩
  have hj : j = 0 := by
    have := (List.getElem?_eq_some_iff.1 hu).1
    simp [fI] at this
    omega
  subst hj
  have e : 0 + i * fI.sz + 0 = i := by show 0 + i * 1 + 0 = i; omega
  rw [e, World.rowIs.cell h hin]
  rw [← hu]
  simp [fI]
theorem infoI2 : (Try.prog.info? 3).map (fun i => (i.zero, i.size, i.bytes)) = some (some (.int .i64 0), 1, 8) := by kernel_rfl
theorem make_row (w : World) (n : Nat) (hn : n ≤ 1000000) : ∃ w', (Instr.makeSlice 23 (.int .i64 (n : Int)) (.int .i64 (n : Int))).run Try.prog w = .ok (.slice (some ⟨w.heap.size, 0, none⟩) n n) w' ∧ RowI w' w.heap.size n (fun _ => 0) ∧ Below w.heap.size w w' :=
  ⟨_, run_make_row' 23 3 (.int .i64 0) 8 Try.underlying23 infoI2 rfl .i64 .i64 n (by first | omega | (unfold maxLen; omega)) (by first | omega | (unfold maxLen; omega)) w, World.rowIs_made w _ _ _, alloc_below _ _⟩
end Go.Proofs.Ytcnmknhjmflinaa
