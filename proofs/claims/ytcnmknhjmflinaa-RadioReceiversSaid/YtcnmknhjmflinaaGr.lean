/- Contracts in grown form, for regions that draw (go_quiet_grown). -/
import Derived.Test.YtcnmknhjmflinaaSh
import Derived.Shelf.SlSortCmp.QuietGrown
set_option linter.unusedVariables false
namespace Go.Proofs.Ytcnmknhjmflinaa
open Go.RowKit

theorem mixedB : Try.prog.follows .mixedOrders = true := by kernel_rfl
/-- A value is handed back; memory has grown, and orders have been drawn. -/
def OutG (w : World) (v : Value) (e : Ending) (w' : World) : Prop := e = .returned v ∧ ∃ q os, w' = Go.Sort.grow (w.drewN q) os
theorem grown_below (w : World) (q : Nat) (os : Array Obj) : Below w.heap.size w (Go.Sort.grow (w.drewN q) os) := by
  refine ⟨rfl, rfl, rfl, ?_, fun k hk => ?_⟩
  · rw [Go.Sort.size_grow]; exact Nat.le_add_right _ _
  · unfold Go.Sort.grow
    show (w.heap ++ os)[k]? = _
    rw [Array.getElem?_append_left hk]
theorem outG_I {w : World} {n : Int} {e : Ending} {w' : World} (h : OutG w (.int .i64 n) e w') : OutI w n e w' := by
  obtain ⟨rfl, q, os, rfl⟩ := h
  exact ⟨rfl, grown_below _ _ _⟩
theorem outG_alloc {w : World} (o : Obj) {a b : Value} (h : a = b) : OutG w b (.returned a) (w.alloc o) := ⟨by rw [h], 0, #[o], by rw [Go.Sort.alloc_eq_grow]; rfl⟩
/-- From a world that has grown. -/
theorem outG_on {w W : World} {q : Nat} {os : Array Obj} {v : Value} {e : Ending} {w' : World} (hW : W = Go.Sort.grow (w.drewN q) os) (h : OutG W v e w') : OutG w v e w' := by
  obtain ⟨rfl, q', os', rfl⟩ := h
  subst hW
  exact ⟨rfl, q + q', os ++ os', by
    rw [show (Go.Sort.grow (w.drewN q) os).drewN q' = Go.Sort.grow ((w.drewN q).drewN q') os from rfl, World.drewN_drewN, Go.Sort.grow_grow]⟩
theorem outG_same {w W : World} {q : Nat} {os : Array Obj} {v : Value} {a : Value} (hW : W = Go.Sort.grow (w.drewN q) os) (h : a = v) : OutG w v (.returned a) W := ⟨by rw [h], q, os, hW⟩
theorem grown_alloc (w : World) (o : Obj) : w.alloc o = Go.Sort.grow (w.drewN 0) #[o] := by rw [Go.Sort.alloc_eq_grow]; rfl
theorem grown_more {w : World} {q q' : Nat} {os os' : Array Obj} : Go.Sort.grow ((Go.Sort.grow (w.drewN q) os).drewN q') os' = Go.Sort.grow (w.drewN (q + q')) (os ++ os') := by
  rw [show (Go.Sort.grow (w.drewN q) os).drewN q' = Go.Sort.grow ((w.drewN q).drewN q') os from rfl, World.drewN_drewN, Go.Sort.grow_grow]
/-- Callees met in a region that draws. -/
theorem grown_same {f : FuncId} {args : Array Value} {w : World} {n : Nat} {os : Array Obj} {v : Value}
    (h : Calls Try.prog f args (Go.Sort.grow (w.drewN n) os) fun e w' => e = .returned v ∧ Go.Sort.grow (w.drewN n) os = w') : Calls Try.prog f args (Go.Sort.grow (w.drewN n) os) fun e w'' => e = .returned v ∧ ∃ p : GrownBy, w'' = Go.Sort.grow (w.drewN p.n) p.os :=
  h.mono fun _ _ ⟨he, hm⟩ => ⟨he, ⟨n, os⟩, hm.symm⟩
theorem grown_out {f : FuncId} {args : Array Value} {w : World} {n : Nat} {os : Array Obj} {v : Value}
    (h : Calls Try.prog f args (Go.Sort.grow (w.drewN n) os) (OutG (Go.Sort.grow (w.drewN n) os) v)) : Calls Try.prog f args (Go.Sort.grow (w.drewN n) os) fun e w'' => e = .returned v ∧ ∃ p : GrownBy, w'' = Go.Sort.grow (w.drewN p.n) p.os :=
  Calls.grown_of h
/-- A box that was made first. -/
theorem box_grown {w W : World} {cs : Array Value} {T : TypeId} {q : Nat} {os : Array Obj} (hW : W = Go.Sort.grow ((w.alloc (.cells cs T)).drewN q) os) (j : Nat) {v : Value} (h : cs[j]? = some v) (n : Nat) (os' : Array Obj) : (Go.Sort.grow (W.drewN n) os').cell? ⟨w.heap.size, j, none⟩ = some v := by
  subst hW
  refine cell_grown (by rw [Go.Sort.size_grow]; show w.heap.size < (w.alloc _).heap.size + _; simp; omega) ?_ n os'
  exact box_at (grown_below _ _ _) j h
end Go.Proofs.Ytcnmknhjmflinaa
