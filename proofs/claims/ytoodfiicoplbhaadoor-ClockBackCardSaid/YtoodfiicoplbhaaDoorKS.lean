/- The lexical walk of the head of a region that draws, held fast: for guards that hang on operations that are not wanted. -/
import Derived.Test.YtoodfiicoplbhaaDoorKA
import Derived.StillTailTactics
set_option linter.unusedVariables false
namespace Go.Proofs.YtoodfiicoplbhaaDoor
open Go.RowKit

/-- The walk, as a structure, so that no tactic reckons it. -/
structure SH (P : Program) (ops : Array Oper) (w : World) (Q : Act → Prop) (l : List Oper) (a : Act) : Prop where
  out : wpStill P ops w Q l a
section
variable {P : Program} {ops : Array Oper} {w : World} {Q : Act → Prop} {a : Act} {o : Oper} {rest : List Oper}
theorem sh_skip (hw : Region.wanted o (yielded ops a.tmps) = false) (h : SH P ops w Q rest (a.put o.dst undef)) : SH P ops w Q (o :: rest) a :=
  ⟨wpStill_step fun K hK => by rw [if_neg (by rw [hw]; exact Bool.false_ne_true)]; exact hK _ h.out⟩
theorem sh_value (v : Value) (hr : (execOp a.eval o).run P w = .ok (.value v) w) (hw : Region.wanted o (yielded ops a.tmps) = true) (h : SH P ops w Q rest (a.put o.dst v)) : SH P ops w Q (o :: rest) a :=
  ⟨wpStill_step fun K hK => by rw [if_pos hw]; unfold Oper.still; rw [hr, Oper.stillUpon_value]; exact hK _ h.out⟩
theorem sh_nil (h : Q a) : SH P ops w Q [] a := ⟨h⟩
end
end Go.Proofs.YtoodfiicoplbhaaDoor
