/- The lexical walk of a region that draws, held fast: for guards that come out false (operations that are not wanted): no tactic reckons the walk. For every seat. -/
import Derived.Test.YtcnmknhjmflinaaGr
set_option linter.unusedVariables false
namespace Go.Proofs.Ytcnmknhjmflinaa
open Go.RowKit

structure QH (P : Program) (ops : Array Oper) (C : World → Prop) (Q : Act → Prop) (l : List Oper) (a : Act) : Prop where
  out : wpQuiet P ops C Q l a
section
variable {P : Program} {ops : Array Oper} {C : World → Prop} {Q : Act → Prop} {a : Act} {o : Oper} {rest : List Oper}
theorem qh_skip (hw : Region.wanted o (yielded ops a.tmps) = false) (h : QH P ops C Q rest (a.put o.dst undef)) : QH P ops C Q (o :: rest) a :=
  ⟨wpQuiet_step fun K hK => by rw [if_neg (by rw [hw]; exact Bool.false_ne_true)]; exact hK _ h.out⟩
theorem qh_step (h : ∀ K : Act → Prop, (∀ a, QH P ops C Q rest a → K a) → if Region.wanted o (yielded ops a.tmps) then o.quiet P a C K else K (a.put o.dst undef)) : QH P ops C Q (o :: rest) a :=
  ⟨wpQuiet_step fun K hK => h K fun a ha => hK a ha.out⟩
theorem qh_nil (h : Q a) : QH P ops C Q [] a := ⟨h⟩
end
end Go.Proofs.Ytcnmknhjmflinaa
