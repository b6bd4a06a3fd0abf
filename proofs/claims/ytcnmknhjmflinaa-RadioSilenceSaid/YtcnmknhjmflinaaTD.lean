/- The reference: Distances walked. -/
import Derived.Test.YtcnmknhjmflinaaTC
set_option linter.unusedVariables false
namespace Go.Proofs.Ytcnmknhjmflinaa.Tpo
open Go.RowKit

/-- The distances are handed back, a row of the call's own. -/
def OutD (w : World) (f : Int → Int) (e : Ending) (w' : World) : Prop := ∃ g, e = .returned (.slice (some ⟨g, 0, none⟩) 251 251) ∧ w.heap.size ≤ g ∧ RowI w' g 251 (fun i => f (i : Int)) ∧ Below w.heap.size w w'

end Go.Proofs.Ytcnmknhjmflinaa.Tpo
