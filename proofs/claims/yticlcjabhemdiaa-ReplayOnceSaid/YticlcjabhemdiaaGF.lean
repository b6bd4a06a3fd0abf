/- The examples of the chapter: awake. -/
import Derived.Test.YticlcjabhemdiaaGB
import Derived.Test.YticlcjabhemdiaaGE
set_option linter.unusedVariables false
namespace Go.Proofs.Yticlcjabhemdiaa.Digest
open Go.RowKit

theorem x1 : seald 5 [120] = [120] ++ nb 4 (mac 5 [120]) := rfl
theorem opn_seald (k : Nat) (l : List UInt8) : opn k (seald k l) = (l, 0) := by
  have hl := seald_length k l
  have ht : (seald k l).take l.length = l := by unfold seald; simp
  have hd : (seald k l).drop l.length = nb 4 (mac k l) := by unfold seald; simp
  have e : (seald k l).length - 4 = l.length := by omega
  rw [opn_good k _ (by omega) (by rw [e, ht, hd]), e, ht]
theorem k16 : c16 [49, 50, 51, 52, 53, 54, 55, 56, 57] = 10673 := by decide +kernel
theorem k32 : c32 [49, 50, 51, 52, 53, 54, 55, 56, 57] = 3421780262 := by decide +kernel
theorem kfn : fnv [97] = 12638187200555641996 := by decide +kernel
theorem k16e : c16 [] = 65535 := by decide +kernel

/-- True is handed back, and memory has only grown. -/
def OutT (w : World) (e : Ending) (w' : World) : Prop := e = .returned (.bool true) ∧ Below w.heap.size w w'

end Go.Proofs.Yticlcjabhemdiaa.Digest
