/- Contracts of num.Clamp and of the reference's; small facts of endings. -/
import Derived.Test.YthfkmmgckiijcaaRows
import Derived.Test.YthfkmmgckiijcaaPlain
import Derived.Test.YthfkmmgckiijcaaKit
import Derived.WalkKit
import Derived.WalkSpells
import Derived.WalkLawsBesides
import Derived.Lib.Hide
import Derived.RegionTactic
import Derived.Deep.QuietTactic
import Derived.BigQuiet
import Derived.LoopTactic
import Derived.ProofKit
import Derived.Carry
set_option linter.unusedVariables false
namespace Go.Proofs.Ythfkmmgckiijcaa
open Go.RowKit

set_option maxHeartbeats 400000 in
theorem clamp_any (a lo hi : Int) (w : World) :
    Calls Try.prog 52 #[.int .i64 a, .int .i64 lo, .int .i64 hi] w fun e w' => e = .returned (.int .i64 (min (max a lo) hi)) ∧ w = w' := by
  go_enter Try.func52, Try.ntmps52
  go_wp2
  all_goals (go_ret; refine ⟨ret_int ?_, rfl⟩; (repeat' split at *) <;> omega)

end Go.Proofs.Ythfkmmgckiijcaa
