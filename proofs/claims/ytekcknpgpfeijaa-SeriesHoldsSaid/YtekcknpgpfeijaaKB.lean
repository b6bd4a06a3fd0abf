/- Contracts of num's Sat, Floor and Ceil. -/
import Derived.Test.YtekcknpgpfeijaaKA
set_option linter.unusedVariables false
namespace Go.Proofs.Ytekcknpgpfeijaa
open Go.RowKit

set_option maxHeartbeats 400000 in
theorem nsat_any (a : Int) (w : World) :
    Calls Try.prog 33 #[.int .i64 a] w fun e w' => e = .returned (.int .i64 (sat a)) ∧ w = w' := by
  go_enter Try.func33, Try.ntmps33
  go_wp2_with (go_at_call 45; refine (clamp_any _ _ _ _).mono ?_; rintro e w' ⟨rfl, rfl⟩)
  go_ret; refine ⟨ret_int ?_, rfl⟩; unfold sat; (repeat' split) <;> omega

theorem flo_plain (a b : Int) (ha : -1099511627776 ≤ a) (ha2 : a ≤ 1099511627776) (hb : 0 < b) (hb2 : b ≤ 1099511627776) : flo a b = a / b := by
  rw [flo_nz a b (by omega), sat_id a ha ha2, sat_id b (by omega) hb2]
  exact Int.fdiv_eq_ediv_of_nonneg a (by omega)
end Go.Proofs.Ytekcknpgpfeijaa
