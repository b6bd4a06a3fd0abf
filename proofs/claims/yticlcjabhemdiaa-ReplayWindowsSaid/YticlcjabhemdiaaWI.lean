/- Contracts of the reference's Reader: booleans and lists. -/
import Derived.Test.YticlcjabhemdiaaWH
set_option linter.unusedVariables false
namespace Go.Proofs.Yticlcjabhemdiaa.Wire
open Go.RowKit

theorem sub_first (S : ByteArray) (a : Nat) (h : a < S.size) : (S.extract a S.size).data.toList = S[a] :: S.data.toList.drop (a + 1) := by
  rw [drop_at, drop_cons S a h]
theorem fBool_sub (S : ByteArray) (a : Nat) (h : a < S.size) : fBool (S.extract a S.size) = if 1 < S[a].toNat then (false, (S.extract a S.size).extract 1 (S.extract a S.size).size, 4) else (decide (S[a].toNat = 1), (S.extract a S.size).extract 1 (S.extract a S.size).size, 0) := by
  unfold fBool; rw [sub_first S a h]

/-- What a call of the reference that reads a list leaves. -/
def OutRL (c : Nat) (S : ByteArray) (w : World) (q : List Int × ByteArray × Int) (r : Ending) (w' : World) : Prop :=
  ∃ v, r = .returned v ∧ (∃ a, a ≤ S.size ∧ RB w' c S a q.2.2 ∧ (q.2.2 = 0 → q.2.1 = S.extract a S.size)) ∧ w.grownBy w' (some c) ∧ w'.ownsRow w.heap.size 3 1 v q.1.length (i64s q.1)

end Go.Proofs.Yticlcjabhemdiaa.Wire
