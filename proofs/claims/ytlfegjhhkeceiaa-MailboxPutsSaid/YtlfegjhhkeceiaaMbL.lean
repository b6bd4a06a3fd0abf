/- The laws' own functions: frame, ordered. -/
import Derived.Test.YtlfegjhhkeceiaaMbX
set_option linter.unusedVariables false
namespace Go.Proofs.Ytlfegjhhkeceiaa.Mbx
open Go.RowKit

theorem frame_any (to : Int) (u : Bool) (d : ByteArray) (w : World) : Calls Try.prog 20 #[.int .i64 to, .bool u, .string d] w fun e w' => e = .returned (fmV ⟨2, 0, to, 0, 0, 0, 0, u, d⟩) ∧ Below w.heap.size w w' := by
  go_enter Try.func20, Try.ntmps20
  go_wp2_with fail
  refine bodyPost_ret (v := fmV ⟨2, 0, to, 0, 0, 0, 0, u, d⟩) (by simp [results, Try.results20, go_sem]) rfl ⟨rfl, ?_⟩
  exact alloc_below _ _
set_option maxRecDepth 100000 in
set_option maxHeartbeats 2000000 in
theorem ordered_any (A : Option Addr) (c : Nat) (l : List Ml) (w : World) (hl : l.length ≤ 1000) (ho : ∀ i (h : i + 1 < l.length), l[i + 1].1.u = true → (l[i]'(by omega)).1.u = true) (hA : MlAt w w.heap.size A l) :
    Calls Try.prog 19 #[.slice A l.length c] w fun e w' => e = .returned (.bool true) ∧ w = w' := by
  have HA := Lib.hid hA
  have HO := Lib.hid ho
  clear hA ho
  go_enter Try.func19, Try.ntmps19
  go_wp2_with fail
  go_loop [3] (fun vi => ∃ k : Nat, vi = .int .i64 ((k : Int) + 1) ∧ k ≤ l.length) (fun vi => l.length + 1 - (intOf vi).toNat)
  case atStart => exact ⟨0, rfl, Nat.zero_le _⟩
  case round =>
    obtain ⟨k, rfl, hk⟩ := hrel
    by_cases hlt : k + 1 < l.length
    rotate_left
    · have d0 : ¬ ((k : Int) + 1 < (l.length : Int)) := by omega
      go_wp2_with fail
      go_ret
      exact ⟨rfl, rfl⟩
    have d0 : (k : Int) + 1 < (l.length : Int) := by omega
    obtain ⟨b, p, rfl, _, hc, _⟩ := ml_cell HA.out (k + 1) hlt
    obtain ⟨b', p', e, _, hc', _⟩ := ml_cell HA.out k (by omega)
    simp only [Option.some.injEq, Addr.mk.injEq, and_true] at e
    obtain ⟨rfl, rfl⟩ := e
    have g7 := hc.2.2.2.2.2.2.2.1
    have g7' := hc'.2.2.2.2.2.2.2.1
    have H := Lib.hid (HO.out k hlt)
    clear hc hc' HO
    obtain ⟨u, hu⟩ : ∃ u, l[k + 1].1.u = u := ⟨_, rfl⟩
    obtain ⟨u', hu'⟩ : ∃ u, (l[k]'(by omega)).1.u = u := ⟨_, rfl⟩
    rw [hu] at g7 H
    rw [hu'] at g7' H
    clear hu hu'
    have q0 : (0 : Int) ≤ (k : Int) := by omega
    have q1 : IntKind.i64.wrap ((k : Int) + 1 - 1) = (k : Int) := by rw [IntKind.wrap_i64]; omega
    have q2 : (k : Int) + 1 - 1 = (k : Int) := by omega
    have q3 : (k : Int) < (l.length : Int) := by omega
    cases u with
    | false =>
      clear H
      go_wp2_with fail
      go_round
      case rel => exact ⟨k + 1, by go_num, by omega⟩
      case measure => simp [intOf]; omega
    | true =>
      obtain rfl : u' = true := H.out rfl
      clear H
      go_wp2_with fail
      go_round
      case rel => exact ⟨k + 1, by go_num, by omega⟩
      case measure => simp [intOf]; omega
end Go.Proofs.Ytlfegjhhkeceiaa.Mbx
