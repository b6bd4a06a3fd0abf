/- The reference: find, Hop. -/
import Derived.Test.YtcfnkfkdhcejeaaRA
set_option linter.unusedVariables false
namespace Go.Proofs.Ytcfnkfkdhcejeaa.Rte
open Go.RowKit

/-- The place of the first route to a destination, or -1. -/
def fnd (t : List Rt) (d : Int) : Int := if t.findIdx (fun x => decide (x.1 = d)) < t.length then ((t.findIdx fun x => decide (x.1 = d) : Nat) : Int) else -1
theorem fnd_hit {t : List Rt} {d : Int} {k : Nat} (h : k < t.length) (hb : ∀ j (hj : j < t.length), j < k → t[j].1 ≠ d) (he : t[k].1 = d) : fnd t d = k ∧ get t d = some t[k] := by
  have e : t.findIdx (fun x => decide (x.1 = d)) = k := (List.findIdx_eq h).2 ⟨by simpa using he, fun j hj => by simpa using hb j (by omega) hj⟩
  refine ⟨by unfold fnd; rw [e, if_pos h], ?_⟩
  unfold get
  refine List.find?_eq_some_iff_getElem.2 ⟨by simpa using he, k, h, rfl, fun j hj => ?_⟩
  have := hb j (by omega) hj
  simpa using this
theorem fnd_miss {t : List Rt} {d : Int} (hb : ∀ j (hj : j < t.length), t[j].1 ≠ d) : fnd t d = -1 ∧ get t d = none := by
  have hm : ∀ x ∈ t, x.1 ≠ d := fun x hx => by
    obtain ⟨j, hj, rfl⟩ := List.mem_iff_getElem.1 hx
    exact hb j hj
  refine ⟨?_, List.find?_eq_none.2 fun x hx => by simpa using hm x hx⟩
  unfold fnd
  rw [List.findIdx_eq_length_of_false fun x hx => by simpa using hm x hx, if_neg (Nat.lt_irrefl _)]
/-- Either way. -/
theorem fnd_is (t : List Rt) (d : Int) : (fnd t d = -1 ∧ get t d = none) ∨ ∃ k, ∃ h : k < t.length, fnd t d = k ∧ get t d = some t[k] := by
  by_cases h : t.findIdx (fun x => decide (x.1 = d)) < t.length
  · refine Or.inr ⟨_, h, fnd_hit h (fun j hj hjk => ?_) ?_⟩
    · have := List.not_of_lt_findIdx hjk; simpa using this
    · have := List.findIdx_getElem (w := h); simpa using this
  · refine Or.inl (fnd_miss fun j hj => ?_)
    have := List.not_of_lt_findIdx (p := fun x : Rt => decide (x.1 = d)) (xs := t) (i := j) (by omega)
    simpa using this

set_option maxHeartbeats 1000000 in
theorem rfind_any (A : Option Addr) (c : Nat) (l : List Rt) (d : Int) (w : World) (hl : l.length ≤ 9223372036854775807) (hA : RtAt w w.heap.size A l) :
    Calls Try.prog 40 #[.slice A l.length c, .int .i64 d] w fun e w' => e = .returned (.int .i64 (fnd l d)) ∧ w = w' := by
  have HA := Lib.hid hA
  have FH := Lib.hid (fun k h hb he => (fnd_hit (t := l) (d := d) (k := k) h hb he).1)
  have FM := Lib.hid (fun hb => (fnd_miss (t := l) (d := d) hb).1)
  clear hA
  generalize fnd l d = F at *
  go_enter Try.func40, Try.ntmps40
  go_wp2_with fail
  go_loop [5] (fun i => ∃ k : Nat, i = .int .i64 k ∧ k ≤ l.length ∧ Hid (∀ j (hj : j < l.length), j < k → l[j].1 ≠ d)) (fun i => l.length - (intOf i).toNat)
  case atStart => exact ⟨0, rfl, Nat.zero_le _, Lib.hid fun j hj h => by omega⟩
  case round =>
    obtain ⟨k, rfl, hk, HB⟩ := hrel
    by_cases hlt : k < l.length
    · obtain ⟨b, p, rfl, _, g0, _⟩ := rt_cell HA.out k hlt
      have FHk := Lib.hid (FH.out k hlt HB.out)
      have HN := Lib.hid (fun h : l[k].1 ≠ d => (show ∀ j (hj : j < l.length), j < k + 1 → l[j].1 ≠ d from fun j hj hjk => by
        by_cases e : j = k
        · subst e; exact h
        · exact HB.out j hj (by omega)))
      clear FH FM
      generalize l[k].1 = x0 at *
      by_cases he : x0 = d
      · have R := Lib.hid (FHk.out he)
        have d1 : (x0 == d) = true := by simpa using he
        clear FHk HN he
        go_wp2_with fail
        go_ret
        exact ⟨ret_int R.out.symm, rfl⟩
      · have HB2 := Lib.hid (HN.out he)
        have d1 : (x0 == d) = false := by simpa using he
        clear FHk HN he
        go_wp2_with fail
        go_round
        case rel => exact ⟨k + 1, by go_num, hlt, HB2⟩
        case measure => simp [intOf]; omega
    · have R := Lib.hid (FM.out fun j hj => HB.out j hj (by omega))
      go_wp2_with fail
      go_ret
      exact ⟨ret_int R.out.symm, rfl⟩
end Go.Proofs.Ytcfnkfkdhcejeaa.Rte
