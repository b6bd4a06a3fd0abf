/- Contracts of New, Same, starts and awake. -/
import Derived.Test.YticlcjabhemdiaaWI
set_option linter.unusedVariables false
namespace Go.Proofs.Yticlcjabhemdiaa.Wire
open Go.RowKit

theorem ret_bool {a b : Bool} (h : a = b) : Ending.returned (.bool a) = .returned (.bool b) := by rw [h]
theorem new_any (s : ByteArray) (w : World) :
    Calls Try.prog 43 #[.string s] w fun r w' => r = .returned (pt w.heap.size) ∧ PB w' w.heap.size s 0 true ∧ Below w.heap.size w w' := by
  go_enter Try.func43, Try.ntmps43
  go_wp2_with fail
  go_ret
  exact ⟨rfl, heap_alloc_new w _, (Below.refl _ _).alloc (Nat.le_refl _) _⟩
theorem rnew_any (s : ByteArray) (w : World) :
    Calls Try.prog 34 #[.string s] w fun r w' => r = .returned (pt w.heap.size) ∧ RB w' w.heap.size s 0 0 ∧ Below w.heap.size w w' := by
  go_enter Try.func34, Try.ntmps34
  go_wp2_with fail
  go_ret
  exact ⟨rfl, heap_alloc_new w _, (Below.refl _ _).alloc (Nat.le_refl _) _⟩

theorem same_draw {w w' : World} (h : Same w w') (B : Nat) : Below B w w' := by
  obtain ⟨n, rfl⟩ := h
  exact ⟨rfl, rfl, rfl, Nat.le_refl _, fun _ _ => rfl⟩
theorem same_gb {w w' : World} (h : Same w w') (r : Option Nat) : w.grownBy w' r := by
  obtain ⟨n, rfl⟩ := h
  exact gb_drewN _ _ _
theorem same_trans {a b c : World} (h : Same a b) (k : Same b c) : Same a c := by
  obtain ⟨n, rfl⟩ := h
  obtain ⟨m, rfl⟩ := k
  exact ⟨n + m, by simp [World.drewN_drewN]⟩

theorem own_ints {w : World} {base n : Nat} {v : Value} {l : List Int} (h : w.ownsRow base 3 1 v n (i64s l)) (hn : n = l.length) :
    ∃ A c, v = .slice A l.length c ∧ IntsAt w w.heap.size A l := by
  subst hn
  rcases h.2 with ⟨rfl, h0⟩ | ⟨g, cap, cur, rfl, h2, h3, h4⟩
  · rw [h0]; exact ⟨none, 0, rfl, fun h => by omega⟩
  · refine ⟨_, cap, rfl, fun _ => ⟨g, 0, rfl, (Array.getElem?_eq_some_iff.1 h3).1, fun i hi => ?_⟩⟩
    have := h.cells (g := g) rfl i (.int .i64 (l.getD i 0)) (by
      unfold i64s
      rw [List.getElem?_map]
      simp [List.getD, List.getElem?_eq_getElem hi])
    rw [show ({ block := g, off := 0, spot := none : Addr }.add i) = ⟨g, i, none⟩ by unfold Addr.add; split <;> simp_all] at this
    rw [Nat.zero_add]; exact this

/-- Whether s begins with t. -/
def strt (s t : ByteArray) : Bool := decide (t.data.toList <+: s.data.toList)
end Go.Proofs.Yticlcjabhemdiaa.Wire
