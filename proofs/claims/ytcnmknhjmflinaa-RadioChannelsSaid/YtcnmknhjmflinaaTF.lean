/- The reference: Cut, Parent, Check. -/
import Derived.Test.YtcnmknhjmflinaaTE
set_option linter.unusedVariables false
namespace Go.Proofs.Ytcnmknhjmflinaa.Tpo
open Go.RowKit

noncomputable section
open Classical
/-- The critical ones among the first k of those that are reached. -/
def cutU (l : List Ed) (r : Int) (k : Nat) : List Int := ((reach l r).take k).filter fun c => decide (Crit l r c)
theorem cutU_all (l : List Ed) (r : Int) : cutU l r (reach l r).length = cut l r := by
  unfold cutU
  rw [List.take_length]
  refine sel_is ((sel_asc _).filter _) fun v => ?_
  rw [List.mem_filter, mem_reach]
  simp only [decide_eq_true_eq]
  exact ⟨fun h => ⟨(dist_node h.1).2, h.2⟩, fun h => ⟨h.2.1.1, h.2⟩⟩
theorem cutU_yes {l : List Ed} {r : Int} {k : Nat} (hk : k < (reach l r).length) (h : Crit l r (reach l r)[k]) : cutU l r (k + 1) = cutU l r k ++ [(reach l r)[k]] := by
  unfold cutU
  have e : ([(reach l r)[k]].filter fun c => decide (Crit l r c)) = [(reach l r)[k]] := List.filter_cons_of_pos (p := fun c => decide (Crit l r c)) (a := (reach l r)[k]) (l := []) (decide_eq_true h)
  rw [List.take_succ_eq_append_getElem hk, List.filter_append, e]
theorem cutU_no {l : List Ed} {r : Int} {k : Nat} (hk : k < (reach l r).length) (h : ¬ Crit l r (reach l r)[k]) : cutU l r (k + 1) = cutU l r k := by
  unfold cutU
  have e : ([(reach l r)[k]].filter fun c => decide (Crit l r c)) = [] := List.filter_cons_of_neg (p := fun c => decide (Crit l r c)) (a := (reach l r)[k]) (l := []) (fun h2 => h (of_decide_eq_true h2))
  rw [List.take_succ_eq_append_getElem hk, List.filter_append, e, List.append_nil]
theorem cutU_len (l : List Ed) (r : Int) (k : Nat) : (cutU l r k).length ≤ 251 := by
  unfold cutU
  have h1 := List.length_filter_le (fun c => decide (Crit l r c)) ((reach l r).take k)
  have h2 : ((reach l r).take k).length ≤ (reach l r).length := by rw [List.length_take]; omega
  have h3 := sel_len fun v => 0 ≤ dist l r v
  unfold reach at *
  omega
end

theorem parU_hit {l : List Ed} {r n : Int} {k : Nat} (hk : k < 251) (h : Par l r n (k : Int)) : parU l r n (251 - k) = (k : Int) := by
  obtain ⟨j, hj⟩ : ∃ j, 251 - k = j + 1 := ⟨250 - k, by omega⟩
  have e : ((250 - j : Nat) : Int) = (k : Int) := by omega
  rw [hj]
  unfold parU
  rw [e, if_pos h]
theorem parU_miss {l : List Ed} {r n : Int} {k : Nat} (hk : k < 251) (h : ¬ Par l r n (k : Int)) : parU l r n (251 - k) = parU l r n (251 - (k + 1)) := by
  obtain ⟨j, hj⟩ : ∃ j, 251 - k = j + 1 := ⟨250 - k, by omega⟩
  have e : ((250 - j : Nat) : Int) = (k : Int) := by omega
  rw [hj, show 251 - (k + 1) = j by omega]
  conv => lhs; unfold parU
  rw [e, if_neg h]
end Go.Proofs.Ytcnmknhjmflinaa.Tpo
