/- The mathematics of Returns. -/
import Derived.Test.YtljcjflbfjleoaaFgN
set_option linter.unusedVariables false
namespace Go.Proofs.Ytljcjflbfjleoaa.Frg
open Go.RowKit

theorem nT_zero {h : List Bool} (e : nT h = 0) : h = List.replicate h.length false := by
  apply List.ext_getElem (by simp)
  intro i h1 h2
  rw [List.getElem_replicate]
  have : (h.filter id) = [] := List.eq_nil_of_length_eq_zero e
  have := List.filter_eq_nil_iff.1 this _ (List.getElem_mem h1)
  simpa using this
/-- The list while the pieces of one message arrive: which of them have. -/
def Inv (s : ByteArray) (src id : Int) (SN : List Bool) (l : List Pt) : Prop :=
  SN.length = cnt s.size ∧ ((nT SN = 0 ∧ l = []) ∨ (0 < nT SN ∧ nT SN < cnt s.size ∧ ∃ t, 0 ≤ t ∧ t ≤ 1099511627776 ∧ l = [ent s src id t SN]) ∨ (nT SN = cnt s.size ∧ l = []))
theorem inv_zero (s : ByteArray) (src id : Int) : Inv s src id (List.replicate (cnt s.size) false) [] := ⟨by simp, Or.inl ⟨nT_rep _, rfl⟩⟩
theorem ok_one {x : Pt} (h : Valid x) : Ok [x] := ⟨fun y hy => by rw [List.mem_singleton.1 hy]; exact h, List.pairwise_singleton _ _, by simp⟩
/-- One piece more, while some are missing. -/
theorem inv_step {s : ByteArray} {src id now : Int} {SN : List Bool} {l : List Pt} {k : Nat} (hs : s.size ≤ 1000) (hi : 0 ≤ id ∧ id ≤ 255) (h : Inv s src id SN l) (hl : nT SN < cnt s.size) (hk : k < cnt s.size) :
    ∃ L', Inv s src id (SN.set k true) L' ∧ nT (SN.set k true) = (if SN.getD k false = true then nT SN else nT SN + 1) ∧
      ((nT (SN.set k true) = cnt s.size ∧ L' = [] ∧ add l src now (piece s id k) = (L', s, true, 0)) ∨ (nT (SN.set k true) < cnt s.size ∧ L'.length = 1 ∧ add l src now (piece s id k) = (L', eb, false, 0))) := by
  obtain ⟨h1, h2⟩ := h
  have hn : nT (SN.set k true) = (if SN.getD k false = true then nT SN else nT SN + 1) := by
    split
    · rename_i e
      have : SN.set k true = SN := by
        apply List.ext_getElem (by simp)
        intro i a b
        rw [List.getElem_set]
        split
        · rename_i q; subst q; simp [List.getD, h1, hk] at e; exact e.symm
        · rfl
      rw [this]
    · rename_i e
      exact nT_set SN k (by omega) (by simpa using e)
  have hsl : (SN.set k true).length = cnt s.size := by rw [List.length_set, h1]
  rcases h2 with ⟨h0, rfl⟩ | ⟨h0, _, t, t0, t1, rfl⟩ | ⟨h0, _⟩
  · have e := nT_zero h0
    rw [h1] at e
    have eg : ¬ SN.getD k false = true := by rw [e]; simp [List.getD, hk]
    rw [if_neg eg] at hn
    by_cases c1 : cnt s.size = 1
    · obtain rfl : k = 0 := by omega
      refine ⟨[], ⟨hsl, Or.inr (Or.inr ⟨by omega, rfl⟩)⟩, by rw [if_neg eg]; exact hn, Or.inl ⟨by omega, rfl, add_alone s src id now [] hs hi c1 ok_nil rfl⟩⟩
    · have c2 := cnt_pos s.size
      have ti := tick_in now
      refine ⟨[ent s src id (tick now) (SN.set k true)], ⟨hsl, Or.inr (Or.inl ⟨by omega, by omega, tick now, ti.1, ti.2, rfl⟩)⟩, by rw [if_neg eg]; exact hn, Or.inr ⟨by omega, rfl, ?_⟩⟩
      have := add_first s src id now k [] hs hi hk (by omega) ok_nil (Nat.zero_le _) rfl
      rw [← e] at this
      exact this
  · have v := ent_valid s src id t SN hs hi ⟨t0, t1⟩ h1 h0 hl
    have st := add_step s src id t now SN k [] [] hs hi h1 hk (by omega) (ok_one v)
    simp only [List.nil_append] at st
    by_cases e : SN.getD k false = true
    · rw [if_pos e] at st hn
      have es : SN.set k true = SN := by
        apply List.ext_getElem (by simp)
        intro i a b
        rw [List.getElem_set]
        split
        · rename_i q; subst q; simp [List.getD, h1, hk] at e; exact e.symm
        · rfl
      refine ⟨[ent s src id t SN], ⟨hsl, Or.inr (Or.inl ⟨by omega, by omega, t, t0, t1, by rw [es]⟩)⟩, by rw [if_pos e]; exact hn, Or.inr ⟨by omega, rfl, st⟩⟩
    · rw [if_neg e] at st hn
      by_cases q : nT SN + 1 = cnt s.size
      · rw [if_pos q] at st
        exact ⟨[], ⟨hsl, Or.inr (Or.inr ⟨by omega, rfl⟩)⟩, by rw [if_neg e]; exact hn, Or.inl ⟨by omega, rfl, st⟩⟩
      · rw [if_neg q] at st
        exact ⟨[ent s src id t (SN.set k true)], ⟨hsl, Or.inr (Or.inl ⟨by omega, by omega, t, t0, t1, rfl⟩)⟩, by rw [if_neg e]; exact hn, Or.inr ⟨by omega, rfl, st⟩⟩
  · omega
end Go.Proofs.Ytljcjflbfjleoaa.Frg
