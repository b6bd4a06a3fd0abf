/- Rows of one-cell elements: 'clear' of what lies behind, the zero value being no aggregate; for every seat. -/
import Derived.Test.YtcnmknhjmflinaaIn
set_option linter.unusedVariables false
namespace Go.Proofs.Ytcnmknhjmflinaa
open Go.RowKit
section
variable {α : Type} {F : Flat α} {T : TypeId}
/-- 's[:k]'. -/
theorem sl_to {P : Program} {t : TypeId} {w : World} {A : Option Addr} {c : Nat} {l : List α} (h : SlS F w A c l) (ut : P.underlying t = some (.slice (P.elem t))) (sz : ∀ W : World, (sizeOf (P.elem t)).run P W = .ok F.sz W) (k : Nat) (hk : k ≤ l.length) :
    ∃ A1, (∀ W : World, (Instr.sliceAt t (.slice A l.length c) none (some (.int .i64 (k : Int))) none).run P W = .ok (.slice A1 k c) W) ∧ SlS F w A1 c (l.take k) := by
  have hkc : k ≤ c := Nat.le_trans hk h.2.1
  have e1 : ∀ W : World, (Instr.sliceAt t (.slice A l.length c) none (some (.int .i64 (k : Int))) none).run P W = .ok (sliced A 0 k c F.sz) W := fun W => by
    rw [run_sliceAt_slice W _ _ _ _ _ ut, run_slice_h W _ A l.length c ut .i64 k (by omega) (by omega), sz]
    rfl
  have hl : (l.take k).length ≤ c := by rw [List.length_take]; omega
  cases A with
  | none =>
    obtain rfl := h.1.none rfl
    refine ⟨none, fun W => (e1 W).trans ?_, by simpa using h.1, hl, h.2.2⟩
    have := h.2.2 rfl
    subst this
    unfold sliced; simp
  | some ad =>
    by_cases hM : l = []
    · subst hM
      obtain rfl : k = 0 := by simpa using hk
      refine ⟨if c = 0 then some ad else some (ad.add 0), fun W => (e1 W).trans ?_, FlAt.nil _ _ _, by simp, fun e => by split at e <;> cases e⟩
      unfold sliced
      simp
    · obtain ⟨b, p, e3, _⟩ := h.1 0 (List.length_pos_iff.2 hM)
      simp only [Option.some.injEq] at e3
      subst e3
      have hadd : ∀ j, (⟨b, p, none⟩ : Addr).add j = ⟨b, p + j, none⟩ := fun j => by unfold Addr.add; split <;> simp_all
      refine ⟨some ⟨b, p, none⟩, fun W => (e1 W).trans ?_, flS_take h.1 k, hl, fun e => by cases e⟩
      unfold sliced
      simp [hadd]
theorem RoT.clear1 {P : Program} {t : TypeId} (ut : P.underlying t = some (.slice T)) {z0 : Value} (zRun : ∀ w : World, (zeroValue T).run P w = .ok z0 w) (zc : z0.cells = #[z0]) (z1 : F.sz = 1) (z2 : z0.oneCell' = true) {w : World} {B g off cap : Nat} {cur : Array Value} {l : List α} (ty : TypeId) (h : RoT F T w B g off cap cur l) (o n c3 : Nat) (ho : l.length ≤ o) (hn : o + n ≤ cap) :
    ∃ w' cur', (Builtin.clear_ #[t] ty #[.slice (some ⟨g, off + o * F.sz, none⟩) n c3]).run P w = .ok (.tuple #[]) w' ∧ RoT F T w' B g off cap cur' l ∧ cur'.size = cur.size ∧ w.grownBy w' (some g) := by
  have hmul : o * F.sz + n * F.sz ≤ cap * F.sz := by rw [← Nat.add_mul]; exact Nat.mul_le_mul_right _ hn
  have hmo : l.length * F.sz ≤ o * F.sz := Nat.mul_le_mul_right _ ho
  have hr := h.room
  have hzl : (Builtin.zeroCells #[z0] n).toList.length = n * F.sz := by rw [Array.length_toList, size_zeroCells, z1]; rfl
  have hz1 : ∀ v ∈ (Builtin.zeroCells #[z0] n).toList, v.oneCell' = true := fun v hv => by
    unfold Builtin.zeroCells at hv
    simp only [Array.toList_map, List.mem_map] at hv
    obtain ⟨i, hi, rfl⟩ := hv
    have hlt : i % (#[z0] : Array Value).size < (#[z0] : Array Value).size := Nat.mod_lt i (by simp)
    rw [getElem!_pos (#[z0] : Array Value) _ hlt]
    have : (#[z0] : Array Value)[i % (#[z0] : Array Value).size] ∈ (#[z0] : Array Value) := Array.getElem_mem hlt
    rw [Array.mem_singleton.1 this]; exact z2
  have hst := run_storeCells_cells (P := P) g (off + o * F.sz) (Builtin.zeroCells #[z0] n).toList 0 w (fun j hj => by
      rw [hzl] at hj
      rw [cell_of_row w g _ cur T (0, 0) h.blk, Array.getElem?_eq_getElem (by omega)]; rfl) (fun j hj => blk_fr h.blk _) hz1
  rw [Nat.add_zero] at hst
  by_cases h0 : n = 0
  · subst h0
    refine ⟨w, cur, ?_, h, rfl, gr_refl _ _⟩
    simp [Builtin.clear_, run_underlying ut]
  · obtain ⟨n', rfl⟩ : ∃ k, n = k + 1 := ⟨n - 1, by omega⟩
    refine ⟨w.setCells g (off + o * F.sz) (Builtin.zeroCells #[z0] (n' + 1)).toList, _, ?_, ⟨h.base, setCells_blk _ _ _ _ h.blk, h.len, ?_, ?_, h.ok⟩, ?_, setCells_grown g _ _ _⟩
    · simp [Builtin.clear_, run_underlying ut, zRun, zc, hst]
    · rw [List.size_toArray, setAll_len, Array.length_toList]; exact hr
    · simp only
      exact h.has.out _ (Or.inl (by omega))
    · rw [List.size_toArray, setAll_len, Array.length_toList]
end
end Go.Proofs.Ytcnmknhjmflinaa
