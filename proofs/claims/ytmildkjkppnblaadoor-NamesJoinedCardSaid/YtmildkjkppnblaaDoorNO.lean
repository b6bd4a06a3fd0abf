/- A slice of strings that came in, opened. -/
import Derived.Test.YtmildkjkppnblaaDoorNJ
import Derived.SliceStrings
import Derived.ProofKit
set_option linter.unusedVariables false
namespace Go.Proofs.YtmildkjkppnblaaDoor
open Go.RowKit Go.ChangeShapes Go.WideShapes

abbrev StrL := List (List UInt8)
section
variable {H : Type} {enc : TypeId × Value → H}
theorem strs_at {W : World} {fuel : Nat} {sp : Nat → Bool} {hd : Bool} {A : Option Addr} {n c : Nat} {x : DataW H × List MemPlace} (hf : DataW.trod enc Tryd.prog W 0 sp hd fuel 29 [.slice A n c] = some x) :
    ∃ l : StrL, n = List.length l ∧ StrsAt W (.slice A l.length c) l ∧ l.length ≤ 9223372036854775807 ∧ ∀ x ∈ l, x.length ≤ 9223372036854775807 := by
  rcases open_strings Tryd.underlying29 Tryd.underlying9 (by kernel_rfl) hf with ⟨hcs, hx⟩ | ⟨a, len, cap, zs, hcs, _, hl, hm, hz, hx, hcell, hwz⟩
  · simp at hcs
    obtain ⟨rfl, rfl, rfl⟩ := hcs
    exact ⟨[], rfl, ⟨none, 0, rfl, fun i h => absurd h (by simp)⟩, Nat.zero_le _, fun _ h => absurd h List.not_mem_nil⟩
  · simp at hcs
    obtain ⟨rfl, rfl, rfl⟩ := hcs
    have hle : n ≤ zs.length := by rw [hz]; split <;> omega
    have hll : ((zs.take n).map fun s => s.data.toList).length = n := by rw [List.length_map, List.length_take]; omega
    refine ⟨(zs.take n).map fun s => s.data.toList, hll.symm, ⟨some a, c, rfl, fun i hi => ?_⟩, by unfold maxLen at hm; omega, fun m hm2 => ?_⟩
    · rw [hll] at hi
      have h00 := hcell i (by omega)
      obtain ⟨b, o', e⟩ := plain_of h00
      have h0 := hcell 0 (by omega)
      rw [add_none] at h0
      obtain ⟨b, o', rfl⟩ := plain_of h0
      rw [add_off] at h00
      refine ⟨b, o', rfl, World.block_lt_of_cell? W _ h00, ?_⟩
      rw [h00]
      have : i < zs.length := by omega
      simp [List.getD, this, bs_self]
    · obtain ⟨s, hs, rfl⟩ := List.mem_map.1 hm2
      have := hwz s (List.mem_of_mem_take hs)
      unfold maxLen at this
      rw [toNat_bytes]; omega
end

end Go.Proofs.YtmildkjkppnblaaDoor
