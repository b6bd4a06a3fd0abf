/- The keys of a map of distances: how many, and ascending. -/
import Derived.Test.YtdmakcjcocghhaaTW
import Derived.Test.YtdmakcjcocghhaaNShelf
import Derived.Test.YtdmakcjcocghhaaTIter0
import Derived.Maps.RangeWalk
set_option linter.unusedVariables false
namespace Go.Proofs.Ytdmakcjcocghhaa.Tpo
open Go.RowKit

abbrev DsIs (w : World) (b n : Nat) (D : DataW Value) (f : Int → Option Value) : Prop := MvIs MD Try.prog w b n D f
abbrev DsAt (w : World) (b n : Nat) (f : Int → Option Value) : Prop := MvAt MD Try.prog w b n f
theorem ds_keys {w : World} {b n : Nat} {D : DataW Value} {S : List Int} {d : Int → Int} (h : DsIs w b n D (fnd S d)) (hn : S.Nodup) (hi : ∀ x ∈ S, Nd x) : S.Perm (intKeys D) ∧ Maps.size D = S.length := by
  have hk : Try.prog.underlying MD.k = some (.int .i64) := Try.underlying3
  have hK : Go.Maps.Keyed Try.prog MD.k := Go.Maps.int_keyed hk
  have hp : S.Perm (intKeys D) := by
    refine CollectedI.perm (left := fun _ => false) ⟨hn, fun x => ?_⟩ h.1 hK hk (fun _ => rfl)
    simp only [and_true]
    by_cases hx : I64 x
    · rw [mvInt_keys (t := 52) (k := 3) (e := 3) (z := .int .i64 0) Try.underlying3 h hx]
      unfold fnd
      by_cases hm : x ∈ S
      · simp [hm]
      · simp [hm]
    · refine ⟨fun hm => absurd (nd_i64 (hi x hm)) hx, fun hh => absurd ?_ hx⟩
      obtain ⟨es, rfl, hko⟩ := h.1.keysOf
      rw [Maps.has_eq, List.any_eq_true] at hh
      obtain ⟨p, hp, hs⟩ := hh
      obtain ⟨v, hv⟩ := hko p hp
      obtain ⟨y, _, hy, hl⟩ := Maps.keyOf_i64 hk hv
      rw [hy] at hs
      simp [Lit.sameKey] at hs
      subst hs
      exact lit_i64 hl
  refine ⟨hp, ?_⟩
  rw [hp.length_eq]
  obtain ⟨es, rfl⟩ := h.1.isMap
  show es.length = (es.map _).length
  rw [List.length_map]
/-- 'len(m)'. -/
theorem ds_len {w : World} {b n : Nat} {S : List Int} {d : Int → Int} (h : DsAt w b n (fnd S d)) (hn : S.Nodup) (hi : ∀ x ∈ S, Nd x) : (Builtin.len_ #[52] 3 #[.map (some b)]).run Try.prog w = .ok (.int .i64 (S.length : Int)) w := by
  obtain ⟨D, h⟩ := h
  rw [← (ds_keys h hn hi).2]
  exact h.1.len md_of.ut _
/-- 'maps.Keys(m)'. -/
theorem keys_any (b : Nat) (w : World) : Calls Try.prog 40 #[.map (some b)] w fun e w' => e = .returned (.func (.func 48) #[] #[.pointer (some ⟨w.heap.size, 0, none⟩)]) ∧ w' = w.alloc (.cells #[.map (some b)] 52) :=
  (callsIn_wide (n := 6)).1 (AnyZI.keys_in Try.keysA Fence.wide 6 trivial rfl (some b) w)
theorem sortsA (m : Nat) : AnyZI.SortsIn Try.prog Try.sortedA_ren Fence.wide m :=
  ⟨fun blk off cap ss W hH hblk hsz => callsIn_wide.2 (Try.slices_Sort_int blk off cap ss W hH hblk hsz),
   fun p cap W => callsIn_wide.2 (Try.slices_Sort_int_none p cap W)⟩
/-- 'slices.Sorted(maps.Keys(m))', behind maps.Keys. -/
theorem sorted_any {b n : Nat} {S : List Int} {d : Int → Int} (w : World) (h : DsAt w b n (fnd S d)) (hn : S.Nodup) (hi : ∀ x ∈ S, Nd x) :
    Calls Try.prog 39 #[.func (.func 48) #[] #[.pointer (some ⟨w.heap.size, 0, none⟩)]] (w.alloc (.cells #[.map (some b)] 52)) fun e w' => ∃ v, e = .returned v ∧ OwnI w' (w.heap.size + 1) v (sel fun x => x ∈ S) ∧ Below (w.heap.size + 1) (w.alloc (.cells #[.map (some b)] 52)) w' := by
  obtain ⟨D, h⟩ := h
  obtain ⟨hp, hs⟩ := ds_keys h hn hi
  have hown := h.1
  have hbl := hown.lt
  have hlen := nd_few hn hi
  have hmax : Maps.size D ≤ maxLen := by rw [hs]; unfold maxLen; omega
  have hbytes : Maps.size D * 8 ≤ 140737488355328 := by rw [hs]; omega
  have hseq : SeqGives Fence.wide 3 Try.prog 48 #[.pointer (some ⟨w.heap.size, 0, none⟩)] encZ (fun ss => ss.Perm (intKeys D)) (Maps.size D) (w.alloc (.cells #[.map (some b)] 52)) :=
    AnyZI.keys_gives (ρ := Try.keysA_ren) { Try.keysA with } Fence.wide _ trivial rfl (by omega) w.heap.size b n D _ (by simp) (by simp) (by
      obtain ⟨es, clock, hb, Ft, hs, hD⟩ := hown
      exact ⟨es, clock, (Below.heap_alloc _ _ b hbl).trans hb, Ft, hs, hD⟩)
  have cS := AnyZI.sorted_in Try.sortedA Fence.wide 6 trivial trivial trivial trivial rfl (by omega) (sortsA _) (enters_of Try.func36 (by kernel_rfl) rfl) 48 #[.pointer (some ⟨w.heap.size, 0, none⟩)] trivial (enters_of Try.func48 (by kernel_rfl) rfl) _ _ hmax hbytes _ hseq
  change CallsIn _ _ Try.prog 39 _ _ _ at cS
  refine ((callsIn_wide (n := 6)).1 cS).mono ?_
  rintro e w' ⟨v, ss, rfl, hS, hrow, hnil, hb⟩
  have hz : (w.alloc (.cells #[.map (some b)] 52)).heap.size = w.heap.size + 1 := by simp
  rw [hz] at hrow hb
  have hsp : ss.Perm S := hS.trans hp.symm
  have hnd : ss.Nodup := hsp.nodup_iff.2 hn
  have hms : (ss.mergeSort fun x y => decide (x ≤ y)).Perm ss := List.mergeSort_perm _ _
  have hpw : (ss.mergeSort fun x y => decide (x ≤ y)).Pairwise (· < ·) := by
    have h1 := List.pairwise_mergeSort (le := fun x y : Int => decide (x ≤ y)) (fun a b c h1 h2 => by simp only [decide_eq_true_eq] at *; omega) (fun a b => by simp only [Bool.or_eq_true, decide_eq_true_eq]; omega) ss
    have h2 : (ss.mergeSort fun x y => decide (x ≤ y)).Nodup := hms.nodup_iff.2 hnd
    exact (h1.and h2).imp fun {x y} h => by
      have h3 := h.1
      simp only [decide_eq_true_eq] at h3
      have h4 := h.2
      omega
  have hL : (ss.mergeSort fun x y => decide (x ≤ y)) = sel fun x => x ∈ S := sel_is hpw fun v => by
    rw [hms.mem_iff, hsp.mem_iff]
    exact ⟨fun h => ⟨hi v h, h⟩, fun h => h.2⟩
  refine ⟨v, rfl, ⟨?_, fun a ha => nd_i64 ((mem_sel _ _).1 ha).1⟩, hb⟩
  have hl : ss.length = (sel fun x => x ∈ S).length := by rw [← hL, List.length_mergeSort]
  rw [hL, hl] at hrow
  rw [fI_flat]
  exact hrow
end Go.Proofs.Ytdmakcjcocghhaa.Tpo
