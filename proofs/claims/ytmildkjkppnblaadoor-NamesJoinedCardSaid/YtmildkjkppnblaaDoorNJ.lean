/- Contract of lives; slices of strings. -/
import Derived.Test.YtmildkjkppnblaaDoorNI
set_option linter.unusedVariables false
namespace Go.Proofs.YtmildkjkppnblaaDoor
open Go.RowKit

/-- The cells of a row of strings of the call's own. -/
theorem own_cells {w : World} {B : Nat} {v : Value} {l : List (List UInt8)} (h : OwnStr w B v l) (hl : 0 < l.length) :
    ∃ g cap, v = .slice (some ⟨g, 0, none⟩) l.length cap ∧ B ≤ g ∧ g < w.heap.size ∧ ∀ i (hi : i < l.length), w.cell? ⟨g, i, none⟩ = some (.string (bs l[i])) := by
  rcases h.2 with ⟨_, h0⟩ | ⟨g, cap, cur, hv, h2, h3, h4⟩
  · omega
  · subst hv
    refine ⟨g, cap, rfl, h2, (Array.getElem?_eq_some_iff.1 h3).1, fun i hi => ?_⟩
    have := h.cells (g := g) rfl i (.string (bs l[i])) (by unfold strs; rw [List.getElem?_map, List.getElem?_eq_getElem hi]; rfl)
    rw [add_off, Nat.zero_add] at this
    exact this

set_option maxRecDepth 100000 in
set_option maxHeartbeats 2000000 in
theorem lives_any (w : World) : Calls Tryd.prog 9 #[] w (OutBool true w) := by
  have U1 := Lib.hid (fun w => uq_any { data := #[34, 92, 120, 48, 97, 34] } w (by decide) ([10], 0) (by rfl))
  have U2 := Lib.hid (fun w => uq_any { data := #[34, 92, 120, 52, 49, 34] } w (by decide) ([], 4) (by rfl))
  have F1 := Lib.hid (fun w => fields_any { data := #[115, 101, 116, 32, 34, 97, 32, 98, 34, 32, 49] } w (by decide) (some [[115, 101, 116], [34, 97, 32, 98, 34], [49]]) (by rfl))
  have V1 := Lib.hid (fun w => valid_any { data := #[119, 101, 98, 45, 49] } w (by decide) true (by rfl))
  have V2 := Lib.hid (fun w => valid_any { data := #[49, 97] } w (by decide) false (by rfl))
  have t1 : (bs [10]).toList = [10] := by rw [Lib.toList_data]; rfl
  have t2 : (bs [34, 97, 32, 98, 34]).toList = [34, 97, 32, 98, 34] := by rw [Lib.toList_data]; rfl
  go_enter Tryd.func9, Tryd.ntmps9
  go_wp2_with fail
  refine (U1.out _).mono ?_
  rintro e w1 ⟨rfl, hb1⟩
  have B1 := Lib.hid hb1
  have hz1 := hb1.size
  clear hb1
  go_wp2_with fail
  refine (U2.out _).mono ?_
  rintro e w2 ⟨rfl, hb2⟩
  have B2 := Lib.hid (B1.out.trans (hb2.mono hz1))
  have hz2 := B2.out.size
  clear hb2
  go_wp2_with fail
  refine (F1.out _).mono ?_
  rintro e w3 ⟨v, rfl, ho, hb3⟩
  obtain ⟨g, cap, rfl, hg1, hg2, hcl⟩ := own_cells ho (by decide)
  have c1 : w3.cell? ⟨g, 1, none⟩ = some (.string (bs [34, 97, 32, 98, 34])) := hcl 1 (by decide)
  have C1 := Lib.hid c1
  have B3 := Lib.hid (B2.out.trans (hb3.mono hz2))
  have hz3 := B3.out.size
  clear hb3 hcl ho c1
  simp only [flR, List.length_cons, List.length_nil, Nat.zero_add, Nat.reduceAdd]
  go_wp2_with fail
  refine (V1.out _).mono ?_
  rintro e w4 ⟨rfl, hb4⟩
  have C2 := Lib.hid (hb4.cell (p := ⟨g, 1, none⟩) hg2)
  have B4 := Lib.hid (B3.out.trans (hb4.mono hz3))
  have hz4 := B4.out.size
  have hz34 := hb4.size
  clear hb4
  go_wp2_with fail
  refine (V2.out _).mono ?_
  rintro e w5 ⟨rfl, hb5⟩
  have C3 := Lib.hid (hb5.cell (p := ⟨g, 1, none⟩) (by show g < w4.heap.size; omega))
  have B5 := Lib.hid (B4.out.trans (hb5.mono hz4))
  have c5 := C3.out.trans (C2.out.trans C1.out)
  clear hb5
  go_wp2_with fail
  go_ret
  exact outb rfl B5.out

/-- The slice v reads as these strings. -/
def StrsAt (w : World) (v : Value) (l : List (List UInt8)) : Prop := ∃ A c, v = .slice A l.length c ∧ ∀ i (hi : i < l.length), ∃ b o, A = some ⟨b, o, none⟩ ∧ b < w.heap.size ∧ w.cell? ⟨b, o + i, none⟩ = some (.string (bs l[i]))
theorem strsAt_own {w : World} {B : Nat} {v : Value} {l : List (List UInt8)} (h : OwnStr w B v l) : StrsAt w v l := by
  by_cases hl : 0 < l.length
  · obtain ⟨g, cap, rfl, _, hg, hc⟩ := own_cells h hl
    exact ⟨_, _, rfl, fun i hi => ⟨g, 0, rfl, hg, by rw [Nat.zero_add]; exact hc i hi⟩⟩
  · have h0 : l.length = 0 := by omega
    rcases h.2 with ⟨rfl, _⟩ | ⟨g, cap, cur, rfl, _⟩
    · exact ⟨none, 0, by rw [h0], fun i hi => absurd hi (by omega)⟩
    · exact ⟨some ⟨g, 0, none⟩, cap, rfl, fun i hi => absurd hi (by omega)⟩
theorem StrsAt.below {w w' : World} {v : Value} {l : List (List UInt8)} (h : StrsAt w v l) (hb : Below w.heap.size w w') : StrsAt w' v l := by
  obtain ⟨A, c, hv, hc⟩ := h
  refine ⟨A, c, hv, fun i hi => ?_⟩
  obtain ⟨b, o, hA, hlt, hcell⟩ := hc i hi
  have := hb.size
  exact ⟨b, o, hA, by omega, by rw [hb.cell (p := ⟨b, o + i, none⟩) hlt]; exact hcell⟩
theorem str_test (a b : List UInt8) (c : Bool) (h : decide (a = b) = c) : ((bs a).toList == (bs b).toList) = c := by
  subst h
  rw [Lib.toList_data, Lib.toList_data, bs_data, bs_data]
  exact Bool.eq_iff_iff.2 (by simp)
theorem str_test' (a b : List UInt8) (c : Bool) (h : decide (a = b) = c) : ((bs a).toList != (bs b).toList) = !c := by
  unfold bne; rw [str_test a b c h]

theorem below_more (w : World) (n m : Nat) : Below w.heap.size w ((w.drewN n).drewN m) := ⟨rfl, rfl, rfl, Nat.le_refl _, fun _ _ => rfl⟩
end Go.Proofs.YtmildkjkppnblaaDoor
