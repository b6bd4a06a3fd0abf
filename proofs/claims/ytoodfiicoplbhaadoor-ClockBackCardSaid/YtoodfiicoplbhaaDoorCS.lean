/- The walk of ClockBack. -/
import Derived.Test.YtoodfiicoplbhaaDoorCR
import Derived.Deep.RegionHeld3
import Derived.Test.YtoodfiicoplbhaaDoorKS
set_option linter.unusedVariables false
namespace Go.Proofs.YtoodfiicoplbhaaDoor
open Go.RowKit

set_option maxRecDepth 100000 in
set_option maxHeartbeats 2000000 in
theorem law_back (n y m d h i : Int) (w : World) (hT : Tab w) :
    Calls Tryd.prog 7 #[.int .i64 n, dV y m d h i] w (OutB w true) := by
  have X0 := BxD.start w y m d h i
  have A2 := Lib.hid (fun w h1 => at_any y m d h i w h1)
  have TB := Lib.hid (fun wz (X : BxD w y m d h i wz) => hT.below X.below)
  have HC := Lib.hid (fun wz (X : BxD w y m d h i wz) => X.cells)
  by_cases n1 : 0 ≤ n
  · have d1 := dt n1
    by_cases n2 : n ≤ 1073741824
    · have d2 := dt n2
      have A1 := Lib.hid (fun w h1 => at_any (oY n) (oM n) (oD n) (oH n) (oI n) w h1)
      have O1 := Lib.hid (fun w h1 => of_any n w h1)
      rw [atR_yes _ _ _ _ _ (of_ex n) (by rw [at_of, vm_id n n1 n2]; exact n2), at_of, vm_id n n1 n2] at A1
      unfold ofV at O1
      clear n1 n2
      by_cases hz : exD y m d h i ∧ atM y m d h i ≤ 1073741824
      · obtain ⟨g1, g2⟩ := hz
        have OA := of_at y m d h i g1 g2
        have O2 := Lib.hid (fun w h1 => of_any (atM y m d h i) w h1)
        have g3 := (atM_in y m d h i g1).1
        unfold ofV at O2
        rw [atR_yes y m d h i g1 g2] at A2
        rw [OA.1, OA.2.1, OA.2.2.1, OA.2.2.2.1, OA.2.2.2.2] at O2
        have d3 := dt g3
        have d4 := dt g2
        unfold dV at *
        generalize atM y m d h i = k at *
        clear hT OA g1
        go_enter Tryd.func7, Tryd.ntmps7
        go_wp2_with fail
        refine (O1.out _ (TB.out _ X0)).mono ?_
        rintro e w1 ⟨rfl, hb⟩
        have X1 := X0.next hb
        clear X0 hb
        go_wp2_with fail
        refine (A1.out _ (TB.out _ X1)).mono ?_
        rintro e w2 ⟨rfl, hb⟩
        have X2 := X1.next hb
        obtain ⟨c0, c1, c2, c3, c4⟩ := X2.cells
        clear X1 hb
        go_wp2_with fail
        refine (A2.out _ (TB.out _ X2)).mono ?_
        rintro e w3 ⟨rfl, hb⟩
        clear c0 c1 c2 c3 c4
        have X3 := X2.next hb
        obtain ⟨c0, c1, c2, c3, c4⟩ := X3.cells
        clear X2 hb
        go_wp2_with fail
        have Y3 := X3.next (Below.refl _ _).drew
        go_region_held3 (fun w' => w'.cell? ⟨w.heap.size, 0, none⟩ = some (.int .i64 y) ∧ w'.cell? ⟨w.heap.size, 1, none⟩ = some (.int .i64 m) ∧ w'.cell? ⟨w.heap.size, 2, none⟩ = some (.int .i64 d) ∧ w'.cell? ⟨w.heap.size, 3, none⟩ = some (.int .i64 h) ∧ w'.cell? ⟨w.heap.size, 4, none⟩ = some (.int .i64 i))
          (first | exact HC.out _ X5 | exact HC.out _ X4 | exact HC.out _ Y3 | exact HC.out _ X3 | fail)
          (first
          | (go_at_call 13; refine (O2.out _ (TB.out _ Y3)).mono ?_; rintro r w4 ⟨rfl, hb⟩; have X4 := Y3.next hb)
          | (go_at_call 15; refine (awake_any _ (TB.out _ X4)).mono ?_; rintro r w5 ⟨rfl, hb2⟩; have X5 := X4.next hb2) | fail)
        go_wp2_with fail
        go_ret
        exact outB rfl X5.below
      · rw [atR_no y m d h i hz] at A2
        unfold dV at *
        clear hT hz
        go_enter Tryd.func7, Tryd.ntmps7
        go_wp2_with fail
        refine (O1.out _ (TB.out _ X0)).mono ?_
        rintro e w1 ⟨rfl, hb⟩
        have X1 := X0.next hb
        clear X0 hb
        go_wp2_with fail
        refine (A1.out _ (TB.out _ X1)).mono ?_
        rintro e w2 ⟨rfl, hb⟩
        have X2 := X1.next hb
        obtain ⟨c0, c1, c2, c3, c4⟩ := X2.cells
        clear X1 hb
        go_wp2_with fail
        refine (A2.out _ (TB.out _ X2)).mono ?_
        rintro e w3 ⟨rfl, hb⟩
        clear c0 c1 c2 c3 c4
        have X3 := X2.next hb
        obtain ⟨c0, c1, c2, c3, c4⟩ := X3.cells
        clear X2 hb
        go_wp2_with fail
        have Y3 := X3.next (Below.refl _ _).drew
        refine wp_region_still_tail 17 (by kernel_rfl) (by kernel_rfl) (SH.out ?_)
        simp only [List.take_succ_cons, List.take_zero, List.drop_succ_cons, List.drop_zero]
        refine sh_value (.int .i64 2) (by kernel_rfl) (by kernel_rfl) ?_
        refine sh_value (.bool true) (by kernel_rfl) (by kernel_rfl) ?_
        refine sh_value (.bool true) (by kernel_rfl) (by kernel_rfl) ?_
        iterate 12 refine sh_skip (by kernel_rfl) ?_
        refine sh_value (.bool true) (by kernel_rfl) (by kernel_rfl) ?_
        refine sh_value (.bool true) (by kernel_rfl) (by kernel_rfl) ?_
        refine sh_nil ?_
        simp only [Act.put, List.setIfInBounds_toArray, List.set_cons_zero, List.set_cons_succ]
        change wpList _ _ _ _ _ w3.drew
        generalize w3.drew = w4 at *
        go_wp2_with fail
        refine (awake_any _ (TB.out _ Y3)).mono ?_
        rintro r w5 ⟨rfl, hb2⟩
        have X5 := Y3.next hb2
        go_wp2_with fail
        go_ret
        exact outB rfl X5.below
    · have d2 := df n2
      clear n1 n2
      by_cases hz : exD y m d h i ∧ atM y m d h i ≤ 1073741824
      · obtain ⟨g1, g2⟩ := hz
        have OA := of_at y m d h i g1 g2
        have O2 := Lib.hid (fun w h1 => of_any (atM y m d h i) w h1)
        have g3 := (atM_in y m d h i g1).1
        unfold ofV at O2
        rw [atR_yes y m d h i g1 g2] at A2
        rw [OA.1, OA.2.1, OA.2.2.1, OA.2.2.2.1, OA.2.2.2.2] at O2
        have d3 := dt g3
        have d4 := dt g2
        unfold dV at *
        generalize atM y m d h i = k at *
        clear hT OA g1
        go_enter Tryd.func7, Tryd.ntmps7
        go_wp2_with fail
        refine (A2.out _ (TB.out _ X0)).mono ?_
        rintro e w3 ⟨rfl, hb⟩
        have X3 := X0.next hb
        obtain ⟨c0, c1, c2, c3, c4⟩ := X3.cells
        clear X0 hb
        go_wp2_with fail
        have Y3 := X3.next (Below.refl _ _).drew
        go_region_held3 (fun w' => w'.cell? ⟨w.heap.size, 0, none⟩ = some (.int .i64 y) ∧ w'.cell? ⟨w.heap.size, 1, none⟩ = some (.int .i64 m) ∧ w'.cell? ⟨w.heap.size, 2, none⟩ = some (.int .i64 d) ∧ w'.cell? ⟨w.heap.size, 3, none⟩ = some (.int .i64 h) ∧ w'.cell? ⟨w.heap.size, 4, none⟩ = some (.int .i64 i))
          (first | exact HC.out _ X5 | exact HC.out _ X4 | exact HC.out _ Y3 | exact HC.out _ X3 | fail)
          (first
          | (go_at_call 13; refine (O2.out _ (TB.out _ Y3)).mono ?_; rintro r w4 ⟨rfl, hb⟩; have X4 := Y3.next hb)
          | (go_at_call 15; refine (awake_any _ (TB.out _ X4)).mono ?_; rintro r w5 ⟨rfl, hb2⟩; have X5 := X4.next hb2) | fail)
        go_wp2_with fail
        go_ret
        exact outB rfl X5.below
      · rw [atR_no y m d h i hz] at A2
        unfold dV at *
        clear hT hz
        go_enter Tryd.func7, Tryd.ntmps7
        go_wp2_with fail
        refine (A2.out _ (TB.out _ X0)).mono ?_
        rintro e w3 ⟨rfl, hb⟩
        have X3 := X0.next hb
        obtain ⟨c0, c1, c2, c3, c4⟩ := X3.cells
        clear X0 hb
        go_wp2_with fail
        have Y3 := X3.next (Below.refl _ _).drew
        refine wp_region_still_tail 17 (by kernel_rfl) (by kernel_rfl) (SH.out ?_)
        simp only [List.take_succ_cons, List.take_zero, List.drop_succ_cons, List.drop_zero]
        refine sh_value (.int .i64 2) (by kernel_rfl) (by kernel_rfl) ?_
        refine sh_value (.bool true) (by kernel_rfl) (by kernel_rfl) ?_
        refine sh_value (.bool true) (by kernel_rfl) (by kernel_rfl) ?_
        iterate 12 refine sh_skip (by kernel_rfl) ?_
        refine sh_value (.bool true) (by kernel_rfl) (by kernel_rfl) ?_
        refine sh_value (.bool true) (by kernel_rfl) (by kernel_rfl) ?_
        refine sh_nil ?_
        simp only [Act.put, List.setIfInBounds_toArray, List.set_cons_zero, List.set_cons_succ]
        change wpList _ _ _ _ _ w3.drew
        generalize w3.drew = w4 at *
        go_wp2_with fail
        refine (awake_any _ (TB.out _ Y3)).mono ?_
        rintro r w5 ⟨rfl, hb2⟩
        have X5 := Y3.next hb2
        go_wp2_with fail
        go_ret
        exact outB rfl X5.below
  · have d1 := df n1
    clear n1
    by_cases hz : exD y m d h i ∧ atM y m d h i ≤ 1073741824
    · obtain ⟨g1, g2⟩ := hz
      have OA := of_at y m d h i g1 g2
      have O2 := Lib.hid (fun w h1 => of_any (atM y m d h i) w h1)
      have g3 := (atM_in y m d h i g1).1
      unfold ofV at O2
      rw [atR_yes y m d h i g1 g2] at A2
      rw [OA.1, OA.2.1, OA.2.2.1, OA.2.2.2.1, OA.2.2.2.2] at O2
      have d3 := dt g3
      have d4 := dt g2
      unfold dV at *
      generalize atM y m d h i = k at *
      clear hT OA g1
      go_enter Tryd.func7, Tryd.ntmps7
      go_wp2_with fail
      refine (A2.out _ (TB.out _ X0)).mono ?_
      rintro e w3 ⟨rfl, hb⟩
      have X3 := X0.next hb
      obtain ⟨c0, c1, c2, c3, c4⟩ := X3.cells
      clear X0 hb
      go_wp2_with fail
      have Y3 := X3.next (Below.refl _ _).drew
      go_region_held3 (fun w' => w'.cell? ⟨w.heap.size, 0, none⟩ = some (.int .i64 y) ∧ w'.cell? ⟨w.heap.size, 1, none⟩ = some (.int .i64 m) ∧ w'.cell? ⟨w.heap.size, 2, none⟩ = some (.int .i64 d) ∧ w'.cell? ⟨w.heap.size, 3, none⟩ = some (.int .i64 h) ∧ w'.cell? ⟨w.heap.size, 4, none⟩ = some (.int .i64 i))
        (first | exact HC.out _ X5 | exact HC.out _ X4 | exact HC.out _ Y3 | exact HC.out _ X3 | fail)
        (first
        | (go_at_call 13; refine (O2.out _ (TB.out _ Y3)).mono ?_; rintro r w4 ⟨rfl, hb⟩; have X4 := Y3.next hb)
        | (go_at_call 15; refine (awake_any _ (TB.out _ X4)).mono ?_; rintro r w5 ⟨rfl, hb2⟩; have X5 := X4.next hb2) | fail)
      go_wp2_with fail
      go_ret
      exact outB rfl X5.below
    · rw [atR_no y m d h i hz] at A2
      unfold dV at *
      clear hT hz
      go_enter Tryd.func7, Tryd.ntmps7
      go_wp2_with fail
      refine (A2.out _ (TB.out _ X0)).mono ?_
      rintro e w3 ⟨rfl, hb⟩
      have X3 := X0.next hb
      obtain ⟨c0, c1, c2, c3, c4⟩ := X3.cells
      clear X0 hb
      go_wp2_with fail
      have Y3 := X3.next (Below.refl _ _).drew
      refine wp_region_still_tail 17 (by kernel_rfl) (by kernel_rfl) (SH.out ?_)
      simp only [List.take_succ_cons, List.take_zero, List.drop_succ_cons, List.drop_zero]
      refine sh_value (.int .i64 2) (by kernel_rfl) (by kernel_rfl) ?_
      refine sh_value (.bool true) (by kernel_rfl) (by kernel_rfl) ?_
      refine sh_value (.bool true) (by kernel_rfl) (by kernel_rfl) ?_
      iterate 12 refine sh_skip (by kernel_rfl) ?_
      refine sh_value (.bool true) (by kernel_rfl) (by kernel_rfl) ?_
      refine sh_value (.bool true) (by kernel_rfl) (by kernel_rfl) ?_
      refine sh_nil ?_
      simp only [Act.put, List.setIfInBounds_toArray, List.set_cons_zero, List.set_cons_succ]
      change wpList _ _ _ _ _ w3.drew
      generalize w3.drew = w4 at *
      go_wp2_with fail
      refine (awake_any _ (TB.out _ Y3)).mono ?_
      rintro r w5 ⟨rfl, hb2⟩
      have X5 := Y3.next hb2
      go_wp2_with fail
      go_ret
      exact outB rfl X5.below
end Go.Proofs.YtoodfiicoplbhaaDoor
