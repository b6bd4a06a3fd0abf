/- The law Takes. -/
import Derived.Test.YtlfegjhhkeceiaaMbM
set_option linter.unusedVariables false
namespace Go.Proofs.Ytlfegjhhkeceiaa.Mbx
open Go.RowKit

theorem take_len (l : List Ml) (to now life : Int) : (take l to now life).2.1.length ≤ 16 := by
  have h := expi_len l now life
  rcases take_conserves l to now life with ⟨_, h1, _⟩ | ⟨_, _, h1⟩
  · omega
  · rw [h1]; exact h
set_option maxRecDepth 100000 in
set_option maxHeartbeats 8000000 in
theorem law_takes (w : World) (A : Option Addr) (c : Nat) (l : List Ml) (to now life : Int) (hl : l.length ≤ 9223372036854775807) (hA : MlS w A c l) :
    Calls Try.prog 4 #[.slice A l.length c, .int .i64 to, .agg #[.int .i64 now, .int .i64 life]] w (OutB w true) := by
  have HA := Lib.hid hA
  have KL := Lib.hid (fun w => lives_any w)
  unfold OutB at KL
  clear hA
  by_cases h100 : 100 < l.length
  · have d0 : decide ((100 : Int) < (l.length : Int)) = true := dt (by omega)
    go_enter Try.func4, Try.ntmps4
    go_wp2_with fail
    refine (KL.out _).mono ?_
    rintro _ w1 ⟨rfl, hb⟩
    have B1 := Lib.hid (box_below hb)
    clear hb
    go_wp2_with fail
    go_ret
    exact outB rfl B1.out
  have d0 : decide ((100 : Int) < (l.length : Int)) = false := df (by omega)
  have KT := Lib.hid (fun w hA => ptake_any A c l to now life w (by omega) hA)
  have KR := Lib.hid (fun w hA => rtake_R A c l to now life w (by omega) hA)
  have KE := Lib.hid (fun w hA => pexpire_any A c l now life w (by omega) hA)
  have RE := Lib.hid (fun w hA => rexpire_R A c l now life w (by omega) hA)
  have KC := Lib.hid (fun w hA => pcount_any A c l to w (by omega) hA)
  have RC := Lib.hid (fun w hA => rcount_R A c l to w (by omega) hA)
  have PL := take_len l to now life
  have EL := expi_len l now life
  have KS := Lib.hid (fun (P : List Ml) (h : P.length ≤ 16) A1 A2 c1 c2 w h1 h2 => rsame_R A1 A2 c1 c2 P w (by omega) h1 h2)
  clear hl h100
  generalize take l to now life = R at *
  generalize expi l now life = E at *
  generalize cnt l to = n at *
  obtain ⟨⟨z0, z1, z2, z3, z4, z5, z6, z7, z8⟩, P, b⟩ := R
  unfold TakeR at KT KR
  unfold ListR at KE RE
  unfold OutI at KC RC
  unfold OutB at KS
  simp only at KT KR PL
  go_enter Try.func4, Try.ntmps4
  go_wp2_with fail
  refine (KT.out _ (HA.out.next (alloc_below _ _))).mono ?_
  rintro _ w1 ⟨A1, c1, rfl, h1, hb, _⟩
  have X1 := Lib.hid (show w1.heap[w.heap.size]? = some (.cells #[.int .i64 now, .int .i64 life] 30 (0, 0)) from (hb.block w.heap.size (by simp)).trans (blk_new w _))
  have e0 := fun o => blk_cell (blk_alloc X1.out o) 0 (v := .int .i64 now) rfl
  have e1 := fun o => blk_cell (blk_alloc X1.out o) 1 (v := .int .i64 life) rfl
  have hz1 : w.heap.size < w1.heap.size := by have := hb.size; simp at this; omega
  have B1 := Lib.hid (box_below hb)
  have M1 := Lib.hid h1
  clear hb h1 KT
  go_wp2_with fail
  refine (KR.out _ ((HA.out.next B1.out).next (alloc_below w1 _))).mono ?_
  rintro _ w2 ⟨A2, c2, rfl, h2, hb, _⟩
  have G2 := (alloc_below w1 (bxF ⟨z0, z1, z2, z3, z4, z5, z6, z7, z8⟩)).trans (hb.mono (by simp))
  have X2 := Lib.hid (blk_below X1.out G2 hz1)
  have Y2 := Lib.hid (show w2.heap[w1.heap.size]? = some (bxF ⟨z0, z1, z2, z3, z4, z5, z6, z7, z8⟩) from blk_below (blk_new w1 _) hb (by simp))
  have hz2 : w1.heap.size < w2.heap.size := by have := hb.size; simp at this; omega
  have B2 := Lib.hid (B1.out.trans (G2.mono B1.out.size))
  have M1 := Lib.hid (M1.out.next G2)
  have M2 := Lib.hid h2
  clear hb h2 KR e0 e1 G2 B1
  go_wp2_with fail
  have AB := alloc_below w2 (bxF ⟨z0, z1, z2, z3, z4, z5, z6, z7, z8⟩)
  have M1 := Lib.hid (M1.out.next AB)
  have M2 := Lib.hid (M2.out.next AB)
  have M0 := Lib.hid ((HA.out.next B2.out).next AB)
  have X3 := Lib.hid (blk_below X2.out AB (Nat.lt_trans hz1 hz2))
  have Y3 := Lib.hid (blk_below Y2.out AB hz2)
  have V3 := Lib.hid (show (w2.alloc (bxF ⟨z0, z1, z2, z3, z4, z5, z6, z7, z8⟩)).heap[w2.heap.size]? = some (bxF ⟨z0, z1, z2, z3, z4, z5, z6, z7, z8⟩) from blk_new w2 _)
  have B3 := Lib.hid (B2.out.trans (AB.mono B2.out.size))
  have hz3 : w2.heap.size < (w2.alloc (bxF ⟨z0, z1, z2, z3, z4, z5, z6, z7, z8⟩)).heap.size := by simp
  have Z0 : Below (w2.alloc (bxF ⟨z0, z1, z2, z3, z4, z5, z6, z7, z8⟩)).heap.size (w2.alloc (bxF ⟨z0, z1, z2, z3, z4, z5, z6, z7, z8⟩)) (w2.alloc (bxF ⟨z0, z1, z2, z3, z4, z5, z6, z7, z8⟩)).drew := below_drewN (Below.refl _ _) 1
  clear AB X2 Y2 B2
  have HC := Lib.hid (show ∀ wy, Below (w2.alloc (bxF ⟨z0, z1, z2, z3, z4, z5, z6, z7, z8⟩)).heap.size (w2.alloc (bxF ⟨z0, z1, z2, z3, z4, z5, z6, z7, z8⟩)) wy → wy.cell? ⟨w.heap.size, 0, none⟩ = some (.int .i64 now) ∧ wy.cell? ⟨w.heap.size, 1, none⟩ = some (.int .i64 life) ∧ wy.cell? ⟨w1.heap.size, 0, none⟩ = some (.int .i64 z0) ∧ wy.cell? ⟨w1.heap.size, 1, none⟩ = some (.int .i64 z1) ∧ wy.cell? ⟨w1.heap.size, 2, none⟩ = some (.int .i64 z2) ∧ wy.cell? ⟨w1.heap.size, 3, none⟩ = some (.int .i64 z3) ∧ wy.cell? ⟨w1.heap.size, 4, none⟩ = some (.int .i64 z4) ∧ wy.cell? ⟨w1.heap.size, 5, none⟩ = some (.int .i64 z5) ∧ wy.cell? ⟨w1.heap.size, 6, none⟩ = some (.int .i64 z6) ∧ wy.cell? ⟨w1.heap.size, 7, none⟩ = some (.bool z7) ∧ wy.cell? ⟨w1.heap.size, 8, none⟩ = some (.string z8) ∧ wy.cell? ⟨w2.heap.size, 0, none⟩ = some (.int .i64 z0) ∧ wy.cell? ⟨w2.heap.size, 1, none⟩ = some (.int .i64 z1) ∧ wy.cell? ⟨w2.heap.size, 2, none⟩ = some (.int .i64 z2) ∧ wy.cell? ⟨w2.heap.size, 3, none⟩ = some (.int .i64 z3) ∧ wy.cell? ⟨w2.heap.size, 4, none⟩ = some (.int .i64 z4) ∧ wy.cell? ⟨w2.heap.size, 5, none⟩ = some (.int .i64 z5) ∧ wy.cell? ⟨w2.heap.size, 6, none⟩ = some (.int .i64 z6) ∧ wy.cell? ⟨w2.heap.size, 7, none⟩ = some (.bool z7) ∧ wy.cell? ⟨w2.heap.size, 8, none⟩ = some (.string z8) from fun wy hb => by
    have a0 := blk_below X3.out hb (Nat.lt_trans hz1 (Nat.lt_trans hz2 hz3))
    have a1 := blk_below Y3.out hb (Nat.lt_trans hz2 hz3)
    have a2 := blk_below V3.out hb hz3
    have f1 := fm_block a1
    have f2 := fm_block a2
    have f3 := blk_cell a0 0 (v := .int .i64 now) rfl
    have f4 := blk_cell a0 1 (v := .int .i64 life) rfl
    unfold FmC at f1 f2
    simp only [Nat.zero_add] at f1 f2
    simp only [f1, f2, f3, f4, and_self])
  clear X3 Y3 V3 X1 hz3
  refine wp_region_held_drew (S := (fun wy : World => wy.cell? ⟨w.heap.size, 0, none⟩ = some (.int .i64 now) ∧ wy.cell? ⟨w.heap.size, 1, none⟩ = some (.int .i64 life) ∧ wy.cell? ⟨w1.heap.size, 0, none⟩ = some (.int .i64 z0) ∧ wy.cell? ⟨w1.heap.size, 1, none⟩ = some (.int .i64 z1) ∧ wy.cell? ⟨w1.heap.size, 2, none⟩ = some (.int .i64 z2) ∧ wy.cell? ⟨w1.heap.size, 3, none⟩ = some (.int .i64 z3) ∧ wy.cell? ⟨w1.heap.size, 4, none⟩ = some (.int .i64 z4) ∧ wy.cell? ⟨w1.heap.size, 5, none⟩ = some (.int .i64 z5) ∧ wy.cell? ⟨w1.heap.size, 6, none⟩ = some (.int .i64 z6) ∧ wy.cell? ⟨w1.heap.size, 7, none⟩ = some (.bool z7) ∧ wy.cell? ⟨w1.heap.size, 8, none⟩ = some (.string z8) ∧ wy.cell? ⟨w2.heap.size, 0, none⟩ = some (.int .i64 z0) ∧ wy.cell? ⟨w2.heap.size, 1, none⟩ = some (.int .i64 z1) ∧ wy.cell? ⟨w2.heap.size, 2, none⟩ = some (.int .i64 z2) ∧ wy.cell? ⟨w2.heap.size, 3, none⟩ = some (.int .i64 z3) ∧ wy.cell? ⟨w2.heap.size, 4, none⟩ = some (.int .i64 z4) ∧ wy.cell? ⟨w2.heap.size, 5, none⟩ = some (.int .i64 z5) ∧ wy.cell? ⟨w2.heap.size, 6, none⟩ = some (.int .i64 z6) ∧ wy.cell? ⟨w2.heap.size, 7, none⟩ = some (.bool z7) ∧ wy.cell? ⟨w2.heap.size, 8, none⟩ = some (.string z8))) (by kernel_rfl) (HC.out _ Z0) (fun hHeld => ?_)
  refine wpAnyH_take (i := 0) (v := (.agg #[.int .i64 z0, .int .i64 z1, .int .i64 z2, .int .i64 z3, .int .i64 z4, .int .i64 z5, .int .i64 z6, .bool z7, .string z8])) at_zero (by kernel_rfl) (by kernel_rfl) (by kernel_rfl) (fun _ _ _ h => h) (Or.inl ⟨by kernel_rfl, fun wy hSw => ?_⟩) (by assumption) ?_
  · (try dsimp only at hSw); go_simp
  try simp only [Act.put, List.setIfInBounds_toArray, List.set_cons_zero, List.set_cons_succ]
  refine wpAnyH_take (i := 1) (v := (.agg #[.int .i64 z0, .int .i64 z1, .int .i64 z2, .int .i64 z3, .int .i64 z4, .int .i64 z5, .int .i64 z6, .bool z7, .string z8])) (at_succ at_zero) (by kernel_rfl) (by kernel_rfl) (by kernel_rfl) (fun _ _ _ h => h) (Or.inl ⟨by kernel_rfl, fun wy hSw => ?_⟩) (by assumption) ?_
  · (try dsimp only at hSw); go_simp
  try simp only [Act.put, List.setIfInBounds_toArray, List.set_cons_zero, List.set_cons_succ]
  refine wpAnyH_take (i := 2) (v := (.bool true)) (at_succ (at_succ at_zero)) (by kernel_rfl) (by kernel_rfl) (by kernel_rfl) (fun _ _ _ h => h) (Or.inl ⟨by kernel_rfl, fun wy hSw => ?_⟩) (by assumption) ?_
  · (try dsimp only at hSw); go_simp
  try simp only [Act.put, List.setIfInBounds_toArray, List.set_cons_zero, List.set_cons_succ]
  refine wpAnyH_take (i := 3) (v := (.bool true)) (at_succ (at_succ (at_succ at_zero))) (by kernel_rfl) (by kernel_rfl) (by kernel_rfl) (fun _ _ _ h => h) (Or.inl ⟨by kernel_rfl, fun wy hSw => ?_⟩) (by assumption) ?_
  · (try dsimp only at hSw); go_simp
  try simp only [Act.put, List.setIfInBounds_toArray, List.set_cons_zero, List.set_cons_succ]
  refine wpAnyH_take (i := 4) (v := (.bool b)) (at_succ (at_succ (at_succ (at_succ at_zero)))) (by kernel_rfl) (by kernel_rfl) (by kernel_rfl) (fun _ _ _ h => h) (Or.inl ⟨by kernel_rfl, fun wy hSw => ?_⟩) (by assumption) ?_
  · (try dsimp only at hSw); go_simp
  try simp only [Act.put, List.setIfInBounds_toArray, List.set_cons_zero, List.set_cons_succ]
  refine wpAnyH_take (i := 5) (v := (.bool b)) (at_succ (at_succ (at_succ (at_succ (at_succ at_zero))))) (by kernel_rfl) (by kernel_rfl) (by kernel_rfl) (fun _ _ _ h => h) (Or.inl ⟨by kernel_rfl, fun wy hSw => ?_⟩) (by assumption) ?_
  · (try dsimp only at hSw); go_simp
  try simp only [Act.put, List.setIfInBounds_toArray, List.set_cons_zero, List.set_cons_succ]
  refine wpAnyH_take (i := 6) (v := (.bool true)) (at_succ (at_succ (at_succ (at_succ (at_succ (at_succ at_zero)))))) (by kernel_rfl) (by kernel_rfl) (by kernel_rfl) (fun _ _ _ h => h) (Or.inl ⟨by kernel_rfl, fun wy hSw => ?_⟩) (by assumption) ?_
  · (try dsimp only at hSw); go_simp
  try simp only [Act.put, List.setIfInBounds_toArray, List.set_cons_zero, List.set_cons_succ]
  refine wpAnyH_take (i := 7) (v := (.bool true)) (at_succ (at_succ (at_succ (at_succ (at_succ (at_succ (at_succ at_zero))))))) (by kernel_rfl) (by kernel_rfl) (by kernel_rfl) (fun _ _ _ h => h) (Or.inl ⟨by kernel_rfl, fun wy hSw => ?_⟩) (by assumption) ?_
  · (try dsimp only at hSw); go_simp
  try simp only [Act.put, List.setIfInBounds_toArray, List.set_cons_zero, List.set_cons_succ]
  refine wpAnyH_take (i := 8) (v := (.bool true)) (at_succ (at_succ (at_succ (at_succ (at_succ (at_succ (at_succ (at_succ at_zero)))))))) (by kernel_rfl) (by kernel_rfl) (by kernel_rfl) (fun _ _ _ h => h) (Or.inl ⟨by kernel_rfl, fun wy hSw => ?_⟩) (by assumption) ?_
  · (try dsimp only at hSw); go_simp
  try simp only [Act.put, List.setIfInBounds_toArray, List.set_cons_zero, List.set_cons_succ]
  refine wpAnyH_take (i := 9) (v := (.slice A1 P.length c1)) (at_succ (at_succ (at_succ (at_succ (at_succ (at_succ (at_succ (at_succ (at_succ at_zero))))))))) (by kernel_rfl) (by kernel_rfl) (by kernel_rfl) (fun _ _ _ h => h) (Or.inl ⟨by kernel_rfl, fun wy hSw => ?_⟩) (by assumption) ?_
  · (try dsimp only at hSw); go_simp
  try simp only [Act.put, List.setIfInBounds_toArray, List.set_cons_zero, List.set_cons_succ]
  refine wpAnyH_take (i := 10) (v := (.slice A2 P.length c2)) (at_succ (at_succ (at_succ (at_succ (at_succ (at_succ (at_succ (at_succ (at_succ (at_succ at_zero)))))))))) (by kernel_rfl) (by kernel_rfl) (by kernel_rfl) (fun _ _ _ h => h) (Or.inl ⟨by kernel_rfl, fun wy hSw => ?_⟩) (by assumption) ?_
  · (try dsimp only at hSw); go_simp
  try simp only [Act.put, List.setIfInBounds_toArray, List.set_cons_zero, List.set_cons_succ]
  refine wpAnyH_ready (rs := [11]) (by kernel_rfl) (by simp) ?_
  refine AllReadyH.cons (at_succ (at_succ (at_succ (at_succ (at_succ (at_succ (at_succ (at_succ (at_succ (at_succ (at_succ at_zero))))))))))) (fun K hK => ?_) AllReadyH.nil
  rw [if_pos (by kernel_rfl)]
  go_simp
  refine (KS.out P PL A1 A2 c1 c2 _ (M1.out.next Z0) (M2.out.next Z0)).mono ?_
  rintro _ wz ⟨rfl, hb⟩
  have Z1 := Z0.trans (hb.mono Z0.size)
  clear hb hHeld
  go_wp2_with fail
  refine hK.out _ _ (HC.out _ Z1) (fun hHeld => ?_)
  clear hK K
  try simp only [Act.put, List.setIfInBounds_toArray, List.set_cons_zero, List.set_cons_succ]
  refine wpAnyH_take (i := 12) (v := (.bool true)) (at_succ (at_succ (at_succ (at_succ (at_succ (at_succ (at_succ (at_succ (at_succ (at_succ (at_succ (at_succ at_zero)))))))))))) (by kernel_rfl) (by kernel_rfl) (by kernel_rfl) (fun _ _ _ h => h) (Or.inl ⟨by kernel_rfl, fun wy hSw => ?_⟩) (by assumption) ?_
  · (try dsimp only at hSw); go_simp
  try simp only [Act.put, List.setIfInBounds_toArray, List.set_cons_zero, List.set_cons_succ]
  refine wpAnyH_take (i := 13) (v := (.bool true)) (at_succ (at_succ (at_succ (at_succ (at_succ (at_succ (at_succ (at_succ (at_succ (at_succ (at_succ (at_succ (at_succ at_zero))))))))))))) (by kernel_rfl) (by kernel_rfl) (by kernel_rfl) (fun _ _ _ h => h) (Or.inl ⟨by kernel_rfl, fun wy hSw => ?_⟩) (by assumption) ?_
  · (try dsimp only at hSw); go_simp
  try simp only [Act.put, List.setIfInBounds_toArray, List.set_cons_zero, List.set_cons_succ]
  refine wpAnyH_take (i := 14) (v := (.slice A l.length c)) (at_succ (at_succ (at_succ (at_succ (at_succ (at_succ (at_succ (at_succ (at_succ (at_succ (at_succ (at_succ (at_succ (at_succ at_zero)))))))))))))) (by kernel_rfl) (by kernel_rfl) (by kernel_rfl) (fun _ _ _ h => h) (Or.inl ⟨by kernel_rfl, fun wy hSw => ?_⟩) (by assumption) ?_
  · (try dsimp only at hSw); go_simp
  try simp only [Act.put, List.setIfInBounds_toArray, List.set_cons_zero, List.set_cons_succ]
  refine wpAnyH_take (i := 15) (v := (.pointer (some ⟨w.heap.size, 0, none⟩))) (at_succ (at_succ (at_succ (at_succ (at_succ (at_succ (at_succ (at_succ (at_succ (at_succ (at_succ (at_succ (at_succ (at_succ (at_succ at_zero))))))))))))))) (by kernel_rfl) (by kernel_rfl) (by kernel_rfl) (fun _ _ _ h => h) (Or.inl ⟨by kernel_rfl, fun wy hSw => ?_⟩) (by assumption) ?_
  · (try dsimp only at hSw); go_simp
  try simp only [Act.put, List.setIfInBounds_toArray, List.set_cons_zero, List.set_cons_succ]
  refine wpAnyH_take (i := 16) (v := (.int .i64 now)) (at_succ (at_succ (at_succ (at_succ (at_succ (at_succ (at_succ (at_succ (at_succ (at_succ (at_succ (at_succ (at_succ (at_succ (at_succ (at_succ at_zero)))))))))))))))) (by kernel_rfl) (by kernel_rfl) (by kernel_rfl) (fun _ _ _ h => h) (Or.inl ⟨by kernel_rfl, fun wy hSw => ?_⟩) (by assumption) ?_
  · (try dsimp only at hSw); go_simp
  try simp only [Act.put, List.setIfInBounds_toArray, List.set_cons_zero, List.set_cons_succ]
  refine wpAnyH_take (i := 17) (v := (.pointer (some ⟨w.heap.size, 1, none⟩))) (at_succ (at_succ (at_succ (at_succ (at_succ (at_succ (at_succ (at_succ (at_succ (at_succ (at_succ (at_succ (at_succ (at_succ (at_succ (at_succ (at_succ at_zero))))))))))))))))) (by kernel_rfl) (by kernel_rfl) (by kernel_rfl) (fun _ _ _ h => h) (Or.inl ⟨by kernel_rfl, fun wy hSw => ?_⟩) (by assumption) ?_
  · (try dsimp only at hSw); go_simp
  try simp only [Act.put, List.setIfInBounds_toArray, List.set_cons_zero, List.set_cons_succ]
  refine wpAnyH_take (i := 18) (v := (.int .i64 life)) (at_succ (at_succ (at_succ (at_succ (at_succ (at_succ (at_succ (at_succ (at_succ (at_succ (at_succ (at_succ (at_succ (at_succ (at_succ (at_succ (at_succ (at_succ at_zero)))))))))))))))))) (by kernel_rfl) (by kernel_rfl) (by kernel_rfl) (fun _ _ _ h => h) (Or.inl ⟨by kernel_rfl, fun wy hSw => ?_⟩) (by assumption) ?_
  · (try dsimp only at hSw); go_simp
  try simp only [Act.put, List.setIfInBounds_toArray, List.set_cons_zero, List.set_cons_succ]
  refine wpAnyH_take (i := 20) (v := (.slice A l.length c)) (at_succ (at_succ (at_succ (at_succ (at_succ (at_succ (at_succ (at_succ (at_succ (at_succ (at_succ (at_succ (at_succ (at_succ (at_succ (at_succ (at_succ (at_succ (at_succ (at_succ at_zero)))))))))))))))))))) (by kernel_rfl) (by kernel_rfl) (by kernel_rfl) (fun _ _ _ h => h) (Or.inl ⟨by kernel_rfl, fun wy hSw => ?_⟩) (by assumption) ?_
  · (try dsimp only at hSw); go_simp
  try simp only [Act.put, List.setIfInBounds_toArray, List.set_cons_zero, List.set_cons_succ]
  refine wpAnyH_take (i := 21) (v := (.pointer (some ⟨w.heap.size, 0, none⟩))) (at_succ (at_succ (at_succ (at_succ (at_succ (at_succ (at_succ (at_succ (at_succ (at_succ (at_succ (at_succ (at_succ (at_succ (at_succ (at_succ (at_succ (at_succ (at_succ (at_succ (at_succ at_zero))))))))))))))))))))) (by kernel_rfl) (by kernel_rfl) (by kernel_rfl) (fun _ _ _ h => h) (Or.inl ⟨by kernel_rfl, fun wy hSw => ?_⟩) (by assumption) ?_
  · (try dsimp only at hSw); go_simp
  try simp only [Act.put, List.setIfInBounds_toArray, List.set_cons_zero, List.set_cons_succ]
  refine wpAnyH_take (i := 22) (v := (.int .i64 now)) (at_succ (at_succ (at_succ (at_succ (at_succ (at_succ (at_succ (at_succ (at_succ (at_succ (at_succ (at_succ (at_succ (at_succ (at_succ (at_succ (at_succ (at_succ (at_succ (at_succ (at_succ (at_succ at_zero)))))))))))))))))))))) (by kernel_rfl) (by kernel_rfl) (by kernel_rfl) (fun _ _ _ h => h) (Or.inl ⟨by kernel_rfl, fun wy hSw => ?_⟩) (by assumption) ?_
  · (try dsimp only at hSw); go_simp
  try simp only [Act.put, List.setIfInBounds_toArray, List.set_cons_zero, List.set_cons_succ]
  refine wpAnyH_take (i := 23) (v := (.pointer (some ⟨w.heap.size, 1, none⟩))) (at_succ (at_succ (at_succ (at_succ (at_succ (at_succ (at_succ (at_succ (at_succ (at_succ (at_succ (at_succ (at_succ (at_succ (at_succ (at_succ (at_succ (at_succ (at_succ (at_succ (at_succ (at_succ (at_succ at_zero))))))))))))))))))))))) (by kernel_rfl) (by kernel_rfl) (by kernel_rfl) (fun _ _ _ h => h) (Or.inl ⟨by kernel_rfl, fun wy hSw => ?_⟩) (by assumption) ?_
  · (try dsimp only at hSw); go_simp
  try simp only [Act.put, List.setIfInBounds_toArray, List.set_cons_zero, List.set_cons_succ]
  refine wpAnyH_take (i := 24) (v := (.int .i64 life)) (at_succ (at_succ (at_succ (at_succ (at_succ (at_succ (at_succ (at_succ (at_succ (at_succ (at_succ (at_succ (at_succ (at_succ (at_succ (at_succ (at_succ (at_succ (at_succ (at_succ (at_succ (at_succ (at_succ (at_succ at_zero)))))))))))))))))))))))) (by kernel_rfl) (by kernel_rfl) (by kernel_rfl) (fun _ _ _ h => h) (Or.inl ⟨by kernel_rfl, fun wy hSw => ?_⟩) (by assumption) ?_
  · (try dsimp only at hSw); go_simp
  try simp only [Act.put, List.setIfInBounds_toArray, List.set_cons_zero, List.set_cons_succ]
  refine wpAnyH_ready (rs := [19]) (by kernel_rfl) (by simp) ?_
  refine AllReadyH.cons (at_succ (at_succ (at_succ (at_succ (at_succ (at_succ (at_succ (at_succ (at_succ (at_succ (at_succ (at_succ (at_succ (at_succ (at_succ (at_succ (at_succ (at_succ (at_succ at_zero))))))))))))))))))) (fun K hK => ?_) AllReadyH.nil
  rw [if_pos (by kernel_rfl)]
  go_simp
  refine (KE.out _ (M0.out.next Z1)).mono ?_
  rintro _ wz ⟨A3, c3, rfl, h3, hb⟩
  try have M3 := Lib.hid (M3.out.next hb)
  try have M4 := Lib.hid (M4.out.next hb)
  have M3 := Lib.hid h3
  clear h3
  have Z2 := Z1.trans (hb.mono Z1.size)
  clear hb hHeld
  go_wp2_with fail
  refine hK.out _ _ (HC.out _ Z2) (fun hHeld => ?_)
  clear hK K
  try simp only [Act.put, List.setIfInBounds_toArray, List.set_cons_zero, List.set_cons_succ]
  refine wpAnyH_ready (rs := [25]) (by kernel_rfl) (by simp) ?_
  refine AllReadyH.cons (at_succ (at_succ (at_succ (at_succ (at_succ (at_succ (at_succ (at_succ (at_succ (at_succ (at_succ (at_succ (at_succ (at_succ (at_succ (at_succ (at_succ (at_succ (at_succ (at_succ (at_succ (at_succ (at_succ (at_succ (at_succ at_zero))))))))))))))))))))))))) (fun K hK => ?_) AllReadyH.nil
  rw [if_pos (by kernel_rfl)]
  go_simp
  refine (RE.out _ (M0.out.next Z2)).mono ?_
  rintro _ wz ⟨A4, c4, rfl, h4, hb⟩
  try have M3 := Lib.hid (M3.out.next hb)
  try have M4 := Lib.hid (M4.out.next hb)
  have M4 := Lib.hid h4
  clear h4
  have Z3 := Z2.trans (hb.mono Z2.size)
  clear hb hHeld
  go_wp2_with fail
  refine hK.out _ _ (HC.out _ Z3) (fun hHeld => ?_)
  clear hK K
  try simp only [Act.put, List.setIfInBounds_toArray, List.set_cons_zero, List.set_cons_succ]
  refine wpAnyH_ready (rs := [26]) (by kernel_rfl) (by simp) ?_
  refine AllReadyH.cons (at_succ (at_succ (at_succ (at_succ (at_succ (at_succ (at_succ (at_succ (at_succ (at_succ (at_succ (at_succ (at_succ (at_succ (at_succ (at_succ (at_succ (at_succ (at_succ (at_succ (at_succ (at_succ (at_succ (at_succ (at_succ (at_succ at_zero)))))))))))))))))))))))))) (fun K hK => ?_) AllReadyH.nil
  rw [if_pos (by kernel_rfl)]
  go_simp
  refine (KS.out E EL A3 A4 c3 c4 _ M3.out M4.out).mono ?_
  rintro _ wz ⟨rfl, hb⟩
  have Z4 := Z3.trans (hb.mono Z3.size)
  clear hb hHeld
  go_wp2_with fail
  refine hK.out _ _ (HC.out _ Z4) (fun hHeld => ?_)
  clear hK K
  try simp only [Act.put, List.setIfInBounds_toArray, List.set_cons_zero, List.set_cons_succ]
  refine wpAnyH_take (i := 27) (v := (.bool true)) (at_succ (at_succ (at_succ (at_succ (at_succ (at_succ (at_succ (at_succ (at_succ (at_succ (at_succ (at_succ (at_succ (at_succ (at_succ (at_succ (at_succ (at_succ (at_succ (at_succ (at_succ (at_succ (at_succ (at_succ (at_succ (at_succ (at_succ at_zero))))))))))))))))))))))))))) (by kernel_rfl) (by kernel_rfl) (by kernel_rfl) (fun _ _ _ h => h) (Or.inl ⟨by kernel_rfl, fun wy hSw => ?_⟩) (by assumption) ?_
  · (try dsimp only at hSw); go_simp
  try simp only [Act.put, List.setIfInBounds_toArray, List.set_cons_zero, List.set_cons_succ]
  refine wpAnyH_take (i := 28) (v := (.bool true)) (at_succ (at_succ (at_succ (at_succ (at_succ (at_succ (at_succ (at_succ (at_succ (at_succ (at_succ (at_succ (at_succ (at_succ (at_succ (at_succ (at_succ (at_succ (at_succ (at_succ (at_succ (at_succ (at_succ (at_succ (at_succ (at_succ (at_succ (at_succ at_zero)))))))))))))))))))))))))))) (by kernel_rfl) (by kernel_rfl) (by kernel_rfl) (fun _ _ _ h => h) (Or.inl ⟨by kernel_rfl, fun wy hSw => ?_⟩) (by assumption) ?_
  · (try dsimp only at hSw); go_simp
  try simp only [Act.put, List.setIfInBounds_toArray, List.set_cons_zero, List.set_cons_succ]
  refine wpAnyH_take (i := 29) (v := (.slice A l.length c)) (at_succ (at_succ (at_succ (at_succ (at_succ (at_succ (at_succ (at_succ (at_succ (at_succ (at_succ (at_succ (at_succ (at_succ (at_succ (at_succ (at_succ (at_succ (at_succ (at_succ (at_succ (at_succ (at_succ (at_succ (at_succ (at_succ (at_succ (at_succ (at_succ at_zero))))))))))))))))))))))))))))) (by kernel_rfl) (by kernel_rfl) (by kernel_rfl) (fun _ _ _ h => h) (Or.inl ⟨by kernel_rfl, fun wy hSw => ?_⟩) (by assumption) ?_
  · (try dsimp only at hSw); go_simp
  try simp only [Act.put, List.setIfInBounds_toArray, List.set_cons_zero, List.set_cons_succ]
  refine wpAnyH_take (i := 30) (v := (.int .i64 to)) (at_succ (at_succ (at_succ (at_succ (at_succ (at_succ (at_succ (at_succ (at_succ (at_succ (at_succ (at_succ (at_succ (at_succ (at_succ (at_succ (at_succ (at_succ (at_succ (at_succ (at_succ (at_succ (at_succ (at_succ (at_succ (at_succ (at_succ (at_succ (at_succ (at_succ at_zero)))))))))))))))))))))))))))))) (by kernel_rfl) (by kernel_rfl) (by kernel_rfl) (fun _ _ _ h => h) (Or.inl ⟨by kernel_rfl, fun wy hSw => ?_⟩) (by assumption) ?_
  · (try dsimp only at hSw); go_simp
  try simp only [Act.put, List.setIfInBounds_toArray, List.set_cons_zero, List.set_cons_succ]
  refine wpAnyH_take (i := 32) (v := (.slice A l.length c)) (at_succ (at_succ (at_succ (at_succ (at_succ (at_succ (at_succ (at_succ (at_succ (at_succ (at_succ (at_succ (at_succ (at_succ (at_succ (at_succ (at_succ (at_succ (at_succ (at_succ (at_succ (at_succ (at_succ (at_succ (at_succ (at_succ (at_succ (at_succ (at_succ (at_succ (at_succ (at_succ at_zero)))))))))))))))))))))))))))))))) (by kernel_rfl) (by kernel_rfl) (by kernel_rfl) (fun _ _ _ h => h) (Or.inl ⟨by kernel_rfl, fun wy hSw => ?_⟩) (by assumption) ?_
  · (try dsimp only at hSw); go_simp
  try simp only [Act.put, List.setIfInBounds_toArray, List.set_cons_zero, List.set_cons_succ]
  refine wpAnyH_take (i := 33) (v := (.int .i64 to)) (at_succ (at_succ (at_succ (at_succ (at_succ (at_succ (at_succ (at_succ (at_succ (at_succ (at_succ (at_succ (at_succ (at_succ (at_succ (at_succ (at_succ (at_succ (at_succ (at_succ (at_succ (at_succ (at_succ (at_succ (at_succ (at_succ (at_succ (at_succ (at_succ (at_succ (at_succ (at_succ (at_succ at_zero))))))))))))))))))))))))))))))))) (by kernel_rfl) (by kernel_rfl) (by kernel_rfl) (fun _ _ _ h => h) (Or.inl ⟨by kernel_rfl, fun wy hSw => ?_⟩) (by assumption) ?_
  · (try dsimp only at hSw); go_simp
  try simp only [Act.put, List.setIfInBounds_toArray, List.set_cons_zero, List.set_cons_succ]
  refine wpAnyH_ready (rs := [31]) (by kernel_rfl) (by simp) ?_
  refine AllReadyH.cons (at_succ (at_succ (at_succ (at_succ (at_succ (at_succ (at_succ (at_succ (at_succ (at_succ (at_succ (at_succ (at_succ (at_succ (at_succ (at_succ (at_succ (at_succ (at_succ (at_succ (at_succ (at_succ (at_succ (at_succ (at_succ (at_succ (at_succ (at_succ (at_succ (at_succ (at_succ at_zero))))))))))))))))))))))))))))))) (fun K hK => ?_) AllReadyH.nil
  rw [if_pos (by kernel_rfl)]
  go_simp
  refine (KC.out _ (M0.out.next Z4)).mono ?_
  rintro _ wz ⟨rfl, hb⟩
  have Z5 := Z4.trans (hb.mono Z4.size)
  clear hb hHeld
  go_wp2_with fail
  refine hK.out _ _ (HC.out _ Z5) (fun hHeld => ?_)
  clear hK K
  try simp only [Act.put, List.setIfInBounds_toArray, List.set_cons_zero, List.set_cons_succ]
  refine wpAnyH_ready (rs := [34]) (by kernel_rfl) (by simp) ?_
  refine AllReadyH.cons (at_succ (at_succ (at_succ (at_succ (at_succ (at_succ (at_succ (at_succ (at_succ (at_succ (at_succ (at_succ (at_succ (at_succ (at_succ (at_succ (at_succ (at_succ (at_succ (at_succ (at_succ (at_succ (at_succ (at_succ (at_succ (at_succ (at_succ (at_succ (at_succ (at_succ (at_succ (at_succ (at_succ (at_succ at_zero)))))))))))))))))))))))))))))))))) (fun K hK => ?_) AllReadyH.nil
  rw [if_pos (by kernel_rfl)]
  go_simp
  refine (RC.out _ (M0.out.next Z5)).mono ?_
  rintro _ wz ⟨rfl, hb⟩
  have Z6 := Z5.trans (hb.mono Z5.size)
  clear hb hHeld
  go_wp2_with fail
  refine hK.out _ _ (HC.out _ Z6) (fun hHeld => ?_)
  clear hK K
  try simp only [Act.put, List.setIfInBounds_toArray, List.set_cons_zero, List.set_cons_succ]
  refine wpAnyH_take (i := 35) (v := (.bool true)) (at_succ (at_succ (at_succ (at_succ (at_succ (at_succ (at_succ (at_succ (at_succ (at_succ (at_succ (at_succ (at_succ (at_succ (at_succ (at_succ (at_succ (at_succ (at_succ (at_succ (at_succ (at_succ (at_succ (at_succ (at_succ (at_succ (at_succ (at_succ (at_succ (at_succ (at_succ (at_succ (at_succ (at_succ (at_succ at_zero))))))))))))))))))))))))))))))))))) (by kernel_rfl) (by kernel_rfl) (by kernel_rfl) (fun _ _ _ h => h) (Or.inl ⟨by kernel_rfl, fun wy hSw => ?_⟩) (by assumption) ?_
  · (try dsimp only at hSw); go_simp
  try simp only [Act.put, List.setIfInBounds_toArray, List.set_cons_zero, List.set_cons_succ]
  refine wpAnyH_take (i := 36) (v := (.bool true)) (at_succ (at_succ (at_succ (at_succ (at_succ (at_succ (at_succ (at_succ (at_succ (at_succ (at_succ (at_succ (at_succ (at_succ (at_succ (at_succ (at_succ (at_succ (at_succ (at_succ (at_succ (at_succ (at_succ (at_succ (at_succ (at_succ (at_succ (at_succ (at_succ (at_succ (at_succ (at_succ (at_succ (at_succ (at_succ (at_succ at_zero)))))))))))))))))))))))))))))))))))) (by kernel_rfl) (by kernel_rfl) (by kernel_rfl) (fun _ _ _ h => h) (Or.inl ⟨by kernel_rfl, fun wy hSw => ?_⟩) (by assumption) ?_
  · (try dsimp only at hSw); go_simp
  try simp only [Act.put, List.setIfInBounds_toArray, List.set_cons_zero, List.set_cons_succ]
  refine wpAnyH_take (i := 37) (v := (.bool true)) (at_succ (at_succ (at_succ (at_succ (at_succ (at_succ (at_succ (at_succ (at_succ (at_succ (at_succ (at_succ (at_succ (at_succ (at_succ (at_succ (at_succ (at_succ (at_succ (at_succ (at_succ (at_succ (at_succ (at_succ (at_succ (at_succ (at_succ (at_succ (at_succ (at_succ (at_succ (at_succ (at_succ (at_succ (at_succ (at_succ (at_succ at_zero))))))))))))))))))))))))))))))))))))) (by kernel_rfl) (by kernel_rfl) (by kernel_rfl) (fun _ _ _ h => h) (Or.inl ⟨by kernel_rfl, fun wy hSw => ?_⟩) (by assumption) ?_
  · (try dsimp only at hSw); go_simp
  try simp only [Act.put, List.setIfInBounds_toArray, List.set_cons_zero, List.set_cons_succ]
  refine wpAnyH_ready (rs := [38]) (by kernel_rfl) (by simp) ?_
  refine AllReadyH.cons (at_succ (at_succ (at_succ (at_succ (at_succ (at_succ (at_succ (at_succ (at_succ (at_succ (at_succ (at_succ (at_succ (at_succ (at_succ (at_succ (at_succ (at_succ (at_succ (at_succ (at_succ (at_succ (at_succ (at_succ (at_succ (at_succ (at_succ (at_succ (at_succ (at_succ (at_succ (at_succ (at_succ (at_succ (at_succ (at_succ (at_succ (at_succ at_zero)))))))))))))))))))))))))))))))))))))) (fun K hK => ?_) AllReadyH.nil
  rw [if_pos (by kernel_rfl)]
  go_simp
  refine (KL.out _).mono ?_
  rintro _ wz ⟨rfl, hb⟩
  have Z7 := Z6.trans (hb.mono Z6.size)
  clear hb hHeld
  go_wp2_with fail
  refine hK.out _ _ (HC.out _ Z7) (fun hHeld => ?_)
  clear hK K
  try simp only [Act.put, List.setIfInBounds_toArray, List.set_cons_zero, List.set_cons_succ]
  refine wpAnyH_take (i := 39) (v := (.bool true)) (at_succ (at_succ (at_succ (at_succ (at_succ (at_succ (at_succ (at_succ (at_succ (at_succ (at_succ (at_succ (at_succ (at_succ (at_succ (at_succ (at_succ (at_succ (at_succ (at_succ (at_succ (at_succ (at_succ (at_succ (at_succ (at_succ (at_succ (at_succ (at_succ (at_succ (at_succ (at_succ (at_succ (at_succ (at_succ (at_succ (at_succ (at_succ (at_succ at_zero))))))))))))))))))))))))))))))))))))))) (by kernel_rfl) (by kernel_rfl) (by kernel_rfl) (fun _ _ _ h => h) (Or.inl ⟨by kernel_rfl, fun wy hSw => ?_⟩) (by assumption) ?_
  · (try dsimp only at hSw); go_simp
  try simp only [Act.put, List.setIfInBounds_toArray, List.set_cons_zero, List.set_cons_succ]
  refine wpAnyH_take (i := 40) (v := (.bool true)) (at_succ (at_succ (at_succ (at_succ (at_succ (at_succ (at_succ (at_succ (at_succ (at_succ (at_succ (at_succ (at_succ (at_succ (at_succ (at_succ (at_succ (at_succ (at_succ (at_succ (at_succ (at_succ (at_succ (at_succ (at_succ (at_succ (at_succ (at_succ (at_succ (at_succ (at_succ (at_succ (at_succ (at_succ (at_succ (at_succ (at_succ (at_succ (at_succ (at_succ at_zero)))))))))))))))))))))))))))))))))))))))) (by kernel_rfl) (by kernel_rfl) (by kernel_rfl) (fun _ _ _ h => h) (Or.inl ⟨by kernel_rfl, fun wy hSw => ?_⟩) (by assumption) ?_
  · (try dsimp only at hSw); go_simp
  try simp only [Act.put, List.setIfInBounds_toArray, List.set_cons_zero, List.set_cons_succ]
  refine wpAnyH_done (by kernel_rfl) ?_ _
  go_wp2_with fail
  go_ret
  exact outB rfl (B3.out.trans (Z7.mono B3.out.size))
end Go.Proofs.Ytlfegjhhkeceiaa.Mbx
