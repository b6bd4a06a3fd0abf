/- The laws Seals, Opens, Windows. -/
import Derived.Test.YticlcjabhemdiaaYX
import Derived.Deep.RegionHeld3
set_option linter.unusedVariables false
namespace Go.Proofs.Yticlcjabhemdiaa.Rpl
open Go.RowKit

theorem at_zero {o : Oper} {r : List Oper} : (o :: r).toArray[0]? = some o := rfl
theorem at_succ {x o : Oper} {r : List Oper} {n : Nat} (h : r.toArray[n]? = some o) : (x :: r).toArray[n + 1]? = some o := by simpa using h
set_option maxRecDepth 100000 in
set_option maxHeartbeats 4000000 in
theorem law_seals (KL0 : ∀ w, Calls Try.prog 13 #[] w (OutB w true)) (w : World) (k : Nat) (node n : Int) (s o : ByteArray) (hk : k < 18446744073709551616) (h1 : I64 node) (h2 : I64 n) :
    Calls Try.prog 4 #[.agg #[.int .u64 (k : Int), .int .i64 node, .int .i64 n, .string s, .string o]] w (OutB w true) := by
  have KL := Lib.hid KL0
  unfold OutB at KL
  clear KL0
  by_cases h11 : 1100 < s.size
  · have d0 : decide ((1100 : Int) < (s.size : Int)) = true := dt (by omega)
    go_enter Try.func4, Try.ntmps4
    go_wp2_with fail
    refine (KL.out _).mono ?_
    rintro _ w1 ⟨rfl, hb⟩
    have B1 := Lib.hid (box_below hb)
    clear hb
    go_wp2_with fail
    go_ret
    exact outB rfl B1.out
  have d0 : decide ((1100 : Int) < (s.size : Int)) = false := df (by omega)
  have KP := Lib.hid (fun w => pseal_any k node n s w hk h1 h2 (by omega))
  have KR := Lib.hid (fun w => rseal_any k node n s w hk h1 h2 (by omega))
  unfold OutSl at KP KR
  generalize sl k node n s = r at *
  obtain ⟨a, e⟩ := r
  simp only at KP KR
  go_enter Try.func4, Try.ntmps4
  go_wp2_with fail
  refine (KP.out _).mono ?_
  rintro _ w1 ⟨rfl, hb⟩
  have X1 := Lib.hid (show w1.heap[w.heap.size]? = some (.cells #[.int .u64 (k : Int), .int .i64 node, .int .i64 n, .string s, .string o] 32 (0, 0)) from (hb.block w.heap.size (by simp)).trans (blk_new w _))
  have B1 := Lib.hid (box_below hb)
  have e0 := blk_cell X1.out 0 (v := .int .u64 (k : Int)) rfl
  have e1 := blk_cell X1.out 1 (v := .int .i64 node) rfl
  have e2 := blk_cell X1.out 2 (v := .int .i64 n) rfl
  have e3 := blk_cell X1.out 3 (v := .string s) rfl
  clear hb KP
  go_wp2_with fail
  refine (KR.out _).mono ?_
  rintro _ w2 ⟨rfl, hb⟩
  have B2 := Lib.hid (B1.out.trans (hb.mono B1.out.size))
  clear hb KR e0 e1 e2 e3
  go_wp2_with fail
  refine (KL.out _).mono ?_
  rintro _ w3 ⟨rfl, hb⟩
  have B3 := Lib.hid (B2.out.trans (hb.mono B2.out.size))
  clear hb
  go_wp2_with fail
  go_ret
  exact outB rfl B3.out
set_option maxRecDepth 100000 in
set_option maxHeartbeats 4000000 in
theorem law_opens (KL0 : ∀ w, Calls Try.prog 13 #[] w (OutB w true)) (w : World) (k : Nat) (node n : Int) (s o : ByteArray) (t : Int) (b : Nat) (hk : k < 18446744073709551616) (h1 : I64 node) (hb0 : b < 18446744073709551616) :
    Calls Try.prog 5 #[.agg #[.int .u64 (k : Int), .int .i64 node, .int .i64 n, .string s, .string o], .agg #[.int .i64 t, .int .u64 (b : Int)]] w (OutB w true) := by
  have KL := Lib.hid KL0
  unfold OutB at KL
  clear KL0
  have Z2 : ∀ x y : Obj, Below w.heap.size w ((w.alloc x).alloc y) := fun x y => (alloc_below w x).alloc (by simp) y
  by_cases h11 : 1200 < o.size
  · have d0 : decide ((1200 : Int) < (o.size : Int)) = true := dt (by omega)
    go_enter Try.func5, Try.ntmps5
    go_wp2_with fail
    refine (KL.out _).mono ?_
    rintro _ w1 ⟨rfl, hb⟩
    have B1 := Lib.hid ((Z2 _ _).trans (hb.mono (by simp; omega)))
    clear hb
    go_wp2_with fail
    go_ret
    exact outB rfl B1.out
  have d0 : decide ((1200 : Int) < (o.size : Int)) = false := df (by omega)
  have KP := Lib.hid (fun w => popen_any k node t b o w hk h1 hb0 (by omega))
  have KR := Lib.hid (fun w => ropen_any k node t b o w hk h1 hb0 (by omega))
  unfold OutOp at KP KR
  generalize op k node (t, b) o = r at *
  obtain ⟨a, ⟨t1, b1⟩, e⟩ := r
  simp only at KP KR
  go_enter Try.func5, Try.ntmps5
  go_wp2_with fail
  refine (KP.out _).mono ?_
  rintro _ w1 ⟨rfl, hb⟩
  have X1 := Lib.hid (show w1.heap[w.heap.size]? = some (.cells #[.int .u64 (k : Int), .int .i64 node, .int .i64 n, .string s, .string o] 32 (0, 0)) from (hb.block w.heap.size (by simp; omega)).trans (blk_alloc (blk_new w _) _))
  have Y1 := Lib.hid (show w1.heap[w.heap.size + 1]? = some (bxW t b) from (hb.block (w.heap.size + 1) (by simp)).trans (two_new w _ _))
  have hz1 : w.heap.size + 1 < w1.heap.size := by have := hb.size; simp at this; omega
  have B1 := Lib.hid ((Z2 _ _).trans (hb.mono (by simp; omega)))
  have e0 := fun x => blk_cell (blk_alloc X1.out x) 0 (v := .int .u64 (k : Int)) rfl
  have e1 := fun x => blk_cell (blk_alloc X1.out x) 1 (v := .int .i64 node) rfl
  have e4 := fun x => blk_cell (blk_alloc X1.out x) 4 (v := .string o) rfl
  have y0 := fun x => blk_cell (blk_alloc Y1.out x) 0 (v := .int .i64 t) rfl
  have y1 := fun x => blk_cell (blk_alloc Y1.out x) 1 (v := .int .u64 (b : Int)) rfl
  clear hb KP
  go_wp2_with fail
  refine (KR.out _).mono ?_
  rintro _ w2 ⟨rfl, hb⟩
  have V2 := Lib.hid (show w2.heap[w1.heap.size]? = some (bxW t1 b1) from (hb.block w1.heap.size (by simp)).trans (blk_new w1 _))
  have v0 := fun x => blk_cell (blk_alloc V2.out x) 0 (v := .int .i64 t1) rfl
  have v1 := fun x => blk_cell (blk_alloc V2.out x) 1 (v := .int .u64 (b1 : Int)) rfl
  have B2 := Lib.hid (B1.out.trans ((box_below hb).mono B1.out.size))
  clear hb KR e0 e1 e4 y0 y1
  go_wp2_with fail
  refine (KL.out _).mono ?_
  rintro _ w3 ⟨rfl, hb⟩
  have B3 := Lib.hid (B2.out.trans ((box_below hb).mono B2.out.size))
  clear hb
  go_wp2_with fail
  go_ret
  exact outB rfl B3.out
set_option maxRecDepth 100000 in
set_option maxHeartbeats 4000000 in
theorem law_windows (KL0 : ∀ w, Calls Try.prog 13 #[] w (OutB w true)) (w : World) (t : Int) (b : Nat) (n : Int) (hb0 : b < 18446744073709551616) (hn : I64 n) :
    Calls Try.prog 3 #[.agg #[.int .i64 t, .int .u64 (b : Int)], .int .i64 n] w (OutB w true) := by
  have KL := Lib.hid KL0
  unfold OutB at KL
  clear KL0
  have KP := Lib.hid (fun w => paccept_any t b n w hb0 hn)
  have KR := Lib.hid (fun w => raccept_any t b n w hb0 hn)
  have CP := Lib.hid (fun w => pcheck_any t b w hb0)
  have CR := Lib.hid (fun w => rcheck_any t b w hb0)
  unfold OutA at KP KR
  unfold OutI at CP CR
  generalize acc (t, b) n = r at *
  generalize chk (t, b) = m at *
  obtain ⟨⟨t1, b1⟩, ok⟩ := r
  simp only at KP KR
  go_enter Try.func3, Try.ntmps3
  go_wp2_with fail
  refine (KP.out _).mono ?_
  rintro _ w1 ⟨rfl, hb⟩
  have X1 := Lib.hid (show w1.heap[w.heap.size]? = some (bxW t b) from (hb.block w.heap.size (by simp)).trans (blk_new w _))
  have hz1 : w.heap.size < w1.heap.size := by have := hb.size; simp at this; omega
  have B1 := Lib.hid (box_below hb)
  have e0 := fun x => blk_cell (blk_alloc X1.out x) 0 (v := .int .i64 t) rfl
  have e1 := fun x => blk_cell (blk_alloc X1.out x) 1 (v := .int .u64 (b : Int)) rfl
  clear hb KP
  go_wp2_with fail
  refine (KR.out _).mono ?_
  rintro _ w2 ⟨rfl, hb⟩
  have G2 := (alloc_below w1 (bxW t1 b1)).trans (hb.mono (by simp))
  have X2 := Lib.hid (blk_below X1.out G2 hz1)
  have Y2 := Lib.hid (show w2.heap[w1.heap.size]? = some (bxW t1 b1) from blk_below (blk_new w1 _) hb (by simp))
  have hz2 : w1.heap.size < w2.heap.size := by have := hb.size; simp at this; omega
  have B2 := Lib.hid (B1.out.trans (G2.mono B1.out.size))
  clear hb KR e0 e1 G2
  go_wp2_with fail
  have AB := alloc_below w2 (bxW t1 b1)
  have X3 := Lib.hid (blk_below X2.out AB (Nat.lt_trans hz1 hz2))
  have Y3 := Lib.hid (blk_below Y2.out AB hz2)
  have V3 := Lib.hid (show (w2.alloc (bxW t1 b1)).heap[w2.heap.size]? = some (bxW t1 b1) from blk_new w2 _)
  have B3 := Lib.hid (B2.out.trans (AB.mono B2.out.size))
  have hz3 : w2.heap.size < (w2.alloc (bxW t1 b1)).heap.size := by simp
  have Z0 : Below (w2.alloc (bxW t1 b1)).heap.size (w2.alloc (bxW t1 b1)) (w2.alloc (bxW t1 b1)).drew := below_drewN (Below.refl _ _) 1
  clear AB X2 Y2 B2
  have HC := Lib.hid (show ∀ wy, Below (w2.alloc (bxW t1 b1)).heap.size (w2.alloc (bxW t1 b1)) wy → wy.cell? ⟨w.heap.size, 0, none⟩ = some (.int .i64 t) ∧ wy.cell? ⟨w.heap.size, 1, none⟩ = some (.int .u64 (b : Int)) ∧ wy.cell? ⟨w1.heap.size, 0, none⟩ = some (.int .i64 t1) ∧ wy.cell? ⟨w1.heap.size, 1, none⟩ = some (.int .u64 (b1 : Int)) ∧ wy.cell? ⟨w2.heap.size, 0, none⟩ = some (.int .i64 t1) ∧ wy.cell? ⟨w2.heap.size, 1, none⟩ = some (.int .u64 (b1 : Int)) from fun wy hb => by
    have a0 := blk_below X3.out hb (Nat.lt_trans hz1 (Nat.lt_trans hz2 hz3))
    have a1 := blk_below Y3.out hb (Nat.lt_trans hz2 hz3)
    have a2 := blk_below V3.out hb hz3
    exact ⟨blk_cell a0 0 rfl, blk_cell a0 1 rfl, blk_cell a1 0 rfl, blk_cell a1 1 rfl, blk_cell a2 0 rfl, blk_cell a2 1 rfl⟩)
  clear X3 Y3 V3 X1 hz3
  refine wp_region_held_drew (S := (fun wy : World => wy.cell? ⟨w.heap.size, 0, none⟩ = some (.int .i64 t) ∧ wy.cell? ⟨w.heap.size, 1, none⟩ = some (.int .u64 (b : Int)) ∧ wy.cell? ⟨w1.heap.size, 0, none⟩ = some (.int .i64 t1) ∧ wy.cell? ⟨w1.heap.size, 1, none⟩ = some (.int .u64 (b1 : Int)) ∧ wy.cell? ⟨w2.heap.size, 0, none⟩ = some (.int .i64 t1) ∧ wy.cell? ⟨w2.heap.size, 1, none⟩ = some (.int .u64 (b1 : Int)))) (by kernel_rfl) (HC.out _ Z0) (fun hHeld => ?_)
  refine wpAnyH_take (i := 0) (v := (.agg #[.int .i64 t, .int .u64 (b : Int)])) at_zero (by kernel_rfl) (by kernel_rfl) (by kernel_rfl) (fun _ _ _ h => h) (Or.inl ⟨by kernel_rfl, fun wy hSw => ?_⟩) (by assumption) ?_
  · (try dsimp only at hSw); go_simp
  try simp only [Act.put, List.setIfInBounds_toArray, List.set_cons_zero, List.set_cons_succ]
  refine wpAnyH_take (i := 2) (v := (.agg #[.int .i64 t, .int .u64 (b : Int)])) (at_succ (at_succ at_zero)) (by kernel_rfl) (by kernel_rfl) (by kernel_rfl) (fun _ _ _ h => h) (Or.inl ⟨by kernel_rfl, fun wy hSw => ?_⟩) (by assumption) ?_
  · (try dsimp only at hSw); go_simp
  try simp only [Act.put, List.setIfInBounds_toArray, List.set_cons_zero, List.set_cons_succ]
  refine wpAnyH_ready (rs := [1]) (by kernel_rfl) (by simp) ?_
  refine AllReadyH.cons (at_succ at_zero) (fun K hK => ?_) AllReadyH.nil
  rw [if_pos (by kernel_rfl)]
  go_simp
  refine (CP.out _).mono ?_
  rintro _ wz ⟨rfl, hb⟩
  have Z1 := Z0.trans (hb.mono Z0.size)
  clear hb hHeld
  go_wp2_with fail
  refine hK.out _ _ (HC.out _ Z1) (fun hHeld => ?_)
  clear hK K
  try simp only [Act.put, List.setIfInBounds_toArray, List.set_cons_zero, List.set_cons_succ]
  refine wpAnyH_ready (rs := [3]) (by kernel_rfl) (by simp) ?_
  refine AllReadyH.cons (at_succ (at_succ (at_succ at_zero))) (fun K hK => ?_) AllReadyH.nil
  rw [if_pos (by kernel_rfl)]
  go_simp
  refine (CR.out _).mono ?_
  rintro _ wz ⟨rfl, hb⟩
  have Z2 := Z1.trans (hb.mono Z1.size)
  clear hb hHeld
  go_wp2_with fail
  refine hK.out _ _ (HC.out _ Z2) (fun hHeld => ?_)
  clear hK K
  try simp only [Act.put, List.setIfInBounds_toArray, List.set_cons_zero, List.set_cons_succ]
  refine wpAnyH_take (i := 4) (v := (.bool true)) (at_succ (at_succ (at_succ (at_succ at_zero)))) (by kernel_rfl) (by kernel_rfl) (by kernel_rfl) (fun _ _ _ h => h) (Or.inl ⟨by kernel_rfl, fun wy hSw => ?_⟩) (by assumption) ?_
  · (try dsimp only at hSw); go_simp
  try simp only [Act.put, List.setIfInBounds_toArray, List.set_cons_zero, List.set_cons_succ]
  refine wpAnyH_take (i := 5) (v := (.bool true)) (at_succ (at_succ (at_succ (at_succ (at_succ at_zero))))) (by kernel_rfl) (by kernel_rfl) (by kernel_rfl) (fun _ _ _ h => h) (Or.inl ⟨by kernel_rfl, fun wy hSw => ?_⟩) (by assumption) ?_
  · (try dsimp only at hSw); go_simp
  try simp only [Act.put, List.setIfInBounds_toArray, List.set_cons_zero, List.set_cons_succ]
  refine wpAnyH_take (i := 6) (v := (.agg #[.int .i64 t1, .int .u64 (b1 : Int)])) (at_succ (at_succ (at_succ (at_succ (at_succ (at_succ at_zero)))))) (by kernel_rfl) (by kernel_rfl) (by kernel_rfl) (fun _ _ _ h => h) (Or.inl ⟨by kernel_rfl, fun wy hSw => ?_⟩) (by assumption) ?_
  · (try dsimp only at hSw); go_simp
  try simp only [Act.put, List.setIfInBounds_toArray, List.set_cons_zero, List.set_cons_succ]
  refine wpAnyH_take (i := 7) (v := (.agg #[.int .i64 t1, .int .u64 (b1 : Int)])) (at_succ (at_succ (at_succ (at_succ (at_succ (at_succ (at_succ at_zero))))))) (by kernel_rfl) (by kernel_rfl) (by kernel_rfl) (fun _ _ _ h => h) (Or.inl ⟨by kernel_rfl, fun wy hSw => ?_⟩) (by assumption) ?_
  · (try dsimp only at hSw); go_simp
  try simp only [Act.put, List.setIfInBounds_toArray, List.set_cons_zero, List.set_cons_succ]
  refine wpAnyH_take (i := 8) (v := (.bool true)) (at_succ (at_succ (at_succ (at_succ (at_succ (at_succ (at_succ (at_succ at_zero)))))))) (by kernel_rfl) (by kernel_rfl) (by kernel_rfl) (fun _ _ _ h => h) (Or.inl ⟨by kernel_rfl, fun wy hSw => ?_⟩) (by assumption) ?_
  · (try dsimp only at hSw); go_simp
  try simp only [Act.put, List.setIfInBounds_toArray, List.set_cons_zero, List.set_cons_succ]
  refine wpAnyH_take (i := 9) (v := (.bool true)) (at_succ (at_succ (at_succ (at_succ (at_succ (at_succ (at_succ (at_succ (at_succ at_zero))))))))) (by kernel_rfl) (by kernel_rfl) (by kernel_rfl) (fun _ _ _ h => h) (Or.inl ⟨by kernel_rfl, fun wy hSw => ?_⟩) (by assumption) ?_
  · (try dsimp only at hSw); go_simp
  try simp only [Act.put, List.setIfInBounds_toArray, List.set_cons_zero, List.set_cons_succ]
  refine wpAnyH_take (i := 10) (v := (.bool true)) (at_succ (at_succ (at_succ (at_succ (at_succ (at_succ (at_succ (at_succ (at_succ (at_succ at_zero)))))))))) (by kernel_rfl) (by kernel_rfl) (by kernel_rfl) (fun _ _ _ h => h) (Or.inl ⟨by kernel_rfl, fun wy hSw => ?_⟩) (by assumption) ?_
  · (try dsimp only at hSw); go_simp
  try simp only [Act.put, List.setIfInBounds_toArray, List.set_cons_zero, List.set_cons_succ]
  refine wpAnyH_take (i := 11) (v := (.bool ok)) (at_succ (at_succ (at_succ (at_succ (at_succ (at_succ (at_succ (at_succ (at_succ (at_succ (at_succ at_zero))))))))))) (by kernel_rfl) (by kernel_rfl) (by kernel_rfl) (fun _ _ _ h => h) (Or.inl ⟨by kernel_rfl, fun wy hSw => ?_⟩) (by assumption) ?_
  · (try dsimp only at hSw); go_simp
  try simp only [Act.put, List.setIfInBounds_toArray, List.set_cons_zero, List.set_cons_succ]
  refine wpAnyH_take (i := 12) (v := (.bool ok)) (at_succ (at_succ (at_succ (at_succ (at_succ (at_succ (at_succ (at_succ (at_succ (at_succ (at_succ (at_succ at_zero)))))))))))) (by kernel_rfl) (by kernel_rfl) (by kernel_rfl) (fun _ _ _ h => h) (Or.inl ⟨by kernel_rfl, fun wy hSw => ?_⟩) (by assumption) ?_
  · (try dsimp only at hSw); go_simp
  try simp only [Act.put, List.setIfInBounds_toArray, List.set_cons_zero, List.set_cons_succ]
  refine wpAnyH_take (i := 13) (v := (.bool true)) (at_succ (at_succ (at_succ (at_succ (at_succ (at_succ (at_succ (at_succ (at_succ (at_succ (at_succ (at_succ (at_succ at_zero))))))))))))) (by kernel_rfl) (by kernel_rfl) (by kernel_rfl) (fun _ _ _ h => h) (Or.inl ⟨by kernel_rfl, fun wy hSw => ?_⟩) (by assumption) ?_
  · (try dsimp only at hSw); go_simp
  try simp only [Act.put, List.setIfInBounds_toArray, List.set_cons_zero, List.set_cons_succ]
  refine wpAnyH_take (i := 14) (v := (.bool true)) (at_succ (at_succ (at_succ (at_succ (at_succ (at_succ (at_succ (at_succ (at_succ (at_succ (at_succ (at_succ (at_succ (at_succ at_zero)))))))))))))) (by kernel_rfl) (by kernel_rfl) (by kernel_rfl) (fun _ _ _ h => h) (Or.inl ⟨by kernel_rfl, fun wy hSw => ?_⟩) (by assumption) ?_
  · (try dsimp only at hSw); go_simp
  try simp only [Act.put, List.setIfInBounds_toArray, List.set_cons_zero, List.set_cons_succ]
  refine wpAnyH_take (i := 15) (v := (.bool true)) (at_succ (at_succ (at_succ (at_succ (at_succ (at_succ (at_succ (at_succ (at_succ (at_succ (at_succ (at_succ (at_succ (at_succ (at_succ at_zero))))))))))))))) (by kernel_rfl) (by kernel_rfl) (by kernel_rfl) (fun _ _ _ h => h) (Or.inl ⟨by kernel_rfl, fun wy hSw => ?_⟩) (by assumption) ?_
  · (try dsimp only at hSw); go_simp
  try simp only [Act.put, List.setIfInBounds_toArray, List.set_cons_zero, List.set_cons_succ]
  refine wpAnyH_ready (rs := [16]) (by kernel_rfl) (by simp) ?_
  refine AllReadyH.cons (at_succ (at_succ (at_succ (at_succ (at_succ (at_succ (at_succ (at_succ (at_succ (at_succ (at_succ (at_succ (at_succ (at_succ (at_succ (at_succ at_zero)))))))))))))))) (fun K hK => ?_) AllReadyH.nil
  rw [if_pos (by kernel_rfl)]
  go_simp
  refine (KL.out _).mono ?_
  rintro _ wz ⟨rfl, hb⟩
  have Z3 := Z2.trans (hb.mono Z2.size)
  clear hb hHeld
  go_wp2_with fail
  refine hK.out _ _ (HC.out _ Z3) (fun hHeld => ?_)
  clear hK K
  try simp only [Act.put, List.setIfInBounds_toArray, List.set_cons_zero, List.set_cons_succ]
  refine wpAnyH_take (i := 17) (v := (.bool true)) (at_succ (at_succ (at_succ (at_succ (at_succ (at_succ (at_succ (at_succ (at_succ (at_succ (at_succ (at_succ (at_succ (at_succ (at_succ (at_succ (at_succ at_zero))))))))))))))))) (by kernel_rfl) (by kernel_rfl) (by kernel_rfl) (fun _ _ _ h => h) (Or.inl ⟨by kernel_rfl, fun wy hSw => ?_⟩) (by assumption) ?_
  · (try dsimp only at hSw); go_simp
  try simp only [Act.put, List.setIfInBounds_toArray, List.set_cons_zero, List.set_cons_succ]
  refine wpAnyH_take (i := 18) (v := (.bool true)) (at_succ (at_succ (at_succ (at_succ (at_succ (at_succ (at_succ (at_succ (at_succ (at_succ (at_succ (at_succ (at_succ (at_succ (at_succ (at_succ (at_succ (at_succ at_zero)))))))))))))))))) (by kernel_rfl) (by kernel_rfl) (by kernel_rfl) (fun _ _ _ h => h) (Or.inl ⟨by kernel_rfl, fun wy hSw => ?_⟩) (by assumption) ?_
  · (try dsimp only at hSw); go_simp
  try simp only [Act.put, List.setIfInBounds_toArray, List.set_cons_zero, List.set_cons_succ]
  refine wpAnyH_done (by kernel_rfl) ?_ _
  go_wp2_with fail
  go_ret
  exact outB rfl (B3.out.trans (Z3.mono B3.out.size))
end Go.Proofs.Yticlcjabhemdiaa.Rpl
