/- Package replay: Check. -/
import Derived.Test.YticlcjabhemdiaaYX1
import Derived.Deep.RegionHeld3
set_option linter.unusedVariables false
namespace Go.Proofs.Yticlcjabhemdiaa.Rpl
open Go.RowKit

theorem xat_zero {o : Oper} {r : List Oper} : (o :: r).toArray[0]? = some o := rfl
theorem xat_succ {x o : Oper} {r : List Oper} {n : Nat} (h : r.toArray[n]? = some o) : (x :: r).toArray[n + 1]? = some o := by simpa using h
set_option maxRecDepth 100000 in
set_option maxHeartbeats 2000000 in
theorem pcheck_any (t : Int) (b : Nat) (W : World) (hb : b < 18446744073709551616) :
    Calls Try.prog 11 #[.agg #[.int .i64 t, .int .u64 (b : Int)]] W (OutI W (chk (t, b))) := by
  have KN := Lib.hid (fun W => pnew_any W)
  have KI := Lib.hid (fun W => pnum_any t W)
  have KT := Lib.hid (fun W => ptop_any t b W hb)
  unfold OutB at KT
  have HB := Lib.hid hb
  clear hb
  by_cases hn : t = -1 ∧ b = 0
  · have R := Lib.hid (show chk (t, b) = 0 from if_pos (Or.inl hn))
    have HN := Lib.hid hn
    clear HB KI KT hn
    go_enter Try.func11, Try.ntmps11
    go_wp2_with fail
    obtain ⟨w0, hw0⟩ : ∃ w0, w0 = W.alloc (bxW t b) := ⟨_, rfl⟩
    have X0 : w0.drew.heap[W.heap.size]? = some (bxW t b) := by rw [hw0]; exact blk_new W _
    have B0 : Below W.heap.size W w0.drew := by rw [hw0]; exact below_drewN (alloc_below W _) 1
    have z0 : W.heap.size < w0.drew.heap.size := (Array.getElem?_eq_some_iff.1 X0).1
    have S0 : w0.drew.cell? ⟨W.heap.size, 0, none⟩ = some (.int .i64 t) ∧ w0.drew.cell? ⟨W.heap.size, 1, none⟩ = some (.int .u64 (b : Int)) := ⟨blk_cell X0 0 rfl, blk_cell X0 1 rfl⟩
    rw [← hw0]
    clear hw0
    refine wp_region_held_drew (S := (fun wy : World => wy.cell? ⟨W.heap.size, 0, none⟩ = some (.int .i64 t) ∧ wy.cell? ⟨W.heap.size, 1, none⟩ = some (.int .u64 (b : Int)))) (by kernel_rfl) (S0) (fun hHeld => ?_)
    refine wpAnyH_take (i := 0) (v := (.agg #[.int .i64 t, .int .u64 (b : Int)])) xat_zero (by kernel_rfl) (by kernel_rfl) (by kernel_rfl) (fun _ _ _ h => h) (Or.inl ⟨by kernel_rfl, fun wy hSw => ?_⟩) (by assumption) ?_
    · (try dsimp only at hSw); go_simp
    try simp only [Act.put, List.setIfInBounds_toArray, List.set_cons_zero, List.set_cons_succ]
    refine wpAnyH_ready (rs := [1]) (by kernel_rfl) (by simp) ?_
    refine AllReadyH.cons (xat_succ xat_zero) (fun K hK => ?_) AllReadyH.nil
    rw [if_pos (by kernel_rfl)]
    go_simp
    refine (KN.out _).mono ?_
    rintro _ w1 ⟨rfl, hb⟩
    have X1 := blk_below X0 hb z0
    have B1 := B0.trans (hb.mono B0.size)
    have z1 := Nat.lt_of_lt_of_le z0 hb.size
    have S1 : w1.cell? ⟨W.heap.size, 0, none⟩ = some (.int .i64 t) ∧ w1.cell? ⟨W.heap.size, 1, none⟩ = some (.int .u64 (b : Int)) := ⟨blk_cell X1 0 rfl, blk_cell X1 1 rfl⟩
    clear hb hHeld X0 B0 z0 S0
    go_wp2_with fail
    refine hK.out _ _ (S1) (fun hHeld => ?_)
    clear hK K
    try simp only [Act.put, List.setIfInBounds_toArray, List.set_cons_zero, List.set_cons_succ]
    refine wpAnyH_take (i := 2) (v := (.bool true)) (xat_succ (xat_succ xat_zero)) (by kernel_rfl) (by kernel_rfl) (by kernel_rfl) (fun _ _ _ h => h) (Or.inl ⟨by kernel_rfl, fun wy hSw => ?_⟩) (by assumption) ?_
    · (try dsimp only at hSw); go_simp; rw [if_pos HN.out.1, if_pos HN.out.2]
    try simp only [Act.put, List.setIfInBounds_toArray, List.set_cons_zero, List.set_cons_succ]
    refine wpAnyH_take (i := 3) (v := (.bool true)) (xat_succ (xat_succ (xat_succ xat_zero))) (by kernel_rfl) (by kernel_rfl) (by kernel_rfl) (fun _ _ _ h => h) (Or.inl ⟨by kernel_rfl, fun wy hSw => ?_⟩) (by assumption) ?_
    · (try dsimp only at hSw); go_simp
    try simp only [Act.put, List.setIfInBounds_toArray, List.set_cons_zero, List.set_cons_succ]
    refine wpAnyH_take (i := 4) (v := undef) (xat_succ (xat_succ (xat_succ (xat_succ xat_zero)))) (by kernel_rfl) (by kernel_rfl) (by kernel_rfl) (fun _ _ _ h => h) (Or.inr ⟨by kernel_rfl, rfl⟩) (by assumption) ?_
    try simp only [Act.put, List.setIfInBounds_toArray, List.set_cons_zero, List.set_cons_succ]
    refine wpAnyH_take (i := 5) (v := undef) (xat_succ (xat_succ (xat_succ (xat_succ (xat_succ xat_zero))))) (by kernel_rfl) (by kernel_rfl) (by kernel_rfl) (fun _ _ _ h => h) (Or.inr ⟨by kernel_rfl, rfl⟩) (by assumption) ?_
    try simp only [Act.put, List.setIfInBounds_toArray, List.set_cons_zero, List.set_cons_succ]
    refine wpAnyH_take (i := 6) (v := undef) (xat_succ (xat_succ (xat_succ (xat_succ (xat_succ (xat_succ xat_zero)))))) (by kernel_rfl) (by kernel_rfl) (by kernel_rfl) (fun _ _ _ h => h) (Or.inr ⟨by kernel_rfl, rfl⟩) (by assumption) ?_
    try simp only [Act.put, List.setIfInBounds_toArray, List.set_cons_zero, List.set_cons_succ]
    refine wpAnyH_take (i := 7) (v := undef) (xat_succ (xat_succ (xat_succ (xat_succ (xat_succ (xat_succ (xat_succ xat_zero))))))) (by kernel_rfl) (by kernel_rfl) (by kernel_rfl) (fun _ _ _ h => h) (Or.inr ⟨by kernel_rfl, rfl⟩) (by assumption) ?_
    try simp only [Act.put, List.setIfInBounds_toArray, List.set_cons_zero, List.set_cons_succ]
    refine wpAnyH_take (i := 8) (v := undef) (xat_succ (xat_succ (xat_succ (xat_succ (xat_succ (xat_succ (xat_succ (xat_succ xat_zero)))))))) (by kernel_rfl) (by kernel_rfl) (by kernel_rfl) (fun _ _ _ h => h) (Or.inr ⟨by kernel_rfl, rfl⟩) (by assumption) ?_
    try simp only [Act.put, List.setIfInBounds_toArray, List.set_cons_zero, List.set_cons_succ]
    refine wpAnyH_take (i := 9) (v := undef) (xat_succ (xat_succ (xat_succ (xat_succ (xat_succ (xat_succ (xat_succ (xat_succ (xat_succ xat_zero))))))))) (by kernel_rfl) (by kernel_rfl) (by kernel_rfl) (fun _ _ _ h => h) (Or.inr ⟨by kernel_rfl, rfl⟩) (by assumption) ?_
    try simp only [Act.put, List.setIfInBounds_toArray, List.set_cons_zero, List.set_cons_succ]
    refine wpAnyH_take (i := 10) (v := undef) (xat_succ (xat_succ (xat_succ (xat_succ (xat_succ (xat_succ (xat_succ (xat_succ (xat_succ (xat_succ xat_zero)))))))))) (by kernel_rfl) (by kernel_rfl) (by kernel_rfl) (fun _ _ _ h => h) (Or.inr ⟨by kernel_rfl, rfl⟩) (by assumption) ?_
    try simp only [Act.put, List.setIfInBounds_toArray, List.set_cons_zero, List.set_cons_succ]
    refine wpAnyH_take (i := 11) (v := undef) (xat_succ (xat_succ (xat_succ (xat_succ (xat_succ (xat_succ (xat_succ (xat_succ (xat_succ (xat_succ (xat_succ xat_zero))))))))))) (by kernel_rfl) (by kernel_rfl) (by kernel_rfl) (fun _ _ _ h => h) (Or.inr ⟨by kernel_rfl, rfl⟩) (by assumption) ?_
    try simp only [Act.put, List.setIfInBounds_toArray, List.set_cons_zero, List.set_cons_succ]
    refine wpAnyH_take (i := 12) (v := undef) (xat_succ (xat_succ (xat_succ (xat_succ (xat_succ (xat_succ (xat_succ (xat_succ (xat_succ (xat_succ (xat_succ (xat_succ xat_zero)))))))))))) (by kernel_rfl) (by kernel_rfl) (by kernel_rfl) (fun _ _ _ h => h) (Or.inr ⟨by kernel_rfl, rfl⟩) (by assumption) ?_
    try simp only [Act.put, List.setIfInBounds_toArray, List.set_cons_zero, List.set_cons_succ]
    refine wpAnyH_take (i := 13) (v := undef) (xat_succ (xat_succ (xat_succ (xat_succ (xat_succ (xat_succ (xat_succ (xat_succ (xat_succ (xat_succ (xat_succ (xat_succ (xat_succ xat_zero))))))))))))) (by kernel_rfl) (by kernel_rfl) (by kernel_rfl) (fun _ _ _ h => h) (Or.inr ⟨by kernel_rfl, rfl⟩) (by assumption) ?_
    try simp only [Act.put, List.setIfInBounds_toArray, List.set_cons_zero, List.set_cons_succ]
    refine wpAnyH_take (i := 14) (v := undef) (xat_succ (xat_succ (xat_succ (xat_succ (xat_succ (xat_succ (xat_succ (xat_succ (xat_succ (xat_succ (xat_succ (xat_succ (xat_succ (xat_succ xat_zero)))))))))))))) (by kernel_rfl) (by kernel_rfl) (by kernel_rfl) (fun _ _ _ h => h) (Or.inr ⟨by kernel_rfl, rfl⟩) (by assumption) ?_
    try simp only [Act.put, List.setIfInBounds_toArray, List.set_cons_zero, List.set_cons_succ]
    refine wpAnyH_take (i := 15) (v := (.bool true)) (xat_succ (xat_succ (xat_succ (xat_succ (xat_succ (xat_succ (xat_succ (xat_succ (xat_succ (xat_succ (xat_succ (xat_succ (xat_succ (xat_succ (xat_succ xat_zero))))))))))))))) (by kernel_rfl) (by kernel_rfl) (by kernel_rfl) (fun _ _ _ h => h) (Or.inl ⟨by kernel_rfl, fun wy hSw => ?_⟩) (by assumption) ?_
    · (try dsimp only at hSw); go_simp
    try simp only [Act.put, List.setIfInBounds_toArray, List.set_cons_zero, List.set_cons_succ]
    refine wpAnyH_done (by kernel_rfl) ?_ _
    have BZ := Lib.hid B1
    clear B1 X1 S1 z1
    try clear hHeld
    go_wp2_with fail
    go_ret
    exact outI R.out.symm BZ.out
  have HN := Lib.hid (show t = -1 → ¬ b = 0 from fun a c => hn ⟨a, c⟩)
  by_cases hi : In t
  rotate_left
  · have R := Lib.hid (show chk (t, b) = 2 from if_neg fun h => h.elim (fun h => hn h) (fun h => hi ⟨h.1, h.2.1⟩))
    rw [df hi] at KI
    clear HB KT hn hi
    go_enter Try.func11, Try.ntmps11
    go_wp2_with fail
    obtain ⟨w0, hw0⟩ : ∃ w0, w0 = W.alloc (bxW t b) := ⟨_, rfl⟩
    have X0 : w0.drew.heap[W.heap.size]? = some (bxW t b) := by rw [hw0]; exact blk_new W _
    have B0 : Below W.heap.size W w0.drew := by rw [hw0]; exact below_drewN (alloc_below W _) 1
    have z0 : W.heap.size < w0.drew.heap.size := (Array.getElem?_eq_some_iff.1 X0).1
    have S0 : w0.drew.cell? ⟨W.heap.size, 0, none⟩ = some (.int .i64 t) ∧ w0.drew.cell? ⟨W.heap.size, 1, none⟩ = some (.int .u64 (b : Int)) := ⟨blk_cell X0 0 rfl, blk_cell X0 1 rfl⟩
    rw [← hw0]
    clear hw0
    refine wp_region_held_drew (S := (fun wy : World => wy.cell? ⟨W.heap.size, 0, none⟩ = some (.int .i64 t) ∧ wy.cell? ⟨W.heap.size, 1, none⟩ = some (.int .u64 (b : Int)))) (by kernel_rfl) (S0) (fun hHeld => ?_)
    refine wpAnyH_take (i := 0) (v := (.agg #[.int .i64 t, .int .u64 (b : Int)])) xat_zero (by kernel_rfl) (by kernel_rfl) (by kernel_rfl) (fun _ _ _ h => h) (Or.inl ⟨by kernel_rfl, fun wy hSw => ?_⟩) (by assumption) ?_
    · (try dsimp only at hSw); go_simp
    try simp only [Act.put, List.setIfInBounds_toArray, List.set_cons_zero, List.set_cons_succ]
    refine wpAnyH_ready (rs := [1]) (by kernel_rfl) (by simp) ?_
    refine AllReadyH.cons (xat_succ xat_zero) (fun K hK => ?_) AllReadyH.nil
    rw [if_pos (by kernel_rfl)]
    go_simp
    refine (KN.out _).mono ?_
    rintro _ w1 ⟨rfl, hb⟩
    have X1 := blk_below X0 hb z0
    have B1 := B0.trans (hb.mono B0.size)
    have z1 := Nat.lt_of_lt_of_le z0 hb.size
    have S1 : w1.cell? ⟨W.heap.size, 0, none⟩ = some (.int .i64 t) ∧ w1.cell? ⟨W.heap.size, 1, none⟩ = some (.int .u64 (b : Int)) := ⟨blk_cell X1 0 rfl, blk_cell X1 1 rfl⟩
    clear hb hHeld X0 B0 z0 S0
    go_wp2_with fail
    refine hK.out _ _ (S1) (fun hHeld => ?_)
    clear hK K
    try simp only [Act.put, List.setIfInBounds_toArray, List.set_cons_zero, List.set_cons_succ]
    refine wpAnyH_take (i := 2) (v := (.bool false)) (xat_succ (xat_succ xat_zero)) (by kernel_rfl) (by kernel_rfl) (by kernel_rfl) (fun _ _ _ h => h) (Or.inl ⟨by kernel_rfl, fun wy hSw => ?_⟩) (by assumption) ?_
    · (try dsimp only at hSw); go_simp; exact HN.out
    try simp only [Act.put, List.setIfInBounds_toArray, List.set_cons_zero, List.set_cons_succ]
    refine wpAnyH_take (i := 3) (v := (.bool false)) (xat_succ (xat_succ (xat_succ xat_zero))) (by kernel_rfl) (by kernel_rfl) (by kernel_rfl) (fun _ _ _ h => h) (Or.inl ⟨by kernel_rfl, fun wy hSw => ?_⟩) (by assumption) ?_
    · (try dsimp only at hSw); go_simp
    try simp only [Act.put, List.setIfInBounds_toArray, List.set_cons_zero, List.set_cons_succ]
    refine wpAnyH_take (i := 4) (v := (.pointer (some ⟨W.heap.size, 0, none⟩))) (xat_succ (xat_succ (xat_succ (xat_succ xat_zero)))) (by kernel_rfl) (by kernel_rfl) (by kernel_rfl) (fun _ _ _ h => h) (Or.inl ⟨by kernel_rfl, fun wy hSw => ?_⟩) (by assumption) ?_
    · (try dsimp only at hSw); go_simp
    try simp only [Act.put, List.setIfInBounds_toArray, List.set_cons_zero, List.set_cons_succ]
    refine wpAnyH_take (i := 5) (v := (.int .i64 t)) (xat_succ (xat_succ (xat_succ (xat_succ (xat_succ xat_zero))))) (by kernel_rfl) (by kernel_rfl) (by kernel_rfl) (fun _ _ _ h => h) (Or.inl ⟨by kernel_rfl, fun wy hSw => ?_⟩) (by assumption) ?_
    · (try dsimp only at hSw); go_simp
    try simp only [Act.put, List.setIfInBounds_toArray, List.set_cons_zero, List.set_cons_succ]
    refine wpAnyH_ready (rs := [6]) (by kernel_rfl) (by simp) ?_
    refine AllReadyH.cons (xat_succ (xat_succ (xat_succ (xat_succ (xat_succ (xat_succ xat_zero)))))) (fun K hK => ?_) AllReadyH.nil
    rw [if_pos (by kernel_rfl)]
    go_simp
    refine (KI.out _).mono ?_
    rintro _ wx ⟨rfl, rfl⟩
    go_wp2_with fail
    refine hK.out _ _ (S1) (fun hHeld => ?_)
    clear hK K
    try simp only [Act.put, List.setIfInBounds_toArray, List.set_cons_zero, List.set_cons_succ]
    refine wpAnyH_take (i := 7) (v := (.bool false)) (xat_succ (xat_succ (xat_succ (xat_succ (xat_succ (xat_succ (xat_succ xat_zero))))))) (by kernel_rfl) (by kernel_rfl) (by kernel_rfl) (fun _ _ _ h => h) (Or.inl ⟨by kernel_rfl, fun wy hSw => ?_⟩) (by assumption) ?_
    · (try dsimp only at hSw); go_simp
    try simp only [Act.put, List.setIfInBounds_toArray, List.set_cons_zero, List.set_cons_succ]
    refine wpAnyH_take (i := 8) (v := undef) (xat_succ (xat_succ (xat_succ (xat_succ (xat_succ (xat_succ (xat_succ (xat_succ xat_zero)))))))) (by kernel_rfl) (by kernel_rfl) (by kernel_rfl) (fun _ _ _ h => h) (Or.inr ⟨by kernel_rfl, rfl⟩) (by assumption) ?_
    try simp only [Act.put, List.setIfInBounds_toArray, List.set_cons_zero, List.set_cons_succ]
    refine wpAnyH_take (i := 9) (v := undef) (xat_succ (xat_succ (xat_succ (xat_succ (xat_succ (xat_succ (xat_succ (xat_succ (xat_succ xat_zero))))))))) (by kernel_rfl) (by kernel_rfl) (by kernel_rfl) (fun _ _ _ h => h) (Or.inr ⟨by kernel_rfl, rfl⟩) (by assumption) ?_
    try simp only [Act.put, List.setIfInBounds_toArray, List.set_cons_zero, List.set_cons_succ]
    refine wpAnyH_take (i := 10) (v := (.bool false)) (xat_succ (xat_succ (xat_succ (xat_succ (xat_succ (xat_succ (xat_succ (xat_succ (xat_succ (xat_succ xat_zero)))))))))) (by kernel_rfl) (by kernel_rfl) (by kernel_rfl) (fun _ _ _ h => h) (Or.inl ⟨by kernel_rfl, fun wy hSw => ?_⟩) (by assumption) ?_
    · (try dsimp only at hSw); go_simp
    try simp only [Act.put, List.setIfInBounds_toArray, List.set_cons_zero, List.set_cons_succ]
    refine wpAnyH_take (i := 11) (v := (.bool false)) (xat_succ (xat_succ (xat_succ (xat_succ (xat_succ (xat_succ (xat_succ (xat_succ (xat_succ (xat_succ (xat_succ xat_zero))))))))))) (by kernel_rfl) (by kernel_rfl) (by kernel_rfl) (fun _ _ _ h => h) (Or.inl ⟨by kernel_rfl, fun wy hSw => ?_⟩) (by assumption) ?_
    · (try dsimp only at hSw); go_simp
    try simp only [Act.put, List.setIfInBounds_toArray, List.set_cons_zero, List.set_cons_succ]
    refine wpAnyH_take (i := 12) (v := undef) (xat_succ (xat_succ (xat_succ (xat_succ (xat_succ (xat_succ (xat_succ (xat_succ (xat_succ (xat_succ (xat_succ (xat_succ xat_zero)))))))))))) (by kernel_rfl) (by kernel_rfl) (by kernel_rfl) (fun _ _ _ h => h) (Or.inr ⟨by kernel_rfl, rfl⟩) (by assumption) ?_
    try simp only [Act.put, List.setIfInBounds_toArray, List.set_cons_zero, List.set_cons_succ]
    refine wpAnyH_take (i := 13) (v := undef) (xat_succ (xat_succ (xat_succ (xat_succ (xat_succ (xat_succ (xat_succ (xat_succ (xat_succ (xat_succ (xat_succ (xat_succ (xat_succ xat_zero))))))))))))) (by kernel_rfl) (by kernel_rfl) (by kernel_rfl) (fun _ _ _ h => h) (Or.inr ⟨by kernel_rfl, rfl⟩) (by assumption) ?_
    try simp only [Act.put, List.setIfInBounds_toArray, List.set_cons_zero, List.set_cons_succ]
    refine wpAnyH_take (i := 14) (v := (.bool false)) (xat_succ (xat_succ (xat_succ (xat_succ (xat_succ (xat_succ (xat_succ (xat_succ (xat_succ (xat_succ (xat_succ (xat_succ (xat_succ (xat_succ xat_zero)))))))))))))) (by kernel_rfl) (by kernel_rfl) (by kernel_rfl) (fun _ _ _ h => h) (Or.inl ⟨by kernel_rfl, fun wy hSw => ?_⟩) (by assumption) ?_
    · (try dsimp only at hSw); go_simp
    try simp only [Act.put, List.setIfInBounds_toArray, List.set_cons_zero, List.set_cons_succ]
    refine wpAnyH_take (i := 15) (v := (.bool false)) (xat_succ (xat_succ (xat_succ (xat_succ (xat_succ (xat_succ (xat_succ (xat_succ (xat_succ (xat_succ (xat_succ (xat_succ (xat_succ (xat_succ (xat_succ xat_zero))))))))))))))) (by kernel_rfl) (by kernel_rfl) (by kernel_rfl) (fun _ _ _ h => h) (Or.inl ⟨by kernel_rfl, fun wy hSw => ?_⟩) (by assumption) ?_
    · (try dsimp only at hSw); go_simp
    try simp only [Act.put, List.setIfInBounds_toArray, List.set_cons_zero, List.set_cons_succ]
    refine wpAnyH_done (by kernel_rfl) ?_ _
    have BZ := Lib.hid B1
    clear B1 X1 S1 z1
    try clear hHeld
    go_wp2_with fail
    go_ret
    exact outI R.out.symm BZ.out
  rw [dt hi] at KI
  have KG := Lib.hid (fun W => pneg_any t b W HB.out hi)
  unfold OutB at KG
  clear HB
  by_cases ht : b.testBit 0 = true
  rotate_left
  · have R := Lib.hid (show chk (t, b) = 2 from if_neg fun h => h.elim (fun h => hn h) (fun h => ht h.2.2.1))
    rw [show b.testBit 0 = false by simpa using ht] at KT
    clear KG hn hi ht
    go_enter Try.func11, Try.ntmps11
    go_wp2_with fail
    obtain ⟨w0, hw0⟩ : ∃ w0, w0 = W.alloc (bxW t b) := ⟨_, rfl⟩
    have X0 : w0.drew.heap[W.heap.size]? = some (bxW t b) := by rw [hw0]; exact blk_new W _
    have B0 : Below W.heap.size W w0.drew := by rw [hw0]; exact below_drewN (alloc_below W _) 1
    have z0 : W.heap.size < w0.drew.heap.size := (Array.getElem?_eq_some_iff.1 X0).1
    have S0 : w0.drew.cell? ⟨W.heap.size, 0, none⟩ = some (.int .i64 t) ∧ w0.drew.cell? ⟨W.heap.size, 1, none⟩ = some (.int .u64 (b : Int)) := ⟨blk_cell X0 0 rfl, blk_cell X0 1 rfl⟩
    rw [← hw0]
    clear hw0
    refine wp_region_held_drew (S := (fun wy : World => wy.cell? ⟨W.heap.size, 0, none⟩ = some (.int .i64 t) ∧ wy.cell? ⟨W.heap.size, 1, none⟩ = some (.int .u64 (b : Int)))) (by kernel_rfl) (S0) (fun hHeld => ?_)
    refine wpAnyH_take (i := 0) (v := (.agg #[.int .i64 t, .int .u64 (b : Int)])) xat_zero (by kernel_rfl) (by kernel_rfl) (by kernel_rfl) (fun _ _ _ h => h) (Or.inl ⟨by kernel_rfl, fun wy hSw => ?_⟩) (by assumption) ?_
    · (try dsimp only at hSw); go_simp
    try simp only [Act.put, List.setIfInBounds_toArray, List.set_cons_zero, List.set_cons_succ]
    refine wpAnyH_ready (rs := [1]) (by kernel_rfl) (by simp) ?_
    refine AllReadyH.cons (xat_succ xat_zero) (fun K hK => ?_) AllReadyH.nil
    rw [if_pos (by kernel_rfl)]
    go_simp
    refine (KN.out _).mono ?_
    rintro _ w1 ⟨rfl, hb⟩
    have X1 := blk_below X0 hb z0
    have B1 := B0.trans (hb.mono B0.size)
    have z1 := Nat.lt_of_lt_of_le z0 hb.size
    have S1 : w1.cell? ⟨W.heap.size, 0, none⟩ = some (.int .i64 t) ∧ w1.cell? ⟨W.heap.size, 1, none⟩ = some (.int .u64 (b : Int)) := ⟨blk_cell X1 0 rfl, blk_cell X1 1 rfl⟩
    clear hb hHeld X0 B0 z0 S0
    go_wp2_with fail
    refine hK.out _ _ (S1) (fun hHeld => ?_)
    clear hK K
    try simp only [Act.put, List.setIfInBounds_toArray, List.set_cons_zero, List.set_cons_succ]
    refine wpAnyH_take (i := 2) (v := (.bool false)) (xat_succ (xat_succ xat_zero)) (by kernel_rfl) (by kernel_rfl) (by kernel_rfl) (fun _ _ _ h => h) (Or.inl ⟨by kernel_rfl, fun wy hSw => ?_⟩) (by assumption) ?_
    · (try dsimp only at hSw); go_simp; exact HN.out
    try simp only [Act.put, List.setIfInBounds_toArray, List.set_cons_zero, List.set_cons_succ]
    refine wpAnyH_take (i := 3) (v := (.bool false)) (xat_succ (xat_succ (xat_succ xat_zero))) (by kernel_rfl) (by kernel_rfl) (by kernel_rfl) (fun _ _ _ h => h) (Or.inl ⟨by kernel_rfl, fun wy hSw => ?_⟩) (by assumption) ?_
    · (try dsimp only at hSw); go_simp
    try simp only [Act.put, List.setIfInBounds_toArray, List.set_cons_zero, List.set_cons_succ]
    refine wpAnyH_take (i := 4) (v := (.pointer (some ⟨W.heap.size, 0, none⟩))) (xat_succ (xat_succ (xat_succ (xat_succ xat_zero)))) (by kernel_rfl) (by kernel_rfl) (by kernel_rfl) (fun _ _ _ h => h) (Or.inl ⟨by kernel_rfl, fun wy hSw => ?_⟩) (by assumption) ?_
    · (try dsimp only at hSw); go_simp
    try simp only [Act.put, List.setIfInBounds_toArray, List.set_cons_zero, List.set_cons_succ]
    refine wpAnyH_take (i := 5) (v := (.int .i64 t)) (xat_succ (xat_succ (xat_succ (xat_succ (xat_succ xat_zero))))) (by kernel_rfl) (by kernel_rfl) (by kernel_rfl) (fun _ _ _ h => h) (Or.inl ⟨by kernel_rfl, fun wy hSw => ?_⟩) (by assumption) ?_
    · (try dsimp only at hSw); go_simp
    try simp only [Act.put, List.setIfInBounds_toArray, List.set_cons_zero, List.set_cons_succ]
    refine wpAnyH_ready (rs := [6]) (by kernel_rfl) (by simp) ?_
    refine AllReadyH.cons (xat_succ (xat_succ (xat_succ (xat_succ (xat_succ (xat_succ xat_zero)))))) (fun K hK => ?_) AllReadyH.nil
    rw [if_pos (by kernel_rfl)]
    go_simp
    refine (KI.out _).mono ?_
    rintro _ wx ⟨rfl, rfl⟩
    go_wp2_with fail
    refine hK.out _ _ (S1) (fun hHeld => ?_)
    clear hK K
    try simp only [Act.put, List.setIfInBounds_toArray, List.set_cons_zero, List.set_cons_succ]
    refine wpAnyH_take (i := 7) (v := (.bool true)) (xat_succ (xat_succ (xat_succ (xat_succ (xat_succ (xat_succ (xat_succ xat_zero))))))) (by kernel_rfl) (by kernel_rfl) (by kernel_rfl) (fun _ _ _ h => h) (Or.inl ⟨by kernel_rfl, fun wy hSw => ?_⟩) (by assumption) ?_
    · (try dsimp only at hSw); go_simp
    try simp only [Act.put, List.setIfInBounds_toArray, List.set_cons_zero, List.set_cons_succ]
    refine wpAnyH_take (i := 8) (v := (.agg #[.int .i64 t, .int .u64 (b : Int)])) (xat_succ (xat_succ (xat_succ (xat_succ (xat_succ (xat_succ (xat_succ (xat_succ xat_zero)))))))) (by kernel_rfl) (by kernel_rfl) (by kernel_rfl) (fun _ _ _ h => h) (Or.inl ⟨by kernel_rfl, fun wy hSw => ?_⟩) (by assumption) ?_
    · (try dsimp only at hSw); go_simp
    try simp only [Act.put, List.setIfInBounds_toArray, List.set_cons_zero, List.set_cons_succ]
    refine wpAnyH_ready (rs := [9]) (by kernel_rfl) (by simp) ?_
    refine AllReadyH.cons (xat_succ (xat_succ (xat_succ (xat_succ (xat_succ (xat_succ (xat_succ (xat_succ (xat_succ xat_zero))))))))) (fun K hK => ?_) AllReadyH.nil
    rw [if_pos (by kernel_rfl)]
    go_simp
    refine (KT.out _).mono ?_
    rintro _ w2 ⟨rfl, hb⟩
    have X2 := blk_below X1 hb z1
    have B2 := B1.trans (hb.mono B1.size)
    have z2 := Nat.lt_of_lt_of_le z1 hb.size
    have S2 : w2.cell? ⟨W.heap.size, 0, none⟩ = some (.int .i64 t) ∧ w2.cell? ⟨W.heap.size, 1, none⟩ = some (.int .u64 (b : Int)) := ⟨blk_cell X2 0 rfl, blk_cell X2 1 rfl⟩
    clear hb hHeld X1 B1 z1 S1
    go_wp2_with fail
    refine hK.out _ _ (S2) (fun hHeld => ?_)
    clear hK K
    try simp only [Act.put, List.setIfInBounds_toArray, List.set_cons_zero, List.set_cons_succ]
    refine wpAnyH_take (i := 10) (v := (.bool false)) (xat_succ (xat_succ (xat_succ (xat_succ (xat_succ (xat_succ (xat_succ (xat_succ (xat_succ (xat_succ xat_zero)))))))))) (by kernel_rfl) (by kernel_rfl) (by kernel_rfl) (fun _ _ _ h => h) (Or.inl ⟨by kernel_rfl, fun wy hSw => ?_⟩) (by assumption) ?_
    · (try dsimp only at hSw); go_simp
    try simp only [Act.put, List.setIfInBounds_toArray, List.set_cons_zero, List.set_cons_succ]
    refine wpAnyH_take (i := 11) (v := (.bool false)) (xat_succ (xat_succ (xat_succ (xat_succ (xat_succ (xat_succ (xat_succ (xat_succ (xat_succ (xat_succ (xat_succ xat_zero))))))))))) (by kernel_rfl) (by kernel_rfl) (by kernel_rfl) (fun _ _ _ h => h) (Or.inl ⟨by kernel_rfl, fun wy hSw => ?_⟩) (by assumption) ?_
    · (try dsimp only at hSw); go_simp
    try simp only [Act.put, List.setIfInBounds_toArray, List.set_cons_zero, List.set_cons_succ]
    refine wpAnyH_take (i := 12) (v := undef) (xat_succ (xat_succ (xat_succ (xat_succ (xat_succ (xat_succ (xat_succ (xat_succ (xat_succ (xat_succ (xat_succ (xat_succ xat_zero)))))))))))) (by kernel_rfl) (by kernel_rfl) (by kernel_rfl) (fun _ _ _ h => h) (Or.inr ⟨by kernel_rfl, rfl⟩) (by assumption) ?_
    try simp only [Act.put, List.setIfInBounds_toArray, List.set_cons_zero, List.set_cons_succ]
    refine wpAnyH_take (i := 13) (v := undef) (xat_succ (xat_succ (xat_succ (xat_succ (xat_succ (xat_succ (xat_succ (xat_succ (xat_succ (xat_succ (xat_succ (xat_succ (xat_succ xat_zero))))))))))))) (by kernel_rfl) (by kernel_rfl) (by kernel_rfl) (fun _ _ _ h => h) (Or.inr ⟨by kernel_rfl, rfl⟩) (by assumption) ?_
    try simp only [Act.put, List.setIfInBounds_toArray, List.set_cons_zero, List.set_cons_succ]
    refine wpAnyH_take (i := 14) (v := (.bool false)) (xat_succ (xat_succ (xat_succ (xat_succ (xat_succ (xat_succ (xat_succ (xat_succ (xat_succ (xat_succ (xat_succ (xat_succ (xat_succ (xat_succ xat_zero)))))))))))))) (by kernel_rfl) (by kernel_rfl) (by kernel_rfl) (fun _ _ _ h => h) (Or.inl ⟨by kernel_rfl, fun wy hSw => ?_⟩) (by assumption) ?_
    · (try dsimp only at hSw); go_simp
    try simp only [Act.put, List.setIfInBounds_toArray, List.set_cons_zero, List.set_cons_succ]
    refine wpAnyH_take (i := 15) (v := (.bool false)) (xat_succ (xat_succ (xat_succ (xat_succ (xat_succ (xat_succ (xat_succ (xat_succ (xat_succ (xat_succ (xat_succ (xat_succ (xat_succ (xat_succ (xat_succ xat_zero))))))))))))))) (by kernel_rfl) (by kernel_rfl) (by kernel_rfl) (fun _ _ _ h => h) (Or.inl ⟨by kernel_rfl, fun wy hSw => ?_⟩) (by assumption) ?_
    · (try dsimp only at hSw); go_simp
    try simp only [Act.put, List.setIfInBounds_toArray, List.set_cons_zero, List.set_cons_succ]
    refine wpAnyH_done (by kernel_rfl) ?_ _
    have BZ := Lib.hid B2
    clear B2 X2 S2 z2
    try clear hHeld
    go_wp2_with fail
    go_ret
    exact outI R.out.symm BZ.out
  rw [ht] at KT
  by_cases hg : NoNeg t b
  rotate_left
  · have R := Lib.hid (show chk (t, b) = 2 from if_neg fun h => h.elim (fun h => hn h) (fun h => hg h.2.2.2))
    rw [df hg] at KG
    clear hn hi ht hg
    go_enter Try.func11, Try.ntmps11
    go_wp2_with fail
    obtain ⟨w0, hw0⟩ : ∃ w0, w0 = W.alloc (bxW t b) := ⟨_, rfl⟩
    have X0 : w0.drew.heap[W.heap.size]? = some (bxW t b) := by rw [hw0]; exact blk_new W _
    have B0 : Below W.heap.size W w0.drew := by rw [hw0]; exact below_drewN (alloc_below W _) 1
    have z0 : W.heap.size < w0.drew.heap.size := (Array.getElem?_eq_some_iff.1 X0).1
    have S0 : w0.drew.cell? ⟨W.heap.size, 0, none⟩ = some (.int .i64 t) ∧ w0.drew.cell? ⟨W.heap.size, 1, none⟩ = some (.int .u64 (b : Int)) := ⟨blk_cell X0 0 rfl, blk_cell X0 1 rfl⟩
    rw [← hw0]
    clear hw0
    refine wp_region_held_drew (S := (fun wy : World => wy.cell? ⟨W.heap.size, 0, none⟩ = some (.int .i64 t) ∧ wy.cell? ⟨W.heap.size, 1, none⟩ = some (.int .u64 (b : Int)))) (by kernel_rfl) (S0) (fun hHeld => ?_)
    refine wpAnyH_take (i := 0) (v := (.agg #[.int .i64 t, .int .u64 (b : Int)])) xat_zero (by kernel_rfl) (by kernel_rfl) (by kernel_rfl) (fun _ _ _ h => h) (Or.inl ⟨by kernel_rfl, fun wy hSw => ?_⟩) (by assumption) ?_
    · (try dsimp only at hSw); go_simp
    try simp only [Act.put, List.setIfInBounds_toArray, List.set_cons_zero, List.set_cons_succ]
    refine wpAnyH_ready (rs := [1]) (by kernel_rfl) (by simp) ?_
    refine AllReadyH.cons (xat_succ xat_zero) (fun K hK => ?_) AllReadyH.nil
    rw [if_pos (by kernel_rfl)]
    go_simp
    refine (KN.out _).mono ?_
    rintro _ w1 ⟨rfl, hb⟩
    have X1 := blk_below X0 hb z0
    have B1 := B0.trans (hb.mono B0.size)
    have z1 := Nat.lt_of_lt_of_le z0 hb.size
    have S1 : w1.cell? ⟨W.heap.size, 0, none⟩ = some (.int .i64 t) ∧ w1.cell? ⟨W.heap.size, 1, none⟩ = some (.int .u64 (b : Int)) := ⟨blk_cell X1 0 rfl, blk_cell X1 1 rfl⟩
    clear hb hHeld X0 B0 z0 S0
    go_wp2_with fail
    refine hK.out _ _ (S1) (fun hHeld => ?_)
    clear hK K
    try simp only [Act.put, List.setIfInBounds_toArray, List.set_cons_zero, List.set_cons_succ]
    refine wpAnyH_take (i := 2) (v := (.bool false)) (xat_succ (xat_succ xat_zero)) (by kernel_rfl) (by kernel_rfl) (by kernel_rfl) (fun _ _ _ h => h) (Or.inl ⟨by kernel_rfl, fun wy hSw => ?_⟩) (by assumption) ?_
    · (try dsimp only at hSw); go_simp; exact HN.out
    try simp only [Act.put, List.setIfInBounds_toArray, List.set_cons_zero, List.set_cons_succ]
    refine wpAnyH_take (i := 3) (v := (.bool false)) (xat_succ (xat_succ (xat_succ xat_zero))) (by kernel_rfl) (by kernel_rfl) (by kernel_rfl) (fun _ _ _ h => h) (Or.inl ⟨by kernel_rfl, fun wy hSw => ?_⟩) (by assumption) ?_
    · (try dsimp only at hSw); go_simp
    try simp only [Act.put, List.setIfInBounds_toArray, List.set_cons_zero, List.set_cons_succ]
    refine wpAnyH_take (i := 4) (v := (.pointer (some ⟨W.heap.size, 0, none⟩))) (xat_succ (xat_succ (xat_succ (xat_succ xat_zero)))) (by kernel_rfl) (by kernel_rfl) (by kernel_rfl) (fun _ _ _ h => h) (Or.inl ⟨by kernel_rfl, fun wy hSw => ?_⟩) (by assumption) ?_
    · (try dsimp only at hSw); go_simp
    try simp only [Act.put, List.setIfInBounds_toArray, List.set_cons_zero, List.set_cons_succ]
    refine wpAnyH_take (i := 5) (v := (.int .i64 t)) (xat_succ (xat_succ (xat_succ (xat_succ (xat_succ xat_zero))))) (by kernel_rfl) (by kernel_rfl) (by kernel_rfl) (fun _ _ _ h => h) (Or.inl ⟨by kernel_rfl, fun wy hSw => ?_⟩) (by assumption) ?_
    · (try dsimp only at hSw); go_simp
    try simp only [Act.put, List.setIfInBounds_toArray, List.set_cons_zero, List.set_cons_succ]
    refine wpAnyH_ready (rs := [6]) (by kernel_rfl) (by simp) ?_
    refine AllReadyH.cons (xat_succ (xat_succ (xat_succ (xat_succ (xat_succ (xat_succ xat_zero)))))) (fun K hK => ?_) AllReadyH.nil
    rw [if_pos (by kernel_rfl)]
    go_simp
    refine (KI.out _).mono ?_
    rintro _ wx ⟨rfl, rfl⟩
    go_wp2_with fail
    refine hK.out _ _ (S1) (fun hHeld => ?_)
    clear hK K
    try simp only [Act.put, List.setIfInBounds_toArray, List.set_cons_zero, List.set_cons_succ]
    refine wpAnyH_take (i := 7) (v := (.bool true)) (xat_succ (xat_succ (xat_succ (xat_succ (xat_succ (xat_succ (xat_succ xat_zero))))))) (by kernel_rfl) (by kernel_rfl) (by kernel_rfl) (fun _ _ _ h => h) (Or.inl ⟨by kernel_rfl, fun wy hSw => ?_⟩) (by assumption) ?_
    · (try dsimp only at hSw); go_simp
    try simp only [Act.put, List.setIfInBounds_toArray, List.set_cons_zero, List.set_cons_succ]
    refine wpAnyH_take (i := 8) (v := (.agg #[.int .i64 t, .int .u64 (b : Int)])) (xat_succ (xat_succ (xat_succ (xat_succ (xat_succ (xat_succ (xat_succ (xat_succ xat_zero)))))))) (by kernel_rfl) (by kernel_rfl) (by kernel_rfl) (fun _ _ _ h => h) (Or.inl ⟨by kernel_rfl, fun wy hSw => ?_⟩) (by assumption) ?_
    · (try dsimp only at hSw); go_simp
    try simp only [Act.put, List.setIfInBounds_toArray, List.set_cons_zero, List.set_cons_succ]
    refine wpAnyH_ready (rs := [9]) (by kernel_rfl) (by simp) ?_
    refine AllReadyH.cons (xat_succ (xat_succ (xat_succ (xat_succ (xat_succ (xat_succ (xat_succ (xat_succ (xat_succ xat_zero))))))))) (fun K hK => ?_) AllReadyH.nil
    rw [if_pos (by kernel_rfl)]
    go_simp
    refine (KT.out _).mono ?_
    rintro _ w2 ⟨rfl, hb⟩
    have X2 := blk_below X1 hb z1
    have B2 := B1.trans (hb.mono B1.size)
    have z2 := Nat.lt_of_lt_of_le z1 hb.size
    have S2 : w2.cell? ⟨W.heap.size, 0, none⟩ = some (.int .i64 t) ∧ w2.cell? ⟨W.heap.size, 1, none⟩ = some (.int .u64 (b : Int)) := ⟨blk_cell X2 0 rfl, blk_cell X2 1 rfl⟩
    clear hb hHeld X1 B1 z1 S1
    go_wp2_with fail
    refine hK.out _ _ (S2) (fun hHeld => ?_)
    clear hK K
    try simp only [Act.put, List.setIfInBounds_toArray, List.set_cons_zero, List.set_cons_succ]
    refine wpAnyH_take (i := 10) (v := (.bool true)) (xat_succ (xat_succ (xat_succ (xat_succ (xat_succ (xat_succ (xat_succ (xat_succ (xat_succ (xat_succ xat_zero)))))))))) (by kernel_rfl) (by kernel_rfl) (by kernel_rfl) (fun _ _ _ h => h) (Or.inl ⟨by kernel_rfl, fun wy hSw => ?_⟩) (by assumption) ?_
    · (try dsimp only at hSw); go_simp
    try simp only [Act.put, List.setIfInBounds_toArray, List.set_cons_zero, List.set_cons_succ]
    refine wpAnyH_take (i := 11) (v := (.bool true)) (xat_succ (xat_succ (xat_succ (xat_succ (xat_succ (xat_succ (xat_succ (xat_succ (xat_succ (xat_succ (xat_succ xat_zero))))))))))) (by kernel_rfl) (by kernel_rfl) (by kernel_rfl) (fun _ _ _ h => h) (Or.inl ⟨by kernel_rfl, fun wy hSw => ?_⟩) (by assumption) ?_
    · (try dsimp only at hSw); go_simp
    try simp only [Act.put, List.setIfInBounds_toArray, List.set_cons_zero, List.set_cons_succ]
    refine wpAnyH_take (i := 12) (v := (.agg #[.int .i64 t, .int .u64 (b : Int)])) (xat_succ (xat_succ (xat_succ (xat_succ (xat_succ (xat_succ (xat_succ (xat_succ (xat_succ (xat_succ (xat_succ (xat_succ xat_zero)))))))))))) (by kernel_rfl) (by kernel_rfl) (by kernel_rfl) (fun _ _ _ h => h) (Or.inl ⟨by kernel_rfl, fun wy hSw => ?_⟩) (by assumption) ?_
    · (try dsimp only at hSw); go_simp
    try simp only [Act.put, List.setIfInBounds_toArray, List.set_cons_zero, List.set_cons_succ]
    refine wpAnyH_ready (rs := [13]) (by kernel_rfl) (by simp) ?_
    refine AllReadyH.cons (xat_succ (xat_succ (xat_succ (xat_succ (xat_succ (xat_succ (xat_succ (xat_succ (xat_succ (xat_succ (xat_succ (xat_succ (xat_succ xat_zero))))))))))))) (fun K hK => ?_) AllReadyH.nil
    rw [if_pos (by kernel_rfl)]
    go_simp
    refine (KG.out _).mono ?_
    rintro _ w3 ⟨rfl, hb⟩
    have X3 := blk_below X2 hb z2
    have B3 := B2.trans (hb.mono B2.size)
    have z3 := Nat.lt_of_lt_of_le z2 hb.size
    have S3 : w3.cell? ⟨W.heap.size, 0, none⟩ = some (.int .i64 t) ∧ w3.cell? ⟨W.heap.size, 1, none⟩ = some (.int .u64 (b : Int)) := ⟨blk_cell X3 0 rfl, blk_cell X3 1 rfl⟩
    clear hb hHeld X2 B2 z2 S2
    go_wp2_with fail
    refine hK.out _ _ (S3) (fun hHeld => ?_)
    clear hK K
    try simp only [Act.put, List.setIfInBounds_toArray, List.set_cons_zero, List.set_cons_succ]
    refine wpAnyH_take (i := 14) (v := (.bool false)) (xat_succ (xat_succ (xat_succ (xat_succ (xat_succ (xat_succ (xat_succ (xat_succ (xat_succ (xat_succ (xat_succ (xat_succ (xat_succ (xat_succ xat_zero)))))))))))))) (by kernel_rfl) (by kernel_rfl) (by kernel_rfl) (fun _ _ _ h => h) (Or.inl ⟨by kernel_rfl, fun wy hSw => ?_⟩) (by assumption) ?_
    · (try dsimp only at hSw); go_simp
    try simp only [Act.put, List.setIfInBounds_toArray, List.set_cons_zero, List.set_cons_succ]
    refine wpAnyH_take (i := 15) (v := (.bool false)) (xat_succ (xat_succ (xat_succ (xat_succ (xat_succ (xat_succ (xat_succ (xat_succ (xat_succ (xat_succ (xat_succ (xat_succ (xat_succ (xat_succ (xat_succ xat_zero))))))))))))))) (by kernel_rfl) (by kernel_rfl) (by kernel_rfl) (fun _ _ _ h => h) (Or.inl ⟨by kernel_rfl, fun wy hSw => ?_⟩) (by assumption) ?_
    · (try dsimp only at hSw); go_simp
    try simp only [Act.put, List.setIfInBounds_toArray, List.set_cons_zero, List.set_cons_succ]
    refine wpAnyH_done (by kernel_rfl) ?_ _
    have BZ := Lib.hid B3
    clear B3 X3 S3 z3
    try clear hHeld
    go_wp2_with fail
    go_ret
    exact outI R.out.symm BZ.out
  have R := Lib.hid (show chk (t, b) = 0 from if_pos (Or.inr ⟨hi.1, hi.2, ht, hg⟩))
  rw [dt hg] at KG
  clear hn hi ht hg
  go_enter Try.func11, Try.ntmps11
  go_wp2_with fail
  obtain ⟨w0, hw0⟩ : ∃ w0, w0 = W.alloc (bxW t b) := ⟨_, rfl⟩
  have X0 : w0.drew.heap[W.heap.size]? = some (bxW t b) := by rw [hw0]; exact blk_new W _
  have B0 : Below W.heap.size W w0.drew := by rw [hw0]; exact below_drewN (alloc_below W _) 1
  have z0 : W.heap.size < w0.drew.heap.size := (Array.getElem?_eq_some_iff.1 X0).1
  have S0 : w0.drew.cell? ⟨W.heap.size, 0, none⟩ = some (.int .i64 t) ∧ w0.drew.cell? ⟨W.heap.size, 1, none⟩ = some (.int .u64 (b : Int)) := ⟨blk_cell X0 0 rfl, blk_cell X0 1 rfl⟩
  rw [← hw0]
  clear hw0
  refine wp_region_held_drew (S := (fun wy : World => wy.cell? ⟨W.heap.size, 0, none⟩ = some (.int .i64 t) ∧ wy.cell? ⟨W.heap.size, 1, none⟩ = some (.int .u64 (b : Int)))) (by kernel_rfl) (S0) (fun hHeld => ?_)
  refine wpAnyH_take (i := 0) (v := (.agg #[.int .i64 t, .int .u64 (b : Int)])) xat_zero (by kernel_rfl) (by kernel_rfl) (by kernel_rfl) (fun _ _ _ h => h) (Or.inl ⟨by kernel_rfl, fun wy hSw => ?_⟩) (by assumption) ?_
  · (try dsimp only at hSw); go_simp
  try simp only [Act.put, List.setIfInBounds_toArray, List.set_cons_zero, List.set_cons_succ]
  refine wpAnyH_ready (rs := [1]) (by kernel_rfl) (by simp) ?_
  refine AllReadyH.cons (xat_succ xat_zero) (fun K hK => ?_) AllReadyH.nil
  rw [if_pos (by kernel_rfl)]
  go_simp
  refine (KN.out _).mono ?_
  rintro _ w1 ⟨rfl, hb⟩
  have X1 := blk_below X0 hb z0
  have B1 := B0.trans (hb.mono B0.size)
  have z1 := Nat.lt_of_lt_of_le z0 hb.size
  have S1 : w1.cell? ⟨W.heap.size, 0, none⟩ = some (.int .i64 t) ∧ w1.cell? ⟨W.heap.size, 1, none⟩ = some (.int .u64 (b : Int)) := ⟨blk_cell X1 0 rfl, blk_cell X1 1 rfl⟩
  clear hb hHeld X0 B0 z0 S0
  go_wp2_with fail
  refine hK.out _ _ (S1) (fun hHeld => ?_)
  clear hK K
  try simp only [Act.put, List.setIfInBounds_toArray, List.set_cons_zero, List.set_cons_succ]
  refine wpAnyH_take (i := 2) (v := (.bool false)) (xat_succ (xat_succ xat_zero)) (by kernel_rfl) (by kernel_rfl) (by kernel_rfl) (fun _ _ _ h => h) (Or.inl ⟨by kernel_rfl, fun wy hSw => ?_⟩) (by assumption) ?_
  · (try dsimp only at hSw); go_simp; exact HN.out
  try simp only [Act.put, List.setIfInBounds_toArray, List.set_cons_zero, List.set_cons_succ]
  refine wpAnyH_take (i := 3) (v := (.bool false)) (xat_succ (xat_succ (xat_succ xat_zero))) (by kernel_rfl) (by kernel_rfl) (by kernel_rfl) (fun _ _ _ h => h) (Or.inl ⟨by kernel_rfl, fun wy hSw => ?_⟩) (by assumption) ?_
  · (try dsimp only at hSw); go_simp
  try simp only [Act.put, List.setIfInBounds_toArray, List.set_cons_zero, List.set_cons_succ]
  refine wpAnyH_take (i := 4) (v := (.pointer (some ⟨W.heap.size, 0, none⟩))) (xat_succ (xat_succ (xat_succ (xat_succ xat_zero)))) (by kernel_rfl) (by kernel_rfl) (by kernel_rfl) (fun _ _ _ h => h) (Or.inl ⟨by kernel_rfl, fun wy hSw => ?_⟩) (by assumption) ?_
  · (try dsimp only at hSw); go_simp
  try simp only [Act.put, List.setIfInBounds_toArray, List.set_cons_zero, List.set_cons_succ]
  refine wpAnyH_take (i := 5) (v := (.int .i64 t)) (xat_succ (xat_succ (xat_succ (xat_succ (xat_succ xat_zero))))) (by kernel_rfl) (by kernel_rfl) (by kernel_rfl) (fun _ _ _ h => h) (Or.inl ⟨by kernel_rfl, fun wy hSw => ?_⟩) (by assumption) ?_
  · (try dsimp only at hSw); go_simp
  try simp only [Act.put, List.setIfInBounds_toArray, List.set_cons_zero, List.set_cons_succ]
  refine wpAnyH_ready (rs := [6]) (by kernel_rfl) (by simp) ?_
  refine AllReadyH.cons (xat_succ (xat_succ (xat_succ (xat_succ (xat_succ (xat_succ xat_zero)))))) (fun K hK => ?_) AllReadyH.nil
  rw [if_pos (by kernel_rfl)]
  go_simp
  refine (KI.out _).mono ?_
  rintro _ wx ⟨rfl, rfl⟩
  go_wp2_with fail
  refine hK.out _ _ (S1) (fun hHeld => ?_)
  clear hK K
  try simp only [Act.put, List.setIfInBounds_toArray, List.set_cons_zero, List.set_cons_succ]
  refine wpAnyH_take (i := 7) (v := (.bool true)) (xat_succ (xat_succ (xat_succ (xat_succ (xat_succ (xat_succ (xat_succ xat_zero))))))) (by kernel_rfl) (by kernel_rfl) (by kernel_rfl) (fun _ _ _ h => h) (Or.inl ⟨by kernel_rfl, fun wy hSw => ?_⟩) (by assumption) ?_
  · (try dsimp only at hSw); go_simp
  try simp only [Act.put, List.setIfInBounds_toArray, List.set_cons_zero, List.set_cons_succ]
  refine wpAnyH_take (i := 8) (v := (.agg #[.int .i64 t, .int .u64 (b : Int)])) (xat_succ (xat_succ (xat_succ (xat_succ (xat_succ (xat_succ (xat_succ (xat_succ xat_zero)))))))) (by kernel_rfl) (by kernel_rfl) (by kernel_rfl) (fun _ _ _ h => h) (Or.inl ⟨by kernel_rfl, fun wy hSw => ?_⟩) (by assumption) ?_
  · (try dsimp only at hSw); go_simp
  try simp only [Act.put, List.setIfInBounds_toArray, List.set_cons_zero, List.set_cons_succ]
  refine wpAnyH_ready (rs := [9]) (by kernel_rfl) (by simp) ?_
  refine AllReadyH.cons (xat_succ (xat_succ (xat_succ (xat_succ (xat_succ (xat_succ (xat_succ (xat_succ (xat_succ xat_zero))))))))) (fun K hK => ?_) AllReadyH.nil
  rw [if_pos (by kernel_rfl)]
  go_simp
  refine (KT.out _).mono ?_
  rintro _ w2 ⟨rfl, hb⟩
  have X2 := blk_below X1 hb z1
  have B2 := B1.trans (hb.mono B1.size)
  have z2 := Nat.lt_of_lt_of_le z1 hb.size
  have S2 : w2.cell? ⟨W.heap.size, 0, none⟩ = some (.int .i64 t) ∧ w2.cell? ⟨W.heap.size, 1, none⟩ = some (.int .u64 (b : Int)) := ⟨blk_cell X2 0 rfl, blk_cell X2 1 rfl⟩
  clear hb hHeld X1 B1 z1 S1
  go_wp2_with fail
  refine hK.out _ _ (S2) (fun hHeld => ?_)
  clear hK K
  try simp only [Act.put, List.setIfInBounds_toArray, List.set_cons_zero, List.set_cons_succ]
  refine wpAnyH_take (i := 10) (v := (.bool true)) (xat_succ (xat_succ (xat_succ (xat_succ (xat_succ (xat_succ (xat_succ (xat_succ (xat_succ (xat_succ xat_zero)))))))))) (by kernel_rfl) (by kernel_rfl) (by kernel_rfl) (fun _ _ _ h => h) (Or.inl ⟨by kernel_rfl, fun wy hSw => ?_⟩) (by assumption) ?_
  · (try dsimp only at hSw); go_simp
  try simp only [Act.put, List.setIfInBounds_toArray, List.set_cons_zero, List.set_cons_succ]
  refine wpAnyH_take (i := 11) (v := (.bool true)) (xat_succ (xat_succ (xat_succ (xat_succ (xat_succ (xat_succ (xat_succ (xat_succ (xat_succ (xat_succ (xat_succ xat_zero))))))))))) (by kernel_rfl) (by kernel_rfl) (by kernel_rfl) (fun _ _ _ h => h) (Or.inl ⟨by kernel_rfl, fun wy hSw => ?_⟩) (by assumption) ?_
  · (try dsimp only at hSw); go_simp
  try simp only [Act.put, List.setIfInBounds_toArray, List.set_cons_zero, List.set_cons_succ]
  refine wpAnyH_take (i := 12) (v := (.agg #[.int .i64 t, .int .u64 (b : Int)])) (xat_succ (xat_succ (xat_succ (xat_succ (xat_succ (xat_succ (xat_succ (xat_succ (xat_succ (xat_succ (xat_succ (xat_succ xat_zero)))))))))))) (by kernel_rfl) (by kernel_rfl) (by kernel_rfl) (fun _ _ _ h => h) (Or.inl ⟨by kernel_rfl, fun wy hSw => ?_⟩) (by assumption) ?_
  · (try dsimp only at hSw); go_simp
  try simp only [Act.put, List.setIfInBounds_toArray, List.set_cons_zero, List.set_cons_succ]
  refine wpAnyH_ready (rs := [13]) (by kernel_rfl) (by simp) ?_
  refine AllReadyH.cons (xat_succ (xat_succ (xat_succ (xat_succ (xat_succ (xat_succ (xat_succ (xat_succ (xat_succ (xat_succ (xat_succ (xat_succ (xat_succ xat_zero))))))))))))) (fun K hK => ?_) AllReadyH.nil
  rw [if_pos (by kernel_rfl)]
  go_simp
  refine (KG.out _).mono ?_
  rintro _ w3 ⟨rfl, hb⟩
  have X3 := blk_below X2 hb z2
  have B3 := B2.trans (hb.mono B2.size)
  have z3 := Nat.lt_of_lt_of_le z2 hb.size
  have S3 : w3.cell? ⟨W.heap.size, 0, none⟩ = some (.int .i64 t) ∧ w3.cell? ⟨W.heap.size, 1, none⟩ = some (.int .u64 (b : Int)) := ⟨blk_cell X3 0 rfl, blk_cell X3 1 rfl⟩
  clear hb hHeld X2 B2 z2 S2
  go_wp2_with fail
  refine hK.out _ _ (S3) (fun hHeld => ?_)
  clear hK K
  try simp only [Act.put, List.setIfInBounds_toArray, List.set_cons_zero, List.set_cons_succ]
  refine wpAnyH_take (i := 14) (v := (.bool true)) (xat_succ (xat_succ (xat_succ (xat_succ (xat_succ (xat_succ (xat_succ (xat_succ (xat_succ (xat_succ (xat_succ (xat_succ (xat_succ (xat_succ xat_zero)))))))))))))) (by kernel_rfl) (by kernel_rfl) (by kernel_rfl) (fun _ _ _ h => h) (Or.inl ⟨by kernel_rfl, fun wy hSw => ?_⟩) (by assumption) ?_
  · (try dsimp only at hSw); go_simp
  try simp only [Act.put, List.setIfInBounds_toArray, List.set_cons_zero, List.set_cons_succ]
  refine wpAnyH_take (i := 15) (v := (.bool true)) (xat_succ (xat_succ (xat_succ (xat_succ (xat_succ (xat_succ (xat_succ (xat_succ (xat_succ (xat_succ (xat_succ (xat_succ (xat_succ (xat_succ (xat_succ xat_zero))))))))))))))) (by kernel_rfl) (by kernel_rfl) (by kernel_rfl) (fun _ _ _ h => h) (Or.inl ⟨by kernel_rfl, fun wy hSw => ?_⟩) (by assumption) ?_
  · (try dsimp only at hSw); go_simp
  try simp only [Act.put, List.setIfInBounds_toArray, List.set_cons_zero, List.set_cons_succ]
  refine wpAnyH_done (by kernel_rfl) ?_ _
  have BZ := Lib.hid B3
  clear B3 X3 S3 z3
  try clear hHeld
  go_wp2_with fail
  go_ret
  exact outI R.out.symm BZ.out
end Go.Proofs.Yticlcjabhemdiaa.Rpl
