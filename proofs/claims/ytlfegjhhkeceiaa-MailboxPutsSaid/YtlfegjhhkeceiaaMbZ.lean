/- Package mailbox: without, with. -/
import Derived.Test.YtlfegjhhkeceiaaMbY
set_option linter.unusedVariables false
namespace Go.Proofs.Ytlfegjhhkeceiaa.Mbx
open Go.RowKit

theorem ml_block {w : World} {b : Nat} {x : Ml} (h : w.heap[b]? = some (bxM x)) : MlC w b 0 x :=
  ⟨blk_cell h 0 rfl, blk_cell h 1 rfl, blk_cell h 2 rfl, blk_cell h 3 rfl, blk_cell h 4 rfl, blk_cell h 5 rfl, blk_cell h 6 rfl, blk_cell h 7 rfl, blk_cell h 8 rfl, blk_cell h 9 rfl⟩
set_option maxRecDepth 100000 in
set_option maxHeartbeats 2000000 in
theorem pwithout_any (A : Option Addr) (c : Nat) (l : List Ml) (i : Nat) (w : World) (hl : l.length ≤ 1000) (hi : i < l.length) (hA : MlS w A c l) :
    Calls Try.prog 24 #[.slice A l.length c, .int .i64 i] w (ListR w (l.eraseIdx i)) := by
  obtain ⟨A1, e1, h1⟩ := hA.cut utM szM i (by omega)
  obtain ⟨A2, e2, h2⟩ := hA.rest utM szM (i + 1) (by omega)
  have el : (l.take i).length = i := by rw [List.length_take]; omega
  have bd := below_drewN (Below.refl w.heap.size w) 1
  have h3 : MlS w.drew A1 (l.take i).length (l.take i) := by rw [el]; exact h1.next bd
  obtain ⟨A3, c3, w3, hap, ho, hb⟩ := h3.more eMl (c := c - (i + 1)) 22 (h2.next bd).1 (by rw [el, List.length_drop]; omega)
  rw [el, List.length_drop] at hap
  have en : i + (l.length - (i + 1)) = (l.eraseIdx i).length := by rw [List.length_eraseIdx, if_pos hi]; omega
  rw [en] at hap
  have ee : l.take i ++ l.drop (i + 1) = l.eraseIdx i := (List.eraseIdx_eq_take_drop_succ l i).symm
  rw [ee] at ho
  have O := Lib.hid ho
  have B := Lib.hid (bd.trans (hb.mono (by simp)))
  have w1 : IntKind.i64.wrap ((i : Int) + 1) = (i : Int) + 1 := by rw [IntKind.wrap_i64] <;> omega
  replace e2 : ∀ W : World, (Instr.sliceAt 22 (.slice A l.length c) (some (.int .i64 ((i : Int) + 1))) none none).run Try.prog W = .ok (.slice A2 (l.length - (i + 1)) (c - (i + 1))) W := e2
  clear hA h1 h2 h3 ho hb bd el ee en
  generalize l.eraseIdx i = E at *
  go_enter Try.func24, Try.ntmps24
  go_wp2_with fail
  refine wp_region_held_drew (S := (fun _ => True)) (by kernel_rfl) (trivial) (fun hHeld => ?_)
  refine wpAnyH_take (i := 0) (v := (.slice A l.length c)) at_zero (by kernel_rfl) (by kernel_rfl) (by kernel_rfl) (fun _ _ _ h => h) (Or.inl ⟨by kernel_rfl, fun wy hSw => ?_⟩) (by assumption) ?_
  · (try dsimp only at hSw); go_simp
  try simp only [Act.put, List.setIfInBounds_toArray, List.set_cons_zero, List.set_cons_succ]
  refine wpAnyH_take (i := 1) (v := (.int .i64 (i : Int))) (at_succ at_zero) (by kernel_rfl) (by kernel_rfl) (by kernel_rfl) (fun _ _ _ h => h) (Or.inl ⟨by kernel_rfl, fun wy hSw => ?_⟩) (by assumption) ?_
  · (try dsimp only at hSw); go_simp
  try simp only [Act.put, List.setIfInBounds_toArray, List.set_cons_zero, List.set_cons_succ]
  refine wpAnyH_take (i := 2) (v := (.int .i64 (i : Int))) (at_succ (at_succ at_zero)) (by kernel_rfl) (by kernel_rfl) (by kernel_rfl) (fun _ _ _ h => h) (Or.inl ⟨by kernel_rfl, fun wy hSw => ?_⟩) (by assumption) ?_
  · (try dsimp only at hSw); go_simp
  try simp only [Act.put, List.setIfInBounds_toArray, List.set_cons_zero, List.set_cons_succ]
  refine wpAnyH_take (i := 3) (v := (.slice A1 i i)) (at_succ (at_succ (at_succ at_zero))) (by kernel_rfl) (by kernel_rfl) (by kernel_rfl) (fun _ _ _ h => h) (Or.inl ⟨by kernel_rfl, fun wy hSw => ?_⟩) (by assumption) ?_
  · go_simp; first | done | (rw [e1]; rfl) | simp [e1, Result.andThen]
  try simp only [Act.put, List.setIfInBounds_toArray, List.set_cons_zero, List.set_cons_succ]
  refine wpAnyH_take (i := 4) (v := (.slice A l.length c)) (at_succ (at_succ (at_succ (at_succ at_zero)))) (by kernel_rfl) (by kernel_rfl) (by kernel_rfl) (fun _ _ _ h => h) (Or.inl ⟨by kernel_rfl, fun wy hSw => ?_⟩) (by assumption) ?_
  · (try dsimp only at hSw); go_simp
  try simp only [Act.put, List.setIfInBounds_toArray, List.set_cons_zero, List.set_cons_succ]
  refine wpAnyH_take (i := 5) (v := (.int .i64 (i : Int))) (at_succ (at_succ (at_succ (at_succ (at_succ at_zero))))) (by kernel_rfl) (by kernel_rfl) (by kernel_rfl) (fun _ _ _ h => h) (Or.inl ⟨by kernel_rfl, fun wy hSw => ?_⟩) (by assumption) ?_
  · (try dsimp only at hSw); go_simp
  try simp only [Act.put, List.setIfInBounds_toArray, List.set_cons_zero, List.set_cons_succ]
  refine wpAnyH_take (i := 6) (v := (.int .i64 ((i : Int) + 1))) (at_succ (at_succ (at_succ (at_succ (at_succ (at_succ at_zero)))))) (by kernel_rfl) (by kernel_rfl) (by kernel_rfl) (fun _ _ _ h => h) (Or.inl ⟨by kernel_rfl, fun wy hSw => ?_⟩) (by assumption) ?_
  · (try dsimp only at hSw); go_simp
  try simp only [Act.put, List.setIfInBounds_toArray, List.set_cons_zero, List.set_cons_succ]
  refine wpAnyH_take (i := 7) (v := (.slice A2 (l.length - (i + 1)) (c - (i + 1)))) (at_succ (at_succ (at_succ (at_succ (at_succ (at_succ (at_succ at_zero))))))) (by kernel_rfl) (by kernel_rfl) (by kernel_rfl) (fun _ _ _ h => h) (Or.inl ⟨by kernel_rfl, fun wy hSw => ?_⟩) (by assumption) ?_
  · go_simp; first | done | (rw [e2]; rfl) | simp [e2, Result.andThen]
  try simp only [Act.put, List.setIfInBounds_toArray, List.set_cons_zero, List.set_cons_succ]
  refine wpAnyH_ready (rs := [8]) (by kernel_rfl) (by simp) ?_
  refine AllReadyH.cons (at_succ (at_succ (at_succ (at_succ (at_succ (at_succ (at_succ (at_succ at_zero)))))))) (fun K hK => ?_) AllReadyH.nil
  rw [if_pos (by kernel_rfl)]
  refine Lib.wp_append_run _ _ _ _ _ rfl _ _ rfl rfl _ _ hap ?_
  refine hK.out _ _ (trivial) (fun hHeld => ?_)
  clear hK K
  try simp only [Act.put, List.setIfInBounds_toArray, List.set_cons_zero, List.set_cons_succ]
  refine wpAnyH_take (i := 9) (v := (.slice A3 E.length c3)) (at_succ (at_succ (at_succ (at_succ (at_succ (at_succ (at_succ (at_succ (at_succ at_zero))))))))) (by kernel_rfl) (by kernel_rfl) (by kernel_rfl) (fun _ _ _ h => h) (Or.inl ⟨by kernel_rfl, fun wy hSw => ?_⟩) (by assumption) ?_
  · (try dsimp only at hSw); go_simp
  try simp only [Act.put, List.setIfInBounds_toArray, List.set_cons_zero, List.set_cons_succ]
  refine wpAnyH_done (by kernel_rfl) ?_ _
  go_wp2_with fail
  go_ret
  exact ⟨A3, c3, rfl, O.out, B.out⟩

set_option maxRecDepth 100000 in
set_option maxHeartbeats 4000000 in
theorem pwith_any (A : Option Addr) (c : Nat) (l : List Ml) (i : Nat) (x : Ml) (w : World) (hl : l.length ≤ 1000) (hi : i ≤ l.length) (hx : fM.ok x) (hA : MlS w A c l) :
    Calls Try.prog 25 #[.slice A l.length c, .int .i64 i, mlV x] w (OutM w (l.take i ++ [x] ++ l.drop i)) := by
  have b0 := alloc_below w (bxM x)
  have b1 := b0.trans (below_drewN (Below.refl (w.alloc (bxM x)).heap.size (w.alloc (bxM x))) 1 |>.mono (by simp))
  have hB := hA.next b1
  obtain ⟨A1, e1, h1⟩ := hB.cut utM szM i hi
  obtain ⟨A2, e2, h2⟩ := hB.rest utM szM i hi
  have el : (l.take i).length = i := by rw [List.length_take]; omega
  have X0 := Lib.hid (show (w.alloc (bxM x)).drew.heap[w.heap.size]? = some (bxM x) from blk_new w _)
  obtain ⟨W, hW2⟩ : ∃ W, (w.alloc (bxM x)).drew = W := ⟨_, rfl⟩
  rw [show (w.alloc (bxM x)).drewN 1 = W from hW2] at b1 hB h1 h2
  rw [hW2] at X0
  have b2 := alloc_below W (bxM x)
  have h3 : MlS (W.alloc (bxM x)) A1 (l.take i).length (l.take i) := by rw [el]; exact h1.next b2
  obtain ⟨v3, w3, hap, ho, hb⟩ := h3.grow eMl (n := 0) (c := 1) 22 (FlAt.lit (F := fM) W [x] #[.int .i64 x.1.k, .int .i64 x.1.f, .int .i64 x.1.t, .int .i64 x.1.s, .int .i64 x.1.g, .int .i64 x.1.q, .int .i64 x.1.h, .bool x.1.u, .string x.1.d, .int .i64 x.2] 39 (by unfold maxLen; simp) rfl (by simpa using hx)) (by simp) (by rw [el]; simp; omega)
  rw [el] at hap
  have hb3 := b2.trans (hb.mono b2.size)
  obtain ⟨v4, w4, hap2, ho4, hb4, _⟩ := ho.app eMl (c := c - i) 22 (h2.next hb3).1 (by rw [List.length_append, el, List.length_drop]; simp; omega) hb.size
  rw [List.length_drop] at hap2
  obtain ⟨A3, c3, e3, _⟩ := ho.form
  subst e3
  obtain ⟨A4, c4, e4, _⟩ := ho4.form
  have l3 : (l.take i ++ [x]).length = i + 1 := by rw [List.length_append, el]; rfl
  rw [l3] at hap hap2
  have B := Lib.hid (b1.trans ((hb3.mono b1.size).trans (hb4.mono (Nat.le_trans b1.size b2.size))))
  have O := Lib.hid (show OwnM w4 w.heap.size v4 (l.take i ++ [x] ++ l.drop i) from ho4.down (Nat.le_trans b1.size b2.size))
  obtain ⟨⟨x0, x1, x2, x3, x4, x5, x6, x7, x8⟩, x9⟩ := x
  have S0 : MlC W w.heap.size 0 (⟨x0, x1, x2, x3, x4, x5, x6, x7, x8⟩, x9) := ml_block X0.out
  have S1 : MlC (W.alloc (bxM (⟨x0, x1, x2, x3, x4, x5, x6, x7, x8⟩, x9))) w.heap.size 0 (⟨x0, x1, x2, x3, x4, x5, x6, x7, x8⟩, x9) := ml_block (blk_alloc X0.out _)
  have hlt := blk_lt X0.out
  have X3 := blk_below X0.out hb3 hlt
  have S3 : MlC w3 w.heap.size 0 (⟨x0, x1, x2, x3, x4, x5, x6, x7, x8⟩, x9) := ml_block X3
  have S4 : MlC w4 w.heap.size 0 (⟨x0, x1, x2, x3, x4, x5, x6, x7, x8⟩, x9) := ml_block (blk_below X3 hb4 (Nat.lt_of_lt_of_le hlt b2.size))
  unfold MlC at S0 S1 S3 S4
  simp only [Nat.zero_add] at S0 S1 S3 S4
  simp only [List.length_cons, List.length_nil, Nat.zero_add] at hap
  clear hA hB h1 h2 h3 ho ho4 hb hb3 hb4 b0 b1 b2 el l3 hx X0 X3 hlt
  generalize l.take i ++ [((⟨x0, x1, x2, x3, x4, x5, x6, x7, x8⟩ : Fm), x9)] ++ l.drop i = R at *
  subst e4
  go_enter Try.func25, Try.ntmps25
  go_wp2_with fail
  refine wp_region_held_drew (S := (fun wy : World => wy.cell? ⟨w.heap.size, 0, none⟩ = some (.int .i64 x0) ∧ wy.cell? ⟨w.heap.size, 1, none⟩ = some (.int .i64 x1) ∧ wy.cell? ⟨w.heap.size, 2, none⟩ = some (.int .i64 x2) ∧ wy.cell? ⟨w.heap.size, 3, none⟩ = some (.int .i64 x3) ∧ wy.cell? ⟨w.heap.size, 4, none⟩ = some (.int .i64 x4) ∧ wy.cell? ⟨w.heap.size, 5, none⟩ = some (.int .i64 x5) ∧ wy.cell? ⟨w.heap.size, 6, none⟩ = some (.int .i64 x6) ∧ wy.cell? ⟨w.heap.size, 7, none⟩ = some (.bool x7) ∧ wy.cell? ⟨w.heap.size, 8, none⟩ = some (.string x8) ∧ wy.cell? ⟨w.heap.size, 9, none⟩ = some (.int .i64 x9))) (by kernel_rfl) (hW2 ▸ S0) (fun hHeld => ?_)
  rw [hW2]
  refine wpAnyH_take (i := 0) (v := (.slice A l.length c)) at_zero (by kernel_rfl) (by kernel_rfl) (by kernel_rfl) (fun _ _ _ h => h) (Or.inl ⟨by kernel_rfl, fun wy hSw => ?_⟩) (by assumption) ?_
  · (try dsimp only at hSw); go_simp
  try simp only [Act.put, List.setIfInBounds_toArray, List.set_cons_zero, List.set_cons_succ]
  refine wpAnyH_take (i := 1) (v := (.int .i64 (i : Int))) (at_succ at_zero) (by kernel_rfl) (by kernel_rfl) (by kernel_rfl) (fun _ _ _ h => h) (Or.inl ⟨by kernel_rfl, fun wy hSw => ?_⟩) (by assumption) ?_
  · (try dsimp only at hSw); go_simp
  try simp only [Act.put, List.setIfInBounds_toArray, List.set_cons_zero, List.set_cons_succ]
  refine wpAnyH_take (i := 2) (v := (.int .i64 (i : Int))) (at_succ (at_succ at_zero)) (by kernel_rfl) (by kernel_rfl) (by kernel_rfl) (fun _ _ _ h => h) (Or.inl ⟨by kernel_rfl, fun wy hSw => ?_⟩) (by assumption) ?_
  · (try dsimp only at hSw); go_simp
  try simp only [Act.put, List.setIfInBounds_toArray, List.set_cons_zero, List.set_cons_succ]
  refine wpAnyH_take (i := 3) (v := (.slice A1 i i)) (at_succ (at_succ (at_succ at_zero))) (by kernel_rfl) (by kernel_rfl) (by kernel_rfl) (fun _ _ _ h => h) (Or.inl ⟨by kernel_rfl, fun wy hSw => ?_⟩) (by assumption) ?_
  · go_simp; first | done | (rw [e1]; rfl) | simp [e1, Result.andThen]
  try simp only [Act.put, List.setIfInBounds_toArray, List.set_cons_zero, List.set_cons_succ]
  refine wpAnyH_take (i := 4) (v := (.agg #[.int .i64 x0, .int .i64 x1, .int .i64 x2, .int .i64 x3, .int .i64 x4, .int .i64 x5, .int .i64 x6, .bool x7, .string x8, .int .i64 x9])) (at_succ (at_succ (at_succ (at_succ at_zero)))) (by kernel_rfl) (by kernel_rfl) (by kernel_rfl) (fun _ _ _ h => h) (Or.inl ⟨by kernel_rfl, fun wy hSw => ?_⟩) (by assumption) ?_
  · (try dsimp only at hSw); go_simp
  try simp only [Act.put, List.setIfInBounds_toArray, List.set_cons_zero, List.set_cons_succ]
  refine wpAnyH_take (i := 7) (v := (.slice A l.length c)) (at_succ (at_succ (at_succ (at_succ (at_succ (at_succ (at_succ at_zero))))))) (by kernel_rfl) (by kernel_rfl) (by kernel_rfl) (fun _ _ _ h => h) (Or.inl ⟨by kernel_rfl, fun wy hSw => ?_⟩) (by assumption) ?_
  · (try dsimp only at hSw); go_simp
  try simp only [Act.put, List.setIfInBounds_toArray, List.set_cons_zero, List.set_cons_succ]
  refine wpAnyH_take (i := 8) (v := (.int .i64 (i : Int))) (at_succ (at_succ (at_succ (at_succ (at_succ (at_succ (at_succ (at_succ at_zero)))))))) (by kernel_rfl) (by kernel_rfl) (by kernel_rfl) (fun _ _ _ h => h) (Or.inl ⟨by kernel_rfl, fun wy hSw => ?_⟩) (by assumption) ?_
  · (try dsimp only at hSw); go_simp
  try simp only [Act.put, List.setIfInBounds_toArray, List.set_cons_zero, List.set_cons_succ]
  refine wpAnyH_take (i := 9) (v := (.slice A2 (l.length - i) (c - i))) (at_succ (at_succ (at_succ (at_succ (at_succ (at_succ (at_succ (at_succ (at_succ at_zero))))))))) (by kernel_rfl) (by kernel_rfl) (by kernel_rfl) (fun _ _ _ h => h) (Or.inl ⟨by kernel_rfl, fun wy hSw => ?_⟩) (by assumption) ?_
  · go_simp; first | done | (rw [e2]; rfl) | simp [e2, Result.andThen]
  try simp only [Act.put, List.setIfInBounds_toArray, List.set_cons_zero, List.set_cons_succ]
  refine wpAnyH_ready (rs := [5]) (by kernel_rfl) (by simp) ?_
  refine AllReadyH.cons (at_succ (at_succ (at_succ (at_succ (at_succ at_zero))))) (fun K hK => ?_) AllReadyH.nil
  rw [if_pos (by kernel_rfl)]
  go_simp
  refine hK.out _ _ (S1) (fun hHeld => ?_)
  clear hK K
  try simp only [Act.put, List.setIfInBounds_toArray, List.set_cons_zero, List.set_cons_succ]
  refine wpAnyH_ready (rs := [6]) (by kernel_rfl) (by simp) ?_
  refine AllReadyH.cons (at_succ (at_succ (at_succ (at_succ (at_succ (at_succ at_zero)))))) (fun K hK => ?_) AllReadyH.nil
  rw [if_pos (by kernel_rfl)]
  refine Lib.wp_append_run _ _ _ _ _ rfl _ _ rfl rfl _ _ hap ?_
  refine hK.out _ _ (S3) (fun hHeld => ?_)
  clear hK K
  try simp only [Act.put, List.setIfInBounds_toArray, List.set_cons_zero, List.set_cons_succ]
  refine wpAnyH_ready (rs := [10]) (by kernel_rfl) (by simp) ?_
  refine AllReadyH.cons (at_succ (at_succ (at_succ (at_succ (at_succ (at_succ (at_succ (at_succ (at_succ (at_succ at_zero)))))))))) (fun K hK => ?_) AllReadyH.nil
  rw [if_pos (by kernel_rfl)]
  refine Lib.wp_append_run _ _ _ _ _ rfl _ _ rfl rfl _ _ hap2 ?_
  refine hK.out _ _ (S4) (fun hHeld => ?_)
  clear hK K
  try simp only [Act.put, List.setIfInBounds_toArray, List.set_cons_zero, List.set_cons_succ]
  refine wpAnyH_take (i := 11) (v := (.slice A4 R.length c4)) (at_succ (at_succ (at_succ (at_succ (at_succ (at_succ (at_succ (at_succ (at_succ (at_succ (at_succ at_zero))))))))))) (by kernel_rfl) (by kernel_rfl) (by kernel_rfl) (fun _ _ _ h => h) (Or.inl ⟨by kernel_rfl, fun wy hSw => ?_⟩) (by assumption) ?_
  · (try dsimp only at hSw); go_simp
  try simp only [Act.put, List.setIfInBounds_toArray, List.set_cons_zero, List.set_cons_succ]
  refine wpAnyH_done (by kernel_rfl) ?_ _
  go_wp2_with fail
  go_ret
  exact ⟨_, rfl, O.out, B.out⟩
end Go.Proofs.Ytlfegjhhkeceiaa.Mbx
