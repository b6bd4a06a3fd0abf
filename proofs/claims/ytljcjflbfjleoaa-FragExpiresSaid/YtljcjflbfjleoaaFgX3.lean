/- Package frag: read, Check. -/
import Derived.Test.YtljcjflbfjleoaaFgX2
set_option linter.unusedVariables false
namespace Go.Proofs.Ytljcjflbfjleoaa.Frg
open Go.RowKit

set_option maxRecDepth 100000 in
set_option maxHeartbeats 2000000 in
theorem pread_any (p : ByteArray) (w : World) (h3 : 3 ≤ p.size) (hp : p.size ≤ 9223372036854775807) : Calls Try.prog 26 #[.string p] w fun e w' => e = .returned (frV p h3) ∧ Below w.heap.size w w' := by
  have p0 : 0 < p.size := by omega
  have p1 : 1 < p.size := by omega
  have p2 : 2 < p.size := by omega
  have q0 : (0 : Int) < (p.size : Int) := by omega
  have q1 : (1 : Int) < (p.size : Int) := by omega
  have q2 : (2 : Int) < (p.size : Int) := by omega
  have q3 : (3 : Int) ≤ (p.size : Int) := by omega
  have l0 := (p[0]'p0).toNat_lt
  have l1 := (p[1]'p1).toNat_lt
  have l2 := (p[2]'p2).toNat_lt
  have E3 : p.extract 3 p.size = dta p := ext_drop p 3
  have y0 : IntKind.i64.wrap ((p[0]'p0).toNat : Int) = ((p[0]'p0).toNat : Int) := by rw [IntKind.wrap_i64] <;> omega
  have y1 : IntKind.i64.wrap ((p[1]'p1).toNat : Int) = ((p[1]'p1).toNat : Int) := by rw [IntKind.wrap_i64] <;> omega
  have y2 : IntKind.i64.wrap ((p[2]'p2).toNat : Int) = ((p[2]'p2).toNat : Int) := by rw [IntKind.wrap_i64] <;> omega
  unfold frV
  go_enter Try.func26, Try.ntmps26
  go_wp2_with fail
  refine wp_region_held_drew (S := (fun _ => True)) (by kernel_rfl) (trivial) (fun hHeld => ?_)
  refine wpAnyH_take (i := 0) (v := (.string p)) at_zero (by kernel_rfl) (by kernel_rfl) (by kernel_rfl) (fun _ _ _ h => h) (Or.inl ⟨by kernel_rfl, fun wy hSw => ?_⟩) (by assumption) ?_
  · (try dsimp only at hSw); go_simp
  try simp only [Act.put, List.setIfInBounds_toArray, List.set_cons_zero, List.set_cons_succ]
  refine wpAnyH_take (i := 1) (v := (.int .u8 ((p[0]'p0).toNat : Int))) (at_succ at_zero) (by kernel_rfl) (by kernel_rfl) (by kernel_rfl) (fun _ _ _ h => h) (Or.inl ⟨by kernel_rfl, fun wy hSw => ?_⟩) (by assumption) ?_
  · (try dsimp only at hSw); go_simp
  try simp only [Act.put, List.setIfInBounds_toArray, List.set_cons_zero, List.set_cons_succ]
  refine wpAnyH_take (i := 2) (v := (.int .i64 ((p[0]'p0).toNat : Int))) (at_succ (at_succ at_zero)) (by kernel_rfl) (by kernel_rfl) (by kernel_rfl) (fun _ _ _ h => h) (Or.inl ⟨by kernel_rfl, fun wy hSw => ?_⟩) (by assumption) ?_
  · (try dsimp only at hSw); go_simp
  try simp only [Act.put, List.setIfInBounds_toArray, List.set_cons_zero, List.set_cons_succ]
  refine wpAnyH_take (i := 3) (v := (.string p)) (at_succ (at_succ (at_succ at_zero))) (by kernel_rfl) (by kernel_rfl) (by kernel_rfl) (fun _ _ _ h => h) (Or.inl ⟨by kernel_rfl, fun wy hSw => ?_⟩) (by assumption) ?_
  · (try dsimp only at hSw); go_simp
  try simp only [Act.put, List.setIfInBounds_toArray, List.set_cons_zero, List.set_cons_succ]
  refine wpAnyH_take (i := 4) (v := (.int .u8 ((p[1]'p1).toNat : Int))) (at_succ (at_succ (at_succ (at_succ at_zero)))) (by kernel_rfl) (by kernel_rfl) (by kernel_rfl) (fun _ _ _ h => h) (Or.inl ⟨by kernel_rfl, fun wy hSw => ?_⟩) (by assumption) ?_
  · (try dsimp only at hSw); go_simp
  try simp only [Act.put, List.setIfInBounds_toArray, List.set_cons_zero, List.set_cons_succ]
  refine wpAnyH_take (i := 5) (v := (.int .i64 ((p[1]'p1).toNat : Int))) (at_succ (at_succ (at_succ (at_succ (at_succ at_zero))))) (by kernel_rfl) (by kernel_rfl) (by kernel_rfl) (fun _ _ _ h => h) (Or.inl ⟨by kernel_rfl, fun wy hSw => ?_⟩) (by assumption) ?_
  · (try dsimp only at hSw); go_simp
  try simp only [Act.put, List.setIfInBounds_toArray, List.set_cons_zero, List.set_cons_succ]
  refine wpAnyH_take (i := 6) (v := (.string p)) (at_succ (at_succ (at_succ (at_succ (at_succ (at_succ at_zero)))))) (by kernel_rfl) (by kernel_rfl) (by kernel_rfl) (fun _ _ _ h => h) (Or.inl ⟨by kernel_rfl, fun wy hSw => ?_⟩) (by assumption) ?_
  · (try dsimp only at hSw); go_simp
  try simp only [Act.put, List.setIfInBounds_toArray, List.set_cons_zero, List.set_cons_succ]
  refine wpAnyH_take (i := 7) (v := (.int .u8 ((p[2]'p2).toNat : Int))) (at_succ (at_succ (at_succ (at_succ (at_succ (at_succ (at_succ at_zero))))))) (by kernel_rfl) (by kernel_rfl) (by kernel_rfl) (fun _ _ _ h => h) (Or.inl ⟨by kernel_rfl, fun wy hSw => ?_⟩) (by assumption) ?_
  · (try dsimp only at hSw); go_simp
  try simp only [Act.put, List.setIfInBounds_toArray, List.set_cons_zero, List.set_cons_succ]
  refine wpAnyH_take (i := 8) (v := (.int .i64 ((p[2]'p2).toNat : Int))) (at_succ (at_succ (at_succ (at_succ (at_succ (at_succ (at_succ (at_succ at_zero)))))))) (by kernel_rfl) (by kernel_rfl) (by kernel_rfl) (fun _ _ _ h => h) (Or.inl ⟨by kernel_rfl, fun wy hSw => ?_⟩) (by assumption) ?_
  · (try dsimp only at hSw); go_simp
  try simp only [Act.put, List.setIfInBounds_toArray, List.set_cons_zero, List.set_cons_succ]
  refine wpAnyH_take (i := 9) (v := (.string p)) (at_succ (at_succ (at_succ (at_succ (at_succ (at_succ (at_succ (at_succ (at_succ at_zero))))))))) (by kernel_rfl) (by kernel_rfl) (by kernel_rfl) (fun _ _ _ h => h) (Or.inl ⟨by kernel_rfl, fun wy hSw => ?_⟩) (by assumption) ?_
  · (try dsimp only at hSw); go_simp
  try simp only [Act.put, List.setIfInBounds_toArray, List.set_cons_zero, List.set_cons_succ]
  refine wpAnyH_take (i := 10) (v := (.string (dta p))) (at_succ (at_succ (at_succ (at_succ (at_succ (at_succ (at_succ (at_succ (at_succ (at_succ at_zero)))))))))) (by kernel_rfl) (by kernel_rfl) (by kernel_rfl) (fun _ _ _ h => h) (Or.inl ⟨by kernel_rfl, fun wy hSw => ?_⟩) (by assumption) ?_
  · (try dsimp only at hSw); go_simp
  try simp only [Act.put, List.setIfInBounds_toArray, List.set_cons_zero, List.set_cons_succ]
  refine wpAnyH_take (i := 11) (v := (.agg #[.int .i64 ((p[0]'p0).toNat : Int), .int .i64 ((p[1]'p1).toNat : Int), .int .i64 ((p[2]'p2).toNat : Int), .string (dta p)])) (at_succ (at_succ (at_succ (at_succ (at_succ (at_succ (at_succ (at_succ (at_succ (at_succ (at_succ at_zero))))))))))) (by kernel_rfl) (by kernel_rfl) (by kernel_rfl) (fun _ _ _ h => h) (Or.inl ⟨by kernel_rfl, fun wy hSw => ?_⟩) (by assumption) ?_
  · (try dsimp only at hSw); go_simp
  try simp only [Act.put, List.setIfInBounds_toArray, List.set_cons_zero, List.set_cons_succ]
  refine wpAnyH_ready (rs := [12]) (by kernel_rfl) (by simp) ?_
  refine AllReadyH.cons (at_succ (at_succ (at_succ (at_succ (at_succ (at_succ (at_succ (at_succ (at_succ (at_succ (at_succ (at_succ at_zero)))))))))))) (fun K hK => ?_) AllReadyH.nil
  rw [if_pos (by kernel_rfl)]
  go_simp
  refine hK.out _ _ (trivial) (fun hHeld => ?_)
  clear hK K
  try simp only [Act.put, List.setIfInBounds_toArray, List.set_cons_zero, List.set_cons_succ]
  refine wpAnyH_done (by kernel_rfl) ?_ _
  go_wp2_with fail
  refine bodyPost_ret (v := .agg #[.int .i64 ((p[0]'p0).toNat : Int), .int .i64 ((p[1]'p1).toNat : Int), .int .i64 ((p[2]'p2).toNat : Int), .string (dta p)]) (by simp [results, Try.results26, go_sem]) rfl ⟨rfl, ?_⟩
  exact (below_drewN (Below.refl w.heap.size w) 1).alloc (Nat.le_refl _) _

set_option maxRecDepth 100000 in
set_option maxHeartbeats 2000000 in
theorem pcheck_any (p : ByteArray) (w : World) (hp : p.size ≤ 9223372036854775807) : Calls Try.prog 15 #[.string p] w (OutI w (chk p)) := by
  by_cases h3 : p.size < 3
  · have R := Lib.hid (show chk p = 5 from if_pos h3)
    have d0 := dt (show (p.size : Int) < 3 by omega)
    go_enter Try.func15, Try.ntmps15
    go_wp2_with fail
    go_ret
    exact outI R.out.symm (Below.refl _ _)
  have d0 := df (show ¬ (p.size : Int) < 3 by omega)
  have p0 : 0 < p.size := by omega
  have p1 : 1 < p.size := by omega
  have p2 : 2 < p.size := by omega
  have l0 := (p[0]'p0).toNat_lt
  have l1 := (p[1]'p1).toNat_lt
  have l2 := (p[2]'p2).toNat_lt
  have DS := dta_size p
  have F := Lib.hid (show chk p = if ((1 : Int) ≤ ((p[2]'p2).toNat : Int) ∧ ((p[2]'p2).toNat : Int) ≤ 16) ∧ ((p[1]'p1).toNat : Int) < ((p[2]'p2).toNat : Int) ∧ Sz ((p[1]'p1).toNat : Int) ((p[2]'p2).toNat : Int) ((dta p).size : Int) then 0 else 4 by
    unfold chk Form
    rw [if_neg h3, bt_at p 1 p1, bt_at p 2 p2, DS, show ((p.size - 3 : Nat) : Int) = (p.size : Int) - 3 by omega])
  have KR := Lib.hid (fun w => pread_any p w (by omega) hp)
  have KZ := Lib.hid (fun w h => pfits_any (dta p) ((p[1]'p1).toNat : Int) ((p[2]'p2).toNat : Int) w (by omega) h)
  unfold frV at KR
  generalize chk p = C at *
  generalize (p[0]'p0).toNat = x0 at *
  generalize (p[1]'p1).toNat = x1 at *
  generalize (p[2]'p2).toNat = x2 at *
  generalize dta p = D at *
  have hx1 : (0 : Int) ≤ (x1 : Int) := by omega
  clear DS
  by_cases c1 : (x2 : Int) < (1 : Int)
  · have R := Lib.hid (F.out.trans (if_neg fun h => by omega))
    have d1 := dt c1
    clear F KZ c1
    go_enter Try.func15, Try.ntmps15
    go_wp2_with fail
    refine (KR.out _).mono ?_
    rintro _ w1 ⟨rfl, hb⟩
    have B1 := Lib.hid hb
    clear hb KR
    go_wp2_with fail
    go_ret
    exact outI R.out.symm (B1.out.trans ((alloc_below w1 _).mono B1.out.size))
  have d1 := df c1
  by_cases c2 : (16 : Int) < (x2 : Int)
  · have R := Lib.hid (F.out.trans (if_neg fun h => by omega))
    have d2 := dt c2
    clear F KZ c1 c2
    go_enter Try.func15, Try.ntmps15
    go_wp2_with fail
    refine (KR.out _).mono ?_
    rintro _ w1 ⟨rfl, hb⟩
    have B1 := Lib.hid hb
    clear hb KR
    go_wp2_with fail
    go_ret
    exact outI R.out.symm (B1.out.trans ((alloc_below w1 _).mono B1.out.size))
  have d2 := df c2
  by_cases c3 : x2 ≤ x1
  · have R := Lib.hid (F.out.trans (if_neg fun h => by omega))
    have d3 := dt c3
    clear F KZ c1 c2 c3
    go_enter Try.func15, Try.ntmps15
    go_wp2_with fail
    refine (KR.out _).mono ?_
    rintro _ w1 ⟨rfl, hb⟩
    have B1 := Lib.hid hb
    clear hb KR
    go_wp2_with fail
    go_ret
    exact outI R.out.symm (B1.out.trans ((alloc_below w1 _).mono B1.out.size))
  have d3 := df c3
  have KZ := Lib.hid (fun w => KZ.out w ⟨hx1, by omega, by omega⟩)
  by_cases c4 : Sz (x1 : Int) (x2 : Int) (D.size : Int)
  · have R := Lib.hid (F.out.trans (if_pos ⟨by omega, by omega, c4⟩))
    have d4 := decide_eq_true c4
    rw [d4] at KZ
    clear F c1 c2 c3 c4 d4
    go_enter Try.func15, Try.ntmps15
    go_wp2_with fail
    refine (KR.out _).mono ?_
    rintro _ w1 ⟨rfl, hb⟩
    have B1 := Lib.hid hb
    clear hb KR
    go_wp2_with fail
    refine (KZ.out _).mono ?_
    rintro _ _ ⟨rfl, rfl⟩
    go_wp2_with fail
    go_ret
    exact outI R.out.symm (B1.out.trans ((alloc_below w1 _).mono B1.out.size))
  · have R := Lib.hid (F.out.trans (if_neg fun h => c4 h.2.2))
    have d4 := decide_eq_false c4
    rw [d4] at KZ
    clear F c1 c2 c3 c4 d4
    go_enter Try.func15, Try.ntmps15
    go_wp2_with fail
    refine (KR.out _).mono ?_
    rintro _ w1 ⟨rfl, hb⟩
    have B1 := Lib.hid hb
    clear hb KR
    go_wp2_with fail
    refine (KZ.out _).mono ?_
    rintro _ _ ⟨rfl, rfl⟩
    go_wp2_with fail
    go_ret
    exact outI R.out.symm (B1.out.trans ((alloc_below w1 _).mono B1.out.size))
end Go.Proofs.Ytljcjflbfjleoaa.Frg
