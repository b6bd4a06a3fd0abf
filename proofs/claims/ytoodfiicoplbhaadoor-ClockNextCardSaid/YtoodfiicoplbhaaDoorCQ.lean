/- The walks of ClockNext and ClockDates. -/
import Derived.Test.YtoodfiicoplbhaaDoorCM
set_option linter.unusedVariables false
namespace Go.Proofs.YtoodfiicoplbhaaDoor
open Go.RowKit

/-- One list of numbers is later than another. -/
def latL : List (Int × Int) → Bool
  | [] => false
  | p :: r => if p.1 ≠ p.2 then decide (p.2 < p.1) else latL r
theorem latL_lat (a0 a1 a2 a3 a4 b0 b1 b2 b3 b4 : Int) : latL [(a0, b0), (a1, b1), (a2, b2), (a3, b3), (a4, b4)] = lat a0 a1 a2 a3 a4 b0 b1 b2 b3 b4 := rfl
theorem latL_ne (a b : Int) (r : List (Int × Int)) (h : ¬ a = b) : latL ((a, b) :: r) = decide (b < a) := by unfold latL; rw [if_pos h]
theorem latL_eq (a b : Int) (r : List (Int × Int)) (h : a = b) : latL ((a, b) :: r) = latL r := by
  show (if a ≠ b then decide (b < a) else latL r) = latL r
  rw [if_neg (by simpa using h)]
/-- The two arrays of 'later' lie in the third and the fourth block. -/
def LW (w : World) (a0 a1 a2 a3 a4 b0 b1 b2 b3 b4 : Int) (wr : World) : Prop :=
  wr.heap[w.heap.size + 1 + 1]? = some (.cells #[.int .i64 a0, .int .i64 a1, .int .i64 a2, .int .i64 a3, .int .i64 a4] 48 (0, 0)) ∧
  wr.heap[w.heap.size + 1 + 1 + 1]? = some (.cells #[.int .i64 b0, .int .i64 b1, .int .i64 b2, .int .i64 b3, .int .i64 b4] 48 (0, 0)) ∧ Below w.heap.size w wr
theorem LW.start (w : World) (a0 a1 a2 a3 a4 b0 b1 b2 b3 b4 : Int) : LW w a0 a1 a2 a3 a4 b0 b1 b2 b3 b4 ((((w.alloc (.cells #[.int .i64 a0, .int .i64 a1, .int .i64 a2, .int .i64 a3, .int .i64 a4] 23)).alloc (.cells #[.int .i64 b0, .int .i64 b1, .int .i64 b2, .int .i64 b3, .int .i64 b4] 23)).alloc
    (.cells #[.int .i64 a0, .int .i64 a1, .int .i64 a2, .int .i64 a3, .int .i64 a4] 48)).alloc (.cells #[.int .i64 b0, .int .i64 b1, .int .i64 b2, .int .i64 b3, .int .i64 b4] 48)) := by
  refine ⟨?_, ?_, ?_⟩
  · rw [Below.heap_alloc _ _ _ (by simp), show w.heap.size + 1 + 1 = ((w.alloc (.cells #[.int .i64 a0, .int .i64 a1, .int .i64 a2, .int .i64 a3, .int .i64 a4] 23)).alloc (.cells #[.int .i64 b0, .int .i64 b1, .int .i64 b2, .int .i64 b3, .int .i64 b4] 23)).heap.size by simp]
    exact heap_alloc_new _ _
  · rw [show w.heap.size + 1 + 1 + 1 = (((w.alloc (.cells #[.int .i64 a0, .int .i64 a1, .int .i64 a2, .int .i64 a3, .int .i64 a4] 23)).alloc (.cells #[.int .i64 b0, .int .i64 b1, .int .i64 b2, .int .i64 b3, .int .i64 b4] 23)).alloc (.cells #[.int .i64 a0, .int .i64 a1, .int .i64 a2, .int .i64 a3, .int .i64 a4] 48)).heap.size by simp]
    exact heap_alloc_new _ _
  · exact ((((Below.refl _ _).alloc (Nat.le_refl _) _).alloc (by simp) _).alloc (by simp; omega) _).alloc (by simp; omega) _

set_option maxRecDepth 100000 in
set_option maxHeartbeats 2000000 in
theorem later_any (a0 a1 a2 a3 a4 b0 b1 b2 b3 b4 : Int) (w : World) :
    Calls Tryd.prog 30 #[dV a0 a1 a2 a3 a4, dV b0 b1 b2 b3 b4] w (OutB w (lat a0 a1 a2 a3 a4 b0 b1 b2 b3 b4)) := by
  rw [← latL_lat]
  obtain ⟨G, hG⟩ : ∃ G, latL [(a0, b0), (a1, b1), (a2, b2), (a3, b3), (a4, b4)] = G := ⟨_, rfl⟩
  have HG := Lib.hid hG
  rw [hG]
  clear hG
  unfold dV
  go_enter Tryd.func30, Tryd.ntmps30
  go_wp2_with fail
  go_loopw [7] (fun i wr => ∃ k : Nat, i = .int .i64 k ∧ k ≤ 5 ∧ G = latL ([(a0, b0), (a1, b1), (a2, b2), (a3, b3), (a4, b4)].drop k) ∧ LW w a0 a1 a2 a3 a4 b0 b1 b2 b3 b4 wr) (fun i _ => 5 - (intOf i).toNat)
  case atStart => exact ⟨0, rfl, by omega, HG.out.symm, LW.start w a0 a1 a2 a3 a4 b0 b1 b2 b3 b4⟩
  case round =>
    obtain ⟨k, rfl, hk, hg, Q⟩ := hrel
    have LO := Lib.hid Q
    clear HG
    obtain rfl | rfl | rfl | rfl | rfl | rfl : k = 0 ∨ k = 1 ∨ k = 2 ∨ k = 3 ∨ k = 4 ∨ k = 5 := by omega
    · have x := cell_of_row wr (w.heap.size + 1 + 1) 0 _ _ (0, 0) Q.1
      have y := cell_of_row wr (w.heap.size + 1 + 1 + 1) 0 _ _ (0, 0) Q.2.1
      have x : wr.cell? ⟨w.heap.size + 1 + 1, 0, none⟩ = some (.int .i64 a0) := x
      have y : wr.cell? ⟨w.heap.size + 1 + 1 + 1, 0, none⟩ = some (.int .i64 b0) := y
      have H := Lib.hid (show G = latL ((a0, b0) :: [(a1, b1), (a2, b2), (a3, b3), (a4, b4)]) from hg)
      clear hg
      by_cases e : a0 = b0
      · have R := Lib.hid (show G = latL [(a1, b1), (a2, b2), (a3, b3), (a4, b4)] from H.out.trans (latL_eq _ _ _ e))
        have t1 : (a0 == b0) = true := by simpa using e
        have t2 : (a0 != b0) = false := by simpa using e
        clear e
        go_wp2_with fail
        go_quiet (fail)
        go_wp2_with fail
        go_roundw
        case rel => exact ⟨1, rfl, by omega, R.out, LO.out.1, LO.out.2.1, below_drewN LO.out.2.2 _⟩
        case measure => simp [intOf]
      · have R := Lib.hid (H.out.trans (latL_ne _ _ _ e))
        have t1 : (a0 == b0) = false := by simpa using e
        have t2 : (a0 != b0) = true := by simpa using e
        clear e
        go_wp2_with fail
        go_quiet (fail)
        go_wp2_with fail
        go_quiet (fail)
        go_wp2_with fail
        go_ret
        exact outB R.out.symm (below_drewN (below_drewN LO.out.2.2 _) _)
    · have x := cell_of_row wr (w.heap.size + 1 + 1) 1 _ _ (0, 0) Q.1
      have y := cell_of_row wr (w.heap.size + 1 + 1 + 1) 1 _ _ (0, 0) Q.2.1
      have x : wr.cell? ⟨w.heap.size + 1 + 1, 1, none⟩ = some (.int .i64 a1) := x
      have y : wr.cell? ⟨w.heap.size + 1 + 1 + 1, 1, none⟩ = some (.int .i64 b1) := y
      have H := Lib.hid (show G = latL ((a1, b1) :: [(a2, b2), (a3, b3), (a4, b4)]) from hg)
      clear hg
      by_cases e : a1 = b1
      · have R := Lib.hid (show G = latL [(a2, b2), (a3, b3), (a4, b4)] from H.out.trans (latL_eq _ _ _ e))
        have t1 : (a1 == b1) = true := by simpa using e
        have t2 : (a1 != b1) = false := by simpa using e
        clear e
        go_wp2_with fail
        go_quiet (fail)
        go_wp2_with fail
        go_roundw
        case rel => exact ⟨2, rfl, by omega, R.out, LO.out.1, LO.out.2.1, below_drewN LO.out.2.2 _⟩
        case measure => simp [intOf]
      · have R := Lib.hid (H.out.trans (latL_ne _ _ _ e))
        have t1 : (a1 == b1) = false := by simpa using e
        have t2 : (a1 != b1) = true := by simpa using e
        clear e
        go_wp2_with fail
        go_quiet (fail)
        go_wp2_with fail
        go_quiet (fail)
        go_wp2_with fail
        go_ret
        exact outB R.out.symm (below_drewN (below_drewN LO.out.2.2 _) _)
    · have x := cell_of_row wr (w.heap.size + 1 + 1) 2 _ _ (0, 0) Q.1
      have y := cell_of_row wr (w.heap.size + 1 + 1 + 1) 2 _ _ (0, 0) Q.2.1
      have x : wr.cell? ⟨w.heap.size + 1 + 1, 2, none⟩ = some (.int .i64 a2) := x
      have y : wr.cell? ⟨w.heap.size + 1 + 1 + 1, 2, none⟩ = some (.int .i64 b2) := y
      have H := Lib.hid (show G = latL ((a2, b2) :: [(a3, b3), (a4, b4)]) from hg)
      clear hg
      by_cases e : a2 = b2
      · have R := Lib.hid (show G = latL [(a3, b3), (a4, b4)] from H.out.trans (latL_eq _ _ _ e))
        have t1 : (a2 == b2) = true := by simpa using e
        have t2 : (a2 != b2) = false := by simpa using e
        clear e
        go_wp2_with fail
        go_quiet (fail)
        go_wp2_with fail
        go_roundw
        case rel => exact ⟨3, rfl, by omega, R.out, LO.out.1, LO.out.2.1, below_drewN LO.out.2.2 _⟩
        case measure => simp [intOf]
      · have R := Lib.hid (H.out.trans (latL_ne _ _ _ e))
        have t1 : (a2 == b2) = false := by simpa using e
        have t2 : (a2 != b2) = true := by simpa using e
        clear e
        go_wp2_with fail
        go_quiet (fail)
        go_wp2_with fail
        go_quiet (fail)
        go_wp2_with fail
        go_ret
        exact outB R.out.symm (below_drewN (below_drewN LO.out.2.2 _) _)
    · have x := cell_of_row wr (w.heap.size + 1 + 1) 3 _ _ (0, 0) Q.1
      have y := cell_of_row wr (w.heap.size + 1 + 1 + 1) 3 _ _ (0, 0) Q.2.1
      have x : wr.cell? ⟨w.heap.size + 1 + 1, 3, none⟩ = some (.int .i64 a3) := x
      have y : wr.cell? ⟨w.heap.size + 1 + 1 + 1, 3, none⟩ = some (.int .i64 b3) := y
      have H := Lib.hid (show G = latL ((a3, b3) :: [(a4, b4)]) from hg)
      clear hg
      by_cases e : a3 = b3
      · have R := Lib.hid (show G = latL [(a4, b4)] from H.out.trans (latL_eq _ _ _ e))
        have t1 : (a3 == b3) = true := by simpa using e
        have t2 : (a3 != b3) = false := by simpa using e
        clear e
        go_wp2_with fail
        go_quiet (fail)
        go_wp2_with fail
        go_roundw
        case rel => exact ⟨4, rfl, by omega, R.out, LO.out.1, LO.out.2.1, below_drewN LO.out.2.2 _⟩
        case measure => simp [intOf]
      · have R := Lib.hid (H.out.trans (latL_ne _ _ _ e))
        have t1 : (a3 == b3) = false := by simpa using e
        have t2 : (a3 != b3) = true := by simpa using e
        clear e
        go_wp2_with fail
        go_quiet (fail)
        go_wp2_with fail
        go_quiet (fail)
        go_wp2_with fail
        go_ret
        exact outB R.out.symm (below_drewN (below_drewN LO.out.2.2 _) _)
    · have x := cell_of_row wr (w.heap.size + 1 + 1) 4 _ _ (0, 0) Q.1
      have y := cell_of_row wr (w.heap.size + 1 + 1 + 1) 4 _ _ (0, 0) Q.2.1
      have x : wr.cell? ⟨w.heap.size + 1 + 1, 4, none⟩ = some (.int .i64 a4) := x
      have y : wr.cell? ⟨w.heap.size + 1 + 1 + 1, 4, none⟩ = some (.int .i64 b4) := y
      have H := Lib.hid (show G = latL ((a4, b4) :: []) from hg)
      clear hg
      by_cases e : a4 = b4
      · have R := Lib.hid (show G = latL [] from H.out.trans (latL_eq _ _ _ e))
        have t1 : (a4 == b4) = true := by simpa using e
        have t2 : (a4 != b4) = false := by simpa using e
        clear e
        go_wp2_with fail
        go_quiet (fail)
        go_wp2_with fail
        go_roundw
        case rel => exact ⟨5, rfl, by omega, R.out, LO.out.1, LO.out.2.1, below_drewN LO.out.2.2 _⟩
        case measure => simp [intOf]
      · have R := Lib.hid (H.out.trans (latL_ne _ _ _ e))
        have t1 : (a4 == b4) = false := by simpa using e
        have t2 : (a4 != b4) = true := by simpa using e
        clear e
        go_wp2_with fail
        go_quiet (fail)
        go_wp2_with fail
        go_quiet (fail)
        go_wp2_with fail
        go_ret
        exact outB R.out.symm (below_drewN (below_drewN LO.out.2.2 _) _)
    · have H := Lib.hid (show G = false from hg)
      clear hg
      go_wp2_with fail
      go_ret
      exact outB H.out.symm LO.out.2.2

set_option maxRecDepth 100000 in
set_option maxHeartbeats 2000000 in
theorem law_next (m n : Int) (w : World) (hm : I64 m) (hn : I64 n) (hT : Tab w) :
    Calls Tryd.prog 8 #[.int .i64 m, .int .i64 n] w (OutB w true) := by
  have T := Lib.hid hT
  clear hT
  by_cases h1 : m < 0
  · have d1 := dt h1
    clear h1
    go_enter Tryd.func8, Tryd.ntmps8
    go_wp2_with fail
    refine (awake_any _ T.out).mono ?_
    rintro e w1 ⟨rfl, hb⟩
    go_wp2_with fail
    go_ret
    exact outB rfl hb
  have d1 := df h1
  by_cases h2 : 1073740384 < m
  · have d2 := dt h2
    clear h1 h2
    go_enter Tryd.func8, Tryd.ntmps8
    go_wp2_with fail
    refine (awake_any _ T.out).mono ?_
    rintro e w1 ⟨rfl, hb⟩
    go_wp2_with fail
    go_ret
    exact outB rfl hb
  have d2 := df h2
  by_cases h3 : n ≤ m
  · have d3 := dt h3
    clear h1 h2 h3
    go_enter Tryd.func8, Tryd.ntmps8
    go_wp2_with fail
    refine (awake_any _ T.out).mono ?_
    rintro e w1 ⟨rfl, hb⟩
    go_wp2_with fail
    go_ret
    exact outB rfl hb
  have d3 := df h3
  by_cases h4 : 1073741824 < n
  · have d4 := dt h4
    clear h1 h2 h3 h4
    go_enter Tryd.func8, Tryd.ntmps8
    go_wp2_with fail
    refine (awake_any _ T.out).mono ?_
    rintro e w1 ⟨rfl, hb⟩
    go_wp2_with fail
    go_ret
    exact outB rfl hb
  have d4 := df h4
  have v0 := vm_id m (by omega) (by omega)
  have v1 := vm_id (m + 1) (by omega) (by omega)
  have v2 := vm_id (m + 1440) (by omega) (by omega)
  have LA := lat_of m n (by omega) (by omega) (by omega)
  have LAT := Lib.hid (fun w => later_any (oY n) (oM n) (oD n) (oH n) (oI n) (oY m) (oM m) (oD m) (oH m) (oI m) w)
  rw [LA] at LAT
  have e1 : vm (m + 1440) % 1440 = vm m % 1440 := by rw [v0, v2]; omega
  have e2 : wd (m + 1440) = (wd m + 1) % 7 := by unfold wd; rw [v0, v2]; omega
  have e3 : wd (m + 1) * 1440 + vm (m + 1) % 1440 = (wd m * 1440 + vm m % 1440 + 1) % 10080 := by unfold wd; rw [v0, v1]; omega
  have wi := wd_in m
  have vi := vm_in m
  have t1 : (vm (m + 1440) % 1440 == vm m % 1440) = true := by simpa using e1
  have t11 : (vm (m + 1440) % 1440 != vm m % 1440) = false := by simpa using e1
  have t2 : (wd (m + 1440) == (wd m + 1) % 7) = true := by simpa using e2
  have t21 : (wd (m + 1440) != (wd m + 1) % 7) = false := by simpa using e2
  have t3 : (wd (m + 1) * 1440 + vm (m + 1) % 1440 == (wd m * 1440 + vm m % 1440 + 1) % 10080) = true := by simpa using e3
  clear v0 v1 v2 e1 e2 e3 LA
  go_enter Tryd.func8, Tryd.ntmps8
  go_wp2_with fail
  refine (of_any n _ T.out).mono ?_
  rintro e w1 ⟨rfl, hb⟩
  have B1 := Lib.hid hb
  have T1 := Lib.hid (T.out.below hb)
  clear hb
  go_wp2_with fail
  refine (of_any m _ T1.out).mono ?_
  rintro e w2 ⟨rfl, hb⟩
  have B2 := Lib.hid (B1.out.trans (hb.mono B1.out.size))
  have T2 := Lib.hid (T1.out.below hb)
  clear hb
  go_wp2_with fail
  refine (LAT.out _).mono ?_
  rintro e w3 ⟨rfl, hb⟩
  have B3 := Lib.hid (B2.out.trans (hb.mono B2.out.size))
  have T3 := Lib.hid (T2.out.below hb)
  clear hb
  go_wp2_with (first
    | (go_at_call 16; refine (wday_any _ _).mono ?_; rintro e w' ⟨rfl, rfl⟩)
    | (go_at_call 18; refine (ofday_any _ _).mono ?_; rintro e w' ⟨rfl, rfl⟩)
    | (go_at_call 20; refine (ofweek_any _ _).mono ?_; rintro e w' ⟨rfl, rfl⟩))
  trace_state
  refine (awake_any _ T3.out).mono ?_
  rintro e w4 ⟨rfl, hb⟩
  go_wp2_with fail
  go_ret
  exact outB rfl (B3.out.trans (hb.mono B3.out.size))
end Go.Proofs.YtoodfiicoplbhaaDoor
