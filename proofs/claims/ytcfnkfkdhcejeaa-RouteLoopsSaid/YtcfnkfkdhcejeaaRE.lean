/- Contracts of package route: limited, own, lost, isAddress, isFinite, isUsable, isBetter. -/
import Derived.Test.YtcfnkfkdhcejeaaRC
set_option linter.unusedVariables false
namespace Go.Proofs.Ytcfnkfkdhcejeaa.Rte
open Go.RowKit

theorem limited_any (n : Int) (w : World) : Calls Try.prog 31 #[.int .i64 n] w fun e w' => e = .returned (.int .i64 (lim n)) ∧ w = w' := by
  go_enter Try.func31, Try.ntmps31
  go_wp2
  all_goals (go_ret; refine ⟨ret_int ?_, rfl⟩; unfold lim; (repeat' split) <;> omega)
theorem isAddress_any (n : Int) (w : World) : Calls Try.prog 33 #[.int .i64 n] w fun e w' => e = .returned (.bool (decide (0 ≤ n ∧ n ≤ 250))) ∧ w = w' := by
  by_cases c1 : 0 ≤ n
  · by_cases c2 : n ≤ 250
    · have R := Lib.hid (show decide (0 ≤ n ∧ n ≤ 250) = true from dt ⟨c1, c2⟩)
      go_enter Try.func33, Try.ntmps33
      go_wp2_with fail
      go_ret
      exact ⟨ret_bool (by first | rfl | exact R.out.symm), rfl⟩
    · have R := Lib.hid (show decide (0 ≤ n ∧ n ≤ 250) = false from df (fun h => c2 h.2))
      have d1 := df c2
      go_enter Try.func33, Try.ntmps33
      go_wp2_with fail
      go_ret
      exact ⟨ret_bool (by first | rfl | exact R.out.symm), rfl⟩
  · have R := Lib.hid (show decide (0 ≤ n ∧ n ≤ 250) = false from df (fun h => c1 h.1))
    have d1 := df c1
    go_enter Try.func33, Try.ntmps33
    go_wp2_with fail
    go_ret
    exact ⟨ret_bool (by first | rfl | exact R.out.symm), rfl⟩
set_option maxHeartbeats 1000000 in
theorem isFinite_any (x : Rt) (w : World) : Calls Try.prog 49 #[rtV x] w (OutG w (.bool (decide (Fin1 x)))) := by
  obtain ⟨a, s, c, n⟩ := x
  by_cases c1 : 0 ≤ c
  · have R := Lib.hid (show decide (Fin1 (a, s, c, n)) = decide (c ≤ 200) from decide_eq_decide.2 ⟨fun h => h.2, fun h => ⟨c1, h⟩⟩)
    have d1 := dt c1
    go_enter Try.func49, Try.ntmps49
    go_wp2_with fail
    go_ret
    exact outG_alloc _ (congrArg Value.bool R.out.symm)
  · have R := Lib.hid (show decide (Fin1 (a, s, c, n)) = false from df (fun h => c1 h.1))
    have d1 := df c1
    go_enter Try.func49, Try.ntmps49
    go_wp2_with fail
    go_ret
    exact outG_alloc _ (congrArg Value.bool R.out.symm)
theorem isBetter_any (x y : Rt) (w : World) : Calls Try.prog 59 #[rtV x, rtV y] w (OutG w (.bool (decide (Btr x y)))) := by
  obtain ⟨a, s, c, n⟩ := x
  obtain ⟨a', s', c', n'⟩ := y
  by_cases c1 : s' < s
  · have R := Lib.hid (show decide (Btr (a, s, c, n) (a', s', c', n')) = true from dt (Or.inl c1))
    have d1 := dt c1
    go_enter Try.func59, Try.ntmps59
    go_wp2_with fail
    go_ret
    exact outG_on (grown_alloc w _) (outG_alloc _ (congrArg Value.bool R.out.symm))
  · have d1 := df c1
    by_cases c2 : s = s'
    · have R := Lib.hid (show decide (Btr (a, s, c, n) (a', s', c', n')) = decide (c < c') from decide_eq_decide.2 ⟨fun h => h.elim (fun h => absurd h c1) (fun h => h.2), fun h => Or.inr ⟨c2, h⟩⟩)
      have d2 : (s == s') = true := by simpa using c2
      clear c1 c2
      go_enter Try.func59, Try.ntmps59
      go_wp2_with fail
      go_ret
      exact outG_on (grown_alloc w _) (outG_alloc _ (congrArg Value.bool R.out.symm))
    · have R := Lib.hid (show decide (Btr (a, s, c, n) (a', s', c', n')) = false from df (fun h => h.elim (fun h => c1 h) (fun h => c2 h.1)))
      have d2 : (s == s') = false := by simpa using c2
      clear c1 c2
      go_enter Try.func59, Try.ntmps59
      go_wp2_with fail
      go_ret
      exact outG_on (grown_alloc w _) (outG_alloc _ (congrArg Value.bool R.out.symm))
theorem lost_any (d s : Int) (w : World) : Calls Try.prog 48 #[.int .i64 d, .int .i64 s] w (OutG w (rtV (d, s, 255, 255))) := by
  go_enter Try.func48, Try.ntmps48
  go_wp2_with fail
  exact bodyPost_ret (v := rtV (d, s, 255, 255)) (by simp [results, Try.results48, go_sem]) rfl (outG_alloc _ rfl)
theorem own_any (d s : Int) (w : World) : Calls Try.prog 30 #[.int .i64 d, .int .i64 s] w (OutG w (rtV (d, s, 0, d))) := by
  go_enter Try.func30, Try.ntmps30
  go_wp2_with fail
  exact bodyPost_ret (v := rtV (d, s, 0, d)) (by simp [results, Try.results30, go_sem]) rfl (outG_alloc _ rfl)
set_option maxHeartbeats 1000000 in
theorem isUsable_any (x : Rt) (w : World) : Calls Try.prog 43 #[rtV x] w (OutG w (.bool (decide (Us1 x)))) := by
  obtain ⟨a, s, c, n⟩ := x
  have KF := Lib.hid (fun w => (show Calls Try.prog 49 #[.agg #[.int .i64 a, .int .i64 s, .int .i64 c, .int .i64 n]] w (OutG w (.bool (decide (Fin1 (a, s, c, n))))) from isFinite_any (a, s, c, n) w))
  have KA := Lib.hid (fun w => isAddress_any a w)
  by_cases c1 : 0 ≤ a ∧ a ≤ 250
  rotate_left
  · have R := Lib.hid (show decide (Us1 (a, s, c, n)) = false from df (fun h => c1 h.1.1))
    rw [df c1] at KA
    clear KF c1
    go_enter Try.func43, Try.ntmps43
    go_wp2_with (go_at_call 33; refine (KA.out _).mono ?_; rintro e w' ⟨rfl, rfl⟩)
    go_ret
    exact outG_alloc _ (congrArg Value.bool R.out.symm)
  rw [dt c1] at KA
  by_cases c3 : s < 0
  · have d3 := dt c3
    have R := Lib.hid (show decide (Us1 (a, s, c, n)) = false from df (fun h => by have := h.1.2.1; dsimp only at this; omega))
    clear KF
    go_enter Try.func43, Try.ntmps43
    go_wp2_with (go_at_call 33; refine (KA.out _).mono ?_; rintro e w' ⟨rfl, rfl⟩)
    go_ret
    exact outG_alloc _ (congrArg Value.bool R.out.symm)
  have d3 := df c3
  by_cases c4 : 65535 < s
  · have d4 := dt c4
    have R := Lib.hid (show decide (Us1 (a, s, c, n)) = false from df (fun h => by have := h.1.2.2; dsimp only at this; omega))
    clear KF
    go_enter Try.func43, Try.ntmps43
    go_wp2_with (go_at_call 33; refine (KA.out _).mono ?_; rintro e w' ⟨rfl, rfl⟩)
    go_ret
    exact outG_alloc _ (congrArg Value.bool R.out.symm)
  have d4 := df c4
  have hr : (0 ≤ a ∧ a ≤ 250) ∧ (0 ≤ s ∧ s ≤ 65535) := ⟨c1, by omega⟩
  have hm : s.tmod 2 = s % 2 := Int.tmod_eq_emod_of_nonneg hr.2.1
  have TAIL : ∀ (q : Bool), decide (Fin1 (a, s, c, n)) = q → ∀ (m : Bool), (s.tmod 2 == 0) = m → ∀ (k : Bool), (c == 255) = k → decide (Us1 (a, s, c, n)) = ((q && m) || k) := by
    intro q hq m hm' k hk
    subst hq hm' hk
    rw [hm, Bool.eq_iff_iff]
    simp only [decide_eq_true_eq, Bool.or_eq_true, Bool.and_eq_true, beq_iff_eq]
    exact ⟨fun h => h.2, fun h => ⟨hr, h⟩⟩
  have T := Lib.hid TAIL
  clear TAIL hm hr c1 c3 c4
  have hq := T.out _ rfl
  cases q : decide (Fin1 (a, s, c, n)) with
  | true =>
    rw [q] at KF
    cases m : (s.tmod 2 == 0) with
    | true =>
      have R := Lib.hid (show decide (Us1 (a, s, c, n)) = true from by rw [T.out _ q _ m _ rfl]; rfl)
      clear q T hq
      go_enter Try.func43, Try.ntmps43
      go_wp2_with (go_at_call 33; refine (KA.out _).mono ?_; rintro e w' ⟨rfl, rfl⟩)
      refine (KF.out _).mono ?_
      rintro _ w1 ⟨rfl, q1, os1, hW⟩
      have hb : Below (w.alloc (bxR a s c n)).heap.size (w.alloc (bxR a s c n)) w1 := by rw [hW]; exact grown_below _ _ _
      have HW := Lib.hid hW
      have c1 := box_at hb 1 (v := .int .i64 s) rfl
      have c2 := box_at hb 2 (v := .int .i64 c) rfl
      clear hb KF hW
      go_wp2_with fail
      go_ret
      exact outG_same (w := w) (by rw [HW.out, grown_alloc, grown_more]) (congrArg Value.bool R.out.symm)
    | false =>
      have R := Lib.hid (show decide (Us1 (a, s, c, n)) = (c == 255) from by rw [T.out _ q _ m _ rfl]; rfl)
      clear q T hq
      go_enter Try.func43, Try.ntmps43
      go_wp2_with (go_at_call 33; refine (KA.out _).mono ?_; rintro e w' ⟨rfl, rfl⟩)
      refine (KF.out _).mono ?_
      rintro _ w1 ⟨rfl, q1, os1, hW⟩
      have hb : Below (w.alloc (bxR a s c n)).heap.size (w.alloc (bxR a s c n)) w1 := by rw [hW]; exact grown_below _ _ _
      have HW := Lib.hid hW
      have c1 := box_at hb 1 (v := .int .i64 s) rfl
      have c2 := box_at hb 2 (v := .int .i64 c) rfl
      clear hb KF hW
      go_wp2_with fail
      go_ret
      exact outG_same (w := w) (by rw [HW.out, grown_alloc, grown_more]) (congrArg Value.bool R.out.symm)
  | false =>
    rw [q] at KF
    have R := Lib.hid (show decide (Us1 (a, s, c, n)) = (c == 255) from by rw [T.out _ q _ rfl _ rfl]; rfl)
    clear q T hq
    go_enter Try.func43, Try.ntmps43
    go_wp2_with (go_at_call 33; refine (KA.out _).mono ?_; rintro e w' ⟨rfl, rfl⟩)
    refine (KF.out _).mono ?_
    rintro _ w1 ⟨rfl, q1, os1, hW⟩
    have hb : Below (w.alloc (bxR a s c n)).heap.size (w.alloc (bxR a s c n)) w1 := by rw [hW]; exact grown_below _ _ _
    have HW := Lib.hid hW
    have c1 := box_at hb 1 (v := .int .i64 s) rfl
    have c2 := box_at hb 2 (v := .int .i64 c) rfl
    clear hb KF hW
    go_wp2_with fail
    go_ret
    exact outG_same (w := w) (by rw [HW.out, grown_alloc, grown_more]) (congrArg Value.bool R.out.symm)
end Go.Proofs.Ytcfnkfkdhcejeaa.Rte
