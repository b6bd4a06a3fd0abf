/- Routes in memory; the reference's limit, finite, usable, find. -/
import Derived.Test.YtcfnkfkdhcejeaaGr
import Derived.Test.YtcfnkfkdhcejeaaRPlain
set_option linter.unusedVariables false
namespace Go.Proofs.Ytcfnkfkdhcejeaa.Rte
open Go.RowKit

/-- A route in cells. -/
def fR : Flat Rt := ⟨4, fun c => [.int .i64 c.1, .int .i64 c.2.1, .int .i64 c.2.2.1, .int .i64 c.2.2.2], fun c => I64 c.1 ∧ I64 c.2.1 ∧ I64 c.2.2.1 ∧ I64 c.2.2.2, by decide, fun _ => rfl, fun _ v h => by simp at h; rcases h with rfl | rfl | rfl | rfl <;> rfl⟩
abbrev RtAt (w : World) (B : Nat) (A : Option Addr) (l : List Rt) : Prop := FlAt fR w B A l
theorem rt_cell {w : World} {B : Nat} {A : Option Addr} {l : List Rt} (h : RtAt w B A l) (i : Nat) (hi : i < l.length) : ∃ b p, A = some ⟨b, p, none⟩ ∧ b < B ∧ w.cell? ⟨b, p + i * 4, none⟩ = some (.int .i64 l[i].1) ∧ w.cell? ⟨b, p + i * 4 + 1, none⟩ = some (.int .i64 l[i].2.1) ∧ w.cell? ⟨b, p + i * 4 + 2, none⟩ = some (.int .i64 l[i].2.2.1) ∧ w.cell? ⟨b, p + i * 4 + 3, none⟩ = some (.int .i64 l[i].2.2.2) ∧
    I64 l[i].1 ∧ I64 l[i].2.1 ∧ I64 l[i].2.2.1 ∧ I64 l[i].2.2.2 := by
  obtain ⟨b, p, h1, h2, h3, h4⟩ := h i hi
  exact ⟨b, p, h1, h2, h3 0 _ rfl, h3 1 _ rfl, h3 2 _ rfl, h3 3 _ rfl, h4.1, h4.2.1, h4.2.2.1, h4.2.2.2⟩
/-- The block of one route. -/
abbrev bxR (a b c d : Int) : Obj := .cells #[.int .i64 a, .int .i64 b, .int .i64 c, .int .i64 d] 43
/-- A route as a value. -/
abbrev rtV (x : Rt) : Value := .agg #[.int .i64 x.1, .int .i64 x.2.1, .int .i64 x.2.2.1, .int .i64 x.2.2.2]

theorem rlimit_any (n : Int) (w : World) : Calls Try.prog 32 #[.int .i64 n] w fun e w' => e = .returned (.int .i64 (lim n)) ∧ w = w' := by
  go_enter Try.func32, Try.ntmps32
  go_wp2
  all_goals (go_ret; refine ⟨ret_int ?_, rfl⟩; unfold lim; (repeat' split) <;> omega)
set_option maxHeartbeats 1000000 in
theorem rfinite_any (x : Rt) (w : World) : Calls Try.prog 39 #[rtV x] w (OutG w (.bool (decide (Fin1 x)))) := by
  obtain ⟨a, s, c, n⟩ := x
  by_cases c1 : 0 ≤ c
  · have R := Lib.hid (show decide (Fin1 (a, s, c, n)) = decide (c ≤ 200) from decide_eq_decide.2 ⟨fun h => h.2, fun h => ⟨c1, h⟩⟩)
    have d1 := dt c1
    go_enter Try.func39, Try.ntmps39
    go_wp2_with fail
    go_ret
    exact outG_alloc _ (congrArg Value.bool R.out.symm)
  · have R := Lib.hid (show decide (Fin1 (a, s, c, n)) = false from df (fun h => c1 h.1))
    have d1 := df c1
    go_enter Try.func39, Try.ntmps39
    go_wp2_with fail
    go_ret
    exact outG_alloc _ (congrArg Value.bool R.out.symm)
set_option maxHeartbeats 1000000 in
theorem rusable_any (x : Rt) (w : World) : Calls Try.prog 38 #[rtV x] w (OutG w (.bool (decide (Us1 x)))) := by
  obtain ⟨a, s, c, n⟩ := x
  have KF := Lib.hid (fun w => (show Calls Try.prog 39 #[.agg #[.int .i64 a, .int .i64 s, .int .i64 c, .int .i64 n]] w (OutG w (.bool (decide (Fin1 (a, s, c, n))))) from rfinite_any (a, s, c, n) w))
  by_cases c1 : a < 0
  · have d1 := dt c1
    have R := Lib.hid (show decide (Us1 (a, s, c, n)) = false from df (fun h => by have := h.1.1.1; dsimp only at this; omega))
    clear KF
    go_enter Try.func38, Try.ntmps38
    go_wp2_with fail
    go_ret
    exact outG_alloc _ (congrArg Value.bool R.out.symm)
  have d1 := df c1
  by_cases c2 : 250 < a
  · have d2 := dt c2
    have R := Lib.hid (show decide (Us1 (a, s, c, n)) = false from df (fun h => by have := h.1.1.2; dsimp only at this; omega))
    clear KF
    go_enter Try.func38, Try.ntmps38
    go_wp2_with fail
    go_ret
    exact outG_alloc _ (congrArg Value.bool R.out.symm)
  have d2 := df c2
  by_cases c3 : s < 0
  · have d3 := dt c3
    have R := Lib.hid (show decide (Us1 (a, s, c, n)) = false from df (fun h => by have := h.1.2.1; dsimp only at this; omega))
    clear KF
    go_enter Try.func38, Try.ntmps38
    go_wp2_with fail
    go_ret
    exact outG_alloc _ (congrArg Value.bool R.out.symm)
  have d3 := df c3
  by_cases c4 : 65535 < s
  · have d4 := dt c4
    have R := Lib.hid (show decide (Us1 (a, s, c, n)) = false from df (fun h => by have := h.1.2.2; dsimp only at this; omega))
    clear KF
    go_enter Try.func38, Try.ntmps38
    go_wp2_with fail
    go_ret
    exact outG_alloc _ (congrArg Value.bool R.out.symm)
  have d4 := df c4
  have hr : (0 ≤ a ∧ a ≤ 250) ∧ (0 ≤ s ∧ s ≤ 65535) := by omega
  have hm : s.tmod 2 = s % 2 := Int.tmod_eq_emod_of_nonneg hr.2.1
  have TAIL : ∀ (q : Bool), decide (Fin1 (a, s, c, n)) = q → ∀ (m : Bool), (s.tmod 2 == 0) = m → ∀ (k : Bool), (c == 255) = k → decide (Us1 (a, s, c, n)) = ((q && m) || k) := by
    intro q hq m hm' k hk
    subst hq hm' hk
    rw [hm, Bool.eq_iff_iff]
    simp only [decide_eq_true_eq, Bool.or_eq_true, Bool.and_eq_true, beq_iff_eq]
    exact ⟨fun h => h.2, fun h => ⟨hr, h⟩⟩
  have T := Lib.hid TAIL
  clear TAIL hm hr c1 c2 c3 c4
  have hq := T.out _ rfl
  cases q : decide (Fin1 (a, s, c, n)) with
  | true =>
    rw [q] at KF
    cases m : (s.tmod 2 == 0) with
    | true =>
      have R := Lib.hid (show decide (Us1 (a, s, c, n)) = true from by rw [T.out _ q _ m _ rfl]; rfl)
      clear q T hq
      go_enter Try.func38, Try.ntmps38
      go_wp2_with fail
      refine (KF.out _).mono ?_
      rintro _ w1 ⟨rfl, q1, os1, hW⟩
      have hb : Below (w.alloc (bxR a s c n)).heap.size (w.alloc (bxR a s c n)) w1 := by rw [hW]; exact grown_below _ _ _
      have HW := Lib.hid hW
      have c1 := box_at hb 1 (v := .int .i64 s) rfl
      have c2 := box_at hb 2 (v := .int .i64 c) rfl
      clear hb KF hW
      go_wp2_with fail
      go_ret
      exact outG_same (w := w) (by rw [HW.out, grown_alloc, grown_more]) (congrArg Value.bool R.out.symm)
    | false =>
      have R := Lib.hid (show decide (Us1 (a, s, c, n)) = (c == 255) from by rw [T.out _ q _ m _ rfl]; rfl)
      clear q T hq
      go_enter Try.func38, Try.ntmps38
      go_wp2_with fail
      refine (KF.out _).mono ?_
      rintro _ w1 ⟨rfl, q1, os1, hW⟩
      have hb : Below (w.alloc (bxR a s c n)).heap.size (w.alloc (bxR a s c n)) w1 := by rw [hW]; exact grown_below _ _ _
      have HW := Lib.hid hW
      have c1 := box_at hb 1 (v := .int .i64 s) rfl
      have c2 := box_at hb 2 (v := .int .i64 c) rfl
      clear hb KF hW
      go_wp2_with fail
      go_ret
      exact outG_same (w := w) (by rw [HW.out, grown_alloc, grown_more]) (congrArg Value.bool R.out.symm)
  | false =>
    rw [q] at KF
    have R := Lib.hid (show decide (Us1 (a, s, c, n)) = (c == 255) from by rw [T.out _ q _ rfl _ rfl]; rfl)
    clear q T hq
    go_enter Try.func38, Try.ntmps38
    go_wp2_with fail
    refine (KF.out _).mono ?_
    rintro _ w1 ⟨rfl, q1, os1, hW⟩
    have hb : Below (w.alloc (bxR a s c n)).heap.size (w.alloc (bxR a s c n)) w1 := by rw [hW]; exact grown_below _ _ _
    have HW := Lib.hid hW
    have c1 := box_at hb 1 (v := .int .i64 s) rfl
    have c2 := box_at hb 2 (v := .int .i64 c) rfl
    clear hb KF hW
    go_wp2_with fail
    go_ret
    exact outG_same (w := w) (by rw [HW.out, grown_alloc, grown_more]) (congrArg Value.bool R.out.symm)
end Go.Proofs.Ytcfnkfkdhcejeaa.Rte
