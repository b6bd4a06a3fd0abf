/- Contracts of clock.Of, exists and At. -/
import Derived.Test.YtoodfiicoplbhaaDoorCB
import Derived.Below
set_option linter.unusedVariables false
namespace Go.Proofs.YtoodfiicoplbhaaDoor
open Go.RowKit

/-- A date as a value. -/
def dV (y m d h i : Int) : Value := .agg #[.int .i64 y, .int .i64 m, .int .i64 d, .int .i64 h, .int .i64 i]
noncomputable def ofV (m : Int) : Value := dV (oY m) (oM m) (oD m) (oH m) (oI m)
/-- A value is handed back, and memory has only grown. -/
def OutV (w : World) (v : Value) (e : Ending) (w' : World) : Prop := e = .returned v ∧ Below w.heap.size w w'
theorem Tab.alloc {w : World} (h : Tab w) (o : Obj) : Tab (w.alloc o) := h.below ((Below.refl _ _).alloc (Nat.le_refl _) o)

theorem dbm_int (y m : Int) (w : World) (h0 : 0 ≤ y) (h1 : 1 ≤ m) (h2 : m ≤ 13) (hT : Tab w) :
    Calls Tryd.prog 33 #[.int .i64 y, .int .i64 m] w fun e w' => e = .returned (.int .i64 (dbm y m)) ∧ w = w' := by
  obtain ⟨k, rfl⟩ : ∃ k : Nat, m = (k : Int) + 1 := ⟨(m - 1).toNat, by omega⟩
  exact dbm_any y k w h0 (by omega) hT

set_option maxRecDepth 100000 in
set_option maxHeartbeats 1000000 in
theorem of_any (m : Int) (w : World) (hT : Tab w) :
    Calls Tryd.prog 13 #[.int .i64 m] w (OutV w (ofV m)) := by
  have T := Lib.hid hT
  have hv := vm_in m
  have hy := oY_in m
  have hr : 0 ≤ vm m / 1440 - dby (oY m) ∧ vm m / 1440 - dby (oY m) < 365 + lp (oY m) := oR_in m
  have hm := oM_in m
  have hb := dbm_in (oY m) (oM m)
  have hl := lp_in (oY m)
  have d1 := dby_far (oY m) hy.1
  have EY := Lib.hid (show yr (vm m / 1440) = oY m from rfl)
  have EM := Lib.hid (show mo (oY m) (vm m / 1440 - dby (oY m)) = oM m from rfl)
  have ED := Lib.hid (show vm m / 1440 - dby (oY m) - dbm (oY m) (oM m) + 1 = oD m from rfl)
  have EH := Lib.hid (show vm m % 1440 / 60 = oH m from rfl)
  have EI := Lib.hid (show vm m % 1440 % 60 = oI m by unfold oI; omega)
  have EV := Lib.hid (show ofV m = dV (oY m) (oM m) (oD m) (oH m) (oI m) from rfl)
  have ek : (((oM m - 1).toNat : Nat) : Int) + 1 = oM m := by omega
  have EK := Lib.hid ek
  clear hT ek
  go_enter Tryd.func13, Tryd.ntmps13
  go_wp2_with (first
    | (go_at_call 37; refine (dayof_any _ _).mono ?_; rintro e w' ⟨rfl, rfl⟩)
    | (go_at_call 18; refine (ofday_any _ _).mono ?_; rintro e w' ⟨rfl, rfl⟩)
    | (go_at_call 38; refine (yearof_any _ _ (by omega) (by omega) (T.out.alloc _)).mono ?_; rintro e w' ⟨rfl, rfl⟩; rw [EY.out]))
  refine (dby_any _ _ (by omega) (by omega) (T.out.alloc _)).mono ?_
  rintro e w' ⟨rfl, rfl⟩
  go_wp2_with fail
  refine (monthof_any _ _ _ (by omega) (by omega) (by omega) (T.out.alloc _)).mono ?_
  rintro e w' ⟨rfl, rfl⟩
  rw [EM.out]
  go_wp2_with fail
  rw [← EK.out]
  refine (dbm_any _ _ _ (by omega) (by omega) (T.out.alloc _)).mono ?_
  rintro e w' ⟨rfl, rfl⟩
  rw [EK.out]
  go_wp2_with fail
  exact bodyPost_ret (v := ofV m) (by simp [results, Tryd.results13, go_sem]; rfl) rfl ⟨rfl, (Below.refl _ _).alloc (Nat.le_refl _) _⟩

/-- A test's answer, and memory has only grown. -/
def OutB (w : World) (b : Bool) (e : Ending) (w' : World) : Prop := e = .returned (.bool b) ∧ Below w.heap.size w w'
theorem outB {w w' : World} {a b : Bool} (h : a = b) (hb : Below w.heap.size w w') : OutB w b (.returned (.bool a)) w' := ⟨by rw [h], hb⟩
def within (lo hi n : Int) : Bool := decide (lo ≤ n) && decide (n ≤ hi)
theorem within_t {lo hi n : Int} (h : lo ≤ n ∧ n ≤ hi) : (decide (lo ≤ n) && decide (n ≤ hi)) = true := by simp [h.1, h.2]
theorem within_f {lo hi n : Int} (h : ¬ (lo ≤ n ∧ n ≤ hi)) : (decide (lo ≤ n) && decide (n ≤ hi)) = false := by simp; omega

set_option maxRecDepth 100000 in
set_option maxHeartbeats 1000000 in
theorem exists_any (y m d h i : Int) (w : World) (hT : Tab w) :
    Calls Tryd.prog 31 #[dV y m d h i] w (OutB w (decide (exD y m d h i))) := by
  have T := Lib.hid hT
  unfold dV
  clear hT
  by_cases hy : 2000 ≤ y ∧ y ≤ 4041
  · by_cases hm : 1 ≤ m ∧ m ≤ 12
    · have c1 := within_t hy
      have c2 := within_t hm
      obtain ⟨m1, m2⟩ := hm
      obtain ⟨y1, y2⟩ := hy
      have w1 : IntKind.i64.wrap (m + 1) = m + 1 := IntWalk.i64_in _ ⟨by omega, by omega⟩
      have k1 := dbm_in y m
      have k2 := dbm_in y (m + 1)
      have w2 : IntKind.i64.wrap (dbm y (m + 1) - dbm y m) = mlen y m := by
        rw [dbm_step y m m1 m2]
        have := mlen_in y m
        rw [show dbm y m + mlen y m - dbm y m = mlen y m by omega]
        exact IntWalk.i64_in _ ⟨by omega, by omega⟩
      have E : Hid (∀ b, ((decide (1 ≤ d) && decide (d ≤ b)) && (decide (0 ≤ h) && decide (h ≤ 23)) && (decide (0 ≤ i) && decide (i ≤ 59))) = decide ((1 ≤ d ∧ d ≤ b) ∧ (0 ≤ h ∧ h ≤ 23) ∧ (0 ≤ i ∧ i ≤ 59))) := Lib.hid (by
        intro b
        rw [Bool.eq_iff_iff]; simp [and_assoc])
      have X := Lib.hid (show exD y m d h i ↔ (1 ≤ d ∧ d ≤ mlen y m) ∧ (0 ≤ h ∧ h ≤ 23) ∧ (0 ≤ i ∧ i ≤ 59) from ⟨fun q => q.2.2, fun q => ⟨⟨y1, y2⟩, ⟨m1, m2⟩, q⟩⟩)
      go_enter Tryd.func31, Tryd.ntmps31
      go_wp2_with (go_at_call 44; refine (within_any _ _ _ _).mono ?_; rintro e w' ⟨rfl, rfl⟩)
      go_quiet ((go_at_call 33; exact quiet_same (dbm_int _ _ _ (by omega) (by omega) (by omega) ((T.out.alloc _).drewN _))))
      go_wp2_with (go_at_call 44; refine (within_any _ _ _ _).mono ?_; rintro e w' ⟨rfl, rfl⟩)
      all_goals (go_ret; refine outB ?_ (below_drewN ((Below.refl _ _).alloc (Nat.le_refl _) _) _); rw [Bool.eq_iff_iff, decide_eq_true_eq, X.out]; simp <;> omega)
    · have c1 := within_t hy
      have c2 := within_f hm
      have X := Lib.hid (show ¬ exD y m d h i from fun q => hm q.2.1)
      clear hy hm
      go_enter Tryd.func31, Tryd.ntmps31
      go_wp2_with (go_at_call 44; refine (within_any _ _ _ _).mono ?_; rintro e w' ⟨rfl, rfl⟩)
      go_ret
      exact outB (decide_eq_false X.out).symm ((Below.refl _ _).alloc (Nat.le_refl _) _)
  · have c1 := within_f hy
    have X := Lib.hid (show ¬ exD y m d h i from fun q => hy q.1)
    clear hy
    go_enter Tryd.func31, Tryd.ntmps31
    go_wp2_with (go_at_call 44; refine (within_any _ _ _ _).mono ?_; rintro e w' ⟨rfl, rfl⟩)
    go_ret
    exact outB (decide_eq_false X.out).symm ((Below.refl _ _).alloc (Nat.le_refl _) _)
end Go.Proofs.YtoodfiicoplbhaaDoor
