/- Contract of clock.At. -/
import Derived.Test.YtoodfiicoplbhaaDoorCC
set_option linter.unusedVariables false
namespace Go.Proofs.YtoodfiicoplbhaaDoor
open Go.RowKit

theorem box_at {w w1 : World} {cs : Array Value} {T : TypeId} (hb : Below (w.alloc (.cells cs T)).heap.size (w.alloc (.cells cs T)) w1) (j : Nat) {v : Value} (h : cs[j]? = some v) : w1.cell? ⟨w.heap.size, j, none⟩ = some v :=
  (hb.cell (p := ⟨w.heap.size, j, none⟩) (by simp)).trans (by simp [h])
theorem box_below {w w1 : World} {o : Obj} (hb : Below (w.alloc o).heap.size (w.alloc o) w1) : Below w.heap.size w w1 :=
  ((Below.refl w.heap.size w).alloc (Nat.le_refl _) o).trans (hb.mono (by simp))
/-- A number and a second one are handed back, and memory has only grown. -/
def OutT (w : World) (p : Int × Int) (e : Ending) (w' : World) : Prop := e = .returned (.tuple #[.int .i64 p.1, .int .i64 p.2]) ∧ Below w.heap.size w w'

set_option maxRecDepth 100000 in
set_option maxHeartbeats 1000000 in
theorem at_any (y m d h i : Int) (w : World) (hT : Tab w) :
    Calls Tryd.prog 11 #[dV y m d h i] w (OutT w (atR y m d h i)) := by
  have T := Lib.hid hT
  have ex := fun w hT => exists_any y m d h i w hT
  unfold dV at *
  clear hT
  by_cases hx : exD y m d h i
  · have X := Lib.hid hx
    rw [decide_eq_true hx] at ex
    have EX := Lib.hid ex
    obtain ⟨⟨y1, y2⟩, ⟨m1, m2⟩, ⟨d1, d2⟩, ⟨h1, h2⟩, i1, i2⟩ := hx
    have k1 := dbm_in y m
    have k3 := mlen_in y m
    have k2 := dby_far y y1
    have AM := Lib.hid (show (dby y + dbm y m + d - 1) * 1440 + h * 60 + i = atM y m d h i from rfl)
    have q1 : IntKind.i64.wrap (dby y + dbm y m) = dby y + dbm y m := IntWalk.i64_in _ ⟨by omega, by omega⟩
    have q2 : IntKind.i64.wrap (dby y + dbm y m + d) = dby y + dbm y m + d := IntWalk.i64_in _ ⟨by omega, by omega⟩
    have q3 : IntKind.i64.wrap (dby y + dbm y m + d - 1) = dby y + dbm y m + d - 1 := IntWalk.i64_in _ ⟨by omega, by omega⟩
    clear ex
    go_enter Tryd.func11, Tryd.ntmps11
    go_wp2_with fail
    refine (EX.out _ (T.out.alloc _)).mono ?_
    rintro e w1 ⟨rfl, hb⟩
    have B1 := Lib.hid (box_below hb)
    have T1 := Lib.hid (T.out.below (box_below hb))
    have c0 := box_at hb 0 (v := .int .i64 y) rfl
    have c1 := box_at hb 1 (v := .int .i64 m) rfl
    have c2 := box_at hb 2 (v := .int .i64 d) rfl
    have c3 := box_at hb 3 (v := .int .i64 h) rfl
    have c4 := box_at hb 4 (v := .int .i64 i) rfl
    clear hb
    go_wp2_with fail
    go_quiet ((first
      | (go_at_call 32; exact quiet_same (dby_any _ _ (by omega) (by omega) (T1.out.drewN _)))
      | (go_at_call 33; exact quiet_same (dbm_int _ _ _ (by omega) (by omega) (by omega) (T1.out.drewN _)))))
    clear q1 q2 q3
    by_cases hz : atM y m d h i ≤ 1073741824
    · have R := Lib.hid (atR_yes y m d h i X.out hz)
      have t1 := within_t (lo := 0) (hi := 1073741824) (n := (dby y + dbm y m + d - 1) * 1440 + h * 60 + i) ⟨by omega, by rw [AM.out]; exact hz⟩
      clear hz
      go_wp2_with (go_at_call 34; refine (ismin_any _ _).mono ?_; rintro e w' ⟨rfl, rfl⟩)
      exact bodyPost_ret (v := .tuple #[.int .i64 ((dby y + dbm y m + d - 1) * 1440 + h * 60 + i), .int .i64 0]) (by simp [results, Tryd.results11, go_sem]) rfl ⟨by rw [R.out, AM.out], below_drewN B1.out _⟩
    · have R := Lib.hid (atR_no y m d h i (fun q => hz q.2))
      have t1 := within_f (lo := 0) (hi := 1073741824) (n := (dby y + dbm y m + d - 1) * 1440 + h * 60 + i) (fun q => hz (by rw [← AM.out]; exact q.2))
      clear hz
      go_wp2_with (go_at_call 34; refine (ismin_any _ _).mono ?_; rintro e w' ⟨rfl, rfl⟩)
      exact bodyPost_ret (v := .tuple #[.int .i64 0, .int .i64 2]) (by simp [results, Tryd.results11, go_sem]) rfl ⟨by rw [R.out], below_drewN B1.out _⟩
  · have R := Lib.hid (atR_no y m d h i (fun q => hx q.1))
    rw [decide_eq_false hx] at ex
    have EX := Lib.hid ex
    clear ex hx
    go_enter Tryd.func11, Tryd.ntmps11
    go_wp2_with fail
    refine (EX.out _ (T.out.alloc _)).mono ?_
    rintro e w1 ⟨rfl, hb⟩
    have B1 := Lib.hid (box_below hb)
    clear hb
    go_wp2_with fail
    exact bodyPost_ret (v := .tuple #[.int .i64 0, .int .i64 2]) (by simp [results, Tryd.results11, go_sem]) rfl ⟨by rw [R.out], B1.out⟩
end Go.Proofs.YtoodfiicoplbhaaDoor
