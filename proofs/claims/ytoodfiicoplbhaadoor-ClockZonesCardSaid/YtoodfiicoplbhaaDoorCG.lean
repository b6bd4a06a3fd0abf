/- Contract of the reference's Of. -/
import Derived.Test.YtoodfiicoplbhaaDoorCE
import Derived.Deep.RegionWith
set_option linter.unusedVariables false
namespace Go.Proofs.YtoodfiicoplbhaaDoor
open Go.RowKit

/-- The block holds this date. -/
def DB (w : World) (b : Nat) (y m d h i : Int) : Prop :=
  w.heap[b]? = some (.cells #[.int .i64 y, .int .i64 m, .int .i64 d, .int .i64 h, .int .i64 i] 23 (0, 0))
section
variable {w w' : World} {b : Nat} {y m d h i : Int}
theorem DB.lt (q : DB w b y m d h i) : b < w.heap.size := (Array.getElem?_eq_some_iff.1 q).1
theorem DB.c0 (q : DB w b y m d h i) : w.cell? ⟨b, 0, none⟩ = some (.int .i64 y) := cell_of_row w b 0 _ _ (0, 0) q
theorem DB.c1 (q : DB w b y m d h i) : w.cell? ⟨b, 1, none⟩ = some (.int .i64 m) := cell_of_row w b 1 _ _ (0, 0) q
theorem DB.c2 (q : DB w b y m d h i) : w.cell? ⟨b, 2, none⟩ = some (.int .i64 d) := cell_of_row w b 2 _ _ (0, 0) q
theorem DB.c3 (q : DB w b y m d h i) : w.cell? ⟨b, 3, none⟩ = some (.int .i64 h) := cell_of_row w b 3 _ _ (0, 0) q
theorem DB.c4 (q : DB w b y m d h i) : w.cell? ⟨b, 4, none⟩ = some (.int .i64 i) := cell_of_row w b 4 _ _ (0, 0) q
theorem DB.fr (q : DB w b y m d h i) (j : Nat) : w.frozen? ⟨b, j, none⟩ = false := by
  unfold DB at q; simp [World.frozen?, q]
theorem DB.set0 (q : DB w b y m d h i) (n : Int) : DB (w.setCell ⟨b, 0, none⟩ (.int .i64 n)) b n m d h i := by
  unfold DB at q ⊢; simp [World.setCell, Array.getElem?_modify, q]
theorem DB.set1 (q : DB w b y m d h i) (n : Int) : DB (w.setCell ⟨b, 1, none⟩ (.int .i64 n)) b y n d h i := by
  unfold DB at q ⊢; simp [World.setCell, Array.getElem?_modify, q]
theorem DB.set2 (q : DB w b y m d h i) (n : Int) : DB (w.setCell ⟨b, 2, none⟩ (.int .i64 n)) b y m n h i := by
  unfold DB at q ⊢; simp [World.setCell, Array.getElem?_modify, q]
theorem DB.set3 (q : DB w b y m d h i) (n : Int) : DB (w.setCell ⟨b, 3, none⟩ (.int .i64 n)) b y m d n i := by
  unfold DB at q ⊢; simp [World.setCell, Array.getElem?_modify, q]
theorem DB.set4 (q : DB w b y m d h i) (n : Int) : DB (w.setCell ⟨b, 4, none⟩ (.int .i64 n)) b y m d h n := by
  unfold DB at q ⊢; simp [World.setCell, Array.getElem?_modify, q]
theorem DB.other (q : DB w b y m d h i) (c j : Nat) (u : Value) (hne : b ≠ c) : DB (w.setCell ⟨c, j, none⟩ u) b y m d h i := by
  unfold DB at q ⊢; rw [Below.heap_setCell _ _ _ _ hne]; exact q
theorem DB.drewN (q : DB w b y m d h i) (n : Nat) : DB (w.drewN n) b y m d h i := q
end
/-- The number that a cell holds. -/
def numAt (w : World) (b j : Nat) : Int := match w.cell? ⟨b, j, none⟩ with | some v => intOf v | none => 0
theorem numAt_eq {w : World} {b j : Nat} {n : Int} (h : w.cell? ⟨b, j, none⟩ = some (.int .i64 n)) : numAt w b j = n := by unfold numAt; rw [h]; rfl

set_option maxRecDepth 100000 in
set_option maxHeartbeats 2000000 in
theorem rof_any (m : Int) (w : World) :
    Calls Tryd.prog 14 #[.int .i64 m] w (OutV w (ofV m)) := by
  have hv := vm_in m
  have E1 := Lib.hid (show ∀ Y, YrIs (vm m / 1440) Y → oY m = Y from fun Y q => yr_eq q)
  go_enter Tryd.func14, Tryd.ntmps14
  go_wp2_with (go_at_call 40; refine (rvalid_any _ _).mono ?_; rintro e w' ⟨rfl, rfl⟩)
  go_loopw [] (fun wr => ∃ Y D : Int, 2000 ≤ Y ∧ Y ≤ 6000 ∧ 0 ≤ D ∧ D + dby Y = vm m / 1440 ∧ DB wr w.heap.size 0 0 0 0 0 ∧ DB wr (w.heap.size + 1) Y 1 D (vm m % 1440 / 60) (vm m % 60) ∧ Below w.heap.size w wr) (fun wr => (numAt wr (w.heap.size + 1) 2).toNat)
  case atStart => exact ⟨2000, vm m / 1440, by omega, by omega, by omega, by rw [dby_zero]; omega, (Below.heap_alloc _ _ _ (by simp)).trans (heap_alloc_new _ _), by rw [show w.heap.size + 1 = (w.alloc (Obj.cells #[.int .i64 0, .int .i64 0, .int .i64 0, .int .i64 0, .int .i64 0] 23)).heap.size by simp]; exact heap_alloc_new _ _, ((Below.refl _ _).alloc (Nat.le_refl _) _).alloc (by simp) _⟩
  case round =>
    obtain ⟨Y, D, y0, y1, d0, hd, Q0, Q1, hb⟩ := hrel
    have B := Lib.hid hb
    have P0 := Lib.hid Q0
    have P1 := Lib.hid Q1
    have c0 := Q1.c0
    have c2 := Q1.c2
    have f2 := Q1.fr 2
    have f0 := Q1.fr 0
    have hl := lp_in Y
    have HD := Lib.hid hd
    have far := dby_far Y y0
    clear hb Q0 Q1
    by_cases hge : 365 + lp Y ≤ D
    · have t := dt hge
      have y2 : Y ≤ 5000 := by omega
      have q1 : IntKind.i64.wrap (D - (365 + lp Y)) = D - (365 + lp Y) := IntWalk.i64_in _ ⟨by omega, by omega⟩
      have N := Lib.hid (numAt_eq c2)
      clear hd far
      go_wp2_with fail
      go_quiet ((go_at_call 36; exact quiet_same (ryear_any _ _ (by omega))))
      go_wp2_with fail
      go_region_with (go_at_call 36; refine (ryear_any _ _ (by omega)).mono ?_; rintro e w' ⟨rfl, rfl⟩)
      all_goals
        go_wp2_with fail
        go_roundw
        case rel => 
          exact ⟨Y + 1, D - (365 + lp Y), by omega, by omega, by omega, by rw [dby_step]; have := HD.out; omega, ((P0.out.drewN _).other _ _ _ (by omega)).other _ _ _ (by omega), ((P1.out.drewN _).set2 _).set0 _, ((below_drewN B.out _).setCell (Nat.le_succ _) _).setCell (Nat.le_succ _) _⟩
        case measure => 
          rw [N.out, numAt_eq ((((P1.out.drewN _).set2 _).set0 _).c2)]
          omega
    · have t := df hge
      obtain rfl : oY m = Y := E1.out Y ⟨by omega, by rw [dby_step]; omega⟩
      obtain rfl : D = oR m := by unfold oR; omega
      have hR := oR_in m
      have E2 := Lib.hid (show ∀ M, MoIs (oY m) (oR m) M → oM m = M from fun M q => mo_eq q)
      clear hd far hge
      go_wp2_with fail
      go_quiet ((go_at_call 36; exact quiet_same (ryear_any _ _ (by omega))))
      clear t c0 c2 f2 f0
      have P0 := Lib.hid (P0.out.drewN nq)
      have P1 := Lib.hid (P1.out.drewN nq)
      have B := Lib.hid (below_drewN B.out nq)
      generalize wr.drewN nq = W at *
      go_wp2_with fail
      go_loopw [] (fun wr => ∃ M D : Int, 1 ≤ M ∧ M ≤ 12 ∧ 0 ≤ D ∧ D + dbm (oY m) M = oR m ∧ DB wr w.heap.size 0 0 0 0 0 ∧ DB wr (w.heap.size + 1) (oY m) M D (vm m % 1440 / 60) (vm m % 60) ∧ Below w.heap.size w wr) (fun wr => (numAt wr (w.heap.size + 1) 2).toNat)
      case atStart => exact ⟨1, oR m, by omega, by omega, by omega, by rw [dbm_one]; omega, P0.out, P1.out, B.out⟩
      case round =>
        obtain ⟨M, D, m0, m1, d0, hd, Q0, Q1, hb⟩ := hrel
        have B := Lib.hid hb
        have P0 := Lib.hid Q0
        have P1 := Lib.hid Q1
        have c0 := Q1.c0
        have c1 := Q1.c1
        have c2 := Q1.c2
        have f2 := Q1.fr 2
        have f1 := Q1.fr 1
        have hl := mlen_in (oY m) M
        have HD := Lib.hid hd
        have ST := dbm_step (oY m) M m0 m1
        have hbm := dbm_in (oY m) M
        clear hb Q0 Q1
        by_cases hge : mlen (oY m) M ≤ D
        · have t := dt hge
          have m2 : M ≤ 11 := by
            rcases ilt_or 11 M with e | e
            · obtain rfl : M = 12 := by omega
              have := dbm_end (oY m)
              simp at ST
              omega
            · exact e
          have q1 : IntKind.i64.wrap (D - mlen (oY m) M) = D - mlen (oY m) M := IntWalk.i64_in _ ⟨by omega, by omega⟩
          have N := Lib.hid (numAt_eq c2)
          have ST := Lib.hid ST
          clear hd
          go_wp2_with fail
          go_quiet ((go_at_call 35; exact quiet_same (rmonth_any _ _ _ (by omega))))
          go_wp2_with fail
          go_region_with (go_at_call 35; refine (rmonth_any _ _ _ (by omega)).mono ?_; rintro e w' ⟨rfl, rfl⟩)
          all_goals
            go_wp2_with fail
            go_roundw
            case rel => 
              exact ⟨M + 1, D - mlen (oY m) M, by omega, by omega, by omega, by have := ST.out; have := HD.out; omega, ((P0.out.drewN _).other _ _ _ (by omega)).other _ _ _ (by omega), ((P1.out.drewN _).set2 _).set1 _, ((below_drewN B.out _).setCell (Nat.le_succ _) _).setCell (Nat.le_succ _) _⟩
            case measure => 
              rw [N.out, numAt_eq ((((P1.out.drewN _).set2 _).set1 _).c2)]
              omega
        · have t := df hge
          obtain rfl : oM m = M := E2.out M ⟨m0, m1, by omega, by rw [ST]; omega⟩
          obtain rfl : D = oR m - dbm (oY m) (oM m) := by omega
          have c3 := P1.out.c3
          have c4 := P1.out.c4
          have g0 := P0.out.fr 0
          have g1 := P0.out.fr 1
          have g2 := P0.out.fr 2
          have g3 := P0.out.fr 3
          have g4 := P0.out.fr 4
          have r0 := P0.out.c0
          have r1 := P0.out.c1
          have r2 := P0.out.c2
          have r3 := P0.out.c3
          have r4 := P0.out.c4
          have EV := Lib.hid (show ofV m = dV (oY m) (oM m) (oR m - dbm (oY m) (oM m) + 1) (vm m % 1440 / 60) (vm m % 60) from rfl)
          clear hd hge ST
          go_wp2_with fail
          go_quiet ((go_at_call 35; exact quiet_same (rmonth_any _ _ _ (by omega))))
          clear t
          go_wp2_with fail
          have R := ((((((P0.out.drewN nq).other (w.heap.size + 1) 2 (.int .i64 (oR m - dbm (oY m) (oM m) + 1)) (by omega)).set0 (oY m)).set1 (oM m)).set2 (oR m - dbm (oY m) (oM m) + 1)).set3 (vm m % 1440 / 60)).set4 (vm m % 60)
          have h0 := R.c0
          have h1 := R.c1
          have h2 := R.c2
          have h3 := R.c3
          have h4 := R.c4
          refine bodyPost_ret (v := ofV m) ?_ rfl ⟨rfl, (((((((below_drewN B.out _).setCell (Nat.le_succ _) _).setCell (Nat.le_refl _) _).setCell (Nat.le_refl _) _).setCell (Nat.le_refl _) _).setCell (Nat.le_refl _) _).setCell (Nat.le_refl _) _)⟩
          simp [results, Tryd.results14, go_sem, h0, h1, h2, h3, h4]
          rfl
end Go.Proofs.YtoodfiicoplbhaaDoor
