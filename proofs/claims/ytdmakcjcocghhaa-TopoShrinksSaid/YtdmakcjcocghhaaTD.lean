/- The reference: Distances walked. -/
import Derived.Test.YtdmakcjcocghhaaTC
set_option linter.unusedVariables false
namespace Go.Proofs.Ytdmakcjcocghhaa.Tpo
open Go.RowKit

/-- The distances are handed back, a row of the call's own. -/
def OutD (w : World) (f : Int → Int) (e : Ending) (w' : World) : Prop := ∃ g, e = .returned (.slice (some ⟨g, 0, none⟩) 251 251) ∧ w.heap.size ≤ g ∧ RowI w' g 251 (fun i => f (i : Int)) ∧ Below w.heap.size w w'

set_option maxRecDepth 100000 in
set_option maxHeartbeats 4000000 in
theorem rdist_any (A : Option Addr) (c : Nat) (l : List Ed) (a : Int) (w : World) (hl : l.length ≤ 9223372036854775807) (hA : EdAt w w.heap.size A l) :
    Calls Try.prog 43 #[.slice A l.length c, .int .i64 a] w (OutD w (dist l a)) := by
  have HA := Lib.hid hA
  have KN := Lib.hid (fun w => rnode_any a w)
  clear hA
  obtain ⟨wm, hmk, hrow, hbm⟩ := make_row w 251 (by omega)
  have BM := Lib.hid hbm
  have R0 := Lib.hid hrow
  clear hrow hbm
  have hmk : (Instr.makeSlice 28 (.int .i64 251) (.int .i64 251)).run Try.prog w = .ok (.slice (some ⟨w.heap.size, 0, none⟩) 251 251) wm := hmk
  go_enter Try.func43, Try.ntmps43
  go_wp2_with fail
  clear hmk
  go_loopw [14] (fun vi wr => ∃ k : Nat, vi = .int .i64 k ∧ k ≤ 251 ∧ Hid (RowI wr w.heap.size 251 (fun i => if i < k then -1 else 0)) ∧ Below w.heap.size w wr) (fun vi _ => 251 - (intOf vi).toNat)
  case atStart => exact ⟨0, rfl, by omega, Lib.hid (R0.out.same fun i hi => by rw [if_neg (by omega)]), BM.out⟩
  case round =>
    clear R0 BM
    obtain ⟨k, rfl, hk, R, hb⟩ := hrel
    have B := Lib.hid hb
    have hz := hb.size
    clear hb
    by_cases hlt : k < 251
    · have d0 : (k : Int) < 251 := by omega
      have d1 : (0 : Int) ≤ (k : Int) := by omega
      have q0 := World.rowIs.cell R.out hlt
      have f0 := World.rowIs.frozen R.out k
      go_wp2_with fail
      go_roundw
      case rel => exact ⟨k + 1, by go_num, hlt, Lib.hid ((R.out.put k (-1)).same fun i hi => by
        by_cases e : i = k
        · rw [if_pos e, if_pos (by omega)]
        · rw [if_neg e]
          by_cases c : i < k
          · rw [if_pos c, if_pos (by omega)]
          · rw [if_neg c, if_neg (by omega)]), B.out.setCell (Nat.le_refl _) _⟩
      case measure => simp [intOf]; omega
    have d0 : ¬ k < 251 := hlt
    have hk' : k = 251 := by omega
    have d0' : decide ((k : Int) < 251) = false := df (by omega)
    have RM := Lib.hid (R.out.same (f' := fun _ => -1) fun i hi => by rw [if_pos (by omega)])
    clear R hk'
    by_cases ha : Nd a
    rotate_left
    · have FIN := Lib.hid (show RowI wr w.heap.size 251 (fun i => dist l a (i : Int)) from RM.out.same fun i hi => by rw [dist_far (fun h => ha h.1)])
      rw [df ha] at KN
      clear ha
      go_wp2_with fail
      refine (KN.out _).mono ?_
      rintro _ w2 ⟨rfl, rfl⟩
      go_wp2_with fail
      go_ret
      exact ⟨_, rfl, Nat.le_refl _, FIN.out, B.out⟩
    rw [dt ha] at KN
    obtain ⟨an, rfl⟩ : ∃ an : Nat, a = (an : Int) := ⟨a.toNat, by unfold Nd at ha; omega⟩
    have han : an < 251 := by unfold Nd at ha; omega
    have e0 : (an : Int) < 251 := by omega
    have e1 : (0 : Int) ≤ (an : Int) := by omega
    have q0 := World.rowIs.cell RM.out han
    have f0 := World.rowIs.frozen RM.out an
    have R1 := Lib.hid (show RowI (wr.setCell ⟨w.heap.size, an, none⟩ (.int .i64 0)) w.heap.size 251 (fun i => dU l (an : Int) 0 (i : Int)) from (RM.out.put an 0).same fun i hi => by
      rw [dU_zero ha]
      by_cases e : i = an
      · subst e; rw [if_pos rfl, if_pos rfl]
      · rw [if_neg e, if_neg (by omega)])
    have B1 := Lib.hid (show Below w.heap.size w (wr.setCell ⟨w.heap.size, an, none⟩ (.int .i64 0)) from B.out.setCell (Nat.le_refl _) _)
    clear RM
    go_wp2_with fail
    refine (KN.out _).mono ?_
    rintro _ w2 ⟨rfl, rfl⟩
    go_wp2_with fail
    clear q0 f0 KN e0 e1 B d0 d0'
    go_loopw [7] (fun vs wr => ∃ s : Nat, vs = .int .i64 s ∧ s ≤ 251 ∧ Hid (RowI wr w.heap.size 251 (fun i => dU l (an : Int) s (i : Int))) ∧ Below w.heap.size w wr) (fun vs _ => 251 - (intOf vs).toNat)
    case atStart => exact ⟨0, rfl, by omega, R1, B1.out⟩
    case round =>
      clear R1 B1
      obtain ⟨s, rfl, hs, R, hb⟩ := hrel
      have B := Lib.hid hb
      clear hb
      by_cases hlt2 : s < 251
      rotate_left
      · have c0 : decide ((s : Int) ≤ 250) = false := df (by omega)
        have hs' : s = 251 := by omega
        have FIN := Lib.hid (show RowI wr w.heap.size 251 (fun i => dist l (an : Int) (i : Int)) from R.out.same fun i hi => by rw [hs', dU_all])
        clear hs'
        go_wp2_with fail
        go_ret
        exact ⟨_, rfl, Nat.le_refl _, FIN.out, B.out⟩
      have c0 : decide ((s : Int) ≤ 250) = true := dt (by omega)
      go_wp2_with fail
      go_loopw [34] (fun vk wr => ∃ k : Nat, vk = .int .i64 k ∧ k ≤ l.length ∧ Hid (RowI wr w.heap.size 251 (fun i => dE l (an : Int) s k (i : Int))) ∧ Below w.heap.size w wr) (fun vk _ => l.length - (intOf vk).toNat)
      case atStart => exact ⟨0, rfl, Nat.zero_le _, Lib.hid (R.out.same fun i hi => by rw [dE_zero]), B.out⟩
      case round =>
        clear R B
        obtain ⟨k, rfl, hk, R, hb⟩ := hrel
        have B := Lib.hid hb
        have hz := hb.size
        by_cases hlk : k < l.length
        rotate_left
        · have m0 : ¬ k < l.length := hlk
          have m0' : decide ((k : Int) < (l.length : Int)) = false := df (by omega)
          have hk' : k = l.length := by omega
          have N := Lib.hid (R.out.same (f' := fun i => dU l (an : Int) (s + 1) (i : Int)) fun i hi => by rw [hk', dE_all ha])
          clear hb hk'
          go_wp2_with fail
          go_roundw
          case rel => exact ⟨s + 1, by go_num, hlt2, N, B.out⟩
          case measure => simp [intOf]; omega
        have m0 : (k : Int) < (l.length : Int) := by omega
        have m1 : (0 : Int) ≤ (k : Int) := by omega
        obtain ⟨bb, p, rfl, hbw, g0, g1, _⟩ := ed_cell (HA.out.below hb) k hlk
        clear hb
        obtain ⟨⟨x, y⟩, hx⟩ : ∃ x, l[k] = x := ⟨_, rfl⟩
        rw [hx] at g0 g1
        simp only at g0 g1
        have KV := Lib.hid (fun w => (show Calls Try.prog 34 #[.agg #[.int .i64 x, .int .i64 y]] w (OutV w (.bool (decide (Vd (x, y))))) from (rvalid_any (x, y) w).mono fun _ _ h => outG_V h))
        unfold OutV at KV
        by_cases hv : Vd (x, y)
        rotate_left
        · rw [df hv] at KV
          have N := Lib.hid (fun i => dE_skip (a := (an : Int)) (s := s) hlk (by rw [hx]; exact hv) i)
          clear hv hx
          go_wp2_with fail
          refine (KV.out _).mono ?_
          rintro _ w2 ⟨rfl, hb⟩
          have B2 := Lib.hid (B.out.trans (hb.mono hz))
          have R2 := Lib.hid (R.out.next hb)
          clear hb
          go_wp2_with fail
          go_roundw
          case rel => exact ⟨k + 1, by go_num, hlk, Lib.hid (R2.out.same fun i hi => by rw [N.out]), B2.out⟩
          case measure => simp [intOf]; omega
        rw [dt hv] at KV
        have HX := Lib.hid hx
        have HV := Lib.hid hv
        have hvx := hv.1
        clear hv hx
        obtain ⟨xn, rfl⟩ : ∃ xn : Nat, x = (xn : Int) := ⟨x.toNat, by have := hvx.1; unfold Nd at this; omega⟩
        obtain ⟨yn, rfl⟩ : ∃ yn : Nat, y = (yn : Int) := ⟨y.toNat, by have := hvx.2; unfold Nd at this; omega⟩
        have hxn : xn < 251 := by have := hvx.1; unfold Nd at this; omega
        have hyn : yn < 251 := by have := hvx.2; unfold Nd at this; omega
        have x0 : (0 : Int) ≤ (xn : Int) := by omega
        have x1 : (xn : Int) < 251 := by omega
        have y0 : (0 : Int) ≤ (yn : Int) := by omega
        have y1 : (yn : Int) < 251 := by omega
        have s1 : IntKind.i64.wrap ((s : Int) + 1) = (s : Int) + 1 := by rw [IntKind.wrap_i64]; omega
        clear hvx
        go_wp2_with fail
        refine (KV.out _).mono ?_
        rintro _ w2 ⟨rfl, hb⟩
        have B2 := Lib.hid (B.out.trans (hb.mono hz))
        have R2 := Lib.hid (R.out.next hb)
        have g0 := (hb.cell (p := ⟨bb, p + k * 2, none⟩) (Nat.lt_of_lt_of_le hbw hz)).trans g0
        have g1 := (hb.cell (p := ⟨bb, p + k * 2 + 1, none⟩) (Nat.lt_of_lt_of_le hbw hz)).trans g1
        clear hb KV R B
        go_wp2_with fail
        go_quiet (fail)
        obtain ⟨w3, hw3⟩ : ∃ w3, w3 = w2.drewN nq := ⟨_, rfl⟩
        rw [← hw3]
        have B3 := Lib.hid (show Below w.heap.size w w3 by rw [hw3]; exact below_drewN B2.out nq)
        have R3 := Lib.hid (show RowI w3 w.heap.size 251 (fun i => dE l (an : Int) s k (i : Int)) by rw [hw3]; exact R2.out.next (below_drewN (Below.refl _ _) nq))
        clear hw3 B2 R2 g0 g1
        have qx := World.rowIs.cell R3.out hxn
        have qy := World.rowIs.cell R3.out hyn
        have fx := World.rowIs.frozen R3.out xn
        have fy := World.rowIs.frozen R3.out yn
        have SX := dE_s (l := l) (a := (an : Int)) (s := s) (k := k) (xn : Int)
        have SY := dE_s (l := l) (a := (an : Int)) (s := s) (k := k) (yn : Int)
        have D1 := Lib.hid (fun h1 h2 i => dE_one (s := s) ha hlk HX.out HV.out h1 h2 i)
        have D2 := Lib.hid (fun h1 h2 i => dE_two (s := s) ha hlk HX.out HV.out h1 h2 i)
        have D3 := Lib.hid (fun h1 h2 i => dE_no (a := (an : Int)) (s := s) hlk HX.out HV.out h1 h2 i)
        have hxy : (xn : Int) ≠ (yn : Int) := HV.out.2
        obtain ⟨ex, hex⟩ : ∃ ex, ex = dE l (an : Int) s k (xn : Int) := ⟨_, rfl⟩
        obtain ⟨ey, hey⟩ : ∃ ey, ey = dE l (an : Int) s k (yn : Int) := ⟨_, rfl⟩
        simp only [← hex] at qx SX D1 D2 D3
        simp only [← hey] at qy SY D1 D2 D3
        by_cases c1 : ex = (s : Int) ∧ ey < 0
        · have N := Lib.hid (D1.out (SX.1 c1.1) c1.2)
          have t1 : (ex == (s : Int)) = true := by simpa using c1.1
          have t2 := dt c1.2
          have t3 : (((s : Int) + 1) == (s : Int)) = false := by rw [← Bool.not_eq_true, beq_iff_eq]; omega
          have FIN := Lib.hid (show RowI (w3.setCell ⟨w.heap.size, yn, none⟩ (.int .i64 ((s : Int) + 1))) w.heap.size 251 (fun i => dE l (an : Int) s (k + 1) (i : Int)) from (R3.out.put yn ((s : Int) + 1)).same fun i hi => by
            rw [N.out]
            by_cases e : i = yn
            · subst e; rw [if_pos rfl, if_pos rfl]
            · rw [if_neg e, if_neg (by omega)])
          clear D1 D2 D3 hex hey SX SY hxy c1 N R3
          go_wp2_with fail
          go_roundw
          case rel => exact ⟨k + 1, by go_num, hlk, FIN, B3.out.setCell (Nat.le_refl _) _⟩
          case measure => simp [intOf]; omega
        by_cases c2 : ey = (s : Int) ∧ ex < 0
        · have N := Lib.hid (D2.out (SY.1 c2.1) c2.2)
          have t1 : (ex == (s : Int)) = false := by rw [← Bool.not_eq_true, beq_iff_eq]; omega
          have t2 : (ey == (s : Int)) = true := by simpa using c2.1
          have t3 := dt c2.2
          have FIN := Lib.hid (show RowI (w3.setCell ⟨w.heap.size, xn, none⟩ (.int .i64 ((s : Int) + 1))) w.heap.size 251 (fun i => dE l (an : Int) s (k + 1) (i : Int)) from (R3.out.put xn ((s : Int) + 1)).same fun i hi => by
            rw [N.out]
            by_cases e : i = xn
            · subst e; rw [if_pos rfl, if_pos rfl]
            · rw [if_neg e, if_neg (by omega)])
          clear D1 D2 D3 hex hey SX SY hxy c1 c2 N R3
          go_wp2_with fail
          go_roundw
          case rel => exact ⟨k + 1, by go_num, hlk, FIN, B3.out.setCell (Nat.le_refl _) _⟩
          case measure => simp [intOf]; omega
        have N := Lib.hid (D3.out (fun h1 h2 => c1 ⟨SX.2 h1, h2⟩) (fun h1 h2 => c2 ⟨SY.2 h1, h2⟩))
        have FIN := Lib.hid (R3.out.same (f' := fun i => dE l (an : Int) s (k + 1) (i : Int)) fun i hi => by rw [N.out])
        clear D1 D2 D3 hex hey SX SY hxy N R3
        by_cases u1 : ex = (s : Int)
        · have t1 : (ex == (s : Int)) = true := by simpa using u1
          have t2 : decide (ey < 0) = false := df (fun h => c1 ⟨u1, h⟩)
          by_cases u2 : ey = (s : Int)
          · have t3 : (ey == (s : Int)) = true := by simpa using u2
            have t4 : decide (ex < 0) = false := df (fun h => c2 ⟨u2, h⟩)
            clear c1 c2 u1 u2
            go_wp2_with fail
            go_roundw
            case rel => exact ⟨k + 1, by go_num, hlk, FIN, B3.out⟩
            case measure => simp [intOf]; omega
          · have t3 : (ey == (s : Int)) = false := by simpa using u2
            clear c1 c2 u1 u2
            go_wp2_with fail
            go_roundw
            case rel => exact ⟨k + 1, by go_num, hlk, FIN, B3.out⟩
            case measure => simp [intOf]; omega
        · have t1 : (ex == (s : Int)) = false := by simpa using u1
          by_cases u2 : ey = (s : Int)
          · have t3 : (ey == (s : Int)) = true := by simpa using u2
            have t4 : decide (ex < 0) = false := df (fun h => c2 ⟨u2, h⟩)
            clear c1 c2 u1 u2
            go_wp2_with fail
            go_roundw
            case rel => exact ⟨k + 1, by go_num, hlk, FIN, B3.out⟩
            case measure => simp [intOf]; omega
          · have t3 : (ey == (s : Int)) = false := by simpa using u2
            clear c1 c2 u1 u2
            go_wp2_with fail
            go_roundw
            case rel => exact ⟨k + 1, by go_num, hlk, FIN, B3.out⟩
            case measure => simp [intOf]; omega
end Go.Proofs.Ytdmakcjcocghhaa.Tpo
