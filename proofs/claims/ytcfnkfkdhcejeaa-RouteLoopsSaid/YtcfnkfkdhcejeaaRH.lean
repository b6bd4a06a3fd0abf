/- Contracts of package route: checkRoutes, suits, Check. -/
import Derived.Test.YtcfnkfkdhcejeaaRF
import Derived.Test.YtcfnkfkdhcejeaaRG
set_option linter.unusedVariables false
namespace Go.Proofs.Ytcfnkfkdhcejeaa.Rte
open Go.RowKit

/-- The error of the routes behind one with this destination, by any test of one route. -/
def chkP (q : Rt → Bool) (p : Int) : List Rt → Int
  | [] => 0
  | x :: r => if q x = true then (if x.1 ≤ p then 14 else chkP q x.1 r) else 2
theorem chkP_G : ∀ (l : List Rt) (p : Int), chkP (fun x => decide (Ok1 x)) p l = chkG p l
  | [], _ => rfl
  | x :: r, p => by
    unfold chkP chkG
    simp only [decide_eq_true_eq, chkP_G r]
theorem chkP_D : ∀ (l : List Rt) (p : Int), chkP (fun x => decide (Us1 x)) p l = chkD p l
  | [], _ => rfl
  | x :: r, p => by
    unfold chkP chkD
    simp only [decide_eq_true_eq, chkP_D r]
theorem chkP_cons (q : Rt → Bool) (p : Int) (x : Rt) (r : List Rt) : chkP q p (x :: r) = if q x = true then (if x.1 ≤ p then 14 else chkP q x.1 r) else 2 := rfl
/-- The destination before. -/
def pv (l : List Rt) (k : Nat) : Int := if h : 0 < k ∧ k ≤ l.length then (l[k - 1]'(by omega)).1 else -1
theorem pv_zero (l : List Rt) : pv l 0 = -1 := by unfold pv; rw [dif_neg (by omega)]
theorem pv_succ (l : List Rt) (m : Nat) (h : m < l.length) : pv l (m + 1) = l[m].1 := by unfold pv; rw [dif_pos ⟨by omega, by omega⟩]; rfl

set_option maxRecDepth 100000 in
set_option maxHeartbeats 4000000 in
theorem checkRoutes_any (g : FuncId) (q : Rt → Bool) (hq : ∀ x, q x = true → 0 ≤ x.1) (eg : ∀ args w, (callFunc g args).run Try.prog w = .ok (.enter g args) w)
    (hg : ∀ x w, Calls Try.prog g #[rtV x] w (OutB w (q x))) (A : Option Addr) (c : Nat) (l : List Rt) (w : World) (hl : l.length ≤ 9223372036854775807) (hA : RtAt w w.heap.size A l) :
    Calls Try.prog 34 #[.slice A l.length c, .func (.func g) #[] #[]] w (OutI w (chkP q (-1) l)) := by
  have HA := Lib.hid hA
  have CK := Lib.hid (show chkP q (-1) l = chkP q (pv l 0) (l.drop 0) by rw [pv_zero]; rfl)
  have HG := Lib.hid hg
  have HQ := Lib.hid hq
  clear hA hg hq
  generalize chkP q (-1) l = X at *
  go_enter Try.func34, Try.ntmps34
  go_wp2_with fail
  go_loopw [9] (fun i wr => ∃ k : Nat, i = .int .i64 k ∧ k ≤ l.length ∧ Hid (X = chkP q (pv l k) (l.drop k)) ∧ Below w.heap.size w wr) (fun i _ => l.length - (intOf i).toNat)
  case atStart => exact ⟨0, rfl, Nat.zero_le _, CK, Below.refl _ _⟩
  case round =>
    obtain ⟨k, rfl, hk, hal, hb⟩ := hrel
    have B := Lib.hid hb
    have hz := hb.size
    by_cases hlt : k < l.length
    · obtain ⟨b, p, rfl, hbw, g0, g1, g2, g3, _⟩ := rt_cell (HA.out.below hb) k hlt
      have AL := Lib.hid (show X = if q l[k] = true then (if l[k].1 ≤ pv l k then 14 else chkP q l[k].1 (l.drop (k + 1))) else 2 by rw [hal.out, drop_one l k hlt, chkP_cons])
      have PS := Lib.hid (pv_succ l k hlt)
      have KB := Lib.hid (fun w => (show Calls Try.prog g #[.agg #[.int .i64 l[k].1, .int .i64 l[k].2.1, .int .i64 l[k].2.2.1, .int .i64 l[k].2.2.2]] w (OutB w (q l[k])) from HG.out l[k] w))
      have KO : Hid (q l[k] = true → 0 ≤ l[k].1) := Lib.hid (HQ.out _)
      clear hal hb CK HG HQ
      by_cases hok : q l[k] = true
      · rw [hok] at KB
        have AL := Lib.hid (show X = if l[k].1 ≤ pv l k then 14 else chkP q l[k].1 (l.drop (k + 1)) by rw [AL.out, if_pos hok])
        have hn0 := KO.out hok
        clear hok KO
        by_cases hk0 : 0 < k
        · obtain ⟨m, hkm⟩ : ∃ m, k = m + 1 := ⟨k - 1, by omega⟩
          have hm : m < l.length := by omega
          have AL2 := Lib.hid (show X = if l[k].1 ≤ l[m].1 then 14 else chkP q l[k].1 (l.drop (k + 1)) by rw [AL.out, show pv l k = l[m].1 by rw [hkm]; exact pv_succ l m hm])
          have z1 : (k : Int) - 1 = (m : Int) := by omega
          have z2 : IntKind.i64.wrap (m : Int) = (m : Int) := by rw [IntKind.wrap_i64]; omega
          have z3 : (0 : Int) ≤ (m : Int) := by omega
          have z4 : (m : Int) < (l.length : Int) := by omega
          obtain ⟨b', p', e', hbw', q0, _⟩ := rt_cell (HA.out.below B.out) m hm
          simp only [Option.some.injEq, Addr.mk.injEq, and_true] at e'
          obtain ⟨rfl, rfl⟩ := e'
          have Q0 := Lib.hid (fun w' (h : Below w.heap.size wr w') => (h.cell (p := ⟨b, p + m * 4, none⟩) hbw).trans q0)
          have KM := Lib.hid hkm
          clear AL q0 hkm
          generalize l[k].1 = n at *
          generalize l[k].2.1 = bt at *
          generalize l[k].2.2.1 = ct at *
          generalize l[k].2.2.2 = xt at *
          generalize l[m].1 = n' at *
          by_cases hle : n ≤ n'
          · have R := Lib.hid (show X = 14 by rw [AL2.out, if_pos hle])
            have d1 := dt hle
            clear AL2 hle
            go_wp2_with fail
            refine (KB.out _).mono ?_
            rintro _ w2 ⟨rfl, hb⟩
            have B2 := Lib.hid (B.out.trans ((box_below hb).mono hz))
            have c0 := box_at hb 0 (v := .int .i64 n) rfl
            have c1 := Q0.out _ ((box_below hb).mono hz)
            clear hb
            go_wp2_with fail
            go_quiet (fail)
            go_wp2_with fail
            go_ret
            exact outI R.out.symm (below_drewN B2.out _)
          · have R := Lib.hid (show X = chkP q (pv l (k + 1)) (l.drop (k + 1)) by rw [AL2.out, if_neg hle, PS.out])
            have d1 := df hle
            clear AL2 hle
            go_wp2_with fail
            refine (KB.out _).mono ?_
            rintro _ w2 ⟨rfl, hb⟩
            have B2 := Lib.hid (B.out.trans ((box_below hb).mono hz))
            have c0 := box_at hb 0 (v := .int .i64 n) rfl
            have c1 := Q0.out _ ((box_below hb).mono hz)
            clear hb
            go_wp2_with fail
            go_quiet (fail)
            go_wp2_with fail
            go_roundw
            case rel => exact ⟨k + 1, by go_num, hlt, R, below_drewN B2.out _⟩
            case measure => simp [intOf]; omega
        · have R := Lib.hid (show X = chkP q (pv l (k + 1)) (l.drop (k + 1)) by
            rw [AL.out, show pv l k = -1 by rw [show k = 0 by omega]; exact pv_zero l, if_neg (by omega), PS.out])
          have d0 := df hk0
          clear AL PS
          generalize l[k].1 = n at *
          generalize l[k].2.1 = bt at *
          generalize l[k].2.2.1 = ct at *
          generalize l[k].2.2.2 = xt at *
          go_wp2_with fail
          refine (KB.out _).mono ?_
          rintro _ w2 ⟨rfl, hb⟩
          have B2 := Lib.hid (B.out.trans ((box_below hb).mono hz))
          have c0 := box_at hb 0 (v := .int .i64 n) rfl
          clear hb
          go_wp2_with fail
          go_quiet (fail)
          go_wp2_with fail
          go_roundw
          case rel => exact ⟨k + 1, by go_num, hlt, R, below_drewN B2.out _⟩
          case measure => simp [intOf]; omega
      · have hok : q l[k] = false := by simpa using hok
        rw [hok] at KB
        have R := Lib.hid (show X = 2 by rw [AL.out, if_neg (by rw [hok]; simp)])
        clear hok KO AL PS
        generalize l[k].1 = n at *
        generalize l[k].2.1 = bt at *
        generalize l[k].2.2.1 = ct at *
        generalize l[k].2.2.2 = xt at *
        go_wp2_with fail
        refine (KB.out _).mono ?_
        rintro _ w2 ⟨rfl, hb⟩
        have B2 := Lib.hid (B.out.trans ((box_below hb).mono hz))
        clear hb
        go_wp2_with fail
        go_ret
        exact outI R.out.symm B2.out
    · have R := Lib.hid (show X = 0 by rw [hal.out, List.drop_eq_nil_of_le (by omega)]; rfl)
      clear hal hb CK HG HQ
      go_wp2_with fail
      go_ret
      exact outI R.out.symm B.out

set_option maxRecDepth 100000 in
set_option maxHeartbeats 2000000 in
theorem suits_any (x : Rt) (self : Int) (w : World) : Calls Try.prog 37 #[rtV x, .int .i64 self] w (OutB w (decide (Own self x))) := by
  obtain ⟨a, s, c, n⟩ := x
  by_cases h1 : a = self
  · subst h1
    have R := Lib.hid (show decide (Own a (a, s, c, n)) = ((c == 0) && (n == a)) from by
      rw [Bool.eq_iff_iff, decide_eq_true_eq, Bool.and_eq_true, beq_iff_eq, beq_iff_eq]
      exact ⟨fun h => h.1 rfl, fun h => ⟨fun _ => h, fun h2 => absurd rfl h2⟩⟩)
    have KO := Lib.hid (fun w => (show Calls Try.prog 30 #[.int .i64 a, .int .i64 s] w (OutG w (.agg #[.int .i64 a, .int .i64 s, .int .i64 0, .int .i64 a])) from own_any a s w))
    have d1 : (a == a) = true := by simp
    have d9 : (s == s) = true := by simp
    rw [R.out]
    clear R
    by_cases e1 : c = 0
    · subst e1
      by_cases e2 : n = a
      · subst e2
        go_enter Try.func37, Try.ntmps37
        go_wp2_with fail
        obtain ⟨W, hW⟩ : ∃ W, W = w.alloc (bxR n s 0 n) := ⟨_, rfl⟩
        have HW := Lib.hid hW
        have b1 : W.heap[w.heap.size]? = some (bxR n s 0 n) := by rw [hW]; exact blk_new _ _
        have c0 := fun n' os => cell_grown (w := W) (a := ⟨w.heap.size, 0, none⟩) (blk_lt b1) (blk_cell b1 0 (v := .int .i64 n) rfl) n' os
        have c1 := fun n' os => cell_grown (w := W) (a := ⟨w.heap.size, 1, none⟩) (blk_lt b1) (blk_cell b1 1 (v := .int .i64 s) rfl) n' os
        have c2 := fun n' os => cell_grown (w := W) (a := ⟨w.heap.size, 2, none⟩) (blk_lt b1) (blk_cell b1 2 (v := .int .i64 0) rfl) n' os
        have c3 := fun n' os => cell_grown (w := W) (a := ⟨w.heap.size, 3, none⟩) (blk_lt b1) (blk_cell b1 3 (v := .int .i64 n) rfl) n' os
        rw [← hW]
        clear hW b1
        have mixed := mixedB
        go_quiet_grown ((go_at_call 30; exact grown_out (KO.out _)))
        go_wp2_with fail
        go_ret
        exact outB (by simp) ((alloc_below w _).trans (by rw [← HW.out]; exact (grown_below _ _ _).mono (by rw [HW.out]; simp)))
      · have d2 : (n == a) = false := by simpa using e2
        rw [d2]
        clear e2
        go_enter Try.func37, Try.ntmps37
        go_wp2_with fail
        obtain ⟨W, hW⟩ : ∃ W, W = w.alloc (bxR a s 0 n) := ⟨_, rfl⟩
        have HW := Lib.hid hW
        have b1 : W.heap[w.heap.size]? = some (bxR a s 0 n) := by rw [hW]; exact blk_new _ _
        have c0 := fun n' os => cell_grown (w := W) (a := ⟨w.heap.size, 0, none⟩) (blk_lt b1) (blk_cell b1 0 (v := .int .i64 a) rfl) n' os
        have c1 := fun n' os => cell_grown (w := W) (a := ⟨w.heap.size, 1, none⟩) (blk_lt b1) (blk_cell b1 1 (v := .int .i64 s) rfl) n' os
        have c2 := fun n' os => cell_grown (w := W) (a := ⟨w.heap.size, 2, none⟩) (blk_lt b1) (blk_cell b1 2 (v := .int .i64 0) rfl) n' os
        have c3 := fun n' os => cell_grown (w := W) (a := ⟨w.heap.size, 3, none⟩) (blk_lt b1) (blk_cell b1 3 (v := .int .i64 n) rfl) n' os
        rw [← hW]
        clear hW b1
        have mixed := mixedB
        go_quiet_grown ((go_at_call 30; exact grown_out (KO.out _)))
        go_wp2_with fail
        go_ret
        exact outB (by simp) ((alloc_below w _).trans (by rw [← HW.out]; exact (grown_below _ _ _).mono (by rw [HW.out]; simp)))
    · have d2 : (c == 0) = false := by simpa using e1
      rw [d2]
      clear e1
      go_enter Try.func37, Try.ntmps37
      go_wp2_with fail
      obtain ⟨W, hW⟩ : ∃ W, W = w.alloc (bxR a s c n) := ⟨_, rfl⟩
      have HW := Lib.hid hW
      have b1 : W.heap[w.heap.size]? = some (bxR a s c n) := by rw [hW]; exact blk_new _ _
      have c0 := fun n' os => cell_grown (w := W) (a := ⟨w.heap.size, 0, none⟩) (blk_lt b1) (blk_cell b1 0 (v := .int .i64 a) rfl) n' os
      have c1 := fun n' os => cell_grown (w := W) (a := ⟨w.heap.size, 1, none⟩) (blk_lt b1) (blk_cell b1 1 (v := .int .i64 s) rfl) n' os
      have c2 := fun n' os => cell_grown (w := W) (a := ⟨w.heap.size, 2, none⟩) (blk_lt b1) (blk_cell b1 2 (v := .int .i64 c) rfl) n' os
      have c3 := fun n' os => cell_grown (w := W) (a := ⟨w.heap.size, 3, none⟩) (blk_lt b1) (blk_cell b1 3 (v := .int .i64 n) rfl) n' os
      rw [← hW]
      clear hW b1
      have mixed := mixedB
      go_quiet_grown ((go_at_call 30; exact grown_out (KO.out _)))
      go_wp2_with fail
      go_ret
      exact outB (by simp) ((alloc_below w _).trans (by rw [← HW.out]; exact (grown_below _ _ _).mono (by rw [HW.out]; simp)))
  · have d1 : (a == self) = false := by simpa using h1
    by_cases h2 : c = 0
    · have R := Lib.hid (show decide (Own self (a, s, c, n)) = false from df fun h => (h.2 h1).1 h2)
      have d2 : (c != 0) = false := by simpa using h2
      clear h1 h2
      go_enter Try.func37, Try.ntmps37
      go_wp2_with fail
      go_ret
      exact outB R.out.symm (alloc_below _ _)
    · have R := Lib.hid (show decide (Own self (a, s, c, n)) = (n != self) by
        rw [Bool.eq_iff_iff, decide_eq_true_eq, bne_iff_ne]
        exact ⟨fun h => (h.2 h1).2, fun h => ⟨fun e => absurd e h1, fun _ => ⟨h2, h⟩⟩⟩)
      have d2 : (c != 0) = true := by simpa using h2
      clear h1 h2
      go_enter Try.func37, Try.ntmps37
      go_wp2_with fail
      go_ret
      exact outB R.out.symm (alloc_below _ _)
end Go.Proofs.Ytcfnkfkdhcejeaa.Rte
