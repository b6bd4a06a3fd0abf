/- The reference: table, Bump, better, Hop. -/
import Derived.Test.YtcfnkfkdhcejeaaRN
set_option linter.unusedVariables false
namespace Go.Proofs.Ytcfnkfkdhcejeaa.Rte
open Go.RowKit

set_option maxHeartbeats 1000000 in
theorem rnewO_any (n : Int) (w : World) : Calls Try.prog 13 #[.int .i64 n] w (OutT w (nw n)) := by
  have LI := lim_in n
  have NW := Lib.hid (show nw n = [(lim n, 0, 0, lim n)] from rfl)
  have KL := Lib.hid (fun w => rlimit_any n w)
  generalize lim n = s at *
  have ho : I64 s := by unfold I64; omega
  have HO := Lib.hid (show fR.ok (s, 0, 0, s) from ⟨ho, by unfold I64; simp, by unfold I64; simp, ho⟩)
  clear ho LI
  go_enter Try.func13, Try.ntmps13
  go_wp2_with fail
  refine (KL.out _).mono ?_
  rintro _ w1 ⟨rfl, rfl⟩
  go_wp2_with fail
  go_ret
  exact ⟨_, rfl, by rw [NW.out]; exact OwnF.lit (F := fR) w w.heap.size [(s, 0, 0, s)] #[.int .i64 s, .int .i64 0, .int .i64 0, .int .i64 s] (Nat.le_refl _) (by unfold maxLen; simp) rfl (fun x hx => by rw [List.mem_singleton.1 hx]; exact HO.out), alloc_below _ _⟩

set_option maxRecDepth 100000 in
set_option maxHeartbeats 1000000 in
theorem rtable_any (A : Option Addr) (c : Nat) (l : List Rt) (n : Int) (w : World) (hl : l.length ≤ 9223372036854775807) (hA : RtAt w w.heap.size A l) :
    Calls Try.prog 42 #[.slice A l.length c, .int .i64 n] w (OutT w (tb l n)) := by
  have KL := Lib.hid (fun w => rlimit_any n w)
  have K := Lib.hid (rcheck_any A c l (lim n) w hl hA)
  have HA := Lib.hid hA
  clear hA
  by_cases h : chk l (lim n) = 0
  · have R := Lib.hid (show tb l n = l from if_pos h)
    have L24 := ((chk_zero l (lim n)).1 h).1.1
    rw [h] at K
    clear h
    generalize lim n = s at *
    go_enter Try.func42, Try.ntmps42
    go_wp2_with fail
    refine (KL.out _).mono ?_
    rintro _ w0 ⟨rfl, rfl⟩
    go_wp2_with fail
    refine K.out.mono ?_
    rintro _ w1 ⟨rfl, hb⟩
    have B1 := Lib.hid hb
    have hz1 := hb.size
    obtain ⟨v', w', hap, ho, hb2, _⟩ := (OwnF.lit (F := fR) (T := 43) w1 w.heap.size [] #[] hz1 (by unfold maxLen; simp) rfl (by simp)).app eRt (c := c) 22 ((HA.out.next hb).below (alloc_below _ _)) (by simp; omega) (Nat.le_trans hz1 (by simp))
    have O := Lib.hid (show OwnR w' w.heap.size v' l from ho)
    have B2 := Lib.hid ((B1.out.alloc hz1 (.cells #[] 43)).trans hb2)
    simp only [List.length_nil] at hap
    clear hb ho hb2
    go_wp2_with (at_builtin; refine Lib.wpList_append_run _ rfl _ _ _ _ rfl _ _ rfl rfl _ _ hap ?_)
    go_ret
    exact ⟨_, rfl, by rw [R.out]; exact O.out, B2.out⟩
  · have R := Lib.hid (show tb l n = nw n from if_neg h)
    have h2 : (chk l (lim n) != 0) = true := by simpa using h
    have KN := Lib.hid (fun w => rnewO_any n w)
    generalize chk l (lim n) = q at *
    clear h
    generalize nw n = N at *
    generalize lim n = s at *
    go_enter Try.func42, Try.ntmps42
    go_wp2_with fail
    refine (KL.out _).mono ?_
    rintro _ w0 ⟨rfl, rfl⟩
    go_wp2_with fail
    refine K.out.mono ?_
    rintro _ w1 ⟨rfl, hb⟩
    have B1 := Lib.hid hb
    have hz1 := hb.size
    clear hb
    go_wp2_with fail
    refine (KN.out _).mono ?_
    rintro _ w2 ⟨v, rfl, ho, hb⟩
    have O := Lib.hid ho
    have B2 := Lib.hid (B1.out.trans (hb.mono hz1))
    clear ho hb
    go_wp2_with fail
    go_ret
    exact ⟨_, rfl, by rw [R.out]; exact O.out.down hz1, B2.out⟩

/-- The place that find hands back, where there is one. -/
theorem fnd_at {t : List Rt} {d : Int} {x : Rt} (h : get t d = some x) : ∃ k, ∃ hk : k < t.length, fnd t d = (k : Int) ∧ t[k].1 = d ∧ get t d = some t[k] := by
  rcases fnd_is t d with ⟨_, h2⟩ | ⟨k, hk, h1, h2⟩
  · rw [h] at h2; cases h2
  · exact ⟨k, hk, h1, (get_mem h2).2, h2⟩

set_option maxRecDepth 100000 in
set_option maxHeartbeats 4000000 in
theorem rbump_any (A : Option Addr) (c : Nat) (l : List Rt) (n : Int) (w : World) (hl : l.length ≤ 9223372036854775807) (hA : RtAt w w.heap.size A l) :
    Calls Try.prog 17 #[.slice A l.length c, .int .i64 n] w (OutT w (bmp l n)) := by
  have KL := Lib.hid (fun w => rlimit_any n w)
  have KC := Lib.hid (rtable_any A c l n w hl hA)
  have TT := Lib.hid (tb_tab l n)
  have BM := Lib.hid (show bmp l n = (tb l n).map (bmpF (lim n)) from rfl)
  clear hA
  generalize bmp l n = F at *
  generalize tb l n = t at *
  generalize lim n = s at *
  have hlen := TT.out.1.1
  obtain ⟨xx, hxx⟩ := TT.out.2.2.1
  obtain ⟨k, hk0, hk, hd0, _⟩ := fnd_at hxx
  go_enter Try.func17, Try.ntmps17
  go_wp2_with fail
  refine KC.out.mono ?_
  rintro _ w1 ⟨v, rfl, ho, hb⟩
  have B1 := Lib.hid hb
  have hz1 := hb.size
  obtain ⟨g, cap, rfl, hBg, hgw⟩ := ho.at (tab_ne TT.out)
  obtain ⟨A1, c1, hv, hA1, _, _⟩ := ho.read
  simp only [Value.slice.injEq, true_and] at hv
  obtain ⟨rfl, rfl⟩ := hv
  have KP := Lib.hid (rfind_any _ cap t s w1 (by omega) hA1)
  rw [hk] at KP
  have O1 := Lib.hid ho
  have XS := Lib.hid (bmp_set TT.out.2.1.2 hk0 hd0)
  have OK1 := Lib.hid (TT.out.2.1.1 _ (List.getElem_mem hk0))
  have hq : 0 ≤ t[k].2.1 ∧ t[k].2.1 ≤ 65535 := OK1.out.1.1.2
  clear hb ho hA1 KC hk hxx
  go_wp2_with fail
  refine (KL.out _).mono ?_
  rintro _ w0 ⟨rfl, rfl⟩
  go_wp2_with fail
  refine KP.out.mono ?_
  rintro _ w2 ⟨rfl, rfl⟩
  have q1 : w1.cell? ⟨g, k * 4 + 1, none⟩ = some (.int .i64 t[k].2.1) := O1.out.cell k hk0 1 (by decide)
  have f1 := O1.out.fr (k * 4 + 1)
  have PUT := Lib.hid (fun y => O1.out.put k hk0 1 (by decide) (.int .i64 y) (t[k].1, y, t[k].2.2.1, t[k].2.2.2) rfl)
  have z1 : IntKind.i64.wrap (t[k].2.1 + 2) = t[k].2.1 + 2 := by rw [IntKind.wrap_i64]; omega
  clear KP
  by_cases h2 : t[k].2.1 < 65534
  · have R := Lib.hid (show F = t.set k (t[k].1, t[k].2.1 + 2, t[k].2.2.1, t[k].2.2.2) by
      rw [BM.out, XS.out]
      congr 1
      exact if_pos ⟨hd0, by omega⟩)
    have d1 := dt h2
    have FIN := Lib.hid (PUT.out (t[k].2.1 + 2) (by
      have := ok_fR OK1.out
      exact ⟨this.1, by unfold I64; (try dsimp only); omega, this.2.2.1, this.2.2.2⟩))
    clear PUT XS BM OK1 hq h2 hd0
    generalize t[k].2.1 = y at *
    go_wp2_with fail
    go_ret
    exact ⟨_, rfl, by rw [R.out]; exact FIN.out, B1.out.setCell hBg _⟩
  · have R := Lib.hid (show F = t by
      rw [BM.out, XS.out, show bmpF s t[k] = t[k] from if_neg (fun h => by omega)]
      exact List.set_getElem_self _)
    have d1 := df h2
    clear PUT XS BM OK1 hq h2 hd0
    generalize t[k].2.1 = y at *
    go_wp2_with fail
    go_ret
    exact ⟨_, rfl, by rw [R.out]; exact O1.out, B1.out⟩

theorem rbetter_any (x y : Rt) (w : World) : Calls Try.prog 57 #[rtV x, rtV y] w (OutG w (.bool (decide (Btr x y)))) := by
  obtain ⟨a, s, c, n⟩ := x
  obtain ⟨a', s', c', n'⟩ := y
  by_cases c1 : s' < s
  · have R := Lib.hid (show decide (Btr (a, s, c, n) (a', s', c', n')) = true from dt (Or.inl c1))
    have d1 := dt c1
    go_enter Try.func57, Try.ntmps57
    go_wp2_with fail
    go_ret
    exact outG_on (grown_alloc w _) (outG_alloc _ (congrArg Value.bool R.out.symm))
  · have d1 := df c1
    by_cases c2 : s = s'
    · have R := Lib.hid (show decide (Btr (a, s, c, n) (a', s', c', n')) = decide (c < c') from decide_eq_decide.2 ⟨fun h => h.elim (fun h => absurd h c1) (fun h => h.2), fun h => Or.inr ⟨c2, h⟩⟩)
      have d2 : (s == s') = true := by simpa using c2
      clear c1 c2
      go_enter Try.func57, Try.ntmps57
      go_wp2_with fail
      go_ret
      exact outG_on (grown_alloc w _) (outG_alloc _ (congrArg Value.bool R.out.symm))
    · have R := Lib.hid (show decide (Btr (a, s, c, n) (a', s', c', n')) = false from df (fun h => h.elim (fun h => c1 h) (fun h => c2 h.1)))
      have d2 : (s == s') = false := by simpa using c2
      clear c1 c2
      go_enter Try.func57, Try.ntmps57
      go_wp2_with fail
      go_ret
      exact outG_on (grown_alloc w _) (outG_alloc _ (congrArg Value.bool R.out.symm))

set_option maxHeartbeats 2000000 in
theorem rhop_any (A : Option Addr) (c : Nat) (l : List Rt) (d : Int) (w : World) (hl : l.length ≤ 9223372036854775807) (hA : RtAt w w.heap.size A l) :
    Calls Try.prog 21 #[.slice A l.length c, .int .i64 d] w (OutP w (hop l d)) := by
  have K := Lib.hid (rfind_any A c l d w hl hA)
  rcases fnd_is l d with ⟨hf, hg⟩ | ⟨k, hk, hf, hg⟩
  · have R := Lib.hid (show hop l d = (0, false) by unfold hop; rw [hg])
    rw [hf] at K
    clear hf hg hA
    rw [R.out]
    go_enter Try.func21, Try.ntmps21
    go_wp2_with fail
    refine K.out.mono ?_
    rintro _ w1 ⟨rfl, rfl⟩
    go_wp2_with fail
    go_ret2
    exact ⟨rfl, Below.refl _ _⟩
  · have R := Lib.hid (show hop l d = if Fin1 l[k] then (l[k].2.2.2, true) else (0, false) by unfold hop; rw [hg])
    rw [hf] at K
    obtain ⟨b, p, rfl, hbw, g0, g1, g2, g3, _⟩ := rt_cell hA k hk
    obtain ⟨⟨x0, x1, x2, x3⟩, hx⟩ : ∃ x, l[k] = x := ⟨_, rfl⟩
    rw [hx] at g0 g1 g2 g3 R
    simp only at g0 g1 g2 g3
    have KF := Lib.hid (fun w => (show Calls Try.prog 39 #[.agg #[.int .i64 x0, .int .i64 x1, .int .i64 x2, .int .i64 x3]] w (OutV w (.bool (decide (Fin1 (x0, x1, x2, x3))))) from (rfinite_any (x0, x1, x2, x3) w).mono fun _ _ h => outG_V h))
    unfold OutV at KF
    clear hf hg hA hx
    have p0 : (0 : Int) ≤ (k : Int) := by omega
    have p1 := df (show ¬ (k : Int) < 0 by omega)
    by_cases h : Fin1 (x0, x1, x2, x3)
    · have R := Lib.hid (R.out.trans (if_pos h))
      rw [dt h] at KF
      rw [R.out]
      clear h
      go_enter Try.func21, Try.ntmps21
      go_wp2_with fail
      refine K.out.mono ?_
      rintro _ w1 ⟨rfl, rfl⟩
      go_wp2_with fail
      refine (KF.out _).mono ?_
      rintro _ w2 ⟨rfl, hb⟩
      have B2 := Lib.hid hb
      have g3 := (hb.cell (p := ⟨b, p + k * 4 + 3, none⟩) hbw).trans g3
      clear hb
      go_wp2_with fail
      go_ret2
      exact ⟨rfl, B2.out⟩
    · have R := Lib.hid (R.out.trans (if_neg h))
      rw [df h] at KF
      rw [R.out]
      clear h
      go_enter Try.func21, Try.ntmps21
      go_wp2_with fail
      refine K.out.mono ?_
      rintro _ w1 ⟨rfl, rfl⟩
      go_wp2_with fail
      refine (KF.out _).mono ?_
      rintro _ w2 ⟨rfl, hb⟩
      have B2 := Lib.hid hb
      clear hb
      go_wp2_with fail
      go_ret2
      exact ⟨rfl, B2.out⟩
end Go.Proofs.Ytcfnkfkdhcejeaa.Rte
