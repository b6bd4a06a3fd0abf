/- Contracts of package route: Check, New, Clone, copied. -/
import Derived.Test.YtcfnkfkdhcejeaaRD
import Derived.Test.YtcfnkfkdhcejeaaRH
set_option linter.unusedVariables false
namespace Go.Proofs.Ytcfnkfkdhcejeaa.Rte
open Go.RowKit

theorem enInRange : ∀ args w, (callFunc 35 args).run Try.prog w = .ok (.enter 35 args) w := enters_of Try.func35 (by kernel_rfl) rfl
theorem eRt : Elems Try.prog 22 43 fR.sz := Elems.mk' Try.underlying22 (z := .agg #[.int .i64 0, .int .i64 0, .int .i64 0, .int .i64 0]) (m := 32) (by kernel_rfl) (by decide) rfl
abbrev OwnR (w : World) (B : Nat) (v : Value) (l : List Rt) : Prop := OwnF fR 43 w B v l
/-- A row of the call's own is handed back. -/
def OutT (w : World) (l : List Rt) (e : Ending) (w' : World) : Prop := ∃ v, e = .returned v ∧ OwnR w' w.heap.size v l ∧ Below w.heap.size w w'

set_option maxRecDepth 100000 in
set_option maxHeartbeats 4000000 in
theorem pcheck_any (A : Option Addr) (c : Nat) (l : List Rt) (self : Int) (w : World) (hl : l.length ≤ 9223372036854775807) (hA : RtAt w w.heap.size A l) :
    Calls Try.prog 14 #[.slice A l.length c, .int .i64 self] w (OutI w (chk l self)) := by
  have HA := Lib.hid hA
  clear hA
  by_cases h24 : 24 < l.length
  · have R := Lib.hid (show chk l self = 3 from if_pos h24)
    go_enter Try.func14, Try.ntmps14
    go_wp2_with fail
    go_ret
    exact outI R.out.symm (Below.refl _ _)
  have KA := Lib.hid (fun w => isAddress_any self w)
  by_cases hs : 0 ≤ self ∧ self ≤ 250
  rotate_left
  · have R := Lib.hid (show chk l self = 2 by unfold chk; rw [if_neg h24, if_pos hs])
    rw [df hs] at KA
    clear hs
    go_enter Try.func14, Try.ntmps14
    go_wp2_with fail
    refine (KA.out _).mono ?_
    rintro _ w1 ⟨rfl, rfl⟩
    go_wp2_with fail
    go_ret
    exact outI R.out.symm (Below.refl _ _)
  rw [dt hs] at KA
  have CK := Lib.hid (show chk l self = chkH l self (chkG (-1) l) by unfold chk chkH; rw [if_neg h24, if_neg (by simpa using hs)])
  have KC := Lib.hid (fun w hA => (show Calls Try.prog 34 #[.slice A l.length c, .func (.func 35) #[] #[]] w (OutI w (chkG (-1) l)) by
    have := checkRoutes_any 35 (fun x => decide (Ok1 x)) (fun x h => (ok_dest (of_decide_eq_true h)).1) enInRange isInRange_any A c l w hl hA
    rw [chkP_G] at this; exact this))
  clear hs
  by_cases hg : chkG (-1) l = 0
  rotate_left
  · have R := Lib.hid (show chk l self = chkG (-1) l by rw [CK.out]; exact if_pos hg)
    have d1 : (chkG (-1) l != 0) = true := by simpa using hg
    clear hg CK
    generalize chkG (-1) l = g at *
    go_enter Try.func14, Try.ntmps14
    go_wp2_with fail
    refine (KA.out _).mono ?_
    rintro _ w1 ⟨rfl, rfl⟩
    go_wp2_with fail
    refine (KC.out _ HA.out).mono ?_
    rintro _ w2 ⟨rfl, hb⟩
    have B2 := Lib.hid hb
    clear hb
    go_wp2_with fail
    go_ret
    exact outI R.out.symm B2.out
  have HS := Lib.hid ((chkG_zero l (-1)).1 hg).2
  have R := Lib.hid (show chk l self = if get l self = none then 8 else if ∀ x ∈ l, Own self x then 0 else 4 by rw [CK.out]; exact if_neg (by simpa using hg))
  have GH := Lib.hid (get_fnd self l HS.out)
  have KP := Lib.hid (fun w hA => place_any A c l self w (by omega) HS.out hA)
  rw [hg] at KC
  clear CK hg
  go_enter Try.func14, Try.ntmps14
  go_wp2_with fail
  refine (KA.out _).mono ?_
  rintro _ w1 ⟨rfl, rfl⟩
  go_wp2_with fail
  refine (KC.out _ HA.out).mono ?_
  rintro _ w2 ⟨rfl, hb⟩
  have B2 := Lib.hid hb
  have HA2 := Lib.hid (HA.out.next hb)
  have hz2 := hb.size
  clear hb KC KA
  go_wp2_with fail
  refine (KP.out _ HA2.out).mono ?_
  rintro _ w3 ⟨rfl, hb⟩
  have B3 := Lib.hid (B2.out.trans (hb.mono hz2))
  have HA3 := Lib.hid (HA2.out.next hb)
  clear hb KP B2 HA2
  cases hh : has self l with
  | false =>
    have R2 := Lib.hid (show chk l self = 8 by
      rw [R.out, if_pos]
      have := GH.out
      rw [hh] at this
      simpa using this)
    clear R GH hh
    generalize pos self l = ps at *
    go_wp2_with fail
    go_ret
    exact outI R2.out.symm B3.out
  | true =>
    have R2 := Lib.hid (show chk l self = if ∀ x ∈ l, Own self x then 0 else 4 by
      rw [R.out, if_neg]
      have := GH.out
      rw [hh] at this
      intro e; rw [e] at this; cases this)
    clear R GH hh HS
    generalize pos self l = ps at *
    go_wp2_with fail
    go_loopw [31] (fun i wr => ∃ j : Nat, i = .int .i64 j ∧ j ≤ l.length ∧ Hid (∀ i (hi : i < l.length), i < j → Own self l[i]) ∧ Below w.heap.size w wr) (fun i _ => l.length - (intOf i).toNat)
    case atStart => exact ⟨0, rfl, Nat.zero_le _, Lib.hid fun i hi h => by omega, B3.out⟩
    case round =>
      obtain ⟨j, rfl, hj, HO, hb⟩ := hrel
      have B := Lib.hid hb
      have hz := hb.size
      by_cases hlt : j < l.length
      · obtain ⟨b, p, rfl, hbw, g0, g1, g2, g3, _⟩ := rt_cell (HA.out.below hb) j hlt
        have ON := Lib.hid (fun h : Own self l[j] => own_upto HO.out (fun _ => h))
        have OB := Lib.hid (fun h : ¬ Own self l[j] => (show chk l self = 4 by rw [R2.out, if_neg (fun h2 => h (h2 _ (List.getElem_mem hlt)))]))
        have KS := Lib.hid (fun w => (show Calls Try.prog 37 #[.agg #[.int .i64 l[j].1, .int .i64 l[j].2.1, .int .i64 l[j].2.2.1, .int .i64 l[j].2.2.2], .int .i64 self] w (OutB w (decide (Own self l[j]))) from suits_any l[j] self w))
        clear HO hb
        by_cases ho : Own self l[j]
        · have N := Lib.hid (ON.out ho)
          rw [dt ho] at KS
          clear ON OB ho R2
          generalize l[j].1 = x0 at *
          generalize l[j].2.1 = x1 at *
          generalize l[j].2.2.1 = x2 at *
          generalize l[j].2.2.2 = x3 at *
          go_wp2_with fail
          refine (KS.out _).mono ?_
          rintro _ w4 ⟨rfl, hb⟩
          have B4 := Lib.hid (B.out.trans ((box_below hb).mono hz))
          clear hb
          go_wp2_with fail
          go_roundw
          case rel => exact ⟨j + 1, by go_num, hlt, N, B4.out⟩
          case measure => simp [intOf]; omega
        · have N := Lib.hid (OB.out ho)
          rw [df ho] at KS
          clear ON OB ho R2
          generalize l[j].1 = x0 at *
          generalize l[j].2.1 = x1 at *
          generalize l[j].2.2.1 = x2 at *
          generalize l[j].2.2.2 = x3 at *
          go_wp2_with fail
          refine (KS.out _).mono ?_
          rintro _ w4 ⟨rfl, hb⟩
          have B4 := Lib.hid (B.out.trans ((box_below hb).mono hz))
          clear hb
          go_wp2_with fail
          go_ret
          exact outI N.out.symm B4.out
      · have N := Lib.hid (show chk l self = 0 by rw [R2.out, if_pos (own_all HO.out (by omega))])
        clear HO R2 hb
        go_wp2_with fail
        go_ret
        exact outI N.out.symm B.out

set_option maxHeartbeats 1000000 in
theorem pnew_any (n : Int) (w : World) : Calls Try.prog 12 #[.int .i64 n] w (OutT w (nw n)) := by
  have LI := lim_in n
  have NW := Lib.hid (show nw n = [(lim n, 0, 0, lim n)] from rfl)
  have KL := Lib.hid (fun w => limited_any n w)
  have KO := Lib.hid (fun w => (show Calls Try.prog 30 #[.int .i64 (lim n), .int .i64 0] w (OutV w (.agg #[.int .i64 (lim n), .int .i64 0, .int .i64 0, .int .i64 (lim n)])) from (own_any (lim n) 0 w).mono fun _ _ h => outG_V h))
  generalize lim n = s at *
  have ho : I64 s := by unfold I64; omega
  have HO := Lib.hid (show fR.ok (s, 0, 0, s) from ⟨ho, by unfold I64; simp, by unfold I64; simp, ho⟩)
  clear ho LI
  go_enter Try.func12, Try.ntmps12
  go_wp2_with fail
  refine (KL.out _).mono ?_
  rintro _ w1 ⟨rfl, rfl⟩
  go_wp2_with fail
  refine (KO.out _).mono ?_
  rintro _ w2 ⟨rfl, hb⟩
  have B2 := Lib.hid hb
  have hz := hb.size
  clear hb
  go_wp2_with fail
  go_ret
  exact ⟨_, rfl, by rw [NW.out]; exact OwnF.lit (F := fR) w2 w.heap.size [(s, 0, 0, s)] #[.int .i64 s, .int .i64 0, .int .i64 0, .int .i64 s] hz (by unfold maxLen; simp) rfl (fun x hx => by rw [List.mem_singleton.1 hx]; exact HO.out), B2.out.alloc hz _⟩

set_option maxRecDepth 100000 in
set_option maxHeartbeats 2000000 in
theorem rclone_any (A : Option Addr) (c : Nat) (l : List Rt) (w : World) (hl : l.length ≤ 100000000) (hA : RtAt w w.heap.size A l) :
    Calls Try.prog 53 #[.slice A l.length c] w (OutT w l) := by
  cases A with
  | none =>
    obtain rfl := hA.none rfl
    have hnil := fun w => Lib.run_eql_slice_nil (P := Try.prog) w 22 _ none 0 c 0 0 Try.underlying22
    simp only [Option.isNone] at hnil
    go_enter Try.func53, Try.ntmps53
    go_wp2_with fail
    go_ret
    exact ⟨_, rfl, OwnF.nil _ _, Below.refl _ _⟩
  | some ad =>
    obtain ⟨v', w', hap, ho, hb, _⟩ := (OwnF.lit (F := fR) (T := 43) w w.heap.size [] #[] (Nat.le_refl _) (by unfold maxLen; simp) rfl (by simp)).app eRt (c := c) 22 ((hA.below (alloc_below _ _))) (by simpa using hl) (by simp)
    have O := Lib.hid (show OwnR w' w.heap.size v' l from ho)
    have B := Lib.hid ((alloc_below w (.cells #[] 43)).trans hb)
    clear ho hb hA
    simp only [List.length_nil] at hap
    have hnil := fun w => Lib.run_eql_slice_nil (P := Try.prog) w 22 _ (some ad) l.length c 0 0 Try.underlying22
    simp only [Option.isNone] at hnil
    go_enter Try.func53, Try.ntmps53
    go_wp2_with (at_builtin; refine Lib.wpList_append_run _ rfl _ _ _ _ rfl _ _ rfl rfl _ _ hap ?_)
    go_ret
    exact ⟨_, rfl, O.out, B.out⟩

set_option maxHeartbeats 1000000 in
theorem copied_any (A : Option Addr) (c : Nat) (l : List Rt) (n : Int) (w : World) (hl : l.length ≤ 9223372036854775807) (hA : RtAt w w.heap.size A l) :
    Calls Try.prog 41 #[.slice A l.length c, .int .i64 (lim n)] w (OutT w (tb l n)) := by
  have K := Lib.hid (pcheck_any A c l (lim n) w hl hA)
  have HA := Lib.hid hA
  clear hA
  by_cases h : chk l (lim n) = 0
  · have R := Lib.hid (show tb l n = l from if_pos h)
    have L24 := ((chk_zero l (lim n)).1 h).1.1
    have KC := Lib.hid (fun w hA => rclone_any A c l w (by omega) hA)
    rw [h] at K
    clear h
    go_enter Try.func41, Try.ntmps41
    go_wp2_with fail
    refine K.out.mono ?_
    rintro _ w1 ⟨rfl, hb⟩
    have B1 := Lib.hid hb
    have hz1 := hb.size
    have HA1 := Lib.hid (HA.out.next hb)
    clear hb
    go_wp2_with fail
    refine (KC.out _ HA1.out).mono ?_
    rintro _ w2 ⟨v, rfl, ho, hb⟩
    have O := Lib.hid ho
    have B2 := Lib.hid (B1.out.trans (hb.mono hz1))
    clear ho hb
    go_wp2_with fail
    go_ret
    exact ⟨_, rfl, by rw [R.out]; exact O.out.down hz1, B2.out⟩
  · have R := Lib.hid (show tb l n = nw (lim n) by unfold tb; rw [if_neg h]; unfold nw; rw [lim_lim])
    have h2 : (chk l (lim n) != 0) = true := by simpa using h
    have KN := Lib.hid (fun w => pnew_any (lim n) w)
    generalize chk l (lim n) = q at *
    clear h
    generalize nw (lim n) = N at *
    go_enter Try.func41, Try.ntmps41
    go_wp2_with fail
    refine K.out.mono ?_
    rintro _ w1 ⟨rfl, hb⟩
    have B1 := Lib.hid hb
    have hz1 := hb.size
    clear hb
    go_wp2_with fail
    refine (KN.out _).mono ?_
    rintro _ w2 ⟨v, rfl, ho, hb⟩
    have O := Lib.hid ho
    have B2 := Lib.hid (B1.out.trans (hb.mono hz1))
    clear ho hb
    go_wp2_with fail
    go_ret
    exact ⟨_, rfl, by rw [R.out]; exact O.out.down hz1, B2.out⟩
end Go.Proofs.Ytcfnkfkdhcejeaa.Rte
