/- Arguments opened; AddrPicks, AddrRounds, AddrSettles walked. -/
import Derived.Test.YtjhnilfnnongeaaAdK
set_option linter.unusedVariables false
namespace Go.Proofs.Ytjhnilfnnongeaa.Adr
open Go.RowKit

section
open Go.ChangeShapes Go.WideShapes
variable {H : Type} {enc : TypeId × Value → H}
theorem ints_at {W : World} {fuel : Nat} {sp : Nat → Bool} {hd : Bool} {A : Option Addr} {n c : Nat} {x : DataW H × List MemPlace} (hf : DataW.trod enc Try.prog W 0 sp hd fuel 23 [.slice A n c] = some x) :
    ∃ l, n = List.length l ∧ FlAt fI W W.heap.size A l ∧ l.length ≤ 9223372036854775807 ∧ l.length ≤ c ∧ (A = none → c = 0) := by
  refine flat_open Try.underlying23 (by kernel_rfl) (fun q cs y hl ht => ?_) hf
  match cs, hl with
  | [c0], _ =>
    obtain ⟨n0, e0, _, w0⟩ := DataW.trod_int Try.underlying3 ht
    obtain rfl : c0 = .int .i64 n0 := by simpa using e0
    exact ⟨n0, rfl, lit_i64 w0⟩
theorem claims_at {W : World} {fuel : Nat} {sp : Nat → Bool} {hd : Bool} {A : Option Addr} {n c : Nat} {x : DataW H × List MemPlace} (hf : DataW.trod enc Try.prog W 0 sp hd fuel 29 [.slice A n c] = some x) :
    ∃ l, n = List.length l ∧ ClAt W W.heap.size A l ∧ l.length ≤ 9223372036854775807 ∧ l.length ≤ c ∧ (A = none → c = 0) := by
  refine flat_open Try.underlying29 (by kernel_rfl) (fun q cs y hl ht => ?_) hf
  obtain ⟨xs, q, _, _, _, hxl, hfi⟩ := DataW.trod_struct Try.underlying40 ht
  match cs, hl with
  | [c0, c1, c2], _ =>
    have f0 : DataW.trod enc Try.prog W 0 sp hd q 22 [c0] = xs[0]? := hfi 0 _ rfl
    have f1 : DataW.trod enc Try.prog W 0 sp hd q 3 [c1] = xs[1]? := hfi 1 _ rfl
    have f2 : DataW.trod enc Try.prog W 0 sp hd q 3 [c2] = xs[2]? := hfi 2 _ rfl
    rw [List.getElem?_eq_getElem (by rw [hxl]; decide)] at f0 f1 f2
    obtain ⟨n0, e0, _, w0⟩ := DataW.trod_int Try.underlying22 f0
    obtain ⟨n1, e1, _, w1⟩ := DataW.trod_int Try.underlying3 f1
    obtain ⟨n2, e2, _, w2⟩ := DataW.trod_int Try.underlying3 f2
    obtain rfl : c0 = .int .u64 n0 := by simpa using e0
    obtain rfl : c1 = .int .i64 n1 := by simpa using e1
    obtain rfl : c2 = .int .i64 n2 := by simpa using e2
    exact ⟨(n0, n1, n2), rfl, lit_u64 w0, lit_i64 w1, lit_i64 w2⟩
end

set_option maxRecDepth 100000 in
set_option maxHeartbeats 4000000 in
theorem law_picks (w : World) (e t : Int) (A : Option Addr) (c : Nat) (l : List Int) (he : 0 ≤ e ∧ e < 18446744073709551616) (ht : I64 t) (hl : l.length ≤ 9223372036854775807) (hA : FlAt fI w w.heap.size A l) :
    Calls Try.prog 3 #[.int .u64 e, .int .i64 t, .slice A l.length c] w (OutB w true) := by
  have HA := Lib.hid hA
  clear hA
  by_cases h300 : 300 < l.length
  · have d := dt h300
    go_enter Try.func3, Try.ntmps3
    go_wp2_with fail
    refine (awake_any _).mono ?_
    rintro _ w1 ⟨rfl, hb⟩
    have B1 := Lib.hid hb
    clear hb
    go_wp2_with fail
    go_ret
    exact outB rfl B1.out
  have d := df h300
  have K1 := Lib.hid (fun w hA => afirst_any A c l e w he (by omega) hA)
  have K2 := Lib.hid (fun w hA => rfirst_any A c l e w he (by omega) hA)
  have P1 := Lib.hid (fun w => apick_any e t w he ht)
  have P2 := Lib.hid (fun w => rpick_any e t w he ht)
  obtain ⟨x, y, z, hv⟩ : ∃ x y z, frV (frs e l) e = .tuple #[.int .i64 x, .int .i64 y, .bool z] := by
    cases frs e l with
    | some t => exact ⟨_, _, _, rfl⟩
    | none => exact ⟨_, _, _, rfl⟩
  unfold OutFr at K1 K2
  rw [hv] at K1 K2
  clear hv
  generalize pk e t = q at *
  go_enter Try.func3, Try.ntmps3
  go_wp2_with fail
  refine (K1.out _ HA.out).mono ?_
  rintro _ w1 ⟨rfl, hb⟩
  have B1 := Lib.hid hb
  clear hb
  go_wp2_with fail
  refine (K2.out _ (HA.out.next B1.out)).mono ?_
  rintro _ w2 ⟨rfl, hb⟩
  have B2 := Lib.hid (B1.out.trans (hb.mono B1.out.size))
  clear hb
  go_wp2_with fail
  refine (P1.out _).mono ?_
  rintro _ w3 ⟨rfl, hb⟩
  have B3 := Lib.hid (B2.out.trans (hb.mono B2.out.size))
  clear hb
  go_wp2_with fail
  refine (P2.out _).mono ?_
  rintro _ w4 ⟨rfl, hb⟩
  have B4 := Lib.hid (B3.out.trans (hb.mono B3.out.size))
  clear hb
  cases z <;>
  · go_wp2_with fail
    refine (awake_any _).mono ?_
    rintro _ w5 ⟨rfl, hb⟩
    have B5 := Lib.hid (B4.out.trans (hb.mono B4.out.size))
    clear hb
    go_wp2_with fail
    go_ret
    exact outB rfl B5.out

set_option maxRecDepth 100000 in
set_option maxHeartbeats 4000000 in
theorem law_rounds (w : World) (A : Option Addr) (c : Nat) (l : List Clm) (hl : l.length ≤ 9223372036854775807) (hA : ClAt w w.heap.size A l) :
    Calls Try.prog 4 #[.slice A l.length c] w (OutB w true) := by
  have HA := Lib.hid hA
  clear hA
  by_cases h30 : 30 < l.length
  · have d := dt h30
    go_enter Try.func4, Try.ntmps4
    go_wp2_with fail
    refine (awake_any _).mono ?_
    rintro _ w1 ⟨rfl, hb⟩
    have B1 := Lib.hid hb
    clear hb
    go_wp2_with fail
    go_ret
    exact outB rfl B1.out
  have d := df h30
  have K1 := Lib.hid (fun w hA => around_any A c l w hl hA)
  have K2 := Lib.hid (fun w hA => rRound_any A c l w hl hA)
  have C1 := Lib.hid (fun w hA => acheck_any A c l w hl hA)
  have C2 := Lib.hid (fun w hA => rcheck_any A c l w hl hA)
  have N1 := Lib.hid (fun w hA => aconf_any A c l w hl hA)
  have N2 := Lib.hid (fun w hA => rconf_any A c l w hl hA)
  have LR : (rdL l).length ≤ 30 := by unfold rdL; split; (rw [rnd_len]; omega); simp
  have LN : (cnf l).length ≤ 250 := by unfold cnf; split; exact cnfN_len _ _; simp
  have SM := Lib.hid (fun A1 A2 c1 c2 w h1 h2 => (show Calls Try.prog 22 #[.slice A1 (rdL l).length c1, .slice A2 (rdL l).length c2] w (OutB w true) by have := same_any A1 A2 c1 c2 (rdL l) (rdL l) w (by omega) (by omega) h1 h2; rwa [decide_eq_true rfl] at this))
  have EQ := Lib.hid (fun A1 A2 c1 c2 w h1 h2 => (show Calls Try.prog 19 #[.slice A1 (cnf l).length c1, .slice A2 (cnf l).length c2] w (OutB w true) by have := equal_any A1 A2 c1 c2 (cnf l) (cnf l) w (by omega) (by omega) h1 h2; rwa [decide_eq_true rfl] at this))
  clear LR LN
  unfold OutRo at K1 K2
  generalize rdL l = r at *
  generalize rdN l = n at *
  generalize cnf l = f at *
  generalize chk l = q at *
  go_enter Try.func4, Try.ntmps4
  go_wp2_with fail
  refine (K1.out _ HA.out).mono ?_
  rintro _ w1 ⟨A1, c1, rfl, hs, hb⟩
  have B1 := Lib.hid hb
  have S1 := Lib.hid hs
  clear hb hs
  go_wp2_with fail
  refine (K2.out _ (HA.out.next B1.out)).mono ?_
  rintro _ w2 ⟨A2, c2, rfl, hs, hb⟩
  have B2 := Lib.hid (B1.out.trans (hb.mono B1.out.size))
  have S2 := Lib.hid hs
  have S1 := Lib.hid (S1.out.next hb)
  clear hb hs
  go_wp2_with fail
  refine (C1.out _ (HA.out.next B2.out)).mono ?_
  rintro _ w3 ⟨rfl, hb⟩
  have B3 := Lib.hid (B2.out.trans (hb.mono B2.out.size))
  have S1 := Lib.hid (S1.out.next hb)
  have S2 := Lib.hid (S2.out.next hb)
  clear hb
  go_wp2_with fail
  refine (C2.out _ (HA.out.next B3.out)).mono ?_
  rintro _ w4 ⟨rfl, hb⟩
  have B4 := Lib.hid (B3.out.trans (hb.mono B3.out.size))
  have S1 := Lib.hid (S1.out.next hb)
  have S2 := Lib.hid (S2.out.next hb)
  clear hb
  go_wp2_with fail
  refine (N1.out _ (HA.out.next B4.out)).mono ?_
  rintro _ w5 ⟨A5, c5, rfl, hs, _, _, hb⟩
  have B5 := Lib.hid (B4.out.trans (hb.mono B4.out.size))
  have S1 := Lib.hid (S1.out.next hb)
  have S2 := Lib.hid (S2.out.next hb)
  have S5 := Lib.hid hs
  clear hb hs
  go_wp2_with fail
  refine (N2.out _ (HA.out.next B5.out)).mono ?_
  rintro _ w6 ⟨A6, c6, rfl, hs, _, _, hb⟩
  have B6 := Lib.hid (B5.out.trans (hb.mono B5.out.size))
  have S1 := Lib.hid (S1.out.next hb)
  have S2 := Lib.hid (S2.out.next hb)
  have S5 := Lib.hid (S5.out.next hb)
  have S6 := Lib.hid hs
  clear hb hs
  go_wp2_with fail
  refine (EQ.out _ _ _ _ _ S5.out S6.out).mono ?_
  rintro _ w7 ⟨rfl, hb⟩
  have B7 := Lib.hid (B6.out.trans (hb.mono B6.out.size))
  have S1 := Lib.hid (S1.out.next hb)
  have S2 := Lib.hid (S2.out.next hb)
  clear hb
  go_wp2_with fail
  refine (SM.out _ _ _ _ _ S1.out S2.out).mono ?_
  rintro _ w8 ⟨rfl, hb⟩
  have B8 := Lib.hid (B7.out.trans (hb.mono B7.out.size))
  clear hb
  go_wp2_with fail
  refine (awake_any _).mono ?_
  rintro _ w9 ⟨rfl, hb⟩
  have B9 := Lib.hid (B8.out.trans (hb.mono B8.out.size))
  clear hb
  go_wp2_with fail
  go_ret
  exact outB rfl B9.out

set_option maxRecDepth 100000 in
set_option maxHeartbeats 4000000 in
theorem law_settles (w : World) (A : Option Addr) (c : Nat) (l : List Clm) (hl : l.length ≤ 9223372036854775807) (hc : l.length ≤ c) (hc0 : A = none → c = 0) (hA : ClAt w w.heap.size A l) :
    Calls Try.prog 5 #[.slice A l.length c] w (OutB w true) := by
  have HA := Lib.hid hA
  clear hA
  by_cases h30 : 30 < l.length
  · have d := dt h30
    clear hc0
    go_enter Try.func5, Try.ntmps5
    go_wp2_with fail
    refine (awake_any _).mono ?_
    rintro _ w1 ⟨rfl, hb⟩
    have B1 := Lib.hid hb
    clear hb
    go_wp2_with fail
    go_ret
    exact outB rfl B1.out
  have d := df h30
  have K1 := Lib.hid (fun w hA => asettle_any A c l w (by omega) hA)
  have K2 := Lib.hid (fun w hA => rsettle_any A c l w hl hc hc0 hA)
  clear hc0
  have LR : (stl l).length ≤ 30 := by unfold stl; split; (rw [itR_len]; omega); omega
  have SM := Lib.hid (fun A1 A2 c1 c2 w h1 h2 => (show Calls Try.prog 22 #[.slice A1 (stl l).length c1, .slice A2 (stl l).length c2] w (OutB w true) by have := same_any A1 A2 c1 c2 (stl l) (stl l) w (by omega) (by omega) h1 h2; rwa [decide_eq_true rfl] at this))
  clear LR
  generalize stl l = r at *
  go_enter Try.func5, Try.ntmps5
  go_wp2_with fail
  refine (K1.out _ HA.out).mono ?_
  rintro _ w1 ⟨A1, c1, rfl, hs, _, _, hb⟩
  have B1 := Lib.hid hb
  have S1 := Lib.hid hs
  clear hb hs
  go_wp2_with fail
  refine (K2.out _ (HA.out.next B1.out)).mono ?_
  rintro _ w2 ⟨A2, c2, rfl, hs, _, _, hb⟩
  have B2 := Lib.hid (B1.out.trans (hb.mono B1.out.size))
  have S2 := Lib.hid hs
  have S1 := Lib.hid (S1.out.next hb)
  clear hb hs
  go_wp2_with fail
  refine (SM.out _ _ _ _ _ S1.out S2.out).mono ?_
  rintro _ w3 ⟨rfl, hb⟩
  have B3 := Lib.hid (B2.out.trans (hb.mono B2.out.size))
  clear hb
  go_wp2_with fail
  refine (awake_any _).mono ?_
  rintro _ w4 ⟨rfl, hb⟩
  have B4 := Lib.hid (B3.out.trans (hb.mono B3.out.size))
  clear hb
  go_wp2_with fail
  go_ret
  exact outB rfl B4.out
end Go.Proofs.Ytjhnilfnnongeaa.Adr
