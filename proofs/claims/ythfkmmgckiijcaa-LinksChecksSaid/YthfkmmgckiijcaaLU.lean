/- LinksChecks and LinksCosts walked. -/
import Derived.Test.YthfkmmgckiijcaaLT
set_option linter.unusedVariables false
namespace Go.Proofs.Ythfkmmgckiijcaa.Lnk
open Go.RowKit

set_option maxRecDepth 100000 in
set_option maxHeartbeats 4000000 in
theorem law_checks (w : World) (A : Option Addr) (c : Nat) (l : List Lk) (hl : l.length ≤ 9223372036854775807) (hc : l.length ≤ c) (hc0 : A = none → c = 0) (hA : LkAt w w.heap.size A l) :
    Calls Try.prog 3 #[.slice A l.length c] w (OutB w true) := by
  have HA := Lib.hid hA
  have K1 := Lib.hid (fun w hA => lcheck_any A c l w hl hA)
  have K2 := Lib.hid (fun w hA => rcheck_any A c l w hl hA)
  clear hA hc0
  generalize chk l = q at *
  by_cases h300 : 300 < l.length
  · have d := dt h300
    go_enter Try.func3, Try.ntmps3
    go_wp2_with fail
    go_ret
    exact outB rfl (Below.refl _ _)
  have d := df h300
  go_enter Try.func3, Try.ntmps3
  go_wp2_with fail
  refine (K1.out _ HA.out).mono ?_
  rintro _ w1 ⟨rfl, hb⟩
  have B1 := Lib.hid hb
  have HA := Lib.hid (HA.out.next hb)
  clear hb
  go_wp2_with fail
  refine (K2.out _ HA.out).mono ?_
  rintro _ w2 ⟨rfl, hb⟩
  have B2 := Lib.hid (B1.out.trans (hb.mono B1.out.size))
  have HA := Lib.hid (HA.out.next hb)
  clear hb
  go_wp2_with fail
  refine (awake_any _).mono ?_
  rintro _ w3 ⟨rfl, hb⟩
  have B3 := Lib.hid (B2.out.trans (hb.mono B2.out.size))
  have HA := Lib.hid (HA.out.next hb)
  clear hb
  go_wp2_with fail
  go_ret
  exact outB rfl B3.out

set_option maxRecDepth 100000 in
set_option maxHeartbeats 4000000 in
theorem law_costs (w : World) (A : Option Addr) (c : Nat) (l : List Lk) (n : Int) (hl : l.length ≤ 9223372036854775807) (hc : l.length ≤ c) (hc0 : A = none → c = 0) (hA : LkAt w w.heap.size A l) :
    Calls Try.prog 5 #[.slice A l.length c, .int .i64 n] w (OutB w true) := by
  have HA := Lib.hid hA
  clear hA
  by_cases h300 : 300 < l.length
  · have d := dt h300
    clear hc0
    go_enter Try.func5, Try.ntmps5
    go_wp2_with fail
    refine (awake_any _).mono ?_
    rintro _ w1 ⟨rfl, hb⟩
    have B1 := Lib.hid hb
    clear hb
    go_wp2_with fail
    go_ret
    exact outB rfl B1.out
  have d := df h300
  have K1 := Lib.hid (fun w hA => lcost_any A c l n w hl hc hc0 hA)
  have K2 := Lib.hid (fun w hA => rcost_any A c l n w hl hA)
  have K3 := Lib.hid (fun w hA => lquality_any A c l n w hl hc hc0 hA)
  have K4 := Lib.hid (fun w hA => rquality_any A c l n w hl hA)
  have K5 := Lib.hid (fun w hA => lbest_any A c l w hl hc hc0 hA)
  have K6 := Lib.hid (fun w hA => rbest_any A c l w hl hA)
  have BL : (bst l).length ≤ 1000000 := by rw [bst_bk]; have := bk_len l 151; omega
  have K7 := Lib.hid (fun A1 A2 c1 c2 w h1 h2 => rsameI_any A1 A2 c1 c2 (bst l) w BL h1 h2)
  clear hc0 BL
  generalize cost l n = q1 at *
  generalize quality l n = q2 at *
  generalize bst l = bb at *
  go_enter Try.func5, Try.ntmps5
  go_wp2_with fail
  refine (K1.out _ HA.out).mono ?_
  rintro _ w1 ⟨rfl, hb⟩
  have B1 := Lib.hid hb
  have HA := Lib.hid (HA.out.next hb)
  clear hb
  go_wp2_with fail
  refine (K2.out _ HA.out).mono ?_
  rintro _ w2 ⟨rfl, hb⟩
  have B2 := Lib.hid (B1.out.trans (hb.mono B1.out.size))
  have HA := Lib.hid (HA.out.next hb)
  clear hb
  go_wp2_with fail
  refine (K3.out _ HA.out).mono ?_
  rintro _ w3 ⟨rfl, hb⟩
  have B3 := Lib.hid (B2.out.trans (hb.mono B2.out.size))
  have HA := Lib.hid (HA.out.next hb)
  clear hb
  go_wp2_with fail
  refine (K4.out _ HA.out).mono ?_
  rintro _ w4 ⟨rfl, hb⟩
  have B4 := Lib.hid (B3.out.trans (hb.mono B3.out.size))
  have HA := Lib.hid (HA.out.next hb)
  clear hb
  go_wp2_with fail
  refine (K5.out _ HA.out).mono ?_
  rintro _ w5 ⟨X5_A, X5_c, rfl, hs, X5_h, hn, hb⟩
  have B5 := Lib.hid (B4.out.trans (hb.mono B4.out.size))
  have HA := Lib.hid (HA.out.next hb)
  have X5 := Lib.hid hs
  have X5_n := Lib.hid hn
  clear hs hn
  clear hb
  go_wp2_with fail
  refine (K6.out _ HA.out).mono ?_
  rintro _ w6 ⟨X6_A, X6_c, rfl, hs, X6_h, hn, hb⟩
  have B6 := Lib.hid (B5.out.trans (hb.mono B5.out.size))
  have HA := Lib.hid (HA.out.next hb)
  have X5 := Lib.hid (X5.out.next hb)
  have X6 := Lib.hid hs
  have X6_n := Lib.hid hn
  clear hs hn
  clear hb
  go_wp2_with fail
  refine (K7.out _ _ _ _ _ X5.out X6.out).mono ?_
  rintro _ w7 ⟨rfl, hb⟩
  have B7 := Lib.hid (B6.out.trans (hb.mono B6.out.size))
  have HA := Lib.hid (HA.out.next hb)
  have X5 := Lib.hid (X5.out.next hb)
  have X6 := Lib.hid (X6.out.next hb)
  clear hb
  go_wp2_with fail
  refine (awake_any _).mono ?_
  rintro _ w8 ⟨rfl, hb⟩
  have B8 := Lib.hid (B7.out.trans (hb.mono B7.out.size))
  clear hb
  go_wp2_with fail
  go_ret
  exact outB rfl B8.out
end Go.Proofs.Ythfkmmgckiijcaa.Lnk
