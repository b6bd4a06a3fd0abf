/- LinksSeen walked. -/
import Derived.Test.YthfkmmgckiijcaaLT
import Derived.Test.YthfkmmgckiijcaaLS
set_option linter.unusedVariables false
namespace Go.Proofs.Ythfkmmgckiijcaa.Lnk
open Go.RowKit

set_option maxRecDepth 100000 in
set_option maxHeartbeats 4000000 in
theorem law_seen (w : World) (A : Option Addr) (c : Nat) (l : List Lk) (n : Int) (ok : Bool) (hn : I64 n) (hl : l.length ≤ 9223372036854775807) (hc : l.length ≤ c) (hc0 : A = none → c = 0) (hA : LkAt w w.heap.size A l) :
    Calls Try.prog 4 #[.slice A l.length c, .int .i64 n, .bool ok] w (OutB w true) := by
  have HA := Lib.hid hA
  clear hA
  by_cases h300 : 300 < l.length
  · have d := dt h300
    clear hc0
    go_enter Try.func4, Try.ntmps4
    go_wp2_with fail
    refine (awake_any _).mono ?_
    rintro _ w1 ⟨rfl, hb⟩
    have B1 := Lib.hid hb
    clear hb
    go_wp2_with fail
    go_ret
    exact outB rfl B1.out
  have d := df h300
  have K1 := Lib.hid (fun w hA => lseen_any A c l n w hl hc hc0 hA ok)
  have K2 := Lib.hid (fun w hA => rseen_any A c l n w hl hA ok hn)
  have K3 := Lib.hid (fun w hA => lforget_any A c l n w hl hc hc0 hA)
  have K4 := Lib.hid (fun w hA => rforget_any A c l n w hl hA)
  have tt : (if ok then (1 : Int) else 0) = 0 ∨ (if ok then (1 : Int) else 0) = 1 := by cases ok <;> simp
  have L1 : (sen l n (if ok then 1 else 0)).length ≤ 1000000 := by have := (sen_val l n _ tt).1; omega
  have L2 : (fgt l n).length ≤ 1000000 := by have := (fgt_val l n).1; omega
  have K5 := Lib.hid (fun A1 A2 c1 c2 w h1 h2 => rsame_any A1 A2 c1 c2 (sen l n (if ok then 1 else 0)) w L1 h1 h2)
  have K6 := Lib.hid (fun A1 A2 c1 c2 w h1 h2 => rsame_any A1 A2 c1 c2 (fgt l n) w L2 h1 h2)
  clear hc0 L1 L2 tt
  generalize sen l n (if ok then 1 else 0) = f1 at *
  generalize fgt l n = f2 at *
  go_enter Try.func4, Try.ntmps4
  go_wp2_with fail
  refine (K1.out _ HA.out).mono ?_
  rintro _ w1 ⟨X1_A, X1_c, rfl, hs, X1_h, hn, hb⟩
  have B1 := Lib.hid hb
  have HA := Lib.hid (HA.out.next hb)
  have X1 := Lib.hid hs
  have X1_n := Lib.hid hn
  clear hs hn
  clear hb
  go_wp2_with fail
  refine (K2.out _ HA.out).mono ?_
  rintro _ w2 ⟨X2_A, X2_c, rfl, hs, X2_h, hn, hb⟩
  have B2 := Lib.hid (B1.out.trans (hb.mono B1.out.size))
  have HA := Lib.hid (HA.out.next hb)
  have X1 := Lib.hid (X1.out.next hb)
  have X2 := Lib.hid hs
  have X2_n := Lib.hid hn
  clear hs hn
  clear hb
  go_wp2_with fail
  refine (K5.out _ _ _ _ _ X1.out X2.out).mono ?_
  rintro _ w3 ⟨rfl, hb⟩
  have B3 := Lib.hid (B2.out.trans (hb.mono B2.out.size))
  have HA := Lib.hid (HA.out.next hb)
  have X1 := Lib.hid (X1.out.next hb)
  have X2 := Lib.hid (X2.out.next hb)
  clear hb
  clear X1 X2
  go_wp2_with fail
  refine (K3.out _ HA.out).mono ?_
  rintro _ w4 ⟨X3_A, X3_c, rfl, hs, X3_h, hn, hb⟩
  have B4 := Lib.hid (B3.out.trans (hb.mono B3.out.size))
  have HA := Lib.hid (HA.out.next hb)
  have X3 := Lib.hid hs
  have X3_n := Lib.hid hn
  clear hs hn
  clear hb
  go_wp2_with fail
  refine (K4.out _ HA.out).mono ?_
  rintro _ w5 ⟨X4_A, X4_c, rfl, hs, X4_h, hn, hb⟩
  have B5 := Lib.hid (B4.out.trans (hb.mono B4.out.size))
  have HA := Lib.hid (HA.out.next hb)
  have X3 := Lib.hid (X3.out.next hb)
  have X4 := Lib.hid hs
  have X4_n := Lib.hid hn
  clear hs hn
  clear hb
  go_wp2_with fail
  refine (K6.out _ _ _ _ _ X3.out X4.out).mono ?_
  rintro _ w6 ⟨rfl, hb⟩
  have B6 := Lib.hid (B5.out.trans (hb.mono B5.out.size))
  have HA := Lib.hid (HA.out.next hb)
  have X3 := Lib.hid (X3.out.next hb)
  have X4 := Lib.hid (X4.out.next hb)
  clear hb
  go_wp2_with fail
  refine (awake_any _).mono ?_
  rintro _ w7 ⟨rfl, hb⟩
  have B7 := Lib.hid (B6.out.trans (hb.mono B6.out.size))
  clear hb
  go_wp2_with fail
  go_ret
  exact outB rfl B7.out
end Go.Proofs.Ythfkmmgckiijcaa.Lnk
