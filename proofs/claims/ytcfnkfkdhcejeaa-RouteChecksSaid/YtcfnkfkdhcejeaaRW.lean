/- RouteChecks, RouteBreaks, RouteCodes walked. -/
import Derived.Test.YtcfnkfkdhcejeaaRV
set_option linter.unusedVariables false
namespace Go.Proofs.Ytcfnkfkdhcejeaa.Rte
open Go.RowKit

theorem str_self (l : List UInt8) : ((bs l).toList == (bs l).toList) = true := by simp
set_option maxRecDepth 100000 in
set_option maxHeartbeats 4000000 in
theorem law_checks (w : World) (A : Option Addr) (c : Nat) (l : List Rt) (n : Int) (hl : l.length ≤ 9223372036854775807) (hA : RtAt w w.heap.size A l) :
    Calls Try.prog 3 #[.slice A l.length c, .int .i64 n] w (OutB w true) := by
  have HA := Lib.hid hA
  clear hA
  by_cases h60 : 60 < l.length
  · have d : decide ((60 : Int) < (l.length : Int)) = true := dt (by omega)
    go_enter Try.func3, Try.ntmps3
    go_wp2_with fail
    refine (awake_any _).mono ?_
    rintro _ w1 ⟨rfl, hb⟩
    have B1 := Lib.hid hb
    clear hb
    go_wp2_with fail
    go_ret
    exact outB rfl B1.out
  have d : decide ((60 : Int) < (l.length : Int)) = false := df (by omega)
  have K1 := Lib.hid (fun w => pnew_any n w)
  have K2 := Lib.hid (fun w => rnewO_any n w)
  have K3 := Lib.hid (fun A1 A2 c1 c2 w h1 h2 => rsame_any A1 A2 c1 c2 (nw n) w (show (nw n).length ≤ 1000000 by unfold nw; simp) h1 h2)
  have K4 := Lib.hid (fun w hA => pcheck_any A c l n w hl hA)
  have K5 := Lib.hid (fun w hA => rcheck_any A c l n w hl hA)
  have K6 := Lib.hid (fun w hA => pbump_any A c l n w hl hA)
  have K7 := Lib.hid (fun w hA => rbump_any A c l n w hl hA)
  have BL : (bmp l n).length ≤ 1000000 := by have := (bmp_tab l n).1.1; omega
  have K8 := Lib.hid (fun A1 A2 c1 c2 w h1 h2 => rsame_any A1 A2 c1 c2 (bmp l n) w BL h1 h2)
  clear BL
  generalize chk l n = q at *
  generalize bmp l n = F at *
  generalize nw n = N at *
  go_enter Try.func3, Try.ntmps3
  go_wp2_with fail
  refine (K1.out _).mono ?_
  rintro _ w1 ⟨v, rfl, ho, hb⟩
  obtain ⟨X1_A, X1_c, rfl, hs, X1_h, X1_n⟩ := ho.read
  have B1 := Lib.hid hb
  have HA := Lib.hid (HA.out.next hb)
  have X1 := Lib.hid hs
  clear hs ho X1_n
  clear hb
  go_wp2_with fail
  refine (K2.out _).mono ?_
  rintro _ w2 ⟨v, rfl, ho, hb⟩
  obtain ⟨X2_A, X2_c, rfl, hs, X2_h, X2_n⟩ := ho.read
  have B2 := Lib.hid (B1.out.trans (hb.mono B1.out.size))
  have HA := Lib.hid (HA.out.next hb)
  have X1 := Lib.hid (X1.out.next hb)
  have X2 := Lib.hid hs
  clear hs ho X2_n
  clear hb
  go_wp2_with fail
  refine (K3.out _ _ _ _ _ X1.out X2.out).mono ?_
  rintro _ w3 ⟨rfl, hb⟩
  have B3 := Lib.hid (B2.out.trans (hb.mono B2.out.size))
  have HA := Lib.hid (HA.out.next hb)
  have X1 := Lib.hid (X1.out.next hb)
  have X2 := Lib.hid (X2.out.next hb)
  clear hb
  clear X1 X2
  go_wp2_with fail
  refine (K4.out _ HA.out).mono ?_
  rintro _ w4 ⟨rfl, hb⟩
  have B4 := Lib.hid (B3.out.trans (hb.mono B3.out.size))
  have HA := Lib.hid (HA.out.next hb)
  clear hb
  go_wp2_with fail
  refine (K5.out _ HA.out).mono ?_
  rintro _ w5 ⟨rfl, hb⟩
  have B5 := Lib.hid (B4.out.trans (hb.mono B4.out.size))
  have HA := Lib.hid (HA.out.next hb)
  clear hb
  go_wp2_with fail
  refine (K6.out _ HA.out).mono ?_
  rintro _ w6 ⟨v, rfl, ho, hb⟩
  obtain ⟨X3_A, X3_c, rfl, hs, X3_h, X3_n⟩ := ho.read
  have B6 := Lib.hid (B5.out.trans (hb.mono B5.out.size))
  have HA := Lib.hid (HA.out.next hb)
  have X3 := Lib.hid hs
  clear hs ho X3_n
  clear hb
  go_wp2_with fail
  refine (K7.out _ HA.out).mono ?_
  rintro _ w7 ⟨v, rfl, ho, hb⟩
  obtain ⟨X4_A, X4_c, rfl, hs, X4_h, X4_n⟩ := ho.read
  have B7 := Lib.hid (B6.out.trans (hb.mono B6.out.size))
  have HA := Lib.hid (HA.out.next hb)
  have X3 := Lib.hid (X3.out.next hb)
  have X4 := Lib.hid hs
  clear hs ho X4_n
  clear hb
  go_wp2_with fail
  refine (K8.out _ _ _ _ _ X3.out X4.out).mono ?_
  rintro _ w8 ⟨rfl, hb⟩
  have B8 := Lib.hid (B7.out.trans (hb.mono B7.out.size))
  have X3 := Lib.hid (X3.out.next hb)
  have X4 := Lib.hid (X4.out.next hb)
  clear hb
  go_wp2_with fail
  refine (awake_any _).mono ?_
  rintro _ w9 ⟨rfl, hb⟩
  have B9 := Lib.hid (B8.out.trans (hb.mono B8.out.size))
  clear hb
  go_wp2_with fail
  go_ret
  exact outB rfl B9.out

set_option maxRecDepth 100000 in
set_option maxHeartbeats 4000000 in
theorem law_breaks (w : World) (A : Option Addr) (c : Nat) (l : List Rt) (n m : Int) (hl : l.length ≤ 9223372036854775807) (hA : RtAt w w.heap.size A l) :
    Calls Try.prog 5 #[.slice A l.length c, .int .i64 n, .int .i64 m] w (OutB w true) := by
  have HA := Lib.hid hA
  clear hA
  by_cases h60 : 60 < l.length
  · have d : decide ((60 : Int) < (l.length : Int)) = true := dt (by omega)
    go_enter Try.func5, Try.ntmps5
    go_wp2_with fail
    refine (awake_any _).mono ?_
    rintro _ w1 ⟨rfl, hb⟩
    have B1 := Lib.hid hb
    clear hb
    go_wp2_with fail
    go_ret
    exact outB rfl B1.out
  have d : decide ((60 : Int) < (l.length : Int)) = false := df (by omega)
  have K1 := Lib.hid (fun w hA => phop_any A c l m w hl hA)
  have K2 := Lib.hid (fun w hA => rhop_any A c l m w hl hA)
  have K6 := Lib.hid (fun w hA => pbreak_any A c l n m w hl hA)
  have K7 := Lib.hid (fun w hA => rbreak_any A c l n m w hl hA)
  have BL : (brk l n m).length ≤ 1000000 := by have := (brk_tab l n m).1.1; omega
  have K8 := Lib.hid (fun A1 A2 c1 c2 w h1 h2 => rsame_any A1 A2 c1 c2 (brk l n m) w BL h1 h2)
  clear BL
  unfold OutP at *
  generalize hop l m = q at *
  obtain ⟨q1, q2⟩ := q
  generalize brk l n m = F at *
  go_enter Try.func5, Try.ntmps5
  go_wp2_with fail
  refine (K1.out _ HA.out).mono ?_
  rintro _ w1 ⟨rfl, hb⟩
  have B1 := Lib.hid hb
  have HA := Lib.hid (HA.out.next hb)
  clear hb
  go_wp2_with fail
  refine (K2.out _ HA.out).mono ?_
  rintro _ w2 ⟨rfl, hb⟩
  have B2 := Lib.hid (B1.out.trans (hb.mono B1.out.size))
  have HA := Lib.hid (HA.out.next hb)
  clear hb
  go_wp2_with fail
  refine (K6.out _ HA.out).mono ?_
  rintro _ w3 ⟨v, rfl, ho, hb⟩
  obtain ⟨X3_A, X3_c, rfl, hs, X3_h, X3_n⟩ := ho.read
  have B3 := Lib.hid (B2.out.trans (hb.mono B2.out.size))
  have HA := Lib.hid (HA.out.next hb)
  have X3 := Lib.hid hs
  clear hs ho X3_n
  clear hb
  go_wp2_with fail
  refine (K7.out _ HA.out).mono ?_
  rintro _ w4 ⟨v, rfl, ho, hb⟩
  obtain ⟨X4_A, X4_c, rfl, hs, X4_h, X4_n⟩ := ho.read
  have B4 := Lib.hid (B3.out.trans (hb.mono B3.out.size))
  have HA := Lib.hid (HA.out.next hb)
  have X3 := Lib.hid (X3.out.next hb)
  have X4 := Lib.hid hs
  clear hs ho X4_n
  clear hb
  go_wp2_with fail
  refine (K8.out _ _ _ _ _ X3.out X4.out).mono ?_
  rintro _ w5 ⟨rfl, hb⟩
  have B5 := Lib.hid (B4.out.trans (hb.mono B4.out.size))
  have X3 := Lib.hid (X3.out.next hb)
  have X4 := Lib.hid (X4.out.next hb)
  clear hb
  go_wp2_with fail
  refine (awake_any _).mono ?_
  rintro _ w6 ⟨rfl, hb⟩
  have B6 := Lib.hid (B5.out.trans (hb.mono B5.out.size))
  clear hb
  go_wp2_with fail
  go_ret
  exact outB rfl B6.out

set_option maxRecDepth 100000 in
set_option maxHeartbeats 4000000 in
theorem law_codes (w : World) (A : Option Addr) (c : Nat) (l : List Rt) (s : ByteArray) (hl : l.length ≤ 9223372036854775807) (hA : RtAt w w.heap.size A l) :
    Calls Try.prog 6 #[.slice A l.length c, .string s] w (OutB w true) := by
  have HA := Lib.hid hA
  clear hA
  by_cases h60 : 60 < l.length
  · have d : decide ((60 : Int) < (l.length : Int)) = true := dt (by omega)
    go_enter Try.func6, Try.ntmps6
    go_wp2_with fail
    refine (awake_any _).mono ?_
    rintro _ w1 ⟨rfl, hb⟩
    have B1 := Lib.hid hb
    clear hb
    go_wp2_with fail
    go_ret
    exact outB rfl B1.out
  have d : decide ((60 : Int) < (l.length : Int)) = false := df (by omega)
  by_cases h200 : 200 < s.size
  · have d2 : decide ((200 : Int) < (s.size : Int)) = true := dt (by omega)
    go_enter Try.func6, Try.ntmps6
    go_wp2_with fail
    refine (awake_any _).mono ?_
    rintro _ w1 ⟨rfl, hb⟩
    have B1 := Lib.hid hb
    clear hb
    go_wp2_with fail
    go_ret
    exact outB rfl B1.out
  have d2 : decide ((200 : Int) < (s.size : Int)) = false := df (by omega)
  have K1 := Lib.hid (fun w => pdec_any s w (by omega))
  have K2 := Lib.hid (fun w => rdec_any s w (by omega))
  have K6 := Lib.hid (fun w hA => penc_any A c l w hl hA)
  have K7 := Lib.hid (fun w hA => renc_any A c l w hl hA)
  have BL : (dec s.data.toList).1.length ≤ 1000000 := by
    have hb := bytes_len s
    unfold dec
    split
    · simp
    · split
      · simp
      · split
        · have := (rts_back (s.data.toList.length / 4) s.data.toList (by omega)).2
          dsimp only
          omega
        · simp
  have K8 := Lib.hid (fun A1 A2 c1 c2 w h1 h2 => rsame_any A1 A2 c1 c2 (dec s.data.toList).1 w BL h1 h2)
  have SS := str_self (enc l)
  clear BL
  unfold OutS at *
  generalize dec s.data.toList = q at *
  obtain ⟨q1, q2⟩ := q
  generalize enc l = F at *
  go_enter Try.func6, Try.ntmps6
  go_wp2_with fail
  refine (K1.out _).mono ?_
  rintro _ w1 ⟨v, rfl, ho, hb⟩
  obtain ⟨X1_A, X1_c, rfl, hs, X1_h, X1_n⟩ := ho.read
  have B1 := Lib.hid hb
  have HA := Lib.hid (HA.out.next hb)
  have X1 := Lib.hid hs
  clear hs ho X1_n
  clear hb
  go_wp2_with fail
  refine (K2.out _).mono ?_
  rintro _ w2 ⟨v, rfl, ho, hb⟩
  obtain ⟨X2_A, X2_c, rfl, hs, X2_h, X2_n⟩ := ho.read
  have B2 := Lib.hid (B1.out.trans (hb.mono B1.out.size))
  have HA := Lib.hid (HA.out.next hb)
  have X1 := Lib.hid (X1.out.next hb)
  have X2 := Lib.hid hs
  clear hs ho X2_n
  clear hb
  go_wp2_with fail
  refine (K6.out _ HA.out).mono ?_
  rintro _ w3 ⟨rfl, hb⟩
  have B3 := Lib.hid (B2.out.trans (hb.mono B2.out.size))
  have HA := Lib.hid (HA.out.next hb)
  have X1 := Lib.hid (X1.out.next hb)
  have X2 := Lib.hid (X2.out.next hb)
  clear hb
  go_wp2_with fail
  refine (K7.out _ HA.out).mono ?_
  rintro _ w4 ⟨rfl, hb⟩
  have B4 := Lib.hid (B3.out.trans (hb.mono B3.out.size))
  have HA := Lib.hid (HA.out.next hb)
  have X1 := Lib.hid (X1.out.next hb)
  have X2 := Lib.hid (X2.out.next hb)
  clear hb
  go_wp2_with fail
  refine (K8.out _ _ _ _ _ X1.out X2.out).mono ?_
  rintro _ w5 ⟨rfl, hb⟩
  have B5 := Lib.hid (B4.out.trans (hb.mono B4.out.size))
  have X1 := Lib.hid (X1.out.next hb)
  have X2 := Lib.hid (X2.out.next hb)
  clear hb
  go_wp2_with fail
  refine (awake_any _).mono ?_
  rintro _ w6 ⟨rfl, hb⟩
  have B6 := Lib.hid (B5.out.trans (hb.mono B5.out.size))
  clear hb
  go_wp2_with fail
  go_ret
  exact outB rfl B6.out
end Go.Proofs.Ytcfnkfkdhcejeaa.Rte
