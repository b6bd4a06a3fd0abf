/- The walks of SchedChecks, SchedNorms, SchedAsks, SchedCombines, SchedDays, SchedSets, SchedLengths. -/
import Derived.Test.YtnocbgimfmgdeaaSO
set_option linter.unusedVariables false
namespace Go.Proofs.Ytnocbgimfmgdeaa
open Go.RowKit

section
variable (w : World) (A : Option Addr) (c : Nat) (l : List Spn)
set_option maxRecDepth 100000 in
set_option maxHeartbeats 2000000 in
theorem law_checks (hl : l.length ≤ 9223372036854775807) (hA : SpAt w w.heap.size A l) : Calls Try.prog 3 #[.slice A l.length c] w (OutB w true) := by
  have HA := Lib.hid hA
  clear hA
  by_cases h : 300 < l.length
  · go_enter Try.func3, Try.ntmps3
    go_wp2_with fail
    refine (sawake_any _).mono ?_
    rintro e w1 ⟨rfl, hb⟩
    go_wp2_with fail
    go_ret
    exact outB rfl hb
  · have C1 := Lib.hid (scheck_any A c l w (by omega) HA.out)
    have C2 := Lib.hid (fun w hA => rcheck_any A c l w (by omega) hA)
    generalize chkS l = q at *
    go_enter Try.func3, Try.ntmps3
    go_wp2_with fail
    refine C1.out.mono ?_
    rintro e w1 ⟨rfl, hb⟩
    have B1 := Lib.hid hb
    have H1 := Lib.hid ((HA.out.below hb).mono hb.size)
    clear hb
    go_wp2_with fail
    refine (C2.out w1 H1.out).mono ?_
    rintro e w2 ⟨rfl, hb⟩
    have B2 := Lib.hid (B1.out.trans (hb.mono B1.out.size))
    clear hb
    go_wp2_with fail
    refine (sawake_any _).mono ?_
    rintro e w3 ⟨rfl, hb⟩
    have B3 := Lib.hid (B2.out.trans (hb.mono B2.out.size))
    clear hb
    go_wp2_with fail
    go_ret
    exact outB rfl B3.out

set_option maxRecDepth 100000 in
set_option maxHeartbeats 2000000 in
theorem law_norms (hl : l.length ≤ 9223372036854775807) (hA : SpAt w w.heap.size A l) : Calls Try.prog 4 #[.slice A l.length c] w (OutB w true) := by
  have HA := Lib.hid hA
  clear hA
  by_cases h : 40 < l.length
  · go_enter Try.func4, Try.ntmps4
    go_wp2_with fail
    refine (sawake_any _).mono ?_
    rintro e w1 ⟨rfl, hb⟩
    go_wp2_with fail
    go_ret
    exact outB rfl hb
  · have L1 := Lib.hid (fun w hA => slength_any w A c l (by omega) hA)
    have L2 := Lib.hid (fun w hA => rlength_any w A c l (by omega) hA)
    generalize cntS (inS l) 10080 = q at *
    go_enter Try.func4, Try.ntmps4
    go_wp2_with fail
    refine (snorm_any w A c l (by omega) HA.out).mono ?_
    rintro e w1 ⟨A1, c1, F, rfl, hs, hn, hb⟩
    have B1 := Lib.hid hb
    have H1 := Lib.hid ((HA.out.below hb).mono hb.size)
    have S1 := Lib.hid hs
    have N1 := Lib.hid hn
    clear hb hs hn
    go_wp2_with fail
    refine (rnorm_any w1 A c l (by omega) H1.out).mono ?_
    rintro e w2 ⟨A2, c2, F2, rfl, hs, hn, hb⟩
    obtain rfl := hn.one N1.out
    have B2 := Lib.hid (B1.out.trans (hb.mono B1.out.size))
    have H2 := Lib.hid ((H1.out.below hb).mono hb.size)
    have S2 := Lib.hid ((S1.out.below hb).mono hb.size)
    have S3 := Lib.hid hs
    have LF := hn.len
    clear hb hs hn
    go_wp2_with fail
    refine (rsame_true A1 A2 c1 c2 _ w2 (by omega) S2.out S3.out).mono ?_
    rintro e w3 ⟨rfl, hb⟩
    have B3 := Lib.hid (B2.out.trans (hb.mono B2.out.size))
    have H3 := Lib.hid ((H2.out.below hb).mono hb.size)
    clear hb
    go_wp2_with fail
    refine (L1.out w3 H3.out).mono ?_
    rintro e w4 ⟨rfl, hb⟩
    have B4 := Lib.hid (B3.out.trans (hb.mono B3.out.size))
    have H4 := Lib.hid ((H3.out.below hb).mono hb.size)
    clear hb
    go_wp2_with fail
    refine (L2.out w4 H4.out).mono ?_
    rintro e w5 ⟨rfl, hb⟩
    have B5 := Lib.hid (B4.out.trans (hb.mono B4.out.size))
    clear hb
    go_wp2_with fail
    refine (sawake_any _).mono ?_
    rintro e w6 ⟨rfl, hb⟩
    have B6 := Lib.hid (B5.out.trans (hb.mono B5.out.size))
    clear hb
    go_wp2_with fail
    go_ret
    exact outB rfl B6.out

set_option maxRecDepth 100000 in
set_option maxHeartbeats 2000000 in
theorem law_asks (hl : l.length ≤ 9223372036854775807) (hA : SpAt w w.heap.size A l) (m : Int) : Calls Try.prog 5 #[.slice A l.length c, .int .i64 m] w (OutB w true) := by
  have HA := Lib.hid hA
  clear hA
  by_cases h : 40 < l.length
  · go_enter Try.func5, Try.ntmps5
    go_wp2_with fail
    refine (sawake_any _).mono ?_
    rintro e w1 ⟨rfl, hb⟩
    go_wp2_with fail
    go_ret
    exact outB rfl hb
  · have L1 := Lib.hid (fun w hA => shas_any A c l m w (by omega) hA)
    have L2 := Lib.hid (fun w hA => rhas_any A c l m w (by omega) hA)
    have L3 := Lib.hid (fun w hA => snext_any w A c l m (by omega) hA)
    have L4 := Lib.hid (fun w hA => rnext_any w A c l m (by omega) hA)
    generalize inS l (m % 10080) = q at L1 L2
    cases q
    all_goals
      go_enter Try.func5, Try.ntmps5
      go_wp2_with fail
      refine (L1.out w HA.out).mono ?_
      rintro e w1 ⟨rfl, hb⟩
      have B1 := Lib.hid hb
      have H1 := Lib.hid ((HA.out.below hb).mono hb.size)
      clear hb
      go_wp2_with fail
      refine (L2.out w1 H1.out).mono ?_
      rintro e w2 ⟨rfl, hb⟩
      have B2 := Lib.hid (B1.out.trans (hb.mono B1.out.size))
      have H2 := Lib.hid ((H1.out.below hb).mono hb.size)
      clear hb
      go_wp2_with fail
      refine (L3.out w2 H2.out).mono ?_
      rintro e w3 ⟨r, rfl, hx, hb⟩
      have X := Lib.hid hx
      have B3 := Lib.hid (B2.out.trans (hb.mono B2.out.size))
      have H3 := Lib.hid ((H2.out.below hb).mono hb.size)
      clear hb hx
      go_wp2_with fail
      refine (L4.out w3 H3.out).mono ?_
      rintro e w4 ⟨r2, rfl, hx, hb⟩
      obtain rfl := hx.one X.out
      have B4 := Lib.hid (B3.out.trans (hb.mono B3.out.size))
      clear hb hx
      go_wp2_with fail
      refine (sawake_any _).mono ?_
      rintro e w5 ⟨rfl, hb⟩
      have B5 := Lib.hid (B4.out.trans (hb.mono B4.out.size))
      clear hb
      go_wp2_with fail
      go_ret
      exact outB rfl B5.out
end

set_option maxRecDepth 100000 in
set_option maxHeartbeats 2000000 in
theorem law_days (k f t : Int) (w : World) : Calls Try.prog 7 #[.int .i64 k, .int .i64 f, .int .i64 t] w (OutB w true) := by
  go_enter Try.func7, Try.ntmps7
  go_wp2_with fail
  refine (sdaily_any k f t w).mono ?_
  rintro e w1 ⟨A1, c1, F, rfl, hs, hn, hb⟩
  have B1 := Lib.hid hb
  have S1 := Lib.hid hs
  have N1 := Lib.hid hn
  clear hb hs hn
  go_wp2_with fail
  refine (rdaily_any k f t w1).mono ?_
  rintro e w2 ⟨A2, c2, F2, rfl, hs, hn, hb⟩
  obtain rfl := hn.one N1.out
  have B2 := Lib.hid (B1.out.trans (hb.mono B1.out.size))
  have S2 := Lib.hid ((S1.out.below hb).mono hb.size)
  have S3 := Lib.hid hs
  have LF := hn.len
  clear hb hs hn
  go_wp2_with fail
  refine (rsame_true A1 A2 c1 c2 _ w2 (by omega) S2.out S3.out).mono ?_
  rintro e w3 ⟨rfl, hb⟩
  have B3 := Lib.hid (B2.out.trans (hb.mono B2.out.size))
  clear hb
  go_wp2_with fail
  refine (sawake_any _).mono ?_
  rintro e w6 ⟨rfl, hb⟩
  have B6 := Lib.hid (B3.out.trans (hb.mono B3.out.size))
  clear hb
  go_wp2_with fail
  go_ret
  exact outB rfl B6.out
end Go.Proofs.Ytnocbgimfmgdeaa
