/- The walks of ClockParts, ClockYears, ClockUtc and ClockLeast. -/
import Derived.Test.YtoodfiicoplbhaaDoorCM
set_option linter.unusedVariables false
namespace Go.Proofs.YtoodfiicoplbhaaDoor
open Go.RowKit

set_option maxRecDepth 100000 in
set_option maxHeartbeats 2000000 in
theorem law_parts (m : Int) (w : World) (hT : Tab w) :
    Calls Tryd.prog 4 #[.int .i64 m] w (OutB w true) := by
  have T := Lib.hid hT
  clear hT
  go_enter Tryd.func4, Tryd.ntmps4
  go_wp2_with (first
    | (go_at_call 16; refine (wday_any _ _).mono ?_; rintro e w' ⟨rfl, rfl⟩)
    | (go_at_call 17; refine (rwday_any _ _).mono ?_; rintro e w' ⟨rfl, rfl⟩)
    | (go_at_call 18; refine (ofday_any _ _).mono ?_; rintro e w' ⟨rfl, rfl⟩)
    | (go_at_call 19; refine (rofday_any _ _).mono ?_; rintro e w' ⟨rfl, rfl⟩)
    | (go_at_call 20; refine (ofweek_any _ _).mono ?_; rintro e w' ⟨rfl, rfl⟩)
    | (go_at_call 21; refine (rofweek_any _ _).mono ?_; rintro e w' ⟨rfl, rfl⟩))
  refine (awake_any _ T.out).mono ?_
  rintro e w1 ⟨rfl, hb⟩
  go_wp2_with fail
  go_ret
  exact outB rfl hb

set_option maxRecDepth 100000 in
set_option maxHeartbeats 2000000 in
theorem law_years (y : Int) (w : World) (hT : Tab w) :
    Calls Tryd.prog 9 #[.int .i64 y] w (OutB w true) := by
  have T := Lib.hid hT
  clear hT
  by_cases h0 : y < 2000 ∨ 4040 < y
  · by_cases h1 : y < 2000
    · have d1 := dt h1
      clear h0 h1
      go_enter Tryd.func9, Tryd.ntmps9
      go_wp2_with fail
      refine (awake_any _ T.out).mono ?_
      rintro e w1 ⟨rfl, hb⟩
      go_wp2_with fail
      go_ret
      exact outB rfl hb
    · have d1 := df h1
      have d2 := dt (show 4040 < y by omega)
      clear h0 h1
      go_enter Tryd.func9, Tryd.ntmps9
      go_wp2_with fail
      refine (awake_any _ T.out).mono ?_
      rintro e w1 ⟨rfl, hb⟩
      go_wp2_with fail
      go_ret
      exact outB rfl hb
  · have y0 : 2000 ≤ y := by omega
    have y1 : y ≤ 4040 := by omega
    have d1 := df (show ¬ y < 2000 by omega)
    have d2 := df (show ¬ 4040 < y by omega)
    have f0 := dby_far y y0
    have f1 := dby_far (y + 1) (by omega)
    have m0 := mlen_in y 1
    have m1 := mlen_in (y + 1) 1
    have top := dby_mono (y + 1) 4041 (by omega)
    have e41 : dby 4041 = 745461 := rfl
    have b1 := dbm_one y
    have b2 := dbm_one (y + 1)
    have R1 : atR y 1 1 0 0 = (dby y * 1440, 0) := by
      have e : atM y 1 1 0 0 = dby y * 1440 := by unfold atM; omega
      rw [atR_yes y 1 1 0 0 ⟨⟨y0, by omega⟩, by omega, by omega, by omega, by omega⟩ (by have := dby_mono y (y + 1) (by omega); omega), e]
    have R2 : atR (y + 1) 1 1 0 0 = (dby (y + 1) * 1440, 0) := by
      have e : atM (y + 1) 1 1 0 0 = dby (y + 1) * 1440 := by unfold atM; omega
      rw [atR_yes (y + 1) 1 1 0 0 ⟨⟨by omega, by omega⟩, by omega, by omega, by omega, by omega⟩ (by omega), e]
    have A1 := Lib.hid (fun w h => at_any y 1 1 0 0 w h)
    have A2 := Lib.hid (fun w h => at_any (y + 1) 1 1 0 0 w h)
    rw [R1] at A1
    rw [R2] at A2
    unfold dV at A1 A2
    have ST := dby_step y
    have hl := lp_in y
    have w1 : IntKind.i64.wrap (dby (y + 1) * 1440 - dby y * 1440) = dby (y + 1) * 1440 - dby y * 1440 := IntWalk.i64_in _ ⟨by omega, by omega⟩
    clear R1 R2 b1 b2 e41
    by_cases h4 : y % 4 = 0
    · have q1 : (y % 4 == 0) = true := by simpa using h4
      by_cases h100 : y % 100 = 0
      · have q2 : (y % 100 == 0) = true := by simpa using h100
        have q22 : (y % 100 != 0) = false := by simpa using h100
        by_cases h400 : y % 400 = 0
        · have q3 : (y % 400 == 0) = true := by simpa using h400
          have t1 : (dby (y + 1) * 1440 - dby y * 1440 == 527040) = true := by
            have : dby (y + 1) * 1440 - dby y * 1440 = 527040 := by
              have : lp y = 1 := by unfold lp; rw [if_pos (by omega)]
              omega
            simpa using this
          clear ST hl
          clear h4 h100 h400
          go_enter Tryd.func9, Tryd.ntmps9
          go_wp2_with fail
          refine (A1.out _ T.out).mono ?_
          rintro e w2 ⟨rfl, hb⟩
          have B1 := Lib.hid hb
          have T1 := Lib.hid (T.out.below hb)
          clear hb
          go_wp2_with fail
          refine (A2.out _ T1.out).mono ?_
          rintro e w3 ⟨rfl, hb⟩
          have B2 := Lib.hid (B1.out.trans (hb.mono B1.out.size))
          have T2 := Lib.hid (T1.out.below hb)
          clear hb
          go_wp2_with fail
          refine (awake_any _ T2.out).mono ?_
          rintro e w4 ⟨rfl, hb⟩
          go_wp2_with fail
          go_ret
          exact outB rfl (B2.out.trans (hb.mono B2.out.size))
        · have q3 : (y % 400 == 0) = false := by simpa using h400
          have t1 : (dby (y + 1) * 1440 - dby y * 1440 == 525600) = true := by
            have : dby (y + 1) * 1440 - dby y * 1440 = 525600 := by
              have : lp y = 0 := by unfold lp; rw [if_neg (by omega)]
              omega
            simpa using this
          clear ST hl
          clear h4 h100 h400
          go_enter Tryd.func9, Tryd.ntmps9
          go_wp2_with fail
          refine (A1.out _ T.out).mono ?_
          rintro e w2 ⟨rfl, hb⟩
          have B1 := Lib.hid hb
          have T1 := Lib.hid (T.out.below hb)
          clear hb
          go_wp2_with fail
          refine (A2.out _ T1.out).mono ?_
          rintro e w3 ⟨rfl, hb⟩
          have B2 := Lib.hid (B1.out.trans (hb.mono B1.out.size))
          have T2 := Lib.hid (T1.out.below hb)
          clear hb
          go_wp2_with fail
          refine (awake_any _ T2.out).mono ?_
          rintro e w4 ⟨rfl, hb⟩
          go_wp2_with fail
          go_ret
          exact outB rfl (B2.out.trans (hb.mono B2.out.size))
      · have q2 : (y % 100 == 0) = false := by simpa using h100
        have q22 : (y % 100 != 0) = true := by simpa using h100
        have t1 : (dby (y + 1) * 1440 - dby y * 1440 == 527040) = true := by
          have : dby (y + 1) * 1440 - dby y * 1440 = 527040 := by
            have : lp y = 1 := by unfold lp; rw [if_pos (by omega)]
            omega
          simpa using this
        clear ST hl
        clear h4 h100
        go_enter Tryd.func9, Tryd.ntmps9
        go_wp2_with fail
        refine (A1.out _ T.out).mono ?_
        rintro e w2 ⟨rfl, hb⟩
        have B1 := Lib.hid hb
        have T1 := Lib.hid (T.out.below hb)
        clear hb
        go_wp2_with fail
        refine (A2.out _ T1.out).mono ?_
        rintro e w3 ⟨rfl, hb⟩
        have B2 := Lib.hid (B1.out.trans (hb.mono B1.out.size))
        have T2 := Lib.hid (T1.out.below hb)
        clear hb
        go_wp2_with fail
        refine (awake_any _ T2.out).mono ?_
        rintro e w4 ⟨rfl, hb⟩
        go_wp2_with fail
        go_ret
        exact outB rfl (B2.out.trans (hb.mono B2.out.size))
    · have q1 : (y % 4 == 0) = false := by simpa using h4
      have t1 : (dby (y + 1) * 1440 - dby y * 1440 == 525600) = true := by
        have : dby (y + 1) * 1440 - dby y * 1440 = 525600 := by
          have : lp y = 0 := by unfold lp; rw [if_neg (by omega)]
          omega
        simpa using this
      clear ST hl
      clear h4
      go_enter Tryd.func9, Tryd.ntmps9
      go_wp2_with fail
      refine (A1.out _ T.out).mono ?_
      rintro e w2 ⟨rfl, hb⟩
      have B1 := Lib.hid hb
      have T1 := Lib.hid (T.out.below hb)
      clear hb
      go_wp2_with fail
      refine (A2.out _ T1.out).mono ?_
      rintro e w3 ⟨rfl, hb⟩
      have B2 := Lib.hid (B1.out.trans (hb.mono B1.out.size))
      have T2 := Lib.hid (T1.out.below hb)
      clear hb
      go_wp2_with fail
      refine (awake_any _ T2.out).mono ?_
      rintro e w4 ⟨rfl, hb⟩
      go_wp2_with fail
      go_ret
      exact outB rfl (B2.out.trans (hb.mono B2.out.size))
end Go.Proofs.YtoodfiicoplbhaaDoor
