/- Contract of the reference's At. -/
import Derived.Test.YtoodfiicoplbhaaDoorCE
set_option linter.unusedVariables false
namespace Go.Proofs.YtoodfiicoplbhaaDoor
open Go.RowKit

set_option maxRecDepth 100000 in
set_option maxHeartbeats 1000000 in
theorem rat_yes (y m d h i : Int) (w : World) (hx : exD y m d h i) :
    Calls Tryd.prog 12 #[.agg #[.int .i64 y, .int .i64 m, .int .i64 d, .int .i64 h, .int .i64 i]] w (OutT w (atR y m d h i)) := by
  have X := Lib.hid hx
  obtain ⟨⟨y1, y2⟩, ⟨m1, m2⟩, ⟨d1, d2⟩, ⟨h1, h2⟩, i1, i2⟩ := hx
  have k3 := mlen_in y m
  have AM := Lib.hid (show (d - 1 + dby y + dbm y m) * 1440 + h * 60 + i = atM y m d h i by unfold atM; omega)
  have t1 := df (show ¬ y < 2000 by omega)
  have t2 := df (show ¬ 4041 < y by omega)
  have t3 := df (show ¬ m < 1 by omega)
  have t4 := df (show ¬ 12 < m by omega)
  have t5 := df (show ¬ d < 1 by omega)
  have t6 := df (show ¬ mlen y m < d by omega)
  have t7 := df (show ¬ h < 0 by omega)
  have t8 := df (show ¬ 23 < h by omega)
  have t9 := df (show ¬ i < 0 by omega)
  have t10 := df (show ¬ 59 < i by omega)
  go_enter Tryd.func12, Tryd.ntmps12
  go_wp2_with fail
  go_quiet ((go_at_call 35; exact quiet_same (rmonth_any _ _ _ (by omega))))
  clear t1 t2 t3 t4 t5 t6 t7 t8 t9 t10
  have hb : Below (w.alloc (.cells #[.int .i64 y, .int .i64 m, .int .i64 d, .int .i64 h, .int .i64 i] 23)).heap.size (w.alloc (.cells #[.int .i64 y, .int .i64 m, .int .i64 d, .int .i64 h, .int .i64 i] 23)) ((w.alloc (.cells #[.int .i64 y, .int .i64 m, .int .i64 d, .int .i64 h, .int .i64 i] 23)).drewN nq) := below_drewN (Below.refl _ _) _
  generalize (w.alloc (.cells #[.int .i64 y, .int .i64 m, .int .i64 d, .int .i64 h, .int .i64 i] 23)).drewN nq = W at *
  have B1 := Lib.hid (box_below hb)
  have c0 := box_at hb 0 (v := .int .i64 y) rfl
  have c1 := box_at hb 1 (v := .int .i64 m) rfl
  have c2 := box_at hb 2 (v := .int .i64 d) rfl
  have c3 := box_at hb 3 (v := .int .i64 h) rfl
  have c4 := box_at hb 4 (v := .int .i64 i) rfl
  clear hb
  go_wp2_with fail
  go_loop [4, 5] (fun s k => ∃ Y : Int, 2000 ≤ Y ∧ Y ≤ y ∧ k = .int .i64 Y ∧ s = .int .i64 (d - 1 + dby Y)) (fun _ k => (y - intOf k).toNat)
  case atStart => exact ⟨2000, by omega, y1, rfl, val_int (by have := dby_zero; omega)⟩
  case round =>
    obtain ⟨Y, a1, a2, rfl, rfl⟩ := hrel
    have far := dby_far Y a1
    have hl := lp_in Y
    by_cases hlt : Y < y
    · have S := Lib.hid (dby_step Y)
      go_wp2_with (go_at_call 36; refine (ryear_any _ _ (by omega)).mono ?_; rintro e w' ⟨rfl, rfl⟩)
      go_round
      case rel => exact ⟨Y + 1, by omega, by omega, rfl, val_int (by rw [S.out]; omega)⟩
      case measure => simp [intOf] <;> omega
    · obtain rfl : Y = y := by omega
      clear hlt
      go_wp2_with fail
      go_loop [4, 6] (fun s k => ∃ M : Int, 1 ≤ M ∧ M ≤ m ∧ k = .int .i64 M ∧ s = .int .i64 (d - 1 + dby Y + dbm Y M)) (fun _ k => (m - intOf k).toNat)
      case atStart => exact ⟨1, by omega, m1, rfl, val_int (by have := dbm_one Y; omega)⟩
      case round =>
        obtain ⟨M, b1, b2, rfl, rfl⟩ := hrel
        have hm := dbm_in Y M
        have hm2 := mlen_in Y M
        by_cases hlt : M < m
        · have S := Lib.hid (dbm_step Y M b1 (by omega))
          go_wp2_with (go_at_call 35; refine (rmonth_any _ _ _ (by omega)).mono ?_; rintro e w' ⟨rfl, rfl⟩)
          go_round
          case rel => exact ⟨M + 1, by omega, by omega, rfl, val_int (by rw [S.out]; omega)⟩
          case measure => simp [intOf] <;> omega
        · obtain rfl : M = m := by omega
          clear hlt
          by_cases hz : atM Y M d h i ≤ 1073741824
          · have R := Lib.hid (atR_yes Y M d h i X.out hz)
            have t1 := df (show ¬ 1073741824 < (d - 1 + dby Y + dbm Y M) * 1440 + h * 60 + i by rw [AM.out]; omega)
            clear hz
            go_wp2_with fail
            exact bodyPost_ret (v := .tuple #[.int .i64 ((d - 1 + dby Y + dbm Y M) * 1440 + h * 60 + i), .int .i64 0]) (by simp [results, Tryd.results12, go_sem]) rfl ⟨by rw [R.out, AM.out], B1.out⟩
          · have R := Lib.hid (atR_no Y M d h i (fun q => hz q.2))
            have t1 := dt (show 1073741824 < (d - 1 + dby Y + dbm Y M) * 1440 + h * 60 + i by rw [AM.out]; omega)
            clear hz
            go_wp2_with fail
            exact bodyPost_ret (v := .tuple #[.int .i64 0, .int .i64 2]) (by simp [results, Tryd.results12, go_sem]) rfl ⟨by rw [R.out], B1.out⟩

theorem rat_any (y m d h i : Int) (w : World) :
    Calls Tryd.prog 12 #[dV y m d h i] w (OutT w (atR y m d h i)) := by
  unfold dV
  by_cases h1 : y < 2000
  · exact rat_no1 y m d h i w h1
  by_cases h2 : 4041 < y
  · exact rat_no2 y m d h i w h1 h2
  by_cases h3 : m < 1
  · exact rat_no3 y m d h i w h1 h2 h3
  by_cases h4 : 12 < m
  · exact rat_no4 y m d h i w h1 h2 h3 h4
  by_cases h5 : d < 1
  · exact rat_no5 y m d h i w h1 h2 h3 h4 h5
  by_cases h6 : mlen y m < d
  · exact rat_no6 y m d h i w h1 h2 h3 h4 h5 h6
  by_cases h7 : h < 0
  · exact rat_no7 y m d h i w h1 h2 h3 h4 h5 h6 h7
  by_cases h8 : 23 < h
  · exact rat_no8 y m d h i w h1 h2 h3 h4 h5 h6 h7 h8
  by_cases h9 : i < 0
  · exact rat_no9 y m d h i w h1 h2 h3 h4 h5 h6 h7 h8 h9
  by_cases h10 : 59 < i
  · exact rat_no10 y m d h i w h1 h2 h3 h4 h5 h6 h7 h8 h9 h10
  exact rat_yes y m d h i w ⟨⟨by omega, by omega⟩, ⟨by omega, by omega⟩, ⟨by omega, by omega⟩, ⟨by omega, by omega⟩, by omega, by omega⟩
end Go.Proofs.YtoodfiicoplbhaaDoor
