/- Contracts of the reference's month, year and At. -/
import Derived.Test.YtoodfiicoplbhaaDoorCD
set_option linter.unusedVariables false
namespace Go.Proofs.YtoodfiicoplbhaaDoor
open Go.RowKit

set_option maxHeartbeats 400000 in
theorem rmonth_any (y m : Int) (w : World) (h0 : 0 ≤ y) :
    Calls Tryd.prog 35 #[.int .i64 y, .int .i64 m] w fun e w' => e = .returned (.int .i64 (mlen y m)) ∧ w = w' := by
  have L := Lib.hid (lp_lpB y)
  by_cases h2 : m = 2
  · subst h2
    have E := Lib.hid (show mlen y 2 = 28 + lp y from rfl)
    go_enter Tryd.func35, Tryd.ntmps35
    go_wp2_with (go_at_call 47; refine (rleap_any _ _ h0).mono ?_; rintro e w' ⟨rfl, rfl⟩)
    all_goals (go_ret; refine ⟨ret_int ?_, rfl⟩; rw [E.out, L.out]; simp_all)
  · have e2 : (m == 2) = false := by simpa using h2
    have E := Lib.hid (show mlen y m = if m = 4 ∨ m = 6 ∨ m = 9 ∨ m = 11 then 30 else 31 by unfold mlen; rw [if_neg h2])
    clear h2
    go_enter Tryd.func35, Tryd.ntmps35
    go_wp2_with fail
    all_goals (go_ret; refine ⟨ret_int ?_, rfl⟩; rw [E.out]; simp_all)

theorem ryear_any (y : Int) (w : World) (h0 : 0 ≤ y) :
    Calls Tryd.prog 36 #[.int .i64 y] w fun e w' => e = .returned (.int .i64 (365 + lp y)) ∧ w = w' := by
  have L := Lib.hid (lp_lpB y)
  go_enter Tryd.func36, Tryd.ntmps36
  go_wp2_with (go_at_call 47; refine (rleap_any _ _ h0).mono ?_; rintro e w' ⟨rfl, rfl⟩)
  all_goals (go_ret; refine ⟨ret_int ?_, rfl⟩; rw [L.out]; simp_all)


set_option maxRecDepth 100000 in
set_option maxHeartbeats 1000000 in
theorem rat_no1 (y m d h i : Int) (w : World)  (h1 : y < 2000) :
    Calls Tryd.prog 12 #[.agg #[.int .i64 y, .int .i64 m, .int .i64 d, .int .i64 h, .int .i64 i]] w (OutT w (atR y m d h i)) := by
  have R := Lib.hid (atR_no y m d h i (fun q => by obtain ⟨⟨⟨a1, a2⟩, ⟨b1, b2⟩, ⟨e1, e2⟩, ⟨f1, f2⟩, g1, g2⟩, _⟩ := q; omega))
  have t1 := dt h1
  clear h1
  go_enter Tryd.func12, Tryd.ntmps12
  go_wp2_with fail
  go_quiet (fail)
  go_wp2_with fail
  exact bodyPost_ret (v := .tuple #[.int .i64 0, .int .i64 2]) (by simp [results, Tryd.results12, go_sem]) rfl ⟨by rw [R.out], below_drewN ((Below.refl _ _).alloc (Nat.le_refl _) _) _⟩

set_option maxRecDepth 100000 in
set_option maxHeartbeats 1000000 in
theorem rat_no2 (y m d h i : Int) (w : World) (h1 : ¬ y < 2000) (h2 : 4041 < y) :
    Calls Tryd.prog 12 #[.agg #[.int .i64 y, .int .i64 m, .int .i64 d, .int .i64 h, .int .i64 i]] w (OutT w (atR y m d h i)) := by
  have R := Lib.hid (atR_no y m d h i (fun q => by obtain ⟨⟨⟨a1, a2⟩, ⟨b1, b2⟩, ⟨e1, e2⟩, ⟨f1, f2⟩, g1, g2⟩, _⟩ := q; omega))
  have t1 := df h1
  have t2 := dt h2
  clear h1 h2
  go_enter Tryd.func12, Tryd.ntmps12
  go_wp2_with fail
  go_quiet (fail)
  go_wp2_with fail
  exact bodyPost_ret (v := .tuple #[.int .i64 0, .int .i64 2]) (by simp [results, Tryd.results12, go_sem]) rfl ⟨by rw [R.out], below_drewN ((Below.refl _ _).alloc (Nat.le_refl _) _) _⟩

set_option maxRecDepth 100000 in
set_option maxHeartbeats 1000000 in
theorem rat_no3 (y m d h i : Int) (w : World) (h1 : ¬ y < 2000) (h2 : ¬ 4041 < y) (h3 : m < 1) :
    Calls Tryd.prog 12 #[.agg #[.int .i64 y, .int .i64 m, .int .i64 d, .int .i64 h, .int .i64 i]] w (OutT w (atR y m d h i)) := by
  have R := Lib.hid (atR_no y m d h i (fun q => by obtain ⟨⟨⟨a1, a2⟩, ⟨b1, b2⟩, ⟨e1, e2⟩, ⟨f1, f2⟩, g1, g2⟩, _⟩ := q; omega))
  have t1 := df h1
  have t2 := df h2
  have t3 := dt h3
  clear h1 h2 h3
  go_enter Tryd.func12, Tryd.ntmps12
  go_wp2_with fail
  go_quiet (fail)
  go_wp2_with fail
  exact bodyPost_ret (v := .tuple #[.int .i64 0, .int .i64 2]) (by simp [results, Tryd.results12, go_sem]) rfl ⟨by rw [R.out], below_drewN ((Below.refl _ _).alloc (Nat.le_refl _) _) _⟩

set_option maxRecDepth 100000 in
set_option maxHeartbeats 1000000 in
theorem rat_no4 (y m d h i : Int) (w : World) (h1 : ¬ y < 2000) (h2 : ¬ 4041 < y) (h3 : ¬ m < 1) (h4 : 12 < m) :
    Calls Tryd.prog 12 #[.agg #[.int .i64 y, .int .i64 m, .int .i64 d, .int .i64 h, .int .i64 i]] w (OutT w (atR y m d h i)) := by
  have R := Lib.hid (atR_no y m d h i (fun q => by obtain ⟨⟨⟨a1, a2⟩, ⟨b1, b2⟩, ⟨e1, e2⟩, ⟨f1, f2⟩, g1, g2⟩, _⟩ := q; omega))
  have t1 := df h1
  have t2 := df h2
  have t3 := df h3
  have t4 := dt h4
  clear h1 h2 h3 h4
  go_enter Tryd.func12, Tryd.ntmps12
  go_wp2_with fail
  go_quiet (fail)
  go_wp2_with fail
  exact bodyPost_ret (v := .tuple #[.int .i64 0, .int .i64 2]) (by simp [results, Tryd.results12, go_sem]) rfl ⟨by rw [R.out], below_drewN ((Below.refl _ _).alloc (Nat.le_refl _) _) _⟩

set_option maxRecDepth 100000 in
set_option maxHeartbeats 1000000 in
theorem rat_no5 (y m d h i : Int) (w : World) (h1 : ¬ y < 2000) (h2 : ¬ 4041 < y) (h3 : ¬ m < 1) (h4 : ¬ 12 < m) (h5 : d < 1) :
    Calls Tryd.prog 12 #[.agg #[.int .i64 y, .int .i64 m, .int .i64 d, .int .i64 h, .int .i64 i]] w (OutT w (atR y m d h i)) := by
  have R := Lib.hid (atR_no y m d h i (fun q => by obtain ⟨⟨⟨a1, a2⟩, ⟨b1, b2⟩, ⟨e1, e2⟩, ⟨f1, f2⟩, g1, g2⟩, _⟩ := q; omega))
  have t1 := df h1
  have t2 := df h2
  have t3 := df h3
  have t4 := df h4
  have t5 := dt h5
  clear h1 h2 h3 h4 h5
  go_enter Tryd.func12, Tryd.ntmps12
  go_wp2_with fail
  go_quiet (fail)
  go_wp2_with fail
  exact bodyPost_ret (v := .tuple #[.int .i64 0, .int .i64 2]) (by simp [results, Tryd.results12, go_sem]) rfl ⟨by rw [R.out], below_drewN ((Below.refl _ _).alloc (Nat.le_refl _) _) _⟩

set_option maxRecDepth 100000 in
set_option maxHeartbeats 1000000 in
theorem rat_no6 (y m d h i : Int) (w : World) (h1 : ¬ y < 2000) (h2 : ¬ 4041 < y) (h3 : ¬ m < 1) (h4 : ¬ 12 < m) (h5 : ¬ d < 1) (h6 : mlen y m < d) :
    Calls Tryd.prog 12 #[.agg #[.int .i64 y, .int .i64 m, .int .i64 d, .int .i64 h, .int .i64 i]] w (OutT w (atR y m d h i)) := by
  have R := Lib.hid (atR_no y m d h i (fun q => by obtain ⟨⟨⟨a1, a2⟩, ⟨b1, b2⟩, ⟨e1, e2⟩, ⟨f1, f2⟩, g1, g2⟩, _⟩ := q; omega))
  have y0 : 0 ≤ y := by omega
  have t1 := df h1
  have t2 := df h2
  have t3 := df h3
  have t4 := df h4
  have t5 := df h5
  have t6 := dt h6
  clear h1 h2 h3 h4 h5 h6
  go_enter Tryd.func12, Tryd.ntmps12
  go_wp2_with fail
  go_quiet ((go_at_call 35; exact quiet_same (rmonth_any _ _ _ y0)))
  go_wp2_with fail
  exact bodyPost_ret (v := .tuple #[.int .i64 0, .int .i64 2]) (by simp [results, Tryd.results12, go_sem]) rfl ⟨by rw [R.out], below_drewN ((Below.refl _ _).alloc (Nat.le_refl _) _) _⟩

set_option maxRecDepth 100000 in
set_option maxHeartbeats 1000000 in
theorem rat_no7 (y m d h i : Int) (w : World) (h1 : ¬ y < 2000) (h2 : ¬ 4041 < y) (h3 : ¬ m < 1) (h4 : ¬ 12 < m) (h5 : ¬ d < 1) (h6 : ¬ mlen y m < d) (h7 : h < 0) :
    Calls Tryd.prog 12 #[.agg #[.int .i64 y, .int .i64 m, .int .i64 d, .int .i64 h, .int .i64 i]] w (OutT w (atR y m d h i)) := by
  have R := Lib.hid (atR_no y m d h i (fun q => by obtain ⟨⟨⟨a1, a2⟩, ⟨b1, b2⟩, ⟨e1, e2⟩, ⟨f1, f2⟩, g1, g2⟩, _⟩ := q; omega))
  have y0 : 0 ≤ y := by omega
  have t1 := df h1
  have t2 := df h2
  have t3 := df h3
  have t4 := df h4
  have t5 := df h5
  have t6 := df h6
  have t7 := dt h7
  clear h1 h2 h3 h4 h5 h6 h7
  go_enter Tryd.func12, Tryd.ntmps12
  go_wp2_with fail
  go_quiet ((go_at_call 35; exact quiet_same (rmonth_any _ _ _ y0)))
  go_wp2_with fail
  exact bodyPost_ret (v := .tuple #[.int .i64 0, .int .i64 2]) (by simp [results, Tryd.results12, go_sem]) rfl ⟨by rw [R.out], below_drewN ((Below.refl _ _).alloc (Nat.le_refl _) _) _⟩

set_option maxRecDepth 100000 in
set_option maxHeartbeats 1000000 in
theorem rat_no8 (y m d h i : Int) (w : World) (h1 : ¬ y < 2000) (h2 : ¬ 4041 < y) (h3 : ¬ m < 1) (h4 : ¬ 12 < m) (h5 : ¬ d < 1) (h6 : ¬ mlen y m < d) (h7 : ¬ h < 0) (h8 : 23 < h) :
    Calls Tryd.prog 12 #[.agg #[.int .i64 y, .int .i64 m, .int .i64 d, .int .i64 h, .int .i64 i]] w (OutT w (atR y m d h i)) := by
  have R := Lib.hid (atR_no y m d h i (fun q => by obtain ⟨⟨⟨a1, a2⟩, ⟨b1, b2⟩, ⟨e1, e2⟩, ⟨f1, f2⟩, g1, g2⟩, _⟩ := q; omega))
  have y0 : 0 ≤ y := by omega
  have t1 := df h1
  have t2 := df h2
  have t3 := df h3
  have t4 := df h4
  have t5 := df h5
  have t6 := df h6
  have t7 := df h7
  have t8 := dt h8
  clear h1 h2 h3 h4 h5 h6 h7 h8
  go_enter Tryd.func12, Tryd.ntmps12
  go_wp2_with fail
  go_quiet ((go_at_call 35; exact quiet_same (rmonth_any _ _ _ y0)))
  go_wp2_with fail
  exact bodyPost_ret (v := .tuple #[.int .i64 0, .int .i64 2]) (by simp [results, Tryd.results12, go_sem]) rfl ⟨by rw [R.out], below_drewN ((Below.refl _ _).alloc (Nat.le_refl _) _) _⟩

set_option maxRecDepth 100000 in
set_option maxHeartbeats 1000000 in
theorem rat_no9 (y m d h i : Int) (w : World) (h1 : ¬ y < 2000) (h2 : ¬ 4041 < y) (h3 : ¬ m < 1) (h4 : ¬ 12 < m) (h5 : ¬ d < 1) (h6 : ¬ mlen y m < d) (h7 : ¬ h < 0) (h8 : ¬ 23 < h) (h9 : i < 0) :
    Calls Tryd.prog 12 #[.agg #[.int .i64 y, .int .i64 m, .int .i64 d, .int .i64 h, .int .i64 i]] w (OutT w (atR y m d h i)) := by
  have R := Lib.hid (atR_no y m d h i (fun q => by obtain ⟨⟨⟨a1, a2⟩, ⟨b1, b2⟩, ⟨e1, e2⟩, ⟨f1, f2⟩, g1, g2⟩, _⟩ := q; omega))
  have y0 : 0 ≤ y := by omega
  have t1 := df h1
  have t2 := df h2
  have t3 := df h3
  have t4 := df h4
  have t5 := df h5
  have t6 := df h6
  have t7 := df h7
  have t8 := df h8
  have t9 := dt h9
  clear h1 h2 h3 h4 h5 h6 h7 h8 h9
  go_enter Tryd.func12, Tryd.ntmps12
  go_wp2_with fail
  go_quiet ((go_at_call 35; exact quiet_same (rmonth_any _ _ _ y0)))
  go_wp2_with fail
  exact bodyPost_ret (v := .tuple #[.int .i64 0, .int .i64 2]) (by simp [results, Tryd.results12, go_sem]) rfl ⟨by rw [R.out], below_drewN ((Below.refl _ _).alloc (Nat.le_refl _) _) _⟩

set_option maxRecDepth 100000 in
set_option maxHeartbeats 1000000 in
theorem rat_no10 (y m d h i : Int) (w : World) (h1 : ¬ y < 2000) (h2 : ¬ 4041 < y) (h3 : ¬ m < 1) (h4 : ¬ 12 < m) (h5 : ¬ d < 1) (h6 : ¬ mlen y m < d) (h7 : ¬ h < 0) (h8 : ¬ 23 < h) (h9 : ¬ i < 0) (h10 : 59 < i) :
    Calls Tryd.prog 12 #[.agg #[.int .i64 y, .int .i64 m, .int .i64 d, .int .i64 h, .int .i64 i]] w (OutT w (atR y m d h i)) := by
  have R := Lib.hid (atR_no y m d h i (fun q => by obtain ⟨⟨⟨a1, a2⟩, ⟨b1, b2⟩, ⟨e1, e2⟩, ⟨f1, f2⟩, g1, g2⟩, _⟩ := q; omega))
  have y0 : 0 ≤ y := by omega
  have t1 := df h1
  have t2 := df h2
  have t3 := df h3
  have t4 := df h4
  have t5 := df h5
  have t6 := df h6
  have t7 := df h7
  have t8 := df h8
  have t9 := df h9
  have t10 := dt h10
  clear h1 h2 h3 h4 h5 h6 h7 h8 h9 h10
  go_enter Tryd.func12, Tryd.ntmps12
  go_wp2_with fail
  go_quiet ((go_at_call 35; exact quiet_same (rmonth_any _ _ _ y0)))
  go_wp2_with fail
  exact bodyPost_ret (v := .tuple #[.int .i64 0, .int .i64 2]) (by simp [results, Tryd.results12, go_sem]) rfl ⟨by rw [R.out], below_drewN ((Below.refl _ _).alloc (Nat.le_refl _) _) _⟩

end Go.Proofs.YtoodfiicoplbhaaDoor
