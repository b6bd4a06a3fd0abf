/- Link tables in memory; the reference's roundings; contracts of what is in range and of Check, on both sides. -/
import Derived.Test.YthfkmmgckiijcaaKB
import Derived.Test.YthfkmmgckiijcaaSh
import Derived.Test.YthfkmmgckiijcaaLPlain
set_option linter.unusedVariables false
namespace Go.Proofs.Ythfkmmgckiijcaa.Lnk
open Go.RowKit

set_option maxHeartbeats 400000 in
theorem rsat_any (a : Int) (w : World) :
    Calls Try.prog 47 #[.int .i64 a] w fun e w' => e = .returned (.int .i64 (sat a)) ∧ w = w' := by
  go_enter Try.func47, Try.ntmps47
  go_wp2
  all_goals (go_ret; refine ⟨ret_int ?_, rfl⟩; unfold sat; (repeat' split) <;> omega)
set_option maxHeartbeats 400000 in
theorem rfloor_any (a b : Int) (w : World) :
    Calls Try.prog 40 #[.int .i64 a, .int .i64 b] w fun e w' => e = .returned (.int .i64 (flo a b)) ∧ w = w' := by
  by_cases hb : b = 0
  · subst hb
    have h0 : (sat 0 == 0) = true := rfl
    go_enter Try.func40, Try.ntmps40
    go_wp2_with (go_at_call 47; refine (rsat_any _ _).mono ?_; rintro e w' ⟨rfl, rfl⟩)
    all_goals (go_ret; exact ⟨rfl, rfl⟩)
  · have hy := sat_ne b hb
    have hsb : (sat b == 0) = false := by simpa using hy
    have hsb0 : (b == 0) = false := by simpa using hb
    have bx := sat_in a
    have bd := tdiv_bd (sat a) (sat b) bx.1 bx.2
    obtain ⟨bd1, bd2⟩ := bd
    have F : Hid (flo a b = (sat a).fdiv (sat b)) := Lib.hid (flo_nz a b hb)
    clear hb bx
    go_enter Try.func40, Try.ntmps40
    go_wp2_with (go_at_call 47; refine (rsat_any _ _).mono ?_; rintro e w' ⟨rfl, rfl⟩)
    all_goals (go_ret; refine ⟨ret_int ?_, rfl⟩; rw [F.out]; first | exact fdiv_t1 _ _ hy ‹_› | exact fdiv_t2 _ _ hy ‹_› | exact fdiv_t3 _ _ hy ‹_›)
set_option maxHeartbeats 400000 in
theorem rceil_any (a b : Int) (w : World) :
    Calls Try.prog 37 #[.int .i64 a, .int .i64 b] w fun e w' => e = .returned (.int .i64 (-flo (-a) b)) ∧ w = w' := by
  have h1 := sat_in a
  have h2 := flo_bd (-sat a) b
  have F : Hid (flo (-sat a) b = flo (-a) b) := Lib.hid (by unfold flo; rw [← sat_opp, sat_sat])
  go_enter Try.func37, Try.ntmps37
  go_wp2_with (first | (go_at_call 47; refine (rsat_any _ _).mono ?_; rintro e w' ⟨rfl, rfl⟩) | (go_at_call 40; refine (rfloor_any _ _ _).mono ?_; rintro e w' ⟨rfl, rfl⟩))
  go_ret; refine ⟨ret_int ?_, rfl⟩; rw [F.out]

/-- An entry in cells. -/
def fL : Flat Lk := ⟨3, fun c => [.int .i64 c.1, .int .i64 c.2.1, .int .i64 c.2.2], fun c => I64 c.1 ∧ I64 c.2.1 ∧ I64 c.2.2, by decide, fun _ => rfl, fun _ v h => by simp at h; rcases h with rfl | rfl | rfl <;> rfl⟩
abbrev LkAt (w : World) (B : Nat) (A : Option Addr) (l : List Lk) : Prop := FlAt fL w B A l
theorem lk_cell {w : World} {B : Nat} {A : Option Addr} {l : List Lk} (h : LkAt w B A l) (i : Nat) (hi : i < l.length) : ∃ b p, A = some ⟨b, p, none⟩ ∧ b < B ∧ w.cell? ⟨b, p + i * 3, none⟩ = some (.int .i64 l[i].1) ∧ w.cell? ⟨b, p + i * 3 + 1, none⟩ = some (.int .i64 l[i].2.1) ∧ w.cell? ⟨b, p + i * 3 + 2, none⟩ = some (.int .i64 l[i].2.2) ∧
    I64 l[i].1 ∧ I64 l[i].2.1 ∧ I64 l[i].2.2 := by
  obtain ⟨b, p, h1, h2, h3, h4⟩ := h i hi
  exact ⟨b, p, h1, h2, h3 0 _ rfl, h3 1 _ rfl, h3 2 _ rfl, h4.1, h4.2.1, h4.2.2⟩
/-- The block of one entry. -/
abbrev bxL (n b c : Int) : Obj := .cells #[.int .i64 n, .int .i64 b, .int .i64 c] 38
/-- An entry as a value. -/
abbrev lkV (x : Lk) : Value := .agg #[.int .i64 x.1, .int .i64 x.2.1, .int .i64 x.2.2]

theorem isAddress_any (n : Int) (w : World) : Calls Try.prog 28 #[.int .i64 n] w fun e w' => e = .returned (.bool (decide (0 ≤ n ∧ n ≤ 250))) ∧ w = w' := by
  by_cases c1 : 0 ≤ n
  · by_cases c2 : n ≤ 250
    · have R := Lib.hid (show decide (0 ≤ n ∧ n ≤ 250) = true from dt ⟨c1, c2⟩)
      go_enter Try.func28, Try.ntmps28
      go_wp2_with fail
      go_ret
      exact ⟨ret_bool (by first | rfl | exact R.out.symm), rfl⟩
    · have R := Lib.hid (show decide (0 ≤ n ∧ n ≤ 250) = false from df (fun h => c2 h.2))
      have d1 := df c2
      go_enter Try.func28, Try.ntmps28
      go_wp2_with fail
      go_ret
      exact ⟨ret_bool (by first | rfl | exact R.out.symm), rfl⟩
  · have R := Lib.hid (show decide (0 ≤ n ∧ n ≤ 250) = false from df (fun h => c1 h.1))
    have d1 := df c1
    go_enter Try.func28, Try.ntmps28
    go_wp2_with fail
    go_ret
    exact ⟨ret_bool (by first | rfl | exact R.out.symm), rfl⟩

theorem pow_of {c : Int} {n : Nat} (h : c = (n : Int)) : (2 : Int) ^ c.toNat = ((2 ^ n : Nat) : Int) := by
  subst h; rw [Int.toNat_natCast, Int.natCast_pow]; rfl
theorem w64_pow (k : Nat) (hk : k ≤ 16) : wrap64 ((2 : Int) ^ k) = ((2 ^ k : Nat) : Int) := by
  have h : (2 : Nat) ^ k ≤ 65536 := Nat.pow_le_pow_right (n := 2) (by omega) hk
  have e : (2 : Int) ^ k = ((2 ^ k : Nat) : Int) := by rw [Int.natCast_pow]; rfl
  rw [e]
  generalize (2 : Nat) ^ k = q at *
  unfold wrap64
  omega
set_option maxHeartbeats 1000000 in
theorem inRange_any (x : Lk) (w : World) : Calls Try.prog 24 #[lkV x] w (OutB w (decide (Ok1 x))) := by
  obtain ⟨n, b, c⟩ := x
  have IA := Lib.hid (fun w => isAddress_any n w)
  by_cases c1 : 0 ≤ n ∧ n ≤ 250
  · rw [dt c1] at IA
    by_cases c2 : 0 ≤ c
    · by_cases c3 : c ≤ 16
      · by_cases c4 : 0 ≤ b
        · obtain ⟨k, rfl⟩ : ∃ k : Nat, c = (k : Int) := ⟨c.toNat, by omega⟩
          have hk : k ≤ 16 := by omega
          have hp : (2 : Nat) ^ k ≤ 65536 := Nat.pow_le_pow_right (n := 2) (by omega) hk
          have P1 := Lib.hid (pow_of (c := (k : Int)) rfl)
          have R := Lib.hid (show decide (Ok1 (n, b, (k : Int))) = decide (b < ((2 ^ k : Nat) : Int)) from decide_eq_decide.2 ⟨fun h => by have := h.2.2.2; rwa [pow_of (c := (k : Int)) rfl] at this, fun h => ⟨c1, ⟨c2, c3⟩, c4, by show b < 2 ^ (k : Int).toNat; rw [pow_of (c := (k : Int)) rfl]; exact h⟩⟩)
          have W := Lib.hid (w64_pow k hk)
          clear c1
          go_enter Try.func24, Try.ntmps24
          go_wp2_with fail
          go_quiet ((go_at_call 28; exact quiet_same (IA.out _)))
          go_wp2_with fail
          go_ret
          exact outB (by rw [W.out]; exact R.out.symm) (below_drewN (alloc_below _ _) _)
        · have R := Lib.hid (show decide (Ok1 (n, b, c)) = false from df (fun h => c4 h.2.2.1))
          have d1 := df c4
          clear c1
          go_enter Try.func24, Try.ntmps24
          go_wp2_with fail
          go_quiet ((go_at_call 28; exact quiet_same (IA.out _)))
          go_wp2_with fail
          go_ret
          exact outB R.out.symm (below_drewN (alloc_below _ _) _)
      · have R := Lib.hid (show decide (Ok1 (n, b, c)) = false from df (fun h => c3 h.2.1.2))
        have d1 := df c3
        clear c1
        go_enter Try.func24, Try.ntmps24
        go_wp2_with fail
        go_quiet ((go_at_call 28; exact quiet_same (IA.out _)))
        go_wp2_with fail
        go_ret
        exact outB R.out.symm (below_drewN (alloc_below _ _) _)
    · have R := Lib.hid (show decide (Ok1 (n, b, c)) = false from df (fun h => c2 h.2.1.1))
      have d1 := df c2
      clear c1
      go_enter Try.func24, Try.ntmps24
      go_wp2_with fail
      go_quiet ((go_at_call 28; exact quiet_same (IA.out _)))
      go_wp2_with fail
      go_ret
      exact outB R.out.symm (below_drewN (alloc_below _ _) _)
  · rw [df c1] at IA
    have R := Lib.hid (show decide (Ok1 (n, b, c)) = false from df (fun h => c1 h.1))
    clear c1
    go_enter Try.func24, Try.ntmps24
    go_wp2_with fail
    go_quiet ((go_at_call 28; exact quiet_same (IA.out _)))
    go_wp2_with fail
    go_ret
    exact outB R.out.symm (below_drewN (alloc_below _ _) _)
end Go.Proofs.Ythfkmmgckiijcaa.Lnk
