/- Spans in memory; contracts of the small functions of sched and of its reference. -/
import Derived.Test.YtnocbgimfmgdeaaKit
import Derived.Test.YtnocbgimfmgdeaaSTurn
set_option linter.unusedVariables false
namespace Go.Proofs.Ytnocbgimfmgdeaa
open Go.RowKit

/-- The slice with this address reads as these spans. -/
def SpAt (w : World) (B : Nat) (A : Option Addr) (l : List Spn) : Prop :=
  ∀ i (hi : i < l.length), ∃ b p, A = some ⟨b, p, none⟩ ∧ b < B ∧ w.cell? ⟨b, p + i * 2, none⟩ = some (.int .i64 l[i].1) ∧ w.cell? ⟨b, p + i * 2 + 1, none⟩ = some (.int .i64 l[i].2) ∧ I64 l[i].1 ∧ I64 l[i].2
theorem SpAt.below {w w' : World} {B : Nat} {A : Option Addr} {l : List Spn} (h : SpAt w B A l) (hb : Below B w w') : SpAt w' B A l := fun i hi => by
  obtain ⟨b, p, h1, h2, h3, h4, h5, h6⟩ := h i hi
  exact ⟨b, p, h1, h2, (hb.cell (p := ⟨b, p + i * 2, none⟩) h2).trans h3, (hb.cell (p := ⟨b, p + i * 2 + 1, none⟩) h2).trans h4, h5, h6⟩
theorem SpAt.mono {w : World} {B B' : Nat} {A : Option Addr} {l : List Spn} (h : SpAt w B A l) (hB : B ≤ B') : SpAt w B' A l := fun i hi => by
  obtain ⟨b, p, h1, h2, h3⟩ := h i hi
  exact ⟨b, p, h1, by omega, h3⟩
theorem SpAt.nil (w : World) (B : Nat) (A : Option Addr) : SpAt w B A [] := fun i h => absurd h (by simp)
/-- A span as a value. -/
def sV (s : Spn) : Value := .agg #[.int .i64 s.1, .int .i64 s.2]

section
variable (w : World) (f t : Int)
set_option maxHeartbeats 400000 in
theorem svalid_any : Calls Try.prog 32 #[.agg #[.int .i64 f, .int .i64 t]] w (OutB w (vldB (f, t))) := by
  by_cases h1 : 0 ≤ f
  · by_cases h2 : f < t
    · by_cases h3 : t ≤ 10080
      · have V := Lib.hid (vld_of (s := (f, t)) ⟨h1, h2, h3⟩)
        have d1 := dt h1
        have d2 := dt h2
        have d3 := dt h3
        go_enter Try.func32, Try.ntmps32
        go_wp2_with fail
        go_ret
        exact outB V.out.symm (alloc_below _ _)
      · have V := Lib.hid (show vldB (f, t) = false by unfold vldB; simp; omega)
        have d1 := dt h1
        have d2 := dt h2
        have d3 := df h3
        go_enter Try.func32, Try.ntmps32
        go_wp2_with fail
        go_ret
        exact outB V.out.symm (alloc_below _ _)
    · have V := Lib.hid (show vldB (f, t) = false by unfold vldB; simp; omega)
      have d1 := dt h1
      have d2 := df h2
      go_enter Try.func32, Try.ntmps32
      go_wp2_with fail
      go_ret
      exact outB V.out.symm (alloc_below _ _)
  · have V := Lib.hid (show vldB (f, t) = false by unfold vldB; simp; omega)
    have d1 := df h1
    go_enter Try.func32, Try.ntmps32
    go_wp2_with fail
    go_ret
    exact outB V.out.symm (alloc_below _ _)
set_option maxHeartbeats 400000 in
theorem rvalid_any : Calls Try.prog 33 #[.agg #[.int .i64 f, .int .i64 t]] w (OutB w (vldB (f, t))) := by
  by_cases h1 : 0 ≤ f
  · by_cases h2 : f < t
    · by_cases h3 : t ≤ 10080
      · have V := Lib.hid (vld_of (s := (f, t)) ⟨h1, h2, h3⟩)
        have d1 := dt h1
        have d2 := dt h2
        have d3 := dt h3
        go_enter Try.func33, Try.ntmps33
        go_wp2_with fail
        go_ret
        exact outB V.out.symm (alloc_below _ _)
      · have V := Lib.hid (show vldB (f, t) = false by unfold vldB; simp; omega)
        have d1 := dt h1
        have d2 := dt h2
        have d3 := df h3
        go_enter Try.func33, Try.ntmps33
        go_wp2_with fail
        go_ret
        exact outB V.out.symm (alloc_below _ _)
    · have V := Lib.hid (show vldB (f, t) = false by unfold vldB; simp; omega)
      have d1 := dt h1
      have d2 := df h2
      go_enter Try.func33, Try.ntmps33
      go_wp2_with fail
      go_ret
      exact outB V.out.symm (alloc_below _ _)
  · have V := Lib.hid (show vldB (f, t) = false by unfold vldB; simp; omega)
    have d1 := df h1
    go_enter Try.func33, Try.ntmps33
    go_wp2_with fail
    go_ret
    exact outB V.out.symm (alloc_below _ _)

theorem tmod_bd (m : Int) : -10079 ≤ m.tmod 10080 ∧ m.tmod 10080 ≤ 10079 := by
  rcases Int.le_total 0 m with h | h
  · rw [Int.tmod_eq_emod_of_nonneg h]; omega
  · have := Int.neg_tmod m 10080
    have e : (-m).tmod 10080 = (-m) % 10080 := Int.tmod_eq_emod_of_nonneg (by omega)
    omega
theorem ofweek_eq (m : Int) : (m.tmod 10080 + 10080).tmod 10080 = m % 10080 := by
  have h := tmod_bd m
  rw [Int.tmod_eq_emod_of_nonneg (by omega)]
  rw [Int.add_emod_right]
  rcases Int.le_total 0 m with g | g
  · rw [Int.tmod_eq_emod_of_nonneg g]; omega
  · have := Int.neg_tmod m 10080
    have e : (-m).tmod 10080 = (-m) % 10080 := Int.tmod_eq_emod_of_nonneg (by omega)
    omega
set_option maxHeartbeats 400000 in
theorem ofweek_any (m : Int) : Calls Try.prog 36 #[.int .i64 m] w fun e w' => e = .returned (.int .i64 (m % 10080)) ∧ w = w' := by
  have h1 := tmod_bd m
  have hx : ∀ y : Int, y = m.tmod 10080 → (y + 10080).tmod 10080 = m % 10080 := fun y hy => by rw [hy]; exact ofweek_eq m
  have h2 : 0 ≤ m % 10080 ∧ m % 10080 ≤ 10079 := by omega
  go_enter Try.func36, Try.ntmps36
  go_wp2_with fail
  go_ret
  exact ⟨rfl, rfl⟩
set_option maxHeartbeats 400000 in
theorem rminute_any (m : Int) : Calls Try.prog 37 #[.int .i64 m] w fun e w' => e = .returned (.int .i64 (m % 10080)) ∧ w = w' := by
  have h1 := tmod_bd m
  have e0 : ¬ m.tmod 10080 < 0 → m.tmod 10080 = m % 10080 := fun g => by have := ofweek_eq m; rw [Int.tmod_eq_emod_of_nonneg (by omega), Int.add_emod_right] at this; omega
  have e1 : m.tmod 10080 < 0 → m.tmod 10080 + 10080 = m % 10080 := fun g => by have := ofweek_eq m; rw [Int.tmod_eq_emod_of_nonneg (by omega)] at this; omega
  by_cases h : m.tmod 10080 < 0
  · have E := Lib.hid (e1 h)
    clear e0 e1
    go_enter Try.func37, Try.ntmps37
    go_wp2_with fail
    go_ret
    exact ⟨ret_int E.out, rfl⟩
  · have E := Lib.hid (e0 h)
    clear e0 e1
    go_enter Try.func37, Try.ntmps37
    go_wp2_with fail
    go_ret
    exact ⟨ret_int E.out, rfl⟩
set_option maxHeartbeats 400000 in
theorem swithin_any (n k : Int) : Calls Try.prog 42 #[.int .i64 n, .int .i64 k] w fun e w' => e = .returned (.bool (decide (0 ≤ n) && decide (n ≤ k))) ∧ w = w' := by
  by_cases h1 : 0 ≤ n
  · by_cases h2 : n ≤ k
    · have d1 := dt h1
      have d2 := dt h2
      go_enter Try.func42, Try.ntmps42
      go_wp2_with fail
      go_ret
      exact ⟨ret_bool (by first | rfl | simp [h1, h2]), rfl⟩
    · have d1 := dt h1
      have d2 := df h2
      go_enter Try.func42, Try.ntmps42
      go_wp2_with fail
      go_ret
      exact ⟨ret_bool (by first | rfl | simp [h1, h2]), rfl⟩
  · have d1 := df h1
    go_enter Try.func42, Try.ntmps42
    go_wp2_with fail
    go_ret
    exact ⟨ret_bool (by first | rfl | simp [h1]), rfl⟩
/-- What the closures answer. -/
def bel (g : FuncId) (x y : Bool) : Bool := if g = 39 then x || y else if g = 40 then x && y else x && !y
theorem bel_none (g : FuncId) : bel g false false = false := by unfold bel; (repeat' split) <;> rfl
set_option maxHeartbeats 400000 in
theorem either_any (x y : Bool) : Calls Try.prog 39 #[.bool x, .bool y] w fun e w' => e = .returned (.bool (bel 39 x y)) ∧ w = w' := by
  cases x <;>
  · go_enter Try.func39, Try.ntmps39
    go_wp2_with fail
    go_ret
    exact ⟨rfl, rfl⟩
set_option maxHeartbeats 400000 in
theorem both_any (x y : Bool) : Calls Try.prog 40 #[.bool x, .bool y] w fun e w' => e = .returned (.bool (bel 40 x y)) ∧ w = w' := by
  cases x <;>
  · go_enter Try.func40, Try.ntmps40
    go_wp2_with fail
    go_ret
    exact ⟨rfl, rfl⟩
set_option maxHeartbeats 400000 in
theorem first_any (x y : Bool) : Calls Try.prog 41 #[.bool x, .bool y] w fun e w' => e = .returned (.bool (bel 41 x y)) ∧ w = w' := by
  cases x <;>
  · go_enter Try.func41, Try.ntmps41
    go_wp2_with fail
    go_ret
    exact ⟨rfl, rfl⟩
end
end Go.Proofs.Ytnocbgimfmgdeaa
