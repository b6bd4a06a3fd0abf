/- Contracts of firstWithLocal and Utc, of clock and of the reference. -/
import Derived.Test.YtoodfiicoplbhaaDoorCJ
set_option linter.unusedVariables false
namespace Go.Proofs.YtoodfiicoplbhaaDoor
open Go.RowKit

theorem fst_one {a b o L : Int} (h1 : a ≤ b) (h2 : vm (a + o) = L) : fstO a b o L = some a := by unfold fstO; rw [if_pos ⟨h1, h2⟩]
theorem fst_two {a b o L q : Int} (h : ¬ (a ≤ b ∧ vm (a + o) = L)) (hq : q = L - o) (h0 : 0 ≤ L) (h1 : L ≤ 1073741824) (g1 : a ≤ q) (g2 : q ≤ b) : fstO a b o L = some q := by
  unfold fstO; rw [if_neg h, if_pos ⟨by omega, by omega, h0, h1⟩, hq]
theorem fst_no {a b o L : Int} (h : ¬ (a ≤ b ∧ vm (a + o) = L)) (h2 : ¬ (a ≤ L - o ∧ L - o ≤ b ∧ 0 ≤ L ∧ L ≤ 1073741824)) : fstO a b o L = none := by
  unfold fstO; rw [if_neg h, if_neg h2]
/-- A number and a test's answer are handed back. -/
def RetU (x : Option Int) : Ending := .returned (.tuple #[.int .i64 (uR x).1, .bool (uR x).2])

theorem idx0 (x y : Value) (w : World) : (Instr.index 52 (.agg #[x, y]) (.int .i64 0)).run Tryd.prog w = .ok x w := by
  simp [Instr.index, asIntOf, run_underlying Tryd.underlying52, go_sem]
theorem idx1 (x y : Value) (w : World) : (Instr.index 52 (.agg #[x, y]) (.int .i64 1)).run Tryd.prog w = .ok y w := by
  simp [Instr.index, asIntOf, run_underlying Tryd.underlying52, go_sem]

set_option maxRecDepth 100000 in
set_option maxHeartbeats 2000000 in
theorem first_any (a b o L : Int) (w : World) (a0 : 0 ≤ a) (a1 : a ≤ 1073741824) (b0 : -1 ≤ b) (b1 : b ≤ 1073741824) (o0 : -840 ≤ o) (o1 : o ≤ 840) (hL : I64 L) :
    Calls Tryd.prog 43 #[.int .i64 a, .int .i64 b, .int .i64 o, .int .i64 L] w fun e w' => e = RetU (fstO a b o L) ∧ w = w' := by
  obtain ⟨q, hq⟩ : ∃ q, IntKind.i64.wrap (L - o) = q := ⟨_, rfl⟩
  have q1 : (0 ≤ L ∧ L ≤ 1073741824) → q = L - o := by intro ⟨h1, h2⟩; rw [← hq]; exact IntWalk.i64_in _ ⟨by omega, by omega⟩
  have Q1 := Lib.hid q1
  clear q1
  go_enter Tryd.func43, Tryd.ntmps43
  go_wp2_with fail
  go_loop [17] (fun i => ∃ k : Nat, i = .int .i64 k ∧ k ≤ 2 ∧ (1 ≤ k → ¬ (a ≤ b ∧ vm (a + o) = L)) ∧ (2 ≤ k → ¬ (a ≤ L - o ∧ L - o ≤ b ∧ 0 ≤ L ∧ L ≤ 1073741824))) (fun i => 2 - (intOf i).toNat)
  case atStart => exact ⟨0, rfl, by omega, fun h => by omega, fun h => by omega⟩
  case round =>
    obtain ⟨k, rfl, hk, h1, h2⟩ := hrel
    have H1 := Lib.hid h1
    have H2 := Lib.hid h2
    clear h1 h2
    obtain rfl | rfl | rfl : k = 0 ∨ k = 1 ∨ k = 2 := by omega
    · have s3 := idx0 (.int .i64 a) (.int .i64 q) w
      by_cases h1 : a ≤ b
      · have t1 := dt h1
        by_cases h2 : vm (a + o) = L
        · have R := Lib.hid (fst_one h1 h2)
          have t2 : (vm (a + o) == L) = true := by simpa using h2
          clear h2
          go_wp2_with (first
            | (go_at_call 44; refine (within_any _ _ _ _).mono ?_; rintro e w' ⟨rfl, rfl⟩)
            | (go_at_call 41; refine (limit_any _ _).mono ?_; rintro e w' ⟨rfl, rfl⟩))
          exact bodyPost_ret (v := .tuple #[.int .i64 a, .bool true]) (by simp [results, Tryd.results43, go_sem]) rfl ⟨by rw [R.out]; rfl, rfl⟩
        · have R := Lib.hid (show ¬ (a ≤ b ∧ vm (a + o) = L) from fun q => h2 q.2)
          have t2 : (vm (a + o) == L) = false := by simpa using h2
          clear h2
          go_wp2_with (first
            | (go_at_call 44; refine (within_any _ _ _ _).mono ?_; rintro e w' ⟨rfl, rfl⟩)
            | (go_at_call 41; refine (limit_any _ _).mono ?_; rintro e w' ⟨rfl, rfl⟩))
          go_round
          case rel => exact ⟨1, rfl, by omega, fun _ => R.out, fun h => by omega⟩
          case measure => simp [intOf]
      · have t1 := df h1
        have R := Lib.hid (show ¬ (a ≤ b ∧ vm (a + o) = L) from fun q => h1 q.1)
        go_wp2_with (first
          | (go_at_call 44; refine (within_any _ _ _ _).mono ?_; rintro e w' ⟨rfl, rfl⟩)
          | (go_at_call 41; refine (limit_any _ _).mono ?_; rintro e w' ⟨rfl, rfl⟩))
        go_round
        case rel => exact ⟨1, rfl, by omega, fun _ => R.out, fun h => by omega⟩
        case measure => simp [intOf]
    · have s3 := idx1 (.int .i64 a) (.int .i64 q) w
      by_cases h1 : a ≤ q ∧ q ≤ b
      · have t1 := within_t h1
        obtain ⟨g1, g2⟩ := h1
        by_cases h2 : 0 ≤ L ∧ L ≤ 1073741824
        · have e := Q1.out h2
          have R := Lib.hid (fst_two (H1.out (by omega)) e h2.1 h2.2 g1 g2)
          have t2 : (vm (q + o) == L) = true := by
            have : vm (q + o) = L := by unfold vm; omega
            simpa using this
          clear e h2
          go_wp2_with (first
            | (go_at_call 44; refine (within_any _ _ _ _).mono ?_; rintro e w' ⟨rfl, rfl⟩)
            | (go_at_call 41; refine (limit_any _ _).mono ?_; rintro e w' ⟨rfl, rfl⟩))
          exact bodyPost_ret (v := .tuple #[.int .i64 q, .bool true]) (by simp [results, Tryd.results43, go_sem]) rfl ⟨by rw [R.out]; rfl, rfl⟩
        · have R := Lib.hid (show ¬ (a ≤ L - o ∧ L - o ≤ b ∧ 0 ≤ L ∧ L ≤ 1073741824) from fun x => h2 x.2.2)
          have t2 : (vm (q + o) == L) = false := by
            have := vm_in (q + o)
            have : ¬ vm (q + o) = L := by omega
            simpa using this
          clear h2
          go_wp2_with (first
            | (go_at_call 44; refine (within_any _ _ _ _).mono ?_; rintro e w' ⟨rfl, rfl⟩)
            | (go_at_call 41; refine (limit_any _ _).mono ?_; rintro e w' ⟨rfl, rfl⟩))
          go_round
          case rel => exact ⟨2, rfl, by omega, fun _ => H1.out (by omega), fun _ => R.out⟩
          case measure => simp [intOf]
      · have t1 := within_f h1
        have R := Lib.hid (show ¬ (a ≤ L - o ∧ L - o ≤ b ∧ 0 ≤ L ∧ L ≤ 1073741824) from fun x => h1 (by have := Q1.out x.2.2; omega))
        clear h1
        go_wp2_with (first
          | (go_at_call 44; refine (within_any _ _ _ _).mono ?_; rintro e w' ⟨rfl, rfl⟩)
          | (go_at_call 41; refine (limit_any _ _).mono ?_; rintro e w' ⟨rfl, rfl⟩))
        go_round
        case rel => exact ⟨2, rfl, by omega, fun _ => H1.out (by omega), fun _ => R.out⟩
        case measure => simp [intOf]
    · have R := Lib.hid (fst_no (H1.out (by omega)) (H2.out (by omega)))
      go_wp2_with fail
      exact bodyPost_ret (v := .tuple #[.int .i64 0, .bool false]) (by simp [results, Tryd.results43, go_sem]) rfl ⟨by rw [R.out]; rfl, rfl⟩
end Go.Proofs.YtoodfiicoplbhaaDoor
