/- Contracts of Has and Check of sched and of its reference, and of the reference's Same. -/
import Derived.Test.YtnocbgimfmgdeaaSA
set_option linter.unusedVariables false
namespace Go.Proofs.Ytnocbgimfmgdeaa
open Go.RowKit

theorem inS_step (l : List Spn) (k : Nat) (h : k < l.length) (m : Int) : inS (l.drop k) m = (inO (l[k].1, l[k].2) m || inS (l.drop (k + 1)) m) := by rw [drop_one l k h]; rfl
theorem inS_end (l : List Spn) (k : Nat) (h : ¬ k < l.length) (m : Int) : inS (l.drop k) m = false := by rw [List.drop_eq_nil_of_le (by omega)]; rfl

set_option maxRecDepth 100000 in
set_option maxHeartbeats 2000000 in
theorem shas_any (A : Option Addr) (c : Nat) (l : List Spn) (m : Int) (w : World) (hl : l.length ≤ 100000) (hA : SpAt w w.heap.size A l) :
    Calls Try.prog 20 #[.slice A l.length c, .int .i64 m] w (OutB w (inS l (m % 10080))) := by
  have HA := Lib.hid hA
  clear hA
  obtain ⟨M, hM⟩ : ∃ M, M = m % 10080 := ⟨_, rfl⟩
  have OW := Lib.hid (fun w => ofweek_any w m)
  rw [← hM] at OW ⊢
  clear hM
  go_enter Try.func20, Try.ntmps20
  go_wp2_with fail
  refine (OW.out _).mono ?_
  rintro e w' ⟨rfl, rfl⟩
  go_wp2_with fail
  go_loopw [11] (fun i wr => ∃ k : Nat, i = .int .i64 k ∧ k ≤ l.length ∧ inS l M = inS (l.drop k) M ∧ Below w.heap.size w wr) (fun i _ => l.length - (intOf i).toNat)
  case atStart => exact ⟨0, rfl, Nat.zero_le _, rfl, Below.refl _ _⟩
  case round =>
    obtain ⟨k, rfl, hk, hal, hb⟩ := hrel
    have B := Lib.hid hb
    have hz := hb.size
    by_cases hlt : k < l.length
    · obtain ⟨b, p, rfl, g1, g2, g3, g4, g5⟩ := (HA.out.below hb) k hlt
      rw [inS_step l k hlt] at hal
      have AL := Lib.hid hal
      clear hal hb
      generalize l[k].1 = f at *
      generalize l[k].2 = t at *
      go_wp2_with fail
      refine (svalid_any _ f t).mono ?_
      rintro e w2 ⟨rfl, hb⟩
      have c0 := box_at hb 0 (v := .int .i64 f) rfl
      have c1 := box_at hb 1 (v := .int .i64 t) rfl
      have B2 := Lib.hid (B.out.trans ((box_below hb).mono hz))
      clear hb g1 g2 g3
      cases hv : vldB (f, t) with
      | false =>
        have R := Lib.hid (show inS l M = inS (l.drop (k + 1)) M by rw [AL.out]; unfold inO; rw [hv]; rfl)
        go_wp2_with fail
        go_roundw
        case rel => exact ⟨k + 1, by go_num, hlt, R.out, B2.out⟩
        case measure => simp [intOf]; omega
      | true =>
        by_cases h1 : f ≤ M
        · by_cases h2 : M < t
          · have R := Lib.hid (show inS l M = true by rw [AL.out]; unfold inO; rw [hv, decide_eq_true h1, decide_eq_true h2]; rfl)
            have d1 := dt h1
            have d2 := dt h2
            go_wp2_with fail
            go_ret
            exact outB R.out.symm B2.out
          · have R := Lib.hid (show inS l M = inS (l.drop (k + 1)) M by rw [AL.out]; unfold inO; rw [hv, decide_eq_true h1, decide_eq_false h2]; rfl)
            have d1 := dt h1
            have d2 := df h2
            go_wp2_with fail
            go_roundw
            case rel => exact ⟨k + 1, by go_num, hlt, R.out, B2.out⟩
            case measure => simp [intOf]; omega
        · have R := Lib.hid (show inS l M = inS (l.drop (k + 1)) M by rw [AL.out]; unfold inO; rw [hv, decide_eq_false h1]; rfl)
          have d1 := df h1
          go_wp2_with fail
          go_roundw
          case rel => exact ⟨k + 1, by go_num, hlt, R.out, B2.out⟩
          case measure => simp [intOf]; omega
    · rw [inS_end l k hlt] at hal
      have R := Lib.hid hal
      clear hal hb
      go_wp2_with fail
      go_ret
      exact outB R.out.symm B.out

set_option maxRecDepth 100000 in
set_option maxHeartbeats 2000000 in
theorem rhas_any (A : Option Addr) (c : Nat) (l : List Spn) (m : Int) (w : World) (hl : l.length ≤ 100000) (hA : SpAt w w.heap.size A l) :
    Calls Try.prog 21 #[.slice A l.length c, .int .i64 m] w (OutB w (inS l (m % 10080))) := by
  have HA := Lib.hid hA
  clear hA
  obtain ⟨M, hM⟩ : ∃ M, M = m % 10080 := ⟨_, rfl⟩
  have OW := Lib.hid (fun w => rminute_any w m)
  rw [← hM] at OW ⊢
  clear hM
  go_enter Try.func21, Try.ntmps21
  go_wp2_with fail
  refine (OW.out _).mono ?_
  rintro e w' ⟨rfl, rfl⟩
  go_wp2_with fail
  go_loopw [10] (fun i wr => ∃ k : Nat, i = .int .i64 k ∧ k ≤ l.length ∧ inS l M = inS (l.drop k) M ∧ Below w.heap.size w wr) (fun i _ => l.length - (intOf i).toNat)
  case atStart => exact ⟨0, rfl, Nat.zero_le _, rfl, Below.refl _ _⟩
  case round =>
    obtain ⟨k, rfl, hk, hal, hb⟩ := hrel
    have B := Lib.hid hb
    have hz := hb.size
    by_cases hlt : k < l.length
    · obtain ⟨b, p, rfl, g1, g2, g3, g4, g5⟩ := (HA.out.below hb) k hlt
      rw [inS_step l k hlt] at hal
      have AL := Lib.hid hal
      clear hal hb
      generalize l[k].1 = f at *
      generalize l[k].2 = t at *
      go_wp2_with fail
      refine (rvalid_any _ f t).mono ?_
      rintro e w2 ⟨rfl, hb⟩
      have g2 := (hb.cell (p := ⟨b, p + k * 2, none⟩) (by show b < wr.heap.size; omega)).trans g2
      have g3 := (hb.cell (p := ⟨b, p + k * 2 + 1, none⟩) (by show b < wr.heap.size; omega)).trans g3
      have B2 := Lib.hid (B.out.trans (hb.mono hz))
      clear hb g1
      cases hv : vldB (f, t) with
      | false =>
        have R := Lib.hid (show inS l M = inS (l.drop (k + 1)) M by rw [AL.out]; unfold inO; rw [hv]; rfl)
        go_wp2_with fail
        go_roundw
        case rel => exact ⟨k + 1, by go_num, hlt, R.out, B2.out⟩
        case measure => simp [intOf]; omega
      | true =>
        by_cases h1 : f ≤ M
        · by_cases h2 : M < t
          · have R := Lib.hid (show inS l M = true by rw [AL.out]; unfold inO; rw [hv, decide_eq_true h1, decide_eq_true h2]; rfl)
            have d1 := dt h1
            have d2 := dt h2
            go_wp2_with fail
            go_ret
            exact outB R.out.symm B2.out
          · have R := Lib.hid (show inS l M = inS (l.drop (k + 1)) M by rw [AL.out]; unfold inO; rw [hv, decide_eq_true h1, decide_eq_false h2]; rfl)
            have d1 := dt h1
            have d2 := df h2
            go_wp2_with fail
            go_roundw
            case rel => exact ⟨k + 1, by go_num, hlt, R.out, B2.out⟩
            case measure => simp [intOf]; omega
        · have R := Lib.hid (show inS l M = inS (l.drop (k + 1)) M by rw [AL.out]; unfold inO; rw [hv, decide_eq_false h1]; rfl)
          have d1 := df h1
          go_wp2_with fail
          go_roundw
          case rel => exact ⟨k + 1, by go_num, hlt, R.out, B2.out⟩
          case measure => simp [intOf]; omega
    · rw [inS_end l k hlt] at hal
      have R := Lib.hid hal
      clear hal hb
      go_wp2_with fail
      go_ret
      exact outB R.out.symm B.out

/-- What Check answers. -/
def allV : List Spn → Bool
  | [] => true
  | s :: r => vldB s && allV r
theorem allV_step (l : List Spn) (k : Nat) (h : k < l.length) : allV (l.drop k) = (vldB (l[k].1, l[k].2) && allV (l.drop (k + 1))) := by rw [drop_one l k h]; rfl
def chkS (l : List Spn) : Int := if 256 < l.length then 3 else if allV l = true then 0 else 2

set_option maxRecDepth 100000 in
set_option maxHeartbeats 2000000 in
theorem scheck_any (A : Option Addr) (c : Nat) (l : List Spn) (w : World) (hl : l.length ≤ 100000) (hA : SpAt w w.heap.size A l) :
    Calls Try.prog 13 #[.slice A l.length c] w (OutI w (chkS l)) := by
  have HA := Lib.hid hA
  clear hA
  by_cases h256 : 256 < l.length
  · have R := Lib.hid (show chkS l = 3 from if_pos h256)
    go_enter Try.func13, Try.ntmps13
    go_wp2_with fail
    go_ret
    exact outI R.out.symm (Below.refl _ _)
  have CK := Lib.hid (show chkS l = if allV l = true then 0 else 2 from if_neg h256)
  go_enter Try.func13, Try.ntmps13
  go_wp2_with fail
  go_loopw [10] (fun i wr => ∃ k : Nat, i = .int .i64 k ∧ k ≤ l.length ∧ allV l = allV (l.drop k) ∧ Below w.heap.size w wr) (fun i _ => l.length - (intOf i).toNat)
  case atStart => exact ⟨0, rfl, Nat.zero_le _, rfl, Below.refl _ _⟩
  case round =>
    obtain ⟨k, rfl, hk, hal, hb⟩ := hrel
    have B := Lib.hid hb
    have hz := hb.size
    by_cases hlt : k < l.length
    · obtain ⟨b, p, rfl, g1, g2, g3, g4, g5⟩ := (HA.out.below hb) k hlt
      rw [allV_step l k hlt] at hal
      have AL := Lib.hid hal
      clear hal hb
      generalize l[k].1 = f at *
      generalize l[k].2 = t at *
      go_wp2_with fail
      refine (svalid_any _ f t).mono ?_
      rintro e w2 ⟨rfl, hb⟩
      have B2 := Lib.hid (B.out.trans ((box_below hb).mono hz))
      clear hb g1 g2 g3
      cases hv : vldB (f, t) with
      | false =>
        have R := Lib.hid (show chkS l = 2 by rw [CK.out, AL.out, hv]; rfl)
        go_wp2_with fail
        go_ret
        exact outI R.out.symm B2.out
      | true =>
        have R := Lib.hid (show allV l = allV (l.drop (k + 1)) by rw [AL.out, hv]; rfl)
        go_wp2_with fail
        go_roundw
        case rel => exact ⟨k + 1, by go_num, hlt, R.out, B2.out⟩
        case measure => simp [intOf]; omega
    · rw [List.drop_eq_nil_of_le (by omega)] at hal
      have R := Lib.hid (show chkS l = 0 by rw [CK.out, hal]; rfl)
      clear hal hb
      go_wp2_with fail
      go_ret
      exact outI R.out.symm B.out

set_option maxRecDepth 100000 in
set_option maxHeartbeats 2000000 in
theorem rcheck_any (A : Option Addr) (c : Nat) (l : List Spn) (w : World) (hl : l.length ≤ 100000) (hA : SpAt w w.heap.size A l) :
    Calls Try.prog 14 #[.slice A l.length c] w (OutI w (chkS l)) := by
  have HA := Lib.hid hA
  clear hA
  by_cases h256 : 256 < l.length
  · have R := Lib.hid (show chkS l = 3 from if_pos h256)
    go_enter Try.func14, Try.ntmps14
    go_wp2_with fail
    go_ret
    exact outI R.out.symm (Below.refl _ _)
  have CK := Lib.hid (show chkS l = if allV l = true then 0 else 2 from if_neg h256)
  go_enter Try.func14, Try.ntmps14
  go_wp2_with fail
  go_loopw [9] (fun i wr => ∃ k : Nat, i = .int .i64 k ∧ k ≤ l.length ∧ allV l = allV (l.drop k) ∧ Below w.heap.size w wr) (fun i _ => l.length - (intOf i).toNat)
  case atStart => exact ⟨0, rfl, Nat.zero_le _, rfl, Below.refl _ _⟩
  case round =>
    obtain ⟨k, rfl, hk, hal, hb⟩ := hrel
    have B := Lib.hid hb
    have hz := hb.size
    by_cases hlt : k < l.length
    · obtain ⟨b, p, rfl, g1, g2, g3, g4, g5⟩ := (HA.out.below hb) k hlt
      rw [allV_step l k hlt] at hal
      have AL := Lib.hid hal
      clear hal hb
      generalize l[k].1 = f at *
      generalize l[k].2 = t at *
      go_wp2_with fail
      refine (rvalid_any _ f t).mono ?_
      rintro e w2 ⟨rfl, hb⟩
      have B2 := Lib.hid (B.out.trans (hb.mono hz))
      clear hb g1 g2 g3
      cases hv : vldB (f, t) with
      | false =>
        have R := Lib.hid (show chkS l = 2 by rw [CK.out, AL.out, hv]; rfl)
        go_wp2_with fail
        go_ret
        exact outI R.out.symm B2.out
      | true =>
        have R := Lib.hid (show allV l = allV (l.drop (k + 1)) by rw [AL.out, hv]; rfl)
        go_wp2_with fail
        go_roundw
        case rel => exact ⟨k + 1, by go_num, hlt, R.out, B2.out⟩
        case measure => simp [intOf]; omega
    · rw [List.drop_eq_nil_of_le (by omega)] at hal
      have R := Lib.hid (show chkS l = 0 by rw [CK.out, hal]; rfl)
      clear hal hb
      go_wp2_with fail
      go_ret
      exact outI R.out.symm B.out

set_option maxRecDepth 100000 in
set_option maxHeartbeats 2000000 in
theorem rsame_any (A1 A2 : Option Addr) (c1 c2 : Nat) (l1 l2 : List Spn) (w : World) (hl1 : l1.length ≤ 100000) (hl2 : l2.length ≤ 100000) (hA1 : SpAt w w.heap.size A1 l1) (hA2 : SpAt w w.heap.size A2 l2) :
    Calls Try.prog 15 #[.slice A1 l1.length c1, .slice A2 l2.length c2] w (OutB w (decide (l1 = l2))) := by
  have H1 := Lib.hid hA1
  have H2 := Lib.hid hA2
  clear hA1 hA2
  by_cases hn : l1.length = l2.length
  · have i1 : ((l1.length : Int) == (l2.length : Int)) = true := by simp; omega
    have i2 : ((l1.length : Int) != (l2.length : Int)) = false := by simp; omega
    have HN := Lib.hid hn
    clear hn
    go_enter Try.func15, Try.ntmps15
    go_wp2_with fail
    clear i1 i2
    go_loopw [13] (fun i wr => ∃ k : Nat, i = .int .i64 k ∧ k ≤ l1.length ∧ decide (l1 = l2) = decide (l1.drop k = l2.drop k) ∧ Below w.heap.size w wr) (fun i _ => l1.length - (intOf i).toNat)
    case atStart => exact ⟨0, rfl, Nat.zero_le _, rfl, Below.refl _ _⟩
    case round =>
      obtain ⟨k, rfl, hk, hal, hb⟩ := hrel
      have B := Lib.hid hb
      have hz := hb.size
      by_cases hlt : k < l1.length
      · have hlt2 : k < l2.length := by have := HN.out; omega
        obtain ⟨b, p, rfl, g1, g2, g3, g4, g5⟩ := (H1.out.below hb) k hlt
        obtain ⟨b2, p2, rfl, f1, f2, f3, f4, f5⟩ := (H2.out.below hb) k hlt2
        rw [drop_one l1 k hlt, drop_one l2 k hlt2] at hal
        have AL := Lib.hid hal
        clear hal hb
        have e1 : l1[k] = (l1[k].1, l1[k].2) := rfl
        have e2 : l2[k] = (l2[k].1, l2[k].2) := rfl
        rw [e1, e2] at AL
        clear e1 e2
        generalize l1[k].1 = x1 at *
        generalize l1[k].2 = y1 at *
        generalize l2[k].1 = x2 at *
        generalize l2[k].2 = y2 at *
        by_cases hx : x1 = x2 ∧ y1 = y2
        · obtain ⟨rfl, rfl⟩ := hx
          have R := Lib.hid (show decide (l1 = l2) = decide (l1.drop (k + 1) = l2.drop (k + 1)) by rw [AL.out]; congr 1; simp)
          clear AL
          go_wp2_with fail
          go_quiet (fail)
          go_wp2_with fail
          go_roundw
          case rel => exact ⟨k + 1, by go_num, hlt, R.out, below_drewN B.out _⟩
          case measure => simp [intOf]; omega
        · have R := Lib.hid (show decide (l1 = l2) = false by rw [AL.out]; apply decide_eq_false; intro e; injection e with e _; injection e with e1 e2; exact hx ⟨e1, e2⟩)
          clear AL
          by_cases hx1 : x1 = x2
          · subst hx1
            have n1 : (y1 == y2) = false := by simp; exact fun e2 => hx ⟨rfl, e2⟩
            have n2 : decide (y1 = y2) = false := decide_eq_false fun e2 => hx ⟨rfl, e2⟩
            clear hx
            go_wp2_with fail
            go_quiet (fail)
            go_wp2_with fail
            go_ret
            exact outB R.out.symm (below_drewN B.out _)
          · have n1 : (x1 == x2) = false := by simpa using hx1
            have n2 : decide (x1 = x2) = false := decide_eq_false hx1
            clear hx
            go_wp2_with fail
            go_quiet (fail)
            go_wp2_with fail
            go_ret
            exact outB R.out.symm (below_drewN B.out _)
      · have R := Lib.hid (show decide (l1 = l2) = true by rw [hal, List.drop_eq_nil_of_le (by omega), List.drop_eq_nil_of_le (by have := HN.out; omega)]; rfl)
        clear hal hb
        go_wp2_with fail
        go_ret
        exact outB R.out.symm B.out
  · have i1 : ((l1.length : Int) == (l2.length : Int)) = false := by simp; omega
    have i2 : ((l1.length : Int) != (l2.length : Int)) = true := by simp; omega
    have R := Lib.hid (show decide (l1 = l2) = false from decide_eq_false fun e => hn (by rw [e]))
    clear hn
    go_enter Try.func15, Try.ntmps15
    go_wp2_with fail
    go_ret
    exact outB R.out.symm (Below.refl _ _)
end Go.Proofs.Ytnocbgimfmgdeaa
