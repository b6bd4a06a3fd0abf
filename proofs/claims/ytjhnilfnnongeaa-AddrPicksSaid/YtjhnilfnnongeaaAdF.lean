/- Contracts of the reference's Same and Equal. -/
import Derived.Test.YtjhnilfnnongeaaAdE
set_option linter.unusedVariables false
namespace Go.Proofs.Ytjhnilfnnongeaa.Adr
open Go.RowKit

set_option maxRecDepth 100000 in
set_option maxHeartbeats 2000000 in
theorem equal_any (A1 A2 : Option Addr) (c1 c2 : Nat) (l1 l2 : List Int) (w : World) (hl1 : l1.length ≤ 9223372036854775807) (hl2 : l2.length ≤ 9223372036854775807) (hA1 : FlAt fI w w.heap.size A1 l1) (hA2 : FlAt fI w w.heap.size A2 l2) :
    Calls Try.prog 19 #[.slice A1 l1.length c1, .slice A2 l2.length c2] w (OutB w (decide (l1 = l2))) := by
  have H1 := Lib.hid hA1
  have H2 := Lib.hid hA2
  clear hA1 hA2
  by_cases hn : l1.length = l2.length
  · have i1 : ((l1.length : Int) == (l2.length : Int)) = true := by simp; omega
    have i2 : ((l1.length : Int) != (l2.length : Int)) = false := by simp; omega
    have HN := Lib.hid hn
    clear hn
    go_enter Try.func19, Try.ntmps19
    go_wp2_with fail
    clear i1 i2
    go_loopw [5] (fun i wr => ∃ k : Nat, i = .int .i64 k ∧ k ≤ l1.length ∧ decide (l1 = l2) = decide (l1.drop k = l2.drop k) ∧ Below w.heap.size w wr) (fun i _ => l1.length - (intOf i).toNat)
    case atStart => exact ⟨0, rfl, Nat.zero_le _, rfl, Below.refl _ _⟩
    case round =>
      obtain ⟨k, rfl, hk, hal, hb⟩ := hrel
      have B := Lib.hid hb
      have hz := hb.size
      by_cases hlt : k < l1.length
      · have hlt2 : k < l2.length := by have := HN.out; omega
        obtain ⟨b, p, rfl, f1, f2, f3⟩ := fI_cell (H1.out.below hb) k hlt
        obtain ⟨b2, p2, rfl, g1, g2, g3⟩ := fI_cell (H2.out.below hb) k hlt2
        rw [drop_one l1 k hlt, drop_one l2 k hlt2] at hal
        have AL := Lib.hid hal
        clear hal hb
        generalize l1[k] = x1 at *
        generalize l2[k] = x2 at *
        by_cases hx : x1 = x2
        · have R := Lib.hid (show decide (l1 = l2) = decide (l1.drop (k + 1) = l2.drop (k + 1)) by rw [AL.out]; congr 1; simp [hx])
          subst hx
          clear AL
          go_wp2_with fail
          go_quiet (fail)
          go_wp2_with fail
          go_roundw
          case rel => exact ⟨k + 1, by go_num, hlt, R.out, below_drewN B.out _⟩
          case measure => simp [intOf]; omega
        · have R := Lib.hid (show decide (l1 = l2) = false by rw [AL.out]; apply decide_eq_false; intro e; injection e with e _; exact hx e)
          have n1 : (x1 == x2) = false := by simpa using hx
          have n2 : decide (x1 = x2) = false := df hx
          clear AL hx
          go_wp2_with fail
          go_quiet (fail)
          go_wp2_with fail
          go_ret
          exact outB R.out.symm (below_drewN B.out _)
      · have R := Lib.hid (show decide (l1 = l2) = true by rw [hal, List.drop_eq_nil_of_le (by omega), List.drop_eq_nil_of_le (by have := HN.out; omega)]; rfl)
        clear hal hb
        go_wp2_with fail
        go_ret
        exact outB R.out.symm B.out
  · have i1 : ((l1.length : Int) == (l2.length : Int)) = false := by simp; omega
    have i2 : ((l1.length : Int) != (l2.length : Int)) = true := by simp; omega
    have R := Lib.hid (show decide (l1 = l2) = false from decide_eq_false fun e => hn (by rw [e]))
    clear hn
    go_enter Try.func19, Try.ntmps19
    go_wp2_with fail
    go_ret
    exact outB R.out.symm (Below.refl _ _)

set_option maxRecDepth 100000 in
set_option maxHeartbeats 2000000 in
theorem same_any (A1 A2 : Option Addr) (c1 c2 : Nat) (l1 l2 : List Clm) (w : World) (hl1 : l1.length ≤ 9223372036854775807) (hl2 : l2.length ≤ 9223372036854775807) (hA1 : ClAt w w.heap.size A1 l1) (hA2 : ClAt w w.heap.size A2 l2) :
    Calls Try.prog 22 #[.slice A1 l1.length c1, .slice A2 l2.length c2] w (OutB w (decide (l1 = l2))) := by
  have H1 := Lib.hid hA1
  have H2 := Lib.hid hA2
  clear hA1 hA2
  by_cases hn : l1.length = l2.length
  · have i1 : ((l1.length : Int) == (l2.length : Int)) = true := by simp; omega
    have i2 : ((l1.length : Int) != (l2.length : Int)) = false := by simp; omega
    have HN := Lib.hid hn
    clear hn
    go_enter Try.func22, Try.ntmps22
    go_wp2_with fail
    clear i1 i2
    go_loopw [5] (fun i wr => ∃ k : Nat, i = .int .i64 k ∧ k ≤ l1.length ∧ decide (l1 = l2) = decide (l1.drop k = l2.drop k) ∧ Below w.heap.size w wr) (fun i _ => l1.length - (intOf i).toNat)
    case atStart => exact ⟨0, rfl, Nat.zero_le _, rfl, Below.refl _ _⟩
    case round =>
      obtain ⟨k, rfl, hk, hal, hb⟩ := hrel
      have B := Lib.hid hb
      have hz := hb.size
      by_cases hlt : k < l1.length
      · have hlt2 : k < l2.length := by have := HN.out; omega
        obtain ⟨b, p, rfl, f1, f2, f3, f4, f5⟩ := cl_cell (H1.out.below hb) k hlt
        obtain ⟨b2, p2, rfl, g1, g2, g3, g4, g5⟩ := cl_cell (H2.out.below hb) k hlt2
        rw [drop_one l1 k hlt, drop_one l2 k hlt2] at hal
        have AL := Lib.hid hal
        clear hal hb
        have e1 : l1[k] = (l1[k].1, l1[k].2.1, l1[k].2.2) := rfl
        have e2 : l2[k] = (l2[k].1, l2[k].2.1, l2[k].2.2) := rfl
        rw [e1, e2] at AL
        clear e1 e2 f5 g5
        generalize l1[k].1 = x1 at *
        generalize l1[k].2.1 = y1 at *
        generalize l1[k].2.2 = z1 at *
        generalize l2[k].1 = x2 at *
        generalize l2[k].2.1 = y2 at *
        generalize l2[k].2.2 = z2 at *
        by_cases hx : x1 = x2 ∧ y1 = y2 ∧ z1 = z2
        · obtain ⟨rfl, rfl, rfl⟩ := hx
          have R := Lib.hid (show decide (l1 = l2) = decide (l1.drop (k + 1) = l2.drop (k + 1)) by rw [AL.out]; congr 1; simp)
          clear AL
          go_wp2_with fail
          go_quiet (fail)
          go_wp2_with fail
          go_roundw
          case rel => exact ⟨k + 1, by go_num, hlt, R.out, below_drewN B.out _⟩
          case measure => simp [intOf]; omega
        · have R := Lib.hid (show decide (l1 = l2) = false by rw [AL.out]; apply decide_eq_false; intro e; injection e with e _; simp only [Prod.mk.injEq] at e; exact hx e)
          clear AL
          by_cases hx1 : x1 = x2
          · subst hx1
            by_cases hy1 : y1 = y2
            · subst hy1
              have n1 : (z1 == z2) = false := by simp; exact fun e2 => hx ⟨rfl, rfl, e2⟩
              have n2 : decide (z1 = z2) = false := decide_eq_false fun e2 => hx ⟨rfl, rfl, e2⟩
              clear hx
              go_wp2_with fail
              go_quiet (fail)
              go_wp2_with fail
              go_ret
              exact outB R.out.symm (below_drewN B.out _)
            · have n1 : (y1 == y2) = false := by simpa using hy1
              have n2 : decide (y1 = y2) = false := decide_eq_false hy1
              clear hx
              go_wp2_with fail
              go_quiet (fail)
              go_wp2_with fail
              go_ret
              exact outB R.out.symm (below_drewN B.out _)
          · have n1 : (x1 == x2) = false := by simpa using hx1
            have n2 : decide (x1 = x2) = false := decide_eq_false hx1
            clear hx
            go_wp2_with fail
            go_quiet (fail)
            go_wp2_with fail
            go_ret
            exact outB R.out.symm (below_drewN B.out _)
      · have R := Lib.hid (show decide (l1 = l2) = true by rw [hal, List.drop_eq_nil_of_le (by omega), List.drop_eq_nil_of_le (by have := HN.out; omega)]; rfl)
        clear hal hb
        go_wp2_with fail
        go_ret
        exact outB R.out.symm B.out
  · have i1 : ((l1.length : Int) == (l2.length : Int)) = false := by simp; omega
    have i2 : ((l1.length : Int) != (l2.length : Int)) = true := by simp; omega
    have R := Lib.hid (show decide (l1 = l2) = false from decide_eq_false fun e => hn (by rw [e]))
    clear hn
    go_enter Try.func22, Try.ntmps22
    go_wp2_with fail
    go_ret
    exact outB R.out.symm (Below.refl _ _)
end Go.Proofs.Ytjhnilfnnongeaa.Adr
