/- Six tables in memory; the law's own function looping. -/
import Derived.Test.YtcfnkfkdhcejeaaRV
import Derived.Test.YtcfnkfkdhcejeaaR2
set_option linter.unusedVariables false
namespace Go.Proofs.Ytcfnkfkdhcejeaa.Rte
open Go.RowKit

/-- Six tables: where they lie, and what they read. -/
abbrev Sn := Nat → Option Addr × Nat × List Rt
def vs (s : Sn) (i : Nat) : Value := .slice (s i).1 (s i).2.2.length (s i).2.1
def six (s : Sn) : List Value := [vs s 0, vs s 1, vs s 2, vs s 3, vs s 4, vs s 5]
theorem lt6 {i : Nat} (h : i < 6) : i = 0 ∨ i = 1 ∨ i = 2 ∨ i = 3 ∨ i = 4 ∨ i = 5 := by omega
theorem six_at (s : Sn) {i : Nat} (h : i < 6) : (six s)[i]? = some (vs s i) := by
  rcases lt6 h with rfl | rfl | rfl | rfl | rfl | rfl <;> rfl
def setS (s : Sn) (i : Nat) (x : Option Addr × Nat × List Rt) : Sn := fun j => if j = i then x else s j
theorem setS_at (s : Sn) (i : Nat) (x : Option Addr × Nat × List Rt) : setS s i x i = x := if_pos rfl
theorem setS_ne (s : Sn) {i j : Nat} (x : Option Addr × Nat × List Rt) (h : j ≠ i) : setS s i x j = s j := if_neg h
theorem six_set (s : Sn) {i : Nat} (x : Option Addr × Nat × List Rt) (h : i < 6) : (six s).set i (.slice x.1 x.2.2.length x.2.1) = six (setS s i x) := by
  rcases lt6 h with rfl | rfl | rfl | rfl | rfl | rfl <;> rfl
def tbs (s : Sn) : Nat → List Rt := fun i => (s i).2.2
theorem tbs_set (s : Sn) (i : Nat) (x : Option Addr × Nat × List Rt) : tbs (setS s i x) = setN (tbs s) i x.2.2 := by
  funext j
  unfold tbs setS setN
  by_cases h : j = i
  · rw [if_pos h, if_pos h]
  · rw [if_neg h, if_neg h]
def F6 : Flat Sn := ⟨6, six, fun _ => True, by decide, fun _ => rfl, fun s v h => by
  unfold six vs at h
  simp only [List.mem_cons, List.not_mem_nil, or_false] at h
  rcases h with rfl | rfl | rfl | rfl | rfl | rfl <;> rfl⟩
/-- The tables lie there, each a row of its own. -/
def TbAt (w : World) (s : Sn) : Prop := ∀ i, i < 6 → OwnR w 0 (vs s i) (s i).2.2
theorem TbAt.below {w w' : World} {s : Sn} (h : TbAt w s) (hb : Below w.heap.size w w') : TbAt w' s := fun i hi => (h i hi).below hb
theorem TbAt.read {w : World} {s : Sn} (h : TbAt w s) {i : Nat} (hi : i < 6) : RtAt w w.heap.size (s i).1 (s i).2.2 := row_at (h i hi)
abbrev bx6 (s : Sn) : Obj := .cells #[vs s 0, vs s 1, vs s 2, vs s 3, vs s 4, vs s 5] 47

set_option maxRecDepth 100000 in
set_option maxHeartbeats 4000000 in
theorem looping_any (s : Sn) (w : World) (hT : TbAt w s) (hN : Net (tbs s)) :
    Calls Try.prog 29 #[.agg #[vs s 0, vs s 1, vs s 2, vs s 3, vs s 4, vs s 5]] w (OutB w false) := by
  have HT := Lib.hid hT
  have HN := Lib.hid hN
  have SL := Lib.hid (fun i (hi : i < 6) => (hN i hi).1.1.1)
  have XB := Lib.hid (blk_new w (bx6 s))
  have HH := Lib.hid (fun i (hi : i < 6) (d : Int) w (h : RtAt w w.heap.size (s i).1 (s i).2.2) => (show Calls Try.prog 20 #[vs s i, .int .i64 d] w (OutP w (hop (tbs s i) d)) from phop_any (s i).1 (s i).2.1 (s i).2.2 d w (by have := (hN i hi).1.1.1; unfold tbs at this; omega) h))
  have AT := Lib.hid (fun (wr : World) (h : wr.heap[w.heap.size]? = some (.cells #[vs s 0, vs s 1, vs s 2, vs s 3, vs s 4, vs s 5] 47 (0, 0))) i (hi : i < 6) => (show wr.cell? ⟨w.heap.size, i, none⟩ = some (vs s i) from blk_cell h i (by have := six_at s hi; simpa [six] using this)))
  clear hT hN
  go_enter Try.func29, Try.ntmps29
  go_wp2_with fail
  go_loopw [3] (fun va wr => ∃ a : Nat, va = .int .i64 a ∧ a ≤ 6 ∧ Below (w.alloc (bx6 s)).heap.size (w.alloc (bx6 s)) wr) (fun va _ => 6 - (intOf va).toNat)
  case atStart => exact ⟨0, rfl, by omega, Below.refl _ _⟩
  case round =>
    obtain ⟨a, rfl, ha, hb⟩ := hrel
    have B0 := Lib.hid hb
    clear hb
    by_cases ha6 : a < 6
    rotate_left
    · have d0 : ¬ a < 6 := ha6
      have d0' : decide ((a : Int) < 6) = false := df (by omega)
      have BF := Lib.hid ((alloc_below w (bx6 s)).trans (B0.out.mono (by simp)))
      go_wp2_with fail
      go_ret
      exact outB rfl BF.out
    have d0 : decide ((a : Int) < 6) = true := dt (by omega)
    go_wp2_with fail
    go_loopw [4] (fun vd wr => ∃ d : Nat, vd = .int .i64 d ∧ d ≤ 6 ∧ Below (w.alloc (bx6 s)).heap.size (w.alloc (bx6 s)) wr) (fun vd _ => 6 - (intOf vd).toNat)
    case atStart => exact ⟨0, rfl, by omega, B0.out⟩
    case round =>
      clear B0
      obtain ⟨d, rfl, hd, hb⟩ := hrel
      have B1 := Lib.hid hb
      clear hb
      by_cases hd6 : d < 6
      rotate_left
      · have e0 : decide ((d : Int) < 6) = false := df (by omega)
        go_wp2_with fail
        go_roundw
        case rel => exact ⟨a + 1, by go_num, ha6, B1.out⟩
        case measure => simp [intOf]; omega
      have e0 : decide ((d : Int) < 6) = true := dt (by omega)
      go_wp2_with fail
      go_loopw [5, 6] (fun vt vi wr => ∃ (t i : Nat), vt = .int .i64 t ∧ vi = .int .i64 i ∧ Hid (Walk (tbs s) (d : Int) i t) ∧ Below (w.alloc (bx6 s)).heap.size (w.alloc (bx6 s)) wr) (fun _ vi _ => 6 - (intOf vi).toNat)
      case atStart => exact ⟨a, 0, rfl, rfl, Lib.hid (walk_start _ _ ha6), B1.out⟩
      case round =>
        clear B1
        obtain ⟨t, i, rfl, rfl, HW, hb⟩ := hrel
        have B2 := Lib.hid hb
        have hz := hb.size
        have ht6 : t < 6 := HW.out.1
        have hi5 := walk_new HW.out
        have xr := blk_below XB.out hb (by simp)
        have g0 := AT.out wr xr t ht6
        have RT := Lib.hid ((HT.out.below (alloc_below w (bx6 s))).below hb)
        clear hb xr
        by_cases htd : t = d
        · have c0 : ((t : Int) != (d : Int)) = false := by subst htd; simp
          have c1 : ((t : Int) == (d : Int)) = true := by subst htd; simp
          go_wp2_with fail
          go_roundw
          case rel => exact ⟨d + 1, by go_num, hd6, B2.out⟩
          case measure => simp [intOf]; omega
        have c0 : ((t : Int) != (d : Int)) = true := by rw [bne_iff_ne]; omega
        have c1 : ((t : Int) == (d : Int)) = false := by rw [← Bool.not_eq_true, beq_iff_eq]; omega
        have c2 : decide (6 < (i : Int)) = false := df (by omega)
        have n0 : (0 : Int) ≤ (t : Int) := by omega
        have n1 : (t : Int) < 6 := by omega
        have KH := Lib.hid (HH.out t ht6 (d : Int) wr (RT.out.read ht6))
        have WH := Lib.hid (fun n (h : hop (tbs s t) (d : Int) = (n, true)) => walk_hop HN.out HW.out (by omega) h)
        rcases hh : hop (tbs s t) (d : Int) with ⟨n, ok⟩
        rw [hh] at KH WH
        unfold OutP at KH
        clear hh
        cases ok with
        | false =>
          go_wp2_with fail
          refine KH.out.mono ?_
          rintro _ w5 ⟨rfl, hb⟩
          have B5 := Lib.hid (B2.out.trans (hb.mono hz))
          clear hb
          go_wp2_with fail
          go_roundw
          case rel => exact ⟨d + 1, by go_num, hd6, B5.out⟩
          case measure => simp [intOf]; omega
        | true =>
          obtain ⟨b, hb6, rfl, hbt, hw'⟩ := WH.out n rfl
          have HW2 := Lib.hid hw'
          have m0 : decide ((b : Int) < 0) = false := df (by omega)
          have m1 : decide (5 < (b : Int)) = false := df (by omega)
          have m2 : ((b : Int) == (t : Int)) = false := by rw [← Bool.not_eq_true, beq_iff_eq]; omega
          clear hw' WH
          go_wp2_with fail
          refine KH.out.mono ?_
          rintro _ w5 ⟨rfl, hb⟩
          have B5 := Lib.hid (B2.out.trans (hb.mono hz))
          clear hb
          go_wp2_with fail
          go_roundw
          case rel => exact ⟨b, i + 1, rfl, by go_num, HW2, B5.out⟩
          case measure => simp [intOf]; omega
end Go.Proofs.Ytcfnkfkdhcejeaa.Rte
