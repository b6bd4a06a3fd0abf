/- Contracts of the reference's Minutes and Length. -/
import Derived.Test.YtnocbgimfmgdeaaSB
set_option linter.unusedVariables false
namespace Go.Proofs.Ytnocbgimfmgdeaa
open Go.RowKit

theorem info_bool : (Try.prog.info? 4).map (fun i => (i.zero, i.size, i.bytes)) = some (some (.bool false), 1, 1) := by kernel_rfl
/-- A row of the minutes of the week. -/
abbrev MinRow (w : World) (g : Nat) (S : Int → Bool) : Prop := w.rowIs g 4 10080 (fun i => .bool (S i))
theorem make_week (w : World) : ∃ w', (Instr.makeSlice 40 (.int .i64 10080) (.int .i64 10080)).run Try.prog w = .ok (.slice (some ⟨w.heap.size, 0, none⟩) 10080 10080) w' ∧ MinRow w' w.heap.size (fun _ => false) ∧ Below w.heap.size w w' :=
  ⟨_, run_make_row' 40 4 (.bool false) 1 Try.underlying40 info_bool rfl .i64 .i64 10080 (by decide) (by decide) w, World.rowIs_made w _ _ _, alloc_below _ _⟩
theorem inS_take (l : List Spn) (k : Nat) (h : k < l.length) (m : Int) : inS (l.take (k + 1)) m = (inS (l.take k) m || inO (l[k].1, l[k].2) m) := by
  rw [List.take_succ_eq_append_getElem h, inS_append]; simp [inS]
theorem MinRow.setTrue {w : World} {g : Nat} {S : Int → Bool} (h : MinRow w g S) (k : Nat) : MinRow (w.setCell ⟨g, k, none⟩ (.bool true)) g (fun i => if i = (k : Int) then true else S i) := by
  refine (h.set k (.bool true)).congr fun i hi => ?_
  by_cases e : i = k
  · subst e; simp
  · rw [if_neg e]; show Value.bool (S i) = .bool (if (i : Int) = k then true else S i); rw [if_neg (by omega)]
theorem MinRow.same {w : World} {g : Nat} {S T : Int → Bool} (h : MinRow w g S) (e : ∀ i : Nat, i < 10080 → S i = T i) : MinRow w g T := World.rowIs.congr h fun i hi => by rw [e i hi]
theorem MinRow.below {w w' : World} {g : Nat} {S : Int → Bool} (h : MinRow w g S) (hb : Below w.heap.size w w') : MinRow w' g S := World.rowIs.of_block h (hb.block g (World.rowIs.lt h))

/-- A new row of minutes is handed back. -/
def OutM (w : World) (S : Int → Bool) (e : Ending) (w' : World) : Prop := ∃ g, e = .returned (.slice (some ⟨g, 0, none⟩) 10080 10080) ∧ w.heap.size ≤ g ∧ MinRow w' g S ∧ Below w.heap.size w w'

set_option maxRecDepth 100000 in
set_option maxHeartbeats 2000000 in
theorem minutes_any (A : Option Addr) (c : Nat) (l : List Spn) (w : World) (hl : l.length ≤ 100000) (hA : SpAt w w.heap.size A l) :
    Calls Try.prog 35 #[.slice A l.length c] w (OutM w (inS l)) := by
  have HA := Lib.hid hA
  clear hA
  obtain ⟨w1, hmk, hrow, hb1⟩ := make_week w
  have R1 := Lib.hid hrow
  have B1 := Lib.hid hb1
  have hz1 := hb1.size
  clear hrow hb1
  go_enter Try.func35, Try.ntmps35
  go_wp2_with fail
  go_loopw [9] (fun i wr => ∃ k : Nat, i = .int .i64 k ∧ k ≤ l.length ∧ MinRow wr w.heap.size (inS (l.take k)) ∧ Below w.heap.size w wr) (fun i _ => l.length - (intOf i).toNat)
  case atStart => exact ⟨0, rfl, Nat.zero_le _, R1.out, B1.out⟩
  case round =>
    obtain ⟨k, rfl, hk, hrow, hb⟩ := hrel
    have R := Lib.hid hrow
    have B := Lib.hid hb
    have hz := hb.size
    by_cases hlt : k < l.length
    · obtain ⟨b, p, rfl, g1, g2, g3, g4, g5⟩ := (HA.out.below hb) k hlt
      have ST := Lib.hid (inS_take l k hlt)
      clear hrow hb
      generalize l[k].1 = f at *
      generalize l[k].2 = t at *
      go_wp2_with fail
      refine (rvalid_any _ f t).mono ?_
      rintro e w2 ⟨rfl, hb⟩
      have g2 := (hb.cell (p := ⟨b, p + k * 2, none⟩) (by show b < wr.heap.size; omega)).trans g2
      have g3 := (hb.cell (p := ⟨b, p + k * 2 + 1, none⟩) (by show b < wr.heap.size; omega)).trans g3
      have R2 := Lib.hid (R.out.below hb)
      have B2 := Lib.hid (B.out.trans (hb.mono hz))
      have hz2 := B2.out.size
      clear hb
      cases hv : vldB (f, t) with
      | false =>
        have R3 := Lib.hid (R2.out.same (T := inS (l.take (k + 1))) fun i hi => by rw [ST.out]; unfold inO; rw [hv, Bool.false_and, Bool.false_and, Bool.or_false])
        go_wp2_with fail
        go_roundw
        case rel => exact ⟨k + 1, by go_num, hlt, R3.out, B2.out⟩
        case measure => simp [intOf]; omega
      | true =>
        obtain ⟨v1, v2, v3⟩ := vld_in hv
        have v1 : 0 ≤ f := v1
        have v2 : f < t := v2
        have v3 : t ≤ 10080 := v3
        obtain ⟨n, rfl⟩ := Int.eq_ofNat_of_zero_le v1
        obtain ⟨q, rfl⟩ := Int.eq_ofNat_of_zero_le (show 0 ≤ t by omega)
        have hnq : n < q := by omega
        have hq : q ≤ 10080 := by omega
        have HV := Lib.hid hv
        have G2 := Lib.hid g2
        have G3 := Lib.hid g3
        have K := Lib.hid (fun (w' : World) (h : Below w.heap.size w w') => (HA.out.below h) k hlt)
        clear v1 v2 v3 hv
        go_wp2_with fail
        go_loopw [5] (fun i wr => ∃ m : Nat, i = .int .i64 m ∧ n ≤ m ∧ m ≤ q ∧ MinRow wr w.heap.size (fun i => inS (l.take k) i || (decide ((n : Int) ≤ i) && decide (i < (m : Int)))) ∧ Below w.heap.size w wr ∧ wr.cell? ⟨b, p + k * 2 + 1, none⟩ = some (.int .i64 q)) (fun i _ => q - (intOf i).toNat)
        case atStart => exact ⟨n, rfl, Nat.le_refl _, by omega, R2.out.same fun i hi => by rw [Bool.eq_iff_iff]; simp; omega, B2.out, G3.out⟩
        case round =>
          obtain ⟨m, rfl, hm1, hm2, hrow, hb, hc⟩ := hrel
          have R := Lib.hid hrow
          have B := Lib.hid hb
          have hz := hb.size
          by_cases hmt : m < q
          · have cm := hrow.cell (i := m) (by omega)
            have fm := hrow.frozen m
            have R3 := Lib.hid ((hrow.setTrue m).same (T := fun i => inS (l.take k) i || (decide ((n : Int) ≤ i) && decide (i < ((m + 1 : Nat) : Int)))) fun i hi => by
              by_cases e : (i : Int) = m
              · rw [if_pos e, e]; rw [Bool.eq_iff_iff]; simp; omega
              · rw [if_neg e]; congr 2; rw [decide_eq_decide]; omega)
            have B3 := Lib.hid (hb.setCell (p := ⟨w.heap.size, m, none⟩) (Nat.le_refl _) (.bool true))
            have C3 := Lib.hid ((World.cell?_setCell_other (a := ⟨w.heap.size, m, none⟩) (v := .bool true) (w := wr) (b := ⟨b, p + k * 2 + 1, none⟩) (by intro e; injection e with e1 e2; omega)).trans hc)
            clear hrow hb
            go_wp2_with fail
            go_roundw
            case rel => exact ⟨m + 1, by go_num, by omega, hmt, R3.out, B3.out, C3.out⟩
            case measure => simp [intOf]; omega
          · obtain rfl : m = q := by omega
            have R3 := Lib.hid (hrow.same (T := inS (l.take (k + 1))) fun i hi => by rw [ST.out]; unfold inO; rw [HV.out]; rfl)
            clear hrow hb
            go_wp2_with fail
            go_roundw
            case rel => exact ⟨k + 1, by go_num, hlt, R3.out, B.out⟩
            case measure => simp [intOf]; omega
    · obtain rfl : k = l.length := by omega
      rw [List.take_length] at R
      clear hrow hb
      go_wp2_with fail
      go_ret
      exact ⟨_, rfl, Nat.le_refl _, R.out, B.out⟩
end Go.Proofs.Ytnocbgimfmgdeaa
