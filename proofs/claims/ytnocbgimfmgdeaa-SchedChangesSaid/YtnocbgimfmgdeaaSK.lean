/- Contracts of the reference's Norm, Union, Cross, Minus and Length. -/
import Derived.Test.YtnocbgimfmgdeaaSJ
set_option linter.unusedVariables false
namespace Go.Proofs.Ytnocbgimfmgdeaa
open Go.RowKit

theorem in_range (l : List Spn) (m : Int) : (inS l m && decide (0 ≤ m) && decide (m < 10080)) = inS l m := by
  cases c : inS l m with
  | false => rfl
  | true => have := inS_range c; rw [decide_eq_true this.1, decide_eq_true this.2]; rfl
theorem in_range2 (f : Bool → Bool → Bool) (hf : f false false = false) (a b : List Spn) (m : Int) : (f (inS a m) (inS b m) && decide (0 ≤ m) && decide (m < 10080)) = f (inS a m) (inS b m) := by
  by_cases h : 0 ≤ m ∧ m < 10080
  · rw [decide_eq_true h.1, decide_eq_true h.2, Bool.and_true, Bool.and_true]
  · have e : ∀ l, inS l m = false := fun l => by
      cases c : inS l m with
      | false => rfl
      | true => exact absurd (inS_range c) h
    rw [e, e, hf]; rfl
theorem MinRow.put {w : World} {g : Nat} {S : Int → Bool} (h : MinRow w g S) (k : Nat) (v : Bool) : MinRow (w.setCell ⟨g, k, none⟩ (.bool v)) g (fun i => if i = (k : Int) then v else S i) := by
  refine (h.set k (.bool v)).congr fun i hi => ?_
  by_cases e : i = k
  · subst e; simp
  · rw [if_neg e]; show Value.bool (S i) = .bool (if (i : Int) = k then v else S i); rw [if_neg (by omega)]
theorem MinRow.other {w : World} {g : Nat} {S : Int → Bool} (h : MinRow w g S) {a : Addr} (ha : g ≠ a.block) (v : Value) : MinRow (w.setCell a v) g S := World.rowIs.setOther h ha v

set_option maxRecDepth 100000 in
set_option maxHeartbeats 1000000 in
theorem rnorm_any (w : World) (A : Option Addr) (c : Nat) (l : List Spn) (hl : l.length ≤ 100000) (hA : SpAt w w.heap.size A l) :
    Calls Try.prog 17 #[.slice A l.length c] w (OutNf w (inS l)) := by
  have MI := Lib.hid (minutes_any A c l w hl hA)
  clear hA
  go_enter Try.func17, Try.ntmps17
  go_wp2_with fail
  refine MI.out.mono ?_
  rintro e w1 ⟨g, rfl, hge, hrow, hb⟩
  have SP := Lib.hid (rspans_any w1 g _ hrow)
  have B1 := Lib.hid hb
  clear hrow hb hge
  go_wp2_with fail
  refine SP.out.mono ?_
  rintro e w2 ⟨A, c, F, rfl, hs, hn, hb⟩
  have H := Lib.hid (And.intro hs (And.intro (hn.congr fun m => in_range l m) (B1.out.trans (hb.mono B1.out.size))))
  clear hs hn hb
  go_wp2_with fail
  go_ret
  exact ⟨A, c, F, rfl, H.out⟩

set_option maxRecDepth 100000 in
set_option maxHeartbeats 4000000 in
theorem runion_any (w : World) (A1 A2 : Option Addr) (c1 c2 : Nat) (l1 l2 : List Spn) (hl1 : l1.length ≤ 100000) (hl2 : l2.length ≤ 100000) (hA1 : SpAt w w.heap.size A1 l1) (hA2 : SpAt w w.heap.size A2 l2) :
    Calls Try.prog 25 #[.slice A1 l1.length c1, .slice A2 l2.length c2] w (OutNf w fun m => inS l1 m || inS l2 m) := by
  have M1 := Lib.hid (minutes_any A1 c1 l1 w hl1 hA1)
  have H2 := Lib.hid hA2
  clear hA1 hA2
  go_enter Try.func25, Try.ntmps25
  go_wp2_with fail
  refine M1.out.mono ?_
  rintro e w1 ⟨gx, rfl, hge1, hrow, hb⟩
  have RX := Lib.hid hrow
  have B1 := Lib.hid hb
  have hx := World.rowIs.lt hrow
  have hz1 := hb.size
  have M2 := Lib.hid (minutes_any A2 c2 l2 w1 hl2 ((H2.out.below hb).mono hz1))
  clear hrow hb
  go_wp2_with fail
  refine M2.out.mono ?_
  rintro e w2 ⟨gy, rfl, hge2, hrow, hb⟩
  have RY := Lib.hid hrow
  have RX2 := Lib.hid (RX.out.below hb)
  have hy := World.rowIs.lt hrow
  have B2 := Lib.hid (B1.out.trans (hb.mono hz1))
  have hz2 := B2.out.size
  clear hrow hb
  obtain ⟨w3, hmk, hrow, hb⟩ := make_week w2
  have RO := Lib.hid hrow
  have RX3 := Lib.hid (RX2.out.below hb)
  have RY3 := Lib.hid (RY.out.below hb)
  have B3 := Lib.hid (B2.out.trans (hb.mono hz2))
  clear hrow hb
  go_wp2_with fail
  go_loopw [16] (fun i wr => ∃ m : Nat, i = .int .i64 m ∧ m ≤ 10080 ∧ MinRow wr gx (inS l1) ∧ MinRow wr gy (inS l2) ∧ MinRow wr w2.heap.size (fun i => decide (i < (m : Int)) && (inS l1 i || inS l2 i)) ∧ Below w.heap.size w wr) (fun i _ => 10080 - (intOf i).toNat)
  case atStart => exact ⟨0, rfl, Nat.zero_le _, RX3.out, RY3.out, RO.out.same fun i _ => by rw [decide_eq_false (by omega)]; rfl, B3.out⟩
  case round =>
    obtain ⟨m, rfl, hm, hrx, hry, hro, hb⟩ := hrel
    have X := Lib.hid hrx
    have Y := Lib.hid hry
    have Z := Lib.hid hro
    have B := Lib.hid hb
    by_cases hlt : m < 10080
    · have cx := hrx.cell (i := m) hlt
      have cy := hry.cell (i := m) hlt
      have cz := hro.cell (i := m) hlt
      have fz := hro.frozen m
      have Q := Lib.hid (fun (v : Bool) (hv : (inS l1 m || inS l2 m) = v) => show MinRow (wr.setCell ⟨w2.heap.size, m, none⟩ (.bool v)) w2.heap.size (fun i => decide (i < ((m + 1 : Nat) : Int)) && (inS l1 i || inS l2 i)) from
        (hro.put m v).same fun i hi => by
          by_cases e : (i : Int) = m
          · rw [if_pos e, e, hv, decide_eq_true (show (m : Int) < ((m + 1 : Nat) : Int) by omega)]; rfl
          · rw [if_neg e]; congr 1; exact decide_eq_decide.2 (by omega))
      have QX := Lib.hid (fun (v : Value) => hrx.other (a := ⟨w2.heap.size, m, none⟩) (show gx ≠ w2.heap.size by omega) v)
      have QY := Lib.hid (fun (v : Value) => hry.other (a := ⟨w2.heap.size, m, none⟩) (show gy ≠ w2.heap.size by omega) v)
      have QB := Lib.hid (fun (v : Value) => hb.setCell (p := ⟨w2.heap.size, m, none⟩) hz2 v)
      clear hrx hry hro hb
      rcases hsx : inS l1 m with _ | _ <;> rcases hsy : inS l2 m with _ | _ <;> rw [hsx] at cx <;> rw [hsy] at cy
      · go_wp2_with fail
        go_roundw
        case rel => exact ⟨m + 1, by go_num, hlt, QX.out _, QY.out _, Q.out false (by rw [hsx, hsy]; rfl), QB.out _⟩
        case measure => simp [intOf]; omega
      · go_wp2_with fail
        go_roundw
        case rel => exact ⟨m + 1, by go_num, hlt, QX.out _, QY.out _, Q.out true (by rw [hsx, hsy]; rfl), QB.out _⟩
        case measure => simp [intOf]; omega
      · go_wp2_with fail
        go_roundw
        case rel => exact ⟨m + 1, by go_num, hlt, QX.out _, QY.out _, Q.out true (by rw [hsx, hsy]; rfl), QB.out _⟩
        case measure => simp [intOf]; omega
      · go_wp2_with fail
        go_roundw
        case rel => exact ⟨m + 1, by go_num, hlt, QX.out _, QY.out _, Q.out true (by rw [hsx, hsy]; rfl), QB.out _⟩
        case measure => simp [intOf]; omega
    · obtain rfl : m = 10080 := by omega
      have RZ := Lib.hid (show MinRow wr w2.heap.size (fun m => inS l1 m || inS l2 m) from hro.same fun i hi => by rw [decide_eq_true (by omega)]; rfl)
      have SP := Lib.hid (rspans_any wr w2.heap.size _ RZ.out)
      clear hrx hry hro hb
      go_wp2_with fail
      refine SP.out.mono ?_
      rintro e w5 ⟨A, c, F, rfl, hs, hn, hb⟩
      have H := Lib.hid (And.intro hs (And.intro (hn.congr fun m => in_range2 (fun x y => x || y) rfl l1 l2 m) (B.out.trans (hb.mono B.out.size))))
      clear hs hn hb
      go_wp2_with fail
      go_ret
      exact ⟨A, c, F, rfl, H.out⟩

set_option maxRecDepth 100000 in
set_option maxHeartbeats 4000000 in
theorem rcross_any (w : World) (A1 A2 : Option Addr) (c1 c2 : Nat) (l1 l2 : List Spn) (hl1 : l1.length ≤ 100000) (hl2 : l2.length ≤ 100000) (hA1 : SpAt w w.heap.size A1 l1) (hA2 : SpAt w w.heap.size A2 l2) :
    Calls Try.prog 27 #[.slice A1 l1.length c1, .slice A2 l2.length c2] w (OutNf w fun m => inS l1 m && inS l2 m) := by
  have M1 := Lib.hid (minutes_any A1 c1 l1 w hl1 hA1)
  have H2 := Lib.hid hA2
  clear hA1 hA2
  go_enter Try.func27, Try.ntmps27
  go_wp2_with fail
  refine M1.out.mono ?_
  rintro e w1 ⟨gx, rfl, hge1, hrow, hb⟩
  have RX := Lib.hid hrow
  have B1 := Lib.hid hb
  have hx := World.rowIs.lt hrow
  have hz1 := hb.size
  have M2 := Lib.hid (minutes_any A2 c2 l2 w1 hl2 ((H2.out.below hb).mono hz1))
  clear hrow hb
  go_wp2_with fail
  refine M2.out.mono ?_
  rintro e w2 ⟨gy, rfl, hge2, hrow, hb⟩
  have RY := Lib.hid hrow
  have RX2 := Lib.hid (RX.out.below hb)
  have hy := World.rowIs.lt hrow
  have B2 := Lib.hid (B1.out.trans (hb.mono hz1))
  have hz2 := B2.out.size
  clear hrow hb
  obtain ⟨w3, hmk, hrow, hb⟩ := make_week w2
  have RO := Lib.hid hrow
  have RX3 := Lib.hid (RX2.out.below hb)
  have RY3 := Lib.hid (RY.out.below hb)
  have B3 := Lib.hid (B2.out.trans (hb.mono hz2))
  clear hrow hb
  go_wp2_with fail
  go_loopw [16] (fun i wr => ∃ m : Nat, i = .int .i64 m ∧ m ≤ 10080 ∧ MinRow wr gx (inS l1) ∧ MinRow wr gy (inS l2) ∧ MinRow wr w2.heap.size (fun i => decide (i < (m : Int)) && (inS l1 i && inS l2 i)) ∧ Below w.heap.size w wr) (fun i _ => 10080 - (intOf i).toNat)
  case atStart => exact ⟨0, rfl, Nat.zero_le _, RX3.out, RY3.out, RO.out.same fun i _ => by rw [decide_eq_false (by omega)]; rfl, B3.out⟩
  case round =>
    obtain ⟨m, rfl, hm, hrx, hry, hro, hb⟩ := hrel
    have X := Lib.hid hrx
    have Y := Lib.hid hry
    have Z := Lib.hid hro
    have B := Lib.hid hb
    by_cases hlt : m < 10080
    · have cx := hrx.cell (i := m) hlt
      have cy := hry.cell (i := m) hlt
      have cz := hro.cell (i := m) hlt
      have fz := hro.frozen m
      have Q := Lib.hid (fun (v : Bool) (hv : (inS l1 m && inS l2 m) = v) => show MinRow (wr.setCell ⟨w2.heap.size, m, none⟩ (.bool v)) w2.heap.size (fun i => decide (i < ((m + 1 : Nat) : Int)) && (inS l1 i && inS l2 i)) from
        (hro.put m v).same fun i hi => by
          by_cases e : (i : Int) = m
          · rw [if_pos e, e, hv, decide_eq_true (show (m : Int) < ((m + 1 : Nat) : Int) by omega)]; rfl
          · rw [if_neg e]; congr 1; exact decide_eq_decide.2 (by omega))
      have QX := Lib.hid (fun (v : Value) => hrx.other (a := ⟨w2.heap.size, m, none⟩) (show gx ≠ w2.heap.size by omega) v)
      have QY := Lib.hid (fun (v : Value) => hry.other (a := ⟨w2.heap.size, m, none⟩) (show gy ≠ w2.heap.size by omega) v)
      have QB := Lib.hid (fun (v : Value) => hb.setCell (p := ⟨w2.heap.size, m, none⟩) hz2 v)
      clear hrx hry hro hb
      rcases hsx : inS l1 m with _ | _ <;> rcases hsy : inS l2 m with _ | _ <;> rw [hsx] at cx <;> rw [hsy] at cy
      · go_wp2_with fail
        go_roundw
        case rel => exact ⟨m + 1, by go_num, hlt, QX.out _, QY.out _, Q.out false (by rw [hsx, hsy]; rfl), QB.out _⟩
        case measure => simp [intOf]; omega
      · go_wp2_with fail
        go_roundw
        case rel => exact ⟨m + 1, by go_num, hlt, QX.out _, QY.out _, Q.out false (by rw [hsx, hsy]; rfl), QB.out _⟩
        case measure => simp [intOf]; omega
      · go_wp2_with fail
        go_roundw
        case rel => exact ⟨m + 1, by go_num, hlt, QX.out _, QY.out _, Q.out false (by rw [hsx, hsy]; rfl), QB.out _⟩
        case measure => simp [intOf]; omega
      · go_wp2_with fail
        go_roundw
        case rel => exact ⟨m + 1, by go_num, hlt, QX.out _, QY.out _, Q.out true (by rw [hsx, hsy]; rfl), QB.out _⟩
        case measure => simp [intOf]; omega
    · obtain rfl : m = 10080 := by omega
      have RZ := Lib.hid (show MinRow wr w2.heap.size (fun m => inS l1 m && inS l2 m) from hro.same fun i hi => by rw [decide_eq_true (by omega)]; rfl)
      have SP := Lib.hid (rspans_any wr w2.heap.size _ RZ.out)
      clear hrx hry hro hb
      go_wp2_with fail
      refine SP.out.mono ?_
      rintro e w5 ⟨A, c, F, rfl, hs, hn, hb⟩
      have H := Lib.hid (And.intro hs (And.intro (hn.congr fun m => in_range2 (fun x y => x && y) rfl l1 l2 m) (B.out.trans (hb.mono B.out.size))))
      clear hs hn hb
      go_wp2_with fail
      go_ret
      exact ⟨A, c, F, rfl, H.out⟩

set_option maxRecDepth 100000 in
set_option maxHeartbeats 4000000 in
theorem rminus_any (w : World) (A1 A2 : Option Addr) (c1 c2 : Nat) (l1 l2 : List Spn) (hl1 : l1.length ≤ 100000) (hl2 : l2.length ≤ 100000) (hA1 : SpAt w w.heap.size A1 l1) (hA2 : SpAt w w.heap.size A2 l2) :
    Calls Try.prog 29 #[.slice A1 l1.length c1, .slice A2 l2.length c2] w (OutNf w fun m => inS l1 m && !inS l2 m) := by
  have M1 := Lib.hid (minutes_any A1 c1 l1 w hl1 hA1)
  have H2 := Lib.hid hA2
  clear hA1 hA2
  go_enter Try.func29, Try.ntmps29
  go_wp2_with fail
  refine M1.out.mono ?_
  rintro e w1 ⟨gx, rfl, hge1, hrow, hb⟩
  have RX := Lib.hid hrow
  have B1 := Lib.hid hb
  have hx := World.rowIs.lt hrow
  have hz1 := hb.size
  have M2 := Lib.hid (minutes_any A2 c2 l2 w1 hl2 ((H2.out.below hb).mono hz1))
  clear hrow hb
  go_wp2_with fail
  refine M2.out.mono ?_
  rintro e w2 ⟨gy, rfl, hge2, hrow, hb⟩
  have RY := Lib.hid hrow
  have RX2 := Lib.hid (RX.out.below hb)
  have hy := World.rowIs.lt hrow
  have B2 := Lib.hid (B1.out.trans (hb.mono hz1))
  have hz2 := B2.out.size
  clear hrow hb
  obtain ⟨w3, hmk, hrow, hb⟩ := make_week w2
  have RO := Lib.hid hrow
  have RX3 := Lib.hid (RX2.out.below hb)
  have RY3 := Lib.hid (RY.out.below hb)
  have B3 := Lib.hid (B2.out.trans (hb.mono hz2))
  clear hrow hb
  go_wp2_with fail
  go_loopw [16] (fun i wr => ∃ m : Nat, i = .int .i64 m ∧ m ≤ 10080 ∧ MinRow wr gx (inS l1) ∧ MinRow wr gy (inS l2) ∧ MinRow wr w2.heap.size (fun i => decide (i < (m : Int)) && (inS l1 i && !inS l2 i)) ∧ Below w.heap.size w wr) (fun i _ => 10080 - (intOf i).toNat)
  case atStart => exact ⟨0, rfl, Nat.zero_le _, RX3.out, RY3.out, RO.out.same fun i _ => by rw [decide_eq_false (by omega)]; rfl, B3.out⟩
  case round =>
    obtain ⟨m, rfl, hm, hrx, hry, hro, hb⟩ := hrel
    have X := Lib.hid hrx
    have Y := Lib.hid hry
    have Z := Lib.hid hro
    have B := Lib.hid hb
    by_cases hlt : m < 10080
    · have cx := hrx.cell (i := m) hlt
      have cy := hry.cell (i := m) hlt
      have cz := hro.cell (i := m) hlt
      have fz := hro.frozen m
      have Q := Lib.hid (fun (v : Bool) (hv : (inS l1 m && !inS l2 m) = v) => show MinRow (wr.setCell ⟨w2.heap.size, m, none⟩ (.bool v)) w2.heap.size (fun i => decide (i < ((m + 1 : Nat) : Int)) && (inS l1 i && !inS l2 i)) from
        (hro.put m v).same fun i hi => by
          by_cases e : (i : Int) = m
          · rw [if_pos e, e, hv, decide_eq_true (show (m : Int) < ((m + 1 : Nat) : Int) by omega)]; rfl
          · rw [if_neg e]; congr 1; exact decide_eq_decide.2 (by omega))
      have QX := Lib.hid (fun (v : Value) => hrx.other (a := ⟨w2.heap.size, m, none⟩) (show gx ≠ w2.heap.size by omega) v)
      have QY := Lib.hid (fun (v : Value) => hry.other (a := ⟨w2.heap.size, m, none⟩) (show gy ≠ w2.heap.size by omega) v)
      have QB := Lib.hid (fun (v : Value) => hb.setCell (p := ⟨w2.heap.size, m, none⟩) hz2 v)
      clear hrx hry hro hb
      rcases hsx : inS l1 m with _ | _ <;> rcases hsy : inS l2 m with _ | _ <;> rw [hsx] at cx <;> rw [hsy] at cy
      · go_wp2_with fail
        go_roundw
        case rel => exact ⟨m + 1, by go_num, hlt, QX.out _, QY.out _, Q.out false (by rw [hsx, hsy]; rfl), QB.out _⟩
        case measure => simp [intOf]; omega
      · go_wp2_with fail
        go_roundw
        case rel => exact ⟨m + 1, by go_num, hlt, QX.out _, QY.out _, Q.out false (by rw [hsx, hsy]; rfl), QB.out _⟩
        case measure => simp [intOf]; omega
      · go_wp2_with fail
        go_roundw
        case rel => exact ⟨m + 1, by go_num, hlt, QX.out _, QY.out _, Q.out true (by rw [hsx, hsy]; rfl), QB.out _⟩
        case measure => simp [intOf]; omega
      · go_wp2_with fail
        go_roundw
        case rel => exact ⟨m + 1, by go_num, hlt, QX.out _, QY.out _, Q.out false (by rw [hsx, hsy]; rfl), QB.out _⟩
        case measure => simp [intOf]; omega
    · obtain rfl : m = 10080 := by omega
      have RZ := Lib.hid (show MinRow wr w2.heap.size (fun m => inS l1 m && !inS l2 m) from hro.same fun i hi => by rw [decide_eq_true (by omega)]; rfl)
      have SP := Lib.hid (rspans_any wr w2.heap.size _ RZ.out)
      clear hrx hry hro hb
      go_wp2_with fail
      refine SP.out.mono ?_
      rintro e w5 ⟨A, c, F, rfl, hs, hn, hb⟩
      have H := Lib.hid (And.intro hs (And.intro (hn.congr fun m => in_range2 (fun x y => x && !y) rfl l1 l2 m) (B.out.trans (hb.mono B.out.size))))
      clear hs hn hb
      go_wp2_with fail
      go_ret
      exact ⟨A, c, F, rfl, H.out⟩

set_option maxRecDepth 100000 in
set_option maxHeartbeats 2000000 in
theorem rlength_any (w : World) (A : Option Addr) (c : Nat) (l : List Spn) (hl : l.length ≤ 100000) (hA : SpAt w w.heap.size A l) :
    Calls Try.prog 19 #[.slice A l.length c] w (OutI w (cntS (inS l) 10080)) := by
  have MI := Lib.hid (minutes_any A c l w hl hA)
  clear hA
  go_enter Try.func19, Try.ntmps19
  go_wp2_with fail
  refine MI.out.mono ?_
  rintro e w1 ⟨g, rfl, hge, hrow, hb⟩
  have R := Lib.hid hrow
  have B1 := Lib.hid hb
  clear hrow hb
  go_wp2_with fail
  go_loop [3, 10] (fun n i => ∃ m : Nat, i = .int .i64 m ∧ m ≤ 10080 ∧ n = .int .i64 (cntS (inS l) m)) (fun _ i => 10080 - (intOf i).toNat)
  case atStart => exact ⟨0, rfl, Nat.zero_le _, rfl⟩
  case round =>
    obtain ⟨m, rfl, hm, rfl⟩ := hrel
    by_cases hlt : m < 10080
    · have cm := R.out.cell (i := m) hlt
      have hc := cnt_in (inS l) m
      have E := Lib.hid (show cntS (inS l) (m + 1) = cntS (inS l) m + if inS l m then 1 else 0 from rfl)
      generalize cntS (inS l) m = q at *
      rcases hs : inS l m with _ | _
      · rw [hs] at cm E
        go_wp2_with fail
        go_round
        case rel => exact ⟨m + 1, by go_num, hlt, val_int (by rw [E.out]; simp)⟩
        case measure => simp [intOf]; omega
      · rw [hs] at cm E
        go_wp2_with fail
        go_round
        case rel => exact ⟨m + 1, by go_num, hlt, val_int (by rw [E.out]; simp)⟩
        case measure => simp [intOf]; omega
    · obtain rfl : m = 10080 := by omega
      generalize cntS (inS l) 10080 = q at *
      go_wp2_with fail
      go_ret
      exact outI rfl B1.out

set_option maxRecDepth 100000 in
set_option maxHeartbeats 2000000 in
theorem slength_any (w : World) (A : Option Addr) (c : Nat) (l : List Spn) (hl : l.length ≤ 100000) (hA : SpAt w w.heap.size A l) :
    Calls Try.prog 18 #[.slice A l.length c] w (OutI w (cntS (inS l) 10080)) := by
  have MI := Lib.hid (snorm_any w A c l hl hA)
  clear hA
  go_enter Try.func18, Try.ntmps18
  go_wp2_with fail
  refine MI.out.mono ?_
  rintro e w1 ⟨A2, c2, F, rfl, hs, hn, hb⟩
  have R := Lib.hid hs
  have N := Lib.hid hn
  have B1 := Lib.hid hb
  have hz1 := hb.size
  clear hs hn hb
  have LF := Lib.hid N.out.len
  go_wp2_with fail
  go_loopw [3, 9] (fun n i wr => ∃ k : Nat, i = .int .i64 k ∧ k ≤ F.length ∧ n = .int .i64 (sumL (F.take k)) ∧ Below w1.heap.size w1 wr) (fun _ i _ => F.length - (intOf i).toNat)
  case atStart => exact ⟨0, rfl, Nat.zero_le _, rfl, Below.refl _ _⟩
  case round =>
    obtain ⟨k, rfl, hk, rfl, hb⟩ := hrel
    have B := Lib.hid hb
    by_cases hlt : k < F.length
    · obtain ⟨b, p, rfl, g1, g2, g3, g4, g5⟩ := (R.out.below hb) k hlt
      have AS := ascS_all N.out.1 F[k] (List.getElem_mem _)
      have E := Lib.hid (show sumL (F.take (k + 1)) = sumL (F.take k) + (F[k].2 - F[k].1) by rw [List.take_succ_eq_append_getElem hlt, sumL_append]; simp [sumL])
      have SB := Lib.hid (sum_bd N.out.1 k)
      generalize F[k].1 = f at *
      generalize F[k].2 = t at *
      obtain ⟨a1, a2, a3⟩ := AS
      have s1 := SB.out.1
      have s2 := SB.out.2
      generalize sumL (F.take k) = q at *
      have hkl : k ≤ 10081 := by have := LF.out; omega
      clear hb
      go_wp2_with fail
      go_roundw
      case rel => exact ⟨k + 1, by go_num, hlt, val_int (by rw [E.out]), B.out.alloc B.out.size _⟩
      case measure => simp [intOf]; omega
    · have E := Lib.hid (show cntS (inS l) 10080 = sumL (F.take k) by rw [List.take_of_length_le (by omega), N.out.sum])
      generalize sumL (F.take k) = q at *
      clear hb
      go_wp2_with fail
      go_ret
      exact outI E.out.symm (B1.out.trans (B.out.mono hz1))
end Go.Proofs.Ytnocbgimfmgdeaa
