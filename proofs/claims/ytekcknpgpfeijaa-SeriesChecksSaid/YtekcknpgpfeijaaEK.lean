/- Contracts of the laws' lives and small. -/
import Derived.Test.YtekcknpgpfeijaaEI
set_option linter.unusedVariables false
namespace Go.Proofs.Ytekcknpgpfeijaa.Series
open Go.RowKit Go.Shelf

theorem lit_ns (w : World) (l : List Int) (cs : Array Value) (T : TypeId) (hc : cs = (l.map (Value.int .i64)).toArray) : NsAt (w.alloc (.cells cs T)) (w.alloc (.cells cs T)).heap.size (some ⟨w.heap.size, 0, none⟩) l := fun i hi => by
  subst hc
  refine ⟨_, _, rfl, by simp, ?_⟩
  rw [Nat.zero_add]
  exact blk_cell (blk_new w _) i (by simp [hi])
theorem lit_pt (w : World) (a b c d : Int) (T : TypeId) : PtAt (w.alloc (.cells #[.int .i64 a, .int .i64 b, .int .i64 c, .int .i64 d] T)) (w.alloc (.cells #[.int .i64 a, .int .i64 b, .int .i64 c, .int .i64 d] T)).heap.size (some ⟨w.heap.size, 0, none⟩) [(a, b), (c, d)] := fun i hi => by
  match i, hi with
  | 0, _ => exact ⟨_, _, rfl, by simp, blk_cell (blk_new w _) 0 rfl, blk_cell (blk_new w _) 1 rfl⟩
  | 1, _ => exact ⟨_, _, rfl, by simp, blk_cell (blk_new w _) 2 rfl, blk_cell (blk_new w _) 3 rfl⟩
theorem ex_asc : Asc [(1, 7), (3, 9)] := fun i hi => by
  match i, hi with
  | 0, _ => decide
theorem ex_hoE : hoE [(1, 7), (3, 9)] 5 = 0 := hoE_ok (by simp) ex_asc
theorem ex_hoR : hoR [(1, 7), (3, 9)] 5 = [0, 7, 7, 9, 9] := by unfold hoR; rw [if_pos ex_hoE]; decide
theorem ex_sum : sat (psum (rd [1, 2, 3, 4]) 1 3) = 5 := by decide
theorem ex_grp : (if (2 : Int) < 1 then [] else grp (rd [1, 2, 3, 4, 5]) (2 : Int).toNat) = [3, 7, 5] := by decide
theorem ex_pk : pk (rd [1, 5, 5]) (rd [1, 5, 5]).length = 1 := by decide

theorem hold_ex (w : World) : Calls Try.prog 23 #[.slice (some ⟨w.heap.size, 0, none⟩) 2 2, .int .i64 5] (w.alloc (.cells #[.int .i64 1, .int .i64 7, .int .i64 3, .int .i64 9] 23)) (OutP (w.alloc (.cells #[.int .i64 1, .int .i64 7, .int .i64 3, .int .i64 9] 23)) 0 [0, 7, 7, 9, 9]) := by
  have h := shold_any (some ⟨w.heap.size, 0, none⟩) 2 [(1, 7), (3, 9)] 5 (w.alloc (.cells #[.int .i64 1, .int .i64 7, .int .i64 3, .int .i64 9] 23)) (by simp) (lit_pt w 1 7 3 9 _)
  rw [ex_hoE, ex_hoR] at h
  exact h
theorem same_ex1 (w : World) (A : Option Addr) (c : Nat) (h : NsAt w w.heap.size A [0, 7, 7, 9, 9]) : Calls Try.prog 18 #[.slice A 5 c, .slice (some ⟨w.heap.size, 0, none⟩) 5 5] (w.alloc (.cells #[.int .i64 0, .int .i64 7, .int .i64 7, .int .i64 9, .int .i64 9] 3)) (OutB (w.alloc (.cells #[.int .i64 0, .int .i64 7, .int .i64 7, .int .i64 9, .int .i64 9] 3)) true) :=
  same_any A (some ⟨w.heap.size, 0, none⟩) c 5 [0, 7, 7, 9, 9] (w.alloc (.cells #[.int .i64 0, .int .i64 7, .int .i64 7, .int .i64 9, .int .i64 9] 3)) (by simp) (h.next (alloc_below _ _)) (lit_ns w [0, 7, 7, 9, 9] #[.int .i64 0, .int .i64 7, .int .i64 7, .int .i64 9, .int .i64 9] 3 rfl)
theorem same_ex2 (w : World) (A : Option Addr) (c : Nat) (h : NsAt w w.heap.size A [3, 7, 5]) : Calls Try.prog 18 #[.slice A 3 c, .slice (some ⟨w.heap.size, 0, none⟩) 3 3] (w.alloc (.cells #[.int .i64 3, .int .i64 7, .int .i64 5] 3)) (OutB (w.alloc (.cells #[.int .i64 3, .int .i64 7, .int .i64 5] 3)) true) :=
  same_any A (some ⟨w.heap.size, 0, none⟩) c 3 [3, 7, 5] (w.alloc (.cells #[.int .i64 3, .int .i64 7, .int .i64 5] 3)) (by simp) (h.next (alloc_below _ _)) (lit_ns w [3, 7, 5] #[.int .i64 3, .int .i64 7, .int .i64 5] 3 rfl)
theorem sum_ex (w : World) : Calls Try.prog 16 #[.slice (some ⟨w.heap.size, 0, none⟩) 4 4, .int .i64 1, .int .i64 3] (w.alloc (.cells #[.int .i64 1, .int .i64 2, .int .i64 3, .int .i64 4] 3)) fun e w' => e = .returned (.int .i64 5) ∧ (w.alloc (.cells #[.int .i64 1, .int .i64 2, .int .i64 3, .int .i64 4] 3)) = w' := by
  have h := sum_any (some ⟨w.heap.size, 0, none⟩) 4 [1, 2, 3, 4] 1 3 (w.alloc (.cells #[.int .i64 1, .int .i64 2, .int .i64 3, .int .i64 4] 3)) (by simp) (by unfold I64; omega) (by unfold I64; omega) (lit_ns w [1, 2, 3, 4] #[.int .i64 1, .int .i64 2, .int .i64 3, .int .i64 4] 3 rfl)
  rw [ex_sum] at h
  exact h
theorem res_ex (w : World) : Calls Try.prog 25 #[.slice (some ⟨w.heap.size, 0, none⟩) 5 5, .int .i64 2] (w.alloc (.cells #[.int .i64 1, .int .i64 2, .int .i64 3, .int .i64 4, .int .i64 5] 3)) (OutL (w.alloc (.cells #[.int .i64 1, .int .i64 2, .int .i64 3, .int .i64 4, .int .i64 5] 3)) [3, 7, 5]) := by
  have h := sres_any (some ⟨w.heap.size, 0, none⟩) 5 [1, 2, 3, 4, 5] 2 (w.alloc (.cells #[.int .i64 1, .int .i64 2, .int .i64 3, .int .i64 4, .int .i64 5] 3)) (by simp) (by unfold I64; omega) (by simp) (fun h => by cases h) (lit_ns w [1, 2, 3, 4, 5] #[.int .i64 1, .int .i64 2, .int .i64 3, .int .i64 4, .int .i64 5] 3 rfl)
  rw [ex_grp] at h
  exact h
theorem peak_ex (w : World) : Calls Try.prog 27 #[.slice (some ⟨w.heap.size, 0, none⟩) 3 3] (w.alloc (.cells #[.int .i64 1, .int .i64 5, .int .i64 5] 3)) fun e w' => e = .returned (.int .i64 1) ∧ (w.alloc (.cells #[.int .i64 1, .int .i64 5, .int .i64 5] 3)) = w' := by
  have h := speak_any (some ⟨w.heap.size, 0, none⟩) 3 [1, 5, 5] (w.alloc (.cells #[.int .i64 1, .int .i64 5, .int .i64 5] 3)) (by simp) (lit_ns w [1, 5, 5] #[.int .i64 1, .int .i64 5, .int .i64 5] 3 rfl)
  rw [ex_pk] at h
  exact h

set_option maxRecDepth 100000 in
set_option maxHeartbeats 2000000 in
theorem lives_any (w : World) : Calls Try.prog 13 #[] w (OutB w true) := by
  go_enter Try.func13, Try.ntmps13
  go_wp2_with fail
  refine (hold_ex w).mono ?_
  rintro e w1 ⟨A1, c1, rfl, hs, hb⟩
  have B1 := Lib.hid ((alloc_below w _).trans (hb.mono (by simp)))
  have S1 := Lib.hid hs
  clear hs hb
  go_wp2_with fail
  refine (same_ex1 w1 A1 c1 S1.out).mono ?_
  rintro e w2 ⟨rfl, hb⟩
  have B2 := Lib.hid (B1.out.trans (((alloc_below w1 _).trans (hb.mono (by simp))).mono B1.out.size))
  clear hb S1
  go_wp2_with fail
  refine (sum_ex w2).mono ?_
  rintro e w3 ⟨rfl, hw3⟩
  have B3 := Lib.hid (show Below w.heap.size w w3 by rw [← hw3]; exact B2.out.alloc B2.out.size _)
  clear hw3
  go_wp2_with fail
  refine (res_ex w3).mono ?_
  rintro e w4 ⟨A4, c4, rfl, hs, hb⟩
  have B4 := Lib.hid (B3.out.trans (((alloc_below w3 _).trans (hb.mono (by simp))).mono B3.out.size))
  have S4 := Lib.hid hs
  clear hs hb
  go_wp2_with fail
  refine (same_ex2 w4 A4 c4 S4.out).mono ?_
  rintro e w5 ⟨rfl, hb⟩
  have B5 := Lib.hid (B4.out.trans (((alloc_below w4 _).trans (hb.mono (by simp))).mono B4.out.size))
  clear hb S4
  go_wp2_with fail
  refine (peak_ex w5).mono ?_
  rintro e w6 ⟨rfl, hw6⟩
  have B6 := Lib.hid (show Below w.heap.size w w6 by rw [← hw6]; exact B5.out.alloc B5.out.size _)
  clear hw6
  go_wp2_with fail
  go_ret
  exact outB rfl B6.out

/-- What small answers. -/
def OutSm (w : World) (l : List Int) (e : Ending) (w' : World) : Prop := ∃ b, e = .returned (.bool b) ∧ (b = true ↔ Sml l) ∧ w = w'
theorem outSm_no {w : World} {l : List Int} (h : ¬ Sml l) : OutSm w l (.returned (.bool false)) w := ⟨false, rfl, ⟨fun e => (by cases e), fun e => absurd e h⟩, rfl⟩
theorem outSm_yes {w : World} {l : List Int} (h : Sml l) : OutSm w l (.returned (.bool true)) w := ⟨true, rfl, ⟨fun _ => h, fun _ => rfl⟩, rfl⟩

set_option maxRecDepth 100000 in
set_option maxHeartbeats 1000000 in
theorem small_any (A : Option Addr) (c : Nat) (l : List Int) (w : World) (hl : l.length ≤ 9223372036854775807) (hA : NsAt w w.heap.size A l) :
    Calls Try.prog 31 #[.slice A l.length c] w (OutSm w l) := by
  have HA := Lib.hid hA
  clear hA
  by_cases h96 : l.length ≤ 96
  · have d1 := dt (show (l.length : Int) ≤ 96 by omega)
    go_enter Try.func31, Try.ntmps31
    go_wp2_with fail
    go_loop [3] (fun i => ∃ k : Nat, i = .int .i64 (k : Int) ∧ k ≤ l.length ∧ ∀ x ∈ l.take k, -1073741824 ≤ x ∧ x ≤ 1073741824) (fun i => l.length - (intOf i).toNat)
    case atStart => exact ⟨0, rfl, Nat.zero_le _, by simp⟩
    case round =>
      obtain ⟨k, rfl, hk, hall⟩ := hrel
      have HL := Lib.hid hall
      clear hall
      by_cases hlt : k < l.length
      · obtain ⟨b, p, rfl, g1, g2⟩ := HA.out k hlt
        by_cases g3 : l[k] < -1073741824
        · have N := Lib.hid (show ¬ Sml l from fun h => by have := h.1 l[k] (List.getElem_mem _); omega)
          generalize l[k] = x at *
          have d2 := dt g3
          go_wp2_with fail
          go_ret
          exact outSm_no N.out
        · have d2 := df g3
          by_cases g4 : 1073741824 < l[k]
          · have N := Lib.hid (show ¬ Sml l from fun h => by have := h.1 l[k] (List.getElem_mem _); omega)
            generalize l[k] = x at *
            have d3 := dt g4
            go_wp2_with fail
            go_ret
            exact outSm_no N.out
          · have HS := Lib.hid (show ∀ x ∈ l.take (k + 1), -1073741824 ≤ x ∧ x ≤ 1073741824 by
              rw [List.take_succ_eq_append_getElem hlt]
              intro x hx
              rcases List.mem_append.1 hx with h | h
              · exact HL.out x h
              · obtain rfl := List.mem_singleton.1 h; omega)
            have d3 := df g4
            generalize l[k] = x at *
            go_wp2_with fail
            go_round
            case rel => exact ⟨k + 1, by go_num, hlt, HS.out⟩
            case measure => simp [intOf]; omega
      · have Y := Lib.hid (show Sml l from ⟨by have := HL.out; rwa [List.take_of_length_le (by omega)] at this, h96⟩)
        go_wp2_with fail
        go_ret
        exact outSm_yes Y.out
  · have d1 := df (show ¬ (l.length : Int) ≤ 96 by omega)
    have N := Lib.hid (show ¬ Sml l from fun h => h96 h.2)
    go_enter Try.func31, Try.ntmps31
    go_wp2_with fail
    go_loop [3] (fun i => i = .int .i64 0) (fun _ => 0)
    case atStart => exact rfl
    case round =>
      subst hrel
      go_wp2_with fail
      go_ret
      exact outSm_no N.out
end Go.Proofs.Ytekcknpgpfeijaa.Series
