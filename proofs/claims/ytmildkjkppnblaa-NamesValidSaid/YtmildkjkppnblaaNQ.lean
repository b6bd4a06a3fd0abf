/- Contracts of Sorted, Index of names and of the reference. -/
import Derived.Test.YtmildkjkppnblaaNJ
import Derived.Test.YtmildkjkppnblaaNQPlain
import Derived.Sort.OwnSorted
import Derived.Lib.RowBridge
set_option linter.unusedVariables false
namespace Go.Proofs.Ytmildkjkppnblaa
open Go.RowKit

theorem strs_enc (l : List Str) : strs l = l.map encStr := rfl
theorem ownsRow_take {w : World} {B : Nat} {e : TypeId} {g cap n : Nat} {xs : List Value} (h : w.ownsRow B e 1 (.slice (some ⟨g, 0, none⟩) n cap) n xs) (k : Nat) (hk : k ≤ n) :
    w.ownsRow B e 1 (.slice (some ⟨g, 0, none⟩) k cap) k (xs.take k) := by
  obtain ⟨h1, h2⟩ := h
  refine ⟨by rw [List.length_take]; omega, ?_⟩
  rcases h2 with ⟨h0, _⟩ | ⟨g', cap', cur, hv, a, b, c, d, f, t⟩
  · cases h0
  · cases hv
    refine .inr ⟨g, cap, cur, rfl, a, b, by omega, d, f, ?_⟩
    rw [← t, List.take_take]
    congr 1; omega
/-- What Sorted hands back. -/
def OutSo (l : List Str) (w : World) (e : Ending) (w' : World) : Prop := ∃ v, e = .returned v ∧ OwnStr w' w.heap.size v l ∧ Below w.heap.size w w'

theorem below_ahead (w : World) (n : Nat) : Below w.heap.size w (Sort.ahead w n) := ⟨rfl, rfl, rfl, Nat.le_refl _, fun _ _ => rfl⟩

set_option maxHeartbeats 1000000 in
theorem sorted_any (v : Value) (l : List Str) (w : World) (hv : StrsAt w v l) (hl : l.length ≤ 100000) :
    Calls Try.prog 18 #[v] w (OutSo (srt l) w) := by
  obtain ⟨A, c, rfl, ha⟩ := hv
  by_cases h0 : 0 < l.length
  · obtain ⟨b, o, rfl, hb0, _⟩ := ha 0 h0
    have C := Lib.hid (Try.slices_Clone_string b o l.length c (l.map bs) w (by simp) (by omega) (fun j hj => by
      have hj' : j < l.length := by simpa using hj
      obtain ⟨b2, o2, hA, _, hc⟩ := ha j hj'
      cases hA
      rw [hc]
      simp [List.getD, hj']))
    have HT := Lib.hid (show ((l.map bs).take l.length).map Value.string = strs l by
      rw [List.take_of_length_le (by simp)]; unfold strs; rw [List.map_map]; rfl)
    clear ha
    have S1 := srt_length l
    have HM := Lib.hid (List.length_mergeSort (le := fun x y => decide (x ≤ y)) l)
    go_enter Try.func18, Try.ntmps18
    go_wp2_with fail
    refine C.out.mono ?_
    rintro e w1 ⟨v', rfl, hown, hne, hb1⟩
    have e := HT.out
    rw [e] at hown
    clear e
    rcases hown.2 with ⟨hnil, _⟩ | ⟨g, cap, cur, rfl, hg, hh, h1, h2, h3, h4⟩
    · exact absurd hnil hne
    have hgl : g < w1.heap.size := (Array.getElem?_eq_some_iff.1 hh).1
    have S2 := Lib.hid (Try.slices_Sort_string g 0 cap l w1 (holds_of_block hh (by have h := h4; rw [Nat.mul_one] at h; exact h)) hgl (by omega))
    have B1 := Lib.hid hb1
    have HH := Lib.hid hh
    have H3 := Lib.hid h3
    clear hb1 hh h3 h4 hne hown
    go_wp2_with fail
    refine S2.out.mono ?_
    rintro e w2 ⟨rfl, n, os, hw2⟩
    have O2 := Lib.hid (show w2.ownsRow w.heap.size 9 1 (.slice (some ⟨g, 0, none⟩) l.length cap) l.length ((l.mergeSort fun x y => decide (x ≤ y)).map encStr) by
      rw [hw2]; exact ownsRow_sorted (by rw [HM.out]) hg HH.out h1 h2 H3.out)
    have B2 := Lib.hid (show Below w.heap.size w w2 by
      rw [hw2]; exact B1.out.grown (grownBy_sorted _) B1.out.size (fun j hj => by cases hj; exact hg))
    clear hw2
    rcases O2.out.2 with ⟨hnil, _⟩ | ⟨g', cap', cur2, hveq, _, hh2, h1', h2', h3', h4'⟩
    · cases hnil
    cases hveq
    have HO := Lib.hid (holds_of_block (ss := l.mergeSort fun x y => decide (x ≤ y)) hh2 (by rw [HM.out]; have h := h4'; rw [Nat.mul_one] at h; exact h))
    have HH2 := Lib.hid hh2
    have H32 := Lib.hid h3'
    have hgl2 : g < w2.heap.size := (Array.getElem?_eq_some_iff.1 hh2).1
    clear hh2 h3' h4'
    have S3 := Try.slices_Compact_string g 0 cap (l.mergeSort fun x y => decide (x ≤ y)) w2 HO.out (by rw [HM.out]; omega) (by rw [HM.out]; omega)
    rw [HM.out] at S3
    have S4 := Lib.hid S3
    clear S3
    go_wp2_with fail
    refine S4.out.mono ?_
    rintro e w3 ⟨rfl, q, hw3⟩
    have hk : (srt l).length ≤ l.length := srt_length l
    have O3 := Lib.hid (show OwnStr w3 w.heap.size (.slice (some ⟨g, 0, none⟩) (srt l).length cap) (srt l) by
      rw [hw3, ← Sort.grow_empty (Sort.putRow encStr (Sort.ahead w2 q) g 0 _)]
      have hlen : (Lib.compact (l.mergeSort fun x y => decide (x ≤ y)) ++ List.replicate (l.length - (Lib.compact (l.mergeSort fun x y => decide (x ≤ y))).length) []).length = l.length := by
        rw [List.length_append, List.length_replicate]
        show (srt l).length + (l.length - (srt l).length) = _
        omega
      have := ownsRow_take (ownsRow_sorted (ss := l) (os := #[]) (n := q) hlen hg HH2.out h1' h2' H32.out) (srt l).length hk
      rw [List.map_append, List.take_left' (by rw [List.length_map]; rfl)] at this
      exact this)
    have B3 := Lib.hid (show Below w.heap.size w w3 by
      rw [hw3, ← Sort.grow_empty (Sort.putRow encStr (Sort.ahead w2 q) g 0 _)]
      exact B2.out.grown (grownBy_sorted _) B2.out.size (fun j hj => by cases hj; exact hg))
    clear hw3
    go_wp2_with fail
    go_ret
    exact ⟨_, rfl, O3.out, B3.out⟩
  · obtain rfl : l = [] := List.eq_nil_of_length_eq_zero (by omega)
    have E := Lib.hid (show srt [] = [] from List.eq_nil_of_length_eq_zero (Nat.le_zero.1 (srt_length [])))
    rw [E.out]
    clear ha h0
    rcases A with _ | a
    · have C := Lib.hid (Try.slices_Clone_string_nil 0 c w)
      have S2 := Lib.hid (Try.slices_Sort_string_none none 0 w)
      have S3 := Lib.hid (Try.slices_Compact_string_empty none 0 w)
      go_enter Try.func18, Try.ntmps18
      go_wp2_with fail
      refine C.out.mono ?_
      rintro e w1 ⟨rfl, rfl⟩
      go_wp2_with fail
      refine S2.out.mono ?_
      rintro e w2 ⟨rfl, rfl⟩
      go_wp2_with fail
      refine S3.out.mono ?_
      rintro e w3 ⟨rfl, rfl⟩
      go_wp2_with fail
      go_ret
      exact ⟨_, rfl, World.ownsRow_nil _ _ _ _, Below.refl _ _⟩
    · have C := Lib.hid (Try.slices_Clone_string_zero a c w)
      go_enter Try.func18, Try.ntmps18
      go_wp2_with fail
      refine C.out.mono ?_
      rintro e w1 ⟨v', rfl, hown, hne, hb1⟩
      have HO := Lib.hid hown
      have B1 := Lib.hid hb1
      rcases hown.2 with ⟨hnil, _⟩ | ⟨g, cap, cur, rfl, hg, hh, h1, h2, h3, h4⟩
      · exact absurd hnil hne
      have S2 := Lib.hid (Try.slices_Sort_string_none (some ⟨g, 0, none⟩) cap w1)
      have S3 := Lib.hid (Try.slices_Compact_string_empty (some ⟨g, 0, none⟩) cap w1)
      clear hown hne hb1 hh h3 h4
      go_wp2_with fail
      refine S2.out.mono ?_
      rintro e w2 ⟨rfl, rfl⟩
      go_wp2_with fail
      refine S3.out.mono ?_
      rintro e w3 ⟨rfl, rfl⟩
      go_wp2_with fail
      go_ret
      exact ⟨_, rfl, HO.out, B1.out⟩

theorem idx_eq (l : List Str) (x : Str) : Lib.idxOfS (l.map bs) (bs x) = ix l x := by
  have gen : ∀ (l : List Str) (i : Nat), Lib.idxFromS (l.map bs) (bs x) i = ixF l x i := by
    intro l
    induction l with
    | nil => intro i; rfl
    | cons z l ih =>
      intro i
      show (if bs z = bs x then (i : Int) else Lib.idxFromS (l.map bs) (bs x) (i + 1)) = _
      by_cases h : z = x
      · rw [ixF_hit z l x i h, if_pos (by rw [h])]
      · rw [ixF_next z l x i h, if_neg (fun e => h (bs_inj e)), ih]
  exact gen l 0

set_option maxHeartbeats 1000000 in
theorem index_str (v : Value) (l : List Str) (x : Str) (w : World) (hv : StrsAt w v l) (hl : l.length ≤ 100000) :
    Calls Try.prog 15 #[v, .string (bs x)] w fun e w' => e = .returned (.int .i64 (ix l x)) ∧ w = w' := by
  obtain ⟨A, c, rfl, ha⟩ := hv
  by_cases h0 : 0 < l.length
  · obtain ⟨b, o, rfl, hb0, _⟩ := ha 0 h0
    have C := Lib.hid (Try.slices_Index_string b o l.length c (l.map bs) (bs x) w (by simp) (by omega) (fun j hj => by
      have hj' : j < l.length := by simpa using hj
      obtain ⟨b2, o2, hA, _, hc⟩ := ha j hj'
      cases hA
      rw [hc]
      simp [List.getD, hj']))
    have E := Lib.hid (show Lib.idxOfS ((l.map bs).take l.length) (bs x) = ix l x by
      rw [List.take_of_length_le (by simp)]; exact idx_eq l x)
    clear ha
    go_enter Try.func15, Try.ntmps15
    go_wp2_with fail
    refine C.out.mono ?_
    rintro e w1 ⟨rfl, rfl⟩
    go_wp2_with fail
    go_ret
    exact ⟨ret_int E.out, rfl⟩
  · obtain rfl : l = [] := List.eq_nil_of_length_eq_zero (by omega)
    have C := Lib.hid (Try.slices_Index_string_empty A c (bs x) w)
    clear ha
    go_enter Try.func15, Try.ntmps15
    go_wp2_with fail
    refine C.out.mono ?_
    rintro e w1 ⟨rfl, rfl⟩
    go_wp2_with fail
    go_ret
    exact ⟨ret_int rfl, rfl⟩

theorem drop_at (l : List Str) (k : Nat) (h : k < l.length) : l.drop k = l[k] :: l.drop (k + 1) := List.drop_eq_getElem_cons h

set_option maxHeartbeats 1000000 in
theorem rindex_any (v : Value) (l : List Str) (x : Str) (w : World) (hv : StrsAt w v l) (hl : l.length ≤ 100000) :
    Calls Try.prog 16 #[v, .string (bs x)] w fun e w' => e = .returned (.int .i64 (ix l x)) ∧ w = w' := by
  obtain ⟨A, c, rfl, ha⟩ := hv
  have HA := Lib.hid ha
  clear ha
  go_enter Try.func16, Try.ntmps16
  go_wp2_with fail
  go_loop [5] (fun i => ∃ k : Nat, i = .int .i64 k ∧ k ≤ l.length ∧ ix l x = ixF (l.drop k) x k) (fun i => l.length - (intOf i).toNat)
  case atStart => exact ⟨0, rfl, Nat.zero_le _, rfl⟩
  case round =>
    obtain ⟨k, rfl, hk, he⟩ := hrel
    by_cases hlt : k < l.length
    · obtain ⟨b, o, rfl, g1, e1⟩ := HA.out k hlt
      rw [drop_at l k hlt] at he
      by_cases hx : l[k] = x
      · have t1 := str_test l[k] x true (decide_eq_true hx)
        have R := Lib.hid (he.trans (ixF_hit _ _ _ _ hx))
        generalize l[k] = z at *
        clear he hx
        go_wp2_with fail
        go_ret
        exact ⟨ret_int (by rw [R.out]), rfl⟩
      · have t1 := str_test l[k] x false (decide_eq_false hx)
        have R := Lib.hid (he.trans (ixF_next _ _ _ _ hx))
        generalize l[k] = z at *
        clear he hx
        go_wp2_with fail
        go_round
        case rel => exact ⟨k + 1, by go_num, hlt, R.out⟩
        case measure => simp [intOf]; omega
    · have R := Lib.hid (show ix l x = -1 by rw [he, List.drop_of_length_le (by omega)]; rfl)
      clear he
      go_wp2_with fail
      go_ret
      exact ⟨ret_int (by rw [R.out]), rfl⟩
end Go.Proofs.Ytmildkjkppnblaa
