/- Contract of Best. -/
import Derived.Test.YthfkmmgckiijcaaLK
set_option linter.unusedVariables false
namespace Go.Proofs.Ythfkmmgckiijcaa.Lnk
open Go.RowKit

theorem take_one {α : Type} (l : List α) (k : Nat) (h : k < l.length) : l.take (k + 1) = l.take k ++ [l[k]] := List.take_succ_eq_append_getElem h
/-- The neighbors of entries with a cost. -/
def nbs (l : List Lk) : List Int := (l.filter fun x => decide (cst x ≠ 255)).map Prod.fst
theorem nbs_yes (l : List Lk) (k : Nat) (h : k < l.length) (hc : cst l[k] ≠ 255) : nbs (l.take (k + 1)) = nbs (l.take k) ++ [l[k].1] := by
  unfold nbs; rw [take_one l k h, List.filter_append, List.map_append]
  simp [hc]
theorem nbs_no (l : List Lk) (k : Nat) (h : k < l.length) (hc : cst l[k] = 255) : nbs (l.take (k + 1)) = nbs (l.take k) := by
  unfold nbs; rw [take_one l k h, List.filter_append, List.map_append]
  simp [hc]
theorem nbs_len (l : List Lk) : (nbs l).length ≤ l.length := by unfold nbs; rw [List.length_map]; exact List.length_filter_le _ _
theorem cost_mem {l : List Lk} {x : Lk} (h : x ∈ vl l) : cost l x.1 = cst x := by unfold cost; rw [ent_of (vl_val l).2.2 h]
theorem nbs_best {l sl : List Lk} (hp : sl.Perm (vl l)) (hs : Srt sl) : nbs sl = bst l := by
  refine best_one (l := l) ⟨fun n => ?_, ?_⟩ (bst_is l)
  · unfold nbs nodes
    simp only [List.mem_map, List.mem_filter, decide_eq_true_eq]
    constructor
    · rintro ⟨x, ⟨h1, h2⟩, rfl⟩
      have h3 := hp.mem_iff.1 h1
      exact ⟨⟨x, h3, rfl⟩, by rw [cost_mem h3]; exact h2⟩
    · rintro ⟨⟨x, h1, rfl⟩, h2⟩
      exact ⟨x, ⟨hp.mem_iff.2 h1, by rw [cost_mem h1] at h2; exact h2⟩, rfl⟩
  · unfold nbs
    rw [List.pairwise_map]
    refine List.Pairwise.filter _ ?_
    have hm : ∀ x ∈ sl, x ∈ vl l := fun x hx => hp.mem_iff.1 hx
    exact List.Pairwise.imp_of_mem (fun {x y} hx hy hxy => by
      unfold Bef
      rw [cost_mem (hm x hx), cost_mem (hm y hy)]
      exact hxy) hs

set_option maxRecDepth 100000 in
set_option maxHeartbeats 2000000 in
theorem lbest_any (A : Option Addr) (c : Nat) (l : List Lk) (w : World) (hl : l.length ≤ 9223372036854775807) (hc : l.length ≤ c) (hc0 : A = none → c = 0) (hA : LkAt w w.heap.size A l) :
    Calls Try.prog 22 #[.slice A l.length c] w (OutF fI w (bst l)) := by
  have K1 := Lib.hid (lvalid_any A c l w hl hc hc0 hA)
  have V24 := vl_len l
  have VV := Lib.hid (vl_val l)
  have NB := Lib.hid (fun sl => nbs_best (l := l) (sl := sl))
  clear hA hc hc0 hl
  generalize vl l = v at *
  generalize bst l = bb at *
  go_enter Try.func22, Try.ntmps22
  go_wp2_with fail
  refine K1.out.mono ?_
  rintro _ w1 ⟨A1, c1, rfl, hA1, _, _, hb⟩
  have B1 := Lib.hid hb
  have HA1 := Lib.hid hA1
  have hz1 := hb.size
  clear hb hA1 K1
  go_wp2_with fail
  refine (lclone_any A1 c1 v _ (by omega) HA1.out).mono ?_
  rintro _ w2 ⟨x, rfl, hx, hb⟩
  have B2 := Lib.hid (B1.out.trans (hb.mono hz1))
  have X2 := Lib.hid hx
  have hz2 := hb.size
  clear hb hx HA1 B1
  go_wp2_with fail
  refine (lsort_any w1.heap.size x v _ VV.out X2.out hz2).mono ?_
  rintro _ w3 ⟨rfl, sl, A3, c3, rfl, hp, hs, hA3, hb⟩
  have B3 := Lib.hid (B2.out.trans (hb.mono hz1))
  have hz3 := B3.out.size
  have HA3 := Lib.hid hA3
  have SL := Lib.hid (NB.out sl hp hs)
  have OK := Lib.hid (show ∀ y ∈ sl, Ok1 y from fun y hy => VV.out.2.1 y (hp.mem_iff.1 hy))
  have hn1 : sl.length ≤ 24 := by have := hp.length_eq; omega
  have hn2 : ∀ k, (nbs (sl.take k)).length ≤ 24 := fun k => by have := nbs_len (sl.take k); rw [List.length_take] at this; omega
  have HN := Lib.hid hn2
  clear hb hA3 hp hs NB X2 VV B2 hn2
  go_wp2_with fail
  go_loopw [4, 14] (fun v4 i wr => ∃ k : Nat, i = .int .i64 k ∧ k ≤ sl.length ∧ OwnF fI 3 wr w3.heap.size v4 (nbs (sl.take k)) ∧ Below w3.heap.size w3 wr) (fun _ i _ => sl.length - (intOf i).toNat)
  case atStart => exact ⟨0, rfl, Nat.zero_le _, OwnF.nil _ _, Below.refl _ _⟩
  case round =>
    obtain ⟨k, rfl, hk, ho, hb⟩ := hrel
    have B := Lib.hid hb
    have hz := hb.size
    have O := Lib.hid ho
    by_cases hlt : k < sl.length
    · obtain ⟨b, p, rfl, hbw, g0, g1, g2, g3, g4, g5⟩ := lk_cell (HA3.out.below hb) k hlt
      have KC := Lib.hid (fun w => (show Calls Try.prog 35 #[.agg #[.int .i64 sl[k].1, .int .i64 sl[k].2.1, .int .i64 sl[k].2.2]] w (OutI w (cst sl[k])) from (lcostOf_any sl[k] (OK.out _ (List.getElem_mem hlt)) w).mono fun _ _ h => outG_I h))
      have NY := Lib.hid (nbs_yes sl k hlt)
      have NN := Lib.hid (nbs_no sl k hlt)
      clear hb ho
      have h255 : cst sl[k] = 255 ∨ cst sl[k] ≠ 255 := by omega
      generalize cst sl[k] = q at *
      generalize sl[k].1 = n at *
      generalize sl[k].2.1 = bt at *
      generalize sl[k].2.2 = ct at *
      rcases h255 with h255 | h255
      · have d1 : (q != 255) = false := by simpa using h255
        have R := Lib.hid (NN.out h255)
        clear NN NY h255
        go_wp2_with fail
        refine (KC.out _).mono ?_
        rintro _ w4 ⟨rfl, hb⟩
        have B4 := Lib.hid (B.out.trans ((box_below hb).mono hz))
        have O4 := Lib.hid (show OwnF fI 3 w4 w3.heap.size _ (nbs (sl.take (k + 1))) by rw [R.out]; exact O.out.below (box_below hb))
        clear hb
        go_wp2_with fail
        go_roundw
        case rel => exact ⟨k + 1, by go_num, hlt, O4.out, B4.out⟩
        case measure => simp [intOf]; omega
      · have d1 : (q != 255) = true := by simpa using h255
        have R := Lib.hid (NY.out h255)
        clear NN NY h255
        go_wp2_with fail
        refine (KC.out _).mono ?_
        rintro _ w4 ⟨rfl, hb⟩
        have B4 := Lib.hid (B.out.trans ((box_below hb).mono hz))
        have hz4 := B4.out.size
        have c0 := box_at hb 0 (v := .int .i64 n) rfl
        obtain ⟨v', w', hap, ho', hbb⟩ := (O.out.below (box_below hb)).one eInt 33 n #[.int .i64 n] rfl g3 (by have := HN.out k; omega) hz4
        have O5 := Lib.hid (show OwnF fI 3 w' w3.heap.size v' (nbs (sl.take (k + 1))) by rw [R.out]; exact ho')
        have B5 := Lib.hid (B4.out.trans hbb)
        clear hb ho' hbb
        go_wp2_with (at_builtin; refine Lib.wpList_append_run _ rfl _ _ _ _ rfl _ _ rfl rfl _ _ hap ?_)
        go_roundw
        case rel => exact ⟨k + 1, by go_num, hlt, O5.out, B5.out⟩
        case measure => simp [intOf]; omega
    · have R := Lib.hid (show bb = nbs (sl.take k) by rw [show k = sl.length by omega, List.take_length]; exact SL.out.symm)
      clear hb ho
      go_wp2_with fail
      go_ret
      exact outF_own R.out O.out (B3.out.trans (B.out.mono hz3))
end Go.Proofs.Ythfkmmgckiijcaa.Lnk
