/- Contracts of slices.Grow and slices.Concat at rows of turns. -/
import Derived.Test.YtnocbgimfmgdeaaSD
set_option linter.unusedVariables false
namespace Go.Proofs.Ytnocbgimfmgdeaa
open Go.RowKit

set_option maxRecDepth 100000 in
set_option maxHeartbeats 4000000 in
theorem sgrow_any (n : Nat) (w : World) (hn : n ≤ 1000000) :
    Calls Try.prog 50 #[.slice none 0 0, .int .i64 n] w (OutTr w []) := by
  obtain ⟨i0, hi0, hz0, hs0, hb0⟩ := info_turn
  by_cases h0 : n = 0
  · subst h0
    go_enter Try.func50, Try.ntmps50
    go_wp2_with fail
    go_ret
    exact outTr rfl (World.ownsRow_nil _ _ _ _) (Below.refl _ _)
  have hrz : ∀ ty, (Builtin.append_ #[49, 3] ty #[.slice none 0 0, .int .i64 (n : Int)]).run Try.prog w =
      .ok (.slice (some ⟨w.heap.size, 0, none⟩) n (grownCap w n 0 52)) (w.drew.alloc (.cells (#[] ++ Builtin.zeroCells (Value.agg #[.int .i64 0, .int .i64 0, .int .i64 0]).cells n ++ Builtin.zeroCells (Value.agg #[.int .i64 0, .int .i64 0, .int .i64 0]).cells (grownCap w n 0 52 - n)) 52)) := fun ty => by
    have h := Lib.run_append_grow_zeros w 49 3 ty 52 i0 _ .i64 .i64 Try.underlying49 Try.underlying3 hi0 hz0 none 0 0 [] (by rw [hs0]; exact run_firstCells_none w.drew 3 0 0 0) n (by omega) (by omega) (by omega) (by omega)
      (by rw [hb0]; omega) (by rw [Nat.zero_add]; exact growslice_fits (by omega) (by rw [hb0]; omega))
    rw [Nat.zero_add] at h
    exact h
  have hG : n ≤ grownCap w n 0 52 := grownCap_ge w _ _ _
  have hG2 : grownCap w n 0 52 ≤ maxLen := grownCap_le_maxLen w n 0 _ (by unfold maxLen; omega)
  obtain ⟨G, hGG⟩ : ∃ G, G = grownCap w n 0 52 := ⟨_, rfl⟩
  rw [← hGG] at hrz hG hG2
  have X := Lib.hid (show OwnT (w.alloc (.cells (Builtin.zeroCells #[.int .i64 0, .int .i64 0, .int .i64 0] n ++ Builtin.zeroCells #[.int .i64 0, .int .i64 0, .int .i64 0] (G - n)) 52)).drew w.heap.size (.slice (some ⟨w.heap.size, 0, none⟩) 0 G) [] from by
    refine World.ownsRow_made w _ G (Nat.le_refl _) hG2 ?_
    simp only [Array.size_append, size_zeroCells]
    simp
    omega)
  have hG3 : G ≤ 9223372036854775807 := by unfold maxLen at hG2; omega
  have h0' : 0 < n := by omega
  clear hGG hi0 hz0 hs0 hb0 hG2 h0
  go_enter Try.func50, Try.ntmps50
  go_wp2_with (at_builtin; refine Lib.wpList_append_run _ rfl _ _ _ _ rfl _ _ rfl rfl _ _ (hrz _) ?_)
  go_ret
  exact ⟨_, rfl, X.out, (alloc_below _ _).drew⟩

theorem own_turns {w : World} {B : Nat} {v : Value} {l : List Trn} (h : OwnT w B v l) : (v = .slice none 0 0 ∧ l = []) ∨ ∃ g cap, v = .slice (some ⟨g, 0, none⟩) l.length cap ∧ B ≤ g ∧ g < w.heap.size ∧ ∀ j u, (flT l)[j]? = some u → w.cell? ((⟨g, 0, none⟩ : Addr).add j) = some u := by
  rcases h.2 with ⟨h1, h2⟩ | ⟨g, cap, cur, h1, h2, h3, _⟩
  · exact Or.inl ⟨h1, List.eq_nil_of_length_eq_zero h2⟩
  · exact Or.inr ⟨g, cap, h1, h2, (Array.getElem?_eq_some_iff.1 h3).1, fun j u hu => h.cells (by rw [h1]; rfl) j u hu⟩
theorem own_form {w : World} {B : Nat} {v : Value} {l : List Trn} (h : OwnT w B v l) : ∃ A c, v = .slice A l.length c := by
  rcases own_turns h with ⟨h1, h2⟩ | ⟨g, cap, h1, _⟩
  · exact ⟨none, 0, by rw [h1, h2]; rfl⟩
  · exact ⟨_, _, h1⟩
theorem app_turns {w : World} {B C : Nat} {v x : Value} {a l : List Trn} (ty : TypeId) (hv : OwnT w B v a) (hx : OwnT w C x l) (hn : a.length + l.length ≤ 1000000) (hB : B ≤ w.heap.size) :
    ∃ v' w', (Builtin.append_ #[49, 49] ty #[v, x]).run Try.prog w = .ok v' w' ∧ OwnT w' B v' (a ++ l) ∧ Below B w w' := by
  obtain ⟨i0, hi0, hz0, hs0, hb0⟩ := info_turn
  rcases own_turns hx with ⟨rfl, rfl⟩ | ⟨g, cap, rfl, h2, h3, h4⟩
  · exact ⟨v, w, run_append_owned_none w B _ ty _ i0 3 Try.underlying49 hi0 v _ _ hv, by rw [List.append_nil]; exact hv, Below.refl _ _⟩
  · obtain ⟨v', w', h5, h6, h7, _⟩ := run_append_own (P := Try.prog) w B 49 ty 52 i0 _ 3 24 Try.underlying49 hi0 hz0 hs0 hb0 rfl (by decide) v _ _ hv ⟨g, 0, none⟩ l.length cap (flT l) (flT_length l) h4 (flT_one l) (by unfold maxLen; omega) (by omega) hB
    refine ⟨v', w', h5, ?_, ⟨h7.os, h7.tape, h7.output, h7.size, fun k hk => h7.block k (by omega) fun e => ?_⟩⟩
    · unfold OwnT; rw [flT_append, List.length_append]; exact h6
    · have := (hv.lt k e.symm).1; omega

set_option maxRecDepth 100000 in
set_option maxHeartbeats 4000000 in
theorem sconcat_any (b B0 B1 : Nat) (v0 v1 : Value) (l0 l1 : List Trn) (w : World) (hb : b < w.heap.size) (h0 : w.cell? ⟨b, 0, none⟩ = some v0) (h1 : w.cell? ⟨b, 1, none⟩ = some v1) (o0 : OwnT w B0 v0 l0) (o1 : OwnT w B1 v1 l1) (n0 : l0.length ≤ 300000) (n1 : l1.length ≤ 300000) :
    Calls Try.prog 45 #[.slice (some ⟨b, 0, none⟩) 2 2] w (OutTr w (l0 ++ l1)) := by
  obtain ⟨A0, c0, rfl⟩ := own_form o0
  obtain ⟨A1, c1, rfl⟩ := own_form o1
  have O0 := Lib.hid o0
  have O1 := Lib.hid o1
  have GR := Lib.hid (fun n w h => sgrow_any n w h)
  clear o0 o1
  obtain ⟨m0, hm0⟩ : ∃ m, m = l0.length := ⟨_, rfl⟩
  obtain ⟨m1, hm1⟩ : ∃ m, m = l1.length := ⟨_, rfl⟩
  have M0 := Lib.hid hm0
  have M1 := Lib.hid hm1
  rw [← hm0] at h0 n0
  rw [← hm1] at h1 n1
  clear hm0 hm1
  have H0 := Lib.hid h0
  have H1 := Lib.hid h1
  go_enter Try.func45, Try.ntmps45
  go_wp2_with fail
  go_loop [3, 11] (fun s i => (i = .int .i64 0 ∧ s = .int .i64 0) ∨ (i = .int .i64 1 ∧ s = .int .i64 (m0 : Int)) ∨ (i = .int .i64 2 ∧ s = .int .i64 ((m0 + m1 : Nat) : Int))) (fun _ i => 2 - (intOf i).toNat)
  case atStart => exact Or.inl ⟨rfl, rfl⟩
  case round =>
    rcases hrel with ⟨rfl, rfl⟩ | ⟨rfl, rfl⟩ | ⟨rfl, rfl⟩
    · go_wp2_with fail
      go_round
      case rel => exact Or.inr (Or.inl ⟨rfl, rfl⟩)
      case measure => simp [intOf]
    · go_wp2_with fail
      go_round
      case rel => exact Or.inr (Or.inr ⟨rfl, by go_num⟩)
      case measure => simp [intOf]
    · go_wp2_with fail
      refine (GR.out (m0 + m1) _ (by omega)).mono ?_
      rintro e w1 ⟨v, rfl, ho, hb1⟩
      have W1 := Lib.hid ho
      have B1 := Lib.hid hb1
      have hz1 := hb1.size
      clear ho hb1 h0 h1
      go_wp2_with fail
      go_loopw [6, 27] (fun v i wr => ((i = .int .i64 0 ∧ OwnT wr w.heap.size v []) ∨ (i = .int .i64 1 ∧ OwnT wr w.heap.size v l0) ∨ (i = .int .i64 2 ∧ OwnT wr w.heap.size v (l0 ++ l1))) ∧ Below w.heap.size w wr) (fun _ i _ => 2 - (intOf i).toNat)
      case atStart => exact ⟨Or.inl ⟨rfl, W1.out⟩, B1.out⟩
      case round =>
        obtain ⟨hrel, hbw⟩ := hrel
        have B := Lib.hid hbw
        have hz := hbw.size
        rcases hrel with ⟨rfl, hown⟩ | ⟨rfl, hown⟩ | ⟨rfl, hown⟩
        · have d0 := (hbw.cell (p := ⟨b, 0, none⟩) hb).trans H0.out
          obtain ⟨v', w', hap, hown', hbb⟩ := app_turns 49 hown (own_below O0.out hbw) (by have := M0.out; simp; omega) hz
          rw [← M0.out] at hap
          have O' := Lib.hid hown'
          have B' := Lib.hid (B.out.trans hbb)
          clear hown hown' hbb hbw
          go_wp2_with (at_builtin; refine Lib.wpList_append_run _ rfl _ _ _ _ rfl _ _ rfl rfl _ _ hap ?_)
          go_roundw
          case rel => exact ⟨Or.inr (Or.inl ⟨rfl, O'.out⟩), B'.out⟩
          case measure => simp [intOf]
        · have d1 := (hbw.cell (p := ⟨b, 1, none⟩) hb).trans H1.out
          obtain ⟨v', w', hap, hown', hbb⟩ := app_turns 49 hown (own_below O1.out hbw) (by have := M0.out; have := M1.out; omega) hz
          rw [← M1.out] at hap
          have O' := Lib.hid hown'
          have B' := Lib.hid (B.out.trans hbb)
          clear hown hown' hbb hbw
          go_wp2_with (at_builtin; refine Lib.wpList_append_run _ rfl _ _ _ _ rfl _ _ rfl rfl _ _ hap ?_)
          go_roundw
          case rel => exact ⟨Or.inr (Or.inr ⟨rfl, O'.out⟩), B'.out⟩
          case measure => simp [intOf]
        · have O' := Lib.hid hown
          clear hown hbw
          go_wp2_with fail
          go_ret
          exact outTr rfl O'.out B.out
end Go.Proofs.Ytnocbgimfmgdeaa
