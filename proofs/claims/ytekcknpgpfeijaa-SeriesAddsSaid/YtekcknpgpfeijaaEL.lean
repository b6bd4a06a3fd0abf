/- The walks of SeriesReads, SeriesHolds, SeriesGroups, SeriesTotals and SeriesPeak. -/
import Derived.Test.YtekcknpgpfeijaaEK
set_option linter.unusedVariables false
namespace Go.Proofs.Ytekcknpgpfeijaa.Series
open Go.RowKit Go.Shelf

section
variable (w : World) (A : Option Addr) (c : Nat) (l : List Int)
set_option maxRecDepth 100000 in
set_option maxHeartbeats 2000000 in
theorem law_reads (i j : Int) (hl : l.length ≤ 9223372036854775807) (hi : I64 i) (hj : I64 j) (hA : NsAt w w.heap.size A l) : Calls Try.prog 4 #[.slice A l.length c, .int .i64 i, .int .i64 j] w (OutB w true) := by
  by_cases h : 200 < l.length
  · clear hA
    go_enter Try.func4, Try.ntmps4
    go_wp2_with fail
    refine (lives_any _).mono ?_
    rintro e w1 ⟨rfl, hb⟩
    go_wp2_with fail
    go_ret
    exact outB rfl hb
  · have C1 := Lib.hid (at_any A c l i w hl hA)
    have C2 := Lib.hid (rat_any A c l i w hl hA)
    have C3 := Lib.hid (fun w h => sum_any A c l i j w hl hi hj h)
    have C4 := Lib.hid (fun w h => rsum_any A c l i j w hl h)
    have HA := Lib.hid hA
    generalize atL (rd l) i = x at *
    generalize sat (psum (rd l) i j) = y at *
    clear hA hi hj
    go_enter Try.func4, Try.ntmps4
    go_wp2_with fail
    refine C1.out.mono ?_
    rintro e w1 ⟨rfl, rfl⟩
    go_wp2_with fail
    refine C2.out.mono ?_
    rintro e w2 ⟨rfl, hb⟩
    have B2 := Lib.hid hb
    have H2 := Lib.hid (HA.out.next hb)
    clear hb
    go_wp2_with fail
    refine (C3.out w2 H2.out).mono ?_
    rintro e w3 ⟨rfl, rfl⟩
    go_wp2_with fail
    refine (C4.out w2 H2.out).mono ?_
    rintro e w4 ⟨rfl, hb⟩
    have B4 := Lib.hid (B2.out.trans (hb.mono B2.out.size))
    clear hb
    go_wp2_with fail
    refine (lives_any _).mono ?_
    rintro e w5 ⟨rfl, hb⟩
    have B5 := Lib.hid (B4.out.trans (hb.mono B4.out.size))
    clear hb
    go_wp2_with fail
    go_ret
    exact outB rfl B5.out

theorem hoR_len (l : List Pt) (n : Int) : (hoR l n).length ≤ 96 := by
  unfold hoR
  split
  · rename_i h
    unfold hoE at h
    by_cases h1 : n < 0 ∨ 96 < n ∨ 256 < l.length
    · rw [if_pos h1] at h; omega
    · simp [hoL]; omega
  · simp

set_option maxRecDepth 100000 in
set_option maxHeartbeats 2000000 in
theorem law_holds (l : List Pt) (n : Int) (hl : l.length ≤ 9223372036854775807) (hA : PtAt w w.heap.size A l) : Calls Try.prog 6 #[.slice A l.length c, .int .i64 n] w (OutB w true) := by
  by_cases h : 300 < l.length
  · clear hA
    go_enter Try.func6, Try.ntmps6
    go_wp2_with fail
    refine (lives_any _).mono ?_
    rintro e w1 ⟨rfl, hb⟩
    go_wp2_with fail
    go_ret
    exact outB rfl hb
  · have C1 := Lib.hid (shold_any A c l n w hl hA)
    have C2 := Lib.hid (fun w h => rhold_any A c l n w hl h)
    have HA := Lib.hid hA
    have LN := hoR_len l n
    generalize hoE l n = x at *
    generalize hoR l n = y at *
    have d0 : (x == x) = true := by simp
    clear hA
    go_enter Try.func6, Try.ntmps6
    go_wp2_with fail
    refine C1.out.mono ?_
    rintro e w1 ⟨A1, c1, rfl, hs, hb⟩
    have B1 := Lib.hid hb
    have S1 := Lib.hid hs
    have H1 := Lib.hid (HA.out.next hb)
    clear hb hs
    go_wp2_with fail
    refine (C2.out w1 H1.out).mono ?_
    rintro e w2 ⟨A2, c2, rfl, hs, hb⟩
    have B2 := Lib.hid (B1.out.trans (hb.mono B1.out.size))
    have S2 := Lib.hid hs
    have S1 := Lib.hid (S1.out.next hb)
    clear hb hs
    go_wp2_with fail
    refine (same_any A1 A2 c1 c2 y w2 (by omega) S1.out S2.out).mono ?_
    rintro e w3 ⟨rfl, hb⟩
    have B3 := Lib.hid (B2.out.trans (hb.mono B2.out.size))
    clear hb
    go_wp2_with fail
    refine (lives_any _).mono ?_
    rintro e w5 ⟨rfl, hb⟩
    have B5 := Lib.hid (B3.out.trans (hb.mono B3.out.size))
    clear hb
    go_wp2_with fail
    go_ret
    exact outB rfl B5.out

theorem grpK_len (m : List Int) (k : Int) (h : m.length ≤ 96) : (if k < 1 then [] else grp m k.toNat).length ≤ 96 := by
  split
  · simp
  · rw [grp_len]; have := gct_le m.length k.toNat (by omega); omega

set_option maxRecDepth 100000 in
set_option maxHeartbeats 2000000 in
theorem law_groups (k : Int) (hl : l.length ≤ 9223372036854775807) (hk : I64 k) (hc : l.length ≤ c) (hc0 : A = none → c = 0) (hA : NsAt w w.heap.size A l) : Calls Try.prog 7 #[.slice A l.length c, .int .i64 k] w (OutB w true) := by
  by_cases h : 200 < l.length
  · clear hA hc0
    go_enter Try.func7, Try.ntmps7
    go_wp2_with fail
    refine (lives_any _).mono ?_
    rintro e w1 ⟨rfl, hb⟩
    go_wp2_with fail
    go_ret
    exact outB rfl hb
  · have C1 := Lib.hid (sres_any A c l k w hl hk hc hc0 hA)
    have C2 := Lib.hid (fun w h => rres_any A c l k w hl hk h)
    have C3 := Lib.hid (fun w h => speak_any A c l w hl h)
    have C4 := Lib.hid (fun w h => rpeak_any A c l w hl h)
    have C5 := Lib.hid (fun w h => scum_any A c l w hl h)
    have C6 := Lib.hid (fun w h => rcum7_any A c l w hl h)
    have HA := Lib.hid hA
    have LG := grpK_len (rd l) k (rd_len l)
    have LC : (cumL (rd l)).length ≤ 96 := by rw [cumL_len]; exact rd_len l
    generalize (if k < 1 then [] else grp (rd l) k.toNat) = x at *
    generalize pk (rd l) (rd l).length = y at *
    generalize cumL (rd l) = z at *
    have d0 : (y == y) = true := by simp
    clear hA hk hc hc0
    go_enter Try.func7, Try.ntmps7
    go_wp2_with fail
    refine C1.out.mono ?_
    rintro e w1 ⟨A1, c1, rfl, hs, hb⟩
    have B1 := Lib.hid hb
    have S1 := Lib.hid hs
    have H1 := Lib.hid (HA.out.next hb)
    clear hb hs
    go_wp2_with fail
    refine (C2.out w1 H1.out).mono ?_
    rintro e w2 ⟨A2, c2, rfl, hs, hb⟩
    have B2 := Lib.hid (B1.out.trans (hb.mono B1.out.size))
    have S2 := Lib.hid hs
    have S1 := Lib.hid (S1.out.next hb)
    have H2 := Lib.hid (H1.out.next hb)
    clear hb hs
    go_wp2_with fail
    refine (same_any A1 A2 c1 c2 x w2 (by omega) S1.out S2.out).mono ?_
    rintro e w3 ⟨rfl, hb⟩
    have B3 := Lib.hid (B2.out.trans (hb.mono B2.out.size))
    have H3 := Lib.hid (H2.out.next hb)
    clear hb
    go_wp2_with fail
    refine (C3.out w3 H3.out).mono ?_
    rintro e w4 ⟨rfl, rfl⟩
    go_wp2_with fail
    refine (C4.out w3 H3.out).mono ?_
    rintro e w4 ⟨rfl, hb⟩
    have B4 := Lib.hid (B3.out.trans (hb.mono B3.out.size))
    have H4 := Lib.hid (H3.out.next hb)
    clear hb
    go_wp2_with fail
    refine (C5.out w4 H4.out).mono ?_
    rintro e w5 ⟨A5, c5, rfl, hs, hb⟩
    have B5 := Lib.hid (B4.out.trans (hb.mono B4.out.size))
    have S5 := Lib.hid hs
    have H5 := Lib.hid (H4.out.next hb)
    clear hb hs
    go_wp2_with fail
    refine (C6.out w5 H5.out).mono ?_
    rintro e w6 ⟨A6, c6, rfl, hs, hb⟩
    have B6 := Lib.hid (B5.out.trans (hb.mono B5.out.size))
    have S6 := Lib.hid hs
    have S5 := Lib.hid (S5.out.next hb)
    clear hb hs
    go_wp2_with fail
    refine (same_any A5 A6 c5 c6 z w6 (by omega) S5.out S6.out).mono ?_
    rintro e w7 ⟨rfl, hb⟩
    have B7 := Lib.hid (B6.out.trans (hb.mono B6.out.size))
    clear hb
    go_wp2_with fail
    refine (lives_any _).mono ?_
    rintro e w8 ⟨rfl, hb⟩
    have B8 := Lib.hid (B7.out.trans (hb.mono B7.out.size))
    clear hb
    go_wp2_with fail
    go_ret
    exact outB rfl B8.out

set_option maxRecDepth 100000 in
set_option maxHeartbeats 2000000 in
theorem law_totals (A2 : Option Addr) (c2 : Nat) (l2 : List Int) (k : Int) (hl : l.length ≤ 9223372036854775807) (hl2 : l2.length ≤ 9223372036854775807) (hk : I64 k) (hc : l.length ≤ c) (hc0 : A = none → c = 0) (hA : NsAt w w.heap.size A l) (hA2 : NsAt w w.heap.size A2 l2) :
    Calls Try.prog 9 #[.slice A l.length c, .slice A2 l2.length c2, .int .i64 k] w (OutB w true) := by
  have M1 := Lib.hid (small_any A c l w hl hA)
  have M2 := Lib.hid (small_any A2 c2 l2 w hl2 hA2)
  by_cases h : Sml l ∧ Sml l2 ∧ ¬ k < 1
  · obtain ⟨s1, s2, hk1⟩ := h
    have C1 := Lib.hid (sum_any A c l 0 96 w hl (by unfold I64; omega) (by unfold I64; omega) hA)
    have C2 := Lib.hid (sum_any A2 c2 l2 0 96 w hl2 (by unfold I64; omega) (by unfold I64; omega) hA2)
    have C3 := Lib.hid (sres_any A c l k w hl hk hc hc0 hA)
    have C4 := Lib.hid (fun w h h2 => sadd_any A A2 c c2 l l2 w hl hl2 h h2)
    have b1 := psum_sml s1 0 96
    have b2 := psum_sml s2 0 96
    have T1 := grp_total s1 k.toNat (by omega)
    have T2 := addL_total s1 s2
    have E1 := sat_in (psum l 0 96)
    have E2 := sat_in (psum l2 0 96)
    have L1 : (grp l k.toNat).length ≤ 96 := by rw [grp_len]; have := gct_le l.length k.toNat (by omega); have := s1.2; omega
    have L2 : (addL l l2).length ≤ 96 := by rw [addL_len]; have := s1.2; have := s2.2; omega
    rw [s1.rd, b1] at C1
    rw [s2.rd, b2] at C2
    rw [if_neg hk1, s1.rd] at C3
    rw [s1.rd, s2.rd] at C4
    rw [b1] at E1
    rw [b2] at E2
    have T1 := Lib.hid T1
    have T2 := Lib.hid T2
    have HA := Lib.hid hA
    have HA2 := Lib.hid hA2
    generalize psum l 0 96 = x at *
    generalize psum l2 0 96 = y at *
    generalize grp l k.toNat = p at *
    generalize addL l l2 = q at *
    have d1 := df hk1
    have d2 : (x == x) = true := by simp
    have d3 : (x + y == x + y) = true := by simp
    clear hA hA2 hc0 b1 b2
    go_enter Try.func9, Try.ntmps9
    go_wp2_with fail
    refine M1.out.mono ?_
    rintro e w1 ⟨b, rfl, hb, rfl⟩
    obtain rfl : b = true := hb.2 s1
    clear hb
    go_wp2_with fail
    refine M2.out.mono ?_
    rintro e w1 ⟨b, rfl, hb, rfl⟩
    obtain rfl : b = true := hb.2 s2
    clear hb
    go_wp2_with fail
    refine C1.out.mono ?_
    rintro e w1 ⟨rfl, rfl⟩
    go_wp2_with fail
    refine C2.out.mono ?_
    rintro e w1 ⟨rfl, rfl⟩
    go_wp2_with fail
    refine C3.out.mono ?_
    rintro e w1 ⟨A1, c1, rfl, hs, hb⟩
    have B1 := Lib.hid hb
    have G1 := Lib.hid (sum_any A1 c1 p 0 96 w1 (by omega) (by unfold I64; omega) (by unfold I64; omega) hs)
    rw [T1.out] at G1
    have H1 := Lib.hid (HA.out.next hb)
    have H2 := Lib.hid (HA2.out.next hb)
    clear hb hs
    go_wp2_with fail
    refine G1.out.mono ?_
    rintro e w2 ⟨rfl, rfl⟩
    go_wp2_with fail
    refine (C4.out w1 H1.out H2.out).mono ?_
    rintro e w2 ⟨A3, c3, rfl, hs, hb⟩
    have B2 := Lib.hid (B1.out.trans (hb.mono B1.out.size))
    have G2 := Lib.hid (sum_any A3 c3 q 0 96 w2 (by omega) (by unfold I64; omega) (by unfold I64; omega) hs)
    rw [T2.out] at G2
    clear hb hs
    go_wp2_with fail
    refine G2.out.mono ?_
    rintro e w3 ⟨rfl, rfl⟩
    go_wp2_with fail
    refine (lives_any _).mono ?_
    rintro e w4 ⟨rfl, hb⟩
    have B4 := Lib.hid (B2.out.trans (hb.mono B2.out.size))
    clear hb
    go_wp2_with fail
    go_ret
    exact outB rfl B4.out
  · clear hA hA2 hc0
    have N := Lib.hid h
    clear h
    go_enter Try.func9, Try.ntmps9
    go_wp2_with fail
    refine M1.out.mono ?_
    rintro e w1 ⟨b, rfl, hb, rfl⟩
    cases b with
    | false =>
      clear hb
      go_wp2_with fail
      refine (lives_any _).mono ?_
      rintro e w4 ⟨rfl, hb⟩
      go_wp2_with fail
      go_ret
      exact outB rfl hb
    | true =>
      have s1 := Lib.hid (hb.1 rfl)
      clear hb
      go_wp2_with fail
      refine M2.out.mono ?_
      rintro e w1 ⟨b, rfl, hb, rfl⟩
      cases b with
      | false =>
        clear hb
        go_wp2_with fail
        refine (lives_any _).mono ?_
        rintro e w4 ⟨rfl, hb⟩
        go_wp2_with fail
        go_ret
        exact outB rfl hb
      | true =>
        have s2 := Lib.hid (hb.1 rfl)
        clear hb
        have d1 := dt (show k < 1 from Classical.byContradiction fun h => N.out ⟨s1.out, s2.out, by omega⟩)
        go_wp2_with fail
        refine (lives_any _).mono ?_
        rintro e w4 ⟨rfl, hb⟩
        go_wp2_with fail
        go_ret
        exact outB rfl hb

theorem rat_map (i : Int) (hl : l.length ≤ 96) (hA : NsAt w w.heap.size A l) : Calls Try.prog 15 #[.slice A l.length c, .int .i64 i] w (OutI w (atL (rd l) i)) := rat_any A c l i w (by omega) hA

set_option maxRecDepth 100000 in
set_option maxHeartbeats 2000000 in
theorem law_peak (hl : l.length ≤ 9223372036854775807) (hA : NsAt w w.heap.size A l) : Calls Try.prog 10 #[.slice A l.length c] w (OutB w true) := by
  have C1 := Lib.hid (speak_any A c l w hl hA)
  have RL := rd_length l
  by_cases h : l.length = 0 ∨ 96 < l.length
  · have E : pk (rd l) (rd l).length = -1 := by
      have : (rd l).length = 0 := by rw [RL]; unfold ln; split <;> omega
      rw [this]; rfl
    rw [E] at C1
    have D : ((l.length : Int) == 0) = true ∨ (((l.length : Int) == 0) = false ∧ decide ((96 : Int) < (l.length : Int)) = true) := by
      by_cases h0 : l.length = 0
      · exact Or.inl (by simp [h0])
      · exact Or.inr ⟨by simp; intro e; rw [e] at h0; exact h0 rfl, dt (by omega)⟩
    clear hA RL E h
    rcases D with d1 | ⟨d1, d2⟩
    all_goals
      go_enter Try.func10, Try.ntmps10
      go_wp2_with fail
      refine C1.out.mono ?_
      rintro e w1 ⟨rfl, rfl⟩
      go_wp2_with fail
      refine (lives_any _).mono ?_
      rintro e w4 ⟨rfl, hb⟩
      go_wp2_with fail
      go_ret
      exact outB rfl hb
  · have h96 : l.length ≤ 96 := by omega
    have hln : (rd l).length = l.length := by rw [RL, ln_short h96]
    have PI := pk_in (rd l) (rd l).length
    have PM := pk_max (rd l) (rd l).length
    rw [hln] at PI PM C1
    obtain ⟨p, hp⟩ : ∃ p : Nat, pk (rd l) l.length = (p : Int) := ⟨(pk (rd l) l.length).toNat, by have := PI.2.2 (by omega); omega⟩
    rw [hp] at PI PM C1
    have pl : p < l.length := by omega
    have d1 : ((l.length : Int) == 0) = false := by simp; intro e; rw [e] at h; simp at h
    have d2 := df (show ¬ (96 : Int) < (l.length : Int) by omega)
    have d3 := df (show ¬ (l.length : Int) ≤ (p : Int) by omega)
    have d4 := df (show ¬ l.length ≤ p by omega)
    have HA := Lib.hid hA
    have CT := Lib.hid (fun i w h => rat_map w A c l i h96 h)
    have PM := Lib.hid PM
    clear hA PI hp h hln RL
    go_enter Try.func10, Try.ntmps10
    go_wp2_with fail
    refine C1.out.mono ?_
    rintro e w1 ⟨rfl, rfl⟩
    go_wp2_with fail
    clear d1 d2 d3 d4
    go_loopw [4] (fun i wr => ∃ k : Nat, i = .int .i64 (k : Int) ∧ k ≤ l.length ∧ Below w.heap.size w wr) (fun i _ => l.length - (intOf i).toNat)
    case atStart => exact ⟨0, rfl, Nat.zero_le _, Below.refl _ _⟩
    case round =>
      obtain ⟨k, rfl, hk, hb⟩ := hrel
      have B := Lib.hid hb
      have H := Lib.hid (HA.out.next hb)
      clear hb
      by_cases hlt : k < l.length
      · have F1 := PM.out k hlt
        have g1 := df (show ¬ atL (rd l) (p : Int) < atL (rd l) (k : Int) by omega)
        have g2 : k < p → (atL (rd l) (k : Int) == atL (rd l) (p : Int)) = false := fun h => by have := F1.2 (by omega); simp; omega
        clear F1
        have C2 := Lib.hid (fun w h => CT.out k w h)
        have C3 := Lib.hid (fun w h => CT.out p w h)
        generalize atL (rd l) (p : Int) = x at *
        generalize atL (rd l) (k : Int) = y at *
        by_cases hkp : k < p
        · have g3 := g2 hkp
          have g4 := dt hkp
          clear g2
          go_wp2_with fail
          refine (C2.out wr H.out).mono ?_
          rintro e w2 ⟨rfl, hb⟩
          have B2 := Lib.hid (B.out.trans (hb.mono B.out.size))
          have H2 := Lib.hid (H.out.next hb)
          clear hb
          go_wp2_with fail
          refine (C3.out w2 H2.out).mono ?_
          rintro e w3 ⟨rfl, hb⟩
          have B3 := Lib.hid (B2.out.trans (hb.mono B2.out.size))
          have H3 := Lib.hid (H2.out.next hb)
          clear hb
          go_wp2_with fail
          refine (C2.out w3 H3.out).mono ?_
          rintro e w4 ⟨rfl, hb⟩
          have B4 := Lib.hid (B3.out.trans (hb.mono B3.out.size))
          have H4 := Lib.hid (H3.out.next hb)
          clear hb
          go_wp2_with fail
          refine (C3.out w4 H4.out).mono ?_
          rintro e w5 ⟨rfl, hb⟩
          have B5 := Lib.hid (B4.out.trans (hb.mono B4.out.size))
          clear hb
          go_wp2_with fail
          go_roundw
          case rel => exact ⟨k + 1, by go_num, hlt, B5.out⟩
          case measure => simp [intOf]; omega
        · have g4 := df hkp
          clear g2
          go_wp2_with fail
          refine (C2.out wr H.out).mono ?_
          rintro e w2 ⟨rfl, hb⟩
          have B2 := Lib.hid (B.out.trans (hb.mono B.out.size))
          have H2 := Lib.hid (H.out.next hb)
          clear hb
          go_wp2_with fail
          refine (C3.out w2 H2.out).mono ?_
          rintro e w3 ⟨rfl, hb⟩
          have B3 := Lib.hid (B2.out.trans (hb.mono B2.out.size))
          clear hb
          go_wp2_with fail
          go_roundw
          case rel => exact ⟨k + 1, by go_num, hlt, B3.out⟩
          case measure => simp [intOf]; omega
      · go_wp2_with fail
        refine (lives_any _).mono ?_
        rintro e w4 ⟨rfl, hb⟩
        have B4 := Lib.hid (B.out.trans (hb.mono B.out.size))
        clear hb
        go_wp2_with fail
        go_ret
        exact outB rfl B4.out
end
end Go.Proofs.Ytekcknpgpfeijaa.Series
