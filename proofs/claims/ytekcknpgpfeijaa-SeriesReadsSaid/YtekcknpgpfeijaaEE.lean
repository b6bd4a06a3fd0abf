/- Contracts of the reference's Add, Scale, Cumulate and Peak, and of Peak of series. -/
import Derived.Test.YtekcknpgpfeijaaED
set_option linter.unusedVariables false
namespace Go.Proofs.Ytekcknpgpfeijaa.Series
open Go.RowKit Go.Shelf

theorem rat_rd (A : Option Addr) (c : Nat) (m : List Int) (i : Int) (w : World) (hm : rd m = m) (hl : m.length ≤ 96) (hA : NsAt w w.heap.size A m) :
    Calls Try.prog 15 #[.slice A m.length c, .int .i64 i] w (OutI w (atL m i)) := by
  have := rat_any A c m i w (by omega) hA
  rwa [hm] at this

set_option maxRecDepth 100000 in
set_option maxHeartbeats 2000000 in
theorem radd7_any (A A2 : Option Addr) (c c2 : Nat) (l l2 : List Int) (w : World) (hl : l.length ≤ 9223372036854775807) (hl2 : l2.length ≤ 9223372036854775807) (hA : NsAt w w.heap.size A l) (hA2 : NsAt w w.heap.size A2 l2) :
    Calls Try.prog 20 #[.slice A l.length c, .slice A2 l2.length c2] w (OutL w (addL (rd l) (rd l2))) := by
  have R1 := Lib.hid (read_any A c l w hl hA)
  have R2 := Lib.hid (fun w h => read_any A2 c2 l2 w hl2 h)
  have HA2 := Lib.hid hA2
  have L1 := rd_len l
  have L2 := rd_len l2
  have M1 := Lib.hid (rd_rd l)
  have M2 := Lib.hid (rd_rd l2)
  have I1 := Lib.hid (lim_rd l)
  have I2 := Lib.hid (lim_rd l2)
  generalize rd l = x at *
  generalize rd l2 = y at *
  clear hA hA2
  go_enter Try.func20, Try.ntmps20
  go_wp2_with fail
  refine R1.out.mono ?_
  rintro e w1 ⟨A3, c3, rfl, hs, hb⟩
  have B1 := Lib.hid hb
  have S1 := Lib.hid hs
  have HA3 := Lib.hid (HA2.out.next hb)
  clear hs hb
  go_wp2_with fail
  refine (R2.out _ HA3.out).mono ?_
  rintro e w2 ⟨A4, c4, rfl, hs, hb⟩
  have B2 := Lib.hid (B1.out.trans (hb.mono B1.out.size))
  have S2 := Lib.hid hs
  have S1 := Lib.hid (S1.out.next hb)
  clear hs hb
  go_wp2_with fail
  go_loopw [7, 8] (fun v i wr => ∃ k : Nat, i = .int .i64 (k : Int) ∧ k ≤ max x.length y.length ∧ OwnN wr w2.heap.size v ((List.range k).map fun i : Nat => sat (atL x i + atL y i)) ∧ Below w2.heap.size w2 wr) (fun _ i _ => max x.length y.length - (intOf i).toNat)
  case atStart => exact ⟨0, rfl, Nat.zero_le _, World.ownsRow_nil _ _ _ _, Below.refl _ _⟩
  case round =>
    obtain ⟨k, rfl, hk, hown, hb⟩ := hrel
    have O := Lib.hid hown
    have B := Lib.hid hb
    have hz := hb.size
    clear hown hb
    by_cases hlt : k < max x.length y.length
    · have T1 := Lib.hid (S1.out.next B.out)
      have T2 := Lib.hid (S2.out.next B.out)
      have i1 := lim_at I1.out k
      have i2 := lim_at I2.out k
      have ST := Lib.hid (range_snoc (fun i : Nat => sat (atL x i + atL y i)) k)
      have D : decide (k < x.length) = true ∨ (decide (k < x.length) = false ∧ decide (k < y.length) = true) := by
        by_cases h : k < x.length
        · exact Or.inl (dt (by omega))
        · exact Or.inr ⟨df (by omega), dt (by omega)⟩
      rcases D with d1 | ⟨d1, d2⟩
      all_goals
        go_wp2_with fail
        refine (rat_rd A3 c3 x k wr M1.out L1 T1.out).mono ?_
        rintro e w3 ⟨rfl, hb⟩
        have B3 := Lib.hid hb
        have T2 := Lib.hid (T2.out.next hb)
        have O3 := Lib.hid (own_below O.out hb)
        clear hb
        go_wp2_with fail
        refine (rat_rd A4 c4 y k w3 M2.out L2 T2.out).mono ?_
        rintro e w4 ⟨rfl, hb⟩
        have B4 := Lib.hid (B.out.trans ((B3.out.trans (hb.mono B3.out.size)).mono hz))
        have O4 := Lib.hid (own_below O3.out hb)
        have hz4 := B4.out.size
        clear hb
        obtain ⟨v', w', hap, hown', hbb⟩ := app_one (sat (atL x k + atL y k)) 22 O4.out (by simp; omega) hz4
        have O' := Lib.hid (show OwnN w' w2.heap.size v' ((List.range (k + 1)).map fun i : Nat => sat (atL x i + atL y i)) by rw [ST.out]; exact hown')
        have B' := Lib.hid (B4.out.trans hbb)
        clear hown' hbb
        go_wp2_with fail
        refine (radd_any _ _ _ (by unfold I64; omega) (by unfold I64; omega)).mono ?_
        rintro e w5 ⟨rfl, rfl⟩
        go_wp2_with (at_builtin; refine Lib.wpList_append_run _ rfl _ _ _ _ rfl _ _ rfl rfl _ _ hap ?_)
        go_roundw
        case rel => exact ⟨k + 1, by go_num, hlt, O'.out, B'.out⟩
        case measure => simp [intOf]; omega
    · have d1 := df (show ¬ k < x.length by omega)
      have d2 := df (show ¬ k < y.length by omega)
      have E := Lib.hid (show addL x y = (List.range k).map fun i : Nat => sat (atL x i + atL y i) by rw [show k = max x.length y.length by omega]; rfl)
      go_wp2_with fail
      go_ret
      exact outL_own E.out O.out (B2.out.trans (B.out.mono B2.out.size))

set_option maxRecDepth 100000 in
set_option maxHeartbeats 2000000 in
theorem rscale7_any (A : Option Addr) (c : Nat) (l : List Int) (a b : Int) (w : World) (hl : l.length ≤ 9223372036854775807) (hA : NsAt w w.heap.size A l) :
    Calls Try.prog 22 #[.slice A l.length c, .int .i64 a, .int .i64 b] w (OutL w (sclL (rd l) a b)) := by
  have R1 := Lib.hid (read_any A c l w hl hA)
  have L1 := rd_len l
  generalize rd l = x at *
  clear hA
  go_enter Try.func22, Try.ntmps22
  go_wp2_with fail
  refine R1.out.mono ?_
  rintro e w2 ⟨A3, c3, rfl, hs, hb⟩
  have B2 := Lib.hid hb
  have S1 := Lib.hid hs
  clear hs hb
  go_wp2_with fail
  go_loopw [8, 9] (fun v i wr => ∃ k : Nat, i = .int .i64 (k : Int) ∧ k ≤ x.length ∧ OwnN wr w2.heap.size v ((List.range k).map fun i : Nat => scl (atL x i) a b) ∧ Below w2.heap.size w2 wr) (fun _ i _ => x.length - (intOf i).toNat)
  case atStart => exact ⟨0, rfl, Nat.zero_le _, World.ownsRow_nil _ _ _ _, Below.refl _ _⟩
  case round =>
    obtain ⟨k, rfl, hk, hown, hb⟩ := hrel
    have O := Lib.hid hown
    have B := Lib.hid hb
    have hz := hb.size
    clear hown hb
    by_cases hlt : k < x.length
    · obtain ⟨b0, p, rfl, g1, g2⟩ := (S1.out.next B.out) k hlt
      have ST := Lib.hid (range_snoc (fun i : Nat => scl (atL x i) a b) k)
      rw [← atL_get x k hlt] at g2
      obtain ⟨v', w', hap, hown', hbb⟩ := app_one (scl (atL x k) a b) 22 O.out (by simp; omega) hz
      have O' := Lib.hid (show OwnN w' w2.heap.size v' ((List.range (k + 1)).map fun i : Nat => scl (atL x i) a b) by rw [ST.out]; exact hown')
      have B' := Lib.hid (B.out.trans hbb)
      have RS := Lib.hid (fun w => rscale_any (atL x k) a b w)
      clear hown' hbb ST
      generalize scl (atL x k) a b = z at *
      generalize atL x k = y at *
      go_wp2_with fail
      refine (RS.out _).mono ?_
      rintro e w5 ⟨rfl, rfl⟩
      go_wp2_with (at_builtin; refine Lib.wpList_append_run _ rfl _ _ _ _ rfl _ _ rfl rfl _ _ hap ?_)
      go_roundw
      case rel => exact ⟨k + 1, by go_num, hlt, O'.out, B'.out⟩
      case measure => simp [intOf]; omega
    · have E := Lib.hid (show sclL x a b = (List.range k).map fun i : Nat => scl (atL x i) a b by rw [show k = x.length by omega]; rfl)
      go_wp2_with fail
      go_ret
      exact outL_own E.out O.out (B2.out.trans (B.out.mono B2.out.size))

set_option maxRecDepth 100000 in
set_option maxHeartbeats 2000000 in
theorem rcum7_any (A : Option Addr) (c : Nat) (l : List Int) (w : World) (hl : l.length ≤ 9223372036854775807) (hA : NsAt w w.heap.size A l) :
    Calls Try.prog 30 #[.slice A l.length c] w (OutL w (cumL (rd l))) := by
  have R1 := Lib.hid (read_any A c l w hl hA)
  have L1 := rd_len l
  have M1 := Lib.hid (rd_rd l)
  generalize rd l = x at *
  clear hA
  go_enter Try.func30, Try.ntmps30
  go_wp2_with fail
  refine R1.out.mono ?_
  rintro e w2 ⟨A3, c3, rfl, hs, hb⟩
  have B2 := Lib.hid hb
  have S1 := Lib.hid hs
  clear hs hb
  go_wp2_with fail
  go_loopw [4, 5] (fun v i wr => ∃ k : Nat, i = .int .i64 (k : Int) ∧ k ≤ x.length ∧ OwnN wr w2.heap.size v ((List.range k).map fun i : Nat => sat (P x (i + 1))) ∧ Below w2.heap.size w2 wr) (fun _ i _ => x.length - (intOf i).toNat)
  case atStart => exact ⟨0, rfl, Nat.zero_le _, World.ownsRow_nil _ _ _ _, Below.refl _ _⟩
  case round =>
    obtain ⟨k, rfl, hk, hown, hb⟩ := hrel
    have O := Lib.hid hown
    have B := Lib.hid hb
    have hz := hb.size
    clear hown hb
    by_cases hlt : k < x.length
    · have T1 := Lib.hid (S1.out.next B.out)
      have ST := Lib.hid (range_snoc (fun i : Nat => sat (P x (i + 1))) k)
      have E := Lib.hid (show psum x 0 ((k : Int) + 1) = P x (k + 1) by unfold psum; rw [if_pos (by omega), show ((k : Int) + 1).toNat = k + 1 by omega]; show P x (k + 1) - P x 0 = _; rw [P_zero]; omega)
      have RS := Lib.hid (rsum_any A3 c3 x 0 ((k : Int) + 1) wr (by omega) T1.out)
      rw [M1.out, E.out] at RS
      go_wp2_with fail
      refine RS.out.mono ?_
      rintro e w3 ⟨rfl, hb⟩
      have B3 := Lib.hid (B.out.trans (hb.mono hz))
      have O3 := Lib.hid (own_below O.out hb)
      have hz3 := B3.out.size
      clear hb
      obtain ⟨v', w', hap, hown', hbb⟩ := app_one (sat (P x (k + 1))) 22 O3.out (by simp; omega) hz3
      have O' := Lib.hid (show OwnN w' w2.heap.size v' ((List.range (k + 1)).map fun i : Nat => sat (P x (i + 1))) by rw [ST.out]; exact hown')
      have B' := Lib.hid (B3.out.trans hbb)
      clear hown' hbb
      go_wp2_with (at_builtin; refine Lib.wpList_append_run _ rfl _ _ _ _ rfl _ _ rfl rfl _ _ hap ?_)
      go_roundw
      case rel => exact ⟨k + 1, by go_num, hlt, O'.out, B'.out⟩
      case measure => simp [intOf]; omega
    · have E := Lib.hid (show cumL x = (List.range k).map fun i : Nat => sat (P x (i + 1)) by rw [show k = x.length by omega]; rfl)
      go_wp2_with fail
      go_ret
      exact outL_own E.out O.out (B2.out.trans (B.out.mono B2.out.size))

set_option maxRecDepth 100000 in
set_option maxHeartbeats 2000000 in
theorem rpeak_any (A : Option Addr) (c : Nat) (l : List Int) (w : World) (hl : l.length ≤ 9223372036854775807) (hA : NsAt w w.heap.size A l) :
    Calls Try.prog 28 #[.slice A l.length c] w (OutI w (pk (rd l) (rd l).length)) := by
  have R1 := Lib.hid (read_any A c l w hl hA)
  have L1 := rd_len l
  generalize rd l = x at *
  clear hA
  go_enter Try.func28, Try.ntmps28
  go_wp2_with fail
  refine R1.out.mono ?_
  rintro e w2 ⟨A3, c3, rfl, hs, hb⟩
  have B2 := Lib.hid hb
  have S1 := Lib.hid hs
  clear hs hb
  go_wp2_with fail
  go_loopw [4, 5] (fun p i wr => ∃ k : Nat, i = .int .i64 (k : Int) ∧ k ≤ x.length ∧ p = .int .i64 (pk x k) ∧ Below w2.heap.size w2 wr) (fun _ i _ => x.length - (intOf i).toNat)
  case atStart => exact ⟨0, rfl, Nat.zero_le _, rfl, Below.refl _ _⟩
  case round =>
    obtain ⟨k, rfl, hk, rfl, hb⟩ := hrel
    have B := Lib.hid hb
    clear hb
    by_cases hlt : k < x.length
    · have T1 := S1.out.next B.out
      have PI := pk_in x k
      have ST := Lib.hid (show pk x (k + 1) = if pk x k < 0 ∨ atL x (pk x k) < atL x k then (k : Int) else pk x k from rfl)
      obtain ⟨b, p, rfl, g1, g2⟩ := T1 k hlt
      rw [← atL_get x k hlt] at g2
      by_cases h0 : pk x k < 0
      · have E := Lib.hid (show (k : Int) = pk x (k + 1) by rw [ST.out, if_pos (Or.inl h0)])
        have d1 := dt h0
        generalize hp : pk x k = q at *
        clear T1 hp ST
        go_wp2_with fail
        go_quiet (fail)
        go_wp2_with fail
        go_roundw
        case rel => exact ⟨k + 1, by go_num, hlt, val_int E.out, below_drewN B.out _⟩
        case measure => simp [intOf]; omega
      · obtain ⟨j, hj⟩ : ∃ j : Nat, pk x k = (j : Int) := ⟨(pk x k).toNat, by omega⟩
        obtain ⟨b2, p2, hA2, g3, g4⟩ := T1 j (by omega)
        cases hA2
        rw [← atL_get x j (by omega)] at g4
        rw [hj] at ST h0
        have d1 := df h0
        by_cases h1 : atL x j < atL x k
        · have E := Lib.hid (show (k : Int) = pk x (k + 1) by rw [ST.out, if_pos (Or.inr h1)])
          have d2 := dt h1
          have i1 : (j : Int) < (x.length : Int) := by omega
          rw [hj]
          generalize atL x j = xj at *
          generalize atL x k = xk at *
          clear T1 ST hj PI
          go_wp2_with fail
          go_quiet (fail)
          go_wp2_with fail
          go_roundw
          case rel => exact ⟨k + 1, by go_num, hlt, val_int E.out, below_drewN B.out _⟩
          case measure => simp [intOf]; omega
        · have E := Lib.hid (show (j : Int) = pk x (k + 1) by rw [ST.out, if_neg (by omega)])
          have d2 := df h1
          have i1 : (j : Int) < (x.length : Int) := by omega
          rw [hj]
          generalize atL x j = xj at *
          generalize atL x k = xk at *
          clear T1 ST hj PI
          go_wp2_with fail
          go_quiet (fail)
          go_wp2_with fail
          go_roundw
          case rel => exact ⟨k + 1, by go_num, hlt, val_int E.out, below_drewN B.out _⟩
          case measure => simp [intOf]; omega
    · obtain rfl : k = x.length := by omega
      go_wp2_with fail
      go_ret
      exact outI rfl (B2.out.trans (B.out.mono B2.out.size))

set_option maxRecDepth 100000 in
set_option maxHeartbeats 2000000 in
theorem speak_any (A : Option Addr) (c : Nat) (l : List Int) (w : World) (hl : l.length ≤ 9223372036854775807) (hA : NsAt w w.heap.size A l) :
    Calls Try.prog 27 #[.slice A l.length c] w fun e w' => e = .returned (.int .i64 (pk (rd l) (rd l).length)) ∧ w = w' := by
  have HL := Lib.hid (fun w => len_any A c l w hl)
  have HT := Lib.hid (fun i => at_any A c l i w hl hA)
  have L := ln_le l
  have RL := rd_length l
  rw [← RL] at HL
  generalize rd l = x at *
  clear hA
  go_enter Try.func27, Try.ntmps27
  go_wp2_with fail
  refine (HL.out _).mono ?_
  rintro e w2 ⟨rfl, rfl⟩
  go_wp2_with fail
  go_loop [3, 7] (fun p i => ∃ k : Nat, i = .int .i64 (k : Int) ∧ k ≤ x.length ∧ p = .int .i64 (pk x k)) (fun _ i => x.length - (intOf i).toNat)
  case atStart => exact ⟨0, rfl, Nat.zero_le _, rfl⟩
  case round =>
    obtain ⟨k, rfl, hk, rfl⟩ := hrel
    by_cases hlt : k < x.length
    · have PI := pk_in x k
      have ST := Lib.hid (show pk x (k + 1) = if pk x k < 0 ∨ atL x (pk x k) < atL x k then (k : Int) else pk x k from rfl)
      by_cases h0 : pk x k < 0
      · have E := Lib.hid (show (k : Int) = pk x (k + 1) by rw [ST.out, if_pos (Or.inl h0)])
        have d1 := dt h0
        go_wp2_with fail
        go_round
        case rel => exact ⟨k + 1, by go_num, hlt, val_int E.out⟩
        case measure => simp [intOf]; omega
      · have d1 := df h0
        by_cases h1 : atL x (pk x k) < atL x k
        · have E := Lib.hid (show (k : Int) = pk x (k + 1) by rw [ST.out, if_pos (Or.inr h1)])
          have d2 := dt h1
          go_wp2_with (go_at_call 14; refine (HT.out _).mono ?_; rintro e w3 ⟨rfl, rfl⟩)
          go_round
          case rel => exact ⟨k + 1, by go_num, hlt, val_int E.out⟩
          case measure => simp [intOf]; omega
        · have E := Lib.hid (show pk x k = pk x (k + 1) by rw [ST.out, if_neg (by omega)])
          have d2 := df h1
          go_wp2_with (go_at_call 14; refine (HT.out _).mono ?_; rintro e w3 ⟨rfl, rfl⟩)
          go_round
          case rel => exact ⟨k + 1, by go_num, hlt, val_int E.out⟩
          case measure => simp [intOf]; omega
    · obtain rfl : k = x.length := by omega
      go_wp2_with fail
      go_ret
      exact ⟨rfl, rfl⟩
end Go.Proofs.Ytekcknpgpfeijaa.Series
