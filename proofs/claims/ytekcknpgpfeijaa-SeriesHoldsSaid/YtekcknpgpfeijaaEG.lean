/- Contracts of the reference's Hold and Resample. -/
import Derived.Test.YtekcknpgpfeijaaEF
set_option linter.unusedVariables false
namespace Go.Proofs.Ytekcknpgpfeijaa.Series
open Go.RowKit Go.Shelf

set_option maxRecDepth 100000 in
set_option maxHeartbeats 4000000 in
theorem rhold_any (A : Option Addr) (c : Nat) (l : List Pt) (n : Int) (w : World) (hl : l.length ≤ 9223372036854775807) (hA : PtAt w w.heap.size A l) :
    Calls Try.prog 24 #[.slice A l.length c, .int .i64 n] w (OutP w (hoE l n) (hoR l n)) := by
  have HA := Lib.hid hA
  clear hA
  by_cases h1 : n < 0
  · have E := Lib.hid (hoE_lim (l := l) (n := n) (Or.inl h1))
    have R := Lib.hid (hoR_err (l := l) (n := n) (by rw [E.out]; omega))
    have d1 := dt h1
    go_enter Try.func24, Try.ntmps24
    go_wp2_with fail
    go_ret2
    exact outP_err R.out E.out (Below.refl _ _)
  have d1 := df h1
  by_cases h2 : 96 < n
  · have E := Lib.hid (hoE_lim (l := l) (n := n) (Or.inr (Or.inl h2)))
    have R := Lib.hid (hoR_err (l := l) (n := n) (by rw [E.out]; omega))
    have d2 := dt h2
    go_enter Try.func24, Try.ntmps24
    go_wp2_with fail
    go_ret2
    exact outP_err R.out E.out (Below.refl _ _)
  have d2 := df h2
  by_cases h3 : 256 < l.length
  · have E := Lib.hid (hoE_lim (l := l) (n := n) (Or.inr (Or.inr h3)))
    have R := Lib.hid (hoR_err (l := l) (n := n) (by rw [E.out]; omega))
    have d3 := dt (show (256 : Int) < (l.length : Int) by omega)
    go_enter Try.func24, Try.ntmps24
    go_wp2_with fail
    go_ret2
    exact outP_err R.out E.out (Below.refl _ _)
  have d3 := df (show ¬ (256 : Int) < (l.length : Int) by omega)
  have NL : ¬ (n < 0 ∨ 96 < n ∨ 256 < l.length) := by omega
  obtain ⟨m, rfl⟩ : ∃ m : Nat, n = m := ⟨n.toNat, by omega⟩
  have hm96 : m ≤ 96 := by omega
  have hl256 : l.length ≤ 256 := by omega
  have NL := Lib.hid NL
  go_enter Try.func24, Try.ntmps24
  go_wp2_with fail
  clear d1 d2 d3 h1 h2 h3
  go_loopw [6] (fun i wr => ∃ k : Nat, i = .int .i64 ((k : Int) + 1) ∧ k ≤ l.length ∧ (∀ j, j + 1 < k + 1 → j + 1 < l.length → (ptN l j).1 < (ptN l (j + 1)).1) ∧ Below w.heap.size w wr) (fun i _ => l.length + 1 - (intOf i).toNat)
  case atStart => exact ⟨0, rfl, Nat.zero_le _, fun j hj => by omega, Below.refl _ _⟩
  case round =>
    obtain ⟨k, rfl, hk, hasc, hb⟩ := hrel
    have B := Lib.hid hb
    have AS := Lib.hid hasc
    clear hb hasc
    by_cases hlt : k + 1 < l.length
    · obtain ⟨b, p, rfl, g1, g2, _⟩ := (HA.out.below B.out) k (by omega)
      obtain ⟨b2, p2, hA2, g3, g4, _⟩ := (HA.out.below B.out) (k + 1) hlt
      cases hA2
      have i1 : (k : Int) + 1 < (l.length : Int) := by omega
      have i2 : (k : Int) + 1 - 1 = (k : Int) := by omega
      have i3 : (0 : Int) ≤ (k : Int) + 1 := by omega
      have i4 : ((k : Int) + 1).toNat = k + 1 := by omega
      have i5 : (k : Int) < (l.length : Int) := by omega
      by_cases hle : (ptN l k).1 < (ptN l (k + 1)).1
      · have AS2 := Lib.hid (show ∀ j, j + 1 < k + 1 + 1 → j + 1 < l.length → (ptN l j).1 < (ptN l (j + 1)).1 from fun j h1 h2 => by
          by_cases e : j = k
          · subst e; exact hle
          · exact AS.out j (by omega) h2)
        have dd := df (show ¬ (ptN l (k + 1)).1 ≤ (ptN l k).1 by omega)
        generalize (ptN l k).1 = x at *
        generalize (ptN l (k + 1)).1 = y at *
        clear hle
        go_wp2_with fail
        go_quiet (fail)
        go_wp2_with fail
        go_roundw
        case rel => exact ⟨k + 1, by go_num, by omega, AS2.out, below_drewN B.out _⟩
        case measure => simp [intOf]; omega
      · have E := Lib.hid (hoE_ord (n := (m : Int)) NL.out k hlt hle)
        have R := Lib.hid (hoR_err (l := l) (n := (m : Int)) (by rw [E.out]; omega))
        have dd := dt (show (ptN l (k + 1)).1 ≤ (ptN l k).1 by omega)
        generalize (ptN l k).1 = x at *
        generalize (ptN l (k + 1)).1 = y at *
        clear hle
        go_wp2_with fail
        go_quiet (fail)
        go_wp2_with fail
        go_ret2
        exact outP_err R.out E.out (below_drewN B.out _)
    · have AL : Asc l := fun j hj => AS.out j (by omega) hj
      have E := Lib.hid (hoE_ok (n := (m : Int)) NL.out AL)
      have R := Lib.hid (show hoR l (m : Int) = hoL l m by unfold hoR; rw [if_pos E.out]; rfl)
      clear AL
      go_wp2_with fail
      go_loopw [7, 8] (fun v i wt => ∃ s : Nat, i = .int .i64 (s : Int) ∧ s ≤ m ∧ OwnN wt w.heap.size v ((List.range s).map fun i : Nat => hvN l i l.length) ∧ Below w.heap.size w wt) (fun _ i _ => m - (intOf i).toNat)
      case atStart => exact ⟨0, rfl, Nat.zero_le _, World.ownsRow_nil _ _ _ _, B.out⟩
      case round =>
        obtain ⟨s, rfl, hs, hown, hb⟩ := hrel
        have O := Lib.hid hown
        have B2 := Lib.hid hb
        have P2 := Lib.hid (HA.out.below hb)
        have hz := hb.size
        clear hown hb
        by_cases hsm : s < m
        · have ds := dt (show s < m from hsm)
          have ds2 := dt (show (s : Int) < (m : Int) by omega)
          go_wp2_with fail
          go_loop [9, 10] (fun v x => ∃ q : Nat, x = .int .i64 (q : Int) ∧ v = .int .i64 (hvN l s q) ∧ q ≤ l.length) (fun _ x => l.length - (intOf x).toNat)
          case atStart => exact ⟨0, rfl, rfl, Nat.zero_le _⟩
          case round =>
            obtain ⟨q, rfl, rfl, hq⟩ := hrel
            by_cases hql : q < l.length
            · obtain ⟨b, p, rfl, g1, g2, g3⟩ := P2.out q hql
              have ST := show hvN l s (q + 1) = if (ptN l q).1 ≤ s then sat (ptN l q).2 else hvN l s q from rfl
              by_cases hle : (ptN l q).1 ≤ s
              · rw [if_pos hle] at ST
                have V := Lib.hid ST
                have dd := dt hle
                clear hle ST
                generalize (ptN l q).2 = y at *
                generalize (ptN l q).1 = x at *
                go_wp2_with (go_at_call 35; refine (rsat_any _ _).mono ?_; rintro e w3 ⟨rfl, rfl⟩)
                go_round
                case rel => exact ⟨q + 1, by go_num, val_int V.out.symm, hql⟩
                case measure => simp [intOf]; omega
              · rw [if_neg hle] at ST
                have V := Lib.hid ST
                have dd := df hle
                clear hle ST
                generalize (ptN l q).2 = y at *
                generalize (ptN l q).1 = x at *
                go_wp2_with fail
                go_round
                case rel => exact ⟨q + 1, by go_num, val_int V.out.symm, hql⟩
                case measure => simp [intOf]; omega
            · obtain rfl : q = l.length := by omega
              have ST := Lib.hid (range_snoc (fun i : Nat => hvN l i l.length) s)
              obtain ⟨v', w', hap, hown', hbb⟩ := app_one (hvN l s l.length) 22 O.out (by simp; omega) hz
              have O' := Lib.hid (show OwnN w' w.heap.size v' ((List.range (s + 1)).map fun i : Nat => hvN l i l.length) by rw [ST.out]; exact hown')
              have B' := Lib.hid (B2.out.trans hbb)
              clear hown' hbb ST
              go_wp2_with (at_builtin; refine Lib.wpList_append_run _ rfl _ _ _ _ rfl _ _ rfl rfl _ _ hap ?_)
              go_roundw
              case rel => exact ⟨s + 1, by go_num, hsm, O'.out, B'.out⟩
              case measure => simp [intOf]; omega
        · obtain rfl : s = m := by omega
          go_wp2_with fail
          go_ret2
          exact outP_own R.out E.out O.out B2.out

theorem emod_k (i k : Nat) (hk : 1 ≤ k) (q : Nat) (h1 : q * k ≤ i) (h2 : i < q * k + k) : ((i : Int).tmod (k : Int)) = (i : Int) - (q * k : Nat) := by
  rw [Int.tmod_eq_emod_of_nonneg (by omega)]
  have h3 : i % k = i - q * k := by
    have := Nat.add_mul_mod_self_right (i - q * k) q k
    rw [show i - q * k + q * k = i by omega] at this
    rw [this, Nat.mod_eq_of_lt (by omega)]
  omega

set_option maxRecDepth 100000 in
set_option maxHeartbeats 4000000 in
theorem rres_any (A : Option Addr) (c : Nat) (l : List Int) (kk : Int) (w : World) (hl : l.length ≤ 9223372036854775807) (hkk : I64 kk) (hA : NsAt w w.heap.size A l) :
    Calls Try.prog 26 #[.slice A l.length c, .int .i64 kk] w (OutL w (if kk < 1 then [] else grp (rd l) kk.toNat)) := by
  have R1 := Lib.hid (read_any A c l w hl hA)
  have L1 := rd_len l
  have LIM := Lib.hid (lim_rd l)
  generalize rd l = x at *
  unfold I64 at hkk
  clear hA
  by_cases h1 : kk < 1
  · rw [if_pos h1]
    go_enter Try.func26, Try.ntmps26
    go_wp2_with fail
    refine R1.out.mono ?_
    rintro e w2 ⟨A3, c3, rfl, hs, hb⟩
    have B2 := Lib.hid hb
    clear hs hb
    go_wp2_with fail
    go_ret
    exact outL rfl rfl (NsAt.nil _ _ _) B2.out
  rw [if_neg h1]
  obtain ⟨k, rfl⟩ : ∃ k : Nat, kk = k := ⟨kk.toNat, by omega⟩
  have hk1 : 1 ≤ k := by omega
  have hkne : ((k : Int) == 0) = false := by simp; omega
  have hkne2 : (k : Int) ≠ 0 := by omega
  rw [show ((k : Int)).toNat = k from rfl]
  have hkb : (k : Int) ≤ 9223372036854775807 := hkk.2
  clear hkk
  go_enter Try.func26, Try.ntmps26
  go_wp2_with fail
  refine R1.out.mono ?_
  rintro e w2 ⟨A3, c3, rfl, hs, hb⟩
  have B2 := Lib.hid hb
  have S1 := Lib.hid hs
  clear hs hb
  go_wp2_with fail
  go_loopw [6, 7, 8] (fun v s i wr => ∃ j q : Nat, i = .int .i64 (j : Int) ∧ j ≤ x.length ∧ OwnN wr w2.heap.size v ((List.range q).map (gN x k)) ∧ q ≤ j ∧ Below w2.heap.size w2 wr ∧
    ((j < x.length ∧ q * k ≤ j ∧ j < q * k + k ∧ s = .int .i64 (P x j - P x (q * k))) ∨ (j = x.length ∧ s = .int .i64 0 ∧ gct x.length k = q))) (fun _ _ i _ => x.length - (intOf i).toNat)
  case atStart =>
    refine ⟨0, 0, rfl, Nat.zero_le _, World.ownsRow_nil _ _ _ _, Nat.le_refl _, Below.refl _ _, ?_⟩
    by_cases h : 0 < x.length
    · exact Or.inl ⟨h, by omega, by omega, val_int (by rw [Nat.zero_mul]; omega)⟩
    · exact Or.inr ⟨by omega, rfl, gct_eq hk1 (by omega) (fun i hi => by omega)⟩
  case round =>
    obtain ⟨j, q, rfl, hj, hown, hqj, hb, hcase⟩ := hrel
    have O := Lib.hid hown
    have B := Lib.hid hb
    have hz := hb.size
    clear hown hb
    rcases hcase with ⟨hlt, hq1, hq2, rfl⟩ | ⟨rfl, rfl, hg⟩
    · obtain ⟨b0, p, rfl, g1, g2⟩ := (S1.out.next B.out) j hlt
      have PS := P_succ x j hlt
      have b1 := P_lim LIM.out L1 j
      have b2 := P_lim LIM.out L1 (q * k)
      have b3 := LIM.out x[j] (List.getElem_mem _)
      have TM := emod_k j k hk1 q hq1 hq2
      have ST := Lib.hid (range_snoc (gN x k) q)
      obtain ⟨t, ht⟩ : ∃ t, t = q * k := ⟨_, rfl⟩
      have T := Lib.hid ht
      have TS := Lib.hid (show (q + 1) * k = t + k by rw [ht, Nat.succ_mul])
      rw [← ht] at hq1 hq2 b2 TM ⊢
      have tm0 : 0 ≤ (j : Int) - (t : Int) := by omega
      generalize hX : x[j] = y at *
      have hsum : P x j - P x t + y = P x (j + 1) - P x t := by omega
      have HS := Lib.hid hsum
      have bS : -422212465065984 ≤ P x (j + 1) - P x t ∧ P x (j + 1) - P x t ≤ 422212465065984 := by omega
      clear hX ht
      by_cases hfull : j + 1 = t + k
      · have E1 := Lib.hid (show sat (P x (j + 1) - P x t) = gN x k q by unfold gN; rw [TS.out, ← T.out, hfull])
        obtain ⟨v', w', hap, hown', hbb⟩ := app_one (sat (P x (j + 1) - P x t)) 22 O.out (by simp; omega) hz
        have O' := Lib.hid (show OwnN w' w2.heap.size v' ((List.range (q + 1)).map (gN x k)) by rw [ST.out, ← E1.out]; exact hown')
        have B' := Lib.hid (B.out.trans hbb)
        have e1 : ((j : Int) - (t : Int) == (k : Int) - 1) = true := by simp; omega
        rw [← hsum] at hap
        clear hown' hbb ST PS hsum
        go_wp2_with fail
        refine (rsat_any _ _).mono ?_
        rintro e w5 ⟨rfl, rfl⟩
        go_wp2_with (at_builtin; refine Lib.wpList_append_run _ rfl _ _ _ _ rfl _ _ rfl rfl _ _ hap ?_)
        go_roundw
        case rel =>
          refine ⟨j + 1, q + 1, by go_num, hlt, O'.out, by omega, B'.out, ?_⟩
          have := TS.out
          by_cases h : j + 1 < x.length
          · exact Or.inl ⟨h, by omega, by omega, val_int (by rw [this, hfull]; omega)⟩
          · exact Or.inr ⟨by omega, rfl, gct_eq hk1 (by omega) (fun i hi => by
              have hiq : i = q := by omega
              subst hiq
              have := T.out
              omega)⟩
        case measure => simp [intOf]; omega
      · by_cases hend : j + 1 = x.length
        · have PF := P_full x (t + k) (by omega)
          have E1 := Lib.hid (show sat (P x (j + 1) - P x t) = gN x k q by unfold gN; rw [TS.out, ← T.out, PF, hend])
          obtain ⟨v', w', hap, hown', hbb⟩ := app_one (sat (P x (j + 1) - P x t)) 22 O.out (by simp; omega) hz
          have O' := Lib.hid (show OwnN w' w2.heap.size v' ((List.range (q + 1)).map (gN x k)) by rw [ST.out, ← E1.out]; exact hown')
          have B' := Lib.hid (B.out.trans hbb)
          have e1 : ((j : Int) - (t : Int) == (k : Int) - 1) = false := by simp; omega
          have e2 : ((j : Int) == (x.length : Int) - 1) = true := by simp; omega
          rw [← hsum] at hap
          clear hown' hbb ST PS PF hsum
          go_wp2_with fail
          refine (rsat_any _ _).mono ?_
          rintro e w5 ⟨rfl, rfl⟩
          go_wp2_with (at_builtin; refine Lib.wpList_append_run _ rfl _ _ _ _ rfl _ _ rfl rfl _ _ hap ?_)
          go_roundw
          case rel =>
            refine ⟨j + 1, q + 1, by go_num, hlt, O'.out, by omega, B'.out, ?_⟩
            have := TS.out
            exact Or.inr ⟨by omega, rfl, gct_eq hk1 (by omega) (fun i hi => by
              have hiq : i = q := by omega
              subst hiq
              have := T.out
              omega)⟩
          case measure => simp [intOf]; omega
        · have e1 : ((j : Int) - (t : Int) == (k : Int) - 1) = false := by simp; omega
          have e2 : ((j : Int) == (x.length : Int) - 1) = false := by simp; omega
          clear ST PS hsum
          go_wp2_with fail
          go_roundw
          case rel =>
            have := T.out
            exact ⟨j + 1, q, by go_num, hlt, O.out, by omega, B.out, Or.inl ⟨by omega, by omega, by omega, val_int (by rw [HS.out, T.out])⟩⟩
          case measure => simp [intOf]; omega
    · have E := Lib.hid (show grp x k = (List.range q).map (gN x k) by unfold grp; rw [hg])
      clear hg
      go_wp2_with fail
      go_ret
      exact outL_own E.out O.out (B2.out.trans (B.out.mono B2.out.size))
end Go.Proofs.Ytekcknpgpfeijaa.Series
