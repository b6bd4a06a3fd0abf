/- LinksRanked walked. -/
import Derived.Test.YthfkmmgckiijcaaLT
import Derived.Deep.RegionHeld3
import Derived.StillTailTactics
set_option linter.unusedVariables false
namespace Go.Proofs.Ythfkmmgckiijcaa.Lnk
open Go.RowKit

/-- The lexical walk of the head of a region, as a structure, so that no tactic reckons it. -/
structure SH (P : Program) (ops : Array Oper) (w : World) (Q : Act → Prop) (l : List Oper) (a : Act) : Prop where
  out : wpStill P ops w Q l a
section
variable {P : Program} {ops : Array Oper} {w : World} {Q : Act → Prop} {a : Act} {o : Oper} {rest : List Oper}
theorem sh_skip (hw : Region.wanted o (yielded ops a.tmps) = false) (h : SH P ops w Q rest (a.put o.dst undef)) : SH P ops w Q (o :: rest) a :=
  ⟨wpStill_step fun K hK => by rw [if_neg (by rw [hw]; exact Bool.false_ne_true)]; exact hK _ h.out⟩
theorem sh_value (v : Value) (hr : (execOp a.eval o).run P w = .ok (.value v) w) (hw : Region.wanted o (yielded ops a.tmps) = true) (h : SH P ops w Q rest (a.put o.dst v)) : SH P ops w Q (o :: rest) a :=
  ⟨wpStill_step fun K hK => by rw [if_pos hw]; unfold Oper.still; rw [hr, Oper.stillUpon_value]; exact hK _ h.out⟩
theorem sh_nil (h : Q a) : SH P ops w Q [] a := ⟨h⟩
end

theorem at_zero {o : Oper} {r : List Oper} : (o :: r).toArray[0]? = some o := rfl
theorem at_succ {x o : Oper} {r : List Oper} {n : Nat} (h : r.toArray[n]? = some o) : (x :: r).toArray[n + 1]? = some o := by simpa using h

/-- How many of the first i entries have a finite cost. -/
def many (l : List Lk) (i : Nat) : Nat := ((l.take i).filter fun x => decide (cost l x.1 ≤ 160)).length
theorem many_yes (l : List Lk) (i : Nat) (h : i < l.length) (hc : cost l l[i].1 ≤ 160) : many l (i + 1) = many l i + 1 := by
  unfold many; rw [take_one l i h, List.filter_append]; simp [hc]
theorem many_no (l : List Lk) (i : Nat) (h : i < l.length) (hc : ¬ cost l l[i].1 ≤ 160) : many l (i + 1) = many l i := by
  unfold many; rw [take_one l i h, List.filter_append]; simp [hc]
theorem many_le (l : List Lk) (i : Nat) : many l i ≤ i := by
  unfold many
  exact Nat.le_trans (List.length_filter_le _ _) (by rw [List.length_take]; omega)
theorem many_all (l : List Lk) (hv : Val l) : many l l.length = (bst l).length := by
  rw [best_len (bst_is l)]
  unfold many nodes
  rw [vl_id l hv, List.take_length, List.filter_map, List.length_map]
  rfl

set_option maxRecDepth 100000 in
set_option maxHeartbeats 4000000 in
theorem law_ranked (w : World) (A : Option Addr) (c : Nat) (l : List Lk) (hl : l.length ≤ 9223372036854775807) (hc : l.length ≤ c) (hc0 : A = none → c = 0) (hA : LkAt w w.heap.size A l) :
    Calls Try.prog 8 #[.slice A l.length c] w (OutB w true) := by
  have HA := Lib.hid hA
  have K0 := Lib.hid (fun w hA => rcheck_any A c l w hl hA)
  clear hA
  by_cases h300 : chk l ≠ 0
  · have d1 : (chk l != 0) = true := by simpa using h300
    clear hc0
    generalize chk l = q at *
    clear h300
    go_enter Try.func8, Try.ntmps8
    go_wp2_with fail
    refine (K0.out _ HA.out).mono ?_
    rintro _ w1 ⟨rfl, hb⟩
    have B1 := Lib.hid hb
    clear hb
    go_wp2_with fail
    refine (awake_any _).mono ?_
    rintro _ w2 ⟨rfl, hb⟩
    have B2 := Lib.hid (B1.out.trans (hb.mono B1.out.size))
    clear hb
    go_wp2_with fail
    go_ret
    exact outB rfl B2.out
  have h0 : chk l = 0 := by omega
  have V := (chk_zero l).1 h0
  have HL := Lib.hid V.1
  have MA := Lib.hid (many_all l V)
  have MY := Lib.hid (many_yes l)
  have MN := Lib.hid (many_no l)
  have ML := Lib.hid (many_le l)
  have M0 := Lib.hid (show many l 0 = 0 from rfl)
  have BI := Lib.hid (bst_is l)
  have BM := Lib.hid (fun n (h : n ∈ bst l) => (show 10 ≤ cost l n ∧ cost l n ≤ 160 from by have := ((bst_is l).1 n).1 h; have := cost_in l n; omega))
  have BP : Hid (∀ (m : Nat) (h0 : m < (bst l).length) (h : m + 1 < (bst l).length), Bef l ((bst l)[m]'h0) ((bst l)[m + 1]'h)) := Lib.hid (fun m h0 h => List.pairwise_iff_getElem.1 (bst_is l).2 m (m + 1) h0 h (Nat.lt_succ_self m))
  have K1 := Lib.hid (fun w hA => lbest_any A c l w hl hc hc0 hA)
  have K2 := Lib.hid (fun n wz (hb : Below w.heap.size w wz) => lcost_any A c l n wz hl hc hc0 (HA.out.next hb))
  have BL : Hid ((bst l).length ≤ 24) := Lib.hid (by have := many_all l V; have := many_le l l.length; have := V.1; omega)
  rw [h0] at K0
  unfold Bef at BP
  clear h300 h0 V hc0 BI
  generalize many l = mf at *
  generalize bst l = bb at *
  generalize hcf : cost l = cf at *
  clear hcf
  go_enter Try.func8, Try.ntmps8
  go_wp2_with fail
  refine (K0.out _ HA.out).mono ?_
  rintro _ w1 ⟨rfl, hb⟩
  have B1 := Lib.hid hb
  have HA1 := Lib.hid (HA.out.next hb)
  clear hb K0
  go_wp2_with fail
  refine (K1.out _ HA1.out).mono ?_
  rintro _ w2 ⟨Xa, Xc, rfl, hs, _, _, hb⟩
  have X := Lib.hid hs
  have B2 := Lib.hid (B1.out.trans (hb.mono B1.out.size))
  clear hb hs K1 HA1 B1
  go_wp2_with fail
  go_loopw [4, 5] (fun q i wr => ∃ k : Nat, q = .int .i64 (mf k : Nat) ∧ i = .int .i64 k ∧ k ≤ l.length ∧ Hid (Below w.heap.size w wr) ∧ Hid (FlAt fI wr wr.heap.size Xa bb)) (fun _ i _ => l.length - (intOf i).toNat)
  case atStart => exact ⟨0, by rw [M0.out]; rfl, rfl, Nat.zero_le _, B2, X⟩
  case round =>
    clear B2 X
    obtain ⟨k, rfl, rfl, hk, B, X⟩ := hrel
    by_cases hlt : k < l.length
    · obtain ⟨b, p, rfl, hbw, g0, g1, g2, g3, g4, g5⟩ := lk_cell (HA.out.next B.out) k hlt
      have YY := Lib.hid (MY.out k hlt)
      have YN := Lib.hid (MN.out k hlt)
      have K3 := Lib.hid (K2.out l[k].1 _ B.out)
      have L0 := ML.out k
      have L1 := HL.out
      clear g1 g2 g4 g5 MY MN ML HL BP BM
      generalize cf l[k].1 = q at *
      generalize l[k].1 = x0 at *
      by_cases hq : q ≤ 160
      · have R := Lib.hid (YY.out (by first | exact hq | omega))
        have d1 := dt hq
        clear YY YN
        go_wp2_with fail
        refine K3.out.mono ?_
        rintro _ w3 ⟨rfl, hb⟩
        have B3 := Lib.hid (B.out.trans (hb.mono B.out.size))
        have X3 := Lib.hid (X.out.next hb)
        clear hb
        go_wp2_with fail
        go_roundw
        case rel => exact ⟨k + 1, by rw [R.out]; go_num, by go_num, hlt, B3, X3⟩
        case measure => simp [intOf]; omega
      · have R := Lib.hid (YN.out (by first | exact hq | omega))
        have d1 := df hq
        clear YY YN
        go_wp2_with fail
        refine K3.out.mono ?_
        rintro _ w3 ⟨rfl, hb⟩
        have B3 := Lib.hid (B.out.trans (hb.mono B.out.size))
        have X3 := Lib.hid (X.out.next hb)
        clear hb
        go_wp2_with fail
        go_roundw
        case rel => exact ⟨k + 1, by rw [R.out], by go_num, hlt, B3, X3⟩
        case measure => simp [intOf]; omega
    · obtain rfl : k = l.length := by omega
      rw [MA.out]
      clear hk hlt MA MY MN ML HL M0
      go_wp2_with fail
      go_loopw [6, 7] (fun i _ wx => ∃ k : Nat, i = .int .i64 k ∧ k ≤ bb.length ∧ Hid (Below w.heap.size w wx) ∧ Hid (FlAt fI wx wx.heap.size Xa bb)) (fun i _ _ => bb.length - (intOf i).toNat)
      case atStart => exact ⟨0, rfl, Nat.zero_le _, B, X⟩
      case round =>
        clear B X
        obtain ⟨k, rfl, hk, B, X⟩ := hrel
        by_cases hlt : k < bb.length
        · obtain ⟨b, p, rfl, hbw, g0, gi⟩ := fI_cell X.out k hlt
          have Q1 := Lib.hid (BM.out bb[k] (List.getElem_mem hlt))
          have K3 := Lib.hid (K2.out bb[k] _ B.out)
          have L1 := BL.out
          by_cases hk0 : k = 0
          · subst hk0
            have q1 := Q1.out
            clear BP BM K2 gi
            rw [Nat.add_zero] at g0
            generalize cf bb[0] = q at *
            generalize bb[0] = x1 at *
            have e1 := df (show ¬ q < 10 by omega)
            have e2 := df (show ¬ 160 < q by omega)
            clear q1
            go_wp2_with fail
            refine K3.out.mono ?_
            rintro _ w4 ⟨rfl, hb⟩
            have B4 := Lib.hid (B.out.trans (hb.mono B.out.size))
            have X4 := Lib.hid (X.out.next hb)
            clear hb K3 X B g0
            go_wp2_with fail
            refine wp_region_still_tail 35 (by kernel_rfl) (by kernel_rfl) (SH.out ?_)
            simp only [List.take_succ_cons, List.take_zero, List.drop_succ_cons, List.drop_zero]
            refine sh_value (.int .i64 0) (by kernel_rfl) (by kernel_rfl) ?_
            refine sh_value (.bool false) (by kernel_rfl) (by kernel_rfl) ?_
            refine sh_value (.bool false) (by kernel_rfl) (by kernel_rfl) ?_
            iterate 32 refine sh_skip (by kernel_rfl) ?_
            refine sh_nil ?_
            simp only [Act.put, List.setIfInBounds_toArray, List.set_cons_zero, List.set_cons_succ]
            have B5 := Lib.hid (show Below w.heap.size w w4.drew from B4.out.drew)
            have X5 := Lib.hid (show FlAt fI w4.drew w4.drew.heap.size (some ⟨b, p, none⟩) bb from X4.out.next (Below.refl _ _).drew)
            clear B4 X4
            change wpList _ _ _ _ _ w4.drew
            generalize w4.drew = w5 at *
            go_wp2_with fail
            go_roundw
            case rel => exact ⟨1, by go_num, hlt, B5, X5⟩
            case measure => simp [intOf]; omega
          · obtain ⟨m, rfl⟩ : ∃ m, k = m + 1 := ⟨k - 1, by omega⟩
            have hm : m < bb.length := by omega
            obtain ⟨_, _, e, _, g1, _⟩ := fI_cell X.out m hm
            obtain ⟨rfl, rfl⟩ : b = _ ∧ p = _ := by simpa using e
            have K5 := Lib.hid (fun wz (h : Below w.heap.size w wz) => K2.out bb[m] wz h)
            have PQ := Lib.hid (BP.out m hm hlt)
            have q1 := Q1.out
            have CC := Lib.hid (fun wz (h : Below wr.heap.size wr wz) => And.intro ((h.cell (p := ⟨b, p + m, none⟩) hbw).trans g1) ((h.cell (p := ⟨b, p + (m + 1), none⟩) hbw).trans g0))
            have hz0 := B.out.size
            clear BP BM K2 gi e g1 Q1
            generalize cf bb[m + 1] = q at *
            generalize bb[m + 1] = x1 at *
            generalize cf bb[m] = q0 at *
            generalize bb[m] = x0 at *
            have e1 := df (show ¬ q < 10 by omega)
            have e2 := df (show ¬ 160 < q by omega)
            have e3 := df (show ¬ q < q0 by have := PQ.out; omega)
            clear q1
            have i0 : (0 : Int) ≤ (m : Int) := by omega
            have i2 : (m : Int) + 1 - 1 = (m : Int) := by omega
            have i3 : (0 : Int) < (m : Int) + 1 := by omega
            have i7 : (0 : Int) ≤ (m : Int) + 1 := by omega
            have i5 : (m : Int) < (bb.length : Int) := by omega
            have i6 : (m : Int) + 1 < (bb.length : Int) := by omega
            have i8 : IntKind.i64.wrap (m : Int) = (m : Int) := IntWalk.i64_in _ ⟨by omega, by omega⟩
            have i9 : IntKind.i64.wrap ((m : Int) + 1 - 1) = (m : Int) := by rw [i2, i8]
            have j1 : (m : Int) ≤ 9223372036854775807 := by omega
            have j2 : (-9223372036854775808 : Int) ≤ (m : Int) := by omega
            by_cases hq : q0 = q
            · subst hq
              have e4 : (q0 == q0) = true := by simp
              have e5 := df (show ¬ x1 ≤ x0 by have := PQ.out; omega)
              clear PQ e3
              have e3 := df (show ¬ q0 < q0 by omega)
              go_wp2_with fail
              refine K3.out.mono ?_
              rintro _ w4 ⟨rfl, hb⟩
              have C4 := hb
              have B4 := Lib.hid (B.out.trans (hb.mono hz0))
              have X4 := Lib.hid (X.out.next hb)
              clear hb K3 X B g0
              have HK := Lib.hid (fun wz (h : Below w4.heap.size w4 wz) => K5.out wz (B4.out.trans (h.mono B4.out.size)))
              have HC := Lib.hid (fun wz (h : Below w4.heap.size w4 wz) => CC.out wz (C4.trans (h.mono C4.size)))
              clear K5 CC C4
              go_wp2_with fail
              have Z0 : Below w4.heap.size w4 w4.drew := (Below.refl _ _).drew
              go_region_held3 (fun w' => w'.cell? ⟨b, p + m, none⟩ = some (.int .i64 x0) ∧ w'.cell? ⟨b, p + (m + 1), none⟩ = some (.int .i64 x1))
                (first | exact HC.out _ Z2 | exact HC.out _ Z1 | exact HC.out _ Z0 | fail)
                (first
                | (go_at_call 17; first | (refine (HK.out _ Z1).mono ?_; rintro e wb ⟨rfl, hb⟩; have Z2 := Z1.trans (hb.mono Z1.size); clear hb) | (refine (HK.out _ Z0).mono ?_; rintro e wa ⟨rfl, hb⟩; have Z1 := Z0.trans (hb.mono Z0.size); clear hb)) | fail)
              all_goals
                first
                | have B5 := Lib.hid (B4.out.trans (Z2.mono B4.out.size)); have X5 := Lib.hid (X4.out.next Z2); clear Z0 Z1 Z2
                | have B5 := Lib.hid (B4.out.trans (Z1.mono B4.out.size)); have X5 := Lib.hid (X4.out.next Z1); clear Z0 Z1
                clear B4 X4 HK HC
                go_wp2_with fail
                go_roundw
                case rel => exact ⟨m + 1 + 1, by go_num, hlt, B5, X5⟩
                case measure => simp [intOf]; omega
            · have e4 : (q0 == q) = false := by simpa using hq
              have e6 : decide (q0 = q) = false := by simpa using hq
              clear PQ
              go_wp2_with fail
              refine K3.out.mono ?_
              rintro _ w4 ⟨rfl, hb⟩
              have C4 := hb
              have B4 := Lib.hid (B.out.trans (hb.mono hz0))
              have X4 := Lib.hid (X.out.next hb)
              clear hb K3 X B g0
              have HK := Lib.hid (fun wz (h : Below w4.heap.size w4 wz) => K5.out wz (B4.out.trans (h.mono B4.out.size)))
              have HC := Lib.hid (fun wz (h : Below w4.heap.size w4 wz) => CC.out wz (C4.trans (h.mono C4.size)))
              clear K5 CC C4
              go_wp2_with fail
              have Z0 : Below w4.heap.size w4 w4.drew := (Below.refl _ _).drew
              refine wp_region_held_drew (S := (fun w' : World => w'.cell? ⟨b, p + m, none⟩ = some (.int .i64 x0) ∧ w'.cell? ⟨b, p + (m + 1), none⟩ = some (.int .i64 x1))) (by kernel_rfl) (HC.out _ Z0) (fun hHeld => ?_)
              refine wpAnyH_take (i := 0) (v := (.int .i64 ((m : Int) + 1))) at_zero (by kernel_rfl) (by kernel_rfl) (by kernel_rfl) (fun _ _ _ h => h) (Or.inl ⟨by kernel_rfl, fun wy hSw => ?_⟩) (by assumption) ?_
              · (try dsimp only at hSw); go_simp
              try simp only [Act.put, List.setIfInBounds_toArray, List.set_cons_zero, List.set_cons_succ]
              refine wpAnyH_take (i := 1) (v := (.bool true)) (at_succ at_zero) (by kernel_rfl) (by kernel_rfl) (by kernel_rfl) (fun _ _ _ h => h) (Or.inl ⟨by kernel_rfl, fun wy hSw => ?_⟩) (by assumption) ?_
              · (try dsimp only at hSw); go_simp
              try simp only [Act.put, List.setIfInBounds_toArray, List.set_cons_zero, List.set_cons_succ]
              refine wpAnyH_take (i := 2) (v := (.bool true)) (at_succ (at_succ at_zero)) (by kernel_rfl) (by kernel_rfl) (by kernel_rfl) (fun _ _ _ h => h) (Or.inl ⟨by kernel_rfl, fun wy hSw => ?_⟩) (by assumption) ?_
              · (try dsimp only at hSw); go_simp
              try simp only [Act.put, List.setIfInBounds_toArray, List.set_cons_zero, List.set_cons_succ]
              refine wpAnyH_take (i := 3) (v := (.slice A l.length c)) (at_succ (at_succ (at_succ at_zero))) (by kernel_rfl) (by kernel_rfl) (by kernel_rfl) (fun _ _ _ h => h) (Or.inl ⟨by kernel_rfl, fun wy hSw => ?_⟩) (by assumption) ?_
              · (try dsimp only at hSw); go_simp
              try simp only [Act.put, List.setIfInBounds_toArray, List.set_cons_zero, List.set_cons_succ]
              refine wpAnyH_take (i := 4) (v := (.slice (some ⟨b, p, none⟩) bb.length Xc)) (at_succ (at_succ (at_succ (at_succ at_zero)))) (by kernel_rfl) (by kernel_rfl) (by kernel_rfl) (fun _ _ _ h => h) (Or.inl ⟨by kernel_rfl, fun wy hSw => ?_⟩) (by assumption) ?_
              · (try dsimp only at hSw); go_simp
              try simp only [Act.put, List.setIfInBounds_toArray, List.set_cons_zero, List.set_cons_succ]
              refine wpAnyH_take (i := 5) (v := (.int .i64 ((m : Int) + 1))) (at_succ (at_succ (at_succ (at_succ (at_succ at_zero))))) (by kernel_rfl) (by kernel_rfl) (by kernel_rfl) (fun _ _ _ h => h) (Or.inl ⟨by kernel_rfl, fun wy hSw => ?_⟩) (by assumption) ?_
              · (try dsimp only at hSw); go_simp
              try simp only [Act.put, List.setIfInBounds_toArray, List.set_cons_zero, List.set_cons_succ]
              refine wpAnyH_take (i := 6) (v := (.int .i64 (m : Int))) (at_succ (at_succ (at_succ (at_succ (at_succ (at_succ at_zero)))))) (by kernel_rfl) (by kernel_rfl) (by kernel_rfl) (fun _ _ _ h => h) (Or.inl ⟨by kernel_rfl, fun wy hSw => ?_⟩) (by assumption) ?_
              · (try dsimp only at hSw); go_simp
              try simp only [Act.put, List.setIfInBounds_toArray, List.set_cons_zero, List.set_cons_succ]
              refine wpAnyH_take (i := 7) (v := (.pointer (some ⟨b, p + m, none⟩))) (at_succ (at_succ (at_succ (at_succ (at_succ (at_succ (at_succ at_zero))))))) (by kernel_rfl) (by kernel_rfl) (by kernel_rfl) (fun _ _ _ h => h) (Or.inl ⟨by kernel_rfl, fun wy hSw => ?_⟩) (by assumption) ?_
              · (try dsimp only at hSw); go_simp
              try simp only [Act.put, List.setIfInBounds_toArray, List.set_cons_zero, List.set_cons_succ]
              refine wpAnyH_take (i := 8) (v := (.int .i64 x0)) (at_succ (at_succ (at_succ (at_succ (at_succ (at_succ (at_succ (at_succ at_zero)))))))) (by kernel_rfl) (by kernel_rfl) (by kernel_rfl) (fun _ _ _ h => h) (Or.inl ⟨by kernel_rfl, fun wy hSw => ?_⟩) (by assumption) ?_
              · (try dsimp only at hSw); go_simp
              try simp only [Act.put, List.setIfInBounds_toArray, List.set_cons_zero, List.set_cons_succ]
              refine wpAnyH_take (i := 10) (v := (.int .i64 q)) (at_succ (at_succ (at_succ (at_succ (at_succ (at_succ (at_succ (at_succ (at_succ (at_succ at_zero)))))))))) (by kernel_rfl) (by kernel_rfl) (by kernel_rfl) (fun _ _ _ h => h) (Or.inl ⟨by kernel_rfl, fun wy hSw => ?_⟩) (by assumption) ?_
              · (try dsimp only at hSw); go_simp
              try simp only [Act.put, List.setIfInBounds_toArray, List.set_cons_zero, List.set_cons_succ]
              refine wpAnyH_ready (rs := [9]) (by kernel_rfl) (by simp) ?_
              refine AllReadyH.cons (at_succ (at_succ (at_succ (at_succ (at_succ (at_succ (at_succ (at_succ (at_succ at_zero))))))))) (fun K hK => ?_) AllReadyH.nil
              rw [if_pos (by kernel_rfl)]
              go_simp
              refine (HK.out _ Z0).mono ?_
              rintro e wa ⟨rfl, hb⟩
              have Z1 := Z0.trans (hb.mono Z0.size)
              clear hb hHeld
              go_wp2_with fail
              refine hK.out _ _ (HC.out _ Z1) (fun hHeld => ?_)
              clear hK K
              try simp only [Act.put, List.setIfInBounds_toArray, List.set_cons_zero, List.set_cons_succ]
              refine wpAnyH_take (i := 11) (v := (.bool false)) (at_succ (at_succ (at_succ (at_succ (at_succ (at_succ (at_succ (at_succ (at_succ (at_succ (at_succ at_zero))))))))))) (by kernel_rfl) (by kernel_rfl) (by kernel_rfl) (fun _ _ _ h => h) (Or.inl ⟨by kernel_rfl, fun wy hSw => ?_⟩) (by assumption) ?_
              · (try dsimp only at hSw); go_simp
              try simp only [Act.put, List.setIfInBounds_toArray, List.set_cons_zero, List.set_cons_succ]
              refine wpAnyH_take (i := 12) (v := (.bool false)) (at_succ (at_succ (at_succ (at_succ (at_succ (at_succ (at_succ (at_succ (at_succ (at_succ (at_succ (at_succ at_zero)))))))))))) (by kernel_rfl) (by kernel_rfl) (by kernel_rfl) (fun _ _ _ h => h) (Or.inl ⟨by kernel_rfl, fun wy hSw => ?_⟩) (by assumption) ?_
              · (try dsimp only at hSw); go_simp
              try simp only [Act.put, List.setIfInBounds_toArray, List.set_cons_zero, List.set_cons_succ]
              refine wpAnyH_take (i := 13) (v := (.slice A l.length c)) (at_succ (at_succ (at_succ (at_succ (at_succ (at_succ (at_succ (at_succ (at_succ (at_succ (at_succ (at_succ (at_succ at_zero))))))))))))) (by kernel_rfl) (by kernel_rfl) (by kernel_rfl) (fun _ _ _ h => h) (Or.inl ⟨by kernel_rfl, fun wy hSw => ?_⟩) (by assumption) ?_
              · (try dsimp only at hSw); go_simp
              try simp only [Act.put, List.setIfInBounds_toArray, List.set_cons_zero, List.set_cons_succ]
              refine wpAnyH_take (i := 14) (v := (.slice (some ⟨b, p, none⟩) bb.length Xc)) (at_succ (at_succ (at_succ (at_succ (at_succ (at_succ (at_succ (at_succ (at_succ (at_succ (at_succ (at_succ (at_succ (at_succ at_zero)))))))))))))) (by kernel_rfl) (by kernel_rfl) (by kernel_rfl) (fun _ _ _ h => h) (Or.inl ⟨by kernel_rfl, fun wy hSw => ?_⟩) (by assumption) ?_
              · (try dsimp only at hSw); go_simp
              try simp only [Act.put, List.setIfInBounds_toArray, List.set_cons_zero, List.set_cons_succ]
              refine wpAnyH_take (i := 15) (v := (.int .i64 ((m : Int) + 1))) (at_succ (at_succ (at_succ (at_succ (at_succ (at_succ (at_succ (at_succ (at_succ (at_succ (at_succ (at_succ (at_succ (at_succ (at_succ at_zero))))))))))))))) (by kernel_rfl) (by kernel_rfl) (by kernel_rfl) (fun _ _ _ h => h) (Or.inl ⟨by kernel_rfl, fun wy hSw => ?_⟩) (by assumption) ?_
              · (try dsimp only at hSw); go_simp
              try simp only [Act.put, List.setIfInBounds_toArray, List.set_cons_zero, List.set_cons_succ]
              refine wpAnyH_take (i := 16) (v := (.int .i64 (m : Int))) (at_succ (at_succ (at_succ (at_succ (at_succ (at_succ (at_succ (at_succ (at_succ (at_succ (at_succ (at_succ (at_succ (at_succ (at_succ (at_succ at_zero)))))))))))))))) (by kernel_rfl) (by kernel_rfl) (by kernel_rfl) (fun _ _ _ h => h) (Or.inl ⟨by kernel_rfl, fun wy hSw => ?_⟩) (by assumption) ?_
              · (try dsimp only at hSw); go_simp
              try simp only [Act.put, List.setIfInBounds_toArray, List.set_cons_zero, List.set_cons_succ]
              refine wpAnyH_take (i := 17) (v := (.pointer (some ⟨b, p + m, none⟩))) (at_succ (at_succ (at_succ (at_succ (at_succ (at_succ (at_succ (at_succ (at_succ (at_succ (at_succ (at_succ (at_succ (at_succ (at_succ (at_succ (at_succ at_zero))))))))))))))))) (by kernel_rfl) (by kernel_rfl) (by kernel_rfl) (fun _ _ _ h => h) (Or.inl ⟨by kernel_rfl, fun wy hSw => ?_⟩) (by assumption) ?_
              · (try dsimp only at hSw); go_simp
              try simp only [Act.put, List.setIfInBounds_toArray, List.set_cons_zero, List.set_cons_succ]
              refine wpAnyH_take (i := 18) (v := (.int .i64 x0)) (at_succ (at_succ (at_succ (at_succ (at_succ (at_succ (at_succ (at_succ (at_succ (at_succ (at_succ (at_succ (at_succ (at_succ (at_succ (at_succ (at_succ (at_succ at_zero)))))))))))))))))) (by kernel_rfl) (by kernel_rfl) (by kernel_rfl) (fun _ _ _ h => h) (Or.inl ⟨by kernel_rfl, fun wy hSw => ?_⟩) (by assumption) ?_
              · (try dsimp only at hSw); go_simp
              try simp only [Act.put, List.setIfInBounds_toArray, List.set_cons_zero, List.set_cons_succ]
              refine wpAnyH_take (i := 20) (v := (.int .i64 q)) (at_succ (at_succ (at_succ (at_succ (at_succ (at_succ (at_succ (at_succ (at_succ (at_succ (at_succ (at_succ (at_succ (at_succ (at_succ (at_succ (at_succ (at_succ (at_succ (at_succ at_zero)))))))))))))))))))) (by kernel_rfl) (by kernel_rfl) (by kernel_rfl) (fun _ _ _ h => h) (Or.inl ⟨by kernel_rfl, fun wy hSw => ?_⟩) (by assumption) ?_
              · (try dsimp only at hSw); go_simp
              try simp only [Act.put, List.setIfInBounds_toArray, List.set_cons_zero, List.set_cons_succ]
              refine wpAnyH_ready (rs := [19]) (by kernel_rfl) (by simp) ?_
              refine AllReadyH.cons (at_succ (at_succ (at_succ (at_succ (at_succ (at_succ (at_succ (at_succ (at_succ (at_succ (at_succ (at_succ (at_succ (at_succ (at_succ (at_succ (at_succ (at_succ (at_succ at_zero))))))))))))))))))) (fun K hK => ?_) AllReadyH.nil
              rw [if_pos (by kernel_rfl)]
              go_simp
              refine (HK.out _ Z1).mono ?_
              rintro e wb ⟨rfl, hb⟩
              have Z2 := Z1.trans (hb.mono Z1.size)
              clear hb hHeld
              go_wp2_with fail
              refine hK.out _ _ (HC.out _ Z2) (fun hHeld => ?_)
              clear hK K
              try simp only [Act.put, List.setIfInBounds_toArray, List.set_cons_zero, List.set_cons_succ]
              refine wpAnyH_take (i := 21) (v := (.bool false)) (at_succ (at_succ (at_succ (at_succ (at_succ (at_succ (at_succ (at_succ (at_succ (at_succ (at_succ (at_succ (at_succ (at_succ (at_succ (at_succ (at_succ (at_succ (at_succ (at_succ (at_succ at_zero))))))))))))))))))))) (by kernel_rfl) (by kernel_rfl) (by kernel_rfl) (fun _ _ _ h => h) (Or.inl ⟨by kernel_rfl, fun wy hSw => ?_⟩) (by assumption) ?_
              · (try dsimp only at hSw); go_simp
              try simp only [Act.put, List.setIfInBounds_toArray, List.set_cons_zero, List.set_cons_succ]
              refine wpAnyH_take (i := 22) (v := (.bool false)) (at_succ (at_succ (at_succ (at_succ (at_succ (at_succ (at_succ (at_succ (at_succ (at_succ (at_succ (at_succ (at_succ (at_succ (at_succ (at_succ (at_succ (at_succ (at_succ (at_succ (at_succ (at_succ at_zero)))))))))))))))))))))) (by kernel_rfl) (by kernel_rfl) (by kernel_rfl) (fun _ _ _ h => h) (Or.inl ⟨by kernel_rfl, fun wy hSw => ?_⟩) (by assumption) ?_
              · (try dsimp only at hSw); go_simp
              try simp only [Act.put, List.setIfInBounds_toArray, List.set_cons_zero, List.set_cons_succ]
              refine wpAnyH_take (i := 23) (v := undef) (at_succ (at_succ (at_succ (at_succ (at_succ (at_succ (at_succ (at_succ (at_succ (at_succ (at_succ (at_succ (at_succ (at_succ (at_succ (at_succ (at_succ (at_succ (at_succ (at_succ (at_succ (at_succ (at_succ at_zero))))))))))))))))))))))) (by kernel_rfl) (by kernel_rfl) (by kernel_rfl) (fun _ _ _ h => h) (Or.inr ⟨by kernel_rfl, rfl⟩) (by assumption) ?_
              try simp only [Act.put, List.setIfInBounds_toArray, List.set_cons_zero, List.set_cons_succ]
              refine wpAnyH_take (i := 24) (v := undef) (at_succ (at_succ (at_succ (at_succ (at_succ (at_succ (at_succ (at_succ (at_succ (at_succ (at_succ (at_succ (at_succ (at_succ (at_succ (at_succ (at_succ (at_succ (at_succ (at_succ (at_succ (at_succ (at_succ (at_succ at_zero)))))))))))))))))))))))) (by kernel_rfl) (by kernel_rfl) (by kernel_rfl) (fun _ _ _ h => h) (Or.inr ⟨by kernel_rfl, rfl⟩) (by assumption) ?_
              try simp only [Act.put, List.setIfInBounds_toArray, List.set_cons_zero, List.set_cons_succ]
              refine wpAnyH_take (i := 25) (v := undef) (at_succ (at_succ (at_succ (at_succ (at_succ (at_succ (at_succ (at_succ (at_succ (at_succ (at_succ (at_succ (at_succ (at_succ (at_succ (at_succ (at_succ (at_succ (at_succ (at_succ (at_succ (at_succ (at_succ (at_succ (at_succ at_zero))))))))))))))))))))))))) (by kernel_rfl) (by kernel_rfl) (by kernel_rfl) (fun _ _ _ h => h) (Or.inr ⟨by kernel_rfl, rfl⟩) (by assumption) ?_
              try simp only [Act.put, List.setIfInBounds_toArray, List.set_cons_zero, List.set_cons_succ]
              refine wpAnyH_take (i := 26) (v := undef) (at_succ (at_succ (at_succ (at_succ (at_succ (at_succ (at_succ (at_succ (at_succ (at_succ (at_succ (at_succ (at_succ (at_succ (at_succ (at_succ (at_succ (at_succ (at_succ (at_succ (at_succ (at_succ (at_succ (at_succ (at_succ (at_succ at_zero)))))))))))))))))))))))))) (by kernel_rfl) (by kernel_rfl) (by kernel_rfl) (fun _ _ _ h => h) (Or.inr ⟨by kernel_rfl, rfl⟩) (by assumption) ?_
              try simp only [Act.put, List.setIfInBounds_toArray, List.set_cons_zero, List.set_cons_succ]
              refine wpAnyH_take (i := 27) (v := undef) (at_succ (at_succ (at_succ (at_succ (at_succ (at_succ (at_succ (at_succ (at_succ (at_succ (at_succ (at_succ (at_succ (at_succ (at_succ (at_succ (at_succ (at_succ (at_succ (at_succ (at_succ (at_succ (at_succ (at_succ (at_succ (at_succ (at_succ at_zero))))))))))))))))))))))))))) (by kernel_rfl) (by kernel_rfl) (by kernel_rfl) (fun _ _ _ h => h) (Or.inr ⟨by kernel_rfl, rfl⟩) (by assumption) ?_
              try simp only [Act.put, List.setIfInBounds_toArray, List.set_cons_zero, List.set_cons_succ]
              refine wpAnyH_take (i := 28) (v := undef) (at_succ (at_succ (at_succ (at_succ (at_succ (at_succ (at_succ (at_succ (at_succ (at_succ (at_succ (at_succ (at_succ (at_succ (at_succ (at_succ (at_succ (at_succ (at_succ (at_succ (at_succ (at_succ (at_succ (at_succ (at_succ (at_succ (at_succ (at_succ at_zero)))))))))))))))))))))))))))) (by kernel_rfl) (by kernel_rfl) (by kernel_rfl) (fun _ _ _ h => h) (Or.inr ⟨by kernel_rfl, rfl⟩) (by assumption) ?_
              try simp only [Act.put, List.setIfInBounds_toArray, List.set_cons_zero, List.set_cons_succ]
              refine wpAnyH_take (i := 29) (v := undef) (at_succ (at_succ (at_succ (at_succ (at_succ (at_succ (at_succ (at_succ (at_succ (at_succ (at_succ (at_succ (at_succ (at_succ (at_succ (at_succ (at_succ (at_succ (at_succ (at_succ (at_succ (at_succ (at_succ (at_succ (at_succ (at_succ (at_succ (at_succ (at_succ at_zero))))))))))))))))))))))))))))) (by kernel_rfl) (by kernel_rfl) (by kernel_rfl) (fun _ _ _ h => h) (Or.inr ⟨by kernel_rfl, rfl⟩) (by assumption) ?_
              try simp only [Act.put, List.setIfInBounds_toArray, List.set_cons_zero, List.set_cons_succ]
              refine wpAnyH_take (i := 30) (v := undef) (at_succ (at_succ (at_succ (at_succ (at_succ (at_succ (at_succ (at_succ (at_succ (at_succ (at_succ (at_succ (at_succ (at_succ (at_succ (at_succ (at_succ (at_succ (at_succ (at_succ (at_succ (at_succ (at_succ (at_succ (at_succ (at_succ (at_succ (at_succ (at_succ (at_succ at_zero)))))))))))))))))))))))))))))) (by kernel_rfl) (by kernel_rfl) (by kernel_rfl) (fun _ _ _ h => h) (Or.inr ⟨by kernel_rfl, rfl⟩) (by assumption) ?_
              try simp only [Act.put, List.setIfInBounds_toArray, List.set_cons_zero, List.set_cons_succ]
              refine wpAnyH_take (i := 31) (v := undef) (at_succ (at_succ (at_succ (at_succ (at_succ (at_succ (at_succ (at_succ (at_succ (at_succ (at_succ (at_succ (at_succ (at_succ (at_succ (at_succ (at_succ (at_succ (at_succ (at_succ (at_succ (at_succ (at_succ (at_succ (at_succ (at_succ (at_succ (at_succ (at_succ (at_succ (at_succ at_zero))))))))))))))))))))))))))))))) (by kernel_rfl) (by kernel_rfl) (by kernel_rfl) (fun _ _ _ h => h) (Or.inr ⟨by kernel_rfl, rfl⟩) (by assumption) ?_
              try simp only [Act.put, List.setIfInBounds_toArray, List.set_cons_zero, List.set_cons_succ]
              refine wpAnyH_take (i := 32) (v := undef) (at_succ (at_succ (at_succ (at_succ (at_succ (at_succ (at_succ (at_succ (at_succ (at_succ (at_succ (at_succ (at_succ (at_succ (at_succ (at_succ (at_succ (at_succ (at_succ (at_succ (at_succ (at_succ (at_succ (at_succ (at_succ (at_succ (at_succ (at_succ (at_succ (at_succ (at_succ (at_succ at_zero)))))))))))))))))))))))))))))))) (by kernel_rfl) (by kernel_rfl) (by kernel_rfl) (fun _ _ _ h => h) (Or.inr ⟨by kernel_rfl, rfl⟩) (by assumption) ?_
              try simp only [Act.put, List.setIfInBounds_toArray, List.set_cons_zero, List.set_cons_succ]
              refine wpAnyH_take (i := 33) (v := (.bool false)) (at_succ (at_succ (at_succ (at_succ (at_succ (at_succ (at_succ (at_succ (at_succ (at_succ (at_succ (at_succ (at_succ (at_succ (at_succ (at_succ (at_succ (at_succ (at_succ (at_succ (at_succ (at_succ (at_succ (at_succ (at_succ (at_succ (at_succ (at_succ (at_succ (at_succ (at_succ (at_succ (at_succ at_zero))))))))))))))))))))))))))))))))) (by kernel_rfl) (by kernel_rfl) (by kernel_rfl) (fun _ _ _ h => h) (Or.inl ⟨by kernel_rfl, fun wy hSw => ?_⟩) (by assumption) ?_
              · (try dsimp only at hSw); go_simp
              try simp only [Act.put, List.setIfInBounds_toArray, List.set_cons_zero, List.set_cons_succ]
              refine wpAnyH_take (i := 34) (v := (.bool false)) (at_succ (at_succ (at_succ (at_succ (at_succ (at_succ (at_succ (at_succ (at_succ (at_succ (at_succ (at_succ (at_succ (at_succ (at_succ (at_succ (at_succ (at_succ (at_succ (at_succ (at_succ (at_succ (at_succ (at_succ (at_succ (at_succ (at_succ (at_succ (at_succ (at_succ (at_succ (at_succ (at_succ (at_succ at_zero)))))))))))))))))))))))))))))))))) (by kernel_rfl) (by kernel_rfl) (by kernel_rfl) (fun _ _ _ h => h) (Or.inl ⟨by kernel_rfl, fun wy hSw => ?_⟩) (by assumption) ?_
              · (try dsimp only at hSw); go_simp
              try simp only [Act.put, List.setIfInBounds_toArray, List.set_cons_zero, List.set_cons_succ]
              refine wpAnyH_take (i := 35) (v := (.bool false)) (at_succ (at_succ (at_succ (at_succ (at_succ (at_succ (at_succ (at_succ (at_succ (at_succ (at_succ (at_succ (at_succ (at_succ (at_succ (at_succ (at_succ (at_succ (at_succ (at_succ (at_succ (at_succ (at_succ (at_succ (at_succ (at_succ (at_succ (at_succ (at_succ (at_succ (at_succ (at_succ (at_succ (at_succ (at_succ at_zero))))))))))))))))))))))))))))))))))) (by kernel_rfl) (by kernel_rfl) (by kernel_rfl) (fun _ _ _ h => h) (Or.inl ⟨by kernel_rfl, fun wy hSw => ?_⟩) (by assumption) ?_
              · (try dsimp only at hSw); go_simp
              try simp only [Act.put, List.setIfInBounds_toArray, List.set_cons_zero, List.set_cons_succ]
              refine wpAnyH_done (by kernel_rfl) ?_ _
              all_goals
                first
                | have B5 := Lib.hid (B4.out.trans (Z2.mono B4.out.size)); have X5 := Lib.hid (X4.out.next Z2); clear Z0 Z1 Z2
                | have B5 := Lib.hid (B4.out.trans (Z1.mono B4.out.size)); have X5 := Lib.hid (X4.out.next Z1); clear Z0 Z1
                clear B4 X4 HK HC
                go_wp2_with fail
                go_roundw
                case rel => exact ⟨m + 1 + 1, by go_num, hlt, B5, X5⟩
                case measure => simp [intOf]; omega
        · obtain rfl : k = bb.length := by omega
          clear hk hlt
          go_wp2_with fail
          refine (awake_any _).mono ?_
          rintro _ w5 ⟨rfl, hb⟩
          have B5 := Lib.hid (B.out.trans (hb.mono B.out.size))
          clear hb
          go_wp2_with fail
          go_ret
          exact outB rfl B5.out
end Go.Proofs.Ythfkmmgckiijcaa.Lnk
