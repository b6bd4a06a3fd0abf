/- Package mac: slices.Index and slices.Contains at pairs, lastOf, Fresh. -/
import Derived.Test.YtpfmfnogckeneaaMcX2
import Derived.Test.YtpfmfnogckeneaaMcX6
import Derived.Test.YtpfmfnogckeneaaMcF
import Derived.Deep.RegionHeld
set_option linter.unusedVariables false
namespace Go.Proofs.Ytpfmfnogckeneaa.Mcq
open Go.RowKit
open Mbx (Fm zf fmC fmV FOk fF)

set_option maxRecDepth 100000 in
set_option maxHeartbeats 2000000 in
theorem pixp_any (A : Option Addr) (c : Nat) (h : List Pr) (p : Pr) (w : World) (hl : h.length ≤ 1000000) (hA : PrS w A c h) :
    Calls Try.prog 40 #[.slice A h.length c, prV p] w fun e w' => (∃ n : Int, e = .returned (.int .i64 n) ∧ decide (0 ≤ n) = decide (p ∈ h)) ∧ Below w.heap.size w w' := by
  have HM := Lib.hid hA.1
  have KH := Lib.hid (fun (k : Nat) (hk : k < h.length) (e : h[k] = p) => (show decide (p ∈ h) = true from by rw [← e]; simp))
  have KM := Lib.hid (fun (hn : ∀ j (hj : j < h.length), h[j] ≠ p) => (show decide (p ∈ h) = false from by
    rw [decide_eq_false_iff_not]
    intro e
    obtain ⟨j, hj, e⟩ := List.getElem_of_mem e
    exact hn j hj e))
  clear hA
  generalize decide (p ∈ h) = F at *
  obtain ⟨p1, p2⟩ := p
  go_enter Try.func40, Try.ntmps40
  go_wp2_with fail
  go_loopw [8] (fun vi wr => ∃ n : Nat, n ≤ h.length ∧ vi = .int .i64 (n : Int) ∧ Hid (∀ j (hj : j < h.length), j < n → h[j] ≠ (p1, p2)) ∧ Hid (wr.heap[w.heap.size]? = some (bxQ (p1, p2))) ∧ Below w.heap.size w wr) (fun vi _ => h.length - (intOf vi).toNat)
  case atStart => exact ⟨0, Nat.zero_le _, rfl, Lib.hid fun j hj h => by omega, Lib.hid (blk_new w _), alloc_below w _⟩
  case round =>
    obtain ⟨n, hn, rfl, HN, HX, hb⟩ := hrel
    have B := Lib.hid hb
    have HK := Lib.hid (HM.out.below hb)
    clear hb
    by_cases hlt : n < h.length
    · obtain ⟨bb, q, rfl, hbw, g0, g1, _⟩ := pr_cell HK.out n hlt
      have Y := Lib.hid (fun e => KH.out n hlt e)
      have N := Lib.hid (show h[n] ≠ (p1, p2) → ∀ j (hj : j < h.length), j < n + 1 → h[j] ≠ (p1, p2) from fun e j hj hjn => by
        by_cases q : j = n
        · subst q; exact e
        · exact HN.out j hj (by omega))
      clear KH KM HN HM HK
      obtain ⟨x, hx⟩ : ∃ x, h[n] = x := ⟨_, rfl⟩
      rw [hx] at g0 g1 Y N
      clear hx
      obtain ⟨x1, x2⟩ := x
      simp only at g0 g1
      have e0 := blk_cell HX.out 0 (v := .int .i64 p1) rfl
      have e1 := blk_cell HX.out 1 (v := .int .i64 p2) rfl
      by_cases h1 : p1 = x1
      · by_cases h2 : p2 = x2
        · have E := Lib.hid (Y.out (by rw [h1, h2]))
          subst h1 h2
          clear Y N
          go_wp2_with fail
          refine wp_region_quiet_lit (by kernel_rfl) (by kernel_rfl) ?_
          refine QH.out ?_
          repeat (
            refine qh_step (fun K hK => ?_)
            go_simp
            first
              | (refine hK _ ?_; clear hK K)
              | (apply Exists.intro
                 refine ⟨fun _ => ?_, hK _ ?_⟩
                 (fail)
                 clear hK K))
          refine qh_nil ?_
          intro _ hw'
          obtain ⟨nq, hw''⟩ := hw'
          subst hw''
          obtain ⟨wq, hwq⟩ : ∃ wq, wq = wr.drewN nq := ⟨_, rfl⟩
          rw [← hwq]
          have XQ := Lib.hid (show wq.heap[w.heap.size]? = some (bxQ (p1, p2)) by rw [hwq]; exact HX.out)
          have BQ := Lib.hid (show Below w.heap.size w wq by rw [hwq]; exact below_drewN B.out nq)
          clear hwq e0 e1 g0 g1
          go_wp2_with fail
          go_ret
          exact ⟨⟨_, rfl, by rw [E.out]; exact dt (by omega)⟩, BQ.out⟩
        · have E := Lib.hid (N.out (fun q => h2 (congrArg Prod.snd q).symm))
          have d2 : (p2 == x2) = false := beq_false_of_ne h2
          subst h1
          clear Y N h2
          go_wp2_with fail
          refine wp_region_quiet_lit (by kernel_rfl) (by kernel_rfl) ?_
          refine QH.out ?_
          repeat (
            refine qh_step (fun K hK => ?_)
            go_simp
            first
              | (refine hK _ ?_; clear hK K)
              | (apply Exists.intro
                 refine ⟨fun _ => ?_, hK _ ?_⟩
                 (fail)
                 clear hK K))
          refine qh_nil ?_
          intro _ hw'
          obtain ⟨nq, hw''⟩ := hw'
          subst hw''
          obtain ⟨wq, hwq⟩ : ∃ wq, wq = wr.drewN nq := ⟨_, rfl⟩
          rw [← hwq]
          have XQ := Lib.hid (show wq.heap[w.heap.size]? = some (bxQ (p1, p2)) by rw [hwq]; exact HX.out)
          have BQ := Lib.hid (show Below w.heap.size w wq by rw [hwq]; exact below_drewN B.out nq)
          clear hwq e0 e1 g0 g1
          go_wp2_with fail
          go_roundw
          case rel => exact ⟨n + 1, hlt, by go_num, E, XQ, BQ.out⟩
          case measure => simp [intOf]; omega
      · have E := Lib.hid (N.out (fun q => h1 (congrArg Prod.fst q).symm))
        have d2 : (p1 == x1) = false := beq_false_of_ne h1
        clear Y N h1
        go_wp2_with fail
        refine wp_region_quiet_lit (by kernel_rfl) (by kernel_rfl) ?_
        refine QH.out ?_
        repeat (
          refine qh_step (fun K hK => ?_)
          go_simp
          first
            | (refine hK _ ?_; clear hK K)
            | (apply Exists.intro
               refine ⟨fun _ => ?_, hK _ ?_⟩
               (fail)
               clear hK K))
        refine qh_nil ?_
        intro _ hw'
        obtain ⟨nq, hw''⟩ := hw'
        subst hw''
        obtain ⟨wq, hwq⟩ : ∃ wq, wq = wr.drewN nq := ⟨_, rfl⟩
        rw [← hwq]
        have XQ := Lib.hid (show wq.heap[w.heap.size]? = some (bxQ (p1, p2)) by rw [hwq]; exact HX.out)
        have BQ := Lib.hid (show Below w.heap.size w wq by rw [hwq]; exact below_drewN B.out nq)
        clear hwq e0 e1 g0 g1
        go_wp2_with fail
        go_roundw
        case rel => exact ⟨n + 1, hlt, by go_num, E, XQ, BQ.out⟩
        case measure => simp [intOf]; omega
    · obtain rfl : n = h.length := by omega
      have E := Lib.hid (KM.out fun j hj => HN.out j hj hj)
      clear KH KM HN
      go_wp2_with fail
      go_ret
      exact ⟨⟨-1, rfl, by rw [E.out]; rfl⟩, B.out⟩
theorem pcon_any (A : Option Addr) (c : Nat) (h : List Pr) (p : Pr) (w : World) (hl : h.length ≤ 1000000) (hA : PrS w A c h) :
    Calls Try.prog 34 #[.slice A h.length c, prV p] w (OutB w (decide (p ∈ h))) := by
  have K := Lib.hid (pixp_any A c h p (w.alloc (bxQ p)) hl (hA.next (alloc_below _ _)))
  clear hA
  generalize decide (p ∈ h) = F at *
  obtain ⟨p1, p2⟩ := p
  go_enter Try.func34, Try.ntmps34
  go_wp2_with fail
  refine K.out.mono ?_
  rintro _ w1 ⟨⟨n, rfl, hn⟩, hb⟩
  have B1 := Lib.hid (box_below hb)
  clear K hb
  go_wp2_with fail
  go_ret
  exact outB rfl B1.out

set_option maxHeartbeats 1000000 in
theorem plastof_any (A : Option Addr) (c : Nat) (l : List Pr) (k : Nat) (w : World) (hl : l.length ≤ 1000000) (hk : k ≤ 1000) (hA : PrS w A c l) :
    Calls Try.prog 33 #[.slice A l.length c, .int .i64 (k : Int)] w (OutP w (l.drop (l.length - k))) := by
  have s1 : IntKind.i64.wrap ((l.length : Int) - (k : Int)) = (l.length : Int) - (k : Int) := by rw [IntKind.wrap_i64]; omega
  obtain ⟨n, hn⟩ : ∃ n, l.length - k = n := ⟨_, rfl⟩
  have hm : max 0 ((l.length : Int) - (k : Int)) = (n : Int) := by omega
  obtain ⟨A1, e1, h1⟩ := hA.rest utQ szQ n (by omega)
  have el : (l.drop n).length = l.length - n := List.length_drop
  rw [hn]
  have K1 := Lib.hid (pclonep_any A1 (c - n) (l.drop n) w (by omega) h1)
  rw [el] at K1
  generalize l.drop n = L at *
  unfold OutP at K1
  clear hA h1 el hn
  go_enter Try.func33, Try.ntmps33
  go_wp2_with fail
  refine K1.out.mono ?_
  rintro _ w1 ⟨v, rfl, ho, hb⟩
  have O := Lib.hid ho
  have B := Lib.hid hb
  clear ho hb K1
  go_wp2_with fail
  go_ret
  exact ⟨_, rfl, O.out, B.out⟩

theorem last31 (l : List Pr) : (if (last l).length = 32 then (last l).drop 1 else last l) = l.drop (l.length - 31) := by
  unfold last
  rw [List.length_drop]
  by_cases h : l.length - (l.length - 32) = 32
  · rw [if_pos h, List.drop_drop]
    congr 1
    omega
  · rw [if_neg h]
    congr 1
    omega
theorem fresh_old {l : List Pr} {p : Pr} (h : decide (p ∈ last l) = true) : fresh l p = (last l, false) := if_pos (by simpa using h)
theorem fresh_new {l : List Pr} {p : Pr} (h : decide (p ∈ last l) = false) : fresh l p = (l.drop (l.length - 31) ++ [p], true) := by
  unfold fresh
  rw [if_neg (by simpa using h), last31]
theorem app_litp {w : World} {B vb : Nat} {v : Value} {l : List Pr} (h : OwnF fQ 36 w B v l) (x : Pr) (hx : fQ.ok x) (hv : w.heap[vb]? = some (bxQ x)) (hl : l.length ≤ 1000000) (hB : B ≤ w.heap.size) (ty : TypeId) :
    ∃ v' w', (Builtin.append_ #[34, 34] ty #[v, .slice (some ⟨vb, 0, none⟩) 1 1]).run Try.prog w = .ok v' w' ∧ OwnF fQ 36 w' B v' (l ++ [x]) ∧ Below B w w' := by
  have hfx : FlAt fQ w w.heap.size (some ⟨vb, 0, none⟩) [x] := fun k hk => by
    obtain rfl : k = 0 := by simpa using hk
    refine ⟨vb, 0, rfl, blk_lt hv, fun j u hu => ?_, hx⟩
    rw [Nat.zero_mul, Nat.zero_add]
    exact blk_cell hv j (by rw [← Array.getElem?_toList]; exact hu)
  obtain ⟨v', w', hap, ho, hb, _, _⟩ := h.app ePr (c := 1) ty hfx (by simp; omega) hB
  exact ⟨v', w', hap, ho, hb⟩
theorem bsl_q (p : Pr) (w : World) : (Instr.buildSlice 34 1 #[(0, prV p)]).run Try.prog w = .ok (.slice (some ⟨w.heap.size, 0, none⟩) 1 1) (w.alloc (bxQ p)) := by
  go_simp
set_option maxRecDepth 100000 in
set_option maxHeartbeats 4000000 in
theorem pfresh_own (A : Option Addr) (c : Nat) (l : List Pr) (p : Pr) (w : World) (hl : l.length ≤ 1000) (hp : fQ.ok p) (hA : PrS w A c l) :
    Calls Try.prog 19 #[.slice A l.length c, prV p] w (PbR w (fresh l p)) := by
  have K1 := Lib.hid (plastof_any A c l 32 (w.alloc (bxQ p)) (by omega) (by omega) (hA.next (alloc_below _ _)))
  have KO := Lib.hid (fun (w1 : World) (hb : Below w.heap.size w w1) => plastof_any A c l 31 w1 (by omega) (by omega) (SlS.next hA hb))
  have RO := Lib.hid (fun h => fresh_old (l := l) (p := p) h)
  have RN := Lib.hid (fun h => fresh_new (l := l) (p := p) h)
  have LL : (l.drop (l.length - 32)).length ≤ 32 := by rw [List.length_drop]; omega
  have LO : (l.drop (l.length - 31)).length ≤ 31 := by rw [List.length_drop]; omega
  have HP := Lib.hid hp
  clear hA hp
  unfold last at RO RN
  generalize fresh l p = X at *
  generalize l.drop (l.length - 32) = L at *
  generalize l.drop (l.length - 31) = L2 at *
  unfold OutP at K1 KO
  have KC := Lib.hid (fun A1 c1 (w1 : World) (h : PrS w1 A1 c1 L) => pcon_any A1 c1 L p w1 (by omega) h)
  unfold OutB at KC
  generalize decide (p ∈ L) = F at *
  obtain ⟨p1, p2⟩ := p
  go_enter Try.func19, Try.ntmps19
  go_wp2_with fail
  refine K1.out.mono ?_
  rintro _ w1 ⟨v, rfl, ho, hb⟩
  have X1 := blk_below (blk_new w (bxQ (p1, p2))) hb (by simp)
  have hz1 : w.heap.size + 1 ≤ w1.heap.size := by have := hb.size; simpa using this
  have B1 := box_below hb
  obtain ⟨A1, c1, rfl, hs, hc1, hn1⟩ := ho.read
  have S1 : PrS w1 A1 c1 L := ⟨hs, hc1, hn1⟩
  have KC := Lib.hid (KC.out A1 c1 w1 S1)
  have e0 := blk_cell X1 0 (v := .int .i64 p1) rfl
  have e1 := blk_cell X1 1 (v := .int .i64 p2) rfl
  have X1 := Lib.hid X1
  have B1 := Lib.hid B1
  have S1 := Lib.hid S1
  clear hb ho hs hc1 hn1 K1
  go_wp2_with fail
  refine KC.out.mono ?_
  rintro _ w2 ⟨rfl, hb⟩
  have S2 := Lib.hid (S1.out.next hb)
  have X2 := Lib.hid (blk_below X1.out hb (by omega))
  have B2 := Lib.hid (B1.out.trans (hb.mono B1.out.size))
  have hz2 := Nat.le_trans hz1 hb.size
  clear hb KC S1 X1 B1 e0 e1 hz1
  cases F with
  | true =>
    have R := Lib.hid (RO.out rfl)
    clear RO RN KO
    go_wp2_with fail
    rw [R.out]
    go_ret2
    exact ⟨_, _, rfl, S2.out, B2.out⟩
  | false =>
  have R := Lib.hid (RN.out rfl)
  clear RO RN S2
  obtain ⟨W, hW⟩ : ∃ W, w2.drew = W := ⟨_, rfl⟩
  have X3 := Lib.hid (show W.heap[w.heap.size]? = some (bxQ (p1, p2)) by rw [← hW]; exact X2.out)
  have B3 := Lib.hid (show Below w.heap.size w W by rw [← hW]; exact below_drewN B2.out 1)
  have hz3 : w.heap.size + 1 ≤ W.heap.size := by rw [← hW]; exact hz2
  have KO := Lib.hid (fun (w1 : World) (hb : Below (w.heap.size + 1) W w1) => KO.out w1 (B3.out.trans (hb.mono (Nat.le_succ _))))
  have SR := Lib.hid (fun (w1 : World) (hb : Below (w.heap.size + 1) W w1) => (show w1.cell? ⟨w.heap.size, 0, none⟩ = some (.int .i64 p1) ∧ w1.cell? ⟨w.heap.size, 1, none⟩ = some (.int .i64 p2) from ⟨blk_cell (blk_below X3.out hb (by omega)) 0 rfl, blk_cell (blk_below X3.out hb (by omega)) 1 rfl⟩))
  have SW := SR.out W (Below.refl _ _)
  rw [← hW] at SW
  clear X2 B2 hz2 X3
  go_wp2_with fail
  refine wp_region_held_drew (S := (fun w' => w'.cell? ⟨w.heap.size, 0, none⟩ = some (.int .i64 p1) ∧ w'.cell? ⟨w.heap.size, 1, none⟩ = some (.int .i64 p2))) (by kernel_rfl) SW (fun hHeld => ?_)
  rw [hW] at hHeld ⊢
  clear hW SW
  refine wpAnyH_take (i := 0) (v := (.slice A l.length c)) zat_zero (by kernel_rfl) (by kernel_rfl) (by kernel_rfl) (fun _ _ _ h => h) (Or.inl ⟨by kernel_rfl, fun wy hSw => ?_⟩) (by assumption) ?_
  · (try dsimp only at hSw); go_simp
  try simp only [Act.put, List.setIfInBounds_toArray, List.set_cons_zero, List.set_cons_succ]
  refine wpAnyH_take (i := 2) (v := (.agg #[.int .i64 p1, .int .i64 p2])) (zat_succ (zat_succ zat_zero)) (by kernel_rfl) (by kernel_rfl) (by kernel_rfl) (fun _ _ _ h => h) (Or.inl ⟨by kernel_rfl, fun wy hSw => ?_⟩) (by assumption) ?_
  · (obtain ⟨h0, h1⟩ := hSw; go_simp)
  try simp only [Act.put, List.setIfInBounds_toArray, List.set_cons_zero, List.set_cons_succ]
  refine wpAnyH_ready (rs := [1, 3]) (by kernel_rfl) (by simp) ?_
  refine AllReadyH.cons (zat_succ zat_zero) (fun K hK => ?_) (AllReadyH.cons (zat_succ (zat_succ (zat_succ zat_zero))) (fun K hK => ?_) AllReadyH.nil)
  · rw [if_pos (by kernel_rfl)]
    go_simp
    refine (KO.out W (Below.refl _ _)).mono ?_
    rintro _ w4 ⟨v, rfl, ho, hb⟩
    go_wp2_with fail
    have O4 := Lib.hid ho
    have H4 := Lib.hid (hb.mono hz3)
    clear hHeld hb ho
    refine hK.out _ _ (SR.out _ (H4.out)) (fun hHeld => ?_)
    clear hK K
    try simp only [Act.put, List.setIfInBounds_toArray, List.set_cons_zero, List.set_cons_succ]
    refine wpAnyH_ready (rs := [3]) (by kernel_rfl) (by simp) ?_
    refine AllReadyH.cons (zat_succ (zat_succ (zat_succ zat_zero))) (fun K hK => ?_) AllReadyH.nil
    rw [if_pos (by kernel_rfl)]
    refine wp_bsl_run 34 1 _ rfl #[(0, prV (p1, p2))] _ _ (bsl_q (p1, p2) w4) (by simp only [List.map_toArray, List.map_cons, List.map_nil]; rfl) ?_
    have hv5 := Lib.hid (blk_new w4 (bxQ (p1, p2)))
    have a5 := alloc_below w4 (bxQ (p1, p2))
    have H5 := Lib.hid (H4.out.trans (a5.mono (Nat.le_trans hz3 H4.out.size)))
    have O5 := Lib.hid (OwnF.down (OwnF.below O4.out a5) hz3)
    obtain ⟨w5, hw5⟩ : ∃ w5, w4.alloc (bxQ (p1, p2)) = w5 := ⟨_, rfl⟩
    obtain ⟨vb, hvb2⟩ : ∃ vb, w4.heap.size = vb := ⟨_, rfl⟩
    rw [hw5] at hv5 H5 O5 ⊢
    rw [hvb2] at hv5 ⊢
    clear hw5 hvb2 hHeld a5 O4
    refine hK.out _ _ (SR.out _ (H5.out)) (fun hHeld => ?_)
    clear hK K
    try simp only [Act.put, List.setIfInBounds_toArray, List.set_cons_zero, List.set_cons_succ]
    obtain ⟨v6, w6, hap, ho6, hb6⟩ := app_litp O5.out (p1, p2) HP.out hv5.out (by omega) (Nat.le_trans hz3 H5.out.size) 34
    have H6 := Lib.hid (H5.out.trans hb6)
    have B6 := Lib.hid (B3.out.trans (H6.out.mono (Nat.le_succ _)))
    obtain ⟨A7, c7, rfl, S7⟩ := ho6.slS
    have S7 := Lib.hid S7
    clear ho6 hb6 O5
    refine wpAnyH_ready (rs := [4]) (by kernel_rfl) (by simp) ?_
    refine AllReadyH.cons (zat_succ (zat_succ (zat_succ (zat_succ zat_zero)))) (fun K hK => ?_) AllReadyH.nil
    rw [if_pos (by kernel_rfl)]
    refine Lib.wp_append_run _ _ _ _ _ rfl _ _ rfl rfl _ _ hap ?_
    refine hK.out _ _ (SR.out _ (H6.out)) (fun hHeld => ?_)
    clear hK K
    try simp only [Act.put, List.setIfInBounds_toArray, List.set_cons_zero, List.set_cons_succ]
    refine wpAnyH_take (i := 5) (v := (.slice A7 (L2 ++ [(p1, p2)]).length c7)) (zat_succ (zat_succ (zat_succ (zat_succ (zat_succ zat_zero))))) (by kernel_rfl) (by kernel_rfl) (by kernel_rfl) (fun _ _ _ h => h) (Or.inl ⟨by kernel_rfl, fun wy hSw => ?_⟩) (by assumption) ?_
    · (try dsimp only at hSw); go_simp
    try simp only [Act.put, List.setIfInBounds_toArray, List.set_cons_zero, List.set_cons_succ]
    refine wpAnyH_take (i := 6) (v := (.bool true)) (zat_succ (zat_succ (zat_succ (zat_succ (zat_succ (zat_succ zat_zero)))))) (by kernel_rfl) (by kernel_rfl) (by kernel_rfl) (fun _ _ _ h => h) (Or.inl ⟨by kernel_rfl, fun wy hSw => ?_⟩) (by assumption) ?_
    · (try dsimp only at hSw); go_simp
    try simp only [Act.put, List.setIfInBounds_toArray, List.set_cons_zero, List.set_cons_succ]
    refine wpAnyH_done (by kernel_rfl) ?_ _
    go_wp2_with fail
    rw [R.out]
    go_ret2
    exact ⟨_, _, rfl, S7.out, B6.out⟩
  · rw [if_pos (by kernel_rfl)]
    refine wp_bsl_run 34 1 _ rfl #[(0, prV (p1, p2))] _ _ (bsl_q (p1, p2) W) (by simp only [List.map_toArray, List.map_cons, List.map_nil]; rfl) ?_
    have hv4 := blk_new W (bxQ (p1, p2))
    have a4 := alloc_below W (bxQ (p1, p2))
    have hl4 : W.heap.size < (W.alloc (bxQ (p1, p2))).heap.size := by simp
    have H4 := Lib.hid (a4.mono hz3)
    obtain ⟨w3, hw3⟩ : ∃ w3, W.alloc (bxQ (p1, p2)) = w3 := ⟨_, rfl⟩
    rw [hw3] at hv4 H4 hl4 ⊢
    obtain ⟨vb, hvb⟩ : ∃ vb, W.heap.size = vb := ⟨_, rfl⟩
    rw [hvb] at hv4 hl4 ⊢
    have hv4 := Lib.hid hv4
    have hvb := Lib.hid hvb
    clear hw3 hHeld a4
    refine hK.out _ _ (SR.out _ (H4.out)) (fun hHeld => ?_)
    clear hK K
    try simp only [Act.put, List.setIfInBounds_toArray, List.set_cons_zero, List.set_cons_succ]
    refine wpAnyH_ready (rs := [1]) (by kernel_rfl) (by simp) ?_
    refine AllReadyH.cons (zat_succ zat_zero) (fun K hK => ?_) AllReadyH.nil
    rw [if_pos (by kernel_rfl)]
    go_simp
    refine (KO.out w3 (H4.out)).mono ?_
    rintro _ w4 ⟨v, rfl, ho, hb⟩
    go_wp2_with fail
    have O4 := Lib.hid ho
    have hv5 := Lib.hid (blk_below hv4.out hb hl4)
    have H5 := Lib.hid (H4.out.trans (hb.mono (Nat.le_trans hz3 H4.out.size)))
    have O5 := Lib.hid (OwnF.down O4.out (Nat.le_trans hz3 H4.out.size))
    clear hHeld hb ho O4
    refine hK.out _ _ (SR.out _ (H5.out)) (fun hHeld => ?_)
    clear hK K
    try simp only [Act.put, List.setIfInBounds_toArray, List.set_cons_zero, List.set_cons_succ]
    obtain ⟨v6, w6, hap, ho6, hb6⟩ := app_litp O5.out (p1, p2) HP.out hv5.out (by omega) (Nat.le_trans hz3 H5.out.size) 34
    have H6 := Lib.hid (H5.out.trans hb6)
    have B6 := Lib.hid (B3.out.trans (H6.out.mono (Nat.le_succ _)))
    obtain ⟨A7, c7, rfl, S7⟩ := ho6.slS
    have S7 := Lib.hid S7
    clear ho6 hb6 O5
    refine wpAnyH_ready (rs := [4]) (by kernel_rfl) (by simp) ?_
    refine AllReadyH.cons (zat_succ (zat_succ (zat_succ (zat_succ zat_zero)))) (fun K hK => ?_) AllReadyH.nil
    rw [if_pos (by kernel_rfl)]
    refine Lib.wp_append_run _ _ _ _ _ rfl _ _ rfl rfl _ _ hap ?_
    refine hK.out _ _ (SR.out _ (H6.out)) (fun hHeld => ?_)
    clear hK K
    try simp only [Act.put, List.setIfInBounds_toArray, List.set_cons_zero, List.set_cons_succ]
    refine wpAnyH_take (i := 5) (v := (.slice A7 (L2 ++ [(p1, p2)]).length c7)) (zat_succ (zat_succ (zat_succ (zat_succ (zat_succ zat_zero))))) (by kernel_rfl) (by kernel_rfl) (by kernel_rfl) (fun _ _ _ h => h) (Or.inl ⟨by kernel_rfl, fun wy hSw => ?_⟩) (by assumption) ?_
    · (try dsimp only at hSw); go_simp
    try simp only [Act.put, List.setIfInBounds_toArray, List.set_cons_zero, List.set_cons_succ]
    refine wpAnyH_take (i := 6) (v := (.bool true)) (zat_succ (zat_succ (zat_succ (zat_succ (zat_succ (zat_succ zat_zero)))))) (by kernel_rfl) (by kernel_rfl) (by kernel_rfl) (fun _ _ _ h => h) (Or.inl ⟨by kernel_rfl, fun wy hSw => ?_⟩) (by assumption) ?_
    · (try dsimp only at hSw); go_simp
    try simp only [Act.put, List.setIfInBounds_toArray, List.set_cons_zero, List.set_cons_succ]
    refine wpAnyH_done (by kernel_rfl) ?_ _
    go_wp2_with fail
    rw [R.out]
    go_ret2
    exact ⟨_, _, rfl, S7.out, B6.out⟩
end Go.Proofs.Ytpfmfnogckeneaa.Mcq
