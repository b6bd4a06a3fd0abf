/- The law Once. -/
import Derived.Test.YtpfmfnogckeneaaMcX
import Derived.Test.YtpfmfnogckeneaaQH
import Derived.StillTailTactics
set_option linter.unusedVariables false
namespace Go.Proofs.Ytpfmfnogckeneaa.Mcq
open Go.RowKit

theorem near_last {l : List Pr} {p : Pr} (h : ∃ (i : Nat) (hh : i < (fresh l p).1.length), i + 1 = (fresh l p).1.length ∧ (fresh l p).1[i] = p) : Near p 0 (fresh l p).1 := by
  obtain ⟨i, hh, e, h1⟩ := h
  exact ⟨fresh_len l p, i, hh, h1, by omega⟩
set_option maxRecDepth 100000 in
set_option maxHeartbeats 8000000 in
theorem law_once (KL0 : ∀ w, Calls Try.prog 9 #[] w (OutB w true)) (w : World) (A : Option Addr) (c : Nat) (l : List Pr) (p1 p2 n : Int) (hl : l.length ≤ 9223372036854775807) (hA : PrS w A c l) (hp : I64 p1 ∧ I64 p2) :
    Calls Try.prog 8 #[.slice A l.length c, .agg #[.int .i64 p1, .int .i64 p2], .int .i64 n] w (OutB w true) := by
  have HA := Lib.hid hA
  have HP := Lib.hid hp
  have KL := Lib.hid KL0
  unfold OutB at KL
  clear hA KL0 hp
  by_cases h1 : 200 < l.length
  · have d1 := dt (show (200 : Int) < (l.length : Int) by omega)
    go_enter Try.func8, Try.ntmps8
    go_wp2_with fail
    refine (KL.out _).mono ?_
    rintro _ wz ⟨rfl, hb⟩
    have BZ := Lib.hid (box_below hb)
    clear hb
    go_wp2_with fail
    go_ret
    exact outB rfl BZ.out
  have d1 := df (show ¬ (200 : Int) < (l.length : Int) by omega)
  by_cases h2 : n < 0
  · have d2 := dt h2
    go_enter Try.func8, Try.ntmps8
    go_wp2_with fail
    refine (KL.out _).mono ?_
    rintro _ wz ⟨rfl, hb⟩
    have BZ := Lib.hid (box_below hb)
    clear hb
    go_wp2_with fail
    go_ret
    exact outB rfl BZ.out
  have d2 := df h2
  by_cases h3 : 31 < n
  · have d3 := dt h3
    go_enter Try.func8, Try.ntmps8
    go_wp2_with fail
    refine (KL.out _).mono ?_
    rintro _ wz ⟨rfl, hb⟩
    have BZ := Lib.hid (box_below hb)
    clear hb
    go_wp2_with fail
    go_ret
    exact outB rfl BZ.out
  have d3 := df h3
  by_cases h4 : 1073741824 < p1
  · have d4 := dt h4
    go_enter Try.func8, Try.ntmps8
    go_wp2_with fail
    refine (KL.out _).mono ?_
    rintro _ wz ⟨rfl, hb⟩
    have BZ := Lib.hid (box_below hb)
    clear hb
    go_wp2_with fail
    go_ret
    exact outB rfl BZ.out
  have d4 := df h4
  by_cases h5 : p1 < 0
  · have d5 := dt h5
    go_enter Try.func8, Try.ntmps8
    go_wp2_with fail
    refine (KL.out _).mono ?_
    rintro _ wz ⟨rfl, hb⟩
    have BZ := Lib.hid (box_below hb)
    clear hb
    go_wp2_with fail
    go_ret
    exact outB rfl BZ.out
  have d5 := df h5
  obtain ⟨N, rfl⟩ : ∃ N : Nat, n = N := ⟨n.toNat, by omega⟩
  have b1 : 0 ≤ p1 ∧ p1 ≤ 1073741824 := by omega
  have bN : N ≤ 31 := by omega
  have KP := Lib.hid (fun w hA => pfresh_any A c l (p1, p2) w (by omega) HP.out hA)
  have KR := Lib.hid (fun w hA => rfresh_any A c l (p1, p2) w (by omega) HP.out hA)
  have KF := Lib.hid (fun w A c (m : List Pr) (q : Pr) hl hq hA => pfresh_any A c m q w hl hq hA)
  have FL := Lib.hid fresh_len
  have PL := fresh_len l (p1, p2)
  have NS := Lib.hid (fun h => near_last (l := l) (p := (p1, p2)) h)
  have NT := Lib.hid (fun m q k (h : Near (p1, p2) k m) hk => near_step (q := q) h hk)
  have NE := Lib.hid (fun m k (h : Near (p1, p2) k m) => near_end h)
  generalize fresh l (p1, p2) = R at *
  obtain ⟨P, b⟩ := R
  simp only at PL NS
  obtain ⟨E, hE⟩ : ∃ E : Prop, (∃ (i : Nat) (hh : i < P.length), i + 1 = P.length ∧ P[i] = (p1, p2)) = E := ⟨_, rfl⟩
  rw [hE] at NS
  have HE := Lib.hid hE
  generalize Near (p1, p2) = NR at *
  unfold PbR at KP KR KF
  simp only at KP KR
  clear hl h1 h2 h3 h4 h5 hE
  go_enter Try.func8, Try.ntmps8
  go_wp2_with fail
  refine (KP.out _ (HA.out.next (alloc_below _ _))).mono ?_
  rintro _ w1 ⟨A1, c1, rfl, h1, hb⟩
  have X1 := Lib.hid ((hb.block w.heap.size (by simp)).trans (blk_new w (bxQ (p1, p2))))
  have B1 := Lib.hid (box_below hb)
  have z1 : w.heap.size < w1.heap.size := by have := hb.size; simp at this; omega
  have H1 := Lib.hid h1
  clear hb h1 KP
  go_wp2_with fail
  go_loopw [7, 9] (fun vm vi wr => ∃ (i : Nat) (m : List Pr) (A2 : Option Addr) (c2 : Nat), vi = .int .i64 i ∧ i ≤ N ∧ vm = .slice A2 m.length c2 ∧ m.length ≤ 32 ∧ Hid (PrS wr A2 c2 m) ∧ Hid (E → NR i m) ∧ Hid (wr.heap[w.heap.size]? = some (bxQ (p1, p2))) ∧ w.heap.size < wr.heap.size ∧ Below w.heap.size w wr) (fun _ vi _ => N - (intOf vi).toNat)
  case atStart => exact ⟨0, P, A1, c1, rfl, Nat.zero_le _, rfl, PL, H1, NS, X1, z1, B1.out⟩
  case round =>
    obtain ⟨i, m, A2, c2, rfl, hi, rfl, hm, HS, HN, HX, hz, hb⟩ := hrel
    have B := Lib.hid hb
    have e0 := blk_cell HX.out 0 (v := .int .i64 p1) rfl
    have e1 := blk_cell HX.out 1 (v := .int .i64 p2) rfl
    clear hb H1 X1 B1 z1 NS
    by_cases hlt : i < N
    · have s1 : IntKind.i64.wrap (p1 + 1) = p1 + 1 := by rw [IntKind.wrap_i64]; omega
      have s2 : IntKind.i64.wrap (p1 + 1 + (i : Int)) = p1 + 1 + (i : Int) := by rw [IntKind.wrap_i64]; omega
      have K := KF.out wr A2 c2 m (p1 + 1 + (i : Int), p2) (by omega) ⟨by unfold I64; dsimp only; omega, HP.out.2⟩ HS.out
      have L2 := FL.out m (p1 + 1 + (i : Int), p2)
      have N2 := Lib.hid (fun e => NT.out m (p1 + 1 + (i : Int), p2) i (HN.out e) (by omega))
      generalize fresh m (p1 + 1 + (i : Int), p2) = S at *
      obtain ⟨S, b2⟩ := S
      simp only at K L2 N2
      have K := Lib.hid K
      have g2 := df (show ¬ (32 : Int) < (S.length : Int) by omega)
      clear KF KR FL NT NE HN HS
      go_wp2_with fail
      refine K.out.mono ?_
      rintro _ w2 ⟨A3, c3, rfl, h3, hb⟩
      have B := Lib.hid (B.out.trans (hb.mono B.out.size))
      have HX := Lib.hid ((hb.block w.heap.size hz).trans HX.out)
      have hz := Nat.lt_of_lt_of_le hz hb.size
      have HS := Lib.hid h3
      clear hb h3 K e0 e1
      go_wp2_with fail
      go_roundw
      case rel => exact ⟨i + 1, S, A3, c3, by go_num, hlt, rfl, L2, HS, N2, HX, hz, B.out⟩
      case measure => simp [intOf]; omega
    · have K := KF.out wr A2 c2 m (p1, p2) (by omega) HP.out HS.out
      have L2 := FL.out m (p1, p2)
      have N2 := Lib.hid (fun e => NE.out m i (HN.out e))
      generalize fresh m (p1, p2) = S at *
      obtain ⟨S, ok⟩ := S
      simp only at K L2 N2
      have K := Lib.hid K
      have g2 := df (show ¬ (32 : Int) < (S.length : Int) by omega)
      have g3 := df (show ¬ (32 : Int) < (P.length : Int) by omega)
      clear KF FL NT NE HN HS
      go_wp2_with fail
      refine K.out.mono ?_
      rintro _ w2 ⟨A3, c3, rfl, h3, hb⟩
      have B := Lib.hid (B.out.trans (hb.mono B.out.size))
      have HX := Lib.hid ((hb.block w.heap.size hz).trans HX.out)
      have hz := Nat.lt_of_lt_of_le hz hb.size
      clear hb h3 K e0 e1
      have e0 := blk_cell HX.out 0 (v := .int .i64 p1) rfl
      have e1 := blk_cell HX.out 1 (v := .int .i64 p2) rfl
      go_wp2_with fail
      refine (KR.out _ (HA.out.next B.out)).mono ?_
      rintro _ w3 ⟨A4, c4, rfl, h4, hb⟩
      have B := Lib.hid (B.out.trans (hb.mono B.out.size))
      have HX := Lib.hid ((hb.block w.heap.size hz).trans HX.out)
      have HS := Lib.hid h4
      clear hb h4 KR e0 e1
      have e0 := blk_cell HX.out 0 (v := .int .i64 p1) rfl
      have e1 := blk_cell HX.out 1 (v := .int .i64 p2) rfl
      by_cases hP : 0 < P.length
      · have d1 := dt (show (0 : Int) < (P.length : Int) by omega)
        obtain ⟨b, q, rfl, _, g0, g1, hok⟩ := pr_cell HS.out.1 (P.length - 1) (by omega)
        clear hok
        have s1 : IntKind.i64.wrap ((P.length : Int) - 1) = ((P.length - 1 : Nat) : Int) := by rw [IntKind.wrap_i64]; omega
        have s3 : (0 : Int) ≤ ((P.length - 1 : Nat) : Int) := by omega
        have s4 : P.length - 1 < P.length := by omega
        have HL := Lib.hid (show P[P.length - 1] = (p1, p2) → ok = false from fun e => N2.out (by rw [← HE.out]; exact ⟨P.length - 1, s4, by omega, e⟩))
        obtain ⟨x, hx⟩ : ∃ x, P[P.length - 1] = x := ⟨_, rfl⟩
        rw [hx] at g0 g1 HL
        clear hx
        obtain ⟨x1, x2⟩ := x
        simp only at g0 g1
        generalize P.length - 1 = t at *
        by_cases hx : x1 = p1
        · subst hx
          by_cases hy : x2 = p2
          · subst hy
            obtain rfl : ok = false := HL.out rfl
            go_wp2_with fail
            refine wp_region_quiet_lit (by kernel_rfl) (by kernel_rfl) ?_
            refine QH.out ?_
            repeat (
              refine qh_step (fun K hK => ?_)
              go_simp
              first
                | (refine hK _ ?_; clear hK K)
                | (apply Exists.intro
                   refine ⟨fun _ => ?_, hK _ ?_⟩
                   (fail)
                   clear hK K))
            refine qh_nil ?_
            intro _ hw'
            obtain ⟨nq, hw''⟩ := hw'
            subst hw''
            obtain ⟨wq, hwq⟩ : ∃ wq, wq = w3.drewN nq := ⟨_, rfl⟩
            rw [← hwq]
            have BQ := Lib.hid (show Below w.heap.size w wq by rw [hwq]; exact below_drewN B.out nq)
            clear hwq
            go_wp2_with fail
            refine (KL.out _).mono ?_
            rintro _ wz ⟨rfl, hb⟩
            have BZ := Lib.hid (BQ.out.trans (hb.mono BQ.out.size))
            clear hb
            go_wp2_with fail
            go_ret
            exact outB rfl BZ.out
          · have d2 : (x2 == p2) = false := beq_false_of_ne hy
            go_wp2_with fail
            refine wp_region_quiet_lit (by kernel_rfl) (by kernel_rfl) ?_
            refine QH.out ?_
            repeat (
              refine qh_step (fun K hK => ?_)
              go_simp
              first
                | (refine hK _ ?_; clear hK K)
                | (apply Exists.intro
                   refine ⟨fun _ => ?_, hK _ ?_⟩
                   (fail)
                   clear hK K))
            refine qh_nil ?_
            intro _ hw'
            obtain ⟨nq, hw''⟩ := hw'
            subst hw''
            obtain ⟨wq, hwq⟩ : ∃ wq, wq = w3.drewN nq := ⟨_, rfl⟩
            rw [← hwq]
            have BQ := Lib.hid (show Below w.heap.size w wq by rw [hwq]; exact below_drewN B.out nq)
            clear hwq
            go_wp2_with fail
            refine (KL.out _).mono ?_
            rintro _ wz ⟨rfl, hb⟩
            have BZ := Lib.hid (BQ.out.trans (hb.mono BQ.out.size))
            clear hb
            go_wp2_with fail
            go_ret
            exact outB rfl BZ.out
        · have d2 : (x1 == p1) = false := beq_false_of_ne hx
          go_wp2_with fail
          refine wp_region_quiet_lit (by kernel_rfl) (by kernel_rfl) ?_
          refine QH.out ?_
          repeat (
            refine qh_step (fun K hK => ?_)
            go_simp
            first
              | (refine hK _ ?_; clear hK K)
              | (apply Exists.intro
                 refine ⟨fun _ => ?_, hK _ ?_⟩
                 (fail)
                 clear hK K))
          refine qh_nil ?_
          intro _ hw'
          obtain ⟨nq, hw''⟩ := hw'
          subst hw''
          obtain ⟨wq, hwq⟩ : ∃ wq, wq = w3.drewN nq := ⟨_, rfl⟩
          rw [← hwq]
          have BQ := Lib.hid (show Below w.heap.size w wq by rw [hwq]; exact below_drewN B.out nq)
          clear hwq
          go_wp2_with fail
          refine (KL.out _).mono ?_
          rintro _ wz ⟨rfl, hb⟩
          have BZ := Lib.hid (BQ.out.trans (hb.mono BQ.out.size))
          clear hb
          go_wp2_with fail
          go_ret
          exact outB rfl BZ.out
      · have d1 := df (show ¬ (0 : Int) < (P.length : Int) by omega)
        go_wp2_with fail
        refine wp_region_quiet_lit (by kernel_rfl) (by kernel_rfl) ?_
        refine QH.out ?_
        repeat (
          refine qh_step (fun K hK => ?_)
          go_simp
          first
            | (refine hK _ ?_; clear hK K)
            | (apply Exists.intro
               refine ⟨fun _ => ?_, hK _ ?_⟩
               (fail)
               clear hK K))
        refine qh_nil ?_
        intro _ hw'
        obtain ⟨nq, hw''⟩ := hw'
        subst hw''
        obtain ⟨wq, hwq⟩ : ∃ wq, wq = w3.drewN nq := ⟨_, rfl⟩
        rw [← hwq]
        have BQ := Lib.hid (show Below w.heap.size w wq by rw [hwq]; exact below_drewN B.out nq)
        clear hwq
        go_wp2_with fail
        refine (KL.out _).mono ?_
        rintro _ wz ⟨rfl, hb⟩
        have BZ := Lib.hid (BQ.out.trans (hb.mono BQ.out.size))
        clear hb
        go_wp2_with fail
        go_ret
        exact outB rfl BZ.out
end Go.Proofs.Ytpfmfnogckeneaa.Mcq
