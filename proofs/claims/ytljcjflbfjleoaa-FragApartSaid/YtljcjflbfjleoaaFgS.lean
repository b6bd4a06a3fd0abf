/- The law Apart. -/
import Derived.Test.YtljcjflbfjleoaaFgR
import Derived.Test.YtljcjflbfjleoaaFgQ
set_option linter.unusedVariables false
namespace Go.Proofs.Ytljcjflbfjleoaa.Frg
open Go.RowKit

set_option maxRecDepth 100000 in
set_option maxHeartbeats 16000000 in
theorem law_apart (w : World) (s t : ByteArray) (id other src src2 : Int) (hs : s.size ≤ 9223372036854775807) (ht : t.size ≤ 9223372036854775807) (hsrc : I64 src) (hsrc2 : I64 src2) :
    Calls Try.prog 9 #[.string s, .string t, .int .i64 id, .int .i64 other, .int .i64 src, .int .i64 src2] w (OutB w true) := by
  have KW := Lib.hid (fun w => awake_any w)
  unfold OutB at KW
  have B0 := Lib.hid (Below.refl w.heap.size w)
  have HS1 := Lib.hid hsrc
  have HS2 := Lib.hid hsrc2
  clear hsrc hsrc2
  by_cases h1 : 1000 < s.size
  · have d0 := dt (show (1000 : Int) < (s.size : Int) by omega)
    go_enter Try.func9, Try.ntmps9
    go_wp2_with fail
    refine (KW.out _).mono ?_
    rintro _ wz ⟨rfl, hb⟩
    have BZ := Lib.hid (B0.out.trans (hb.mono B0.out.size))
    clear hb
    go_wp2_with fail
    go_ret
    exact outB rfl BZ.out
  have d0 := df (show ¬ (1000 : Int) < (s.size : Int) by omega)
  by_cases h2 : 1000 < t.size
  · have d1 := dt (show (1000 : Int) < (t.size : Int) by omega)
    go_enter Try.func9, Try.ntmps9
    go_wp2_with fail
    refine (KW.out _).mono ?_
    rintro _ wz ⟨rfl, hb⟩
    have BZ := Lib.hid (B0.out.trans (hb.mono B0.out.size))
    clear hb
    go_wp2_with fail
    go_ret
    exact outB rfl BZ.out
  have d1 := df (show ¬ (1000 : Int) < (t.size : Int) by omega)
  by_cases h3 : id < 0
  · have d2 := dt h3
    go_enter Try.func9, Try.ntmps9
    go_wp2_with fail
    refine (KW.out _).mono ?_
    rintro _ wz ⟨rfl, hb⟩
    have BZ := Lib.hid (B0.out.trans (hb.mono B0.out.size))
    clear hb
    go_wp2_with fail
    go_ret
    exact outB rfl BZ.out
  have d2 := df h3
  by_cases h4 : 255 < id
  · have d3 := dt h4
    go_enter Try.func9, Try.ntmps9
    go_wp2_with fail
    refine (KW.out _).mono ?_
    rintro _ wz ⟨rfl, hb⟩
    have BZ := Lib.hid (B0.out.trans (hb.mono B0.out.size))
    clear hb
    go_wp2_with fail
    go_ret
    exact outB rfl BZ.out
  have d3 := df h4
  by_cases h5 : other < 0
  · have d4 := dt h5
    go_enter Try.func9, Try.ntmps9
    go_wp2_with fail
    refine (KW.out _).mono ?_
    rintro _ wz ⟨rfl, hb⟩
    have BZ := Lib.hid (B0.out.trans (hb.mono B0.out.size))
    clear hb
    go_wp2_with fail
    go_ret
    exact outB rfl BZ.out
  have d4 := df h5
  by_cases h6 : 255 < other
  · have d5 := dt h6
    go_enter Try.func9, Try.ntmps9
    go_wp2_with fail
    refine (KW.out _).mono ?_
    rintro _ wz ⟨rfl, hb⟩
    have BZ := Lib.hid (B0.out.trans (hb.mono B0.out.size))
    clear hb
    go_wp2_with fail
    go_ret
    exact outB rfl BZ.out
  have d5 := df h6
  by_cases h7 : id = other ∧ src = src2
  · have d6 : (id == other) = true := by simpa using h7.1
    have d7 : (src == src2) = true := by simpa using h7.2
    clear h7
    go_enter Try.func9, Try.ntmps9
    go_wp2_with fail
    refine (KW.out _).mono ?_
    rintro _ wz ⟨rfl, hb⟩
    have BZ := Lib.hid (B0.out.trans (hb.mono B0.out.size))
    clear hb
    go_wp2_with fail
    go_ret
    exact outB rfl BZ.out
  have HK : ¬ (src = src2 ∧ id = other) := fun q => h7 ⟨q.2, q.1⟩
  have K1 := Lib.hid (show ∀ w, Calls Try.prog 12 #[.string s, .int .i64 id] w (SplitR w (pcs s id, 0)) from fun w => by
    have := psplit_any s id w hs
    rw [show split s id = (pcs s id, 0) by unfold split; rw [if_neg h1, if_neg (by omega)]] at this
    exact this)
  have K2 := Lib.hid (show ∀ w, Calls Try.prog 12 #[.string t, .int .i64 other] w (SplitR w (pcs t other, 0)) from fun w => by
    have := psplit_any t other w ht
    rw [show split t other = (pcs t other, 0) by unfold split; rw [if_neg h2, if_neg (by omega)]] at this
    exact this)
  have LP := pcs_len s id
  have LQ := pcs_len t other
  have PC := Lib.hid (fun (k : Nat) (h : k < (pcs s id).length) => (show (pcs s id)[k] = piece s id k from pcs_at s id k h))
  have QC := Lib.hid (fun (k : Nat) (h : k < (pcs t other).length) => (show (pcs t other)[k] = piece t other k from pcs_at t other k h))
  have CP := cnt_pos s.size
  have CQ := cnt_pos t.size
  have CL := cnt_le (show s.size ≤ 1000 by omega)
  have CM := cnt_le (show t.size ≤ 1000 by omega)
  have PO := Lib.hid (fun k => piece_ok s id k (by omega))
  have QO := Lib.hid (fun k => piece_ok t other k (by omega))
  have STA := Lib.hid (fun (now : Int) (i : Nat) (a b : List Pt) (hA : Side s src id i a) (hB : Side t src2 other i b) (hl : i < cnt s.size) => by
    obtain ⟨q1, q2, q3, q4, q5⟩ := side_two (by omega) (by omega) (by omega) (by omega) HK hA hB
    exact side_step (now := now) (X := []) (Y := b) (by omega) (by omega) hA hl (by simpa using q1) rfl (fun e => by subst e; exact side_start hB) (Nat.zero_le _))
  have STB := Lib.hid (fun (now : Int) (i : Nat) (a b : List Pt) (hA : Side s src id (i + 1) a) (hB : Side t src2 other i b) (hl : i < cnt t.size) => by
    obtain ⟨q1, q2, q3, q4, q5⟩ := side_two (by omega) (by omega) (by omega) (by omega) HK hA hB
    exact side_step (now := now) (X := a) (Y := []) (by omega) (by omega) hB hl (by simpa using q1) q2 (fun _ => rfl) (by omega))
  have LA := Lib.hid (fun (i j : Nat) (a b : List Pt) (hA : Side s src id i a) (hB : Side t src2 other j b) => (show (a ++ b).length ≤ 8 ∧ ∀ z ∈ a ++ b, z.h.length ≤ 16 ∧ z.d.length ≤ 16 from by
    have q := (side_two (by omega) (by omega) (by omega) (by omega) HK hA hB).1
    refine ⟨q.len, fun z hz => ?_⟩
    have v := q.val z hz
    have e1 := v.hl
    have e2 := v.dl
    have e3 := v.ct
    omega))
  have ZA := Lib.hid (side_zero s src id)
  have ZB := Lib.hid (side_zero t src2 other)
  have PA := Lib.hid (fun i a (h : Side s src id i a) hc => side_past h hc)
  have PB := Lib.hid (fun i a (h : Side t src2 other i a) hc => side_past h hc)
  have EA := Lib.hid (fun i a (h : Side s src id i a) hc => side_end h hc)
  have EB := Lib.hid (fun i a (h : Side t src2 other i a) hc => side_end h hc)
  have NK : ((id == other) && (src == src2)) = false := by
    cases q : ((id == other) && (src == src2)) with
    | false => rfl
    | true => simp at q; exact absurd q h7
  unfold SplitR at K1 K2
  simp only at K1 K2
  generalize pcs s id = L at *
  generalize pcs t other = R at *
  obtain ⟨SA, hSA⟩ : ∃ SA, Side s src id = SA := ⟨_, rfl⟩
  simp only [hSA] at STA STB LA ZA PA EA
  obtain ⟨SB, hSB⟩ : ∃ SB, Side t src2 other = SB := ⟨_, rfl⟩
  simp only [hSB] at STA STB LA ZB PB EB
  clear hSA hSB HK
  obtain ⟨pk, hpk⟩ : ∃ pk, piece s id = pk := ⟨_, rfl⟩
  simp only [hpk] at PC PO STA
  clear hpk
  obtain ⟨pq, hpq⟩ : ∃ pq, piece t other = pq := ⟨_, rfl⟩
  simp only [hpq] at QC QO STB
  clear hpq
  rw [← LP] at CP CL STA PA EA
  rw [← LQ] at CQ CM STB PB EB
  clear LP LQ
  have e1 := df (show ¬ (L.length : Int) < 1 by omega)
  have e2 := df (show ¬ (R.length : Int) < 1 by omega)
  have ss2 : (s.toList != s.toList) = false := by simp
  have tt2 : (t.toList != t.toList) = false := by simp
  clear h1 h2 h3 h4 h5 h6
  have GO := Lib.hid h7
  clear h7
  clear NK
  go_enter Try.func9, Try.ntmps9
  go_upto_region 1 with fail
  go_cut [62] (fun v wx => v = .bool false ∧ w = wx)
  case first =>
    by_cases io : id = other
    · have f6 : (id == other) = true := by simpa using io
      have f7 : (src == src2) = false := beq_false_of_ne (fun q => GO.out ⟨io, q⟩)
      clear io
      go_wp2_with fail
      go_meet
      exact ⟨rfl, rfl⟩
    · have f6 : (id == other) = false := beq_false_of_ne io
      go_wp2_with fail
      go_meet
      exact ⟨rfl, rfl⟩
  case rest =>
  obtain ⟨rfl, hwx⟩ := hcut
  subst hwx
  go_wp2_with fail
  refine (K1.out _).mono ?_
  rintro _ w1 ⟨A1, c1, rfl, h1, hb⟩
  have B1 := Lib.hid hb
  have H1 := Lib.hid h1
  clear hb h1 K1
  go_wp2_with fail
  refine (K2.out _).mono ?_
  rintro _ w2 ⟨A2, c2, rfl, h2, hb⟩
  have B2 := Lib.hid (B1.out.trans (hb.mono B1.out.size))
  have H1 := Lib.hid (H1.out.next hb)
  have H2 := Lib.hid h2
  clear hb h2 K2 B1
  go_wp2_with fail
  go_loopw [17, 18, 19, 20] (fun vp vo vt vi wr => ∃ (i o1 o2 : Nat) (a b : List Pt) (A3 : Option Addr) (c3 : Nat) (ys : List Hp), vi = .int .i64 i ∧ vp = .slice A3 ys.length c3 ∧ vo = .int .i64 o1 ∧ vt = .int .i64 o2 ∧ i ≤ 16 ∧ o1 = (if L.length ≤ i then 1 else 0) ∧ o2 = (if R.length ≤ i then 1 else 0) ∧ Hid (SA i a) ∧ Hid (SB i b) ∧ Hid (xs ys = a ++ b) ∧ Hid (PsS wr A3 c3 ys) ∧ Below w2.heap.size w2 wr) (fun _ _ _ vi _ => 16 - (intOf vi).toNat)
  case atStart => exact ⟨0, 0, 0, [], [], none, 0, [], rfl, rfl, rfl, rfl, Nat.zero_le _, by rw [if_neg (by omega)], by rw [if_neg (by omega)], ZA, ZB, Lib.hid rfl, Lib.hid (PsS.nil _), Below.refl _ _⟩
  case round =>
    obtain ⟨i, o1, o2, a, b, A3, c3, ys, rfl, rfl, rfl, rfl, hi, ho1, ho2, HA, HB, HX, HP, hb⟩ := hrel
    have B := Lib.hid hb
    clear hb ZA ZB
    by_cases ha : i < L.length
    · have g0 := dt (show (i : Int) < (L.length : Int) by omega)
      rw [if_neg (by omega)] at ho1
      subst ho1
      obtain ⟨a2, J1, J2⟩ := STA.out (i : Int) i a b HA.out HB.out ha
      simp only [List.nil_append] at J2
      have li := xs_lens HX.out (LA.out i i a b HA.out HB.out)
      have KA := padd_any A3 c3 ys src (i : Int) (pk i) wr HS1.out (by omega) (PO.out i) li.2 HP.out
      rw [HX.out, J2] at KA
      obtain ⟨bb, oo, rfl, _, hc, _⟩ := st_cell (H1.out.next B.out) i ha
      rw [PC.out i ha] at hc
      unfold AddQ at KA
      simp only at KA
      rw [show eb = (⟨#[]⟩ : ByteArray) from rfl] at KA
      have HJ := Lib.hid J1
      clear J1 J2 li
      by_cases cc : i + 1 = L.length
      · rw [if_pos cc, decide_eq_true cc] at KA
        have f1 : ((i : Int) == (L.length : Int) - 1) = true := by rw [beq_iff_eq]; omega
        have KA := Lib.hid KA
        go_wp2_with fail
        refine KA.out.mono ?_
        rintro _ w3 ⟨A4, c4, y4, rfl, h4, x4, hb⟩
        have B := Lib.hid (B.out.trans (hb.mono B.out.size))
        have HP := Lib.hid h4.psS
        have HX := Lib.hid x4
        clear hb h4 x4 KA hc
        go_upto_region 19 with fail
        rw [show ((L.length : Int) - 1) = (i : Int) by omega]
        clear f1
        by_cases hbb : i < R.length
        · have g1 := dt (show (i : Int) < (R.length : Int) by omega)
          rw [if_neg (by omega)] at ho2
          subst ho2
          obtain ⟨b2, J1, J2⟩ := STB.out (i : Int) i a2 b HJ.out HB.out hbb
          have li := xs_lens HX.out (LA.out (i + 1) i a2 b HJ.out HB.out)
          have KA := padd_any A4 c4 y4 src2 (i : Int) (pq i) w3 HS2.out (by omega) (QO.out i) li.2 HP.out
          rw [HX.out, ← List.append_nil (a2 ++ b), J2] at KA
          obtain ⟨bb, oo, rfl, _, hc, _⟩ := st_cell (H2.out.next B.out) i hbb
          rw [QC.out i hbb] at hc
          unfold AddQ at KA
          simp only [List.append_nil] at KA
          rw [show eb = (⟨#[]⟩ : ByteArray) from rfl] at KA
          have HJ2 := Lib.hid J1
          clear J1 J2 li
          by_cases cc : i + 1 = R.length
          · rw [if_pos cc, decide_eq_true cc] at KA
            have f1 : ((i : Int) == (R.length : Int) - 1) = true := by rw [beq_iff_eq]; omega
            have KA := Lib.hid KA
            go_wp2_with fail
            refine KA.out.mono ?_
            rintro _ w4 ⟨A5, c5, y5, rfl, h4, x4, hb⟩
            have B := Lib.hid (B.out.trans (hb.mono B.out.size))
            have HP := Lib.hid h4.psS
            have HX := Lib.hid x4
            clear hb h4 x4 KA hc
            go_wp2_with fail
            go_roundw
            case rel => exact ⟨i + 1, 1, 1, a2, b2, A5, c5, y5, by go_num, rfl, by first | rfl | go_num | rw [if_pos (by omega)], by first | rfl | go_num | rw [if_pos (by omega)], by omega, by first | rw [if_pos (by omega)] | rw [if_neg (by omega)], by first | rw [if_pos (by omega)] | rw [if_neg (by omega)], HJ, HJ2, HX, HP, B.out⟩
            case measure => simp [intOf]; omega
          · rw [if_neg cc, decide_eq_false cc] at KA
            have f1 : ((i : Int) == (R.length : Int) - 1) = false := beq_false_of_ne (by omega)
            have KA := Lib.hid KA
            go_wp2_with fail
            refine KA.out.mono ?_
            rintro _ w4 ⟨A5, c5, y5, rfl, h4, x4, hb⟩
            have B := Lib.hid (B.out.trans (hb.mono B.out.size))
            have HP := Lib.hid h4.psS
            have HX := Lib.hid x4
            clear hb h4 x4 KA hc
            go_wp2_with fail
            go_roundw
            case rel => exact ⟨i + 1, 1, 0, a2, b2, A5, c5, y5, by go_num, rfl, by first | rfl | go_num | rw [if_pos (by omega)], by first | rfl | go_num | rw [if_pos (by omega)], by omega, by first | rw [if_pos (by omega)] | rw [if_neg (by omega)], by first | rw [if_pos (by omega)] | rw [if_neg (by omega)], HJ, HJ2, HX, HP, B.out⟩
            case measure => simp [intOf]; omega
        · have g1 := df (show ¬ (i : Int) < (R.length : Int) by omega)
          rw [if_pos (by omega)] at ho2
          subst ho2
          have HB2 := Lib.hid (PB.out i b HB.out (by omega))
          go_wp2_with fail
          go_roundw
          case rel => exact ⟨i + 1, 1, 1, a2, b, A4, c4, y4, by go_num, rfl, by first | rfl | go_num | rw [if_pos (by omega)], by first | rfl | go_num | rw [if_pos (by omega)], by omega, by first | rw [if_pos (by omega)] | rw [if_neg (by omega)], by first | rw [if_pos (by omega)] | rw [if_neg (by omega)], HJ, HB2, HX, HP, B.out⟩
          case measure => simp [intOf]; omega
      · rw [if_neg cc, decide_eq_false cc] at KA
        have f1 : ((i : Int) == (L.length : Int) - 1) = false := beq_false_of_ne (by omega)
        have KA := Lib.hid KA
        go_wp2_with fail
        refine KA.out.mono ?_
        rintro _ w3 ⟨A4, c4, y4, rfl, h4, x4, hb⟩
        have B := Lib.hid (B.out.trans (hb.mono B.out.size))
        have HP := Lib.hid h4.psS
        have HX := Lib.hid x4
        clear hb h4 x4 KA hc
        go_upto_region 19 with fail
        clear f1
        by_cases hbb : i < R.length
        · have g1 := dt (show (i : Int) < (R.length : Int) by omega)
          rw [if_neg (by omega)] at ho2
          subst ho2
          obtain ⟨b2, J1, J2⟩ := STB.out (i : Int) i a2 b HJ.out HB.out hbb
          have li := xs_lens HX.out (LA.out (i + 1) i a2 b HJ.out HB.out)
          have KA := padd_any A4 c4 y4 src2 (i : Int) (pq i) w3 HS2.out (by omega) (QO.out i) li.2 HP.out
          rw [HX.out, ← List.append_nil (a2 ++ b), J2] at KA
          obtain ⟨bb, oo, rfl, _, hc, _⟩ := st_cell (H2.out.next B.out) i hbb
          rw [QC.out i hbb] at hc
          unfold AddQ at KA
          simp only [List.append_nil] at KA
          rw [show eb = (⟨#[]⟩ : ByteArray) from rfl] at KA
          have HJ2 := Lib.hid J1
          clear J1 J2 li
          by_cases cc : i + 1 = R.length
          · rw [if_pos cc, decide_eq_true cc] at KA
            have f1 : ((i : Int) == (R.length : Int) - 1) = true := by rw [beq_iff_eq]; omega
            have KA := Lib.hid KA
            go_wp2_with fail
            refine KA.out.mono ?_
            rintro _ w4 ⟨A5, c5, y5, rfl, h4, x4, hb⟩
            have B := Lib.hid (B.out.trans (hb.mono B.out.size))
            have HP := Lib.hid h4.psS
            have HX := Lib.hid x4
            clear hb h4 x4 KA hc
            go_wp2_with fail
            go_roundw
            case rel => exact ⟨i + 1, 0, 1, a2, b2, A5, c5, y5, by go_num, rfl, by first | rfl | go_num | rw [if_pos (by omega)], by first | rfl | go_num | rw [if_pos (by omega)], by omega, by first | rw [if_pos (by omega)] | rw [if_neg (by omega)], by first | rw [if_pos (by omega)] | rw [if_neg (by omega)], HJ, HJ2, HX, HP, B.out⟩
            case measure => simp [intOf]; omega
          · rw [if_neg cc, decide_eq_false cc] at KA
            have f1 : ((i : Int) == (R.length : Int) - 1) = false := beq_false_of_ne (by omega)
            have KA := Lib.hid KA
            go_wp2_with fail
            refine KA.out.mono ?_
            rintro _ w4 ⟨A5, c5, y5, rfl, h4, x4, hb⟩
            have B := Lib.hid (B.out.trans (hb.mono B.out.size))
            have HP := Lib.hid h4.psS
            have HX := Lib.hid x4
            clear hb h4 x4 KA hc
            go_wp2_with fail
            go_roundw
            case rel => exact ⟨i + 1, 0, 0, a2, b2, A5, c5, y5, by go_num, rfl, by first | rfl | go_num | rw [if_pos (by omega)], by first | rfl | go_num | rw [if_pos (by omega)], by omega, by first | rw [if_pos (by omega)] | rw [if_neg (by omega)], by first | rw [if_pos (by omega)] | rw [if_neg (by omega)], HJ, HJ2, HX, HP, B.out⟩
            case measure => simp [intOf]; omega
        · have g1 := df (show ¬ (i : Int) < (R.length : Int) by omega)
          rw [if_pos (by omega)] at ho2
          subst ho2
          have HB2 := Lib.hid (PB.out i b HB.out (by omega))
          go_wp2_with fail
          go_roundw
          case rel => exact ⟨i + 1, 0, 1, a2, b, A4, c4, y4, by go_num, rfl, by first | rfl | go_num | rw [if_pos (by omega)], by first | rfl | go_num | rw [if_pos (by omega)], by omega, by first | rw [if_pos (by omega)] | rw [if_neg (by omega)], by first | rw [if_pos (by omega)] | rw [if_neg (by omega)], HJ, HB2, HX, HP, B.out⟩
          case measure => simp [intOf]; omega
    · have g0 := df (show ¬ (i : Int) < (L.length : Int) by omega)
      rw [if_pos (by omega)] at ho1
      subst ho1
      have HA2 := Lib.hid (PA.out i a HA.out (by omega))
      by_cases hbb : i < R.length
      · have g1 := dt (show (i : Int) < (R.length : Int) by omega)
        rw [if_neg (by omega)] at ho2
        subst ho2
        obtain ⟨b2, J1, J2⟩ := STB.out (i : Int) i a b HA2.out HB.out hbb
        have li := xs_lens HX.out (LA.out (i + 1) i a b HA2.out HB.out)
        have KA := padd_any A3 c3 ys src2 (i : Int) (pq i) wr HS2.out (by omega) (QO.out i) li.2 HP.out
        rw [HX.out, ← List.append_nil (a ++ b), J2] at KA
        obtain ⟨bb, oo, rfl, _, hc, _⟩ := st_cell (H2.out.next B.out) i hbb
        rw [QC.out i hbb] at hc
        unfold AddQ at KA
        simp only [List.append_nil] at KA
        rw [show eb = (⟨#[]⟩ : ByteArray) from rfl] at KA
        have HJ2 := Lib.hid J1
        clear J1 J2 li
        by_cases cc : i + 1 = R.length
        · rw [if_pos cc, decide_eq_true cc] at KA
          have f1 : ((i : Int) == (R.length : Int) - 1) = true := by rw [beq_iff_eq]; omega
          have KA := Lib.hid KA
          go_wp2_with fail
          refine KA.out.mono ?_
          rintro _ w4 ⟨A5, c5, y5, rfl, h4, x4, hb⟩
          have B := Lib.hid (B.out.trans (hb.mono B.out.size))
          have HP := Lib.hid h4.psS
          have HX := Lib.hid x4
          clear hb h4 x4 KA hc
          go_wp2_with fail
          go_roundw
          case rel => exact ⟨i + 1, 1, 1, a, b2, A5, c5, y5, by go_num, rfl, by first | rfl | go_num | rw [if_pos (by omega)], by first | rfl | go_num | rw [if_pos (by omega)], by omega, by first | rw [if_pos (by omega)] | rw [if_neg (by omega)], by first | rw [if_pos (by omega)] | rw [if_neg (by omega)], HA2, HJ2, HX, HP, B.out⟩
          case measure => simp [intOf]; omega
        · rw [if_neg cc, decide_eq_false cc] at KA
          have f1 : ((i : Int) == (R.length : Int) - 1) = false := beq_false_of_ne (by omega)
          have KA := Lib.hid KA
          go_wp2_with fail
          refine KA.out.mono ?_
          rintro _ w4 ⟨A5, c5, y5, rfl, h4, x4, hb⟩
          have B := Lib.hid (B.out.trans (hb.mono B.out.size))
          have HP := Lib.hid h4.psS
          have HX := Lib.hid x4
          clear hb h4 x4 KA hc
          go_wp2_with fail
          go_roundw
          case rel => exact ⟨i + 1, 1, 0, a, b2, A5, c5, y5, by go_num, rfl, by first | rfl | go_num | rw [if_pos (by omega)], by first | rfl | go_num | rw [if_pos (by omega)], by omega, by first | rw [if_pos (by omega)] | rw [if_neg (by omega)], by first | rw [if_pos (by omega)] | rw [if_neg (by omega)], HA2, HJ2, HX, HP, B.out⟩
          case measure => simp [intOf]; omega
      · have g1 := df (show ¬ (i : Int) < (R.length : Int) by omega)
        rw [if_pos (by omega)] at ho2
        subst ho2
        have q1 := EA.out i a HA.out (by omega)
        have q2 := EB.out i b HB.out (by omega)
        obtain rfl : ys = [] := by have := HX.out; rw [q1, q2] at this; simpa [xs] using this
        have BE := Lib.hid (B2.out.trans (B.out.mono B2.out.size))
        clear HX HP HA HB HA2 STA STB LA PA PB EA EB PC QC PO QO
        go_wp2_with fail
        refine (KW.out _).mono ?_
        rintro _ wz ⟨rfl, hb⟩
        have BZ := Lib.hid (BE.out.trans (hb.mono BE.out.size))
        clear hb
        go_wp2_with fail
        go_ret
        exact outB rfl BZ.out
end Go.Proofs.Ytljcjflbfjleoaa.Frg
