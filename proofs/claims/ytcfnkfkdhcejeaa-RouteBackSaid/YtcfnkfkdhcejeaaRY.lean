/- RouteBack walked. -/
import Derived.Test.YtcfnkfkdhcejeaaRW
set_option linter.unusedVariables false
namespace Go.Proofs.Ytcfnkfkdhcejeaa.Rte
open Go.RowKit

theorem dec_len (l : List UInt8) : (dec l).1.length ≤ 1000000 := by
  unfold dec
  split
  · simp
  · split
    · simp
    · split
      · have := (rts_back (l.length / 4) l (by omega)).2
        dsimp only
        omega
      · simp

set_option maxRecDepth 100000 in
set_option maxHeartbeats 4000000 in
theorem law_back (w : World) (A : Option Addr) (c : Nat) (l : List Rt) (n : Int) (s : ByteArray) (hl : l.length ≤ 9223372036854775807) (hA : RtAt w w.heap.size A l) :
    Calls Try.prog 7 #[.slice A l.length c, .int .i64 n, .string s] w (OutB w true) := by
  have HA := Lib.hid hA
  clear hA
  by_cases h60 : 60 < l.length
  · have d : decide ((60 : Int) < (l.length : Int)) = true := dt (by omega)
    go_enter Try.func7, Try.ntmps7
    go_wp2_with fail
    refine (awake_any _).mono ?_
    rintro _ w1 ⟨rfl, hb⟩
    have B1 := Lib.hid hb
    clear hb
    go_wp2_with fail
    go_ret
    exact outB rfl B1.out
  have d : decide ((60 : Int) < (l.length : Int)) = false := df (by omega)
  by_cases h200 : 200 < s.size
  · have d2 : decide ((200 : Int) < (s.size : Int)) = true := dt (by omega)
    go_enter Try.func7, Try.ntmps7
    go_wp2_with fail
    refine (awake_any _).mono ?_
    rintro _ w1 ⟨rfl, hb⟩
    have B1 := Lib.hid hb
    clear hb
    go_wp2_with fail
    go_ret
    exact outB rfl B1.out
  have d2 : decide ((200 : Int) < (s.size : Int)) = false := df (by omega)
  have K1 := Lib.hid (fun w => pdec_any s w (by omega))
  have DL := Lib.hid (dec_len s.data.toList)
  have K5 := Lib.hid (fun w hA => rcheck_any A c l n w hl hA)
  -- what stands behind the first test
  have REST : ∀ (tail : Prop), True := fun _ => trivial
  by_cases he : (dec s.data.toList).2 = 0
  · have ES := Lib.hid (show bs (enc (dec s.data.toList).1) = s by rw [enc_dec _ he, bs_self])
    have K2 := Lib.hid (fun A c w (h : RtAt w w.heap.size A (dec s.data.toList).1) => (show Calls Try.prog 26 #[.slice A (dec s.data.toList).1.length c] w (fun e w' => e = .returned (.string s) ∧ Below w.heap.size w w') by
      have := penc_any A c _ w (by have := DL.out; omega) h
      unfold OutS at this
      rw [ES.out] at this
      exact this))
    clear REST ES
    rcases hq : dec s.data.toList with ⟨q1, q2⟩
    rw [hq] at K1 K2 he DL
    simp only at he K2 DL
    subst he
    clear hq
    by_cases hc : chk l n = 0
    rotate_left
    · have d4 : (chk l n != 0) = true := by simpa using hc
      generalize chk l n = ck at *
      clear hc
      go_enter Try.func7, Try.ntmps7
      go_wp2_with fail
      refine (K1.out _).mono ?_
      rintro _ w1 ⟨v, rfl, ho, hb⟩
      obtain ⟨X1_A, X1_c, rfl, hs, X1_h, X1_n⟩ := ho.read
      have B1 := Lib.hid hb
      have HA := Lib.hid (HA.out.next hb)
      have X1 := Lib.hid hs
      clear hs ho X1_n
      clear hb
      go_wp2_with fail
      refine (K2.out _ _ _ X1.out).mono ?_
      rintro _ w2 ⟨rfl, hb⟩
      have B2 := Lib.hid (B1.out.trans (hb.mono B1.out.size))
      have HA := Lib.hid (HA.out.next hb)
      have X1 := Lib.hid (X1.out.next hb)
      clear hb
      go_wp2_with fail
      refine (K5.out _ HA.out).mono ?_
      rintro _ w3 ⟨rfl, hb⟩
      have B3 := Lib.hid (B2.out.trans (hb.mono B2.out.size))
      have HA := Lib.hid (HA.out.next hb)
      clear hb
      go_wp2_with fail
      refine (awake_any _).mono ?_
      rintro _ w4 ⟨rfl, hb⟩
      have B4 := Lib.hid (B3.out.trans (hb.mono B3.out.size))
      have HA := Lib.hid (HA.out.next hb)
      clear hb
      go_wp2_with fail
      go_ret
      exact outB rfl B4.out
    have TB := Lib.hid ((chk_zero l n).1 hc)
    have hl24 : l.length ≤ 24 := TB.out.1.1
    rw [hc] at K5
    clear hc
    have K6 := Lib.hid (fun w hA => penc_any A c l w hl hA)
    have K7 := Lib.hid (show ∀ w, Calls Try.prog 24 #[.string (bs (enc l))] w (OutD w (l.map nx, 0)) from fun w => by have := pdec_any (bs (enc l)) w (by rw [bs_size]; have := enc_len_le l; omega); rw [bs_data, dec_enc TB.out] at this; exact this)
    have NL := Lib.hid (show (l.map nx).length = l.length from List.length_map _)
    have NG := Lib.hid (fun (k : Nat) (h : k < l.length) (h2 : k < (l.map nx).length) => (show (l.map nx)[k] = nx l[k] from List.getElem_map _))
    unfold OutS at K6
    generalize enc l = F at *
    generalize l.map nx = M at *
    clear TB
    go_enter Try.func7, Try.ntmps7
    go_wp2_with fail
    refine (K1.out _).mono ?_
    rintro _ w1 ⟨v, rfl, ho, hb⟩
    obtain ⟨X1_A, X1_c, rfl, hs, X1_h, X1_n⟩ := ho.read
    have B1 := Lib.hid hb
    have HA := Lib.hid (HA.out.next hb)
    have X1 := Lib.hid hs
    clear hs ho X1_n
    clear hb
    go_wp2_with fail
    refine (K2.out _ _ _ X1.out).mono ?_
    rintro _ w2 ⟨rfl, hb⟩
    have B2 := Lib.hid (B1.out.trans (hb.mono B1.out.size))
    have HA := Lib.hid (HA.out.next hb)
    have X1 := Lib.hid (X1.out.next hb)
    clear hb
    go_wp2_with fail
    refine (K5.out _ HA.out).mono ?_
    rintro _ w3 ⟨rfl, hb⟩
    have B3 := Lib.hid (B2.out.trans (hb.mono B2.out.size))
    have HA := Lib.hid (HA.out.next hb)
    clear hb
    go_wp2_with fail
    refine (K6.out _ HA.out).mono ?_
    rintro _ w4 ⟨rfl, hb⟩
    have B4 := Lib.hid (B3.out.trans (hb.mono B3.out.size))
    have HA := Lib.hid (HA.out.next hb)
    clear hb
    go_wp2_with fail
    refine (K7.out _).mono ?_
    rintro _ w5 ⟨v, rfl, ho, hb⟩
    obtain ⟨X5_A, X5_c, rfl, hs, X5_h, X5_n⟩ := ho.read; rw [NL.out]
    have B5 := Lib.hid (B4.out.trans (hb.mono B4.out.size))
    have HA := Lib.hid (HA.out.next hb)
    have X5 := Lib.hid hs
    clear hs ho X5_n
    clear hb
    go_wp2_with fail
    go_loopw [11] (fun i wr => ∃ k : Nat, i = .int .i64 k ∧ k ≤ l.length ∧ Below w5.heap.size w5 wr) (fun i _ => l.length - (intOf i).toNat)
    case atStart => exact ⟨0, rfl, Nat.zero_le _, Below.refl _ _⟩
    case round =>
      obtain ⟨k, rfl, hk, hb⟩ := hrel
      have BR := Lib.hid hb
      have hz := hb.size
      by_cases hlt : k < l.length
      · obtain ⟨b, p, rfl, hbw, g0, g1, g2, g3, _⟩ := rt_cell (HA.out.below hb) k hlt
        obtain ⟨b', p', rfl, hbw', f0, f1, f2, f3, _⟩ := rt_cell (X5.out.below hb) k (by rw [NL.out]; exact hlt)
        rw [NG.out k hlt] at f0 f1 f2 f3
        clear hb
        obtain ⟨⟨x0, x1, x2, x3⟩, hx⟩ : ∃ x, l[k] = x := ⟨_, rfl⟩
        rw [hx] at g0 g1 g2 g3 f0 f1 f2 f3
        simp only [nx] at g0 g1 g2 g3 f0 f1 f2 f3
        clear hx
        have hbr : b' < wr.heap.size := World.block_lt_of_cell? wr _ f0
        have e0 := fun o => ((alloc_below wr o).cell (p := ⟨b', p' + k * 4, none⟩) hbr).trans f0
        have e1 := fun o => ((alloc_below wr o).cell (p := ⟨b', p' + k * 4 + 1, none⟩) hbr).trans f1
        have e2 := fun o => ((alloc_below wr o).cell (p := ⟨b', p' + k * 4 + 2, none⟩) hbr).trans f2
        have e3 := fun o => ((alloc_below wr o).cell (p := ⟨b', p' + k * 4 + 3, none⟩) hbr).trans f3
        go_wp2_with fail
        go_quiet (fail)
        go_wp2_with fail
        go_roundw
        case rel => exact ⟨k + 1, by go_num, hlt, below_drewN (BR.out.alloc hz _) _⟩
        case measure => simp [intOf]; omega
      · have d9 : ¬ (k : Int) < (l.length : Int) := by omega
        have BW := Lib.hid (B5.out.trans (hb.mono B5.out.size))
        clear hb
        go_wp2_with fail
        refine (awake_any _).mono ?_
        rintro _ w9 ⟨rfl, hb⟩
        have B9 := Lib.hid (BW.out.trans (hb.mono BW.out.size))
        clear hb
        go_wp2_with fail
        go_ret
        exact outB rfl B9.out
  · have d3 : ((dec s.data.toList).2 == 0) = false := by simpa using he
    clear REST
    rcases hq : dec s.data.toList with ⟨q1, q2⟩
    rw [hq] at K1 d3 DL
    simp only at d3 DL
    clear hq he
    by_cases hc : chk l n = 0
    rotate_left
    · have d4 : (chk l n != 0) = true := by simpa using hc
      generalize chk l n = ck at *
      clear hc
      go_enter Try.func7, Try.ntmps7
      go_wp2_with fail
      refine (K1.out _).mono ?_
      rintro _ w1 ⟨v, rfl, ho, hb⟩
      obtain ⟨X1_A, X1_c, rfl, hs, X1_h, X1_n⟩ := ho.read
      have B1 := Lib.hid hb
      have HA := Lib.hid (HA.out.next hb)
      have X1 := Lib.hid hs
      clear hs ho X1_n
      clear hb
      go_wp2_with fail
      refine (K5.out _ HA.out).mono ?_
      rintro _ w2 ⟨rfl, hb⟩
      have B2 := Lib.hid (B1.out.trans (hb.mono B1.out.size))
      have HA := Lib.hid (HA.out.next hb)
      clear hb
      go_wp2_with fail
      refine (awake_any _).mono ?_
      rintro _ w3 ⟨rfl, hb⟩
      have B3 := Lib.hid (B2.out.trans (hb.mono B2.out.size))
      have HA := Lib.hid (HA.out.next hb)
      clear hb
      go_wp2_with fail
      go_ret
      exact outB rfl B3.out
    have TB := Lib.hid ((chk_zero l n).1 hc)
    have hl24 : l.length ≤ 24 := TB.out.1.1
    rw [hc] at K5
    clear hc
    have K6 := Lib.hid (fun w hA => penc_any A c l w hl hA)
    have K7 := Lib.hid (show ∀ w, Calls Try.prog 24 #[.string (bs (enc l))] w (OutD w (l.map nx, 0)) from fun w => by have := pdec_any (bs (enc l)) w (by rw [bs_size]; have := enc_len_le l; omega); rw [bs_data, dec_enc TB.out] at this; exact this)
    have NL := Lib.hid (show (l.map nx).length = l.length from List.length_map _)
    have NG := Lib.hid (fun (k : Nat) (h : k < l.length) (h2 : k < (l.map nx).length) => (show (l.map nx)[k] = nx l[k] from List.getElem_map _))
    unfold OutS at K6
    generalize enc l = F at *
    generalize l.map nx = M at *
    clear TB
    go_enter Try.func7, Try.ntmps7
    go_wp2_with fail
    refine (K1.out _).mono ?_
    rintro _ w1 ⟨v, rfl, ho, hb⟩
    obtain ⟨X1_A, X1_c, rfl, hs, X1_h, X1_n⟩ := ho.read
    have B1 := Lib.hid hb
    have HA := Lib.hid (HA.out.next hb)
    have X1 := Lib.hid hs
    clear hs ho X1_n
    clear hb
    go_wp2_with fail
    refine (K5.out _ HA.out).mono ?_
    rintro _ w2 ⟨rfl, hb⟩
    have B2 := Lib.hid (B1.out.trans (hb.mono B1.out.size))
    have HA := Lib.hid (HA.out.next hb)
    clear hb
    go_wp2_with fail
    refine (K6.out _ HA.out).mono ?_
    rintro _ w3 ⟨rfl, hb⟩
    have B3 := Lib.hid (B2.out.trans (hb.mono B2.out.size))
    have HA := Lib.hid (HA.out.next hb)
    clear hb
    go_wp2_with fail
    refine (K7.out _).mono ?_
    rintro _ w4 ⟨v, rfl, ho, hb⟩
    obtain ⟨X5_A, X5_c, rfl, hs, X5_h, X5_n⟩ := ho.read; rw [NL.out]
    have B4 := Lib.hid (B3.out.trans (hb.mono B3.out.size))
    have HA := Lib.hid (HA.out.next hb)
    have X5 := Lib.hid hs
    clear hs ho X5_n
    clear hb
    go_wp2_with fail
    go_loopw [11] (fun i wr => ∃ k : Nat, i = .int .i64 k ∧ k ≤ l.length ∧ Below w4.heap.size w4 wr) (fun i _ => l.length - (intOf i).toNat)
    case atStart => exact ⟨0, rfl, Nat.zero_le _, Below.refl _ _⟩
    case round =>
      obtain ⟨k, rfl, hk, hb⟩ := hrel
      have BR := Lib.hid hb
      have hz := hb.size
      by_cases hlt : k < l.length
      · obtain ⟨b, p, rfl, hbw, g0, g1, g2, g3, _⟩ := rt_cell (HA.out.below hb) k hlt
        obtain ⟨b', p', rfl, hbw', f0, f1, f2, f3, _⟩ := rt_cell (X5.out.below hb) k (by rw [NL.out]; exact hlt)
        rw [NG.out k hlt] at f0 f1 f2 f3
        clear hb
        obtain ⟨⟨x0, x1, x2, x3⟩, hx⟩ : ∃ x, l[k] = x := ⟨_, rfl⟩
        rw [hx] at g0 g1 g2 g3 f0 f1 f2 f3
        simp only [nx] at g0 g1 g2 g3 f0 f1 f2 f3
        clear hx
        have hbr : b' < wr.heap.size := World.block_lt_of_cell? wr _ f0
        have e0 := fun o => ((alloc_below wr o).cell (p := ⟨b', p' + k * 4, none⟩) hbr).trans f0
        have e1 := fun o => ((alloc_below wr o).cell (p := ⟨b', p' + k * 4 + 1, none⟩) hbr).trans f1
        have e2 := fun o => ((alloc_below wr o).cell (p := ⟨b', p' + k * 4 + 2, none⟩) hbr).trans f2
        have e3 := fun o => ((alloc_below wr o).cell (p := ⟨b', p' + k * 4 + 3, none⟩) hbr).trans f3
        go_wp2_with fail
        go_quiet (fail)
        go_wp2_with fail
        go_roundw
        case rel => exact ⟨k + 1, by go_num, hlt, below_drewN (BR.out.alloc hz _) _⟩
        case measure => simp [intOf]; omega
      · have d9 : ¬ (k : Int) < (l.length : Int) := by omega
        have BW := Lib.hid (B4.out.trans (hb.mono B4.out.size))
        clear hb
        go_wp2_with fail
        refine (awake_any _).mono ?_
        rintro _ w9 ⟨rfl, hb⟩
        have B9 := Lib.hid (BW.out.trans (hb.mono BW.out.size))
        clear hb
        go_wp2_with fail
        go_ret
        exact outB rfl B9.out
end Go.Proofs.Ytcfnkfkdhcejeaa.Rte
