/- TopoOrder walked. -/
import Derived.Test.YtdmakcjcocghhaaTJ
set_option linter.unusedVariables false
namespace Go.Proofs.Ytdmakcjcocghhaa.Tpo
open Go.RowKit

def sw (e : Ed) : Ed := (e.2, e.1)
/-- The links reversed, in order and in their ends: the first k of them. -/
def rv (l : List Ed) (k : Nat) : List Ed := (l.reverse.take k).map sw
theorem rv_zero (l : List Ed) : rv l 0 = [] := rfl
theorem rv_next (l : List Ed) (k j : Nat) (hk : k < l.length) (hj : j = l.length - 1 - k) (hjl : j < l.length) : rv l (k + 1) = rv l k ++ [((l[j]'hjl).2, (l[j]'hjl).1)] := by
  subst hj
  unfold rv
  have hr : k < l.reverse.length := by simpa using hk
  rw [List.take_succ_eq_append_getElem hr, List.map_append, List.getElem_reverse]
  rfl
theorem rv_len (l : List Ed) (k : Nat) : (rv l k).length ≤ l.length := by unfold rv; simp; omega
/-- Both, one behind the other: the first k of the second part. -/
def bk (l : List Ed) (k : Nat) : List Ed := rv l l.length ++ l.take k
theorem bk_zero (l : List Ed) : bk l 0 = rv l l.length := by unfold bk; simp
theorem bk_next (l : List Ed) (k : Nat) (hk : k < l.length) : bk l (k + 1) = bk l k ++ [l[k]] := by
  unfold bk
  rw [List.take_succ_eq_append_getElem hk, List.append_assoc]
theorem bk_len (l : List Ed) (k : Nat) : (bk l k).length ≤ 2 * l.length := by
  have := rv_len l l.length
  unfold bk; simp; omega
theorem bk_eqv (l : List Ed) : Eqv l (bk l l.length) := fun a b => by
  unfold bk rv Lk
  rw [List.take_of_length_le (by simp), List.take_of_length_le (by simp)]
  constructor
  · rintro ⟨e, h1, h2⟩; exact ⟨e, List.mem_append.2 (Or.inr h1), h2⟩
  · rintro ⟨e, h1, h2, h3⟩
    rcases List.mem_append.1 h1 with h | h
    · obtain ⟨e', h4, rfl⟩ := List.mem_map.1 h
      refine ⟨e', by simpa using h4, ⟨⟨h2.1.2, h2.1.1⟩, fun e => h2.2 e.symm⟩, ?_⟩
      rcases h3 with ⟨h5, h6⟩ | ⟨h5, h6⟩
      · exact Or.inr ⟨h6, h5⟩
      · exact Or.inl ⟨h6, h5⟩
    · exact ⟨e, h, h2, h3⟩

theorem own_at {w : World} {B : Nat} {A : Option Addr} {c : Nat} {l : List Ed} (h : OwnE w B (.slice A l.length c) l) : EdAt w w.heap.size A l := by
  obtain ⟨A', c', e, h1, _⟩ := h.read
  simp only [Value.slice.injEq] at e
  obtain ⟨rfl, _, _⟩ := e
  exact h1
set_option maxRecDepth 100000 in
set_option maxHeartbeats 4000000 in
theorem law_order (w : World) (A : Option Addr) (c : Nat) (l : List Ed) (a b : Int) (ib : I64 b) (hl : l.length ≤ 9223372036854775807) (hA : EdAt w w.heap.size A l) :
    Calls Try.prog 10 #[.slice A l.length c, .int .i64 a, .int .i64 b] w (OutB w true) := by
  have HA := Lib.hid hA
  have H0 := Lib.hid hA
  clear hA
  by_cases h60 : 60 < l.length
  · have d : decide ((60 : Int) < (l.length : Int)) = true := dt (by omega)
    go_enter Try.func10, Try.ntmps10
    go_wp2_with fail
    refine (awake_any _).mono ?_
    rintro _ w1 ⟨rfl, hb⟩
    have B1 := Lib.hid hb
    clear hb
    go_wp2_with fail
    go_ret
    exact outB rfl B1.out
  have d : decide ((60 : Int) < (l.length : Int)) = false := df (by omega)
  have EQ := bk_eqv l
  have lb := bk_len l l.length
  have K1 := Lib.hid (fun w hA => pnear_any A c l a w (by omega) hA)
  have M1 := Lib.hid (fun A c w hA => pnear_any A c (bk l l.length) a w (by omega) hA)
  have S1 := Lib.hid (fun A1 A2 c1 c2 w h1 h2 => rsamen_any A1 A2 c1 c2 (near l a) w (near_len l a) h1 h2)
  have K2 := Lib.hid (fun w hA => preach_any A c l a w (by omega) hA)
  have M2 := Lib.hid (fun A c w hA => preach_any A c (bk l l.length) a w (by omega) hA)
  have S2 := Lib.hid (fun A1 A2 c1 c2 w h1 h2 => rsamen_any A1 A2 c1 c2 (reach l a) w (reach_len l a) h1 h2)
  have K3 := Lib.hid (fun w hA => phops_any A c l a b w (by omega) ib hA)
  have M3 := Lib.hid (fun A c w hA => phops_any A c (bk l l.length) a b w (by omega) ib hA)
  have K4 := Lib.hid (fun w hA => pdepth_any A c l a w (by omega) hA)
  have M4 := Lib.hid (fun A c w hA => pdepth_any A c (bk l l.length) a w (by omega) hA)
  have K5 := Lib.hid (fun w hA => pcut_any A c l a w (by omega) hA)
  have M5 := Lib.hid (fun A c w hA => pcut_any A c (bk l l.length) a w (by omega) hA)
  have S5 := Lib.hid (fun A1 A2 c1 c2 w h1 h2 => rsamen_any A1 A2 c1 c2 (cut l a) w (cut_len l a) h1 h2)
  have K6 := Lib.hid (fun w hA => pparent_any A c l a b w (by omega) hA)
  have M6 := Lib.hid (fun A c w hA => pparent_any A c (bk l l.length) a b w (by omega) hA)
  rw [← near_eqv EQ] at M1
  rw [← reach_eqv EQ] at M2
  rw [← dist_eqv EQ] at M3
  rw [← depth_eqv EQ] at M4
  rw [← cut_eqv EQ] at M5
  rw [← parent_eqv EQ] at M6
  clear EQ lb
  have RZ := Lib.hid (rv_zero l)
  have RN := Lib.hid (fun (k j : Nat) (hk : k < l.length) (hj : j = l.length - 1 - k) (hjl : j < l.length) => rv_next l k j hk hj hjl)
  have RL := Lib.hid (fun k => rv_len l k)
  have BZ := Lib.hid (bk_zero l)
  have BN := Lib.hid (fun (k : Nat) (hk : k < l.length) => bk_next l k hk)
  have BL := Lib.hid (fun k => bk_len l k)
  generalize near l a = F1 at *
  generalize reach l a = F2 at *
  generalize dist l a b = F3 at *
  generalize depth l a = F4 at *
  generalize cut l a = F5 at *
  generalize parent l a b = F6 at *
  generalize bk l = G at *
  generalize rv l = R at *
  go_enter Try.func10, Try.ntmps10
  go_wp2_with fail
  go_loopw [7, 18] (fun vb vi wr => ∃ (k : Nat) (A1 : Option Addr) (c1 : Nat), vi = .int .i64 k ∧ k ≤ l.length ∧ vb = .slice A1 (R k).length c1 ∧ Hid (OwnE wr w.heap.size (.slice A1 (R k).length c1) (R k)) ∧ Below w.heap.size w wr) (fun _ vi _ => l.length - (intOf vi).toNat)
  case atStart => exact ⟨0, none, 0, rfl, Nat.zero_le _, by rw [RZ.out]; rfl, Lib.hid (by rw [RZ.out]; exact OwnF.nil _ _), Below.refl _ _⟩
  case round =>
    clear HA
    obtain ⟨k, A1, c1, rfl, hk, rfl, O, hb⟩ := hrel
    have B := Lib.hid hb
    have HK := Lib.hid (H0.out.next hb)
    have HJ := Lib.hid (H0.out.below hb)
    clear hb
    by_cases hlt : k < l.length
    · clear K1 K2 K3 K4 K5 K6 M1 M2 M3 M4 M5 M6 S1 S2 S5 BZ BN BL
      obtain ⟨j, hj⟩ : ∃ j, j = l.length - 1 - k := ⟨_, rfl⟩
      have hjl : j < l.length := by omega
      obtain ⟨bb, p, rfl, hbw, g0, g1, t0, t1⟩ := ed_cell HJ.out j hjl
      have N := Lib.hid (RN.out k j hlt hj hjl)
      have OK := Lib.hid (show I64 l[j].1 ∧ I64 l[j].2 from ⟨t0, t1⟩)
      have LG := RL.out k
      have i0 : IntKind.i64.wrap ((l.length : Int) - 1) = (l.length : Int) - 1 := by rw [IntKind.wrap_i64]; omega
      have i1 : IntKind.i64.wrap ((l.length : Int) - 1 - (k : Int)) = (j : Int) := by rw [IntKind.wrap_i64]; omega
      have n0 : (j : Int) < (l.length : Int) := by omega
      have n1 : (0 : Int) ≤ (j : Int) := by omega
      clear t0 t1 RN hj HK HJ
      obtain ⟨⟨x0, x1⟩, hx⟩ : ∃ x, l[j] = x := ⟨_, rfl⟩
      rw [hx] at g0 g1 OK N
      simp only at g0 g1 OK N
      clear hx
      obtain ⟨v6, w6, hap, ho6, hb6⟩ := app_edge (OwnF.alloc O.out (bxE x0 x1)) (x1, x0) ⟨OK.out.2, OK.out.1⟩ (by omega) (B.out.alloc B.out.size (bxE x0 x1)).size
      obtain ⟨A6, c6, e6, _⟩ := ho6.form
      subst e6
      rw [show (wr.alloc (bxE x0 x1)).heap.size = wr.heap.size + 1 from by simp] at hap
      have L6 := Lib.hid (show (R k ++ [((x1, x0) : Ed)]).length = (R (k + 1)).length by rw [N.out])
      have O6 := Lib.hid (show OwnE w6 w.heap.size (.slice A6 (R (k + 1)).length c6) (R (k + 1)) by rw [N.out]; exact ho6)
      have B6 := Lib.hid ((B.out.alloc B.out.size (bxE x0 x1)).trans hb6)
      rw [L6.out] at hap
      simp only at hap
      clear ho6 hb6 O LG N OK
      go_wp2_with (at_builtin; refine Lib.wpList_append_run _ rfl _ _ _ _ rfl _ _ rfl rfl _ _ hap ?_)
      go_roundw
      case rel => exact ⟨k + 1, A6, c6, by go_num, hlt, rfl, O6, B6.out⟩
      case measure => simp [intOf]; omega
    · have HA := Lib.hid HK.out
      have e : k = l.length := by omega
      subst e
      have O1 := Lib.hid (show OwnE wr w.heap.size (.slice A1 (G 0).length c1) (G 0) from by rw [BZ.out]; exact O.out)
      rw [← BZ.out]
      clear HK HJ O RZ RN RL hlt BZ
      go_wp2_with fail
      go_loopw [7, 40] (fun vb vi wr => ∃ (k : Nat) (A1 : Option Addr) (c1 : Nat), vi = .int .i64 k ∧ k ≤ l.length ∧ vb = .slice A1 (G k).length c1 ∧ Hid (OwnE wr w.heap.size (.slice A1 (G k).length c1) (G k)) ∧ Below w.heap.size w wr) (fun _ vi _ => l.length - (intOf vi).toNat)
      case atStart => exact ⟨0, A1, c1, rfl, Nat.zero_le _, rfl, O1, B.out⟩
      case round =>
        clear HA O1 B
        obtain ⟨k, A1, c1, rfl, hk, rfl, O, hb⟩ := hrel
        have B := Lib.hid hb
        have HJ := Lib.hid (H0.out.below hb)
        have HA := Lib.hid (H0.out.next hb)
        clear hb
        by_cases hlt : k < l.length
        · clear K1 K2 K3 K4 K5 K6 M1 M2 M3 M4 M5 M6 S1 S2 S5 HA
          obtain ⟨bb, p, rfl, hbw, g0, g1, t0, t1⟩ := ed_cell HJ.out k hlt
          have N := Lib.hid (BN.out k hlt)
          have OK := Lib.hid (show I64 l[k].1 ∧ I64 l[k].2 from ⟨t0, t1⟩)
          have LG := BL.out k
          clear t0 t1 BN HJ
          obtain ⟨⟨x0, x1⟩, hx⟩ : ∃ x, l[k] = x := ⟨_, rfl⟩
          rw [hx] at g0 g1 OK N
          simp only at g0 g1 OK
          clear hx
          obtain ⟨v6, w6, hap, ho6, hb6⟩ := app_edge (OwnF.alloc O.out (bxE x0 x1)) (x0, x1) OK.out (by omega) (B.out.alloc B.out.size (bxE x0 x1)).size
          obtain ⟨A6, c6, e6, _⟩ := ho6.form
          subst e6
          rw [show (wr.alloc (bxE x0 x1)).heap.size = wr.heap.size + 1 from by simp] at hap
          have L6 := Lib.hid (show (G k ++ [((x0, x1) : Ed)]).length = (G (k + 1)).length by rw [N.out])
          have O6 := Lib.hid (show OwnE w6 w.heap.size (.slice A6 (G (k + 1)).length c6) (G (k + 1)) by rw [N.out]; exact ho6)
          have B6 := Lib.hid ((B.out.alloc B.out.size (bxE x0 x1)).trans hb6)
          rw [L6.out] at hap
          simp only at hap
          clear ho6 hb6 O LG N OK
          go_wp2_with (at_builtin; refine Lib.wpList_append_run _ rfl _ _ _ _ rfl _ _ rfl rfl _ _ hap ?_)
          go_roundw
          case rel => exact ⟨k + 1, A6, c6, by go_num, hlt, rfl, O6, B6.out⟩
          case measure => simp [intOf]; omega
        · have e : k = l.length := by omega
          subst e
          have HM := Lib.hid (own_at O.out)
          clear HJ O BN hlt H0
          generalize G l.length = m at *
          go_wp2_with fail
          refine (K1.out _ HA.out).mono ?_
          rintro _ w1 ⟨v, rfl, ho, hb⟩
          obtain ⟨X1_A, X1_c, rfl, hs, X1_h, X1_n⟩ := ho.read
          have B1 := Lib.hid (B.out.trans (hb.mono B.out.size))
          have HA := Lib.hid (HA.out.next hb)
          have HM := Lib.hid (HM.out.next hb)
          have X1 := Lib.hid hs
          clear hs ho X1_n
          clear hb
          go_wp2_with fail
          refine (M1.out _ _ _ HM.out).mono ?_
          rintro _ w2 ⟨v, rfl, ho, hb⟩
          obtain ⟨X2_A, X2_c, rfl, hs, X2_h, X2_n⟩ := ho.read
          have B2 := Lib.hid (B1.out.trans (hb.mono B1.out.size))
          have HA := Lib.hid (HA.out.next hb)
          have HM := Lib.hid (HM.out.next hb)
          have X1 := Lib.hid (X1.out.next hb)
          have X2 := Lib.hid hs
          clear hs ho X2_n
          clear hb
          go_wp2_with fail
          refine (S1.out _ _ _ _ _ X1.out X2.out).mono ?_
          rintro _ w3 ⟨rfl, hb⟩
          have B3 := Lib.hid (B2.out.trans (hb.mono B2.out.size))
          have HA := Lib.hid (HA.out.next hb)
          have HM := Lib.hid (HM.out.next hb)
          have X1 := Lib.hid (X1.out.next hb)
          have X2 := Lib.hid (X2.out.next hb)
          clear hb
          clear X1 X2
          go_wp2_with fail
          refine (K2.out _ HA.out).mono ?_
          rintro _ w4 ⟨v, rfl, ho, hb⟩
          obtain ⟨X1_A, X1_c, rfl, hs, X1_h, X1_n⟩ := ho.read
          have B4 := Lib.hid (B3.out.trans (hb.mono B3.out.size))
          have HA := Lib.hid (HA.out.next hb)
          have HM := Lib.hid (HM.out.next hb)
          have X1 := Lib.hid hs
          clear hs ho X1_n
          clear hb
          go_wp2_with fail
          refine (M2.out _ _ _ HM.out).mono ?_
          rintro _ w5 ⟨v, rfl, ho, hb⟩
          obtain ⟨X2_A, X2_c, rfl, hs, X2_h, X2_n⟩ := ho.read
          have B5 := Lib.hid (B4.out.trans (hb.mono B4.out.size))
          have HA := Lib.hid (HA.out.next hb)
          have HM := Lib.hid (HM.out.next hb)
          have X1 := Lib.hid (X1.out.next hb)
          have X2 := Lib.hid hs
          clear hs ho X2_n
          clear hb
          go_wp2_with fail
          refine (S2.out _ _ _ _ _ X1.out X2.out).mono ?_
          rintro _ w6 ⟨rfl, hb⟩
          have B6 := Lib.hid (B5.out.trans (hb.mono B5.out.size))
          have HA := Lib.hid (HA.out.next hb)
          have HM := Lib.hid (HM.out.next hb)
          have X1 := Lib.hid (X1.out.next hb)
          have X2 := Lib.hid (X2.out.next hb)
          clear hb
          clear X1 X2
          go_wp2_with fail
          refine (K3.out _ HA.out).mono ?_
          rintro _ w7 ⟨rfl, hb⟩
          have B7 := Lib.hid (B6.out.trans (hb.mono B6.out.size))
          have HA := Lib.hid (HA.out.next hb)
          have HM := Lib.hid (HM.out.next hb)
          clear hb
          go_wp2_with fail
          refine (M3.out _ _ _ HM.out).mono ?_
          rintro _ w8 ⟨rfl, hb⟩
          have B8 := Lib.hid (B7.out.trans (hb.mono B7.out.size))
          have HA := Lib.hid (HA.out.next hb)
          have HM := Lib.hid (HM.out.next hb)
          clear hb
          go_wp2_with fail
          refine (K4.out _ HA.out).mono ?_
          rintro _ w9 ⟨rfl, hb⟩
          have B9 := Lib.hid (B8.out.trans (hb.mono B8.out.size))
          have HA := Lib.hid (HA.out.next hb)
          have HM := Lib.hid (HM.out.next hb)
          clear hb
          go_wp2_with fail
          refine (M4.out _ _ _ HM.out).mono ?_
          rintro _ w10 ⟨rfl, hb⟩
          have B10 := Lib.hid (B9.out.trans (hb.mono B9.out.size))
          have HA := Lib.hid (HA.out.next hb)
          have HM := Lib.hid (HM.out.next hb)
          clear hb
          go_wp2_with fail
          refine (K5.out _ HA.out).mono ?_
          rintro _ w11 ⟨v, rfl, ho, hb⟩
          obtain ⟨X1_A, X1_c, rfl, hs, X1_h, X1_n⟩ := ho.read
          have B11 := Lib.hid (B10.out.trans (hb.mono B10.out.size))
          have HA := Lib.hid (HA.out.next hb)
          have HM := Lib.hid (HM.out.next hb)
          have X1 := Lib.hid hs
          clear hs ho X1_n
          clear hb
          go_wp2_with fail
          refine (M5.out _ _ _ HM.out).mono ?_
          rintro _ w12 ⟨v, rfl, ho, hb⟩
          obtain ⟨X2_A, X2_c, rfl, hs, X2_h, X2_n⟩ := ho.read
          have B12 := Lib.hid (B11.out.trans (hb.mono B11.out.size))
          have HA := Lib.hid (HA.out.next hb)
          have HM := Lib.hid (HM.out.next hb)
          have X1 := Lib.hid (X1.out.next hb)
          have X2 := Lib.hid hs
          clear hs ho X2_n
          clear hb
          go_wp2_with fail
          refine (S5.out _ _ _ _ _ X1.out X2.out).mono ?_
          rintro _ w13 ⟨rfl, hb⟩
          have B13 := Lib.hid (B12.out.trans (hb.mono B12.out.size))
          have HA := Lib.hid (HA.out.next hb)
          have HM := Lib.hid (HM.out.next hb)
          have X1 := Lib.hid (X1.out.next hb)
          have X2 := Lib.hid (X2.out.next hb)
          clear hb
          clear X1 X2
          go_wp2_with fail
          refine (K6.out _ HA.out).mono ?_
          rintro _ w14 ⟨rfl, hb⟩
          have B14 := Lib.hid (B13.out.trans (hb.mono B13.out.size))
          have HA := Lib.hid (HA.out.next hb)
          have HM := Lib.hid (HM.out.next hb)
          clear hb
          go_wp2_with fail
          refine (M6.out _ _ _ HM.out).mono ?_
          rintro _ w15 ⟨rfl, hb⟩
          have B15 := Lib.hid (B14.out.trans (hb.mono B14.out.size))
          have HA := Lib.hid (HA.out.next hb)
          have HM := Lib.hid (HM.out.next hb)
          clear hb
          clear HA HM
          go_wp2_with fail
          refine (awake_any _).mono ?_
          rintro _ w16 ⟨rfl, hb⟩
          have B16 := Lib.hid (B15.out.trans (hb.mono B15.out.size))
          clear hb
          go_wp2_with fail
          go_ret
          exact outB rfl B16.out
end Go.Proofs.Ytdmakcjcocghhaa.Tpo
