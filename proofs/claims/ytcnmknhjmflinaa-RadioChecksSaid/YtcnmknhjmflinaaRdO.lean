/- The law Silence. -/
import Derived.Test.YtcnmknhjmflinaaRdN
import Derived.Test.YtcnmknhjmflinaaTNe
set_option linter.unusedVariables false
namespace Go.Proofs.Ytcnmknhjmflinaa.Rdo
open Go.RowKit
open Tpo (fE EdAt OwnE OwnI OutN OutL ramong_any rsamen_any rsamee_any pnear_any near wout sel)

set_option maxRecDepth 100000 in
set_option maxHeartbeats 16000000 in
theorem law_silence (x : Hd) (a : Ar) (A9 : Option Addr) (c9 : Nat) (L : List Int) (fk ff ft fs fg fq fh : Int) (fu : Bool) (fd : ByteArray) (w : World) (h : AirS w x a) (hA9 : FlAt fI w w.heap.size A9 L) :
    Calls Try.prog 8 #[airV x a, .slice A9 L.length c9, frmV fk ff ft fs fg fq fh fu fd] w (OutB w true) := by
  have KW := Lib.hid awake_any
  have KF := Lib.hid (fun w => few_any x a w)
  have KC := Lib.hid (fun (hf : Few a) w (h : AirS w x a) => pcheck_any x a w (few_fit hf) h)
  have KJ := Lib.hid (fun (hf : Few a) (hl : L.length ≤ 40) w (h : AirS w x a) (h9 : FlAt fI w w.heap.size A9 L) => pjam_any x a A9 c9 L w (few_fit hf) h (by omega) h9)
  have KD1 := Lib.hid (fun (hf : Few a) w (h : AirS w x a) => pdel_any x a fk ff ft fs fg fq fh fu fd w (few_fit hf) h)
  have KD2 := Lib.hid (fun (hf : Few a) y w (h : AirS w y (jam a L)) => pdel_any y (jam a L) fk ff ft fs fg fq fh fu fd w (jam_fit (few_fit hf) L) h)
  have KCl := Lib.hid (fun (hf : Few a) w (h : AirS w x a) => pclear_any x a w (few_fit hf) h)
  have KD3 := Lib.hid (fun (hf : Few a) y w (h : AirS w y (clr a)) => pdel_any y (clr a) fk ff 255 fs fg fq fh fu fd w (clr_fit (few_fit hf)) h)
  have KU := Lib.hid (fun (hf : Few a) w (h : AirS w x a) => pup_any x a w (few_fit hf) h)
  have KN := Lib.hid (fun (hf : Few a) A1 c1 w => pnear_any A1 c1 (up a) ff w (by have := (sane_fit (few_fit hf)).1; have h2 := Tpo.wout_len (sane a).e (sane a).o; unfold up; omega))
  have KO := Lib.hid (fun (hf : Few a) w => ramong_any x.A2 x.c2 a.o ff w (by have := hf.2.1; omega))
  have DL1 := del_len a ff ft
  have DL2 := del_len (jam a L) ff ft
  have JL : (jam a L).n.length ≤ 24 := nsy_len _ _
  have NL : (near (up a) ff).length ≤ 251 := near_len _ _
  have JQ := Lib.hid (fun (h0 : achk a = 0) => jam_quiet h0 L ff ft)
  have JH := Lib.hid (fun (h0 : achk a = 0) (hl : (jam a L).n.length < 24) (v : Int) (hv : v ∈ L) (hn : Tpo.Nd v) => jam_has h0 hl hv hn)
  have ED := Lib.hid (fun (h0 : achk a = 0) => clr_all h0 ff)
  unfold OutB at KW
  unfold OutI at KC
  unfold AirR at KJ KCl
  unfold DelR at KD1 KD2 KD3
  unfold EdR at KU
  unfold OutN at KN
  generalize del a ff ft = D1 at *
  generalize del (jam a L) ff ft = D2 at *
  generalize del (clr a) ff 255 = D3 at *
  generalize jam a L = J at *
  generalize clr a = X at *
  generalize near (up a) ff = NR at *
  generalize up a = U_ at *
  generalize achk a = r at *
  generalize hFW : Few a = FW at *
  clear hFW
  obtain ⟨D1, b1⟩ := D1
  obtain ⟨D2, b2⟩ := D2
  obtain ⟨D3, b3⟩ := D3
  obtain ⟨JE, JO, JN⟩ := J
  obtain ⟨XE, XO, XN⟩ := X
  simp only at DL1 DL2 JL
  dsimp only at KD1 KD2 KD3 JQ JH ED
  have H9 := Lib.hid (fun w' (hb : Below w.heap.size w w') => hA9.next hb)
  clear hA9
  have b1 := alloc_below w (airO x a)
  have b2 := alloc_below (w.alloc (airO x a)) (.cells #[.int .i64 fk, .int .i64 ff, .int .i64 ft, .int .i64 fs, .int .i64 fg, .int .i64 fq, .int .i64 fh, .bool fu, .string fd] 31)
  have B1 := Lib.hid (b1.trans (b2.mono (by simp)))
  have H0 := Lib.hid (fun w' (hb : Below w.heap.size w w') => h.next hb)
  clear h b1 b2
  have X1 := blk_alloc (blk_new w (airO x a)) (.cells #[.int .i64 fk, .int .i64 ff, .int .i64 ft, .int .i64 fs, .int .i64 fg, .int .i64 fq, .int .i64 fh, .bool fu, .string fd] 31)
  have Y1 : ((w.alloc (airO x a)).alloc (.cells #[.int .i64 fk, .int .i64 ff, .int .i64 ft, .int .i64 fs, .int .i64 fg, .int .i64 fq, .int .i64 fh, .bool fu, .string fd] 31)).heap[w.heap.size + 1]? = some (.cells #[.int .i64 fk, .int .i64 ff, .int .i64 ft, .int .i64 fs, .int .i64 fg, .int .i64 fq, .int .i64 fh, .bool fu, .string fd] 31) := by have := blk_new (w.alloc (airO x a)) (.cells #[.int .i64 fk, .int .i64 ff, .int .i64 ft, .int .i64 fs, .int .i64 fg, .int .i64 fq, .int .i64 fh, .bool fu, .string fd] 31); simpa using this
  have hz1 : w.heap.size + 2 ≤ ((w.alloc (airO x a)).alloc (.cells #[.int .i64 fk, .int .i64 ff, .int .i64 ft, .int .i64 fs, .int .i64 fg, .int .i64 fq, .int .i64 fh, .bool fu, .string fd] 31)).heap.size := by simp
  obtain ⟨A1, c1, A2, c2, A3, c3⟩ := x
  obtain ⟨E, O, N⟩ := a
  dsimp only [airV, airO] at *
  go_enter Try.func8, Try.ntmps8
  go_wp2_with fail
  refine (KF.out _).mono ?_
  rintro _ w2 ⟨b, rfl, hf, hb⟩
  have X1 := Lib.hid X1
  have Y1 := Lib.hid Y1
  have B2 := Lib.hid (B1.out.trans (hb.mono B1.out.size))
  have X2 := Lib.hid (blk_below X1.out hb (by omega))
  have Y2 := Lib.hid (blk_below Y1.out hb (by omega))
  have hz2 := Nat.le_trans hz1 hb.size
  clear hb X1 Y1 hz1 KF B1
  cases b with
  | false =>
    clear X2 Y2
    go_wp2_with fail
    refine (KW.out _).mono ?_
    rintro _ wz ⟨rfl, hb⟩
    have BZ := Lib.hid (B2.out.trans (hb.mono B2.out.size))
    clear hb
    go_wp2_with fail
    go_ret
    exact outB rfl BZ.out
  | true =>
    have hf := hf rfl
    by_cases h40 : 40 < L.length
    · have d1 := dt (show (40 : Int) < (L.length : Int) by omega)
      clear X2 Y2 h40
      go_wp2_with fail
      refine (KW.out _).mono ?_
      rintro _ wz ⟨rfl, hb⟩
      have BZ := Lib.hid (B2.out.trans (hb.mono B2.out.size))
      clear hb
      go_wp2_with fail
      go_ret
      exact outB rfl BZ.out
    have d1 := df (show ¬ (40 : Int) < (L.length : Int) by omega)
    have KC := Lib.hid (KC.out hf)
    have KJ := Lib.hid (KJ.out hf (by omega))
    have KD1 := Lib.hid (KD1.out hf)
    have KD2 := Lib.hid (KD2.out hf)
    have KD3 := Lib.hid (KD3.out hf)
    have KCl := Lib.hid (KCl.out hf)
    have KU := Lib.hid (KU.out hf)
    have KN := Lib.hid (KN.out hf)
    have KO := Lib.hid (KO.out hf)
    clear hf
    obtain ⟨q0, q1, q2⟩ := air_block X2.out
    go_wp2_with fail
    refine (KC.out _ (H0.out _ B2.out)).mono ?_
    rintro _ w3 ⟨rfl, hb⟩
    have B3 := Lib.hid (B2.out.trans (hb.mono B2.out.size))
    have X3 := Lib.hid (blk_below X2.out hb (by omega))
    have Y3 := Lib.hid (blk_below Y2.out hb (by omega))
    have hz3 := Nat.le_trans hz2 hb.size
    clear hb X2 Y2 hz2 KC B2 q0 q1 q2 d1
    by_cases h0 : r = 0
    rotate_left
    · have d0 : (r != 0) = true := by simpa using h0
      clear X3 Y3
      go_wp2_with fail
      refine (KW.out _).mono ?_
      rintro _ wz ⟨rfl, hb⟩
      have BZ := Lib.hid (B3.out.trans (hb.mono B3.out.size))
      clear hb
      go_wp2_with fail
      go_ret
      exact outB rfl BZ.out
    subst h0
    replace JQ := Lib.hid (JQ.out rfl)
    replace JH := Lib.hid (JH.out rfl)
    replace ED := Lib.hid (ED.out rfl)
    obtain ⟨q0, q1, q2⟩ := air_block X3.out
    go_wp2_with fail
    refine (KJ.out _ (H0.out _ B3.out) (H9.out _ B3.out)).mono ?_
    rintro _ w4 ⟨⟨P1, p1, P2, p2, P3, p3⟩, rfl, h4, hb⟩
    dsimp only [airV]
    have B4 := Lib.hid (B3.out.trans (hb.mono B3.out.size))
    have X4 := Lib.hid (blk_below X3.out hb (by omega))
    have Y4 := Lib.hid (blk_below Y3.out hb (by omega))
    have hz4 := Nat.le_trans hz3 hb.size
    have ba := alloc_below w4 (.cells #[.slice P1 JE.length p1, .slice P2 JO.length p2, .slice P3 JN.length p3] 25)
    have X4' := blk_alloc X4.out (.cells #[.slice P1 JE.length p1, .slice P2 JO.length p2, .slice P3 JN.length p3] 25)
    have Y4' := blk_alloc Y4.out (.cells #[.slice P1 JE.length p1, .slice P2 JO.length p2, .slice P3 JN.length p3] 25)
    have V4 := blk_new w4 (.cells #[.slice P1 JE.length p1, .slice P2 JO.length p2, .slice P3 JN.length p3] 25)
    have HJ := Lib.hid (h4.next ba)
    have B4' := Lib.hid (B4.out.trans (ba.mono B4.out.size))
    have hz4' : w4.heap.size + 1 ≤ (w4.alloc (.cells #[.slice P1 JE.length p1, .slice P2 JO.length p2, .slice P3 JN.length p3] 25)).heap.size := by simp
    clear hb h4 X3 Y3 hz3 KJ B3 q0 q1 q2 ba X4 Y4 B4
    obtain ⟨q0, q1, q2⟩ := air_block X4'
    obtain ⟨m0, m1, m2, m3, m4, m5, m6, m7, m8⟩ := frm_block Y4'
    have X4' := Lib.hid X4'
    have Y4' := Lib.hid Y4'
    have V4 := Lib.hid V4
    go_wp2_with fail
    refine (KD1.out _ (H0.out _ B4'.out)).mono ?_
    rintro _ w5 ⟨A5, c5, rfl, h5, hb⟩
    have B5 := Lib.hid (B4'.out.trans (hb.mono B4'.out.size))
    have X5 := Lib.hid (blk_below X4'.out hb (by omega))
    have Y5 := Lib.hid (blk_below Y4'.out hb (by omega))
    have V5 := Lib.hid (blk_below V4.out hb (by omega))
    have HJ := Lib.hid (HJ.out.next hb)
    have S5 := Lib.hid h5
    have hz5 := Nat.le_trans hz4' hb.size
    clear hb h5 X4' Y4' V4 B4' hz4' KD1 q0 q1 q2 m0 m1 m2 m3 m4 m5 m6 m7 m8
    obtain ⟨q0, q1, q2⟩ := air_block V5.out
    obtain ⟨m0, m1, m2, m3, m4, m5, m6, m7, m8⟩ := frm_block Y5.out
    go_wp2_with fail
    refine (KD2.out _ _ HJ.out).mono ?_
    rintro _ w6 ⟨A6, c6, rfl, h6, hb⟩
    have B6 := Lib.hid (B5.out.trans (hb.mono B5.out.size))
    have X6 := Lib.hid (blk_below X5.out hb (by omega))
    have Y6 := Lib.hid (blk_below Y5.out hb (by omega))
    have V6 := Lib.hid (blk_below V5.out hb (by omega))
    have HJ := Lib.hid (HJ.out.next hb)
    have S5 := Lib.hid (S5.out.next hb)
    have S6 := Lib.hid h6
    have hz6 : w.heap.size + 2 ≤ w6.heap.size := by have := hb.size; omega
    clear hb h6 X5 Y5 V5 B5 hz5 hz4 KD2 q0 q1 q2 m0 m1 m2 m3 m4 m5 m6 m7 m8
    obtain ⟨_, _, g2⟩ := air_block V6.out
    have KJr := Lib.hid (fun v => ramong_any P3 p3 JN v w6 (by omega) HJ.out.2.2.1)
    have KBr := Lib.hid (fun v => ramong_any A5 c5 D1 v w6 (by omega) S5.out.1)
    have L9 := Lib.hid (H9.out _ B6.out)
    go_wp2_with fail
    go_loop [49] (fun vk => ∃ k : Nat, vk = .int .i64 k ∧ k ≤ D2.length) (fun vk => D2.length - (intOf vk).toNat)
    case atStart => exact ⟨0, rfl, Nat.zero_le _⟩
    case round =>
      obtain ⟨k, rfl, hk⟩ := hrel
      by_cases hlt : k < D2.length
      · obtain ⟨nb, np, rfl, _, g0, _⟩ := fI_cell S6.out.1 k hlt
        obtain ⟨i1, i2⟩ := JQ.out _ (List.getElem_mem hlt)
        generalize D2[k] = x0 at *
        have KJx := Lib.hid (KJr.out x0)
        have KBx := Lib.hid (KBr.out x0)
        rw [df i1] at KJx
        clear i1 KJr KBr
        by_cases hin : x0 ∈ D1
        · rw [dt hin] at KBx
          clear hin i2
          go_wp2_with fail
          refine KBx.out.mono ?_
          rintro _ _ ⟨rfl, rfl⟩
          go_wp2_with fail
          refine KJx.out.mono ?_
          rintro _ _ ⟨rfl, rfl⟩
          go_wp2_with fail
          go_round
          case rel => exact ⟨k + 1, by go_num, hlt⟩
          case measure => simp [intOf]; omega
        · rw [df hin] at KBx
          have d3 := df (show ¬ (JN.length : Int) < 24 from fun q => hin (i2 (by omega)))
          clear hin i2
          go_wp2_with fail
          refine KBx.out.mono ?_
          rintro _ _ ⟨rfl, rfl⟩
          go_wp2_with fail
          refine KJx.out.mono ?_
          rintro _ _ ⟨rfl, rfl⟩
          go_wp2_with fail
          go_round
          case rel => exact ⟨k + 1, by go_num, hlt⟩
          case measure => simp [intOf]; omega
      · by_cases h24 : JN.length < 24
        · have d3 := dt (show (JN.length : Int) < 24 by omega)
          replace JH := Lib.hid (JH.out h24)
          clear JQ KBr S5 S6
          go_wp2_with fail
          clear d3
          clear hk hlt
          go_loop [76] (fun vk => ∃ k : Nat, vk = .int .i64 k ∧ k ≤ L.length) (fun vk => L.length - (intOf vk).toNat)
          case atStart => exact ⟨0, rfl, Nat.zero_le _⟩
          case round =>
            obtain ⟨k, rfl, hk⟩ := hrel
            by_cases hlt : k < L.length
            · obtain ⟨nb, np, rfl, _, g0, _⟩ := fI_cell L9.out k hlt
              have i1 := JH.out _ (List.getElem_mem hlt)
              generalize L[k] = x0 at *
              have KJx := Lib.hid (KJr.out x0)
              have KNx := Lib.hid (fun w => Tpo.rnode_any x0 w)
              clear KJr
              by_cases hn : Tpo.Nd x0
              · rw [dt (i1 hn)] at KJx
                rw [dt hn] at KNx
                clear i1 hn
                go_wp2_with fail
                refine (KNx.out _).mono ?_
                rintro _ _ ⟨rfl, rfl⟩
                go_wp2_with fail
                refine KJx.out.mono ?_
                rintro _ _ ⟨rfl, rfl⟩
                go_wp2_with fail
                go_round
                case rel => exact ⟨k + 1, by go_num, hlt⟩
                case measure => simp [intOf]; omega
              · rw [df hn] at KNx
                clear i1 hn KJx
                go_wp2_with fail
                refine (KNx.out _).mono ?_
                rintro _ _ ⟨rfl, rfl⟩
                go_wp2_with fail
                go_round
                case rel => exact ⟨k + 1, by go_num, hlt⟩
                case measure => simp [intOf]; omega
            · clear JH KJr g2 V6 HJ
              have m2 := blk_cell Y6.out 2 (v := .int .i64 ft) rfl
              have frm := fun j => blk_fr Y6.out j
              obtain ⟨U, hU⟩ : ∃ U, U = w6.setCell ⟨w.heap.size + 1, 2, none⟩ (.int .i64 255) := ⟨_, rfl⟩
              have XU : U.heap[w.heap.size]? = some (.cells #[.slice A1 E.length c1, .slice A2 O.length c2, .slice A3 N.length c3] 25) := by rw [hU]; exact blk_other X6.out (by simp) _
              have YU : U.heap[w.heap.size + 1]? = some (.cells #[.int .i64 fk, .int .i64 ff, .int .i64 255, .int .i64 fs, .int .i64 fg, .int .i64 fq, .int .i64 fh, .bool fu, .string fd] 31) := by rw [hU]; exact blk_set Y6.out 2 (.int .i64 255)
              have BU : Below w.heap.size w U := by rw [hU]; exact B6.out.setCell (Nat.le_succ _) _
              have zU : w.heap.size + 2 ≤ U.heap.size := by rw [hU, World.size_setCell]; exact hz6
              have XU := Lib.hid XU
              have YU := Lib.hid YU
              have BU := Lib.hid BU
              have HU := Lib.hid (H0.out _ BU.out)
              clear X6 Y6 B6 hz6
              go_wp2_with fail
              rw [← hU]
              clear hU m2 frm
              have HC := Lib.hid (show ∀ wy, Below U.heap.size U wy → wy.cell? ⟨w.heap.size, 0, none⟩ = some (.slice A1 E.length c1) ∧ wy.cell? ⟨w.heap.size, 1, none⟩ = some (.slice A2 O.length c2) ∧ wy.cell? ⟨w.heap.size, 2, none⟩ = some (.slice A3 N.length c3) ∧ wy.cell? ⟨w.heap.size + 1, 0, none⟩ = some (.int .i64 fk) ∧ wy.cell? ⟨w.heap.size + 1, 1, none⟩ = some (.int .i64 ff) ∧ wy.cell? ⟨w.heap.size + 1, 2, none⟩ = some (.int .i64 255) ∧ wy.cell? ⟨w.heap.size + 1, 3, none⟩ = some (.int .i64 fs) ∧ wy.cell? ⟨w.heap.size + 1, 4, none⟩ = some (.int .i64 fg) ∧ wy.cell? ⟨w.heap.size + 1, 5, none⟩ = some (.int .i64 fq) ∧ wy.cell? ⟨w.heap.size + 1, 6, none⟩ = some (.int .i64 fh) ∧ wy.cell? ⟨w.heap.size + 1, 7, none⟩ = some (.bool fu) ∧ wy.cell? ⟨w.heap.size + 1, 8, none⟩ = some (.string fd) from fun wy hb => by
                obtain ⟨a0, a1, a2⟩ := air_block (blk_below XU.out hb (by omega))
                obtain ⟨m0, m1, m2, m3, m4, m5, m6, m7, m8⟩ := frm_block (blk_below YU.out hb (by omega))
                exact ⟨a0, a1, a2, m0, m1, m2, m3, m4, m5, m6, m7, m8⟩)
              have Z0 : Below U.heap.size U U.drew := below_drewN (Below.refl _ _) 1
              refine wp_region_held_drew (S := (fun wy : World => wy.cell? ⟨w.heap.size, 0, none⟩ = some (.slice A1 E.length c1) ∧ wy.cell? ⟨w.heap.size, 1, none⟩ = some (.slice A2 O.length c2) ∧ wy.cell? ⟨w.heap.size, 2, none⟩ = some (.slice A3 N.length c3) ∧ wy.cell? ⟨w.heap.size + 1, 0, none⟩ = some (.int .i64 fk) ∧ wy.cell? ⟨w.heap.size + 1, 1, none⟩ = some (.int .i64 ff) ∧ wy.cell? ⟨w.heap.size + 1, 2, none⟩ = some (.int .i64 255) ∧ wy.cell? ⟨w.heap.size + 1, 3, none⟩ = some (.int .i64 fs) ∧ wy.cell? ⟨w.heap.size + 1, 4, none⟩ = some (.int .i64 fg) ∧ wy.cell? ⟨w.heap.size + 1, 5, none⟩ = some (.int .i64 fq) ∧ wy.cell? ⟨w.heap.size + 1, 6, none⟩ = some (.int .i64 fh) ∧ wy.cell? ⟨w.heap.size + 1, 7, none⟩ = some (.bool fu) ∧ wy.cell? ⟨w.heap.size + 1, 8, none⟩ = some (.string fd))) (by kernel_rfl) (HC.out _ Z0) (fun hHeld => ?_)
              refine wpAnyH_take (i := 0) (v := (.agg #[.slice A1 E.length c1, .slice A2 O.length c2, .slice A3 N.length c3])) at_zero (by kernel_rfl) (by kernel_rfl) (by kernel_rfl) (fun _ _ _ h => h) (Or.inl ⟨by kernel_rfl, fun wy hSw => ?_⟩) (by assumption) ?_
              · (try dsimp only at hSw); go_simp
              try simp only [Act.put, List.setIfInBounds_toArray, List.set_cons_zero, List.set_cons_succ]
              refine wpAnyH_take (i := 2) (v := (.agg #[.int .i64 fk, .int .i64 ff, .int .i64 255, .int .i64 fs, .int .i64 fg, .int .i64 fq, .int .i64 fh, .bool fu, .string fd])) (at_succ (at_succ at_zero)) (by kernel_rfl) (by kernel_rfl) (by kernel_rfl) (fun _ _ _ h => h) (Or.inl ⟨by kernel_rfl, fun wy hSw => ?_⟩) (by assumption) ?_
              · (try dsimp only at hSw); go_simp
              try simp only [Act.put, List.setIfInBounds_toArray, List.set_cons_zero, List.set_cons_succ]
              refine wpAnyH_ready (rs := [1]) (by kernel_rfl) (by simp) ?_
              refine AllReadyH.cons (at_succ at_zero) (fun K hK => ?_) AllReadyH.nil
              rw [if_pos (by kernel_rfl)]
              go_simp
              refine (KCl.out _ (HU.out.next Z0)).mono ?_
              rintro _ wz ⟨⟨Q1, q1, Q2, q2, Q3, q3⟩, rfl, hk, hb⟩
              have HK := Lib.hid hk
              clear hk
              dsimp only [airV]
              have Z1 := Z0.trans (hb.mono Z0.size)
              clear hb hHeld
              go_wp2_with fail
              refine hK.out _ _ (HC.out _ Z1) (fun hHeld => ?_)
              clear hK K
              try simp only [Act.put, List.setIfInBounds_toArray, List.set_cons_zero, List.set_cons_succ]
              refine wpAnyH_ready (rs := [3]) (by kernel_rfl) (by simp) ?_
              refine AllReadyH.cons (at_succ (at_succ (at_succ at_zero))) (fun K hK => ?_) AllReadyH.nil
              rw [if_pos (by kernel_rfl)]
              go_simp
              refine (KD3.out _ _ HK.out).mono ?_
              rintro _ wz2 ⟨A7, c7, rfl, h7, hb⟩
              have S7 := Lib.hid h7
              clear h7
              have Z2 := Z1.trans (hb.mono Z1.size)
              clear hb hHeld
              go_wp2_with fail
              refine hK.out _ _ (HC.out _ Z2) (fun hHeld => ?_)
              clear hK K
              try simp only [Act.put, List.setIfInBounds_toArray, List.set_cons_zero, List.set_cons_succ]
              refine wpAnyH_take (i := 4) (v := (.tuple #[.slice A7 D3.length c7, .bool b3])) (at_succ (at_succ (at_succ (at_succ at_zero)))) (by kernel_rfl) (by kernel_rfl) (by kernel_rfl) (fun _ _ _ h => h) (Or.inl ⟨by kernel_rfl, fun wy hSw => ?_⟩) (by assumption) ?_
              · (try dsimp only at hSw); go_simp
              try simp only [Act.put, List.setIfInBounds_toArray, List.set_cons_zero, List.set_cons_succ]
              refine wpAnyH_take (i := 5) (v := (.slice A7 D3.length c7)) (at_succ (at_succ (at_succ (at_succ (at_succ at_zero))))) (by kernel_rfl) (by kernel_rfl) (by kernel_rfl) (fun _ _ _ h => h) (Or.inl ⟨by kernel_rfl, fun wy hSw => ?_⟩) (by assumption) ?_
              · (try dsimp only at hSw); go_simp
              try simp only [Act.put, List.setIfInBounds_toArray, List.set_cons_zero, List.set_cons_succ]
              refine wpAnyH_take (i := 6) (v := (.bool b3)) (at_succ (at_succ (at_succ (at_succ (at_succ (at_succ at_zero)))))) (by kernel_rfl) (by kernel_rfl) (by kernel_rfl) (fun _ _ _ h => h) (Or.inl ⟨by kernel_rfl, fun wy hSw => ?_⟩) (by assumption) ?_
              · (try dsimp only at hSw); go_simp
              try simp only [Act.put, List.setIfInBounds_toArray, List.set_cons_zero, List.set_cons_succ]
              refine wpAnyH_take (i := 7) (v := (.slice A7 D3.length c7)) (at_succ (at_succ (at_succ (at_succ (at_succ (at_succ (at_succ at_zero))))))) (by kernel_rfl) (by kernel_rfl) (by kernel_rfl) (fun _ _ _ h => h) (Or.inl ⟨by kernel_rfl, fun wy hSw => ?_⟩) (by assumption) ?_
              · (try dsimp only at hSw); go_simp
              try simp only [Act.put, List.setIfInBounds_toArray, List.set_cons_zero, List.set_cons_succ]
              refine wpAnyH_take (i := 8) (v := (.bool b3)) (at_succ (at_succ (at_succ (at_succ (at_succ (at_succ (at_succ (at_succ at_zero)))))))) (by kernel_rfl) (by kernel_rfl) (by kernel_rfl) (fun _ _ _ h => h) (Or.inl ⟨by kernel_rfl, fun wy hSw => ?_⟩) (by assumption) ?_
              · (try dsimp only at hSw); go_simp
              try simp only [Act.put, List.setIfInBounds_toArray, List.set_cons_zero, List.set_cons_succ]
              refine wpAnyH_done (by kernel_rfl) ?_ _
              have hb := Z2
              obtain ⟨w7, hw7⟩ : ∃ w7, w7 = wz2 := ⟨_, rfl⟩
              subst hw7
              have B7 := Lib.hid (BU.out.trans (hb.mono BU.out.size))
              have X7 := Lib.hid (blk_below XU.out hb (by omega))
              have Y7 := Lib.hid (blk_below YU.out hb (by omega))
              have hz7 := Nat.le_trans zU hb.size
              have HV := Lib.hid (H0.out _ B7.out)
              clear hb HC XU YU BU zU HU
              have a1 := blk_cell X7.out 1 (v := .slice A2 O.length c2) rfl
              have m1 := blk_cell Y7.out 1 (v := .int .i64 ff) rfl
              have KOr := Lib.hid (KO.out _ HV.out.2.1.1)
              by_cases hO : ff ∈ O
              · rw [dt hO] at KOr
                have e3 := ED.out.trans (if_pos hO)
                have l3 : ((D3.length : Int) == 0) = true := by rw [e3]; rfl
                have l4 : (D3.length == 0) = true := by rw [e3]; rfl
                clear e3 hO
                go_wp2_with fail
                refine KOr.out.mono ?_
                rintro _ _ ⟨rfl, rfl⟩
                clear a1 m1
                go_wp2_with fail
                refine (KW.out _).mono ?_
                rintro _ wz ⟨rfl, hb⟩
                have BZ := Lib.hid (B7.out.trans (hb.mono B7.out.size))
                clear hb
                go_wp2_with fail
                go_ret
                exact outB rfl BZ.out
              · rw [df hO] at KOr
                have e3 := ED.out.trans (if_neg hO)
                rw [← e3] at KN
                have KS := Lib.hid (fun A2 c2 w h1 h2 => rsamen_any A7 A2 c7 c2 D3 w (by rw [e3]; omega) h1 h2)
                unfold OutB at KS
                clear e3 hO
                have HD := Lib.hid (show ∀ wy, Below w7.heap.size w7 wy → wy.cell? ⟨w.heap.size, 0, none⟩ = some (.slice A1 E.length c1) ∧ wy.cell? ⟨w.heap.size, 1, none⟩ = some (.slice A2 O.length c2) ∧ wy.cell? ⟨w.heap.size, 2, none⟩ = some (.slice A3 N.length c3) ∧ wy.cell? ⟨w.heap.size + 1, 0, none⟩ = some (.int .i64 fk) ∧ wy.cell? ⟨w.heap.size + 1, 1, none⟩ = some (.int .i64 ff) ∧ wy.cell? ⟨w.heap.size + 1, 2, none⟩ = some (.int .i64 255) ∧ wy.cell? ⟨w.heap.size + 1, 3, none⟩ = some (.int .i64 fs) ∧ wy.cell? ⟨w.heap.size + 1, 4, none⟩ = some (.int .i64 fg) ∧ wy.cell? ⟨w.heap.size + 1, 5, none⟩ = some (.int .i64 fq) ∧ wy.cell? ⟨w.heap.size + 1, 6, none⟩ = some (.int .i64 fh) ∧ wy.cell? ⟨w.heap.size + 1, 7, none⟩ = some (.bool fu) ∧ wy.cell? ⟨w.heap.size + 1, 8, none⟩ = some (.string fd) from fun wy hb => by
                  obtain ⟨a0, a1, a2⟩ := air_block (blk_below X7.out hb (by omega))
                  obtain ⟨m0, m1, m2, m3, m4, m5, m6, m7, m8⟩ := frm_block (blk_below Y7.out hb (by omega))
                  exact ⟨a0, a1, a2, m0, m1, m2, m3, m4, m5, m6, m7, m8⟩)
                have Z0 : Below w7.heap.size w7 w7.drew := below_drewN (Below.refl _ _) 1
                go_wp2_with fail
                refine KOr.out.mono ?_
                rintro _ _ ⟨rfl, rfl⟩
                clear a1 m1
                go_wp2_with fail
                refine wp_region_held_drew (S := (fun wy : World => wy.cell? ⟨w.heap.size, 0, none⟩ = some (.slice A1 E.length c1) ∧ wy.cell? ⟨w.heap.size, 1, none⟩ = some (.slice A2 O.length c2) ∧ wy.cell? ⟨w.heap.size, 2, none⟩ = some (.slice A3 N.length c3) ∧ wy.cell? ⟨w.heap.size + 1, 0, none⟩ = some (.int .i64 fk) ∧ wy.cell? ⟨w.heap.size + 1, 1, none⟩ = some (.int .i64 ff) ∧ wy.cell? ⟨w.heap.size + 1, 2, none⟩ = some (.int .i64 255) ∧ wy.cell? ⟨w.heap.size + 1, 3, none⟩ = some (.int .i64 fs) ∧ wy.cell? ⟨w.heap.size + 1, 4, none⟩ = some (.int .i64 fg) ∧ wy.cell? ⟨w.heap.size + 1, 5, none⟩ = some (.int .i64 fq) ∧ wy.cell? ⟨w.heap.size + 1, 6, none⟩ = some (.int .i64 fh) ∧ wy.cell? ⟨w.heap.size + 1, 7, none⟩ = some (.bool fu) ∧ wy.cell? ⟨w.heap.size + 1, 8, none⟩ = some (.string fd))) (by kernel_rfl) (HD.out _ Z0) (fun hHeld => ?_)
                refine wpAnyH_take (i := 0) (v := (.slice A7 D3.length c7)) at_zero (by kernel_rfl) (by kernel_rfl) (by kernel_rfl) (fun _ _ _ h => h) (Or.inl ⟨by kernel_rfl, fun wy hSw => ?_⟩) (by assumption) ?_
                · (try dsimp only at hSw); go_simp
                try simp only [Act.put, List.setIfInBounds_toArray, List.set_cons_zero, List.set_cons_succ]
                refine wpAnyH_take (i := 1) (v := (.agg #[.slice A1 E.length c1, .slice A2 O.length c2, .slice A3 N.length c3])) (at_succ at_zero) (by kernel_rfl) (by kernel_rfl) (by kernel_rfl) (fun _ _ _ h => h) (Or.inl ⟨by kernel_rfl, fun wy hSw => ?_⟩) (by assumption) ?_
                · (try dsimp only at hSw); go_simp
                try simp only [Act.put, List.setIfInBounds_toArray, List.set_cons_zero, List.set_cons_succ]
                refine wpAnyH_take (i := 3) (v := (.pointer (some ⟨w.heap.size + 1, 1, none⟩))) (at_succ (at_succ (at_succ at_zero))) (by kernel_rfl) (by kernel_rfl) (by kernel_rfl) (fun _ _ _ h => h) (Or.inl ⟨by kernel_rfl, fun wy hSw => ?_⟩) (by assumption) ?_
                · (try dsimp only at hSw); go_simp
                try simp only [Act.put, List.setIfInBounds_toArray, List.set_cons_zero, List.set_cons_succ]
                refine wpAnyH_take (i := 4) (v := (.int .i64 ff)) (at_succ (at_succ (at_succ (at_succ at_zero)))) (by kernel_rfl) (by kernel_rfl) (by kernel_rfl) (fun _ _ _ h => h) (Or.inl ⟨by kernel_rfl, fun wy hSw => ?_⟩) (by assumption) ?_
                · (try dsimp only at hSw); go_simp
                try simp only [Act.put, List.setIfInBounds_toArray, List.set_cons_zero, List.set_cons_succ]
                refine wpAnyH_ready (rs := [2]) (by kernel_rfl) (by simp) ?_
                refine AllReadyH.cons (at_succ (at_succ at_zero)) (fun K hK => ?_) AllReadyH.nil
                rw [if_pos (by kernel_rfl)]
                go_simp
                refine (KU.out _ (HV.out.next Z0)).mono ?_
                rintro _ wz ⟨D8, e8, rfl, hu, hb⟩
                have S7 := Lib.hid (S7.out.next (Z0.trans (hb.mono Z0.size)))
                have U8 := Lib.hid hu
                clear hu
                have Z1 := Z0.trans (hb.mono Z0.size)
                clear hb hHeld
                go_wp2_with fail
                refine hK.out _ _ (HD.out _ Z1) (fun hHeld => ?_)
                clear hK K
                try simp only [Act.put, List.setIfInBounds_toArray, List.set_cons_zero, List.set_cons_succ]
                refine wpAnyH_ready (rs := [5]) (by kernel_rfl) (by simp) ?_
                refine AllReadyH.cons (at_succ (at_succ (at_succ (at_succ (at_succ at_zero))))) (fun K hK => ?_) AllReadyH.nil
                rw [if_pos (by kernel_rfl)]
                go_simp
                refine (KN.out D8 e8 _ U8.out.1).mono ?_
                rintro _ wz2 ⟨v9, rfl, ho, hb⟩
                obtain ⟨D9, e9, rfl, hn⟩ := ho.slS
                have S7 := Lib.hid (S7.out.next hb)
                have N9 := Lib.hid hn
                clear hn ho
                have Z2 := Z1.trans (hb.mono Z1.size)
                clear hb hHeld
                go_wp2_with fail
                refine hK.out _ _ (HD.out _ Z2) (fun hHeld => ?_)
                clear hK K
                try simp only [Act.put, List.setIfInBounds_toArray, List.set_cons_zero, List.set_cons_succ]
                refine wpAnyH_ready (rs := [6]) (by kernel_rfl) (by simp) ?_
                refine AllReadyH.cons (at_succ (at_succ (at_succ (at_succ (at_succ (at_succ at_zero)))))) (fun K hK => ?_) AllReadyH.nil
                rw [if_pos (by kernel_rfl)]
                go_simp
                refine (KS.out D9 e9 _ S7.out.1 N9.out.1).mono ?_
                rintro _ wz3 ⟨rfl, hb⟩
                have Z3 := Z2.trans (hb.mono Z2.size)
                clear hb hHeld
                go_wp2_with fail
                refine hK.out _ _ (HD.out _ Z3) (fun hHeld => ?_)
                clear hK K
                try simp only [Act.put, List.setIfInBounds_toArray, List.set_cons_zero, List.set_cons_succ]
                refine wpAnyH_take (i := 7) (v := (.bool true)) (at_succ (at_succ (at_succ (at_succ (at_succ (at_succ (at_succ at_zero))))))) (by kernel_rfl) (by kernel_rfl) (by kernel_rfl) (fun _ _ _ h => h) (Or.inl ⟨by kernel_rfl, fun wy hSw => ?_⟩) (by assumption) ?_
                · (try dsimp only at hSw); go_simp
                try simp only [Act.put, List.setIfInBounds_toArray, List.set_cons_zero, List.set_cons_succ]
                refine wpAnyH_ready (rs := [8]) (by kernel_rfl) (by simp) ?_
                refine AllReadyH.cons (at_succ (at_succ (at_succ (at_succ (at_succ (at_succ (at_succ (at_succ at_zero)))))))) (fun K hK => ?_) AllReadyH.nil
                rw [if_pos (by kernel_rfl)]
                go_simp
                refine (KW.out _).mono ?_
                rintro _ wz4 ⟨rfl, hb⟩
                have Z4 := Z3.trans (hb.mono Z3.size)
                clear hb hHeld
                go_wp2_with fail
                refine hK.out _ _ (HD.out _ Z4) (fun hHeld => ?_)
                clear hK K
                try simp only [Act.put, List.setIfInBounds_toArray, List.set_cons_zero, List.set_cons_succ]
                refine wpAnyH_take (i := 9) (v := (.bool true)) (at_succ (at_succ (at_succ (at_succ (at_succ (at_succ (at_succ (at_succ (at_succ at_zero))))))))) (by kernel_rfl) (by kernel_rfl) (by kernel_rfl) (fun _ _ _ h => h) (Or.inl ⟨by kernel_rfl, fun wy hSw => ?_⟩) (by assumption) ?_
                · (try dsimp only at hSw); go_simp
                try simp only [Act.put, List.setIfInBounds_toArray, List.set_cons_zero, List.set_cons_succ]
                refine wpAnyH_take (i := 10) (v := (.bool true)) (at_succ (at_succ (at_succ (at_succ (at_succ (at_succ (at_succ (at_succ (at_succ (at_succ at_zero)))))))))) (by kernel_rfl) (by kernel_rfl) (by kernel_rfl) (fun _ _ _ h => h) (Or.inl ⟨by kernel_rfl, fun wy hSw => ?_⟩) (by assumption) ?_
                · (try dsimp only at hSw); go_simp
                try simp only [Act.put, List.setIfInBounds_toArray, List.set_cons_zero, List.set_cons_succ]
                refine wpAnyH_done (by kernel_rfl) ?_ _
                go_wp2_with fail
                go_ret
                exact outB rfl (B7.out.trans (Z4.mono B7.out.size))
        · have d3 := df (show ¬ (JN.length : Int) < 24 by omega)
          clear JQ KBr S5 S6 JH KJr h24 V6 HJ
          have m2 := blk_cell Y6.out 2 (v := .int .i64 ft) rfl
          have frm := fun j => blk_fr Y6.out j
          obtain ⟨U, hU⟩ : ∃ U, U = w6.setCell ⟨w.heap.size + 1, 2, none⟩ (.int .i64 255) := ⟨_, rfl⟩
          have XU : U.heap[w.heap.size]? = some (.cells #[.slice A1 E.length c1, .slice A2 O.length c2, .slice A3 N.length c3] 25) := by rw [hU]; exact blk_other X6.out (by simp) _
          have YU : U.heap[w.heap.size + 1]? = some (.cells #[.int .i64 fk, .int .i64 ff, .int .i64 255, .int .i64 fs, .int .i64 fg, .int .i64 fq, .int .i64 fh, .bool fu, .string fd] 31) := by rw [hU]; exact blk_set Y6.out 2 (.int .i64 255)
          have BU : Below w.heap.size w U := by rw [hU]; exact B6.out.setCell (Nat.le_succ _) _
          have zU : w.heap.size + 2 ≤ U.heap.size := by rw [hU, World.size_setCell]; exact hz6
          have XU := Lib.hid XU
          have YU := Lib.hid YU
          have BU := Lib.hid BU
          have HU := Lib.hid (H0.out _ BU.out)
          clear X6 Y6 B6 hz6
          go_wp2_with fail
          rw [← hU]
          clear hU m2 frm
          have HC := Lib.hid (show ∀ wy, Below U.heap.size U wy → wy.cell? ⟨w.heap.size, 0, none⟩ = some (.slice A1 E.length c1) ∧ wy.cell? ⟨w.heap.size, 1, none⟩ = some (.slice A2 O.length c2) ∧ wy.cell? ⟨w.heap.size, 2, none⟩ = some (.slice A3 N.length c3) ∧ wy.cell? ⟨w.heap.size + 1, 0, none⟩ = some (.int .i64 fk) ∧ wy.cell? ⟨w.heap.size + 1, 1, none⟩ = some (.int .i64 ff) ∧ wy.cell? ⟨w.heap.size + 1, 2, none⟩ = some (.int .i64 255) ∧ wy.cell? ⟨w.heap.size + 1, 3, none⟩ = some (.int .i64 fs) ∧ wy.cell? ⟨w.heap.size + 1, 4, none⟩ = some (.int .i64 fg) ∧ wy.cell? ⟨w.heap.size + 1, 5, none⟩ = some (.int .i64 fq) ∧ wy.cell? ⟨w.heap.size + 1, 6, none⟩ = some (.int .i64 fh) ∧ wy.cell? ⟨w.heap.size + 1, 7, none⟩ = some (.bool fu) ∧ wy.cell? ⟨w.heap.size + 1, 8, none⟩ = some (.string fd) from fun wy hb => by
            obtain ⟨a0, a1, a2⟩ := air_block (blk_below XU.out hb (by omega))
            obtain ⟨m0, m1, m2, m3, m4, m5, m6, m7, m8⟩ := frm_block (blk_below YU.out hb (by omega))
            exact ⟨a0, a1, a2, m0, m1, m2, m3, m4, m5, m6, m7, m8⟩)
          have Z0 : Below U.heap.size U U.drew := below_drewN (Below.refl _ _) 1
          refine wp_region_held_drew (S := (fun wy : World => wy.cell? ⟨w.heap.size, 0, none⟩ = some (.slice A1 E.length c1) ∧ wy.cell? ⟨w.heap.size, 1, none⟩ = some (.slice A2 O.length c2) ∧ wy.cell? ⟨w.heap.size, 2, none⟩ = some (.slice A3 N.length c3) ∧ wy.cell? ⟨w.heap.size + 1, 0, none⟩ = some (.int .i64 fk) ∧ wy.cell? ⟨w.heap.size + 1, 1, none⟩ = some (.int .i64 ff) ∧ wy.cell? ⟨w.heap.size + 1, 2, none⟩ = some (.int .i64 255) ∧ wy.cell? ⟨w.heap.size + 1, 3, none⟩ = some (.int .i64 fs) ∧ wy.cell? ⟨w.heap.size + 1, 4, none⟩ = some (.int .i64 fg) ∧ wy.cell? ⟨w.heap.size + 1, 5, none⟩ = some (.int .i64 fq) ∧ wy.cell? ⟨w.heap.size + 1, 6, none⟩ = some (.int .i64 fh) ∧ wy.cell? ⟨w.heap.size + 1, 7, none⟩ = some (.bool fu) ∧ wy.cell? ⟨w.heap.size + 1, 8, none⟩ = some (.string fd))) (by kernel_rfl) (HC.out _ Z0) (fun hHeld => ?_)
          refine wpAnyH_take (i := 0) (v := (.agg #[.slice A1 E.length c1, .slice A2 O.length c2, .slice A3 N.length c3])) at_zero (by kernel_rfl) (by kernel_rfl) (by kernel_rfl) (fun _ _ _ h => h) (Or.inl ⟨by kernel_rfl, fun wy hSw => ?_⟩) (by assumption) ?_
          · (try dsimp only at hSw); go_simp
          try simp only [Act.put, List.setIfInBounds_toArray, List.set_cons_zero, List.set_cons_succ]
          refine wpAnyH_take (i := 2) (v := (.agg #[.int .i64 fk, .int .i64 ff, .int .i64 255, .int .i64 fs, .int .i64 fg, .int .i64 fq, .int .i64 fh, .bool fu, .string fd])) (at_succ (at_succ at_zero)) (by kernel_rfl) (by kernel_rfl) (by kernel_rfl) (fun _ _ _ h => h) (Or.inl ⟨by kernel_rfl, fun wy hSw => ?_⟩) (by assumption) ?_
          · (try dsimp only at hSw); go_simp
          try simp only [Act.put, List.setIfInBounds_toArray, List.set_cons_zero, List.set_cons_succ]
          refine wpAnyH_ready (rs := [1]) (by kernel_rfl) (by simp) ?_
          refine AllReadyH.cons (at_succ at_zero) (fun K hK => ?_) AllReadyH.nil
          rw [if_pos (by kernel_rfl)]
          go_simp
          refine (KCl.out _ (HU.out.next Z0)).mono ?_
          rintro _ wz ⟨⟨Q1, q1, Q2, q2, Q3, q3⟩, rfl, hk, hb⟩
          have HK := Lib.hid hk
          clear hk
          dsimp only [airV]
          have Z1 := Z0.trans (hb.mono Z0.size)
          clear hb hHeld
          go_wp2_with fail
          refine hK.out _ _ (HC.out _ Z1) (fun hHeld => ?_)
          clear hK K
          try simp only [Act.put, List.setIfInBounds_toArray, List.set_cons_zero, List.set_cons_succ]
          refine wpAnyH_ready (rs := [3]) (by kernel_rfl) (by simp) ?_
          refine AllReadyH.cons (at_succ (at_succ (at_succ at_zero))) (fun K hK => ?_) AllReadyH.nil
          rw [if_pos (by kernel_rfl)]
          go_simp
          refine (KD3.out _ _ HK.out).mono ?_
          rintro _ wz2 ⟨A7, c7, rfl, h7, hb⟩
          have S7 := Lib.hid h7
          clear h7
          have Z2 := Z1.trans (hb.mono Z1.size)
          clear hb hHeld
          go_wp2_with fail
          refine hK.out _ _ (HC.out _ Z2) (fun hHeld => ?_)
          clear hK K
          try simp only [Act.put, List.setIfInBounds_toArray, List.set_cons_zero, List.set_cons_succ]
          refine wpAnyH_take (i := 4) (v := (.tuple #[.slice A7 D3.length c7, .bool b3])) (at_succ (at_succ (at_succ (at_succ at_zero)))) (by kernel_rfl) (by kernel_rfl) (by kernel_rfl) (fun _ _ _ h => h) (Or.inl ⟨by kernel_rfl, fun wy hSw => ?_⟩) (by assumption) ?_
          · (try dsimp only at hSw); go_simp
          try simp only [Act.put, List.setIfInBounds_toArray, List.set_cons_zero, List.set_cons_succ]
          refine wpAnyH_take (i := 5) (v := (.slice A7 D3.length c7)) (at_succ (at_succ (at_succ (at_succ (at_succ at_zero))))) (by kernel_rfl) (by kernel_rfl) (by kernel_rfl) (fun _ _ _ h => h) (Or.inl ⟨by kernel_rfl, fun wy hSw => ?_⟩) (by assumption) ?_
          · (try dsimp only at hSw); go_simp
          try simp only [Act.put, List.setIfInBounds_toArray, List.set_cons_zero, List.set_cons_succ]
          refine wpAnyH_take (i := 6) (v := (.bool b3)) (at_succ (at_succ (at_succ (at_succ (at_succ (at_succ at_zero)))))) (by kernel_rfl) (by kernel_rfl) (by kernel_rfl) (fun _ _ _ h => h) (Or.inl ⟨by kernel_rfl, fun wy hSw => ?_⟩) (by assumption) ?_
          · (try dsimp only at hSw); go_simp
          try simp only [Act.put, List.setIfInBounds_toArray, List.set_cons_zero, List.set_cons_succ]
          refine wpAnyH_take (i := 7) (v := (.slice A7 D3.length c7)) (at_succ (at_succ (at_succ (at_succ (at_succ (at_succ (at_succ at_zero))))))) (by kernel_rfl) (by kernel_rfl) (by kernel_rfl) (fun _ _ _ h => h) (Or.inl ⟨by kernel_rfl, fun wy hSw => ?_⟩) (by assumption) ?_
          · (try dsimp only at hSw); go_simp
          try simp only [Act.put, List.setIfInBounds_toArray, List.set_cons_zero, List.set_cons_succ]
          refine wpAnyH_take (i := 8) (v := (.bool b3)) (at_succ (at_succ (at_succ (at_succ (at_succ (at_succ (at_succ (at_succ at_zero)))))))) (by kernel_rfl) (by kernel_rfl) (by kernel_rfl) (fun _ _ _ h => h) (Or.inl ⟨by kernel_rfl, fun wy hSw => ?_⟩) (by assumption) ?_
          · (try dsimp only at hSw); go_simp
          try simp only [Act.put, List.setIfInBounds_toArray, List.set_cons_zero, List.set_cons_succ]
          refine wpAnyH_done (by kernel_rfl) ?_ _
          have hb := Z2
          obtain ⟨w7, hw7⟩ : ∃ w7, w7 = wz2 := ⟨_, rfl⟩
          subst hw7
          have B7 := Lib.hid (BU.out.trans (hb.mono BU.out.size))
          have X7 := Lib.hid (blk_below XU.out hb (by omega))
          have Y7 := Lib.hid (blk_below YU.out hb (by omega))
          have hz7 := Nat.le_trans zU hb.size
          have HV := Lib.hid (H0.out _ B7.out)
          clear hb HC XU YU BU zU HU
          have a1 := blk_cell X7.out 1 (v := .slice A2 O.length c2) rfl
          have m1 := blk_cell Y7.out 1 (v := .int .i64 ff) rfl
          have KOr := Lib.hid (KO.out _ HV.out.2.1.1)
          by_cases hO : ff ∈ O
          · rw [dt hO] at KOr
            have e3 := ED.out.trans (if_pos hO)
            have l3 : ((D3.length : Int) == 0) = true := by rw [e3]; rfl
            have l4 : (D3.length == 0) = true := by rw [e3]; rfl
            clear e3 hO
            go_wp2_with fail
            refine KOr.out.mono ?_
            rintro _ _ ⟨rfl, rfl⟩
            clear a1 m1
            go_wp2_with fail
            refine (KW.out _).mono ?_
            rintro _ wz ⟨rfl, hb⟩
            have BZ := Lib.hid (B7.out.trans (hb.mono B7.out.size))
            clear hb
            go_wp2_with fail
            go_ret
            exact outB rfl BZ.out
          · rw [df hO] at KOr
            have e3 := ED.out.trans (if_neg hO)
            rw [← e3] at KN
            have KS := Lib.hid (fun A2 c2 w h1 h2 => rsamen_any A7 A2 c7 c2 D3 w (by rw [e3]; omega) h1 h2)
            unfold OutB at KS
            clear e3 hO
            have HD := Lib.hid (show ∀ wy, Below w7.heap.size w7 wy → wy.cell? ⟨w.heap.size, 0, none⟩ = some (.slice A1 E.length c1) ∧ wy.cell? ⟨w.heap.size, 1, none⟩ = some (.slice A2 O.length c2) ∧ wy.cell? ⟨w.heap.size, 2, none⟩ = some (.slice A3 N.length c3) ∧ wy.cell? ⟨w.heap.size + 1, 0, none⟩ = some (.int .i64 fk) ∧ wy.cell? ⟨w.heap.size + 1, 1, none⟩ = some (.int .i64 ff) ∧ wy.cell? ⟨w.heap.size + 1, 2, none⟩ = some (.int .i64 255) ∧ wy.cell? ⟨w.heap.size + 1, 3, none⟩ = some (.int .i64 fs) ∧ wy.cell? ⟨w.heap.size + 1, 4, none⟩ = some (.int .i64 fg) ∧ wy.cell? ⟨w.heap.size + 1, 5, none⟩ = some (.int .i64 fq) ∧ wy.cell? ⟨w.heap.size + 1, 6, none⟩ = some (.int .i64 fh) ∧ wy.cell? ⟨w.heap.size + 1, 7, none⟩ = some (.bool fu) ∧ wy.cell? ⟨w.heap.size + 1, 8, none⟩ = some (.string fd) from fun wy hb => by
              obtain ⟨a0, a1, a2⟩ := air_block (blk_below X7.out hb (by omega))
              obtain ⟨m0, m1, m2, m3, m4, m5, m6, m7, m8⟩ := frm_block (blk_below Y7.out hb (by omega))
              exact ⟨a0, a1, a2, m0, m1, m2, m3, m4, m5, m6, m7, m8⟩)
            have Z0 : Below w7.heap.size w7 w7.drew := below_drewN (Below.refl _ _) 1
            go_wp2_with fail
            refine KOr.out.mono ?_
            rintro _ _ ⟨rfl, rfl⟩
            clear a1 m1
            go_wp2_with fail
            refine wp_region_held_drew (S := (fun wy : World => wy.cell? ⟨w.heap.size, 0, none⟩ = some (.slice A1 E.length c1) ∧ wy.cell? ⟨w.heap.size, 1, none⟩ = some (.slice A2 O.length c2) ∧ wy.cell? ⟨w.heap.size, 2, none⟩ = some (.slice A3 N.length c3) ∧ wy.cell? ⟨w.heap.size + 1, 0, none⟩ = some (.int .i64 fk) ∧ wy.cell? ⟨w.heap.size + 1, 1, none⟩ = some (.int .i64 ff) ∧ wy.cell? ⟨w.heap.size + 1, 2, none⟩ = some (.int .i64 255) ∧ wy.cell? ⟨w.heap.size + 1, 3, none⟩ = some (.int .i64 fs) ∧ wy.cell? ⟨w.heap.size + 1, 4, none⟩ = some (.int .i64 fg) ∧ wy.cell? ⟨w.heap.size + 1, 5, none⟩ = some (.int .i64 fq) ∧ wy.cell? ⟨w.heap.size + 1, 6, none⟩ = some (.int .i64 fh) ∧ wy.cell? ⟨w.heap.size + 1, 7, none⟩ = some (.bool fu) ∧ wy.cell? ⟨w.heap.size + 1, 8, none⟩ = some (.string fd))) (by kernel_rfl) (HD.out _ Z0) (fun hHeld => ?_)
            refine wpAnyH_take (i := 0) (v := (.slice A7 D3.length c7)) at_zero (by kernel_rfl) (by kernel_rfl) (by kernel_rfl) (fun _ _ _ h => h) (Or.inl ⟨by kernel_rfl, fun wy hSw => ?_⟩) (by assumption) ?_
            · (try dsimp only at hSw); go_simp
            try simp only [Act.put, List.setIfInBounds_toArray, List.set_cons_zero, List.set_cons_succ]
            refine wpAnyH_take (i := 1) (v := (.agg #[.slice A1 E.length c1, .slice A2 O.length c2, .slice A3 N.length c3])) (at_succ at_zero) (by kernel_rfl) (by kernel_rfl) (by kernel_rfl) (fun _ _ _ h => h) (Or.inl ⟨by kernel_rfl, fun wy hSw => ?_⟩) (by assumption) ?_
            · (try dsimp only at hSw); go_simp
            try simp only [Act.put, List.setIfInBounds_toArray, List.set_cons_zero, List.set_cons_succ]
            refine wpAnyH_take (i := 3) (v := (.pointer (some ⟨w.heap.size + 1, 1, none⟩))) (at_succ (at_succ (at_succ at_zero))) (by kernel_rfl) (by kernel_rfl) (by kernel_rfl) (fun _ _ _ h => h) (Or.inl ⟨by kernel_rfl, fun wy hSw => ?_⟩) (by assumption) ?_
            · (try dsimp only at hSw); go_simp
            try simp only [Act.put, List.setIfInBounds_toArray, List.set_cons_zero, List.set_cons_succ]
            refine wpAnyH_take (i := 4) (v := (.int .i64 ff)) (at_succ (at_succ (at_succ (at_succ at_zero)))) (by kernel_rfl) (by kernel_rfl) (by kernel_rfl) (fun _ _ _ h => h) (Or.inl ⟨by kernel_rfl, fun wy hSw => ?_⟩) (by assumption) ?_
            · (try dsimp only at hSw); go_simp
            try simp only [Act.put, List.setIfInBounds_toArray, List.set_cons_zero, List.set_cons_succ]
            refine wpAnyH_ready (rs := [2]) (by kernel_rfl) (by simp) ?_
            refine AllReadyH.cons (at_succ (at_succ at_zero)) (fun K hK => ?_) AllReadyH.nil
            rw [if_pos (by kernel_rfl)]
            go_simp
            refine (KU.out _ (HV.out.next Z0)).mono ?_
            rintro _ wz ⟨D8, e8, rfl, hu, hb⟩
            have S7 := Lib.hid (S7.out.next (Z0.trans (hb.mono Z0.size)))
            have U8 := Lib.hid hu
            clear hu
            have Z1 := Z0.trans (hb.mono Z0.size)
            clear hb hHeld
            go_wp2_with fail
            refine hK.out _ _ (HD.out _ Z1) (fun hHeld => ?_)
            clear hK K
            try simp only [Act.put, List.setIfInBounds_toArray, List.set_cons_zero, List.set_cons_succ]
            refine wpAnyH_ready (rs := [5]) (by kernel_rfl) (by simp) ?_
            refine AllReadyH.cons (at_succ (at_succ (at_succ (at_succ (at_succ at_zero))))) (fun K hK => ?_) AllReadyH.nil
            rw [if_pos (by kernel_rfl)]
            go_simp
            refine (KN.out D8 e8 _ U8.out.1).mono ?_
            rintro _ wz2 ⟨v9, rfl, ho, hb⟩
            obtain ⟨D9, e9, rfl, hn⟩ := ho.slS
            have S7 := Lib.hid (S7.out.next hb)
            have N9 := Lib.hid hn
            clear hn ho
            have Z2 := Z1.trans (hb.mono Z1.size)
            clear hb hHeld
            go_wp2_with fail
            refine hK.out _ _ (HD.out _ Z2) (fun hHeld => ?_)
            clear hK K
            try simp only [Act.put, List.setIfInBounds_toArray, List.set_cons_zero, List.set_cons_succ]
            refine wpAnyH_ready (rs := [6]) (by kernel_rfl) (by simp) ?_
            refine AllReadyH.cons (at_succ (at_succ (at_succ (at_succ (at_succ (at_succ at_zero)))))) (fun K hK => ?_) AllReadyH.nil
            rw [if_pos (by kernel_rfl)]
            go_simp
            refine (KS.out D9 e9 _ S7.out.1 N9.out.1).mono ?_
            rintro _ wz3 ⟨rfl, hb⟩
            have Z3 := Z2.trans (hb.mono Z2.size)
            clear hb hHeld
            go_wp2_with fail
            refine hK.out _ _ (HD.out _ Z3) (fun hHeld => ?_)
            clear hK K
            try simp only [Act.put, List.setIfInBounds_toArray, List.set_cons_zero, List.set_cons_succ]
            refine wpAnyH_take (i := 7) (v := (.bool true)) (at_succ (at_succ (at_succ (at_succ (at_succ (at_succ (at_succ at_zero))))))) (by kernel_rfl) (by kernel_rfl) (by kernel_rfl) (fun _ _ _ h => h) (Or.inl ⟨by kernel_rfl, fun wy hSw => ?_⟩) (by assumption) ?_
            · (try dsimp only at hSw); go_simp
            try simp only [Act.put, List.setIfInBounds_toArray, List.set_cons_zero, List.set_cons_succ]
            refine wpAnyH_ready (rs := [8]) (by kernel_rfl) (by simp) ?_
            refine AllReadyH.cons (at_succ (at_succ (at_succ (at_succ (at_succ (at_succ (at_succ (at_succ at_zero)))))))) (fun K hK => ?_) AllReadyH.nil
            rw [if_pos (by kernel_rfl)]
            go_simp
            refine (KW.out _).mono ?_
            rintro _ wz4 ⟨rfl, hb⟩
            have Z4 := Z3.trans (hb.mono Z3.size)
            clear hb hHeld
            go_wp2_with fail
            refine hK.out _ _ (HD.out _ Z4) (fun hHeld => ?_)
            clear hK K
            try simp only [Act.put, List.setIfInBounds_toArray, List.set_cons_zero, List.set_cons_succ]
            refine wpAnyH_take (i := 9) (v := (.bool true)) (at_succ (at_succ (at_succ (at_succ (at_succ (at_succ (at_succ (at_succ (at_succ at_zero))))))))) (by kernel_rfl) (by kernel_rfl) (by kernel_rfl) (fun _ _ _ h => h) (Or.inl ⟨by kernel_rfl, fun wy hSw => ?_⟩) (by assumption) ?_
            · (try dsimp only at hSw); go_simp
            try simp only [Act.put, List.setIfInBounds_toArray, List.set_cons_zero, List.set_cons_succ]
            refine wpAnyH_take (i := 10) (v := (.bool true)) (at_succ (at_succ (at_succ (at_succ (at_succ (at_succ (at_succ (at_succ (at_succ (at_succ at_zero)))))))))) (by kernel_rfl) (by kernel_rfl) (by kernel_rfl) (fun _ _ _ h => h) (Or.inl ⟨by kernel_rfl, fun wy hSw => ?_⟩) (by assumption) ?_
            · (try dsimp only at hSw); go_simp
            try simp only [Act.put, List.setIfInBounds_toArray, List.set_cons_zero, List.set_cons_succ]
            refine wpAnyH_done (by kernel_rfl) ?_ _
            go_wp2_with fail
            go_ret
            exact outB rfl (B7.out.trans (Z4.mono B7.out.size))
end Go.Proofs.Ytcnmknhjmflinaa.Rdo
