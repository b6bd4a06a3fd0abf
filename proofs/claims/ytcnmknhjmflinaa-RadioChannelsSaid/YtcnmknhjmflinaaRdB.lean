/- The reference's Clear, Up, Channel, Jam. -/
import Derived.Test.YtcnmknhjmflinaaRdA
import Derived.Test.YtcnmknhjmflinaaTE
import Derived.Test.YtcnmknhjmflinaaQH
set_option linter.unusedVariables false
namespace Go.Proofs.Ytcnmknhjmflinaa.Rdo
open Go.RowKit
open Tpo (fE EdAt OwnE OwnI OutN OutL rnode_any ramong_any rsamen_any rsamee_any rnear_any rwout_any app_int wout near sel selU selU_zero selU_all selU_yes selU_no selU_len)

theorem own_slS {α : Type} {F : Flat α} {T : TypeId} {w : World} {B n : Nat} {A : Option Addr} {c : Nat} {l : List α} (h : OwnF F T w B (.slice A n c) l) : n = l.length ∧ SlS F w A c l := by
  obtain ⟨A', c', e, hs⟩ := h.slS
  cases e
  exact ⟨rfl, hs⟩
/-- A list of edges is handed back. -/
def EdR (w : World) (l : List Tpo.Ed) (e : Ending) (w' : World) : Prop := ∃ A c, e = .returned (.slice A l.length c) ∧ SlS fE w' A c l ∧ Below w.heap.size w w'
/-- The noisy nodes among the first k. -/
noncomputable def nsyU (s : Ar) (l : List Int) (k : Nat) : List Int := (selU (fun v => v ∈ s.n ∨ v ∈ l) k).take 24
theorem nsyU_zero (s : Ar) (l : List Int) : nsyU s l 0 = [] := rfl
theorem nsyU_all (s : Ar) (l : List Int) : nsyU s l 251 = nsy s l := by unfold nsyU nsy; rw [selU_all]
theorem nsyU_len (s : Ar) (l : List Int) (k : Nat) : (nsyU s l k).length ≤ 24 := by unfold nsyU; rw [List.length_take]; omega
theorem nsyU_full {s : Ar} {l : List Int} {k : Nat} (hk : k < 251) (h : ¬ (nsyU s l k).length < 24) : nsyU s l (k + 1) = nsyU s l k := by
  unfold nsyU at *
  rw [List.length_take] at h
  by_cases c : (k : Int) ∈ s.n ∨ (k : Int) ∈ l
  · rw [selU_yes (P := fun v => v ∈ s.n ∨ v ∈ l) hk c, List.take_append_of_le_length (by omega)]
  · rw [selU_no (P := fun v => v ∈ s.n ∨ v ∈ l) hk c]
theorem nsyU_no {s : Ar} {l : List Int} {k : Nat} (hk : k < 251) (h : ¬ ((k : Int) ∈ s.n ∨ (k : Int) ∈ l)) : nsyU s l (k + 1) = nsyU s l k := by
  unfold nsyU; rw [selU_no (P := fun v => v ∈ s.n ∨ v ∈ l) hk h]
theorem nsyU_yes {s : Ar} {l : List Int} {k : Nat} (hk : k < 251) (h : (k : Int) ∈ s.n ∨ (k : Int) ∈ l) (hl : (nsyU s l k).length < 24) : nsyU s l (k + 1) = nsyU s l k ++ [(k : Int)] := by
  unfold nsyU at *
  rw [List.length_take] at hl
  rw [selU_yes (P := fun v => v ∈ s.n ∨ v ∈ l) hk h, List.take_of_length_le (by rw [List.length_append, List.length_singleton]; omega), List.take_of_length_le (by omega)]

set_option maxRecDepth 100000 in
set_option maxHeartbeats 2000000 in
theorem rup_any (x : Hd) (a : Ar) (w : World) (hl : Fit a) (h : AirS w x a) : Calls Try.prog 26 #[airV x a] w (EdR w (up a)) := by
  rw [show up a = wout (sane a).e (sane a).o from rfl]
  have KS := Lib.hid (fun w (h : AirS w x a) => rsane_any x a w hl h)
  unfold SaneR at KS
  have FS := sane_fit hl
  have HS := Lib.hid h.sane
  have HB := Lib.hid (fun w' (hb : Below w.heap.size w w') => h.next hb)
  clear h hl
  generalize saneH x a = y at *
  generalize sane a = s at *
  obtain ⟨A1, c1, A2, c2, A3, c3⟩ := x
  obtain ⟨E0, O0, N0⟩ := a
  obtain ⟨D1, e1, D2, e2, D3, e3⟩ := y
  obtain ⟨E, O, N⟩ := s
  obtain ⟨l1, l2, l3⟩ := FS
  simp only at l1 l2 l3
  dsimp only [airV] at KS ⊢
  have b0 : Below w.heap.size w (w.alloc (.cells #[.slice A1 E0.length c1, .slice A2 O0.length c2, .slice A3 N0.length c3] 25)) := alloc_below w (.cells #[.slice A1 E0.length c1, .slice A2 O0.length c2, .slice A3 N0.length c3] 25)
  have hz1 : w.heap.size + 1 ≤ (w.alloc (.cells #[.slice A1 E0.length c1, .slice A2 O0.length c2, .slice A3 N0.length c3] 25)).heap.size := by simp
  have X1 : (w.alloc (.cells #[.slice A1 E0.length c1, .slice A2 O0.length c2, .slice A3 N0.length c3] 25)).heap[w.heap.size]? = some (.cells #[.slice A1 E0.length c1, .slice A2 O0.length c2, .slice A3 N0.length c3] 25) := blk_new w (.cells #[.slice A1 E0.length c1, .slice A2 O0.length c2, .slice A3 N0.length c3] 25)
  have HB1 := Lib.hid (HB.out _ b0)
  go_enter Try.func26, Try.ntmps26
  go_wp2_with fail
  refine (KS.out _ HB1.out).mono ?_
  rintro _ w2 ⟨rfl, hb⟩
  have X2 := blk_below X1 hb (by omega)
  have B2 := b0.trans (hb.mono (by omega))
  have hz2 : w.heap.size + 1 ≤ w2.heap.size := Nat.le_trans hz1 hb.size
  obtain ⟨z0, z1, z2⟩ := air_block X2
  have fr := fun j => blk_fr X2 j
  have V1 := Lib.hid (put3_blk X2 (.slice D1 E.length e1) (.slice D2 O.length e2) (.slice D3 N.length e3))
  have V2 := Lib.hid (put3_below B2 (Nat.le_refl w.heap.size) (.slice D1 E.length e1) (.slice D2 O.length e2) (.slice D3 N.length e3))
  have V3 := Lib.hid (HS.out.next V2.out)
  have V4 := put3_size w2 w.heap.size (.slice D1 E.length e1) (.slice D2 O.length e2) (.slice D3 N.length e3)
  obtain ⟨q0, q1, q2⟩ := air_block V1.out
  have fq := fun j => blk_fr V1.out j
  unfold put3 at q0 q1 q2 fq
  clear X1 X2 B2 hb hz1 KS HB HB1 b0
  go_wp2_with fail
  obtain ⟨V, hV⟩ : ∃ V, V = put3 w2 w.heap.size (.slice D1 E.length e1) (.slice D2 O.length e2) (.slice D3 N.length e3) := ⟨_, rfl⟩
  rw [← hV] at V1 V2 V3 V4
  unfold put3 at hV
  rw [← hV]
  clear hV z0 z1 z2 fr q0 q1 q2 fq
  have KW := Lib.hid (rwout_any D1 e1 E D2 e2 O V (by omega) V3.out.1.1 (by omega) V3.out.2.1.1)
  unfold OutL at KW
  refine KW.out.mono ?_
  rintro _ w3 ⟨v, rfl, ho, hb⟩
  obtain ⟨A4, c4, rfl, hr⟩ := ho.slS
  have B3 := Lib.hid (V2.out.trans (hb.mono V2.out.size))
  clear hb ho KW
  go_wp2_with fail
  go_ret
  exact ⟨A4, c4, rfl, hr, B3.out⟩

set_option maxRecDepth 100000 in
set_option maxHeartbeats 2000000 in
theorem rclear_any (x : Hd) (a : Ar) (w : World) (hl : Fit a) (h : AirS w x a) : Calls Try.prog 23 #[airV x a] w (AirR w (clr a)) := by
  rw [show clr a = { sane a with n := [] } from rfl]
  have KS := Lib.hid (fun w (h : AirS w x a) => rsane_any x a w hl h)
  unfold SaneR at KS
  have FS := sane_fit hl
  have HS := Lib.hid h.sane
  have HB := Lib.hid (fun w' (hb : Below w.heap.size w w') => h.next hb)
  clear h hl
  generalize saneH x a = y at *
  generalize sane a = s at *
  obtain ⟨A1, c1, A2, c2, A3, c3⟩ := x
  obtain ⟨E0, O0, N0⟩ := a
  obtain ⟨D1, e1, D2, e2, D3, e3⟩ := y
  obtain ⟨E, O, N⟩ := s
  obtain ⟨l1, l2, l3⟩ := FS
  simp only at l1 l2 l3
  dsimp only [airV] at KS ⊢
  have b0 : Below w.heap.size w ((w.alloc (.cells #[.slice A1 E0.length c1, .slice A2 O0.length c2, .slice A3 N0.length c3] 25)).alloc (.cells #[.slice none 0 0, .slice none 0 0, .slice none 0 0] 25)) := (alloc_below w (.cells #[.slice A1 E0.length c1, .slice A2 O0.length c2, .slice A3 N0.length c3] 25)).trans ((alloc_below (w.alloc (.cells #[.slice A1 E0.length c1, .slice A2 O0.length c2, .slice A3 N0.length c3] 25)) (.cells #[.slice none 0 0, .slice none 0 0, .slice none 0 0] 25)).mono (by simp))
  have hz1 : w.heap.size + 2 ≤ ((w.alloc (.cells #[.slice A1 E0.length c1, .slice A2 O0.length c2, .slice A3 N0.length c3] 25)).alloc (.cells #[.slice none 0 0, .slice none 0 0, .slice none 0 0] 25)).heap.size := by simp
  have X1 : ((w.alloc (.cells #[.slice A1 E0.length c1, .slice A2 O0.length c2, .slice A3 N0.length c3] 25)).alloc (.cells #[.slice none 0 0, .slice none 0 0, .slice none 0 0] 25)).heap[w.heap.size]? = some (.cells #[.slice A1 E0.length c1, .slice A2 O0.length c2, .slice A3 N0.length c3] 25) := blk_alloc (blk_new w (.cells #[.slice A1 E0.length c1, .slice A2 O0.length c2, .slice A3 N0.length c3] 25)) (.cells #[.slice none 0 0, .slice none 0 0, .slice none 0 0] 25)
  have R1 : ((w.alloc (.cells #[.slice A1 E0.length c1, .slice A2 O0.length c2, .slice A3 N0.length c3] 25)).alloc (.cells #[.slice none 0 0, .slice none 0 0, .slice none 0 0] 25)).heap[w.heap.size + 1]? = some (.cells #[.slice none 0 0, .slice none 0 0, .slice none 0 0] 25) := by have := blk_new (w.alloc (.cells #[.slice A1 E0.length c1, .slice A2 O0.length c2, .slice A3 N0.length c3] 25)) (.cells #[.slice none 0 0, .slice none 0 0, .slice none 0 0] 25); simpa using this
  have HB1 := Lib.hid (HB.out _ b0)
  go_enter Try.func23, Try.ntmps23
  go_wp2_with fail
  refine (KS.out _ HB1.out).mono ?_
  rintro _ w2 ⟨rfl, hb⟩
  have X2 := blk_below X1 hb (by omega)
  have R2 := blk_below R1 hb (by omega)
  have B2 := b0.trans (hb.mono (by omega))
  have hz2 : w.heap.size + 2 ≤ w2.heap.size := Nat.le_trans hz1 hb.size
  obtain ⟨z0, z1, z2⟩ := air_block X2
  have fr := fun j => blk_fr X2 j
  have V1 := Lib.hid (put3_blk X2 (.slice D1 E.length e1) (.slice D2 O.length e2) (.slice D3 N.length e3))
  have V2 := Lib.hid (put3_below B2 (Nat.le_refl w.heap.size) (.slice D1 E.length e1) (.slice D2 O.length e2) (.slice D3 N.length e3))
  have V3 := Lib.hid (HS.out.next V2.out)
  have V4 := put3_size w2 w.heap.size (.slice D1 E.length e1) (.slice D2 O.length e2) (.slice D3 N.length e3)
  have VR := Lib.hid (put3_other R2 (by omega : w.heap.size + 1 ≠ w.heap.size) (.slice D1 E.length e1) (.slice D2 O.length e2) (.slice D3 N.length e3))
  obtain ⟨q0, q1, q2⟩ := air_block V1.out
  have fq := fun j => blk_fr V1.out j
  unfold put3 at q0 q1 q2 fq
  clear X1 X2 B2 hb hz1 KS HB HB1 b0 R1 R2
  obtain ⟨U, hU⟩ : ∃ U, U = (put3 w2 w.heap.size (.slice D1 E.length e1) (.slice D2 O.length e2) (.slice D3 N.length e3)).setCell ⟨w.heap.size, 2, none⟩ (.slice none 0 0) := ⟨_, rfl⟩
  have U1 : U.heap[w.heap.size]? = some (.cells #[.slice D1 E.length e1, .slice D2 O.length e2, .slice none 0 0] 25 (0, 0)) := by rw [hU]; exact blk_set V1.out 2 (.slice none 0 0)
  have UR : U.heap[w.heap.size + 1]? = some (.cells #[.slice none 0 0, .slice none 0 0, .slice none 0 0] 25) := by rw [hU]; exact blk_other VR.out (by simp) _
  have U2 : Below w.heap.size w U := by rw [hU]; exact V2.out.setCell (Nat.le_refl _) _
  obtain ⟨u0, u1, u2⟩ := air_block U1
  obtain ⟨y0, y1, y2⟩ := air_block UR
  have fu := fun j => blk_fr UR j
  have W1 := Lib.hid (put3_blk UR (.slice D1 E.length e1) (.slice D2 O.length e2) (.slice none 0 0))
  have W2 := Lib.hid (put3_below U2 (Nat.le_succ w.heap.size) (.slice D1 E.length e1) (.slice D2 O.length e2) (.slice none 0 0))
  have HU := Lib.hid hU
  unfold put3 at hU
  rw [hU] at u0 u1 u2 y0 y1 y2 fu
  clear hU U1 UR U2
  go_wp2_with fail
  have hU := HU.out
  unfold put3 at hU
  clear u0 u1 u2 y0 y1 y2 fu z0 z1 z2 fr q0 q1 q2 fq
  rw [← hU]
  clear hU HU
  obtain ⟨V, hV⟩ : ∃ V, V = put3 U (w.heap.size + 1) (.slice D1 E.length e1) (.slice D2 O.length e2) (.slice none 0 0) := ⟨_, rfl⟩
  rw [← hV] at W1 W2
  obtain ⟨r0, r1, r2⟩ := air_block W1.out
  unfold put3 at hV
  rw [← hV]
  clear hV
  have S1 := HS.out.next W2.out
  exact bodyPost_ret (v := airV ⟨D1, e1, D2, e2, none, 0⟩ ⟨E, O, []⟩) (by simp [results, Try.results23, go_sem, r0, r1, r2]) rfl ⟨⟨D1, e1, D2, e2, none, 0⟩, rfl, ⟨S1.1, S1.2.1, SlS.nil _⟩, W2.out⟩

set_option maxRecDepth 100000 in
set_option maxHeartbeats 2000000 in
theorem rchan_any (A : Option Addr) (c : Nat) (l : List Int) (now limit : Int) (w : World) (hl : l.length ≤ 1000000) (hA : FlAt fI w w.heap.size A l) :
    Calls Try.prog 18 #[.slice A l.length c, .int .i64 now, .int .i64 limit] w (OutI w (chan l now limit)) := by
  have HA := Lib.hid hA
  clear hA
  by_cases hF : Fine l now limit
  · have R := Lib.hid (show chan l now limit = now from if_pos hF)
    obtain ⟨⟨h1, h2⟩, h3⟩ := hF
    obtain ⟨n, rfl⟩ : ∃ n : Nat, now = n := ⟨now.toNat, by omega⟩
    have hn : n < l.length := by omega
    obtain ⟨b, p, rfl, _, g0, _⟩ := fI_cell HA.out n hn
    rw [Int.toNat_natCast, List.getD_eq_getElem?_getD, List.getElem?_eq_getElem hn] at h3
    simp only [Option.getD_some] at h3
    generalize chan l n limit = r at *
    generalize l[n] = x0 at *
    have d1 := dt h3
    clear h3
    go_enter Try.func18, Try.ntmps18
    go_wp2_with fail
    go_ret
    exact outI R.out.symm (Below.refl _ _)
  · have R := Lib.hid (show bst l l.length = chan l now limit from (if_neg hF).symm)
    generalize chan l now limit = r at *
    have LOOP : (now < 0 ∨ (0 ≤ now ∧ (l.length : Int) ≤ now) ∨ ∃ (n : Nat) (h : n < l.length), now = n ∧ limit < l[n]) := by
      unfold Fine at hF
      by_cases h1 : 0 ≤ now
      · by_cases h2 : now < l.length
        · refine Or.inr (Or.inr ⟨now.toNat, by omega, by omega, ?_⟩)
          have : ¬ l.getD now.toNat 0 ≤ limit := fun q => hF ⟨⟨h1, h2⟩, q⟩
          rw [List.getD_eq_getElem?_getD, List.getElem?_eq_getElem (by omega)] at this
          simp only [Option.getD_some] at this
          omega
        · exact Or.inr (Or.inl ⟨h1, by omega⟩)
      · exact Or.inl (by omega)
    have BI := Lib.hid (bst_is l)
    have BS := Lib.hid (fun k => (show bst l (k + 1) = if bst l k < 0 ∨ l.getD k 0 < l.getD (bst l k).toNat 0 then (k : Int) else bst l k from rfl))
    have B0 := Lib.hid (show bst l 0 = -1 from rfl)
    clear hF
    rcases LOOP with h1 | ⟨h1, h2⟩ | ⟨n, hn, rfl, h3⟩
    rotate_left 2
    obtain ⟨b0, p0, e0, _, m0, _⟩ := fI_cell HA.out n hn
    generalize l[n] = x0 at *
    have d1 := df (show ¬ x0 ≤ limit by omega)
    subst e0
    clear h3
    rotate_left 1
    have d1 := df (show ¬ 0 ≤ now by omega)
    rotate_left 1
    have d1 := dt h1
    have d2 := df (show ¬ now < (l.length : Int) by omega)
    all_goals (
      go_enter Try.func18, Try.ntmps18
      go_wp2_with fail
      clear d1
      try clear d2
      try clear m0
      go_loopw [7, 28] (fun vb vk wr => ∃ (k : Nat) (bi : Int), vk = .int .i64 k ∧ k ≤ l.length ∧ vb = .int .i64 bi ∧ Hid (bi = bst l k) ∧ Below w.heap.size w wr) (fun _ vk _ => l.length - (intOf vk).toNat)
      case atStart => exact ⟨0, -1, rfl, Nat.zero_le _, rfl, Lib.hid B0.out.symm, Below.refl _ _⟩
      case round =>
        obtain ⟨k, bi, rfl, hk, rfl, HK, hb⟩ := hrel
        have B := Lib.hid hb
        by_cases hlt : k < l.length
        · obtain ⟨b, p, e1, _, g0, _⟩ := fI_cell (HA.out.below hb) k hlt
          have ek : l.getD k 0 = l[k] := by rw [List.getD_eq_getElem?_getD, List.getElem?_eq_getElem hlt]; rfl
          have S := BS.out k
          rw [ek] at S
          rcases BI.out k hk with ⟨rfl, hbk⟩ | ⟨i, hi, hbk, _⟩
          · have e2 := HK.out.trans hbk
            subst e2
            first | subst e1 | (simp only [Option.some.injEq, Addr.mk.injEq, and_true] at e1; obtain ⟨rfl, rfl⟩ := e1)
            have S := Lib.hid (S.trans (by first | (rw [hbk]; done) | (rw [hbk]; rfl)))
            clear hbk ek hb BI BS B0 HK
            generalize l[0] = x1 at *
            go_wp2_with fail
            refine wp_region_quiet_lit (by kernel_rfl) (by kernel_rfl) ?_
            refine QH.out ?_
            repeat (
              refine qh_step (fun K hK => ?_)
              go_simp
              first
                | (refine hK _ ?_; clear hK K)
                | (apply Exists.intro
                   refine ⟨fun _ => ?_, hK _ ?_⟩
                   (fail)
                   clear hK K))
            refine qh_nil ?_
            intro _ hw'
            obtain ⟨nq, hw''⟩ := hw'
            subst hw''
            go_wp2_with fail
            go_roundw
            case rel => exact ⟨1, 0, by go_num, hlt, rfl, Lib.hid S.out.symm, below_drewN B.out _⟩
            case measure => simp [intOf]; omega
          · have e2 := HK.out.trans hbk
            subst e2
            have hil : i < l.length := by omega
            obtain ⟨b', p', e3, _, g1, _⟩ := fI_cell (HA.out.below hb) i hil
            first | subst e1 | (simp only [Option.some.injEq, Addr.mk.injEq, and_true] at e1; obtain ⟨rfl, rfl⟩ := e1)
            simp only [Option.some.injEq, Addr.mk.injEq, and_true] at e3
            obtain ⟨rfl, rfl⟩ := e3
            have ei : l.getD (bst l k).toNat 0 = l[i] := by rw [hbk, Int.toNat_natCast, List.getD_eq_getElem?_getD, List.getElem?_eq_getElem hil]; rfl
            rw [ei, hbk] at S
            clear hbk ek ei hb BI BS B0 HK
            generalize l[k] = x1 at *
            generalize l[i] = x2 at *
            have d4 := df (show ¬ (i : Int) < 0 by omega)
            by_cases hx : x1 < x2
            · have S := Lib.hid (S.trans (if_pos (Or.inr hx)))
              have d3 := dt hx
              clear hx
              go_wp2_with fail
              go_quiet (fail)
              go_wp2_with fail
              go_roundw
              case rel => exact ⟨k + 1, k, by go_num, hlt, rfl, Lib.hid S.out.symm, below_drewN B.out _⟩
              case measure => simp [intOf]; omega
            · have S := Lib.hid (S.trans (if_neg (by omega)))
              have d3 := df hx
              clear hx
              go_wp2_with fail
              go_quiet (fail)
              go_wp2_with fail
              go_roundw
              case rel => exact ⟨k + 1, i, by go_num, hlt, rfl, Lib.hid S.out.symm, below_drewN B.out _⟩
              case measure => simp [intOf]; omega
        · obtain rfl : k = l.length := by omega
          have E := HK.out.trans R.out
          clear HK hb
          go_wp2_with fail
          go_ret
          exact outI E B.out)
end Go.Proofs.Ytcnmknhjmflinaa.Rdo
