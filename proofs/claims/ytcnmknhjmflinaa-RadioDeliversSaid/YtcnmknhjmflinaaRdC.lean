/- The reference's Jam. -/
import Derived.Test.YtcnmknhjmflinaaRdB
set_option linter.unusedVariables false
namespace Go.Proofs.Ytcnmknhjmflinaa.Rdo
open Go.RowKit
open Tpo (fE EdAt OwnE OwnI OutN OutL rnode_any ramong_any rsamen_any rsamee_any rnear_any rwout_any app_int)

theorem own_set {α : Type} {F : Flat α} {T : TypeId} {w : World} {B : Nat} {v : Value} {l : List α} (h : OwnF F T w B v l) (a : Addr) (u : Value) (hB : a.block < B) : OwnF F T (w.setCell a u) B v l :=
  ⟨ownsRow_setCell_below h.1 hB u, h.2⟩
theorem own_put3 {α : Type} {F : Flat α} {T : TypeId} {w : World} {B b : Nat} {v : Value} {l : List α} (h : OwnF F T w B v l) (hB : b < B) (u0 u1 u2 : Value) : OwnF F T (put3 w b u0 u1 u2) B v l :=
  own_set (own_set (own_set h _ u0 hB) _ u1 hB) _ u2 hB

set_option maxRecDepth 100000 in
set_option maxHeartbeats 4000000 in
theorem rjam_any (x : Hd) (a : Ar) (A9 : Option Addr) (c9 : Nat) (L : List Int) (w : World) (hl : Fit a) (h : AirS w x a) (hl9 : L.length ≤ 100000) (hA9 : FlAt fI w w.heap.size A9 L) :
    Calls Try.prog 21 #[airV x a, .slice A9 L.length c9] w (AirR w (jam a L)) := by
  rw [show jam a L = { sane a with n := nsy (sane a) L } from rfl]
  have H9 := Lib.hid hA9
  clear hA9
  have G0 := Lib.hid (nsyU_zero (sane a) L)
  have GA := Lib.hid (nsyU_all (sane a) L)
  have GL := Lib.hid (nsyU_len (sane a) L)
  have GF := Lib.hid (fun k hk h => nsyU_full (s := sane a) (l := L) (k := k) hk h)
  have GN := Lib.hid (fun k hk h => nsyU_no (s := sane a) (l := L) (k := k) hk h)
  have GY := Lib.hid (fun k hk h h2 => nsyU_yes (s := sane a) (l := L) (k := k) hk h h2)
  have KA := Lib.hid (fun (v : Int) w => ramong_any (saneH x a).A3 (saneH x a).c3 (sane a).n v w (by have := (sane_fit hl).2.2; omega))
  have KL := Lib.hid (fun (v : Int) w => ramong_any A9 c9 L v w (by omega))
  generalize nsyU (sane a) L = G at *
  generalize nsy (sane a) L = Z at *
  have KS := Lib.hid (fun w (h : AirS w x a) => rsane_any x a w hl h)
  unfold SaneR at KS
  have FS := sane_fit hl
  have HS := Lib.hid h.sane
  have HB := Lib.hid (fun w' (hb : Below w.heap.size w w') => h.next hb)
  clear h hl
  generalize saneH x a = y at *
  generalize sane a = s at *
  obtain ⟨A1, c1, A2, c2, A3, c3⟩ := x
  obtain ⟨E0, O0, N0⟩ := a
  obtain ⟨D1, e1, D2, e2, D3, e3⟩ := y
  obtain ⟨E, O, N⟩ := s
  obtain ⟨l1, l2, l3⟩ := FS
  simp only at l1 l2 l3
  dsimp only [airV] at KS ⊢
  have b0 : Below w.heap.size w ((w.alloc (.cells #[.slice A1 E0.length c1, .slice A2 O0.length c2, .slice A3 N0.length c3] 25)).alloc (.cells #[.slice none 0 0, .slice none 0 0, .slice none 0 0] 25)) := (alloc_below w (.cells #[.slice A1 E0.length c1, .slice A2 O0.length c2, .slice A3 N0.length c3] 25)).trans ((alloc_below (w.alloc (.cells #[.slice A1 E0.length c1, .slice A2 O0.length c2, .slice A3 N0.length c3] 25)) (.cells #[.slice none 0 0, .slice none 0 0, .slice none 0 0] 25)).mono (by simp))
  have hz1 : w.heap.size + 2 ≤ ((w.alloc (.cells #[.slice A1 E0.length c1, .slice A2 O0.length c2, .slice A3 N0.length c3] 25)).alloc (.cells #[.slice none 0 0, .slice none 0 0, .slice none 0 0] 25)).heap.size := by simp
  have X1 : ((w.alloc (.cells #[.slice A1 E0.length c1, .slice A2 O0.length c2, .slice A3 N0.length c3] 25)).alloc (.cells #[.slice none 0 0, .slice none 0 0, .slice none 0 0] 25)).heap[w.heap.size]? = some (.cells #[.slice A1 E0.length c1, .slice A2 O0.length c2, .slice A3 N0.length c3] 25) := blk_alloc (blk_new w (.cells #[.slice A1 E0.length c1, .slice A2 O0.length c2, .slice A3 N0.length c3] 25)) (.cells #[.slice none 0 0, .slice none 0 0, .slice none 0 0] 25)
  have R1 : ((w.alloc (.cells #[.slice A1 E0.length c1, .slice A2 O0.length c2, .slice A3 N0.length c3] 25)).alloc (.cells #[.slice none 0 0, .slice none 0 0, .slice none 0 0] 25)).heap[w.heap.size + 1]? = some (.cells #[.slice none 0 0, .slice none 0 0, .slice none 0 0] 25) := by have := blk_new (w.alloc (.cells #[.slice A1 E0.length c1, .slice A2 O0.length c2, .slice A3 N0.length c3] 25)) (.cells #[.slice none 0 0, .slice none 0 0, .slice none 0 0] 25); simpa using this
  have HB1 := Lib.hid (HB.out _ b0)
  go_enter Try.func21, Try.ntmps21
  go_wp2_with fail
  refine (KS.out _ HB1.out).mono ?_
  rintro _ w2 ⟨rfl, hb⟩
  have X2 := blk_below X1 hb (by omega)
  have R2 := blk_below R1 hb (by omega)
  have B2 := b0.trans (hb.mono (by omega))
  have hz2 : w.heap.size + 2 ≤ w2.heap.size := Nat.le_trans hz1 hb.size
  obtain ⟨z0, z1, z2⟩ := air_block X2
  have fr := fun j => blk_fr X2 j
  have V1 := Lib.hid (put3_blk X2 (.slice D1 E.length e1) (.slice D2 O.length e2) (.slice D3 N.length e3))
  have V2 := Lib.hid (put3_below B2 (Nat.le_refl w.heap.size) (.slice D1 E.length e1) (.slice D2 O.length e2) (.slice D3 N.length e3))
  have V3 := Lib.hid (HS.out.next V2.out)
  have V4 := put3_size w2 w.heap.size (.slice D1 E.length e1) (.slice D2 O.length e2) (.slice D3 N.length e3)
  have VR := Lib.hid (put3_other R2 (by omega : w.heap.size + 1 ≠ w.heap.size) (.slice D1 E.length e1) (.slice D2 O.length e2) (.slice D3 N.length e3))
  obtain ⟨q0, q1, q2⟩ := air_block V1.out
  have fq := fun j => blk_fr V1.out j
  unfold put3 at q0 q1 q2 fq
  clear X1 X2 B2 hb hz1 KS HB HB1 b0 R1 R2
  dsimp only at KA GN GY ⊢
  go_wp2_with fail
  obtain ⟨V, hV⟩ : ∃ V, V = put3 w2 w.heap.size (.slice D1 E.length e1) (.slice D2 O.length e2) (.slice D3 N.length e3) := ⟨_, rfl⟩
  rw [← hV] at V1 V2 V3 V4 VR
  unfold put3 at hV
  rw [← hV]
  clear hV z0 z1 z2 fr q0 q1 q2 fq
  have hzV : w.heap.size + 2 ≤ V.heap.size := by rw [V4]; exact hz2
  go_loopw [5, 6] (fun vo vk wr => ∃ (k : Nat) (A1 : Option Addr) (c1 : Nat), vk = .int .i64 k ∧ k ≤ 251 ∧ vo = .slice A1 (G k).length c1 ∧ Hid (OwnI wr V.heap.size (.slice A1 (G k).length c1) (G k)) ∧ Below V.heap.size V wr) (fun _ vk _ => 251 - (intOf vk).toNat)
  case atStart => exact ⟨0, none, 0, rfl, by omega, by rw [G0.out]; rfl, Lib.hid (by rw [G0.out]; exact OwnF.nil _ _), Below.refl _ _⟩
  case round =>
    obtain ⟨k, A5, c5, rfl, hk, rfl, O5, hb⟩ := hrel
    have B := Lib.hid hb
    by_cases hlt : k < 251
    · have d0 : decide ((k : Int) ≤ 250) = true := dt (by omega)
      have LG := GL.out k
      have VB := blk_below V1.out hb (by omega)
      have HR := Lib.hid (V3.out.next hb)
      have H9r := Lib.hid (H9.out.next (V2.out.trans (hb.mono V2.out.size)))
      obtain ⟨_, _, g2⟩ := air_block VB
      have KAk := Lib.hid (KA.out (k : Int) wr HR.out.2.2.1)
      have KLk := Lib.hid (KL.out (k : Int) wr H9r.out)
      clear VB hb KA KL
      by_cases hf : (G k).length < 24
      rotate_left
      · have N' := Lib.hid (GF.out k hlt hf)
        have d1 := df (show ¬ ((G k).length : Int) < 24 by omega)
        clear GF GN GY hf
        go_wp2_with fail
        go_roundw
        case rel => exact ⟨k + 1, A5, c5, by go_num, hlt, by rw [N'.out], Lib.hid (by rw [N'.out]; exact O5.out), B.out⟩
        case measure => simp [intOf]; omega
      have d1 := dt (show ((G k).length : Int) < 24 by omega)
      by_cases hp : (k : Int) ∈ N ∨ (k : Int) ∈ L
      rotate_left
      · have N' := Lib.hid (GN.out k hlt hp)
        rw [df (show ¬ (k : Int) ∈ N from fun q => hp (Or.inl q))] at KAk
        rw [df (show ¬ (k : Int) ∈ L from fun q => hp (Or.inr q))] at KLk
        clear GF GN GY hp hf
        go_wp2_with fail
        refine KAk.out.mono ?_
        rintro _ _ ⟨rfl, rfl⟩
        go_wp2_with fail
        refine KLk.out.mono ?_
        rintro _ _ ⟨rfl, rfl⟩
        go_wp2_with fail
        go_roundw
        case rel => exact ⟨k + 1, A5, c5, by go_num, hlt, by rw [N'.out], Lib.hid (by rw [N'.out]; exact O5.out), B.out⟩
        case measure => simp [intOf]; omega
      have N' := Lib.hid (GY.out k hlt hp hf)
      obtain ⟨v6, w6, hap, ho6, hb6⟩ := app_int O5.out (k : Int) (by unfold I64; omega) (by omega) B.out.size
      obtain ⟨A6, c6, e6, _⟩ := ho6.form
      subst e6
      have L6 := Lib.hid (show (G k ++ [(k : Int)]).length = (G (k + 1)).length by rw [N'.out])
      have O6 := Lib.hid (show OwnI w6 V.heap.size (.slice A6 (G (k + 1)).length c6) (G (k + 1)) by rw [N'.out]; exact ho6)
      have B6 := Lib.hid (B.out.trans hb6)
      rw [L6.out] at hap
      clear ho6 hb6 GF GN GY hf
      by_cases hN : (k : Int) ∈ N
      · rw [dt hN] at KAk
        clear hp hN KLk
        go_wp2_with fail
        refine KAk.out.mono ?_
        rintro _ _ ⟨rfl, rfl⟩
        go_wp2_with (at_builtin; refine Lib.wpList_append_run _ rfl _ _ _ _ rfl _ _ rfl rfl _ _ hap ?_)
        go_roundw
        case rel => exact ⟨k + 1, A6, c6, by go_num, hlt, rfl, O6, B6.out⟩
        case measure => simp [intOf]; omega
      · rw [df hN] at KAk
        rw [dt (hp.resolve_left hN)] at KLk
        clear hp hN
        go_wp2_with fail
        refine KAk.out.mono ?_
        rintro _ _ ⟨rfl, rfl⟩
        go_wp2_with fail
        refine KLk.out.mono ?_
        rintro _ _ ⟨rfl, rfl⟩
        go_wp2_with (at_builtin; refine Lib.wpList_append_run _ rfl _ _ _ _ rfl _ _ rfl rfl _ _ hap ?_)
        go_roundw
        case rel => exact ⟨k + 1, A6, c6, by go_num, hlt, rfl, O6, B6.out⟩
        case measure => simp [intOf]; omega
    · have d0 : decide ((k : Int) ≤ 250) = false := df (by omega)
      obtain rfl : k = 251 := by omega
      have OZ := O5.out
      rw [GA.out] at OZ
      rw [GA.out]
      have VB := blk_below V1.out hb (by omega)
      have VZ := blk_below VR.out hb (by omega)
      have BW := V2.out.trans (hb.mono V2.out.size)
      obtain ⟨U, hU⟩ : ∃ U, U = wr.setCell ⟨w.heap.size, 2, none⟩ (.slice A5 Z.length c5) := ⟨_, rfl⟩
      have U1 : U.heap[w.heap.size]? = some (.cells #[.slice D1 E.length e1, .slice D2 O.length e2, .slice A5 Z.length c5] 25 (0, 0)) := by rw [hU]; exact blk_set VB 2 _
      have UR : U.heap[w.heap.size + 1]? = some (.cells #[.slice none 0 0, .slice none 0 0, .slice none 0 0] 25) := by rw [hU]; exact blk_other VZ (by simp) _
      have U2 : Below w.heap.size w U := by rw [hU]; exact BW.setCell (Nat.le_refl _) _
      have OU : OwnI U V.heap.size (.slice A5 Z.length c5) Z := by rw [hU]; exact own_set OZ _ _ (by show w.heap.size < V.heap.size; omega)
      obtain ⟨z0, z1, z2⟩ := air_block VB
      have fr := fun j => blk_fr VB j
      obtain ⟨u0, u1, u2⟩ := air_block U1
      obtain ⟨y0, y1, y2⟩ := air_block UR
      have fu := fun j => blk_fr UR j
      have W1 := Lib.hid (put3_blk UR (.slice D1 E.length e1) (.slice D2 O.length e2) (.slice A5 Z.length c5))
      have W2 := Lib.hid (put3_below U2 (Nat.le_succ w.heap.size) (.slice D1 E.length e1) (.slice D2 O.length e2) (.slice A5 Z.length c5))
      have W3 := Lib.hid (own_put3 OU (show w.heap.size + 1 < V.heap.size by omega) (.slice D1 E.length e1) (.slice D2 O.length e2) (.slice A5 Z.length c5))
      have HU := Lib.hid hU
      rw [hU] at u0 u1 u2 y0 y1 y2 fu
      clear hU U1 UR U2 OU OZ VB VZ BW hb GF GN GY GL GA G0 O5 KA KL
      go_wp2_with fail
      have hU := HU.out
      clear u0 u1 u2 y0 y1 y2 fu z0 z1 z2 fr
      rw [← hU]
      clear hU HU
      obtain ⟨X, hX⟩ : ∃ X, X = put3 U (w.heap.size + 1) (.slice D1 E.length e1) (.slice D2 O.length e2) (.slice A5 Z.length c5) := ⟨_, rfl⟩
      rw [← hX] at W1 W2 W3
      obtain ⟨r0, r1, r2⟩ := air_block W1.out
      unfold put3 at hX
      rw [← hX]
      clear hX
      have S1 := HS.out.next W2.out
      exact bodyPost_ret (v := airV ⟨D1, e1, D2, e2, A5, c5⟩ ⟨E, O, Z⟩) (by simp [results, Try.results21, go_sem, r0, r1, r2]) rfl ⟨⟨D1, e1, D2, e2, A5, c5⟩, rfl, ⟨S1.1, S1.2.1, (own_slS W3.out).2⟩, W2.out⟩
end Go.Proofs.Ytcnmknhjmflinaa.Rdo
