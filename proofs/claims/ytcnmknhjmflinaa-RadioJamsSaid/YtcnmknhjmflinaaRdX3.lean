/- Package radio: slices.DeleteFunc at ints, the closure of hearers; Clear. -/
import Derived.Test.YtcnmknhjmflinaaRdX2
import Derived.Test.YtcnmknhjmflinaaIn3
import Derived.Deep.RegionHeld
set_option linter.unusedVariables false
namespace Go.Proofs.Ytcnmknhjmflinaa.Rdo
open Go.RowKit
open Tpo (fE EdAt OwnE OwnI OutN OutL near wout sel eInt eEd)

theorem fil_next (q : Int → Bool) (l : List Int) (j : Nat) (hj : j < l.length) : (l.take (j + 1)).filter q = (l.take j).filter q ++ if q l[j] = true then [l[j]] else [] := by
  rw [List.take_succ_eq_append_getElem hj, List.filter_append]
  congr 1
  cases h : q l[j] <;> simp [h]
theorem fil_all (q : Int → Bool) (l : List Int) (k : Nat) (h : ∀ j (hj : j < l.length), j < k → q l[j] = true) : (l.take k).filter q = l.take k := by
  rw [List.filter_eq_self]
  intro x hx
  obtain ⟨j, hj, rfl⟩ := List.getElem_of_mem hx
  rw [List.length_take] at hj
  rw [List.getElem_take]
  exact h j (by omega) (by omega)
theorem drop_one (l : List Int) (j : Nat) (hj : j < l.length) : l.drop j = l[j] :: l.drop (j + 1) := List.drop_eq_getElem_cons hj
theorem utI : Try.prog.underlying 23 = some (.slice (Try.prog.elem 23)) := by kernel_rfl
theorem szI (W : World) : (sizeOf (Try.prog.elem 23)).run Try.prog W = .ok fI.sz W := by show _ = Result.ok 1 W; kernel_rfl
set_option maxRecDepth 100000 in
set_option maxHeartbeats 1000000 in
theorem pdfunc_any (gf : FuncId) (caps : Array Value) (p : Int → Bool) (A : Option Addr) (c : Nat) (l : List Int) (B : Nat) (w : World) (hl : l.length ≤ 1000) (h : OwnI w B (.slice A l.length c) l)
    (eg : ∀ args w, (callFunc gf args).run Try.prog w = .ok (.enter gf args) w) (hp : ∀ x wr, w.grownBy wr (Value.ownBlock (.slice A l.length c)) → Calls Try.prog gf (#[.int .i64 x] ++ caps) wr fun e w' => e = .returned (.bool (p x)) ∧ wr = w') :
    Calls Try.prog 55 #[.slice A l.length c, .func (.func gf) #[] caps] w (fun e w' => ∃ A1 c1, e = .returned (.slice A1 (l.filter fun x => !p x).length c1) ∧ SlS fI w' A1 c1 (l.filter fun x => !p x) ∧ w.grownBy w' (Value.ownBlock (.slice A l.length c))) := by
  have hs := (own_slS h).2
  have KI := Lib.hid (pindex_any gf caps p A c l w (by omega) hs.1 eg (fun x => hp x w (gr_refl _ _)))
  rcases ixU_is p l with ⟨e1, hall⟩ | ⟨i0, hi0, e1, hhit, hlow⟩
  · rw [e1] at KI
    have FL := Lib.hid (show (l.filter fun x => !p x) = l from by
      have := fil_all (fun x => !p x) l l.length (fun j hj _ => by rw [hall j hj]; rfl)
      rw [List.take_length] at this
      exact this)
    have HV := Lib.hid hs
    clear hall hp h e1 hs
    go_enter Try.func55, Try.ntmps55
    go_wp2_with fail
    refine KI.out.mono ?_
    rintro _ _ ⟨rfl, rfl⟩
    clear KI
    go_wp2_with fail
    go_ret
    rw [FL.out]
    exact ⟨A, c, rfl, HV.out, gr_refl _ _⟩
  rw [e1] at KI
  have hne : l ≠ [] := fun q => by rw [q] at hi0; simp at hi0
  obtain ⟨g, off, cap, cur, e, R⟩ := (OwnT.of_own h hne).ro
  simp only [Value.slice.injEq, true_and] at e
  obtain ⟨rfl, rfl⟩ := e
  have hlc := R.len
  have hgl := R.lt
  have hgB := R.base
  have hgb := Lib.hid R.blk
  have MID := Lib.hid (R.mid i0 (by omega))
  have HP := Lib.hid (show ∀ x wr, w.grownBy wr (some g) → Calls Try.prog gf (#[.int .i64 x] ++ caps) wr (fun e w' => e = .returned (.bool (p x)) ∧ wr = w') from hp)
  have F0 := Lib.hid (show (l.take (i0 + 1)).filter (fun x => !p x) = l.take i0 from by
    rw [fil_next _ _ _ hi0, fil_all _ _ _ (fun j hj hji => by rw [hlow j hj hji]; rfl), hhit]
    simp)
  have FN := Lib.hid (fun j hj => fil_next (fun x => !p x) l j hj)
  have FE := Lib.hid (show (l.take l.length).filter (fun x => !p x) = l.filter fun x => !p x from by rw [List.take_length])
  have FS := Lib.hid (show ∀ j, ((l.take j).filter (fun x => !p x)).length ≤ l.length from fun j => Nat.le_trans (List.length_filter_le _ _) (by rw [List.length_take]; omega))
  have L0 := Lib.hid (show (l.take i0).length = i0 by rw [List.length_take]; omega)
  have hgo : Value.ownBlock (.slice (some ⟨g, off, none⟩) l.length c) = some g := rfl
  rw [hgo]
  clear hp h e1 R hlow hhit hgo hs hne
  generalize (l.filter fun x => !p x) = E at *
  obtain ⟨Q, hQ⟩ : ∃ Q : Nat → List Int, ∀ j, (l.take j).filter (fun x => !p x) = Q j := ⟨_, fun _ => rfl⟩
  simp only [hQ] at F0 FN FE FS
  clear hQ
  have d1 : ((i0 : Int) == -1) = false := by simp
  have z1 : IntKind.i64.wrap ((i0 : Int) + 1) = (i0 : Int) + 1 := by rw [IntKind.wrap_i64] <;> omega
  go_enter Try.func55, Try.ntmps55
  go_wp2_with fail
  refine KI.out.mono ?_
  rintro _ _ ⟨rfl, rfl⟩
  have M1 := Lib.hid (show MidT fI 3 w B g off c (Q (i0 + 1)) (i0 + 1) (l.drop (i0 + 1)) from by
    have := MID.out
    rw [drop_one l i0 hi0] at this
    rw [F0.out]
    exact this.skip)
  have LQ := Lib.hid (show (Q (i0 + 1)).length = i0 from by rw [F0.out]; exact L0.out)
  clear KI MID F0 L0
  go_wp2_with fail
  go_loopw [5, 6] (fun vi vj wr => ∃ j : Nat, vi = .int .i64 ((Q j).length : Nat) ∧ vj = .int .i64 (j : Int) ∧ i0 < j ∧ j ≤ l.length ∧ (Q j).length < j ∧ Hid (MidT fI 3 wr B g off c (Q j) j (l.drop j)) ∧ Hid (w.grownBy wr (some g))) (fun _ vj _ => l.length - (intOf vj).toNat)
  case atStart => exact ⟨i0 + 1, by rw [LQ.out], rfl, Nat.lt_succ_self _, hi0, by rw [LQ.out]; exact Nat.lt_succ_self _, M1, Lib.hid (gr_refl _ _)⟩
  case round =>
    obtain ⟨j, rfl, rfl, hij, hj, hqj, MD, GR⟩ := hrel
    clear M1 LQ
    by_cases hlt : j < l.length
    · have hdr := drop_one l j hlt
      rw [hdr] at MD
      have FX := Lib.hid (FN.out j hlt)
      have FSj := FS.out j
      obtain ⟨x, hx⟩ : ∃ x, l[j] = x := ⟨_, rfl⟩
      rw [hx] at MD FX
      clear hx hdr FN FE FS
      have g0 : wr.cell? ⟨g, off + j, none⟩ = some (.int .i64 x) := by
        have h := MD.out.cell 0 (by decide)
        rwa [show off + j * fI.sz + 0 = off + j from by show off + j * 1 + 0 = _; omega] at h
      have OKx := Lib.hid (show I64 x from MD.out.okb x List.mem_cons_self)
      have KP := Lib.hid (HP.out x wr GR.out)
      have q0 : (j : Int) < (l.length : Int) := by omega
      have q1 : (0 : Int) ≤ (j : Int) := by omega
      have z2 : IntKind.i64.wrap ((j : Int) + 1) = (j : Int) + 1 := by rw [IntKind.wrap_i64] <;> omega
      clear HP
      cases hz : p x with
      | true =>
        rw [hz] at KP
        have EQ := Lib.hid (show Q (j + 1) = Q j from by rw [FX.out, hz]; simp)
        clear FX hz
        go_wp2_with fail
        refine KP.out.mono ?_
        rintro _ _ ⟨rfl, rfl⟩
        have M2 := Lib.hid (show MidT fI 3 wr B g off c (Q (j + 1)) (j + 1) (l.drop (j + 1)) from by rw [EQ.out]; exact MD.out.skip)
        clear KP MD g0
        go_wp2_with fail
        go_roundw
        case rel => exact ⟨j + 1, by rw [EQ.out], by go_num, by omega, hlt, by rw [EQ.out]; omega, M2, GR⟩
        case measure => simp [intOf]; omega
      | false =>
        rw [hz] at KP
        have EQ := Lib.hid (show Q (j + 1) = Q j ++ [x] from by rw [FX.out, hz]; simp)
        clear FX hz
        go_wp2_with fail
        refine KP.out.mono ?_
        rintro _ _ ⟨rfl, rfl⟩
        have TH := MD.out.there (Q j).length (by omega)
        obtain ⟨h1, h2⟩ := TH 0 (by decide)
        rw [show off + (Q j).length * fI.sz + 0 = off + (Q j).length from by show off + (Q j).length * 1 + 0 = _; omega] at h1 h2
        obtain ⟨old, hold⟩ := Option.isSome_iff_exists.1 h1
        have M3 := Lib.hid (show MidT fI 3 (wr.setCell ⟨g, off + (Q j).length, none⟩ (.int .i64 x)) B g off c (Q (j + 1)) (j + 1) (l.drop (j + 1)) from by
          have M2 := MD.out.store x OKx.out
          rw [← EQ.out, show off + (Q j).length * fI.sz = off + (Q j).length from by show off + (Q j).length * 1 = _; omega] at M2
          exact M2)
        have G3 := Lib.hid (gr_trans GR.out (setCell_grown wr ⟨g, off + (Q j).length, none⟩ (.int .i64 x)))
        have LE := Lib.hid (show (Q (j + 1)).length = (Q j).length + 1 from by rw [EQ.out, List.length_append]; rfl)
        clear KP MD GR g0 TH h1 EQ
        obtain ⟨v, hv⟩ : ∃ v, (Q j).length = v := ⟨_, rfl⟩
        rw [hv] at M3 G3 LE hqj FSj h2 hold ⊢
        have z3 : IntKind.i64.wrap ((v : Int) + 1) = (v : Int) + 1 := by rw [IntKind.wrap_i64] <;> omega
        have q2 : (v : Int) < (l.length : Int) := by omega
        have q3 : (0 : Int) ≤ (v : Int) := by omega
        clear hv
        go_wp2_with fail
        go_roundw
        case rel => exact ⟨j + 1, by rw [LE.out]; go_num, by go_num, by omega, hlt, by rw [LE.out]; omega, M3, G3⟩
        case measure => simp [intOf]; omega
    · obtain rfl : j = l.length := by omega
      rw [FE.out] at MD hqj ⊢
      obtain ⟨cur', R9⟩ := MD.out.ro
      have s1 := RoT.from (F := fI) utI szI g off l.length c E.length (by omega) (E.length : Int) rfl
      have s2 := RoT.to (F := fI) utI szI g off l.length c E.length (by omega)
      rw [if_neg (by omega)] at s1
      obtain ⟨w2, cur2, hcl, Q2, _, gr2⟩ := R9.clear1 Try.underlying23 (z0 := .int .i64 0) (fun w => by kernel_rfl) rfl rfl rfl 23 E.length (l.length - E.length) (c - E.length) (Nat.le_refl _) (by omega)
      have hcl2 : ∀ ty, (Builtin.clear_ #[23] ty #[.slice (some ⟨g, off + E.length * fI.sz, none⟩) (l.length - E.length) (c - E.length)]).run Try.prog wr = .ok (.tuple #[]) w2 := fun ty => hcl
      have GF := Lib.hid (gr_trans GR.out gr2)
      have RES := Lib.hid (show SlS fI w2 (some ⟨g, off, none⟩) c E from by obtain ⟨A', c', e, hs⟩ := Q2.own.slS; cases e; exact hs)
      obtain ⟨A3, hA3⟩ : ∃ A3, (⟨g, off + E.length * fI.sz, none⟩ : Addr) = A3 := ⟨_, rfl⟩
      rw [hA3] at s1 hcl2
      have i0' : (0 : Int) ≤ (E.length : Int) := by omega
      have i1 : (E.length : Int) ≤ (l.length : Int) := by omega
      have i2 : (E.length : Int) ≤ (c : Int) := by omega
      have i3 : E.length < l.length := by omega
      clear hA3 hcl Q2 gr2 R9 MD GR FN FS HP FE
      go_wp2_with fail
      go_ret
      exact ⟨_, _, rfl, RES.out, GF.out⟩
/-- The closure that tells who is deaf. -/
theorem pdeaf_any (x : Int) (A : Option Addr) (c : Nat) (l : List Int) (b : Nat) (w : World) (hl : l.length ≤ 1000000) (h0 : w.heap[b]? = some (.cells #[.slice A l.length c] 23 (0, 0))) (hA : FlAt fI w w.heap.size A l) :
    Calls Try.prog 56 (#[.int .i64 x] ++ #[.pointer (some ⟨b, 0, none⟩)]) w fun e w' => e = .returned (.bool (decide (x ∈ l))) ∧ w = w' := by
  have K := Lib.hid (pcon_any A c l x w hl hA)
  have g0 := blk_cell h0 0 (v := .slice A l.length c) rfl
  clear hA h0
  generalize decide (x ∈ l) = F at *
  go_enter Try.func56, Try.ntmps56
  go_wp2_with fail
  refine K.out.mono ?_
  rintro _ _ ⟨rfl, rfl⟩
  clear K
  go_wp2_with fail
  go_ret
  exact ⟨rfl, rfl⟩
/-- What Clear hands back: rows of its own. -/
def ClrQ (w : World) (a : Ar) (e : Ending) (w' : World) : Prop := ∃ A4 c4 A5 c5, e = .returned (.agg #[.slice A4 a.e.length c4, .slice A5 a.o.length c5, .slice none 0 0]) ∧ a.n = [] ∧ OwnE w' w.heap.size (.slice A4 a.e.length c4) a.e ∧ OwnI w' w.heap.size (.slice A5 a.o.length c5) a.o ∧ Below w.heap.size w w'
set_option maxRecDepth 100000 in
set_option maxHeartbeats 2000000 in
theorem pclear_own (x : Hd) (a : Ar) (w : World) (hl : Fit a) (h : AirS w x a) : Calls Try.prog 22 #[airV x a] w (ClrQ w (clr a)) := by
  rw [show clr a = { sane a with n := [] } from rfl]
  have KS := Lib.hid (fun w (h : AirS w x a) => psane_any x a w hl h)
  unfold SaneR at KS
  have FS := sane_fit hl
  have HS := Lib.hid h.sane
  have HB := Lib.hid (fun w' (hb : Below w.heap.size w w') => h.next hb)
  clear h hl
  generalize saneH x a = y at *
  generalize sane a = s at *
  obtain ⟨A1, c1, A2, c2, A3, c3⟩ := x
  obtain ⟨E0, O0, N0⟩ := a
  obtain ⟨D1, e1, D2, e2, D3, e3⟩ := y
  obtain ⟨E, O, N⟩ := s
  obtain ⟨l1, l2, l3⟩ := FS
  simp only at l1 l2 l3
  dsimp only [airV] at KS ⊢
  have b0 : Below w.heap.size w ((w.alloc (.cells #[.slice A1 E0.length c1, .slice A2 O0.length c2, .slice A3 N0.length c3] 25)).alloc (.cells #[.slice none 0 0, .slice none 0 0, .slice none 0 0] 25)) := (alloc_below w (.cells #[.slice A1 E0.length c1, .slice A2 O0.length c2, .slice A3 N0.length c3] 25)).trans ((alloc_below (w.alloc (.cells #[.slice A1 E0.length c1, .slice A2 O0.length c2, .slice A3 N0.length c3] 25)) (.cells #[.slice none 0 0, .slice none 0 0, .slice none 0 0] 25)).mono (by simp))
  have hz1 : w.heap.size + 2 ≤ ((w.alloc (.cells #[.slice A1 E0.length c1, .slice A2 O0.length c2, .slice A3 N0.length c3] 25)).alloc (.cells #[.slice none 0 0, .slice none 0 0, .slice none 0 0] 25)).heap.size := by simp
  have X1 : ((w.alloc (.cells #[.slice A1 E0.length c1, .slice A2 O0.length c2, .slice A3 N0.length c3] 25)).alloc (.cells #[.slice none 0 0, .slice none 0 0, .slice none 0 0] 25)).heap[w.heap.size]? = some (.cells #[.slice A1 E0.length c1, .slice A2 O0.length c2, .slice A3 N0.length c3] 25) := blk_alloc (blk_new w (.cells #[.slice A1 E0.length c1, .slice A2 O0.length c2, .slice A3 N0.length c3] 25)) (.cells #[.slice none 0 0, .slice none 0 0, .slice none 0 0] 25)
  have R1 : ((w.alloc (.cells #[.slice A1 E0.length c1, .slice A2 O0.length c2, .slice A3 N0.length c3] 25)).alloc (.cells #[.slice none 0 0, .slice none 0 0, .slice none 0 0] 25)).heap[w.heap.size + 1]? = some (.cells #[.slice none 0 0, .slice none 0 0, .slice none 0 0] 25) := by have := blk_new (w.alloc (.cells #[.slice A1 E0.length c1, .slice A2 O0.length c2, .slice A3 N0.length c3] 25)) (.cells #[.slice none 0 0, .slice none 0 0, .slice none 0 0] 25); simpa using this
  have HB1 := Lib.hid (HB.out _ b0)
  go_enter Try.func22, Try.ntmps22
  go_wp2_with fail
  refine (KS.out _ HB1.out).mono ?_
  rintro _ w2 ⟨rfl, hb⟩
  have X2 := blk_below X1 hb (by omega)
  have R2 := blk_below R1 hb (by omega)
  have B2 := b0.trans (hb.mono (by omega))
  have hz2 : w.heap.size + 2 ≤ w2.heap.size := Nat.le_trans hz1 hb.size
  obtain ⟨z0, z1, z2⟩ := air_block X2
  have fr := fun j => blk_fr X2 j
  have V1 := Lib.hid (put3_blk X2 (.slice D1 E.length e1) (.slice D2 O.length e2) (.slice D3 N.length e3))
  have V2 := Lib.hid (put3_below B2 (Nat.le_refl w.heap.size) (.slice D1 E.length e1) (.slice D2 O.length e2) (.slice D3 N.length e3))
  have V3 := Lib.hid (HS.out.next V2.out)
  have V4 := put3_size w2 w.heap.size (.slice D1 E.length e1) (.slice D2 O.length e2) (.slice D3 N.length e3)
  have VR := Lib.hid (put3_other R2 (by omega : w.heap.size + 1 ≠ w.heap.size) (.slice D1 E.length e1) (.slice D2 O.length e2) (.slice D3 N.length e3))
  obtain ⟨q0, q1, q2⟩ := air_block V1.out
  have fq := fun j => blk_fr V1.out j
  unfold put3 at q0 q1 q2 fq
  have hz3 : w.heap.size + 2 ≤ (put3 w2 w.heap.size (.slice D1 E.length e1) (.slice D2 O.length e2) (.slice D3 N.length e3)).heap.size := by rw [put3_size]; exact hz2
  clear X1 X2 B2 hb hz1 KS HB HB1 b0 R1 R2 V4
  go_wp2_with fail
  obtain ⟨V, hV⟩ : ∃ V, V = put3 w2 w.heap.size (.slice D1 E.length e1) (.slice D2 O.length e2) (.slice D3 N.length e3) := ⟨_, rfl⟩
  rw [← hV] at V1 V2 V3 VR hz3
  unfold put3 at hV
  rw [← hV]
  clear hV z0 z1 z2 fr q0 q1 q2 fq
  obtain ⟨V', hV'⟩ : ∃ V', V.drew = V' := ⟨_, rfl⟩
  have bd := below_drewN (Below.refl V.heap.size V) 1
  rw [show V.drewN 1 = V' from hV'] at bd
  have Y1 := Lib.hid (blk_below V1.out bd (by omega))
  have YR := Lib.hid (blk_below VR.out bd (by omega))
  have Y2 := Lib.hid (V2.out.trans (bd.mono V2.out.size))
  have Y3 := Lib.hid (V3.out.next bd)
  have hz4 : w.heap.size + 2 ≤ V'.heap.size := Nat.le_trans hz3 bd.size
  clear V1 V2 V3 VR bd hz2 hz3 HS
  have KE := Lib.hid (fun w h => pclonee_any D1 e1 E w (by omega) h)
  have KO := Lib.hid (fun w h => pclonei_any D2 e2 O w (by omega) h)
  unfold OutL at KE
  unfold OutN at KO
  refine wp_region_held_drew (S := (fun wy : World => wy.cell? ⟨w.heap.size, 0, none⟩ = some (.slice D1 E.length e1) ∧ wy.cell? ⟨w.heap.size, 1, none⟩ = some (.slice D2 O.length e2))) (by kernel_rfl) (hV' ▸ ⟨(air_block Y1.out).1, (air_block Y1.out).2.1⟩) (fun hHeld => ?_)
  rw [hV'] at hHeld ⊢
  refine wpAnyH_take (i := 0) (v := (.pointer (some ⟨w.heap.size, 0, none⟩))) at_zero (by kernel_rfl) (by kernel_rfl) (by kernel_rfl) (fun _ _ _ h => h) (Or.inl ⟨by kernel_rfl, fun wy hSw => ?_⟩) (by assumption) ?_
  · (try dsimp only at hSw); go_simp
  try simp only [Act.put, List.setIfInBounds_toArray, List.set_cons_zero, List.set_cons_succ]
  refine wpAnyH_take (i := 1) (v := (.slice D1 E.length e1)) (at_succ at_zero) (by kernel_rfl) (by kernel_rfl) (by kernel_rfl) (fun _ _ _ h => h) (Or.inl ⟨by kernel_rfl, fun wy hSw => ?_⟩) (by assumption) ?_
  · obtain ⟨q0, q1⟩ := hSw; go_simp
  try simp only [Act.put, List.setIfInBounds_toArray, List.set_cons_zero, List.set_cons_succ]
  refine wpAnyH_take (i := 3) (v := (.pointer (some ⟨w.heap.size, 1, none⟩))) (at_succ (at_succ (at_succ at_zero))) (by kernel_rfl) (by kernel_rfl) (by kernel_rfl) (fun _ _ _ h => h) (Or.inl ⟨by kernel_rfl, fun wy hSw => ?_⟩) (by assumption) ?_
  · (try dsimp only at hSw); go_simp
  try simp only [Act.put, List.setIfInBounds_toArray, List.set_cons_zero, List.set_cons_succ]
  refine wpAnyH_take (i := 4) (v := (.slice D2 O.length e2)) (at_succ (at_succ (at_succ (at_succ at_zero)))) (by kernel_rfl) (by kernel_rfl) (by kernel_rfl) (fun _ _ _ h => h) (Or.inl ⟨by kernel_rfl, fun wy hSw => ?_⟩) (by assumption) ?_
  · obtain ⟨q0, q1⟩ := hSw; go_simp
  try simp only [Act.put, List.setIfInBounds_toArray, List.set_cons_zero, List.set_cons_succ]
  refine wpAnyH_ready (rs := [2]) (by kernel_rfl) (by simp) ?_
  refine AllReadyH.cons (at_succ (at_succ at_zero)) (fun K hK => ?_) AllReadyH.nil
  rw [if_pos (by kernel_rfl)]
  go_simp
  refine (KE.out _ Y3.out.1).mono ?_
  rintro _ w3 ⟨v3, rfl, ho, hb⟩
  obtain ⟨A4, c4, rfl, _⟩ := ho.slS
  have T4 := Lib.hid (ho.down hz4)
  have T1 := Lib.hid (blk_below Y1.out hb (by omega))
  have TR := Lib.hid (blk_below YR.out hb (by omega))
  have T2 := Lib.hid (Y2.out.trans (hb.mono Y2.out.size))
  have T3 := Lib.hid (Y3.out.next hb)
  have hz5 : w.heap.size + 2 ≤ w3.heap.size := Nat.le_trans hz4 hb.size
  clear hb ho Y1 YR Y2 Y3 hz4 hHeld
  go_wp2_with fail
  refine hK.out _ _ (⟨(air_block T1.out).1, (air_block T1.out).2.1⟩) (fun hHeld => ?_)
  clear hK K
  try simp only [Act.put, List.setIfInBounds_toArray, List.set_cons_zero, List.set_cons_succ]
  refine wpAnyH_ready (rs := [5]) (by kernel_rfl) (by simp) ?_
  refine AllReadyH.cons (at_succ (at_succ (at_succ (at_succ (at_succ at_zero))))) (fun K hK => ?_) AllReadyH.nil
  rw [if_pos (by kernel_rfl)]
  go_simp
  refine (KO.out _ T3.out.2.1).mono ?_
  rintro _ w4 ⟨v4, rfl, ho, hb⟩
  obtain ⟨A5, c5, rfl, _⟩ := ho.slS
  have U5 := Lib.hid (ho.down hz5)
  have U1 := Lib.hid (blk_below T1.out hb (by omega))
  have UR := Lib.hid (blk_below TR.out hb (by omega))
  have U2 := Lib.hid (T2.out.trans (hb.mono T2.out.size))
  have U4 := Lib.hid (T4.out.below hb)
  clear hb ho T1 TR T2 T3 T4 hz5 hHeld
  go_wp2_with fail
  refine hK.out _ _ (⟨(air_block U1.out).1, (air_block U1.out).2.1⟩) (fun hHeld => ?_)
  clear hK K
  try simp only [Act.put, List.setIfInBounds_toArray, List.set_cons_zero, List.set_cons_succ]
  refine wpAnyH_take (i := 6) (v := (.agg #[.slice A4 E.length c4, .slice A5 O.length c5, .slice none 0 0])) (at_succ (at_succ (at_succ (at_succ (at_succ (at_succ at_zero)))))) (by kernel_rfl) (by kernel_rfl) (by kernel_rfl) (fun _ _ _ h => h) (Or.inl ⟨by kernel_rfl, fun wy hSw => ?_⟩) (by assumption) ?_
  · (try dsimp only at hSw); go_simp
  try simp only [Act.put, List.setIfInBounds_toArray, List.set_cons_zero, List.set_cons_succ]
  obtain ⟨y0, y1, y2⟩ := air_block UR.out
  have fu := fun j => blk_fr UR.out j
  have W0 := put3_other U1.out (by omega : w.heap.size ≠ w.heap.size + 1) (.slice A4 E.length c4) (.slice A5 O.length c5) (.slice none 0 0)
  have W1 := Lib.hid (put3_blk UR.out (.slice A4 E.length c4) (.slice A5 O.length c5) (.slice none 0 0))
  have W2 := Lib.hid (put3_below U2.out (Nat.le_succ w.heap.size) (.slice A4 E.length c4) (.slice A5 O.length c5) (.slice none 0 0))
  have W3 := Lib.hid (And.intro (air_block W0).1 (air_block W0).2.1)
  clear W0
  refine wpAnyH_ready (rs := [7]) (by kernel_rfl) (by simp) ?_
  refine AllReadyH.cons (at_succ (at_succ (at_succ (at_succ (at_succ (at_succ (at_succ at_zero))))))) (fun K hK => ?_) AllReadyH.nil
  rw [if_pos (by kernel_rfl)]
  go_simp
  refine hK.out _ _ (W3.out) (fun hHeld => ?_)
  clear hK K
  try simp only [Act.put, List.setIfInBounds_toArray, List.set_cons_zero, List.set_cons_succ]
  refine wpAnyH_done (by kernel_rfl) ?_ _
  clear y0 y1 y2 fu hHeld
  go_wp2_with fail
  obtain ⟨V9, hV9⟩ : ∃ V9, V9 = put3 w4 (w.heap.size + 1) (.slice A4 E.length c4) (.slice A5 O.length c5) (.slice none 0 0) := ⟨_, rfl⟩
  have S1 := (own_put3 U4.out (by omega : w.heap.size + 1 < w.heap.size + 2) (.slice A4 E.length c4) (.slice A5 O.length c5) (.slice none 0 0)).down (by omega : w.heap.size ≤ w.heap.size + 2)
  have S2 := (own_put3 U5.out (by omega : w.heap.size + 1 < w.heap.size + 2) (.slice A4 E.length c4) (.slice A5 O.length c5) (.slice none 0 0)).down (by omega : w.heap.size ≤ w.heap.size + 2)
  rw [← hV9] at W1 W2 S1 S2
  obtain ⟨r0, r1, r2⟩ := air_block W1.out
  unfold put3 at hV9
  rw [← hV9]
  clear hV9
  exact bodyPost_ret (v := airV ⟨A4, c4, A5, c5, none, 0⟩ ⟨E, O, []⟩) (by simp [results, Try.results22, go_sem, r0, r1, r2]) rfl ⟨A4, c4, A5, c5, rfl, rfl, S1, S2, W2.out⟩
theorem pclear_any (x : Hd) (a : Ar) (w : World) (hl : Fit a) (h : AirS w x a) : Calls Try.prog 22 #[airV x a] w (AirR w (clr a)) := by
  refine (pclear_own x a w hl h).mono ?_
  rintro e w' ⟨A4, c4, A5, c5, rfl, hn, h1, h2, hb⟩
  exact ⟨⟨A4, c4, A5, c5, none, 0⟩, rfl, ⟨(own_slS h1).2, (own_slS h2).2, SlS.nil _⟩, hb⟩
end Go.Proofs.Ytcnmknhjmflinaa.Rdo
