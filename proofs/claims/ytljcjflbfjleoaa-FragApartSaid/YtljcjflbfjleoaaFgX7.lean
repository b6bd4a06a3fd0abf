/- slices.DeleteFunc; package frag: Expire. -/
import Derived.Test.YtljcjflbfjleoaaFgX6
set_option linter.unusedVariables false
namespace Go.Proofs.Ytljcjflbfjleoaa.Frg
open Go.RowKit

theorem fil_next (q : Hp → Bool) (l : List Hp) (j : Nat) (hj : j < l.length) : (l.take (j + 1)).filter q = (l.take j).filter q ++ if q l[j] = true then [l[j]] else [] := by
  rw [List.take_succ_eq_append_getElem hj, List.filter_append]
  congr 1
  cases h : q l[j] <;> simp [h]
theorem fil_all (q : Hp → Bool) (l : List Hp) (k : Nat) (h : ∀ j (hj : j < l.length), j < k → q l[j] = true) : (l.take k).filter q = l.take k := by
  rw [List.filter_eq_self]
  intro x hx
  obtain ⟨j, hj, rfl⟩ := List.getElem_of_mem hx
  rw [List.length_take] at hj
  rw [List.getElem_take]
  exact h j (by omega) (by omega)
set_option maxRecDepth 100000 in
set_option maxHeartbeats 1000000 in
theorem pdfunc_any (gf : FuncId) (caps : Array Value) (p : Hp → Bool) (A : Option Addr) (c : Nat) (l : List Hp) (B : Nat) (w : World) (hl : l.length ≤ 1000) (h : OwnV w B A c l)
    (eg : ∀ args w, (callFunc gf args).run Try.prog w = .ok (.enter gf args) w) (hp : ∀ x wr, w.grownBy wr (Value.ownBlock (.slice A l.length c)) → Calls Try.prog gf (#[hpV x] ++ caps) wr (OutB wr (p x))) :
    Calls Try.prog 44 #[.slice A l.length c, .func (.func gf) #[] caps] w (fun e w' => e = .returned (.slice A (l.filter fun x => !p x).length c) ∧ OwnV w' B A c (l.filter fun x => !p x) ∧ w.grownBy w' (Value.ownBlock (.slice A l.length c))) := by
  have KI := Lib.hid (pindex_any gf caps p A c l w (by omega) h.q.row eg (fun x wr hb => hp x wr (gb_below hb)))
  unfold OutI at KI
  rcases ixU_is p l with ⟨e1, hall⟩ | ⟨i0, hi0, e1, hhit, hlow⟩
  · rw [e1] at KI
    have FL := Lib.hid (show (l.filter fun x => !p x) = l from by
      have := fil_all (fun x => !p x) l l.length (fun j hj _ => by rw [hall j hj]; rfl)
      rw [List.take_length] at this
      exact this)
    have HV := Lib.hid h
    clear hall hp h e1
    go_enter Try.func44, Try.ntmps44
    go_wp2_with fail
    refine KI.out.mono ?_
    rintro _ w1 ⟨rfl, hb⟩
    have V1 := Lib.hid (HV.out.below hb)
    have G1 := Lib.hid (gb_below (r := Value.ownBlock (.slice A l.length c)) hb)
    clear hb KI
    go_wp2_with fail
    go_ret
    rw [FL.out]
    exact ⟨rfl, V1.out, G1.out⟩
  rw [e1] at KI
  rcases h.row with ⟨_, _, e⟩ | ht
  · rw [e] at hi0; simp at hi0
  obtain ⟨g, off, cap, cur, e, R⟩ := ht.ro
  simp only [Value.slice.injEq, true_and] at e
  obtain ⟨rfl, rfl⟩ := e
  have hlc := R.len
  have hgl := R.lt
  have hgB := R.base
  have hgb := Lib.hid R.blk
  have MID := Lib.hid (R.mid i0 (by omega))
  have HV := Lib.hid h
  have HP := Lib.hid (show ∀ x wr, w.grownBy wr (some g) → Calls Try.prog gf (#[hpV x] ++ caps) wr (OutB wr (p x)) from hp)
  have F0 := Lib.hid (show (l.take (i0 + 1)).filter (fun x => !p x) = l.take i0 from by
    rw [fil_next _ _ _ hi0, fil_all _ _ _ (fun j hj hji => by rw [hlow j hj hji]; rfl), hhit]
    simp)
  have FN := Lib.hid (fun j hj => fil_next (fun x => !p x) l j hj)
  have FE := Lib.hid (show (l.take l.length).filter (fun x => !p x) = l.filter fun x => !p x from by rw [List.take_length])
  have FS := Lib.hid (show ∀ j, ((l.take j).filter (fun x => !p x)).length ≤ l.length from fun j => Nat.le_trans (List.length_filter_le _ _) (by rw [List.length_take]; omega))
  have SUB := Lib.hid (List.filter_sublist (p := fun x => !p x) (l := l))
  have L0 := Lib.hid (show (l.take i0).length = i0 by rw [List.length_take]; omega)
  have hgo : Value.ownBlock (.slice (some ⟨g, off, none⟩) l.length c) = some g := rfl
  rw [hgo]
  clear hp h e1 ht R hlow hhit hgo
  generalize (l.filter fun x => !p x) = E at *
  obtain ⟨Q, hQ⟩ : ∃ Q : Nat → List Hp, ∀ j, (l.take j).filter (fun x => !p x) = Q j := ⟨_, fun _ => rfl⟩
  simp only [hQ] at F0 FN FE FS
  clear hQ
  unfold OutB at HP
  have d1 : ((i0 : Int) == -1) = false := by simp
  have z1 : IntKind.i64.wrap ((i0 : Int) + 1) = (i0 : Int) + 1 := by rw [IntKind.wrap_i64] <;> omega
  go_enter Try.func44, Try.ntmps44
  go_wp2_with fail
  refine KI.out.mono ?_
  rintro _ w1 ⟨rfl, hb⟩
  have M1 := Lib.hid (show MidT fP 44 w1 B g off c (Q (i0 + 1)) (i0 + 1) (l.drop (i0 + 1)) from by
    have := MID.out.below hb
    rw [drop_one l i0 hi0] at this
    rw [F0.out]
    exact this.skip)
  have LQ := Lib.hid (show (Q (i0 + 1)).length = i0 from by rw [F0.out]; exact L0.out)
  have G1 := Lib.hid (gb_below (r := some g) hb)
  clear hb KI MID F0 L0
  go_wp2_with fail
  go_loopw [5, 6] (fun vi vj wr => ∃ j : Nat, vi = .int .i64 ((Q j).length : Nat) ∧ vj = .int .i64 (j : Int) ∧ i0 < j ∧ j ≤ l.length ∧ (Q j).length < j ∧ Hid (MidT fP 44 wr B g off c (Q j) j (l.drop j)) ∧ Hid (w.grownBy wr (some g))) (fun _ vj _ => l.length - (intOf vj).toNat)
  case atStart => exact ⟨i0 + 1, by rw [LQ.out], rfl, Nat.lt_succ_self _, hi0, by rw [LQ.out]; exact Nat.lt_succ_self _, M1, G1⟩
  case round =>
    obtain ⟨j, rfl, rfl, hij, hj, hqj, MD, GR⟩ := hrel
    clear M1 G1 LQ
    by_cases hlt : j < l.length
    · have hdr := drop_one l j hlt
      rw [hdr] at MD
      have ML := MD.out.lt
      have FX := Lib.hid (FN.out j hlt)
      have FSj := FS.out j
      obtain ⟨x, hx⟩ : ∃ x, l[j] = x := ⟨_, rfl⟩
      rw [hx] at MD FX
      clear hx hdr FN FE SUB FS
      have g0 : wr.cell? ⟨g, off + j * 6, none⟩ = some (.int .i64 x.x.s) := MD.out.cell 0 (by decide)
      have g1 : wr.cell? ⟨g, off + j * 6 + 1, none⟩ = some (.int .i64 x.x.i) := MD.out.cell 1 (by decide)
      have g2 : wr.cell? ⟨g, off + j * 6 + 2, none⟩ = some (.int .i64 x.x.c) := MD.out.cell 2 (by decide)
      have g3 : wr.cell? ⟨g, off + j * 6 + 3, none⟩ = some (.int .i64 x.x.t) := MD.out.cell 3 (by decide)
      have g4 : wr.cell? ⟨g, off + j * 6 + 4, none⟩ = some (.slice x.hA x.x.h.length x.hc) := MD.out.cell 4 (by decide)
      have g5 : wr.cell? ⟨g, off + j * 6 + 5, none⟩ = some (.slice x.dA x.x.d.length x.dc) := MD.out.cell 5 (by decide)
      have OKx := Lib.hid (show PtOk x.x from MD.out.okb x List.mem_cons_self)
      have a1 := alloc_below wr (bxP x)
      have GA := gr_trans GR.out (gb_below (r := some g) a1)
      have KP := Lib.hid (HP.out x (wr.alloc (bxP x)) GA)
      have X1 := Lib.hid (blk_new wr (bxP x))
      have L1 := Lib.hid (show wr.heap.size < (wr.alloc (bxP x)).heap.size by simp)
      have MA := Lib.hid (MD.out.below a1)
      have GAh := Lib.hid GA
      have q0 : (j : Int) < (l.length : Int) := by omega
      have q1 : (0 : Int) ≤ (j : Int) := by omega
      have z2 : IntKind.i64.wrap ((j : Int) + 1) = (j : Int) + 1 := by rw [IntKind.wrap_i64] <;> omega
      clear a1 GA MD GR HP
      obtain ⟨⟨s, i, c9, t, h, d⟩, a1, a2, a3, a4⟩ := x
      simp only at g0 g1 g2 g3 g4 g5 KP
      cases hz : p ⟨⟨s, i, c9, t, h, d⟩, a1, a2, a3, a4⟩ with
      | true =>
        rw [hz] at KP
        have EQ := Lib.hid (show Q (j + 1) = Q j from by rw [FX.out, hz]; simp)
        clear FX hz
        go_wp2_with fail
        refine KP.out.mono ?_
        rintro _ w2 ⟨rfl, hb⟩
        have M2 := Lib.hid (show MidT fP 44 w2 B g off c (Q (j + 1)) (j + 1) (l.drop (j + 1)) from by rw [EQ.out]; exact (MA.out.below hb).skip)
        have G2 := Lib.hid (gr_trans GAh.out (gb_below (r := some g) hb))
        clear hb KP MA GAh X1 L1 g0 g1 g2 g3 g4 g5
        go_wp2_with fail
        go_roundw
        case rel => exact ⟨j + 1, by rw [EQ.out], by go_num, by omega, hlt, by rw [EQ.out]; omega, M2, G2⟩
        case measure => simp [intOf]; omega
      | false =>
        rw [hz] at KP
        have EQ := Lib.hid (show Q (j + 1) = Q j ++ [⟨⟨s, i, c9, t, h, d⟩, a1, a2, a3, a4⟩] from by rw [FX.out, hz]; simp)
        clear FX hz
        go_wp2_with fail
        refine KP.out.mono ?_
        rintro _ w2 ⟨rfl, hb⟩
        have M2 := MA.out.below hb
        have TH := Lib.hid (show w2.there g (off + (Q j).length * 6) 6 from M2.there (Q j).length (by omega))
        have M3 := M2.store ⟨⟨s, i, c9, t, h, d⟩, a1, a2, a3, a4⟩ OKx.out
        rw [← EQ.out] at M3
        have X2 := blk_below X1.out hb L1.out
        have gr := setCells_grown g (hpC ⟨⟨s, i, c9, t, h, d⟩, a1, a2, a3, a4⟩) (off + (Q j).length * 6) w2
        have M3h := Lib.hid M3
        have G3 := Lib.hid (gr_trans (gr_trans GAh.out (gb_below (r := some g) hb)) gr)
        have LE := Lib.hid (show (Q (j + 1)).length = (Q j).length + 1 from by rw [EQ.out, List.length_append]; rfl)
        obtain ⟨f0, f1, f2, f3, f4, f5⟩ := hp_block X2
        simp only [Nat.zero_add] at f0 f1 f2 f3 f4 f5
        clear hb KP MA GAh X1 L1 g0 g1 g2 g3 g4 g5 M2 M3 X2 gr EQ
        obtain ⟨v, hv⟩ : ∃ v, (Q j).length = v := ⟨_, rfl⟩
        rw [hv] at TH M3h G3 LE hqj FSj ⊢
        have z3 : IntKind.i64.wrap ((v : Int) + 1) = (v : Int) + 1 := by rw [IntKind.wrap_i64] <;> omega
        have q2 : (v : Int) < (l.length : Int) := by omega
        have q3 : (0 : Int) ≤ (v : Int) := by omega
        clear hv
        go_wp2_with (first | (refine wpList_store_mid rfl _ _ _ rfl g (off + v * 6) #[.int .i64 s, .int .i64 i, .int .i64 c9, .int .i64 t, .slice a1 h.length a2, .slice a3 d.length a4] ?_ ?_ ?_ ?_ ?_ ?_; (· rfl); (· rfl); (· exact TH.out); (· kernel_rfl); (· exact one_h ⟨⟨s, i, c9, t, h, d⟩, a1, a2, a3, a4⟩)) | fail)
        go_roundw
        case rel => exact ⟨j + 1, by rw [LE.out]; go_num, by go_num, by omega, hlt, by rw [LE.out]; omega, M3h, G3⟩
        case measure => simp [intOf]; omega
    · obtain rfl : j = l.length := by omega
      rw [FE.out] at MD hqj ⊢
      obtain ⟨cur', R9⟩ := MD.out.ro
      have s1 := RoT.from (F := fP) utP szP g off l.length c E.length (by omega) (E.length : Int) rfl
      have s2 := RoT.to (F := fP) utP szP g off l.length c E.length (by omega)
      rw [if_neg (by omega)] at s1
      obtain ⟨w2, cur2, hcl, Q2, _, gr2⟩ := R9.clear Try.underlying31 (z := #[.int .i64 0, .int .i64 0, .int .i64 0, .int .i64 0, .slice none 0 0, .slice none 0 0]) (fun w => by kernel_rfl) rfl (by intro v hv; simp at hv; rcases hv with rfl | rfl <;> rfl) 31 E.length (l.length - E.length) (c - E.length) (Nat.le_refl _) (by omega)
      have hcl2 : ∀ ty, (Builtin.clear_ #[31] ty #[.slice (some ⟨g, off + E.length * fP.sz, none⟩) (l.length - E.length) (c - E.length)]).run Try.prog wr = .ok (.tuple #[]) w2 := fun ty => hcl
      have GF := Lib.hid (gr_trans GR.out gr2)
      have RES := Lib.hid (show OwnV w2 B (some ⟨g, off, none⟩) c E from ⟨Or.inr Q2.own, fun y hy => (HV.out.nest y (SUB.out.subset hy)).keptRow GF.out hgb.out, HV.out.ap.sublist SUB.out⟩)
      obtain ⟨A3, hA3⟩ : ∃ A3, (⟨g, off + E.length * fP.sz, none⟩ : Addr) = A3 := ⟨_, rfl⟩
      rw [hA3] at s1 hcl2
      have i0' : (0 : Int) ≤ (E.length : Int) := by omega
      have i1 : (E.length : Int) ≤ (l.length : Int) := by omega
      have i2 : (E.length : Int) ≤ (c : Int) := by omega
      have i3 : E.length < l.length := by omega
      clear hA3 hcl Q2 gr2 R9 MD GR FN SUB HV FS HP FE
      go_wp2_with fail
      go_ret
      exact ⟨rfl, RES.out, GF.out⟩
/-- The closure that tells an old entry. -/
def oldP (now life : Int) (y : Hp) : Bool := decide (tick life < IntKind.i64.wrap (tick now - y.x.t))
set_option maxRecDepth 100000 in
set_option maxHeartbeats 1000000 in
theorem pold_any (y : Hp) (now life : Int) (b : Nat) (w : World) (h0 : w.heap[b]? = some (.cells #[.int .i64 now] 3 (0, 0))) (h1 : w.heap[b + 1]? = some (.cells #[.int .i64 life] 3 (0, 0))) :
    Calls Try.prog 45 (#[hpV y] ++ #[.pointer (some ⟨b, 0, none⟩), .pointer (some ⟨b + 1, 0, none⟩)]) w (OutB w (oldP now life y)) := by
  have KL := Lib.hid (fun n w => plim_any n w)
  obtain ⟨⟨s, i, c, t, h, d⟩, A1, c1, D1, e1⟩ := y
  have X1 := blk_new w (bxP ⟨⟨s, i, c, t, h, d⟩, A1, c1, D1, e1⟩)
  have B0 := Lib.hid (alloc_below w (bxP ⟨⟨s, i, c, t, h, d⟩, A1, c1, D1, e1⟩))
  have g0 := blk_cell (blk_alloc h0 (bxP ⟨⟨s, i, c, t, h, d⟩, A1, c1, D1, e1⟩)) 0 (v := .int .i64 now) rfl
  have g1 := blk_cell (blk_alloc h1 (bxP ⟨⟨s, i, c, t, h, d⟩, A1, c1, D1, e1⟩)) 0 (v := .int .i64 life) rfl
  obtain ⟨f0, f1, f2, f3, f4, f5⟩ := hp_block X1
  simp only [Nat.zero_add] at f0 f1 f2 f3 f4 f5
  have R := Lib.hid (show decide (tick life < IntKind.i64.wrap (tick now - t)) = oldP now life ⟨⟨s, i, c, t, h, d⟩, A1, c1, D1, e1⟩ from rfl)
  generalize oldP now life ⟨⟨s, i, c, t, h, d⟩, A1, c1, D1, e1⟩ = F at *
  generalize tick = f at *
  clear X1 h0 h1
  go_enter Try.func45, Try.ntmps45
  go_wp2_with fail
  go_quiet ((go_at_call 32; exact quiet_same (KL.out _ _)))
  go_wp2_with fail
  go_ret
  exact outB (by rw [show wrap64 (f now - t) = IntKind.i64.wrap (f now - t) by rw [IntKind.wrap_i64]; unfold wrap64; rfl]; exact R.out) (below_drewN B0.out _)
theorem old_young {now life : Int} {y : Hp} (h : Valid y.x) : (!oldP now life y) = decide (Young now life y.x) := by
  have h1 := tick_in now
  have h2 := h.tk
  unfold oldP
  have z : IntKind.i64.wrap (tick now - y.x.t) = tick now - y.x.t := by rw [IntKind.wrap_i64] <;> omega
  rw [z]
  by_cases q : Young now life y.x
  · rw [decide_eq_true q, df (show ¬ tick life < tick now - y.x.t by unfold Young at q; omega)]; rfl
  · rw [decide_eq_false q, dt (show tick life < tick now - y.x.t by unfold Young at q; omega)]; rfl
theorem old_filter (now life : Int) (l : List Hp) (hv : ∀ y ∈ l, Valid y.x) : xs (l.filter fun y => !oldP now life y) = (xs l).filter fun x => decide (Young now life x) := by
  unfold xs
  rw [List.filter_map]
  congr 1
  exact List.filter_congr fun y hy => old_young (hv y hy)
set_option maxRecDepth 100000 in
set_option maxHeartbeats 1000000 in
theorem pexpire_any (A : Option Addr) (c : Nat) (l : List Hp) (now life : Int) (w : World) (hl : l.length ≤ 1000) (hm : ∀ y ∈ l, y.x.h.length ≤ 9223372036854775807 ∧ y.x.d.length ≤ 9223372036854775807) (hA : PsS w A c l) :
    Calls Try.prog 21 #[.slice A l.length c, .int .i64 now, .int .i64 life] w (PsR w (expi (xs l) now life)) := by
  have b0 : Below w.heap.size w ((w.alloc (.cells #[.int .i64 now] 3)).alloc (.cells #[.int .i64 life] 3)) := (alloc_below w _).trans ((alloc_below _ _).mono (by simp))
  have X0 : ((w.alloc (.cells #[.int .i64 now] 3)).alloc (.cells #[.int .i64 life] 3)).heap[w.heap.size]? = some (.cells #[.int .i64 now] 3 (0, 0)) := blk_alloc (blk_new w _) _
  have X1 : ((w.alloc (.cells #[.int .i64 now] 3)).alloc (.cells #[.int .i64 life] 3)).heap[w.heap.size + 1]? = some (.cells #[.int .i64 life] 3 (0, 0)) := by have := blk_new (w.alloc (.cells #[.int .i64 now] 3)) (.cells #[.int .i64 life] 3); simpa using this
  have hz : ((w.alloc (.cells #[.int .i64 now] 3)).alloc (.cells #[.int .i64 life] 3)).heap.size = w.heap.size + 2 := by simp
  have KO := Lib.hid (porder_any A c l ((w.alloc (.cells #[.int .i64 now] 3)).alloc (.cells #[.int .i64 life] 3)) hl hm ⟨hA.1.next b0, fun y hy => (hA.2 y hy).next b0⟩)
  have OK := ord_ok (xs l)
  have XP := Lib.hid (show expi (xs l) now life = (ord (xs l)).filter fun x => decide (Young now life x) from rfl)
  unfold OrdV at KO
  generalize expi (xs l) now life = F at *
  have X0h := Lib.hid X0
  have X1h := Lib.hid X1
  have b0h := Lib.hid b0
  have hzh := Lib.hid hz
  have OKh := Lib.hid OK
  generalize ord (xs l) = o at *
  clear hA hm X0 X1 b0 hz OK
  go_enter Try.func21, Try.ntmps21
  go_wp2_with fail
  refine KO.out.mono ?_
  rintro _ w2 ⟨A1, c1, ys, rfl, hV, hx, hb⟩
  have X2 := Lib.hid (blk_below X0h.out hb (by have := hzh.out; omega))
  have X3 := Lib.hid (blk_below X1h.out hb (by have := hzh.out; omega))
  have B2 := Lib.hid (b0h.out.trans (hb.mono b0h.out.size))
  have yl : ys.length ≤ 8 := by have := OKh.out.len; rw [← hx] at this; unfold xs at this; rw [List.length_map] at this; exact this
  have lo : ∀ g, Value.ownBlock (.slice A1 ys.length c1) = some g → w.heap.size + 2 ≤ g := fun g hg => by
    rcases hV.row with ⟨rfl, _, _⟩ | ht
    · cases hg
    · have := (ht.lt g hg).1
      have := hzh.out
      omega
  have eg : ∀ args w, (callFunc 45 args).run Try.prog w = .ok (.enter 45 args) w := enters_of Try.func45 (by kernel_rfl) rfl
  have KD := Lib.hid (pdfunc_any 45 #[.pointer (some ⟨w.heap.size, 0, none⟩), .pointer (some ⟨w.heap.size + 1, 0, none⟩)] (oldP now life) A1 c1 ys _ w2 (by omega) hV eg (fun x wr hg =>
    pold_any x now life w.heap.size wr (blk_grown X2.out hg (fun e => by have := lo _ e.symm; omega)) (blk_grown X3.out hg (fun e => by have := lo _ e.symm; omega))))
  have FX := Lib.hid (show xs (ys.filter fun y => !oldP now life y) = F from by
    rw [old_filter now life ys (fun y hy => OKh.out.val _ (by rw [← hx]; unfold xs; exact List.mem_map_of_mem hy)), hx, XP.out])
  have LO := Lib.hid lo
  have S2 := Lib.hid (show w.heap.size ≤ w2.heap.size from B2.out.size)
  clear eg lo hV hx hb KO X0h X1h b0h hzh OKh XP X2 X3
  generalize (ys.filter fun y => !oldP now life y) = zs at *
  go_wp2_with fail
  refine KD.out.mono ?_
  rintro _ w3 ⟨rfl, hV, hg⟩
  have V3 := Lib.hid hV.q.psS
  have B3 := Lib.hid (B2.out.trans (gr_below hg (B := w.heap.size) (fun g e => by have := LO.out g e; omega) S2.out))
  clear hV hg KD
  go_wp2_with fail
  go_ret
  exact ⟨A1, c1, zs, rfl, V3.out, FX.out, B3.out⟩
end Go.Proofs.Ytljcjflbfjleoaa.Frg
