/- The reference's Put. -/
import Derived.Test.YtlfegjhhkeceiaaMbD
set_option linter.unusedVariables false
namespace Go.Proofs.Ytlfegjhhkeceiaa.Mbx
open Go.RowKit

theorem fl_take {α : Type} {F : Flat α} {w : World} {B : Nat} {A : Option Addr} {l : List α} (h : FlAt F w B A l) (k : Nat) : FlAt F w B A (l.take k) := fun i hi => by
  have hi' : i < l.length := by rw [List.length_take] at hi; omega
  obtain ⟨b, p, h1, h2, h3, h4⟩ := h i hi'
  have e : (l.take k)[i] = l[i] := List.getElem_take
  exact ⟨b, p, h1, h2, fun j u hu => h3 j u (by rw [← e]; exact hu), by rw [e]; exact h4⟩
theorem fl_drop {α : Type} {F : Flat α} {w : World} {B b p : Nat} {l : List α} (h : FlAt F w B (some ⟨b, p, none⟩) l) (k : Nat) : FlAt F w B (some ⟨b, p + k * F.sz, none⟩) (l.drop k) := fun i hi => by
  have hi' : k + i < l.length := by rw [List.length_drop] at hi; omega
  obtain ⟨b', p', h1, h2, h3, h4⟩ := h (k + i) hi'
  simp only [Option.some.injEq, Addr.mk.injEq, and_true] at h1
  obtain ⟨rfl, rfl⟩ := h1
  have e : (l.drop k)[i] = l[k + i] := List.getElem_drop
  refine ⟨b, p + k * F.sz, rfl, h2, fun j u hu => ?_, by rw [e]; exact h4⟩
  have := h3 j u (by rw [← e]; exact hu)
  rw [Nat.add_mul, ← Nat.add_assoc] at this
  exact this
/-- An operation 's[lo:hi]' whose run is known. -/
theorem wpList_slice_run {P : Program} (w : World) {ops : Array Oper} {rest : List Oper} {o : Oper} {a : Act} {Q : Exit → Act → World → Prop} (hg : o.guard = none) (x : Operand) (lo hi : Option Operand) (t : TypeId) (hop : o.op = Op.slice t x lo hi none)
    (vx v : Value) (vlo vhi : Option Value) (hx : a.eval x = vx) (hlo : lo.map a.eval = vlo) (hhi : hi.map a.eval = vhi) (hr : (Instr.sliceAt t vx vlo vhi none).run P w = .ok v w) (h : wpList P ops Q rest (a.put o.dst v) w) : wpList P ops Q (o :: rest) a w := by
  refine wpList_plain hg fun K hK => ?_
  unfold Oper.wp
  simp [execOp, hop, hx, hlo, hhi, hr, Result.andThen]
  exact hK _ _ h
/-- 'm[:a]' and 'm[a:]' of a row of the call's own. -/
theorem cut_ml {w : World} {B : Nat} {A : Option Addr} {c : Nat} {M : List Ml} (h : OwnM w B (.slice A M.length c) M) (a : Nat) (ha : a ≤ M.length) :
    ∃ A', (∀ W : World, (Instr.sliceAt 22 (.slice A M.length c) none (some (.int .i64 (a : Int))) none).run Try.prog W = .ok (.slice A a c) W) ∧ (∀ W : World, (Instr.sliceAt 22 (.slice A M.length c) (some (.int .i64 (a : Int))) none none).run Try.prog W = .ok (.slice A' (M.length - a) (c - a)) W) ∧
      FlAt fM w w.heap.size A (M.take a) ∧ FlAt fM w w.heap.size A' (M.drop a) := by
  obtain ⟨A', c', e, h1, h2, h3⟩ := h.read
  simp only [Value.slice.injEq] at e
  obtain ⟨rfl, _, rfl⟩ := e
  have ut : Try.prog.underlying 22 = some (.slice (Try.prog.elem 22)) := by kernel_rfl
  have sz : ∀ W : World, (sizeOf (Try.prog.elem 22)).run Try.prog W = .ok 10 W := fun W => by kernel_rfl
  have e1 : ∀ W : World, (Instr.sliceAt 22 (.slice A M.length c) none (some (.int .i64 (a : Int))) none).run Try.prog W = .ok (sliced A 0 a c 10) W := fun W => by
    rw [run_sliceAt_slice W _ _ _ _ _ ut, run_slice_h W _ A M.length c ut .i64 a (by omega) (by omega), sz]
    rfl
  have e2 : ∀ W : World, (Instr.sliceAt 22 (.slice A M.length c) (some (.int .i64 (a : Int))) none none).run Try.prog W = .ok (sliced A a M.length c 10) W := fun W => by
    rw [run_sliceAt_slice W _ _ _ _ _ ut, run_slice_l W _ A M.length c ut .i64 a (by omega) (by omega), sz]
    rfl
  cases A with
  | none =>
    obtain rfl := h1.none rfl
    refine ⟨none, fun W => (e1 W).trans ?_, fun W => (e2 W).trans ?_, by simpa using h1, by simpa using h1⟩
    · unfold sliced; simp
    · unfold sliced; simp
  | some ad =>
    by_cases hM : M = []
    · subst hM
      obtain rfl : a = 0 := by simpa using ha
      refine ⟨if c = 0 then some ad else some (ad.add 0), fun W => (e1 W).trans ?_, fun W => (e2 W).trans ?_, FlAt.nil _ _ _, FlAt.nil _ _ _⟩
      · unfold sliced
        have : ad.add 0 = ad := by unfold Addr.add; cases ad; rename_i s; cases s <;> simp
        simp [this]
      · unfold sliced; simp
    · obtain ⟨b, p, e3, _⟩ := h1 0 (List.length_pos_iff.2 hM)
      simp only [Option.some.injEq] at e3
      subst e3
      have hadd : ∀ j, (⟨b, p, none⟩ : Addr).add j = ⟨b, p + j, none⟩ := fun j => by unfold Addr.add; split <;> simp_all
      refine ⟨if c = a then some ⟨b, p, none⟩ else some ⟨b, p + a * 10, none⟩, fun W => (e1 W).trans ?_, fun W => (e2 W).trans ?_, fl_take h1 a, ?_⟩
      · unfold sliced
        simp [hadd]
      · unfold sliced
        simp [hadd]
      · by_cases hc : c = a
        · rw [if_pos hc, List.drop_of_length_le (by omega)]
          exact FlAt.nil _ _ _
        · rw [if_neg hc]
          exact fl_drop h1 a
/-- Put hands back mails and whether the frame was taken. -/
def OutPt (w : World) (r : List Ml × Bool) (e : Ending) (w' : World) : Prop := ∃ v, e = .returned (.tuple #[v, .bool r.2]) ∧ OwnM w' w.heap.size v r.1 ∧ Below w.heap.size w w'
theorem put_full {l : List Ml} {f : Fm} {now : Int} (h : Full (l.take 16) f) : put l f now = (l.take 16, false) := if_pos h
theorem put_room {l : List Ml} {f : Fm} {now : Int} (h : (l.take 16).length ≠ 16) : put l f now = (ins (f, lim now) (l.take 16), true) := by
  unfold put
  rw [if_neg (fun h2 => h h2.1), if_neg h]
theorem put_over {l : List Ml} {f : Fm} {now : Int} (h : (l.take 16).length = 16) (hf : ¬ Full (l.take 16) f) : put l f now = (ins (f, lim now) (rmL (l.take 16)), true) := by
  unfold put
  rw [if_neg hf, if_pos h]
theorem ins_urgent {f : Fm} {n : Int} {m : List Ml} (h : f.u = true) : ins (f, n) m = m.take (atU m m.length) ++ [(f, n)] ++ m.drop (atU m m.length) := by
  unfold ins
  rw [if_pos h, (atU_ins (f, n) m).2]
  simp
theorem ins_plain {f : Fm} {n : Int} {m : List Ml} (h : f.u = false) : ins (f, n) m = m.take m.length ++ [(f, n)] ++ m.drop m.length := by
  unfold ins
  rw [if_neg (by simp [h])]
  simp
set_option maxRecDepth 100000 in
set_option maxHeartbeats 4000000 in
theorem rput_any (A : Option Addr) (c : Nat) (l : List Ml) (f : Fm) (now : Int) (w : World) (hl : l.length ≤ 9223372036854775807) (hf : FOk f) (hA : MlAt w w.heap.size A l) :
    Calls Try.prog 11 #[.slice A l.length c, fmV f, .int .i64 now] w (OutPt w (put l f now)) := by
  obtain ⟨y0, y1, y2, y3, y4, y5, y6, y7, y8⟩ := f
  have HF := Lib.hid hf
  have K0 := Lib.hid (rfirst_any A c l (w.alloc (bxF ⟨y0, y1, y2, y3, y4, y5, y6, y7, y8⟩)) hl (hA.next (alloc_below _ _)))
  have PF := Lib.hid (fun h => put_full (l := l) (f := ⟨y0, y1, y2, y3, y4, y5, y6, y7, y8⟩) (now := now) h)
  have PR := Lib.hid (fun h => put_room (l := l) (f := ⟨y0, y1, y2, y3, y4, y5, y6, y7, y8⟩) (now := now) h)
  have PO := Lib.hid (fun h hf => put_over (l := l) (f := ⟨y0, y1, y2, y3, y4, y5, y6, y7, y8⟩) (now := now) h hf)
  have LM : (l.take 16).length ≤ 16 := by rw [List.length_take]; omega
  clear hA hf
  generalize put l ⟨y0, y1, y2, y3, y4, y5, y6, y7, y8⟩ now = X at *
  generalize l.take 16 = m at *
  unfold OutM at K0
  go_enter Try.func11, Try.ntmps11
  go_wp2_with fail
  refine K0.out.mono ?_
  rintro _ w1 ⟨v, rfl, ho, hb⟩
  have X1 := Lib.hid (show w1.heap[w.heap.size]? = some (bxF ⟨y0, y1, y2, y3, y4, y5, y6, y7, y8⟩) from (hb.block w.heap.size (by simp)).trans (blk_new w _))
  have B1 := Lib.hid (box_below hb)
  have hz1 : w.heap.size + 1 ≤ w1.heap.size := by have := hb.size; simpa using this
  have O1 := Lib.hid (show OwnM w1 (w.heap.size + 1) v m by have h := ho; simp at h; exact h)
  obtain ⟨A1, c1, rfl, hs, _, _⟩ := O1.out.read
  have HM := Lib.hid hs
  have e7 : w1.cell? ⟨w.heap.size, 7, none⟩ = some (.bool y7) := (fm_block X1.out).2.2.2.2.2.2.2.1
  have LI := Lib.hid (lsU_in m m.length (Nat.le_refl _))
  have LG := Lib.hid (lsU_neg m)
  have LR := Lib.hid (lsU_rm m)
  have LY := Lib.hid (fun k h e => lsU_yes m k h e)
  have LN := Lib.hid (fun k h e => lsU_no m k h e)
  have L0 := Lib.hid (show lsU m 0 = -1 from rfl)
  obtain ⟨J, hJ⟩ : ∃ J : Nat → Int, J = lsU m := ⟨_, rfl⟩
  rw [← hJ] at LI LG LR LY LN L0
  clear hb hs ho K0 hJ
  go_wp2_with fail
  go_loop [9, 10] (fun vj vk => ∃ k : Nat, vk = .int .i64 k ∧ k ≤ m.length ∧ vj = .int .i64 (J k)) (fun _ vk => m.length - (intOf vk).toNat)
  case atStart => exact ⟨0, rfl, Nat.zero_le _, by rw [L0.out]⟩
  case round =>
    obtain ⟨k, rfl, hk, rfl⟩ := hrel
    by_cases hlt : k < m.length
    · obtain ⟨bb, p, rfl, _, hc, _⟩ := ml_cell HM.out k hlt
      have g7 := hc.2.2.2.2.2.2.2.1
      have Y := Lib.hid (LY.out k hlt)
      have N := Lib.hid (LN.out k hlt)
      clear hc LY LN PF PR PO LR LG
      obtain ⟨u, hu⟩ : ∃ u, m[k].1.u = u := ⟨_, rfl⟩
      rw [hu] at g7 Y N
      clear hu
      cases u with
      | false =>
        have R := Lib.hid (Y.out rfl)
        clear Y N
        go_wp2_with fail
        go_round
        case rel => exact ⟨k + 1, by go_num, hlt, by rw [R.out]⟩
        case measure => simp [intOf]; omega
      | true =>
        have R := Lib.hid (N.out rfl)
        clear Y N
        go_wp2_with fail
        go_round
        case rel => exact ⟨k + 1, by go_num, hlt, by rw [R.out]⟩
        case measure => simp [intOf]; omega
    have hk' : k = m.length := by omega
    have d0 : ¬ k < m.length := hlt
    have HK := Lib.hid hk'
    rw [← hk'] at LI LG LR
    clear hk' LY LN L0
    generalize J k = j at *
    by_cases h16 : m.length = 16
    · have q16 : (m.length : Int) = 16 := by omega
      have t16 : ((m.length : Int) == 16) = true := by simpa using q16
      cases y7 with
      | false =>
        have R := Lib.hid (PF.out ⟨h16, Or.inl rfl⟩)
        have OO := Lib.hid (show OwnM w1 w.heap.size (.slice A1 16 c1) m by have h := O1.out.down (Nat.le_succ _); rw [h16] at h; exact h)
        clear PF PR PO LI LG LR
        go_wp2_with fail
        rw [R.out]
        go_ret2
        exact ⟨_, rfl, OO.out, B1.out⟩
      | true =>
        by_cases hj : j < 0
        · have R := Lib.hid (PF.out ⟨h16, Or.inr (LG.out.1 hj)⟩)
          have OO := Lib.hid (show OwnM w1 w.heap.size (.slice A1 16 c1) m by have h := O1.out.down (Nat.le_succ _); rw [h16] at h; exact h)
          have dj := dt hj
          clear PF PR PO LI LG LR hj
          go_wp2_with fail
          rw [R.out]
          go_ret2
          exact ⟨_, rfl, OO.out, B1.out⟩
        · obtain ⟨i, hi, rfl, hrm⟩ := LR.out (by omega)
          have NF : ¬ Full m ⟨y0, y1, y2, y3, y4, y5, y6, true, y8⟩ := fun h => by
            rcases h.2 with h | h
            · cases h
            · exact hj (LG.out.2 h)
          have R0 := Lib.hid (PO.out h16 NF)
          have KW := Lib.hid (rwithout_any A1 c1 m i w1 (by omega) (by omega) HM.out)
          have LM2 : (m.eraseIdx i).length ≤ 15 := by rw [List.length_eraseIdx]; split <;> omega
          rw [← hrm] at R0
          have R := Lib.hid (R0.out.trans (by rw [ins_urgent rfl]))
          have dj : decide ((i : Int) < 0) = false := df (by omega)
          unfold OutM at KW
          rw [h16] at KW
          clear PF PR PO LI LG LR hj NF R0 hrm
          go_wp2_with fail
          refine KW.out.mono ?_
          rintro _ w2 ⟨v2, rfl, ho, hb⟩
          have X2 := Lib.hid (show w2.heap[w.heap.size]? = some (bxF ⟨y0, y1, y2, y3, y4, y5, y6, true, y8⟩) from (hb.block w.heap.size (by omega)).trans X1.out)
          have B2 := Lib.hid (B1.out.trans (hb.mono B1.out.size))
          have O2 := Lib.hid (ho.down hz1)
          obtain ⟨A2, c2, e2, hs2, _, _⟩ := ho.read
          subst e2
          have M2 := Lib.hid hs2
          clear hb ho hs2 KW O1 X1 B1 HM h16 e7
          obtain ⟨M, hM⟩ : ∃ M, m.eraseIdx i = M := ⟨_, rfl⟩
          rw [hM] at O2 M2 LM2 R ⊢
          clear hM
          have HY := Lib.hid (fun (n : Nat) (h : n < M.length) (e : M[n].1.u = false) => (show atU M (M.length - n) = n from by rw [show M.length - n = (M.length - (n + 1)) + 1 by omega]; exact atU_yes M _ n h (by omega) e))
          have HN := Lib.hid (fun (n : Nat) (h : n < M.length) (e : M[n].1.u = true) => (show atU M (M.length - n) = atU M (M.length - (n + 1)) from by rw [show M.length - n = (M.length - (n + 1)) + 1 by omega]; exact atU_no M _ n h (by omega) e))
          have H0 := Lib.hid (show atU M (M.length - M.length) = M.length by rw [Nat.sub_self]; rfl)
          have HE := Lib.hid (show atU M M.length = atU M (M.length - 0) from rfl)
          have HB := (atU_ins (⟨y0, y1, y2, y3, y4, y5, y6, true, y8⟩, lim now) M).1
          rw [HE.out] at R HB
          obtain ⟨H, hH⟩ : ∃ H : Nat → Nat, ∀ n, atU M (M.length - n) = H n := ⟨fun n => atU M (M.length - n), fun _ => rfl⟩
          simp only [hH] at HY HN H0 R HB
          clear hH HE
          obtain ⟨a, ha⟩ : ∃ a, H 0 = a := ⟨_, rfl⟩
          have HA0 := Lib.hid ha
          rw [ha] at R HB
          clear ha
          have e7 : w2.cell? ⟨w.heap.size, 7, none⟩ = some (.bool true) := (fm_block X2.out).2.2.2.2.2.2.2.1
          obtain ⟨A4, sl1, sl2, F1, F2⟩ := cut_ml O2.out (a) HB
          have SL1 := Lib.hid sl1
          have SL2 := Lib.hid sl2
          have G2 := Lib.hid F2
          have hz2 := B2.out.size
          have hx2 := blk_lt X2.out
          have E0 : OwnM (w2.alloc (.cells #[] 39)) w2.heap.size (.slice (some ⟨w2.heap.size, 0, none⟩) 0 0) [] := OwnF.lit w2 w2.heap.size [] #[] (Nat.le_refl _) (by unfold maxLen; simp) rfl (fun x hx => by cases hx)
          have el : (M.take (a)).length = a := by rw [List.length_take]; omega
          obtain ⟨v3, w3, hap1, ho3, hb3, _⟩ := E0.app eMl (c := c2) 22 (F1.next (alloc_below w2 (.cells #[] 39))) (by rw [el]; simp; omega) (by simp)
          rw [el] at hap1
          have hb3 := ((alloc_below w2 (.cells #[] 39)).trans hb3)
          obtain ⟨A3, c3, e3, _⟩ := ho3.form
          have e3l : ([] ++ M.take (a)).length = a := el
          rw [e3l] at e3
          subst e3
          have X3 := Lib.hid (show w3.heap[w.heap.size]? = some (bxF ⟨y0, y1, y2, y3, y4, y5, y6, true, y8⟩) from (hb3.block w.heap.size hx2).trans X2.out)
          have B3 := Lib.hid (B2.out.trans (hb3.mono hz2))
          have D3 := below_drewN (Below.refl w3.heap.size w3) 1
          obtain ⟨v4, w4, hap2, ho4, hb4⟩ := app_mail (ho3.drew 1) (⟨y0, y1, y2, y3, y4, y5, y6, true, y8⟩, lim now) ⟨HF.out, lim_i64 now⟩ (by rw [e3l]; omega) hb3.size
          have hb4 := hb3.trans ((below_drewN (Below.refl w2.heap.size w3) 1).trans hb4)
          obtain ⟨A5, c5, e5, _⟩ := ho4.form
          have e5l : ([] ++ M.take (a) ++ [((⟨y0, y1, y2, y3, y4, y5, y6, true, y8⟩ : Fm), lim now)]).length = a + 1 := by rw [List.length_append, e3l]; rfl
          rw [e5l] at e5
          subst e5
          have X4 : w4.heap[w.heap.size]? = some (bxF ⟨y0, y1, y2, y3, y4, y5, y6, true, y8⟩) := (hb4.block w.heap.size hx2).trans X2.out
          have dl : (M.drop (a)).length = M.length - a := List.length_drop
          obtain ⟨v6, w6, hap3, ho6, hb6, _⟩ := ho4.app eMl (c := c2 - a) 22 ((G2.out.below hb4).mono hb4.size) (by rw [e5l, dl]; omega) hb4.size
          rw [dl] at hap3
          have B6 := Lib.hid (B2.out.trans ((hb4.trans hb6).mono hz2))
          have O6 := Lib.hid (show OwnM w6 w.heap.size v6 (M.take (a) ++ [((⟨y0, y1, y2, y3, y4, y5, y6, true, y8⟩ : Fm), lim now)] ++ M.drop (a)) from by have := ho6.down hz2; simpa using this)
          have S0 : FmC w3.drew w.heap.size 0 ⟨y0, y1, y2, y3, y4, y5, y6, true, y8⟩ := fm_block (w := w3.drew) X3.out
          have S1 : FmC (w3.drew.alloc (bxM (⟨y0, y1, y2, y3, y4, y5, y6, true, y8⟩, lim now))) w.heap.size 0 ⟨y0, y1, y2, y3, y4, y5, y6, true, y8⟩ := fm_block (blk_alloc (w := w3.drew) X3.out _)
          have S4 : FmC w4 w.heap.size 0 ⟨y0, y1, y2, y3, y4, y5, y6, true, y8⟩ := fm_block X4
          have T0 : w3.drew.cell? ⟨w.heap.size, 0, none⟩ = some (.int .i64 y0) ∧ w3.drew.cell? ⟨w.heap.size, 1, none⟩ = some (.int .i64 y1) ∧ w3.drew.cell? ⟨w.heap.size, 2, none⟩ = some (.int .i64 y2) ∧ w3.drew.cell? ⟨w.heap.size, 3, none⟩ = some (.int .i64 y3) ∧ w3.drew.cell? ⟨w.heap.size, 4, none⟩ = some (.int .i64 y4) ∧ w3.drew.cell? ⟨w.heap.size, 5, none⟩ = some (.int .i64 y5) ∧ w3.drew.cell? ⟨w.heap.size, 6, none⟩ = some (.int .i64 y6) ∧ w3.drew.cell? ⟨w.heap.size, 7, none⟩ = some (.bool true) ∧ w3.drew.cell? ⟨w.heap.size, 8, none⟩ = some (.string y8) := S0
          have T1 : (w3.drew.alloc (bxM (⟨y0, y1, y2, y3, y4, y5, y6, true, y8⟩, lim now))).cell? ⟨w.heap.size, 0, none⟩ = some (.int .i64 y0) ∧ (w3.drew.alloc (bxM (⟨y0, y1, y2, y3, y4, y5, y6, true, y8⟩, lim now))).cell? ⟨w.heap.size, 1, none⟩ = some (.int .i64 y1) ∧ (w3.drew.alloc (bxM (⟨y0, y1, y2, y3, y4, y5, y6, true, y8⟩, lim now))).cell? ⟨w.heap.size, 2, none⟩ = some (.int .i64 y2) ∧ (w3.drew.alloc (bxM (⟨y0, y1, y2, y3, y4, y5, y6, true, y8⟩, lim now))).cell? ⟨w.heap.size, 3, none⟩ = some (.int .i64 y3) ∧ (w3.drew.alloc (bxM (⟨y0, y1, y2, y3, y4, y5, y6, true, y8⟩, lim now))).cell? ⟨w.heap.size, 4, none⟩ = some (.int .i64 y4) ∧ (w3.drew.alloc (bxM (⟨y0, y1, y2, y3, y4, y5, y6, true, y8⟩, lim now))).cell? ⟨w.heap.size, 5, none⟩ = some (.int .i64 y5) ∧ (w3.drew.alloc (bxM (⟨y0, y1, y2, y3, y4, y5, y6, true, y8⟩, lim now))).cell? ⟨w.heap.size, 6, none⟩ = some (.int .i64 y6) ∧ (w3.drew.alloc (bxM (⟨y0, y1, y2, y3, y4, y5, y6, true, y8⟩, lim now))).cell? ⟨w.heap.size, 7, none⟩ = some (.bool true) ∧ (w3.drew.alloc (bxM (⟨y0, y1, y2, y3, y4, y5, y6, true, y8⟩, lim now))).cell? ⟨w.heap.size, 8, none⟩ = some (.string y8) := S1
          have T4 : w4.cell? ⟨w.heap.size, 0, none⟩ = some (.int .i64 y0) ∧ w4.cell? ⟨w.heap.size, 1, none⟩ = some (.int .i64 y1) ∧ w4.cell? ⟨w.heap.size, 2, none⟩ = some (.int .i64 y2) ∧ w4.cell? ⟨w.heap.size, 3, none⟩ = some (.int .i64 y3) ∧ w4.cell? ⟨w.heap.size, 4, none⟩ = some (.int .i64 y4) ∧ w4.cell? ⟨w.heap.size, 5, none⟩ = some (.int .i64 y5) ∧ w4.cell? ⟨w.heap.size, 6, none⟩ = some (.int .i64 y6) ∧ w4.cell? ⟨w.heap.size, 7, none⟩ = some (.bool true) ∧ w4.cell? ⟨w.heap.size, 8, none⟩ = some (.string y8) := S4
          clear S0 S1 S4
          have KL := Lib.hid (rlimit_any now w3.drew)
          clear ho3 hb3 ho4 hb4 ho6 hb6 E0 el e3l e5l dl X4 D3 F1 F2 sl1 sl2 hx2
          go_wp2_with fail
          go_loop [11, 12] (fun va vi => ∃ n : Nat, n ≤ M.length ∧ vi = .int .i64 ((n : Int) - 1) ∧ va = .int .i64 (H n)) (fun _ vi => (intOf vi + 1).toNat)
          case atStart => exact ⟨M.length, Nat.le_refl _, rfl, by rw [H0.out]⟩
          case round =>
            obtain ⟨n, hn, rfl, rfl⟩ := hrel
            cases n with
            | zero =>
              rw [HA0.out]
              clear HY HN H0 HA0
              go_wp2_with (first | (at_builtin; refine Lib.wpList_append_run _ rfl _ _ _ _ rfl _ _ rfl rfl _ _ hap1 ?_) | (refine wpList_slice_run _ rfl _ _ _ _ rfl _ _ _ _ rfl rfl rfl (SL1.out _) ?_) | fail)
              refine wp_region_held_drew (S := (fun wy : World => wy.cell? ⟨w.heap.size, 0, none⟩ = some (.int .i64 y0) ∧ wy.cell? ⟨w.heap.size, 1, none⟩ = some (.int .i64 y1) ∧ wy.cell? ⟨w.heap.size, 2, none⟩ = some (.int .i64 y2) ∧ wy.cell? ⟨w.heap.size, 3, none⟩ = some (.int .i64 y3) ∧ wy.cell? ⟨w.heap.size, 4, none⟩ = some (.int .i64 y4) ∧ wy.cell? ⟨w.heap.size, 5, none⟩ = some (.int .i64 y5) ∧ wy.cell? ⟨w.heap.size, 6, none⟩ = some (.int .i64 y6) ∧ wy.cell? ⟨w.heap.size, 7, none⟩ = some (.bool true) ∧ wy.cell? ⟨w.heap.size, 8, none⟩ = some (.string y8))) (by kernel_rfl) T0 (fun hHeld => ?_)
              refine wpAnyH_take (i := 0) (v := (.slice A3 (a) c3)) at_zero (by kernel_rfl) (by kernel_rfl) (by kernel_rfl) (fun _ _ _ h => h) (Or.inl ⟨by kernel_rfl, fun wy hSw => ?_⟩) (by assumption) ?_
              · (try dsimp only at hSw); go_simp
              try simp only [Act.put, List.setIfInBounds_toArray, List.set_cons_zero, List.set_cons_succ]
              refine wpAnyH_take (i := 1) (v := (.agg #[.int .i64 y0, .int .i64 y1, .int .i64 y2, .int .i64 y3, .int .i64 y4, .int .i64 y5, .int .i64 y6, .bool true, .string y8])) (at_succ at_zero) (by kernel_rfl) (by kernel_rfl) (by kernel_rfl) (fun _ _ _ h => h) (Or.inl ⟨by kernel_rfl, fun wy hSw => ?_⟩) (by assumption) ?_
              · (try dsimp only at hSw); go_simp
              try simp only [Act.put, List.setIfInBounds_toArray, List.set_cons_zero, List.set_cons_succ]
              refine wpAnyH_take (i := 2) (v := (.int .i64 now)) (at_succ (at_succ at_zero)) (by kernel_rfl) (by kernel_rfl) (by kernel_rfl) (fun _ _ _ h => h) (Or.inl ⟨by kernel_rfl, fun wy hSw => ?_⟩) (by assumption) ?_
              · (try dsimp only at hSw); go_simp
              try simp only [Act.put, List.setIfInBounds_toArray, List.set_cons_zero, List.set_cons_succ]
              refine wpAnyH_ready (rs := [3]) (by kernel_rfl) (by simp) ?_
              refine AllReadyH.cons (at_succ (at_succ (at_succ at_zero))) (fun K hK => ?_) AllReadyH.nil
              rw [if_pos (by kernel_rfl)]
              go_simp
              refine KL.out.mono ?_
              rintro _ wx ⟨rfl, rfl⟩
              go_wp2_with fail
              refine hK.out _ _ T0 (fun hHeld => ?_)
              clear hK K
              try simp only [Act.put, List.setIfInBounds_toArray, List.set_cons_zero, List.set_cons_succ]
              refine wpAnyH_take (i := 4) (v := (.agg #[.int .i64 y0, .int .i64 y1, .int .i64 y2, .int .i64 y3, .int .i64 y4, .int .i64 y5, .int .i64 y6, .bool true, .string y8, .int .i64 (lim now)])) (at_succ (at_succ (at_succ (at_succ at_zero)))) (by kernel_rfl) (by kernel_rfl) (by kernel_rfl) (fun _ _ _ h => h) (Or.inl ⟨by kernel_rfl, fun wy hSw => ?_⟩) (by assumption) ?_
              · (try dsimp only at hSw); go_simp
              try simp only [Act.put, List.setIfInBounds_toArray, List.set_cons_zero, List.set_cons_succ]
              refine wpAnyH_ready (rs := [5]) (by kernel_rfl) (by simp) ?_
              refine AllReadyH.cons (at_succ (at_succ (at_succ (at_succ (at_succ at_zero))))) (fun K hK => ?_) AllReadyH.nil
              rw [if_pos (by kernel_rfl)]
              go_simp
              refine hK.out _ _ T1 (fun hHeld => ?_)
              clear hK K
              try simp only [Act.put, List.setIfInBounds_toArray, List.set_cons_zero, List.set_cons_succ]
              refine wpAnyH_ready (rs := [6]) (by kernel_rfl) (by simp) ?_
              refine AllReadyH.cons (at_succ (at_succ (at_succ (at_succ (at_succ (at_succ at_zero)))))) (fun K hK => ?_) AllReadyH.nil
              rw [if_pos (by kernel_rfl)]
              refine Lib.wp_append_run _ _ _ _ _ rfl _ _ rfl rfl _ _ hap2 ?_
              refine hK.out _ _ T4 (fun hHeld => ?_)
              clear hK K
              try simp only [Act.put, List.setIfInBounds_toArray, List.set_cons_zero, List.set_cons_succ]
              refine wpAnyH_take (i := 7) (v := (.slice A5 (a + 1) c5)) (at_succ (at_succ (at_succ (at_succ (at_succ (at_succ (at_succ at_zero))))))) (by kernel_rfl) (by kernel_rfl) (by kernel_rfl) (fun _ _ _ h => h) (Or.inl ⟨by kernel_rfl, fun wy hSw => ?_⟩) (by assumption) ?_
              · (try dsimp only at hSw); go_simp
              try simp only [Act.put, List.setIfInBounds_toArray, List.set_cons_zero, List.set_cons_succ]
              refine wpAnyH_done (by kernel_rfl) ?_ _
              go_wp2_with (first | (at_builtin; refine Lib.wpList_append_run _ rfl _ _ _ _ rfl _ _ rfl rfl _ _ hap3 ?_) | (refine wpList_slice_run _ rfl _ _ _ _ rfl _ _ _ _ rfl rfl rfl (SL2.out _) ?_) | fail)
              rw [R.out]
              go_ret2
              exact ⟨_, rfl, O6.out, B6.out⟩
            | succ n =>
              have hlt : n < M.length := by omega
              obtain ⟨bb, p, rfl, _, hc, _⟩ := ml_cell M2.out n hlt
              have g7 := hc.2.2.2.2.2.2.2.1
              have Y := Lib.hid (HY.out n hlt)
              have N := Lib.hid (HN.out n hlt)
              clear hc HY HN hap1 hap2 hap3
              obtain ⟨u, hu⟩ : ∃ u, M[n].1.u = u := ⟨_, rfl⟩
              rw [hu] at g7 Y N
              clear hu
              have q0 : (n : Int) < (M.length : Int) := by omega
              have q1 : (0 : Int) ≤ (n : Int) := by omega
              have q2 : ((n + 1 : Nat) : Int) - 1 = (n : Int) := by omega
              rw [q2]
              cases u with
              | false =>
                have E := Lib.hid (Y.out rfl)
                clear Y N
                go_wp2_with fail
                go_round
                case rel => exact ⟨n, by omega, rfl, by rw [E.out]⟩
                case measure => simp [intOf]
              | true =>
                have E := Lib.hid (N.out rfl)
                clear Y N
                go_wp2_with fail
                go_round
                case rel => exact ⟨n, by omega, rfl, by rw [E.out]⟩
                case measure => simp [intOf]
    · have t16 : ((m.length : Int) == 16) = false := by simp; omega
      have O2 := Lib.hid O1.out
      have X2 := Lib.hid X1.out
      have B2 := Lib.hid B1.out
      have M2 := Lib.hid HM.out
      have LM2 : m.length ≤ 15 := by omega
      cases y7 with
      | false =>
        have R := Lib.hid ((PR.out h16).trans (by rw [ins_plain rfl]))
        clear PF PR PO LI LG LR O1 X1 B1 HM h16
        have HB : m.length ≤ m.length := Nat.le_refl _
        have e7 : w1.cell? ⟨w.heap.size, 7, none⟩ = some (.bool false) := (fm_block X2.out).2.2.2.2.2.2.2.1
        obtain ⟨A4, sl1, sl2, F1, F2⟩ := cut_ml O2.out (m.length) HB
        have SL1 := Lib.hid sl1
        have SL2 := Lib.hid sl2
        have G2 := Lib.hid F2
        have hz2 := B2.out.size
        have hx2 := blk_lt X2.out
        have E0 : OwnM (w1.alloc (.cells #[] 39)) w1.heap.size (.slice (some ⟨w1.heap.size, 0, none⟩) 0 0) [] := OwnF.lit w1 w1.heap.size [] #[] (Nat.le_refl _) (by unfold maxLen; simp) rfl (fun x hx => by cases hx)
        have el : (m.take (m.length)).length = m.length := by rw [List.length_take]; omega
        obtain ⟨v3, w3, hap1, ho3, hb3, _⟩ := E0.app eMl (c := c1) 22 (F1.next (alloc_below w1 (.cells #[] 39))) (by rw [el]; simp; omega) (by simp)
        rw [el] at hap1
        have hb3 := ((alloc_below w1 (.cells #[] 39)).trans hb3)
        obtain ⟨A3, c3, e3, _⟩ := ho3.form
        have e3l : ([] ++ m.take (m.length)).length = m.length := el
        rw [e3l] at e3
        subst e3
        have X3 := Lib.hid (show w3.heap[w.heap.size]? = some (bxF ⟨y0, y1, y2, y3, y4, y5, y6, false, y8⟩) from (hb3.block w.heap.size hx2).trans X2.out)
        have B3 := Lib.hid (B2.out.trans (hb3.mono hz2))
        have D3 := below_drewN (Below.refl w3.heap.size w3) 1
        obtain ⟨v4, w4, hap2, ho4, hb4⟩ := app_mail (ho3.drew 1) (⟨y0, y1, y2, y3, y4, y5, y6, false, y8⟩, lim now) ⟨HF.out, lim_i64 now⟩ (by rw [e3l]; omega) hb3.size
        have hb4 := hb3.trans ((below_drewN (Below.refl w1.heap.size w3) 1).trans hb4)
        obtain ⟨A5, c5, e5, _⟩ := ho4.form
        have e5l : ([] ++ m.take (m.length) ++ [((⟨y0, y1, y2, y3, y4, y5, y6, false, y8⟩ : Fm), lim now)]).length = m.length + 1 := by rw [List.length_append, e3l]; rfl
        rw [e5l] at e5
        subst e5
        have X4 : w4.heap[w.heap.size]? = some (bxF ⟨y0, y1, y2, y3, y4, y5, y6, false, y8⟩) := (hb4.block w.heap.size hx2).trans X2.out
        have dl : (m.drop (m.length)).length = m.length - m.length := List.length_drop
        obtain ⟨v6, w6, hap3, ho6, hb6, _⟩ := ho4.app eMl (c := c1 - m.length) 22 ((G2.out.below hb4).mono hb4.size) (by rw [e5l, dl]; omega) hb4.size
        rw [dl] at hap3
        have B6 := Lib.hid (B2.out.trans ((hb4.trans hb6).mono hz2))
        have O6 := Lib.hid (show OwnM w6 w.heap.size v6 (m.take (m.length) ++ [((⟨y0, y1, y2, y3, y4, y5, y6, false, y8⟩ : Fm), lim now)] ++ m.drop (m.length)) from by have := ho6.down hz2; simpa using this)
        have S0 : FmC w3.drew w.heap.size 0 ⟨y0, y1, y2, y3, y4, y5, y6, false, y8⟩ := fm_block (w := w3.drew) X3.out
        have S1 : FmC (w3.drew.alloc (bxM (⟨y0, y1, y2, y3, y4, y5, y6, false, y8⟩, lim now))) w.heap.size 0 ⟨y0, y1, y2, y3, y4, y5, y6, false, y8⟩ := fm_block (blk_alloc (w := w3.drew) X3.out _)
        have S4 : FmC w4 w.heap.size 0 ⟨y0, y1, y2, y3, y4, y5, y6, false, y8⟩ := fm_block X4
        have T0 : w3.drew.cell? ⟨w.heap.size, 0, none⟩ = some (.int .i64 y0) ∧ w3.drew.cell? ⟨w.heap.size, 1, none⟩ = some (.int .i64 y1) ∧ w3.drew.cell? ⟨w.heap.size, 2, none⟩ = some (.int .i64 y2) ∧ w3.drew.cell? ⟨w.heap.size, 3, none⟩ = some (.int .i64 y3) ∧ w3.drew.cell? ⟨w.heap.size, 4, none⟩ = some (.int .i64 y4) ∧ w3.drew.cell? ⟨w.heap.size, 5, none⟩ = some (.int .i64 y5) ∧ w3.drew.cell? ⟨w.heap.size, 6, none⟩ = some (.int .i64 y6) ∧ w3.drew.cell? ⟨w.heap.size, 7, none⟩ = some (.bool false) ∧ w3.drew.cell? ⟨w.heap.size, 8, none⟩ = some (.string y8) := S0
        have T1 : (w3.drew.alloc (bxM (⟨y0, y1, y2, y3, y4, y5, y6, false, y8⟩, lim now))).cell? ⟨w.heap.size, 0, none⟩ = some (.int .i64 y0) ∧ (w3.drew.alloc (bxM (⟨y0, y1, y2, y3, y4, y5, y6, false, y8⟩, lim now))).cell? ⟨w.heap.size, 1, none⟩ = some (.int .i64 y1) ∧ (w3.drew.alloc (bxM (⟨y0, y1, y2, y3, y4, y5, y6, false, y8⟩, lim now))).cell? ⟨w.heap.size, 2, none⟩ = some (.int .i64 y2) ∧ (w3.drew.alloc (bxM (⟨y0, y1, y2, y3, y4, y5, y6, false, y8⟩, lim now))).cell? ⟨w.heap.size, 3, none⟩ = some (.int .i64 y3) ∧ (w3.drew.alloc (bxM (⟨y0, y1, y2, y3, y4, y5, y6, false, y8⟩, lim now))).cell? ⟨w.heap.size, 4, none⟩ = some (.int .i64 y4) ∧ (w3.drew.alloc (bxM (⟨y0, y1, y2, y3, y4, y5, y6, false, y8⟩, lim now))).cell? ⟨w.heap.size, 5, none⟩ = some (.int .i64 y5) ∧ (w3.drew.alloc (bxM (⟨y0, y1, y2, y3, y4, y5, y6, false, y8⟩, lim now))).cell? ⟨w.heap.size, 6, none⟩ = some (.int .i64 y6) ∧ (w3.drew.alloc (bxM (⟨y0, y1, y2, y3, y4, y5, y6, false, y8⟩, lim now))).cell? ⟨w.heap.size, 7, none⟩ = some (.bool false) ∧ (w3.drew.alloc (bxM (⟨y0, y1, y2, y3, y4, y5, y6, false, y8⟩, lim now))).cell? ⟨w.heap.size, 8, none⟩ = some (.string y8) := S1
        have T4 : w4.cell? ⟨w.heap.size, 0, none⟩ = some (.int .i64 y0) ∧ w4.cell? ⟨w.heap.size, 1, none⟩ = some (.int .i64 y1) ∧ w4.cell? ⟨w.heap.size, 2, none⟩ = some (.int .i64 y2) ∧ w4.cell? ⟨w.heap.size, 3, none⟩ = some (.int .i64 y3) ∧ w4.cell? ⟨w.heap.size, 4, none⟩ = some (.int .i64 y4) ∧ w4.cell? ⟨w.heap.size, 5, none⟩ = some (.int .i64 y5) ∧ w4.cell? ⟨w.heap.size, 6, none⟩ = some (.int .i64 y6) ∧ w4.cell? ⟨w.heap.size, 7, none⟩ = some (.bool false) ∧ w4.cell? ⟨w.heap.size, 8, none⟩ = some (.string y8) := S4
        clear S0 S1 S4
        have KL := Lib.hid (rlimit_any now w3.drew)
        clear ho3 hb3 ho4 hb4 ho6 hb6 E0 el e3l e5l dl X4 D3 F1 F2 sl1 sl2 hx2
        go_wp2_with fail
        go_loop [11, 12] (fun va vi => va = .int .i64 (m.length : Int) ∧ vi = .int .i64 ((m.length : Int) - 1)) (fun _ _ => 0)
        case atStart => exact ⟨rfl, rfl⟩
        case round =>
          obtain ⟨rfl, rfl⟩ := hrel
          by_cases h0 : m.length < 1
          · have q0 : (m.length : Int) < 1 := by omega
            go_wp2_with (first | (at_builtin; refine Lib.wpList_append_run _ rfl _ _ _ _ rfl _ _ rfl rfl _ _ hap1 ?_) | (refine wpList_slice_run _ rfl _ _ _ _ rfl _ _ _ _ rfl rfl rfl (SL1.out _) ?_) | fail)
            refine wp_region_held_drew (S := (fun wy : World => wy.cell? ⟨w.heap.size, 0, none⟩ = some (.int .i64 y0) ∧ wy.cell? ⟨w.heap.size, 1, none⟩ = some (.int .i64 y1) ∧ wy.cell? ⟨w.heap.size, 2, none⟩ = some (.int .i64 y2) ∧ wy.cell? ⟨w.heap.size, 3, none⟩ = some (.int .i64 y3) ∧ wy.cell? ⟨w.heap.size, 4, none⟩ = some (.int .i64 y4) ∧ wy.cell? ⟨w.heap.size, 5, none⟩ = some (.int .i64 y5) ∧ wy.cell? ⟨w.heap.size, 6, none⟩ = some (.int .i64 y6) ∧ wy.cell? ⟨w.heap.size, 7, none⟩ = some (.bool false) ∧ wy.cell? ⟨w.heap.size, 8, none⟩ = some (.string y8))) (by kernel_rfl) T0 (fun hHeld => ?_)
            refine wpAnyH_take (i := 0) (v := (.slice A3 (m.length) c3)) at_zero (by kernel_rfl) (by kernel_rfl) (by kernel_rfl) (fun _ _ _ h => h) (Or.inl ⟨by kernel_rfl, fun wy hSw => ?_⟩) (by assumption) ?_
            · (try dsimp only at hSw); go_simp
            try simp only [Act.put, List.setIfInBounds_toArray, List.set_cons_zero, List.set_cons_succ]
            refine wpAnyH_take (i := 1) (v := (.agg #[.int .i64 y0, .int .i64 y1, .int .i64 y2, .int .i64 y3, .int .i64 y4, .int .i64 y5, .int .i64 y6, .bool false, .string y8])) (at_succ at_zero) (by kernel_rfl) (by kernel_rfl) (by kernel_rfl) (fun _ _ _ h => h) (Or.inl ⟨by kernel_rfl, fun wy hSw => ?_⟩) (by assumption) ?_
            · (try dsimp only at hSw); go_simp
            try simp only [Act.put, List.setIfInBounds_toArray, List.set_cons_zero, List.set_cons_succ]
            refine wpAnyH_take (i := 2) (v := (.int .i64 now)) (at_succ (at_succ at_zero)) (by kernel_rfl) (by kernel_rfl) (by kernel_rfl) (fun _ _ _ h => h) (Or.inl ⟨by kernel_rfl, fun wy hSw => ?_⟩) (by assumption) ?_
            · (try dsimp only at hSw); go_simp
            try simp only [Act.put, List.setIfInBounds_toArray, List.set_cons_zero, List.set_cons_succ]
            refine wpAnyH_ready (rs := [3]) (by kernel_rfl) (by simp) ?_
            refine AllReadyH.cons (at_succ (at_succ (at_succ at_zero))) (fun K hK => ?_) AllReadyH.nil
            rw [if_pos (by kernel_rfl)]
            go_simp
            refine KL.out.mono ?_
            rintro _ wx ⟨rfl, rfl⟩
            go_wp2_with fail
            refine hK.out _ _ T0 (fun hHeld => ?_)
            clear hK K
            try simp only [Act.put, List.setIfInBounds_toArray, List.set_cons_zero, List.set_cons_succ]
            refine wpAnyH_take (i := 4) (v := (.agg #[.int .i64 y0, .int .i64 y1, .int .i64 y2, .int .i64 y3, .int .i64 y4, .int .i64 y5, .int .i64 y6, .bool false, .string y8, .int .i64 (lim now)])) (at_succ (at_succ (at_succ (at_succ at_zero)))) (by kernel_rfl) (by kernel_rfl) (by kernel_rfl) (fun _ _ _ h => h) (Or.inl ⟨by kernel_rfl, fun wy hSw => ?_⟩) (by assumption) ?_
            · (try dsimp only at hSw); go_simp
            try simp only [Act.put, List.setIfInBounds_toArray, List.set_cons_zero, List.set_cons_succ]
            refine wpAnyH_ready (rs := [5]) (by kernel_rfl) (by simp) ?_
            refine AllReadyH.cons (at_succ (at_succ (at_succ (at_succ (at_succ at_zero))))) (fun K hK => ?_) AllReadyH.nil
            rw [if_pos (by kernel_rfl)]
            go_simp
            refine hK.out _ _ T1 (fun hHeld => ?_)
            clear hK K
            try simp only [Act.put, List.setIfInBounds_toArray, List.set_cons_zero, List.set_cons_succ]
            refine wpAnyH_ready (rs := [6]) (by kernel_rfl) (by simp) ?_
            refine AllReadyH.cons (at_succ (at_succ (at_succ (at_succ (at_succ (at_succ at_zero)))))) (fun K hK => ?_) AllReadyH.nil
            rw [if_pos (by kernel_rfl)]
            refine Lib.wp_append_run _ _ _ _ _ rfl _ _ rfl rfl _ _ hap2 ?_
            refine hK.out _ _ T4 (fun hHeld => ?_)
            clear hK K
            try simp only [Act.put, List.setIfInBounds_toArray, List.set_cons_zero, List.set_cons_succ]
            refine wpAnyH_take (i := 7) (v := (.slice A5 (m.length + 1) c5)) (at_succ (at_succ (at_succ (at_succ (at_succ (at_succ (at_succ at_zero))))))) (by kernel_rfl) (by kernel_rfl) (by kernel_rfl) (fun _ _ _ h => h) (Or.inl ⟨by kernel_rfl, fun wy hSw => ?_⟩) (by assumption) ?_
            · (try dsimp only at hSw); go_simp
            try simp only [Act.put, List.setIfInBounds_toArray, List.set_cons_zero, List.set_cons_succ]
            refine wpAnyH_done (by kernel_rfl) ?_ _
            go_wp2_with (first | (at_builtin; refine Lib.wpList_append_run _ rfl _ _ _ _ rfl _ _ rfl rfl _ _ hap3 ?_) | (refine wpList_slice_run _ rfl _ _ _ _ rfl _ _ _ _ rfl rfl rfl (SL2.out _) ?_) | fail)
            rw [R.out]
            go_ret2
            exact ⟨_, rfl, O6.out, B6.out⟩
          · have q0 : ¬ (m.length : Int) < 1 := by omega
            have q1 : (0 : Int) ≤ (m.length : Int) - 1 := by omega
            go_wp2_with (first | (at_builtin; refine Lib.wpList_append_run _ rfl _ _ _ _ rfl _ _ rfl rfl _ _ hap1 ?_) | (refine wpList_slice_run _ rfl _ _ _ _ rfl _ _ _ _ rfl rfl rfl (SL1.out _) ?_) | fail)
            refine wp_region_held_drew (S := (fun wy : World => wy.cell? ⟨w.heap.size, 0, none⟩ = some (.int .i64 y0) ∧ wy.cell? ⟨w.heap.size, 1, none⟩ = some (.int .i64 y1) ∧ wy.cell? ⟨w.heap.size, 2, none⟩ = some (.int .i64 y2) ∧ wy.cell? ⟨w.heap.size, 3, none⟩ = some (.int .i64 y3) ∧ wy.cell? ⟨w.heap.size, 4, none⟩ = some (.int .i64 y4) ∧ wy.cell? ⟨w.heap.size, 5, none⟩ = some (.int .i64 y5) ∧ wy.cell? ⟨w.heap.size, 6, none⟩ = some (.int .i64 y6) ∧ wy.cell? ⟨w.heap.size, 7, none⟩ = some (.bool false) ∧ wy.cell? ⟨w.heap.size, 8, none⟩ = some (.string y8))) (by kernel_rfl) T0 (fun hHeld => ?_)
            refine wpAnyH_take (i := 0) (v := (.slice A3 (m.length) c3)) at_zero (by kernel_rfl) (by kernel_rfl) (by kernel_rfl) (fun _ _ _ h => h) (Or.inl ⟨by kernel_rfl, fun wy hSw => ?_⟩) (by assumption) ?_
            · (try dsimp only at hSw); go_simp
            try simp only [Act.put, List.setIfInBounds_toArray, List.set_cons_zero, List.set_cons_succ]
            refine wpAnyH_take (i := 1) (v := (.agg #[.int .i64 y0, .int .i64 y1, .int .i64 y2, .int .i64 y3, .int .i64 y4, .int .i64 y5, .int .i64 y6, .bool false, .string y8])) (at_succ at_zero) (by kernel_rfl) (by kernel_rfl) (by kernel_rfl) (fun _ _ _ h => h) (Or.inl ⟨by kernel_rfl, fun wy hSw => ?_⟩) (by assumption) ?_
            · (try dsimp only at hSw); go_simp
            try simp only [Act.put, List.setIfInBounds_toArray, List.set_cons_zero, List.set_cons_succ]
            refine wpAnyH_take (i := 2) (v := (.int .i64 now)) (at_succ (at_succ at_zero)) (by kernel_rfl) (by kernel_rfl) (by kernel_rfl) (fun _ _ _ h => h) (Or.inl ⟨by kernel_rfl, fun wy hSw => ?_⟩) (by assumption) ?_
            · (try dsimp only at hSw); go_simp
            try simp only [Act.put, List.setIfInBounds_toArray, List.set_cons_zero, List.set_cons_succ]
            refine wpAnyH_ready (rs := [3]) (by kernel_rfl) (by simp) ?_
            refine AllReadyH.cons (at_succ (at_succ (at_succ at_zero))) (fun K hK => ?_) AllReadyH.nil
            rw [if_pos (by kernel_rfl)]
            go_simp
            refine KL.out.mono ?_
            rintro _ wx ⟨rfl, rfl⟩
            go_wp2_with fail
            refine hK.out _ _ T0 (fun hHeld => ?_)
            clear hK K
            try simp only [Act.put, List.setIfInBounds_toArray, List.set_cons_zero, List.set_cons_succ]
            refine wpAnyH_take (i := 4) (v := (.agg #[.int .i64 y0, .int .i64 y1, .int .i64 y2, .int .i64 y3, .int .i64 y4, .int .i64 y5, .int .i64 y6, .bool false, .string y8, .int .i64 (lim now)])) (at_succ (at_succ (at_succ (at_succ at_zero)))) (by kernel_rfl) (by kernel_rfl) (by kernel_rfl) (fun _ _ _ h => h) (Or.inl ⟨by kernel_rfl, fun wy hSw => ?_⟩) (by assumption) ?_
            · (try dsimp only at hSw); go_simp
            try simp only [Act.put, List.setIfInBounds_toArray, List.set_cons_zero, List.set_cons_succ]
            refine wpAnyH_ready (rs := [5]) (by kernel_rfl) (by simp) ?_
            refine AllReadyH.cons (at_succ (at_succ (at_succ (at_succ (at_succ at_zero))))) (fun K hK => ?_) AllReadyH.nil
            rw [if_pos (by kernel_rfl)]
            go_simp
            refine hK.out _ _ T1 (fun hHeld => ?_)
            clear hK K
            try simp only [Act.put, List.setIfInBounds_toArray, List.set_cons_zero, List.set_cons_succ]
            refine wpAnyH_ready (rs := [6]) (by kernel_rfl) (by simp) ?_
            refine AllReadyH.cons (at_succ (at_succ (at_succ (at_succ (at_succ (at_succ at_zero)))))) (fun K hK => ?_) AllReadyH.nil
            rw [if_pos (by kernel_rfl)]
            refine Lib.wp_append_run _ _ _ _ _ rfl _ _ rfl rfl _ _ hap2 ?_
            refine hK.out _ _ T4 (fun hHeld => ?_)
            clear hK K
            try simp only [Act.put, List.setIfInBounds_toArray, List.set_cons_zero, List.set_cons_succ]
            refine wpAnyH_take (i := 7) (v := (.slice A5 (m.length + 1) c5)) (at_succ (at_succ (at_succ (at_succ (at_succ (at_succ (at_succ at_zero))))))) (by kernel_rfl) (by kernel_rfl) (by kernel_rfl) (fun _ _ _ h => h) (Or.inl ⟨by kernel_rfl, fun wy hSw => ?_⟩) (by assumption) ?_
            · (try dsimp only at hSw); go_simp
            try simp only [Act.put, List.setIfInBounds_toArray, List.set_cons_zero, List.set_cons_succ]
            refine wpAnyH_done (by kernel_rfl) ?_ _
            go_wp2_with (first | (at_builtin; refine Lib.wpList_append_run _ rfl _ _ _ _ rfl _ _ rfl rfl _ _ hap3 ?_) | (refine wpList_slice_run _ rfl _ _ _ _ rfl _ _ _ _ rfl rfl rfl (SL2.out _) ?_) | fail)
            rw [R.out]
            go_ret2
            exact ⟨_, rfl, O6.out, B6.out⟩
      | true =>
        have R := Lib.hid ((PR.out h16).trans (by rw [ins_urgent rfl]))
        clear PF PR PO LI LG LR O1 X1 B1 HM h16
        have HY := Lib.hid (fun (n : Nat) (h : n < m.length) (e : m[n].1.u = false) => (show atU m (m.length - n) = n from by rw [show m.length - n = (m.length - (n + 1)) + 1 by omega]; exact atU_yes m _ n h (by omega) e))
        have HN := Lib.hid (fun (n : Nat) (h : n < m.length) (e : m[n].1.u = true) => (show atU m (m.length - n) = atU m (m.length - (n + 1)) from by rw [show m.length - n = (m.length - (n + 1)) + 1 by omega]; exact atU_no m _ n h (by omega) e))
        have H0 := Lib.hid (show atU m (m.length - m.length) = m.length by rw [Nat.sub_self]; rfl)
        have HE := Lib.hid (show atU m m.length = atU m (m.length - 0) from rfl)
        have HB := (atU_ins (⟨y0, y1, y2, y3, y4, y5, y6, true, y8⟩, lim now) m).1
        rw [HE.out] at R HB
        obtain ⟨H, hH⟩ : ∃ H : Nat → Nat, ∀ n, atU m (m.length - n) = H n := ⟨fun n => atU m (m.length - n), fun _ => rfl⟩
        simp only [hH] at HY HN H0 R HB
        clear hH HE
        obtain ⟨a, ha⟩ : ∃ a, H 0 = a := ⟨_, rfl⟩
        have HA0 := Lib.hid ha
        rw [ha] at R HB
        clear ha
        have e7 : w1.cell? ⟨w.heap.size, 7, none⟩ = some (.bool true) := (fm_block X2.out).2.2.2.2.2.2.2.1
        obtain ⟨A4, sl1, sl2, F1, F2⟩ := cut_ml O2.out (a) HB
        have SL1 := Lib.hid sl1
        have SL2 := Lib.hid sl2
        have G2 := Lib.hid F2
        have hz2 := B2.out.size
        have hx2 := blk_lt X2.out
        have E0 : OwnM (w1.alloc (.cells #[] 39)) w1.heap.size (.slice (some ⟨w1.heap.size, 0, none⟩) 0 0) [] := OwnF.lit w1 w1.heap.size [] #[] (Nat.le_refl _) (by unfold maxLen; simp) rfl (fun x hx => by cases hx)
        have el : (m.take (a)).length = a := by rw [List.length_take]; omega
        obtain ⟨v3, w3, hap1, ho3, hb3, _⟩ := E0.app eMl (c := c1) 22 (F1.next (alloc_below w1 (.cells #[] 39))) (by rw [el]; simp; omega) (by simp)
        rw [el] at hap1
        have hb3 := ((alloc_below w1 (.cells #[] 39)).trans hb3)
        obtain ⟨A3, c3, e3, _⟩ := ho3.form
        have e3l : ([] ++ m.take (a)).length = a := el
        rw [e3l] at e3
        subst e3
        have X3 := Lib.hid (show w3.heap[w.heap.size]? = some (bxF ⟨y0, y1, y2, y3, y4, y5, y6, true, y8⟩) from (hb3.block w.heap.size hx2).trans X2.out)
        have B3 := Lib.hid (B2.out.trans (hb3.mono hz2))
        have D3 := below_drewN (Below.refl w3.heap.size w3) 1
        obtain ⟨v4, w4, hap2, ho4, hb4⟩ := app_mail (ho3.drew 1) (⟨y0, y1, y2, y3, y4, y5, y6, true, y8⟩, lim now) ⟨HF.out, lim_i64 now⟩ (by rw [e3l]; omega) hb3.size
        have hb4 := hb3.trans ((below_drewN (Below.refl w1.heap.size w3) 1).trans hb4)
        obtain ⟨A5, c5, e5, _⟩ := ho4.form
        have e5l : ([] ++ m.take (a) ++ [((⟨y0, y1, y2, y3, y4, y5, y6, true, y8⟩ : Fm), lim now)]).length = a + 1 := by rw [List.length_append, e3l]; rfl
        rw [e5l] at e5
        subst e5
        have X4 : w4.heap[w.heap.size]? = some (bxF ⟨y0, y1, y2, y3, y4, y5, y6, true, y8⟩) := (hb4.block w.heap.size hx2).trans X2.out
        have dl : (m.drop (a)).length = m.length - a := List.length_drop
        obtain ⟨v6, w6, hap3, ho6, hb6, _⟩ := ho4.app eMl (c := c1 - a) 22 ((G2.out.below hb4).mono hb4.size) (by rw [e5l, dl]; omega) hb4.size
        rw [dl] at hap3
        have B6 := Lib.hid (B2.out.trans ((hb4.trans hb6).mono hz2))
        have O6 := Lib.hid (show OwnM w6 w.heap.size v6 (m.take (a) ++ [((⟨y0, y1, y2, y3, y4, y5, y6, true, y8⟩ : Fm), lim now)] ++ m.drop (a)) from by have := ho6.down hz2; simpa using this)
        have S0 : FmC w3.drew w.heap.size 0 ⟨y0, y1, y2, y3, y4, y5, y6, true, y8⟩ := fm_block (w := w3.drew) X3.out
        have S1 : FmC (w3.drew.alloc (bxM (⟨y0, y1, y2, y3, y4, y5, y6, true, y8⟩, lim now))) w.heap.size 0 ⟨y0, y1, y2, y3, y4, y5, y6, true, y8⟩ := fm_block (blk_alloc (w := w3.drew) X3.out _)
        have S4 : FmC w4 w.heap.size 0 ⟨y0, y1, y2, y3, y4, y5, y6, true, y8⟩ := fm_block X4
        have T0 : w3.drew.cell? ⟨w.heap.size, 0, none⟩ = some (.int .i64 y0) ∧ w3.drew.cell? ⟨w.heap.size, 1, none⟩ = some (.int .i64 y1) ∧ w3.drew.cell? ⟨w.heap.size, 2, none⟩ = some (.int .i64 y2) ∧ w3.drew.cell? ⟨w.heap.size, 3, none⟩ = some (.int .i64 y3) ∧ w3.drew.cell? ⟨w.heap.size, 4, none⟩ = some (.int .i64 y4) ∧ w3.drew.cell? ⟨w.heap.size, 5, none⟩ = some (.int .i64 y5) ∧ w3.drew.cell? ⟨w.heap.size, 6, none⟩ = some (.int .i64 y6) ∧ w3.drew.cell? ⟨w.heap.size, 7, none⟩ = some (.bool true) ∧ w3.drew.cell? ⟨w.heap.size, 8, none⟩ = some (.string y8) := S0
        have T1 : (w3.drew.alloc (bxM (⟨y0, y1, y2, y3, y4, y5, y6, true, y8⟩, lim now))).cell? ⟨w.heap.size, 0, none⟩ = some (.int .i64 y0) ∧ (w3.drew.alloc (bxM (⟨y0, y1, y2, y3, y4, y5, y6, true, y8⟩, lim now))).cell? ⟨w.heap.size, 1, none⟩ = some (.int .i64 y1) ∧ (w3.drew.alloc (bxM (⟨y0, y1, y2, y3, y4, y5, y6, true, y8⟩, lim now))).cell? ⟨w.heap.size, 2, none⟩ = some (.int .i64 y2) ∧ (w3.drew.alloc (bxM (⟨y0, y1, y2, y3, y4, y5, y6, true, y8⟩, lim now))).cell? ⟨w.heap.size, 3, none⟩ = some (.int .i64 y3) ∧ (w3.drew.alloc (bxM (⟨y0, y1, y2, y3, y4, y5, y6, true, y8⟩, lim now))).cell? ⟨w.heap.size, 4, none⟩ = some (.int .i64 y4) ∧ (w3.drew.alloc (bxM (⟨y0, y1, y2, y3, y4, y5, y6, true, y8⟩, lim now))).cell? ⟨w.heap.size, 5, none⟩ = some (.int .i64 y5) ∧ (w3.drew.alloc (bxM (⟨y0, y1, y2, y3, y4, y5, y6, true, y8⟩, lim now))).cell? ⟨w.heap.size, 6, none⟩ = some (.int .i64 y6) ∧ (w3.drew.alloc (bxM (⟨y0, y1, y2, y3, y4, y5, y6, true, y8⟩, lim now))).cell? ⟨w.heap.size, 7, none⟩ = some (.bool true) ∧ (w3.drew.alloc (bxM (⟨y0, y1, y2, y3, y4, y5, y6, true, y8⟩, lim now))).cell? ⟨w.heap.size, 8, none⟩ = some (.string y8) := S1
        have T4 : w4.cell? ⟨w.heap.size, 0, none⟩ = some (.int .i64 y0) ∧ w4.cell? ⟨w.heap.size, 1, none⟩ = some (.int .i64 y1) ∧ w4.cell? ⟨w.heap.size, 2, none⟩ = some (.int .i64 y2) ∧ w4.cell? ⟨w.heap.size, 3, none⟩ = some (.int .i64 y3) ∧ w4.cell? ⟨w.heap.size, 4, none⟩ = some (.int .i64 y4) ∧ w4.cell? ⟨w.heap.size, 5, none⟩ = some (.int .i64 y5) ∧ w4.cell? ⟨w.heap.size, 6, none⟩ = some (.int .i64 y6) ∧ w4.cell? ⟨w.heap.size, 7, none⟩ = some (.bool true) ∧ w4.cell? ⟨w.heap.size, 8, none⟩ = some (.string y8) := S4
        clear S0 S1 S4
        have KL := Lib.hid (rlimit_any now w3.drew)
        clear ho3 hb3 ho4 hb4 ho6 hb6 E0 el e3l e5l dl X4 D3 F1 F2 sl1 sl2 hx2
        go_wp2_with fail
        go_loop [11, 12] (fun va vi => ∃ n : Nat, n ≤ m.length ∧ vi = .int .i64 ((n : Int) - 1) ∧ va = .int .i64 (H n)) (fun _ vi => (intOf vi + 1).toNat)
        case atStart => exact ⟨m.length, Nat.le_refl _, rfl, by rw [H0.out]⟩
        case round =>
          obtain ⟨n, hn, rfl, rfl⟩ := hrel
          cases n with
          | zero =>
            rw [HA0.out]
            clear HY HN H0 HA0
            go_wp2_with (first | (at_builtin; refine Lib.wpList_append_run _ rfl _ _ _ _ rfl _ _ rfl rfl _ _ hap1 ?_) | (refine wpList_slice_run _ rfl _ _ _ _ rfl _ _ _ _ rfl rfl rfl (SL1.out _) ?_) | fail)
            refine wp_region_held_drew (S := (fun wy : World => wy.cell? ⟨w.heap.size, 0, none⟩ = some (.int .i64 y0) ∧ wy.cell? ⟨w.heap.size, 1, none⟩ = some (.int .i64 y1) ∧ wy.cell? ⟨w.heap.size, 2, none⟩ = some (.int .i64 y2) ∧ wy.cell? ⟨w.heap.size, 3, none⟩ = some (.int .i64 y3) ∧ wy.cell? ⟨w.heap.size, 4, none⟩ = some (.int .i64 y4) ∧ wy.cell? ⟨w.heap.size, 5, none⟩ = some (.int .i64 y5) ∧ wy.cell? ⟨w.heap.size, 6, none⟩ = some (.int .i64 y6) ∧ wy.cell? ⟨w.heap.size, 7, none⟩ = some (.bool true) ∧ wy.cell? ⟨w.heap.size, 8, none⟩ = some (.string y8))) (by kernel_rfl) T0 (fun hHeld => ?_)
            refine wpAnyH_take (i := 0) (v := (.slice A3 (a) c3)) at_zero (by kernel_rfl) (by kernel_rfl) (by kernel_rfl) (fun _ _ _ h => h) (Or.inl ⟨by kernel_rfl, fun wy hSw => ?_⟩) (by assumption) ?_
            · (try dsimp only at hSw); go_simp
            try simp only [Act.put, List.setIfInBounds_toArray, List.set_cons_zero, List.set_cons_succ]
            refine wpAnyH_take (i := 1) (v := (.agg #[.int .i64 y0, .int .i64 y1, .int .i64 y2, .int .i64 y3, .int .i64 y4, .int .i64 y5, .int .i64 y6, .bool true, .string y8])) (at_succ at_zero) (by kernel_rfl) (by kernel_rfl) (by kernel_rfl) (fun _ _ _ h => h) (Or.inl ⟨by kernel_rfl, fun wy hSw => ?_⟩) (by assumption) ?_
            · (try dsimp only at hSw); go_simp
            try simp only [Act.put, List.setIfInBounds_toArray, List.set_cons_zero, List.set_cons_succ]
            refine wpAnyH_take (i := 2) (v := (.int .i64 now)) (at_succ (at_succ at_zero)) (by kernel_rfl) (by kernel_rfl) (by kernel_rfl) (fun _ _ _ h => h) (Or.inl ⟨by kernel_rfl, fun wy hSw => ?_⟩) (by assumption) ?_
            · (try dsimp only at hSw); go_simp
            try simp only [Act.put, List.setIfInBounds_toArray, List.set_cons_zero, List.set_cons_succ]
            refine wpAnyH_ready (rs := [3]) (by kernel_rfl) (by simp) ?_
            refine AllReadyH.cons (at_succ (at_succ (at_succ at_zero))) (fun K hK => ?_) AllReadyH.nil
            rw [if_pos (by kernel_rfl)]
            go_simp
            refine KL.out.mono ?_
            rintro _ wx ⟨rfl, rfl⟩
            go_wp2_with fail
            refine hK.out _ _ T0 (fun hHeld => ?_)
            clear hK K
            try simp only [Act.put, List.setIfInBounds_toArray, List.set_cons_zero, List.set_cons_succ]
            refine wpAnyH_take (i := 4) (v := (.agg #[.int .i64 y0, .int .i64 y1, .int .i64 y2, .int .i64 y3, .int .i64 y4, .int .i64 y5, .int .i64 y6, .bool true, .string y8, .int .i64 (lim now)])) (at_succ (at_succ (at_succ (at_succ at_zero)))) (by kernel_rfl) (by kernel_rfl) (by kernel_rfl) (fun _ _ _ h => h) (Or.inl ⟨by kernel_rfl, fun wy hSw => ?_⟩) (by assumption) ?_
            · (try dsimp only at hSw); go_simp
            try simp only [Act.put, List.setIfInBounds_toArray, List.set_cons_zero, List.set_cons_succ]
            refine wpAnyH_ready (rs := [5]) (by kernel_rfl) (by simp) ?_
            refine AllReadyH.cons (at_succ (at_succ (at_succ (at_succ (at_succ at_zero))))) (fun K hK => ?_) AllReadyH.nil
            rw [if_pos (by kernel_rfl)]
            go_simp
            refine hK.out _ _ T1 (fun hHeld => ?_)
            clear hK K
            try simp only [Act.put, List.setIfInBounds_toArray, List.set_cons_zero, List.set_cons_succ]
            refine wpAnyH_ready (rs := [6]) (by kernel_rfl) (by simp) ?_
            refine AllReadyH.cons (at_succ (at_succ (at_succ (at_succ (at_succ (at_succ at_zero)))))) (fun K hK => ?_) AllReadyH.nil
            rw [if_pos (by kernel_rfl)]
            refine Lib.wp_append_run _ _ _ _ _ rfl _ _ rfl rfl _ _ hap2 ?_
            refine hK.out _ _ T4 (fun hHeld => ?_)
            clear hK K
            try simp only [Act.put, List.setIfInBounds_toArray, List.set_cons_zero, List.set_cons_succ]
            refine wpAnyH_take (i := 7) (v := (.slice A5 (a + 1) c5)) (at_succ (at_succ (at_succ (at_succ (at_succ (at_succ (at_succ at_zero))))))) (by kernel_rfl) (by kernel_rfl) (by kernel_rfl) (fun _ _ _ h => h) (Or.inl ⟨by kernel_rfl, fun wy hSw => ?_⟩) (by assumption) ?_
            · (try dsimp only at hSw); go_simp
            try simp only [Act.put, List.setIfInBounds_toArray, List.set_cons_zero, List.set_cons_succ]
            refine wpAnyH_done (by kernel_rfl) ?_ _
            go_wp2_with (first | (at_builtin; refine Lib.wpList_append_run _ rfl _ _ _ _ rfl _ _ rfl rfl _ _ hap3 ?_) | (refine wpList_slice_run _ rfl _ _ _ _ rfl _ _ _ _ rfl rfl rfl (SL2.out _) ?_) | fail)
            rw [R.out]
            go_ret2
            exact ⟨_, rfl, O6.out, B6.out⟩
          | succ n =>
            have hlt : n < m.length := by omega
            obtain ⟨bb, p, rfl, _, hc, _⟩ := ml_cell M2.out n hlt
            have g7 := hc.2.2.2.2.2.2.2.1
            have Y := Lib.hid (HY.out n hlt)
            have N := Lib.hid (HN.out n hlt)
            clear hc HY HN hap1 hap2 hap3
            obtain ⟨u, hu⟩ : ∃ u, m[n].1.u = u := ⟨_, rfl⟩
            rw [hu] at g7 Y N
            clear hu
            have q0 : (n : Int) < (m.length : Int) := by omega
            have q1 : (0 : Int) ≤ (n : Int) := by omega
            have q2 : ((n + 1 : Nat) : Int) - 1 = (n : Int) := by omega
            rw [q2]
            cases u with
            | false =>
              have E := Lib.hid (Y.out rfl)
              clear Y N
              go_wp2_with fail
              go_round
              case rel => exact ⟨n, by omega, rfl, by rw [E.out]⟩
              case measure => simp [intOf]
            | true =>
              have E := Lib.hid (N.out rfl)
              clear Y N
              go_wp2_with fail
              go_round
              case rel => exact ⟨n, by omega, rfl, by rw [E.out]⟩
              case measure => simp [intOf]
end Go.Proofs.Ytlfegjhhkeceiaa.Mbx
