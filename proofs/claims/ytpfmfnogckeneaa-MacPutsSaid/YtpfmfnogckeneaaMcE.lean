/- The reference's Put. -/
import Derived.Test.YtpfmfnogckeneaaMcR
import Derived.Deep.DeepCutAuto
import Derived.Deep.CutRange
set_option linter.unusedVariables false
namespace Go.Proofs.Ytpfmfnogckeneaa.Mcq
open Go.RowKit
open Mbx (Fm zf fmC fmV FOk fF)

theorem fl_take {α : Type} {F : Flat α} {w : World} {B : Nat} {A : Option Addr} {l : List α} (h : FlAt F w B A l) (k : Nat) : FlAt F w B A (l.take k) := fun i hi => by
  have hi' : i < l.length := by rw [List.length_take] at hi; omega
  obtain ⟨b, p, h1, h2, h3, h4⟩ := h i hi'
  have e : (l.take k)[i] = l[i] := List.getElem_take
  exact ⟨b, p, h1, h2, fun j u hu => h3 j u (by rw [← e]; exact hu), by rw [e]; exact h4⟩
theorem fl_drop {α : Type} {F : Flat α} {w : World} {B b p : Nat} {l : List α} (h : FlAt F w B (some ⟨b, p, none⟩) l) (k : Nat) : FlAt F w B (some ⟨b, p + k * F.sz, none⟩) (l.drop k) := fun i hi => by
  have hi' : k + i < l.length := by rw [List.length_drop] at hi; omega
  obtain ⟨b', p', h1, h2, h3, h4⟩ := h (k + i) hi'
  simp only [Option.some.injEq, Addr.mk.injEq, and_true] at h1
  obtain ⟨rfl, rfl⟩ := h1
  have e : (l.drop k)[i] = l[k + i] := List.getElem_drop
  refine ⟨b, p + k * F.sz, rfl, h2, fun j u hu => ?_, by rw [e]; exact h4⟩
  have := h3 j u (by rw [← e]; exact hu)
  rw [Nat.add_mul, ← Nat.add_assoc] at this
  exact this
/-- An operation 's[lo:hi]' whose run is known. -/
theorem wpList_slice_run {P : Program} (w : World) {ops : Array Oper} {rest : List Oper} {o : Oper} {a : Act} {Q : Exit → Act → World → Prop} (hg : o.guard = none) (x : Operand) (lo hi : Option Operand) (t : TypeId) (hop : o.op = Op.slice t x lo hi none)
    (vx v : Value) (vlo vhi : Option Value) (hx : a.eval x = vx) (hlo : lo.map a.eval = vlo) (hhi : hi.map a.eval = vhi) (hr : (Instr.sliceAt t vx vlo vhi none).run P w = .ok v w) (h : wpList P ops Q rest (a.put o.dst v) w) : wpList P ops Q (o :: rest) a w := by
  refine wpList_plain hg fun K hK => ?_
  unfold Oper.wp
  simp [execOp, hop, hx, hlo, hhi, hr, Result.andThen]
  exact hK _ _ h
/-- 'm[:a]' and 'm[a:]' of a row of the call's own. -/
theorem cut_sd {w : World} {B : Nat} {A : Option Addr} {c : Nat} {M : List Sd} (h : OwnS w B (.slice A M.length c) M) (a : Nat) (ha : a ≤ M.length) :
    ∃ A', (∀ W : World, (Instr.sliceAt 22 (.slice A M.length c) none (some (.int .i64 (a : Int))) none).run Try.prog W = .ok (.slice A a c) W) ∧ (∀ W : World, (Instr.sliceAt 22 (.slice A M.length c) (some (.int .i64 (a : Int))) none none).run Try.prog W = .ok (.slice A' (M.length - a) (c - a)) W) ∧
      FlAt fS w w.heap.size A (M.take a) ∧ FlAt fS w w.heap.size A' (M.drop a) := by
  obtain ⟨A', c', e, h1, h2, h3⟩ := h.read
  simp only [Value.slice.injEq] at e
  obtain ⟨rfl, _, rfl⟩ := e
  have ut : Try.prog.underlying 22 = some (.slice (Try.prog.elem 22)) := by kernel_rfl
  have sz : ∀ W : World, (sizeOf (Try.prog.elem 22)).run Try.prog W = .ok 11 W := fun W => by kernel_rfl
  have e1 : ∀ W : World, (Instr.sliceAt 22 (.slice A M.length c) none (some (.int .i64 (a : Int))) none).run Try.prog W = .ok (sliced A 0 a c 11) W := fun W => by
    rw [run_sliceAt_slice W _ _ _ _ _ ut, run_slice_h W _ A M.length c ut .i64 a (by omega) (by omega), sz]
    rfl
  have e2 : ∀ W : World, (Instr.sliceAt 22 (.slice A M.length c) (some (.int .i64 (a : Int))) none none).run Try.prog W = .ok (sliced A a M.length c 11) W := fun W => by
    rw [run_sliceAt_slice W _ _ _ _ _ ut, run_slice_l W _ A M.length c ut .i64 a (by omega) (by omega), sz]
    rfl
  cases A with
  | none =>
    obtain rfl := h1.none rfl
    refine ⟨none, fun W => (e1 W).trans ?_, fun W => (e2 W).trans ?_, by simpa using h1, by simpa using h1⟩
    · unfold sliced; simp
    · unfold sliced; simp
  | some ad =>
    by_cases hM : M = []
    · subst hM
      obtain rfl : a = 0 := by simpa using ha
      refine ⟨if c = 0 then some ad else some (ad.add 0), fun W => (e1 W).trans ?_, fun W => (e2 W).trans ?_, FlAt.nil _ _ _, FlAt.nil _ _ _⟩
      · unfold sliced
        have : ad.add 0 = ad := by unfold Addr.add; cases ad; rename_i s; cases s <;> simp
        simp [this]
      · unfold sliced; simp
    · obtain ⟨b, p, e3, _⟩ := h1 0 (List.length_pos_iff.2 hM)
      simp only [Option.some.injEq] at e3
      subst e3
      have hadd : ∀ j, (⟨b, p, none⟩ : Addr).add j = ⟨b, p + j, none⟩ := fun j => by unfold Addr.add; split <;> simp_all
      refine ⟨if c = a then some ⟨b, p, none⟩ else some ⟨b, p + a * 11, none⟩, fun W => (e1 W).trans ?_, fun W => (e2 W).trans ?_, fl_take h1 a, ?_⟩
      · unfold sliced
        simp [hadd]
      · unfold sliced
        simp [hadd]
      · by_cases hc : c = a
        · rw [if_pos hc, List.drop_of_length_le (by omega)]
          exact FlAt.nil _ _ _
        · rw [if_neg hc]
          exact fl_drop h1 a

abbrev bxF (x : Fm) : Obj := .cells #[.int .i64 x.k, .int .i64 x.f, .int .i64 x.t, .int .i64 x.s, .int .i64 x.g, .int .i64 x.q, .int .i64 x.h, .bool x.u, .string x.d] 24
/-- The first index from n on that is as p says, or the end. -/
def fsU {α : Type} (p : α → Bool) (m : List α) (n : Nat) : Nat := n + (m.drop n).findIdx p
theorem fsU_end {α : Type} (p : α → Bool) (m : List α) : fsU p m m.length = m.length := by unfold fsU; simp
theorem fsU_zero {α : Type} (p : α → Bool) (m : List α) : fsU p m 0 = m.findIdx p := by unfold fsU; simp
theorem fsU_yes {α : Type} (p : α → Bool) (m : List α) (n : Nat) (h : n < m.length) (e : p m[n] = true) : fsU p m n = n := by
  unfold fsU
  rw [List.drop_eq_getElem_cons h, List.findIdx_cons, e]
  rfl
theorem fsU_no {α : Type} (p : α → Bool) (m : List α) (n : Nat) (h : n < m.length) (e : p m[n] = false) : fsU p m n = fsU p m (n + 1) := by
  unfold fsU
  rw [List.drop_eq_getElem_cons h, List.findIdx_cons, e]
  simp only [cond_false]
  omega
theorem put_full {l : List Sd} {f : Fm} (h : Full (l.take 16) f) : put l f = (l.take 16, false) := if_pos h
theorem put_ins {l : List Sd} {f : Fm} (h : ¬ Full (l.take 16) f) : put l f = (ins (if (l.take 16).length = 16 then (l.take 16).eraseIdx (lst (l.take 16)).toNat else l.take 16) f, true) := if_neg h
theorem full_iff {m : List Sd} {f : Fm} : Full m f ↔ m.length = 16 ∧ (f.u = false ∨ lst m < 0) := Iff.rfl
theorem built_f (x0 x1 x2 x3 x4 x5 x6 : Int) (x7 : Bool) (x8 : ByteArray) : Try.prog.built 42 [(0, .agg #[.int .i64 x0, .int .i64 x1, .int .i64 x2, .int .i64 x3, .int .i64 x4, .int .i64 x5, .int .i64 x6, .bool x7, .string x8])] = some #[.int .i64 x0, .int .i64 x1, .int .i64 x2, .int .i64 x3, .int .i64 x4, .int .i64 x5, .int .i64 x6, .bool x7, .string x8, .int .i64 0, .int .i64 0] := by kernel_rfl
theorem bsl_f (x0 x1 x2 x3 x4 x5 x6 : Int) (x7 : Bool) (x8 : ByteArray) (w : World) : (Instr.buildSlice 22 1 #[(0, .agg #[.int .i64 x0, .int .i64 x1, .int .i64 x2, .int .i64 x3, .int .i64 x4, .int .i64 x5, .int .i64 x6, .bool x7, .string x8, .int .i64 0, .int .i64 0])]).run Try.prog w = .ok (.slice (some ⟨w.heap.size, 0, none⟩) 1 1) (w.alloc (bxS (⟨x0, x1, x2, x3, x4, x5, x6, x7, x8⟩, 0, 0))) := by
  go_simp
set_option maxRecDepth 100000 in
set_option maxHeartbeats 4000000 in
theorem rput_any (A : Option Addr) (c : Nat) (l : List Sd) (f : Fm) (w : World) (hl : l.length ≤ 9223372036854775807) (hf : FOk f) (hA : SdS w A c l) :
    Calls Try.prog 11 #[.slice A l.length c, fmV f] w (SbR w (put l f)) := by
  obtain ⟨y0, y1, y2, y3, y4, y5, y6, y7, y8⟩ := f
  have HF := Lib.hid hf
  have K0 := Lib.hid (rfirst_any A c l (w.alloc (bxF ⟨y0, y1, y2, y3, y4, y5, y6, y7, y8⟩)) hl (hA.1.next (alloc_below _ _)))
  have PF := Lib.hid (fun h => put_full (l := l) (f := ⟨y0, y1, y2, y3, y4, y5, y6, y7, y8⟩) h)
  have PI := Lib.hid (fun h => put_ins (l := l) (f := ⟨y0, y1, y2, y3, y4, y5, y6, y7, y8⟩) h)
  have LM := take_len l
  clear hA hf
  generalize put l ⟨y0, y1, y2, y3, y4, y5, y6, y7, y8⟩ = X at *
  generalize l.take 16 = m at *
  unfold OutS at K0
  go_enter Try.func11, Try.ntmps11
  go_wp2_with fail
  refine K0.out.mono ?_
  rintro _ w1 ⟨v, rfl, ho, hb⟩
  have X1 := Lib.hid (show w1.heap[w.heap.size]? = some (bxF ⟨y0, y1, y2, y3, y4, y5, y6, y7, y8⟩) from (hb.block w.heap.size (by simp)).trans (blk_new w _))
  have B1 := Lib.hid (box_below hb)
  have hz1 : w.heap.size + 1 ≤ w1.heap.size := by have := hb.size; simpa using this
  have O1 := Lib.hid (show OwnS w1 (w.heap.size + 1) v m by have h := ho; simp at h; exact h)
  obtain ⟨A1, c1, rfl, hs, _, _⟩ := O1.out.read
  have HM := Lib.hid hs
  have e7 : w1.cell? ⟨w.heap.size, 7, none⟩ = some (.bool y7) := blk_cell X1.out 7 rfl
  have LI := lsP_in rmv m m.length (Nat.le_refl _)
  have LY := Lib.hid (fun (k : Nat) (h : k < m.length) e => lsP_yes rmv m k h e)
  have LN := Lib.hid (fun (k : Nat) (h : k < m.length) e => lsP_no rmv m k h e)
  have L0 := Lib.hid (show lsP rmv m 0 = -1 from rfl)
  have LE : lst m = lsP rmv m m.length := rfl
  have FI := Lib.hid (show decide (Full m ⟨y0, y1, y2, y3, y4, y5, y6, y7, y8⟩) = (decide (m.length = 16) && (!y7 || decide (lst m < 0))) by
    unfold Full
    dsimp only
    by_cases a : m.length = 16 <;> by_cases b : lst m < 0 <;> cases y7 <;> simp [a, b])
  have FN := Lib.hid (show ¬ Full m ⟨y0, y1, y2, y3, y4, y5, y6, y7, y8⟩ → m.length = 16 → y7 = true ∧ ¬ lst m < 0 from fun h1 h2 => by
    cases y7 with
    | false => exact absurd ⟨h2, Or.inl rfl⟩ h1
    | true => exact ⟨rfl, fun q => h1 ⟨h2, Or.inr q⟩⟩)
  rw [← LE] at LI
  obtain ⟨J, hJ⟩ : ∃ J : Nat → Int, lsP rmv m = J := ⟨_, rfl⟩
  simp only [hJ] at LY LN L0 LE
  clear hb hs ho K0 hJ
  go_wp2_with fail
  go_loop [7, 8] (fun vj vk => ∃ k : Nat, vk = .int .i64 k ∧ k ≤ m.length ∧ vj = .int .i64 (J k)) (fun _ vk => m.length - (intOf vk).toNat)
  case atStart => exact ⟨0, rfl, Nat.zero_le _, by rw [L0.out]⟩
  case round =>
    obtain ⟨k, rfl, hk, rfl⟩ := hrel
    by_cases hlt : k < m.length
    · obtain ⟨bb, p, rfl, _, hc, _⟩ := sd_cell HM.out k hlt
      have g7 := hc.2.2.2.2.2.2.2.1
      have g9 := hc.2.2.2.2.2.2.2.2.2.1
      have Y := Lib.hid (fun e => LY.out k hlt e)
      have N := Lib.hid (fun e => LN.out k hlt e)
      have RV : rmv m[k] = (!m[k].1.u && decide (m[k].2.1 ≤ 0)) := rfl
      clear hc LY LN PF PI FI FN LE
      generalize rmv m[k] = rv at *
      generalize m[k].1.u = u at *
      generalize m[k].2.1 = z at *
      cases u with
      | true =>
        have R := Lib.hid (N.out (by rw [RV]; rfl))
        clear Y N RV
        go_wp2_with fail
        go_round
        case rel => exact ⟨k + 1, by go_num, hlt, by rw [R.out]⟩
        case measure => simp [intOf]; omega
      | false =>
        by_cases hz : z ≤ 0
        · have R := Lib.hid (Y.out (by rw [RV, dt hz]; rfl))
          have d1 := dt hz
          clear Y N RV hz
          go_wp2_with fail
          go_round
          case rel => exact ⟨k + 1, by go_num, hlt, by rw [R.out]⟩
          case measure => simp [intOf]; omega
        · have R := Lib.hid (N.out (by rw [RV, df hz]; rfl))
          have d1 := df hz
          clear Y N RV hz
          go_wp2_with fail
          go_round
          case rel => exact ⟨k + 1, by go_num, hlt, by rw [R.out]⟩
          case measure => simp [intOf]; omega
    have hk' : k = m.length := by omega
    have JE : J k = lst m := by rw [hk', LE]
    rw [JE]
    have d0 : ¬ k < m.length := hlt
    clear LY LN L0 hk' JE LE hk hlt
    generalize lst m = j at *
    obtain ⟨β, hβ⟩ : ∃ β, decide (Full m ⟨y0, y1, y2, y3, y4, y5, y6, y7, y8⟩) = β := ⟨_, rfl⟩
    have FI := Lib.hid (hβ.symm.trans FI.out)
    go_upto_region 8 with fail
    go_cut [47] (fun v wx => v = .bool β ∧ wx = w1)
    case first => as_aux_lemma =>
      clear PF PI FN hβ
      by_cases h16 : m.length = 16
      · have t16 : ((m.length : Int) == 16) = true := by rw [beq_iff_eq]; omega
        cases y7 with
        | false =>
          have e : β = true := by rw [FI.out, dt h16]; rfl
          subst e
          clear FI h16
          go_wp2_with fail
          go_meet
          case rel => exact ⟨rfl, rfl⟩
        | true =>
          by_cases hj : j < 0
          · have e : β = true := by rw [FI.out, dt h16, dt hj]; rfl
            have dj := dt hj
            subst e
            clear FI hj h16
            go_wp2_with fail
            go_meet
            case rel => exact ⟨rfl, rfl⟩
          · have e : β = false := by rw [FI.out, dt h16, df hj]; rfl
            have dj := df hj
            subst e
            clear FI hj h16
            go_wp2_with fail
            go_meet
            case rel => exact ⟨rfl, rfl⟩
      · have e : β = false := by rw [FI.out, df h16]; rfl
        have t16 : ((m.length : Int) == 16) = false := beq_false_of_ne (by omega)
        subst e
        clear FI
        go_wp2_with fail
        go_meet
        case rel => exact ⟨rfl, rfl⟩
    case rest => as_aux_lemma =>
    obtain ⟨rfl, hw⟩ := hcut
    subst hw
    clear FI
    cases β with
    | true =>
      have R := Lib.hid (PF.out (of_decide_eq_true hβ))
      have S1 := Lib.hid O1.out.slS
      clear PF PI FN hβ
      go_wp2_with fail
      rw [R.out]
      obtain ⟨A5, c5, e5, S5⟩ := S1.out
      simp only [Value.slice.injEq, true_and] at e5
      obtain ⟨rfl, rfl⟩ := e5
      go_ret2
      exact ⟨_, _, rfl, S5, B1.out⟩
    | false =>
      have NF : ¬ Full m ⟨y0, y1, y2, y3, y4, y5, y6, y7, y8⟩ := of_decide_eq_false hβ
      have R0 := Lib.hid (PI.out NF)
      have FN := Lib.hid (FN.out NF)
      obtain ⟨M, hM⟩ : ∃ M, (if m.length = 16 then m.eraseIdx j.toNat else m) = M := ⟨_, rfl⟩
      rw [hM] at R0
      have HM2 := Lib.hid hM
      have ML : M.length ≤ 16 := by rw [← hM]; split; exact Nat.le_trans (List.eraseIdx_sublist _ _).length_le LM; exact LM
      clear PF PI NF hβ hM
      go_upto_if 51 with fail
      go_cut [6] (fun v wx => ∃ A2 c2, v = .slice A2 M.length c2 ∧ Hid (OwnS wx (w.heap.size + 1) (.slice A2 M.length c2) M) ∧ Hid (wx.heap[w.heap.size]? = some (bxF ⟨y0, y1, y2, y3, y4, y5, y6, y7, y8⟩)) ∧ w.heap.size + 1 ≤ wx.heap.size ∧ Below w.heap.size w wx)
      case first => as_aux_lemma =>
        by_cases h16 : m.length = 16
        · obtain ⟨rfl, hj⟩ := FN.out h16
          have e : M = m.eraseIdx j.toNat := by rw [← HM2.out, if_pos h16]
          obtain ⟨i, rfl⟩ : ∃ i : Nat, j = i := ⟨j.toNat, by omega⟩
          have t16 : ((m.length : Int) == 16) = true := by rw [beq_iff_eq]; omega
          have KW := Lib.hid (rwithout_any A1 c1 m i wc (by omega) (by omega) HM.out)
          unfold OutS at KW
          rw [Int.toNat_natCast] at e
          rw [← e] at KW
          clear FN HM2 e R0 hj h16
          go_wp2_with fail
          refine KW.out.mono ?_
          rintro _ w2 ⟨v2, rfl, ho, hb⟩
          obtain ⟨A2, c2, rfl, _⟩ := ho.form
          have X2 := Lib.hid ((hb.block w.heap.size (by omega)).trans X1.out)
          have B2 := Lib.hid (B1.out.trans (hb.mono B1.out.size))
          have O2 := Lib.hid (ho.down hz1)
          have hz2 := Nat.le_trans hz1 hb.size
          clear hb ho KW
          go_wp2_with fail
          go_meet
          case rel => exact ⟨A2, c2, rfl, O2, X2, hz2, B2.out⟩
        · have e : M = m := by rw [← HM2.out, if_neg h16]
          have t16 : ((m.length : Int) == 16) = false := beq_false_of_ne (by omega)
          subst e
          clear FN HM2 R0
          go_wp2_with fail
          go_meet
          case rel => exact ⟨A1, c1, rfl, O1, X1, hz1, B1.out⟩
      case rest => as_aux_lemma =>
      obtain ⟨A2, c2, rfl, O2, X2, hz2, hb⟩ := hcut
      have B2 := Lib.hid hb
      clear hb FN HM2 O1 HM X1 B1 hz1 e7 LI LM
      obtain ⟨a, ha⟩ : ∃ a, plc M ⟨y0, y1, y2, y3, y4, y5, y6, y7, y8⟩ = a := ⟨_, rfl⟩
      have R := Lib.hid (show X = (M.take a ++ [((⟨y0, y1, y2, y3, y4, y5, y6, y7, y8⟩ : Fm), 0, 0)] ++ M.drop a, true) by rw [R0.out, ← ha]; rfl)
      have hal : a ≤ M.length := by rw [← ha]; exact plc_le M _
      have PL := Lib.hid (show (y7 = true → fsU ord M 0 = a) ∧ (y7 = false → M.length = a) from by
        rw [← ha]
        unfold plc
        dsimp only
        exact ⟨fun h => by rw [if_pos h, fsU_zero], fun h => by rw [if_neg (by rw [h]; decide)]⟩)
      clear R0 ha
      have HY := Lib.hid (fun (n : Nat) (h : n < M.length) (e : ord M[n] = true) => fsU_yes ord M n h e)
      have HN := Lib.hid (fun (n : Nat) (h : n < M.length) (e : ord M[n] = false) => fsU_no ord M n h e)
      have H0 := Lib.hid (fsU_end ord M)
      generalize fsU ord M = H at *
      obtain ⟨_, _, e0, hs2, _, _⟩ := O2.out.read
      simp only [Value.slice.injEq, true_and] at e0
      obtain ⟨rfl, rfl⟩ := e0
      have M2 := Lib.hid hs2
      obtain ⟨A4, sl1, sl2, F1, F2⟩ := cut_sd O2.out a hal
      have SL1 := Lib.hid sl1
      have SL2 := Lib.hid sl2
      have G2 := Lib.hid F2
      have hx2 := blk_lt X2.out
      have E0 : OwnS (wc.alloc (.cells #[] 42)) wc.heap.size (.slice (some ⟨wc.heap.size, 0, none⟩) 0 0) [] := OwnF.lit wc wc.heap.size [] #[] (Nat.le_refl _) (by unfold maxLen; simp) rfl (fun x hx => by cases hx)
      have el : (M.take a).length = a := by rw [List.length_take]; omega
      obtain ⟨v3, w3, hap1, ho3, hb3, _⟩ := E0.app eSd (c := c2) 22 (F1.next (alloc_below wc (.cells #[] 42))) (by rw [el]; simp; omega) (by simp)
      rw [el] at hap1
      have hb3 := ((alloc_below wc (.cells #[] 42)).trans hb3)
      obtain ⟨A3, c3, e3, _⟩ := ho3.form
      have e3l : ([] ++ M.take a).length = a := el
      rw [e3l] at e3
      subst e3
      have X3 := Lib.hid ((hb3.block w.heap.size hx2).trans X2.out)
      have RA := Lib.hid (show w3.rangeAt w.heap.size 0 [.int .i64 y0, .int .i64 y1, .int .i64 y2, .int .i64 y3, .int .i64 y4, .int .i64 y5, .int .i64 y6, .bool y7, .string y8] from fun j v hv => by
        have := blk_cell X3.out j (v := v) (by rw [← Array.getElem?_toList]; exact hv)
        rw [Nat.zero_add]
        exact this)
      obtain ⟨v4, w4, hap2, ho4, hb4⟩ := app_send ho3 (⟨y0, y1, y2, y3, y4, y5, y6, y7, y8⟩, 0, 0) ⟨HF.out, by unfold I64; dsimp only; omega, by unfold I64; dsimp only; omega⟩ (by rw [e3l]; omega) hb3.size
      have hb4 := hb3.trans hb4
      obtain ⟨A5, c5, e5, _⟩ := ho4.form
      have e5l : ([] ++ M.take a ++ [((⟨y0, y1, y2, y3, y4, y5, y6, y7, y8⟩ : Fm), (0 : Int), (0 : Int))]).length = a + 1 := by rw [List.length_append, e3l]; rfl
      rw [e5l] at e5
      subst e5
      have dl : (M.drop a).length = M.length - a := List.length_drop
      obtain ⟨v6, w6, hap3, ho6, hb6, _⟩ := ho4.app eSd (c := c2 - a) 22 ((G2.out.below hb4).mono hb4.size) (by rw [e5l, dl]; omega) hb4.size
      rw [dl] at hap3
      have B6 := Lib.hid (B2.out.trans ((hb4.trans hb6).mono B2.out.size))
      have O6 := Lib.hid (show OwnS w6 w.heap.size v6 (M.take a ++ [((⟨y0, y1, y2, y3, y4, y5, y6, y7, y8⟩ : Fm), 0, 0)] ++ M.drop a) from by have := ho6.down B2.out.size; simpa using this)
      have S6 := Lib.hid O6.out.slS
      have e7 : wc.cell? ⟨w.heap.size, 7, none⟩ = some (.bool y7) := blk_cell X2.out 7 rfl
      clear ho3 hb3 ho4 hb4 ho6 hb6 E0 el e3l e5l dl F1 F2 sl1 sl2 hx2 hs2 O6
      cases y7 with
      | false =>
        have ea := Lib.hid (PL.out.2 rfl)
        clear PL HY HN H0
        go_wp2_with fail
        go_loop [9, 10] (fun va vi => va = .int .i64 (a : Int) ∧ vi = .int .i64 ((a : Int) - 1)) (fun _ vi => 0)
        case atStart => exact ⟨by rw [ea.out], by rw [ea.out]⟩
        case round =>
          obtain ⟨rfl, rfl⟩ := hrel
          go_upto_region 14 with fail
          go_cut [65] (fun v wx => v = .bool false ∧ wx = wc)
          case first => as_aux_lemma =>
            clear hap1 hap2 hap3 SL1 SL2 S6 B6 R RA G2 M2 O2 HF X3
            by_cases h9 : 0 ≤ (a : Int) - 1
            · have d9 := dt h9
              go_wp2_with fail
              go_meet
              case rel => exact ⟨rfl, rfl⟩
            · have d9 := df h9
              go_wp2_with fail
              go_meet
              case rel => exact ⟨rfl, rfl⟩
          case rest => as_aux_lemma =>
            obtain ⟨rfl, hw⟩ := hcut
            subst hw
            go_upto_region 19 with (first | (at_builtin; refine Lib.wpList_append_run _ rfl _ _ _ _ rfl _ _ rfl rfl _ _ hap1 ?_) | (refine wpList_slice_run _ rfl _ _ _ _ rfl _ _ _ _ rfl rfl rfl (SL1.out _) ?_) | fail)
            clear hap1 SL1
            go_upto_region 20 with (first | (at_builtin; refine Lib.wpList_append_run _ rfl _ _ _ _ rfl _ _ rfl rfl _ _ hap2 ?_) | (refine wpList_load_mid rfl 24 _ rfl w.heap.size 0 rfl _ _ RA.out Try.underlying24 rfl (by kernel_rfl) ?_) | (refine wpl_build rfl 42 _ rfl #[(0, .agg #[.int .i64 y0, .int .i64 y1, .int .i64 y2, .int .i64 y3, .int .i64 y4, .int .i64 y5, .int .i64 y6, .bool false, .string y8])] _ (built_f y0 y1 y2 y3 y4 y5 y6 false y8) (by go_simp) ?_) | (refine wpl_bsl_run rfl 22 1 _ rfl #[(0, .agg #[.int .i64 y0, .int .i64 y1, .int .i64 y2, .int .i64 y3, .int .i64 y4, .int .i64 y5, .int .i64 y6, .bool false, .string y8, .int .i64 0, .int .i64 0])] _ _ (bsl_f y0 y1 y2 y3 y4 y5 y6 false y8 _) (by go_simp) ?_) | fail)
            clear hap2 RA
            go_wp2_with (first | (at_builtin; refine Lib.wpList_append_run _ rfl _ _ _ _ rfl _ _ rfl rfl _ _ hap3 ?_) | (refine wpList_slice_run _ rfl _ _ _ _ rfl _ _ _ _ rfl rfl rfl (SL2.out _) ?_) | fail)
            rw [R.out]
            obtain ⟨A7, c7, rfl, S7⟩ := S6.out
            go_ret2
            exact ⟨_, _, rfl, S7, B6.out⟩
      | true =>
        have ea := Lib.hid (PL.out.1 rfl)
        clear PL
        go_wp2_with fail
        go_loop [9, 10] (fun va vi => ∃ n : Nat, n ≤ M.length ∧ vi = .int .i64 ((n : Int) - 1) ∧ va = .int .i64 (H n)) (fun _ vi => (intOf vi + 1).toNat)
        case atStart => exact ⟨M.length, Nat.le_refl _, rfl, by rw [H0.out]⟩
        case round =>
          obtain ⟨n, hn, rfl, rfl⟩ := hrel
          cases n with
          | zero =>
            rw [ea.out]
            clear HY HN H0 ea
            go_upto_region 19 with (first | (at_builtin; refine Lib.wpList_append_run _ rfl _ _ _ _ rfl _ _ rfl rfl _ _ hap1 ?_) | (refine wpList_slice_run _ rfl _ _ _ _ rfl _ _ _ _ rfl rfl rfl (SL1.out _) ?_) | fail)
            clear hap1 SL1
            go_upto_region 20 with (first | (at_builtin; refine Lib.wpList_append_run _ rfl _ _ _ _ rfl _ _ rfl rfl _ _ hap2 ?_) | (refine wpList_load_mid rfl 24 _ rfl w.heap.size 0 rfl _ _ RA.out Try.underlying24 rfl (by kernel_rfl) ?_) | (refine wpl_build rfl 42 _ rfl #[(0, .agg #[.int .i64 y0, .int .i64 y1, .int .i64 y2, .int .i64 y3, .int .i64 y4, .int .i64 y5, .int .i64 y6, .bool true, .string y8])] _ (built_f y0 y1 y2 y3 y4 y5 y6 true y8) (by go_simp) ?_) | (refine wpl_bsl_run rfl 22 1 _ rfl #[(0, .agg #[.int .i64 y0, .int .i64 y1, .int .i64 y2, .int .i64 y3, .int .i64 y4, .int .i64 y5, .int .i64 y6, .bool true, .string y8, .int .i64 0, .int .i64 0])] _ _ (bsl_f y0 y1 y2 y3 y4 y5 y6 true y8 _) (by go_simp) ?_) | fail)
            clear hap2 RA
            go_wp2_with (first | (at_builtin; refine Lib.wpList_append_run _ rfl _ _ _ _ rfl _ _ rfl rfl _ _ hap3 ?_) | (refine wpList_slice_run _ rfl _ _ _ _ rfl _ _ _ _ rfl rfl rfl (SL2.out _) ?_) | fail)
            rw [R.out]
            obtain ⟨A7, c7, rfl, S7⟩ := S6.out
            go_ret2
            exact ⟨_, _, rfl, S7, B6.out⟩
          | succ n =>
            have hlt : n < M.length := by omega
            have en : ((n + 1 : Nat) : Int) - 1 = (n : Int) := by omega
            rw [en]
            obtain ⟨bb, p, rfl, _, hc, _⟩ := sd_cell M2.out n hlt
            have g7 := hc.2.2.2.2.2.2.2.1
            have Y := Lib.hid (fun e => HY.out n hlt e)
            have N := Lib.hid (fun e => HN.out n hlt e)
            have RV : ord M[n] = !M[n].1.u := rfl
            have s1 : IntKind.i64.wrap ((n : Int) - 1) = (n : Int) - 1 := by rw [IntKind.wrap_i64]; omega
            have d9 : decide (0 ≤ (n : Int)) = true := dt (by omega)
            clear hc HY HN H0 ea en
            generalize ord M[n] = rv at *
            generalize M[n].1.u = u at *
            cases u with
            | false =>
              have R9 := Lib.hid (Y.out (by rw [RV]; rfl))
              clear Y N RV
              go_wp2_with fail
              go_round
              case rel => exact ⟨n, by omega, rfl, by rw [R9.out]⟩
              case measure => simp [intOf]
            | true =>
              have R9 := Lib.hid (N.out (by rw [RV]; rfl))
              clear Y N RV
              go_wp2_with fail
              go_round
              case rel => exact ⟨n, by omega, rfl, by rw [R9.out]⟩
              case measure => simp [intOf]
end Go.Proofs.Ytpfmfnogckeneaa.Mcq
