/- The law Bounds. -/
import Derived.Test.YtljcjflbfjleoaaFgQ
import Derived.StillTailTactics
import Derived.Test.YtljcjflbfjleoaaQH
set_option linter.unusedVariables false
namespace Go.Proofs.Ytljcjflbfjleoaa.Frg
open Go.RowKit

theorem put_err (o : List Pt) (k j : Nat) (b : ByteArray) : (put o k j b).2.2.2 = 0 := by
  unfold put
  split
  · rfl
  · split <;> rfl
theorem add_err {l : List Pt} {s now : Int} {p : ByteArray} (h0 : chk p = 0) : (add l s now p).2.2.2 = 0 := by
  unfold add
  rw [if_neg (by simpa using h0)]
  split
  · rfl
  · split <;> exact put_err _ _ _ _
theorem ok_lens {ys : List Hp} (h : Ok (xs ys)) : ys.length ≤ 8 ∧ ∀ y ∈ ys, y.x.h.length ≤ 16 ∧ y.x.d.length ≤ 16 := by
  refine ⟨by have := h.len; simpa [xs] using this, fun y hy => ?_⟩
  have v := h.val y.x (List.mem_map_of_mem hy)
  have e1 := v.hl
  have e2 := v.dl
  have e3 := v.ct
  omega
theorem ok_two {ys : List Hp} (h : Ok (xs ys)) (a k : Nat) (ha : a < ys.length) (hk : k < a) : ¬ (ys[a].x.s = ys[k].x.s ∧ ys[a].x.i = ys[k].x.i) := by
  have := List.pairwise_iff_getElem.1 h.nod k a (by simp [xs]; omega) (by simp [xs]; omega) hk
  simp only [xs, List.getElem_map] at this
  exact fun q => this ⟨q.1.symm, q.2.symm⟩
theorem cut_ps (A : Option Addr) (n c a : Nat) (hn : n ≤ c) (ha : a ≤ n) (W : World) : (Instr.sliceAt 31 (.slice A n c) none (some (.int .i64 (a : Int))) none).run Try.prog W = .ok (.slice A a c) W := by
  have ut : Try.prog.underlying 31 = some (.slice (Try.prog.elem 31)) := by kernel_rfl
  have sz : ∀ W : World, (sizeOf (Try.prog.elem 31)).run Try.prog W = .ok 6 W := fun W => by kernel_rfl
  have e1 : (Instr.sliceAt 31 (.slice A n c) none (some (.int .i64 (a : Int))) none).run Try.prog W = .ok (sliced A 0 a c 6) W := by
    rw [run_sliceAt_slice W _ _ _ _ _ ut, run_slice_h W _ A n c ut .i64 a (by omega) (by omega), sz]
    rfl
  rw [e1]
  unfold sliced
  cases A with
  | none => simp
  | some ad =>
    have : ad.add 0 = ad := by unfold Addr.add; cases ad; rename_i s; cases s <;> simp
    simp [this]
/-- An operation 's[lo:hi]' whose run is known. -/
theorem wpl_slice_run {P : Program} (w : World) {ops : Array Oper} {rest : List Oper} {o : Oper} {a : Act} {Q : Exit → Act → World → Prop} (hg : o.guard = none) (x : Operand) (lo hi : Option Operand) (t : TypeId) (hop : o.op = Op.slice t x lo hi none)
    (vx v : Value) (vlo vhi : Option Value) (hx : a.eval x = vx) (hlo : lo.map a.eval = vlo) (hhi : hi.map a.eval = vhi) (hr : (Instr.sliceAt t vx vlo vhi none).run P w = .ok v w) (h : wpList P ops Q rest (a.put o.dst v) w) : wpList P ops Q (o :: rest) a w := by
  refine wpList_plain hg fun K hK => ?_
  unfold Oper.wp
  simp [execOp, hop, hx, hlo, hhi, hr, Result.andThen]
  exact hK _ _ h
set_option maxRecDepth 100000 in
set_option maxHeartbeats 16000000 in
theorem law_bounds (w : World) (A : Option Addr) (c : Nat) (l : List Int) (p : ByteArray) (hl : l.length ≤ 9223372036854775807) (hp : p.size ≤ 9223372036854775807) (hA : SlS fI w A c l) :
    Calls Try.prog 10 #[.slice A l.length c, .string p] w (OutB w true) := by
  have KW := Lib.hid (fun w => awake_any w)
  unfold OutB at KW
  have B0 := Lib.hid (Below.refl w.heap.size w)
  have HA := Lib.hid hA
  clear hA
  by_cases h1 : 40 < l.length
  · have d0 := dt (show (40 : Int) < (l.length : Int) by omega)
    go_enter Try.func10, Try.ntmps10
    go_wp2_with fail
    refine (KW.out _).mono ?_
    rintro _ wz ⟨rfl, hb⟩
    have BZ := Lib.hid (B0.out.trans (hb.mono B0.out.size))
    clear hb
    go_wp2_with fail
    go_ret
    exact outB rfl BZ.out
  have d0 := df (show ¬ (40 : Int) < (l.length : Int) by omega)
  by_cases h2 : 200 < p.size
  · have d1 := dt (show (200 : Int) < (p.size : Int) by omega)
    go_enter Try.func10, Try.ntmps10
    go_wp2_with fail
    refine (KW.out _).mono ?_
    rintro _ wz ⟨rfl, hb⟩
    have BZ := Lib.hid (B0.out.trans (hb.mono B0.out.size))
    clear hb
    go_wp2_with fail
    go_ret
    exact outB rfl BZ.out
  have d1 := df (show ¬ (200 : Int) < (p.size : Int) by omega)
  have n1 : l.length ≤ 40 := by omega
  have HP0 := Lib.hid hp
  have KC := Lib.hid (fun w => pcheck_any p w hp)
  unfold OutI at KC
  have OL := Lib.hid (fun ys (h : Ok (xs ys)) => ok_lens h)
  have O2 := Lib.hid (fun ys (h : Ok (xs ys)) a k ha hk => ok_two h a k ha hk)
  have OA := Lib.hid (fun (ys : List Hp) (s : Int) (i : Nat) (h0 : chk p = 0) => (show Ok (add (xs ys) s i p).1 from add_ok h0))
  have OT := Lib.hid (fun (ys : List Hp) (s : Int) (i : Nat) (h0 : chk p = 0) (hi : i < 40) (h : ∀ x ∈ xs ys, x.t < 1000) => (show ∀ x ∈ (add (xs ys) s i p).1, x.t < 1000 from add_tick h0 (P := fun t => t < 1000) (by have := tick_in (i : Int); unfold tick; split <;> (try split) <;> omega) h))
  have OE := Lib.hid (fun (ys : List Hp) (s : Int) (i : Nat) (h0 : chk p = 0) => (show (add (xs ys) s i p).2.2.2 = 0 from add_err h0))
  have ON := Lib.hid (fun (ys : List Hp) (s : Int) (i : Nat) (h0 : chk p ≠ 0) => (show add (xs ys) s i p = ([], eb, false, chk p) from if_pos h0))
  have X0 := Lib.hid (fun (ys : List Hp) (h : Ok (xs ys)) (ht : ∀ x ∈ xs ys, x.t < 1000) => expi_none h ht)
  have X1 := Lib.hid (fun (ys : List Hp) (h : Ok (xs ys)) => expi_all h)
  clear h1 h2 hl hp
  go_enter Try.func10, Try.ntmps10
  go_wp2_with fail
  go_loopw [5, 25] (fun vp vi wr => ∃ (i : Nat) (A3 : Option Addr) (c3 : Nat) (ys : List Hp), vi = .int .i64 i ∧ vp = .slice A3 ys.length c3 ∧ i ≤ l.length ∧ Hid (Ok (xs ys)) ∧ Hid (∀ x ∈ xs ys, x.t < 1000) ∧ Hid (PsS wr A3 c3 ys) ∧ Below w.heap.size w wr) (fun _ vi _ => l.length - (intOf vi).toNat)
  case atStart => exact ⟨0, none, 0, [], rfl, rfl, Nat.zero_le _, Lib.hid ⟨fun x hx => (by cases hx), List.Pairwise.nil, Nat.zero_le _⟩, Lib.hid (fun x hx => by cases hx), Lib.hid (PsS.nil _), Below.refl _ _⟩
  case round =>
    obtain ⟨i, A3, c3, ys, rfl, rfl, hi, HO, HT, HP, hb⟩ := hrel
    have B := Lib.hid hb
    clear hb
    by_cases hlt : i < l.length
    · have g0 := dt (show (i : Int) < (l.length : Int) by omega)
      obtain ⟨b, o, rfl, _, hc, hv⟩ := in_cell (HA.out.next B.out) i hlt
      have li := OL.out ys HO.out
      have KA := padd_any A3 c3 ys l[i] (i : Int) p wr hv (by omega) HP0.out (fun y hy => by have := li.2 y hy; omega) HP.out
      generalize l[i] = v at *
      clear hv li
      by_cases h0 : chk p = 0
      · have J1 := Lib.hid (OA.out ys v i h0)
        have J2 := Lib.hid (OT.out ys v i h0 (by omega) HT.out)
        have J3 := OE.out ys v i h0
        clear OA OT OE ON X0 X1 KC HO HT h0
        unfold AddQ at KA
        generalize add (xs ys) v i p = r at *
        obtain ⟨r1, r2, r3, r4⟩ := r
        simp only at KA J1 J2 J3
        subst J3
        have KA := Lib.hid KA
        go_wp2_with fail
        refine KA.out.mono ?_
        rintro _ w3 ⟨A4, c4, y4, rfl, h4, x4, hb⟩
        have B := Lib.hid (B.out.trans (hb.mono B.out.size))
        have HP := Lib.hid h4.psS
        rw [← x4] at J1 J2
        have LL := (OL.out y4 J1.out).1
        have LC := HP.out.1.2.1
        have T2 := Lib.hid (fun a k ha hk => O2.out y4 J1.out a k ha hk)
        clear hb h4 x4 KA hc O2 OL
        have g1 := df (show ¬ (8 : Int) < (y4.length : Int) by omega)
        go_wp2_with fail
        go_loopw [54] (fun va wa => ∃ a : Nat, va = .int .i64 a ∧ a ≤ y4.length ∧ Below w3.heap.size w3 wa) (fun va _ => y4.length - (intOf va).toNat)
        case atStart => exact ⟨0, rfl, Nat.zero_le _, Below.refl _ _⟩
        case round =>
          obtain ⟨a, rfl, ha, hb⟩ := hrel
          have Ba := Lib.hid hb
          clear hb
          by_cases hla : a < y4.length
          · have g2 := dt (show (a : Int) < (y4.length : Int) by omega)
            have SL := Lib.hid (fun W => cut_ps A4 y4.length c4 a LC (by omega) W)
            go_wp2_with (first | (refine wpl_slice_run _ rfl _ _ _ _ rfl _ _ _ _ rfl rfl rfl (SL.out _) ?_) | fail)
            clear SL
            go_loopw [61] (fun vk wk => ∃ k : Nat, vk = .int .i64 k ∧ k ≤ a ∧ Below w3.heap.size w3 wk) (fun vk _ => a - (intOf vk).toNat)
            case atStart => exact ⟨0, rfl, Nat.zero_le _, Ba.out⟩
            case round =>
              obtain ⟨k, rfl, hk, hb⟩ := hrel
              have Bk := Lib.hid hb
              clear hb
              by_cases hlk : k < a
              · have g3 := dt (show (k : Int) < (a : Int) by omega)
                have hkl : k < y4.length := by omega
                obtain ⟨b4, p4, rfl, _, C1, _⟩ := ps_cell (HP.out.next Bk.out) a hla
                obtain ⟨b5, p5, e5, _, C2, _⟩ := ps_cell (HP.out.next Bk.out) k hkl
                simp only [Option.some.injEq, Addr.mk.injEq, and_true] at e5
                obtain ⟨rfl, rfl⟩ := e5
                have TT := T2.out a k hla hlk
                unfold HpC at C1 C2
                obtain ⟨a0, a1, _⟩ := C1
                obtain ⟨k0, k1, _⟩ := C2
                generalize y4[a].x.s = s1 at *
                generalize y4[a].x.i = i1 at *
                generalize y4[k].x.s = s2 at *
                generalize y4[k].x.i = i2 at *
                by_cases hs : s1 = s2
                · have f1 : (s1 == s2) = true := by simpa using hs
                  have f2 : (i1 == i2) = false := beq_false_of_ne (fun q => TT ⟨hs, q⟩)
                  clear TT hs T2 HP J1 J2
                  go_wp2_with fail
                  refine wp_region_quiet_lit (by kernel_rfl) (by kernel_rfl) ?_
                  refine QH.out ?_
                  repeat (
                    refine qh_step (fun K hK => ?_)
                    go_simp
                    first
                      | (refine hK _ ?_; clear hK K)
                      | (apply Exists.intro
                         refine ⟨fun _ => ?_, hK _ ?_⟩
                         (fail)
                         clear hK K))
                  refine qh_nil ?_
                  intro _ hw'
                  obtain ⟨nq, hw''⟩ := hw'
                  subst hw''
                  obtain ⟨wq, hwq⟩ : ∃ wq, wq = wr.drewN nq := ⟨_, rfl⟩
                  rw [← hwq]
                  have Bq : Below w3.heap.size w3 wq := by rw [hwq]; exact below_drewN Bk.out nq
                  clear hwq
                  go_wp2_with fail
                  go_roundw
                  case rel => exact ⟨k + 1, by go_num, by omega, Bq⟩
                  case measure => simp [intOf]; omega
                · have f1 : (s1 == s2) = false := beq_false_of_ne hs
                  clear TT hs T2 HP J1 J2
                  go_wp2_with fail
                  refine wp_region_quiet_lit (by kernel_rfl) (by kernel_rfl) ?_
                  refine QH.out ?_
                  repeat (
                    refine qh_step (fun K hK => ?_)
                    go_simp
                    first
                      | (refine hK _ ?_; clear hK K)
                      | (apply Exists.intro
                         refine ⟨fun _ => ?_, hK _ ?_⟩
                         (fail)
                         clear hK K))
                  refine qh_nil ?_
                  intro _ hw'
                  obtain ⟨nq, hw''⟩ := hw'
                  subst hw''
                  obtain ⟨wq, hwq⟩ : ∃ wq, wq = wr.drewN nq := ⟨_, rfl⟩
                  rw [← hwq]
                  have Bq : Below w3.heap.size w3 wq := by rw [hwq]; exact below_drewN Bk.out nq
                  clear hwq
                  go_wp2_with fail
                  go_roundw
                  case rel => exact ⟨k + 1, by go_num, by omega, Bq⟩
                  case measure => simp [intOf]; omega
              · have g3 := df (show ¬ (k : Int) < (a : Int) by omega)
                go_wp2_with fail
                go_roundw
                case rel => exact ⟨a + 1, by go_num, by omega, Bk.out⟩
                case measure => simp [intOf]; omega
          · have g2 := df (show ¬ (a : Int) < (y4.length : Int) by omega)
            have HQ := Lib.hid (HP.out.next Ba.out)
            have BQ := Lib.hid (B.out.trans (Ba.out.mono B.out.size))
            clear T2 HP Ba
            go_wp2_with fail
            go_roundw
            case rel => exact ⟨i + 1, A4, c4, y4, by go_num, rfl, by omega, J1, J2, HQ, BQ.out⟩
            case measure => simp [intOf]; omega
      · rw [ON.out ys v i h0] at KA
        unfold AddQ at KA
        simp only at KA
        have KA := Lib.hid KA
        have f1 : (chk p != 0) = true := by simpa using h0
        clear OA OT OE ON X0 X1 HO HT h0 O2 OL
        generalize chk p = e at *
        go_wp2_with fail
        refine KA.out.mono ?_
        rintro _ w3 ⟨A4, c4, y4, rfl, _, _, hb⟩
        have B := Lib.hid (B.out.trans (hb.mono B.out.size))
        clear hb KA hc
        go_wp2_with fail
        refine (KC.out _).mono ?_
        rintro _ w4 ⟨rfl, hb⟩
        have B := Lib.hid (B.out.trans (hb.mono B.out.size))
        clear hb KC
        go_wp2_with fail
        refine (KW.out _).mono ?_
        rintro _ wz ⟨rfl, hb⟩
        have BZ := Lib.hid (B.out.trans (hb.mono B.out.size))
        clear hb
        go_wp2_with fail
        go_ret
        exact outB rfl BZ.out
    · have g0 := df (show ¬ (i : Int) < (l.length : Int) by omega)
      have li := OL.out ys HO.out
      have lx : ∀ y ∈ ys, y.x.h.length ≤ 9223372036854775807 ∧ y.x.d.length ≤ 9223372036854775807 := fun y hy => by have := li.2 y hy; omega
      have K0 := pexpire_any A3 c3 ys 1000 0 wr (by omega) lx HP.out
      rw [X0.out ys HO.out HT.out] at K0
      have K1 := Lib.hid (fun W (h : PsS W A3 c3 ys) => (by have := pexpire_any A3 c3 ys 1000 1099511627776 W (by omega) lx h; rw [X1.out ys HO.out] at this; exact this : Calls Try.prog 21 #[.slice A3 ys.length c3, .int .i64 1000, .int .i64 1099511627776] W (PsR W (xs ys))))
      unfold PsR at K0 K1
      have K0 := Lib.hid K0
      clear OA OT OE ON X0 X1 HO HT O2 OL KC li lx
      go_wp2_with fail
      refine K0.out.mono ?_
      rintro _ w3 ⟨A5, c5, y5, rfl, _, x5, hb⟩
      obtain rfl : y5 = [] := by simpa [xs] using x5
      have B := Lib.hid (B.out.trans (hb.mono B.out.size))
      have HP := Lib.hid (HP.out.next hb)
      clear hb K0 x5
      go_wp2_with fail
      refine (K1.out _ HP.out).mono ?_
      rintro _ w4 ⟨A6, c6, y6, rfl, _, x6, hb⟩
      have e6 : y6.length = ys.length := by have := congrArg List.length x6; simpa [xs] using this
      rw [e6]
      have B := Lib.hid (B.out.trans (hb.mono B.out.size))
      clear hb K1 x6 HP e6
      go_wp2_with fail
      refine (KW.out _).mono ?_
      rintro _ wz ⟨rfl, hb⟩
      have BZ := Lib.hid (B.out.trans (hb.mono B.out.size))
      clear hb
      go_wp2_with fail
      go_ret
      exact outB rfl BZ.out
end Go.Proofs.Ytljcjflbfjleoaa.Frg
