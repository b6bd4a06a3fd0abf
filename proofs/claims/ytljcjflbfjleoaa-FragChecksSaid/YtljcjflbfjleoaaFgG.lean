/- The reference's Add. -/
import Derived.Test.YtljcjflbfjleoaaFgF
import Derived.Deep.Cut
import Derived.Deep.CutRange
import Derived.Deep.DeepCutAuto
set_option linter.unusedVariables false
namespace Go.Proofs.Ytljcjflbfjleoaa.Frg
open Go.RowKit

theorem wp_make_run {P : Program} (w : World) {o : Oper} {a : Act} {K : Act → World → Prop} {Q : Exit → Act → World → Prop} (t : TypeId) (l c : Operand) (ho : o.op = Op.makeSlice t l c) (vl vc : Value) (hl : a.eval l = vl) (hc : a.eval c = vc)
    (v' : Value) (w' : World) (hr : (Instr.makeSlice t vl vc).run P w = .ok v' w') (h : K (a.put o.dst v') w') : o.wp P a w K Q := by
  unfold Oper.wp
  simp only [execOp, ho, hl, hc, hr, Result.andThen_ok, Sem.run_bind, Sem.run_pure]
  exact h
theorem ex_build {P : Program} {a : Act} {o : Oper} {w : World} (t : TypeId) (parts : Array (Nat × Operand)) (ho : o.op = Op.build t parts) (vs : Array (Nat × Value)) (hv : (parts.map fun (i, x) => (i, a.eval x)) = vs) (cells : Array Value) (h : P.built t vs.toList = some cells) : (execOp a.eval o).run P w = .ok (.value (.agg cells)) w := by
  have e := run_build w t vs cells h
  rw [← hv] at e
  unfold execOp
  simp only [ho, e, Result.andThen_ok, Sem.run_bind, Sem.run_pure]
theorem built_p (s i c t : Int) (h d : Option Addr) (n1 c1 n2 c2 : Nat) : Try.prog.built 44 [(0, .int .i64 s), (1, .int .i64 i), (2, .int .i64 c), (3, .int .i64 t), (4, .slice h n1 c1), (5, .slice d n2 c2)] = some #[.int .i64 s, .int .i64 i, .int .i64 c, .int .i64 t, .slice h n1 c1, .slice d n2 c2] := by kernel_rfl
theorem bsl_p (s i c t : Int) (h d : Option Addr) (n1 c1 n2 c2 : Nat) (w : World) : (Instr.buildSlice 31 1 #[(0, .agg #[.int .i64 s, .int .i64 i, .int .i64 c, .int .i64 t, .slice h n1 c1, .slice d n2 c2])]).run Try.prog w = .ok (.slice (some ⟨w.heap.size, 0, none⟩) 1 1) (w.alloc (.cells #[.int .i64 s, .int .i64 i, .int .i64 c, .int .i64 t, .slice h n1 c1, .slice d n2 c2] 44)) := by
  go_simp
theorem wp_bsl_run {P : Program} (w : World) {o : Oper} {a : Act} {K : Act → World → Prop} {Q : Exit → Act → World → Prop} (t : TypeId) (len : Nat) (parts : Array (Nat × Operand)) (ho : o.op = .buildSlice t len parts) (vs : Array (Nat × Value)) (hv : (parts.map fun (i, x) => (i, a.eval x)) = vs)
    (v' : Value) (w' : World) (hr : (Instr.buildSlice t len vs).run P w = .ok v' w') (h : K (a.put o.dst v') w') : o.wp P a w K Q := by
  rw [← hv] at hr
  unfold Oper.wp execOp
  simp only [ho, hr, Result.andThen_ok, Sem.run_bind, Sem.run_pure]
  exact h
def AddR (w : World) (r : List Pt × ByteArray × Bool × Int) (e : Ending) (w' : World) : Prop := ∃ A c ys, e = .returned (.tuple #[.slice A (List.length ys) c, .string r.2.1, .bool r.2.2.1, .int .i64 r.2.2.2]) ∧ OwnP w' w.heap.size A c ys ∧ xs ys = r.1 ∧ Below w.heap.size w w'
/-- The same wherever the row begins. -/
def AddQ (w : World) (r : List Pt × ByteArray × Bool × Int) (e : Ending) (w' : World) : Prop := ∃ A c ys, e = .returned (.tuple #[.slice A (List.length ys) c, .string r.2.1, .bool r.2.2.1, .int .i64 r.2.2.2]) ∧ OwnQ w' w.heap.size A c ys ∧ xs ys = r.1 ∧ Below w.heap.size w w'
theorem addQ_of {w : World} {r : List Pt × ByteArray × Bool × Int} {e : Ending} {w' : World} (h : AddR w r e w') : AddQ w r e w' := by
  obtain ⟨A, c, ys, h1, h2, h3⟩ := h
  exact ⟨A, c, ys, h1, h2.q, h3⟩
/-- Behind the first step: the entry with another count is away. -/
def St1 (w wx : World) (o : List Pt) (s i c : Int) (A : Option Addr) (c1 : Nat) (ys : List Hp) (a : Int) : Prop :=
  OwnP wx w.heap.size A c1 ys ∧ Below w.heap.size w wx ∧ xs ys = rm o s i c ∧ ((a = -1 ∧ ¬ (fi o s i < o.length ∧ (o.getD (fi o s i) at0).c = c)) ∨ (a = (fi o s i : Nat) ∧ fi o s i < o.length ∧ (o.getD (fi o s i) at0).c = c ∧ xs ys = o))
/-- What the entry that takes the piece is like. -/
def Fit (j : Nat) (x : Pt) : Prop := j < x.h.length ∧ j < x.d.length ∧ x.h.length ≤ 16 ∧ x.d.length ≤ 16 ∧ ∀ i (h : i < x.d.length), x.d[i].size ≤ 64
/-- Behind the second step: the piece's entry stands at k. -/
def St2 (w wx : World) (X : List Pt × ByteArray × Bool × Int) (j : Nat) (b : ByteArray) (A : Option Addr) (c1 : Nat) (ys : List Hp) (k : Nat) : Prop :=
  OwnP wx w.heap.size A c1 ys ∧ Below w.heap.size w wx ∧ ys.length ≤ 8 ∧ (∃ h : k < ys.length, Fit j ys[k].x) ∧ X = put (xs ys) k j b
def St3 (w wx : World) (o : List Pt) (A : Option Addr) (c1 : Nat) (ys : List Hp) : Prop := OwnP wx w.heap.size A c1 ys ∧ Below w.heap.size w wx ∧ ys.length ≤ 7 ∧ xs ys = o
theorem fit_valid {x : Pt} (h : Valid x) (j : Nat) (hj : (j : Int) < x.c) : Fit j x := by
  have h1 := h.hl
  have h2 := h.dl
  have h3 := h.ct
  refine ⟨by omega, by omega, by omega, by omega, fun i hi => ?_⟩
  have h4 := h.sl i (by omega)
  unfold Slot dat at h4
  rw [List.getD_eq_getElem?_getD (l := x.d), List.getElem?_eq_getElem hi, Option.getD_some] at h4
  split at h4
  · have := sz_le h4; omega
  · omega
theorem fit_new (s i : Int) (n : Nat) (now : Int) (j : Nat) (hj : j < n) (hn : n ≤ 16) : Fit j (nw s i (n : Int) now) := by
  refine ⟨by simpa [nw] using hj, by simpa [nw] using hj, by simpa [nw] using hn, by simpa [nw] using hn, fun i hi => ?_⟩
  simp [nw, ByteArray.size]
theorem xs_erase : ∀ (l : List Hp) (k : Nat), xs (l.eraseIdx k) = (xs l).eraseIdx k
  | [], k => by simp
  | a :: l, 0 => rfl
  | a :: l, k + 1 => by show a.x :: xs (l.eraseIdx k) = a.x :: (xs l).eraseIdx k; rw [xs_erase l k]
theorem jn_size (D : List ByteArray) (h : ∀ i (hi : i < D.length), D[i].size ≤ 64) : ∀ m, m ≤ D.length → (jn (D.take m)).size ≤ 64 * m
  | 0, _ => by rw [List.take_zero]; exact Nat.le_refl _
  | m + 1, hm => by
    have ih := jn_size D h m (by omega)
    have := h m (by omega)
    rw [List.take_succ_eq_append_getElem (by omega), jn_next, ByteArray.size_append]
    omega
theorem xs_len (l : List Hp) : (xs l).length = l.length := by simp
theorem xs_getD (l : List Hp) (k : Nat) (h : k < l.length) : (xs l).getD k at0 = l[k].x := by rw [getD_at _ _ (by simpa using h), xs_at]
set_option maxRecDepth 100000 in
set_option maxHeartbeats 8000000 in
theorem radd_any (A : Option Addr) (c : Nat) (l : List Hp) (s now : Int) (p : ByteArray) (w : World) (hs : I64 s) (hl : l.length ≤ 1000) (hp : p.size ≤ 9223372036854775807) (hm : ∀ y ∈ l, y.x.h.length ≤ 9223372036854775807 ∧ y.x.d.length ≤ 9223372036854775807) (hA : PsS w A c l) :
    Calls Try.prog 19 #[.slice A l.length c, .int .i64 s, .int .i64 now, .string p] w (AddR w (add (xs l) s now p)) := by
  have K0 := Lib.hid (rcheck_any p w hp)
  have HA := Lib.hid hA
  have HM := Lib.hid hm
  have HS := Lib.hid hs
  clear hA hm hs
  unfold OutI at K0
  by_cases h0 : chk p = 0
  rotate_left
  · have R := Lib.hid (show add (xs l) s now p = ([], eb, false, chk p) from if_pos h0)
    have d0 : (chk p != 0) = true := by simpa using h0
    generalize add (xs l) s now p = X at *
    generalize chk p = e at *
    clear h0
    go_enter Try.func19, Try.ntmps19
    go_wp2_with fail
    refine K0.out.mono ?_
    rintro _ w1 ⟨rfl, hb⟩
    have B1 := Lib.hid hb
    clear hb
    go_wp2_with fail
    rw [R.out]
    refine bodyPost_ret (v := .tuple #[.slice none 0 0, .string eb, .bool false, .int .i64 e]) (by simp [results, Try.results19, go_sem]) rfl ⟨none, 0, [], rfl, OwnP.nil _ _, rfl, B1.out⟩
  obtain ⟨h3, ⟨f1, f2⟩, f3, f4⟩ := chk_zero h0
  have p0 : 0 < p.size := by omega
  have p1 : 1 < p.size := by omega
  have p2 : 2 < p.size := by omega
  have q0 : (0 : Int) < (p.size : Int) := by omega
  have q1 : (1 : Int) < (p.size : Int) := by omega
  have q2 : (2 : Int) < (p.size : Int) := by omega
  have q3 : (3 : Int) ≤ (p.size : Int) := by omega
  have l0 := (p[0]'p0).toNat_lt
  have l1 := (p[1]'p1).toNat_lt
  have l2 := (p[2]'p2).toNat_lt
  have O := Lib.hid (ord_ok (xs l))
  have KO := Lib.hid (fun w hA => rorder_any A c l w hl HM.out hA)
  have X1 := Lib.hid (show bt p 2 = 1 → add (xs l) s now p = (rm (ord (xs l)) s (bt p 0) (bt p 2), dta p, true, 0) from fun e => by unfold add; rw [if_neg (by simpa using h0), if_pos e])
  have X2 := Lib.hid (show bt p 2 ≠ 1 → (fi (ord (xs l)) s (bt p 0) < (ord (xs l)).length ∧ ((ord (xs l)).getD (fi (ord (xs l)) s (bt p 0)) at0).c = bt p 2) → add (xs l) s now p = put (ord (xs l)) (fi (ord (xs l)) s (bt p 0)) (bt p 1).toNat (dta p) from fun e e2 => by unfold add; rw [if_neg (by simpa using h0), if_neg e, if_pos e2])
  have X3 := Lib.hid (fun (e : bt p 2 ≠ 1) e2 => add_new_is (l := xs l) (s := s) (now := now) h0 e e2)
  rw [h0] at K0
  generalize add (xs l) s now p = X at *
  generalize ord (xs l) = o at *
  have HB := Lib.hid (show (dta p).size ≤ 64 from by have := sz_le f4; rw [dta_size]; omega)
  have E3 : p.extract 3 p.size = dta p := ext_drop p 3
  rw [← bt_at p 2 p2] at f1 f2 f3 f4 X1 X2 X3
  rw [← bt_at p 1 p1] at f3 f4 X2 X3
  rw [← bt_at p 0 p0] at X1 X2 X3
  rw [Int.toNat_natCast] at X2 X3
  clear f4 h3 h0
  unfold OwnR at KO
  go_enter Try.func19, Try.ntmps19
  go_wp2_with fail
  refine K0.out.mono ?_
  rintro _ w1 ⟨rfl, hb⟩
  have B1 := Lib.hid hb
  clear hb K0
  go_wp2_with fail
  go_quiet (fail)
  generalize (p[0]'p0).toNat = x0 at *
  generalize (p[1]'p1).toNat = x1 at *
  generalize (p[2]'p2).toNat = x2 at *
  obtain ⟨wq, hwq⟩ : ∃ wq, wq = w1.drewN nq := ⟨_, rfl⟩
  rw [← hwq]
  have BQ := Lib.hid (show Below w.heap.size w wq from by rw [hwq]; exact below_drewN B1.out _)
  clear hwq B1
  go_wp2_with fail
  refine (KO.out _ (HA.out.next BQ.out)).mono ?_
  rintro _ w2 ⟨A1, c1, ys, rfl, hP, hx, hb⟩
  have B2 := Lib.hid (BQ.out.trans (hb.mono BQ.out.size))
  have P2 := Lib.hid (hP.down BQ.out.size)
  have Q2 := Lib.hid hx
  have yl : ys.length ≤ 8 := by have := O.out.len; rw [← hx] at this; simpa using this
  have KF := Lib.hid (rfind_any A1 c1 ys s (x0 : Int) w2 (by omega) hP.row.1)
  have FA := Lib.hid (show (fnI (xs ys) s (x0 : Int) = -1 ∧ ¬ fi o s (x0 : Int) < o.length) ∨ (fnI (xs ys) s (x0 : Int) = (fi o s (x0 : Int) : Nat) ∧ fi o s (x0 : Int) < o.length) from by
    rw [hx]
    unfold fnI
    by_cases q : fi o s (x0 : Int) < o.length
    · rw [if_pos q]; exact Or.inr ⟨rfl, q⟩
    · rw [if_neg q]; exact Or.inl ⟨rfl, q⟩)
  generalize fnI (xs ys) s (x0 : Int) = a at *
  clear hP hx hb KO HA HM BQ
  go_wp2_with fail
  refine KF.out.mono ?_
  rintro _ _ ⟨rfl, rfl⟩
  clear KF
  have TB := Lib.hid (show ∃ β : Bool, (β = true → ∃ k : Nat, a = k ∧ fi o s (x0 : Int) = k ∧ k < ys.length ∧ ¬ (o.getD k at0).c = (x2 : Int)) ∧ (β = false → St1 w w2 o s x0 x2 A1 c1 ys a) ∧ ((a = -1 ∧ β = false) ∨ ∃ (k : Nat) (cc : Int), a = k ∧ k < ys.length ∧ (o.getD k at0).c = cc ∧ β = (cc != (x2 : Int))) from by
    rcases FA.out with ⟨rfl, hf⟩ | ⟨rfl, hf⟩
    · exact ⟨false, fun q => (by cases q), fun _ => ⟨P2.out, B2.out, by rw [Q2.out, rm_none (by cases e : has o s x0 with | false => rfl | true => exact absurd (fi_has.1 e) hf)], Or.inl ⟨rfl, fun q => hf q.1⟩⟩, Or.inl ⟨rfl, rfl⟩⟩
    · have hky : fi o s (x0 : Int) < ys.length := by have := xs_len ys; rw [Q2.out] at this; omega
      refine ⟨(o.getD (fi o s (x0 : Int)) at0).c != (x2 : Int), fun q => ⟨_, rfl, rfl, hky, by simpa using q⟩, fun q => ?_, Or.inr ⟨_, _, rfl, hky, rfl, rfl⟩⟩
      have hc2 : (o.getD (fi o s (x0 : Int)) at0).c = (x2 : Int) := by simpa using q
      refine ⟨P2.out, B2.out, ?_, Or.inr ⟨rfl, hf, hc2, Q2.out⟩⟩
      rw [Q2.out]
      unfold rm
      rw [if_neg (fun q => q hc2)])
  obtain ⟨β, T1, T2, T3⟩ := TB.out
  have T1 := Lib.hid T1
  have T2 := Lib.hid T2
  have T3 := Lib.hid T3
  clear TB FA
  go_upto_region 7 with fail
  go_cut [50] (fun v wx => v = .bool β ∧ wx = w2)
  case first => as_aux_lemma =>
    rcases T3.out with ⟨rfl, rfl⟩ | ⟨k, cc, rfl, hky, hcc, rfl⟩
    · clear X1 X2 X3 O T1 T2 T3
      go_wp2_with fail
      go_meet
      case rel => exact ⟨rfl, rfl⟩
    · have GD : (o.getD k at0) = ys[k].x := by rw [← Q2.out]; exact xs_getD ys k hky
      rw [GD] at hcc
      obtain ⟨b, q, rfl, _, hc, _⟩ := hp_cell P2.out.row.1 k hky
      have g2 := hc.2.2.1
      rw [hcc] at g2
      have r0 : (k : Int) < (ys.length : Int) := by omega
      have r1 : (0 : Int) ≤ (k : Int) := by omega
      clear hc hcc GD X1 X2 X3 O T1 T2 T3 P2 Q2 B2
      go_wp2_with fail
      go_meet
      case rel => exact ⟨rfl, rfl⟩
  case rest => as_aux_lemma =>
  obtain ⟨rfl, rfl⟩ := hcut
  clear T3
  go_upto_if 50 with fail
  go_cut [16, 17] (fun u v wx => ∃ A c1 ys a, u = .slice A (List.length ys) c1 ∧ v = .int .i64 a ∧ Hid (St1 w wx o s x0 x2 A c1 ys a))
  case first => as_aux_lemma =>
    cases β with
    | false =>
      have ST := Lib.hid (T2.out rfl)
      clear X1 X2 X3 O T1 T2 P2 Q2 B2
      go_wp2_with fail
      go_meet
      case rel => exact ⟨A1, c1, ys, a, rfl, rfl, ST⟩
    | true =>
      obtain ⟨k, rfl, hk, hky, hc2⟩ := T1.out rfl
      have KR := Lib.hid (rremove_any A1 c1 ys (k : Int) w.heap.size wc (by omega) B2.out.size P2.out (ys.eraseIdx k) (by rw [if_pos (by omega), Int.toNat_natCast]))
      have RM := Lib.hid (show xs (ys.eraseIdx k) = rm o s x0 x2 from by
        rw [xs_erase, Q2.out]
        unfold rm
        rw [hk, if_pos hc2])
      have NF := Lib.hid (show ¬ (fi o s (x0 : Int) < o.length ∧ (o.getD (fi o s (x0 : Int)) at0).c = (x2 : Int)) from fun q => hc2 (by rw [hk] at q; exact q.2))
      clear X1 X2 X3 O P2 Q2 hc2 T1 T2 hk
      go_wp2_with fail
      refine KR.out.mono ?_
      rintro _ w3 ⟨A3, c3, rfl, h3, _, hb⟩
      have ST := Lib.hid (show St1 w w3 o s x0 x2 A3 c3 (ys.eraseIdx k) (-1) from ⟨h3, B2.out.trans (hb.mono B2.out.size), RM.out, Or.inl ⟨rfl, NF.out⟩⟩)
      clear h3 hb KR RM NF B2
      go_wp2_with fail
      go_meet
      case rel => exact ⟨A3, c3, ys.eraseIdx k, -1, rfl, rfl, ST⟩
  case rest => as_aux_lemma =>
    clear P2 Q2 B2 yl T1 T2
    obtain ⟨A1, c1, ys, a, rfl, rfl, ST⟩ := hcut
    by_cases hx2 : x2 = 1
    · have R := Lib.hid (X1.out (by omega))
      have PS := Lib.hid ST.out.1
      have BB := Lib.hid (fun n => below_drewN ST.out.2.1 n)
      have Q := Lib.hid ST.out.2.2.1
      have d3 : ((x2 : Int) == 1) = true := by simp; omega
      clear X1 X2 X3 ST hx2 O
      go_wp2_with fail
      go_quiet (fail)
      go_wp2_with fail
      rw [R.out]
      refine bodyPost_ret (v := .tuple #[.slice A1 ys.length c1, .string (dta p), .bool true, .int .i64 0]) (by simp [results, Try.results19, go_sem]) rfl ⟨A1, c1, ys, rfl, PS.out.below (below_drewN (Below.refl _ _) _), Q.out, BB.out _⟩
    have d3 : ((x2 : Int) == 1) = false := by simp; omega
    have X2 := Lib.hid (X2.out (by omega))
    have X3 := Lib.hid (X3.out (by omega))
    clear X1
    go_upto_if 60 with fail
    go_cut [16, 17] (fun u v wx => ∃ A c1 ys k, u = .slice A (List.length ys) c1 ∧ v = .int .i64 ((k : Nat) : Int) ∧ Hid (St2 w wx X x1 (dta p) A c1 ys k))
    case first => as_aux_lemma =>
      obtain ⟨P1, B1, Q1, S1⟩ := ST.out
      rcases S1 with ⟨rfl, hf⟩ | ⟨rfl, hf, hc2, hxo⟩
      rotate_left
      · have ST2 := Lib.hid (show St2 w _ X x1 (dta p) A1 c1 ys (fi o s (x0 : Int)) from ⟨P1, B1, by have := O.out.len; rw [← hxo] at this; simpa using this, ⟨by rw [← hxo] at hf ⊢; simpa using hf, by
          have v := valid_of_mem O.out _ hf
          rw [getD_at _ _ hf] at hc2
          have e : (ys[fi o s (x0 : Int)]'(by have := xs_len ys; rw [hxo] at this; omega)).x = o[fi o s (x0 : Int)] := by
            have := xs_at ys (fi o s (x0 : Int)) (by rw [hxo]; exact hf)
            rw [← this]
            congr 1
          rw [e]
          exact fit_valid v x1 (by rw [hc2]; omega)⟩, by rw [hxo]; exact X2.out ⟨hf, hc2⟩⟩)
        clear ST X2 X3 P1 B1 Q1 hc2 hxo O
        generalize fi o s (x0 : Int) = k at *
        have d4 : decide ((k : Int) < 0) = false := df (by omega)
        clear hf
        go_wp2_with fail
        go_meet
        case rel => exact ⟨A1, c1, ys, k, rfl, rfl, ST2⟩
      · have X3 := Lib.hid (X3.out hf)
        have RO := Lib.hid (room_ok (rm_ok O.out s x0 x2))
        have yl : ys.length ≤ 8 := by have := (rm_ok O.out s x0 x2).len; rw [← Q1] at this; simpa using this
        have P1 := Lib.hid P1
        have B1 := Lib.hid B1
        have Q1 := Lib.hid Q1
        clear ST X2 hf O
        go_upto_if 63 with fail
        go_cut [16] (fun u wx => ∃ A c1 ys, u = .slice A (List.length ys) c1 ∧ Hid (St3 w wx (room (rm o s x0 x2)) A c1 ys))
        case first => as_aux_lemma =>
          by_cases h8 : ys.length = 8
          · have d5 : ((ys.length : Int) == 8) = true := by simp; omega
            have KR := Lib.hid (rremove_any A1 c1 ys 0 w.heap.size wc (by omega) B1.out.size P1.out (ys.eraseIdx 0) (by rw [if_pos (by omega)]; rfl))
            have RM := Lib.hid (show xs (ys.eraseIdx 0) = room (rm o s x0 x2) from by
              rw [xs_erase, Q1.out]
              unfold room
              rw [if_pos (by rw [← Q1.out]; simpa using h8)])
            have L7 : (ys.eraseIdx 0).length ≤ 7 := by rw [List.length_eraseIdx, if_pos (by omega)]; omega
            clear h8
            generalize ys.eraseIdx 0 = E at KR RM L7
            go_wp2_with fail
            refine KR.out.mono ?_
            rintro _ w3 ⟨A3, c3, rfl, h3, _, hb⟩
            have ST := Lib.hid (show St3 w w3 (room (rm o s x0 x2)) A3 c3 E from ⟨h3, B1.out.trans (hb.mono B1.out.size), L7, RM.out⟩)
            clear h3 hb KR RM
            go_wp2_with fail
            go_meet
            case rel => exact ⟨A3, c3, E, rfl, ST⟩
          · have d5 : ((ys.length : Int) == 8) = false := by simp; omega
            have ST := Lib.hid (show St3 w wc (room (rm o s x0 x2)) A1 c1 ys from ⟨P1.out, B1.out, by omega, by
              rw [Q1.out]
              unfold room
              rw [if_neg (by rw [← Q1.out]; simpa using h8)]⟩)
            go_wp2_with fail
            go_meet
            case rel => exact ⟨A1, c1, ys, rfl, ST⟩
        case rest => as_aux_lemma =>
          clear P1 B1 Q1 yl RO
          obtain ⟨A1, c1, ys, rfl, ST⟩ := hcut
          obtain ⟨P3, B3, L7, Q3⟩ := ST.out
          have OW : OwnF fP 44 wc w.heap.size (.slice A1 ys.length c1) ys := by
            rcases P3.own with h | h
            · exact h
            · omega
          have mb := mk_bools x2 (by omega)
          have mt := mk_texts x2 (by omega)
          have KT := Lib.hid (fun w => rtick_any now w)
          have bd := below_drewN (Below.refl wc.heap.size wc) 1
          obtain ⟨wx, hwx⟩ : ∃ wx, wc.drew = wx := ⟨_, rfl⟩
          replace bd : Below wc.heap.size wc wx := by rw [← hwx]; exact bd
          have hsz : wc.heap.size = wx.heap.size := by rw [← hwx]; rfl
          have b1 := bd.trans (((alloc_below wx (.cells (madeCells #[.bool false] x2) 4)).trans ((alloc_below (wx.alloc (.cells (madeCells #[.bool false] x2) 4)) (.cells (madeCells #[.string ⟨#[]⟩] x2) 9)).mono (by simp))).mono bd.size)
          have b2 := bd.trans (((alloc_below wx (.cells (madeCells #[.string ⟨#[]⟩] x2) 9)).trans ((alloc_below (wx.alloc (.cells (madeCells #[.string ⟨#[]⟩] x2) 9)) (.cells (madeCells #[.bool false] x2) 4)).mono (by simp))).mono bd.size)
          have n1 : OwnN ((wx.alloc (.cells (madeCells #[.bool false] x2) 4)).alloc (.cells (madeCells #[.string ⟨#[]⟩] x2) 9)) wc.heap.size (newP s x0 x2 now wx.heap.size (wx.heap.size + 1)) := ⟨by have := (made_bools wx wc.heap.size x2 (by omega) (by omega)).below (alloc_below _ (.cells (madeCells #[.string ⟨#[]⟩] x2) 9)); simpa [nw] using this, by have := made_texts (wx.alloc (.cells (madeCells #[.bool false] x2) 4)) wc.heap.size x2 (by simp; omega) (by omega); simpa [nw] using this, by simp, by simp⟩
          have n2 : OwnN ((wx.alloc (.cells (madeCells #[.string ⟨#[]⟩] x2) 9)).alloc (.cells (madeCells #[.bool false] x2) 4)) wc.heap.size (newP s x0 x2 now (wx.heap.size + 1) wx.heap.size) := ⟨by have := made_bools (wx.alloc (.cells (madeCells #[.string ⟨#[]⟩] x2) 9)) wc.heap.size x2 (by simp; omega) (by omega); simpa [nw] using this, by have := (made_texts wx wc.heap.size x2 (by omega) (by omega)).below (alloc_below _ (.cells (madeCells #[.bool false] x2) 4)); simpa [nw] using this, by simp, by simp⟩
          obtain ⟨D1, e1, v1, zs1, hap1, hz1, hbb1, hxz1⟩ := grow_p B3.size OW P3.nest P3.ap (by omega) b1 s x0 x2 now _ _ n1 ⟨HS.out, by unfold I64; omega, by omega⟩
          obtain ⟨D2, e2, v2, zs2, hap2, hz2, hbb2, hxz2⟩ := grow_p B3.size OW P3.nest P3.ap (by omega) b2 s x0 x2 now _ _ n2 ⟨HS.out, by unfold I64; omega, by omega⟩
          have mkST : ∀ (v : World) (D : Option Addr) (e : Nat) (zs : List Hp), OwnP v w.heap.size D e zs → Below w.heap.size wc v → xs zs = xs ys ++ [nw s x0 x2 now] → St2 w v X x1 (dta p) D e zs ys.length := fun v D e zs h1 h2 h3 => by
            have lz : zs.length = ys.length + 1 := by have := congrArg List.length h3; simpa using this
            refine ⟨h1, B3.trans h2, by omega, ⟨by omega, ?_⟩, ?_⟩
            · have e : (zs[ys.length]'(by omega)).x = nw s x0 x2 now := by
                have := xs_getD zs ys.length (by omega)
                rw [h3] at this
                rw [← this]
                have q := getD_end (xs ys) (nw s x0 x2 now)
                rw [xs_len] at q
                exact q
              rw [e]
              exact fit_new s x0 x2 now x1 (by omega) (by omega)
            · rw [X3.out, ← Q3, h3, xs_len]
          have ST1 := Lib.hid (mkST _ _ _ _ hz1 hbb1 hxz1)
          have ST2 := Lib.hid (mkST _ _ _ _ hz2 hbb2 hxz2)
          simp only [World.size_alloc, newB] at hap1 hap2
          obtain ⟨ZB, hZB⟩ : ∃ Z, madeCells #[.bool false] x2 = Z := ⟨_, rfl⟩
          obtain ⟨ZS, hZS⟩ : ∃ Z, madeCells #[.string ⟨#[]⟩] x2 = Z := ⟨_, rfl⟩
          simp only [hZB, hZS] at mb mt hap1 hap2
          have mb := Lib.hid mb
          have mt := Lib.hid mt
          obtain ⟨tk, htk⟩ : ∃ t, tick now = t := ⟨_, rfl⟩
          simp only [htk] at hap1 hap2 KT
          clear hZB hZS htk
          clear mkST n1 n2 b1 b2 bd hsz OW P3 B3 ST Q3 hz1 hz2 hbb1 hbb2 hxz1 hxz2 X3
          go_wp2_with fail
          refine wp_region_held_drew (S := (fun _ => True)) (by kernel_rfl) (trivial) (fun hHeld => ?_)
          rw [hwx]
          refine wpAnyH_take (i := 0) (v := (.slice A1 ys.length c1)) at_zero (by kernel_rfl) (by kernel_rfl) (by kernel_rfl) (fun _ _ _ h => h) (Or.inl ⟨by kernel_rfl, fun wy hSw => ?_⟩) (by assumption) ?_
          · (try dsimp only at hSw); go_simp
          try simp only [Act.put, List.setIfInBounds_toArray, List.set_cons_zero, List.set_cons_succ]
          refine wpAnyH_take (i := 1) (v := (.int .i64 s)) (at_succ at_zero) (by kernel_rfl) (by kernel_rfl) (by kernel_rfl) (fun _ _ _ h => h) (Or.inl ⟨by kernel_rfl, fun wy hSw => ?_⟩) (by assumption) ?_
          · (try dsimp only at hSw); go_simp
          try simp only [Act.put, List.setIfInBounds_toArray, List.set_cons_zero, List.set_cons_succ]
          refine wpAnyH_take (i := 2) (v := (.int .i64 (x0 : Int))) (at_succ (at_succ at_zero)) (by kernel_rfl) (by kernel_rfl) (by kernel_rfl) (fun _ _ _ h => h) (Or.inl ⟨by kernel_rfl, fun wy hSw => ?_⟩) (by assumption) ?_
          · (try dsimp only at hSw); go_simp
          try simp only [Act.put, List.setIfInBounds_toArray, List.set_cons_zero, List.set_cons_succ]
          refine wpAnyH_take (i := 3) (v := (.int .i64 (x2 : Int))) (at_succ (at_succ (at_succ at_zero))) (by kernel_rfl) (by kernel_rfl) (by kernel_rfl) (fun _ _ _ h => h) (Or.inl ⟨by kernel_rfl, fun wy hSw => ?_⟩) (by assumption) ?_
          · (try dsimp only at hSw); go_simp
          try simp only [Act.put, List.setIfInBounds_toArray, List.set_cons_zero, List.set_cons_succ]
          refine wpAnyH_take (i := 4) (v := (.int .i64 now)) (at_succ (at_succ (at_succ (at_succ at_zero)))) (by kernel_rfl) (by kernel_rfl) (by kernel_rfl) (fun _ _ _ h => h) (Or.inl ⟨by kernel_rfl, fun wy hSw => ?_⟩) (by assumption) ?_
          · (try dsimp only at hSw); go_simp
          try simp only [Act.put, List.setIfInBounds_toArray, List.set_cons_zero, List.set_cons_succ]
          refine wpAnyH_take (i := 6) (v := (.int .i64 (x2 : Int))) (at_succ (at_succ (at_succ (at_succ (at_succ (at_succ at_zero)))))) (by kernel_rfl) (by kernel_rfl) (by kernel_rfl) (fun _ _ _ h => h) (Or.inl ⟨by kernel_rfl, fun wy hSw => ?_⟩) (by assumption) ?_
          · (try dsimp only at hSw); go_simp
          try simp only [Act.put, List.setIfInBounds_toArray, List.set_cons_zero, List.set_cons_succ]
          refine wpAnyH_take (i := 8) (v := (.int .i64 (x2 : Int))) (at_succ (at_succ (at_succ (at_succ (at_succ (at_succ (at_succ (at_succ at_zero)))))))) (by kernel_rfl) (by kernel_rfl) (by kernel_rfl) (fun _ _ _ h => h) (Or.inl ⟨by kernel_rfl, fun wy hSw => ?_⟩) (by assumption) ?_
          · (try dsimp only at hSw); go_simp
          try simp only [Act.put, List.setIfInBounds_toArray, List.set_cons_zero, List.set_cons_succ]
          refine wpAnyH_ready (rs := [5, 7, 9]) (by kernel_rfl) (by simp) ?_
          refine AllReadyH.cons (at_succ (at_succ (at_succ (at_succ (at_succ at_zero))))) (fun K hK => ?_) (AllReadyH.cons (at_succ (at_succ (at_succ (at_succ (at_succ (at_succ (at_succ at_zero))))))) (fun K hK => ?_) (AllReadyH.cons (at_succ (at_succ (at_succ (at_succ (at_succ (at_succ (at_succ (at_succ (at_succ at_zero))))))))) (fun K hK => ?_) (AllReadyH.nil)))
          · rw [if_pos (by kernel_rfl)]
            go_simp
            refine (KT.out _).mono ?_
            rintro _ _ ⟨rfl, rfl⟩
            go_wp2_with fail
            refine hK.out _ _ trivial (fun hHeld => ?_)
            clear hK K
            try simp only [Act.put, List.setIfInBounds_toArray, List.set_cons_zero, List.set_cons_succ]
            refine wpAnyH_ready (rs := [7, 9]) (by kernel_rfl) (by simp) ?_
            refine AllReadyH.cons (at_succ (at_succ (at_succ (at_succ (at_succ (at_succ (at_succ at_zero))))))) (fun K hK => ?_) (AllReadyH.cons (at_succ (at_succ (at_succ (at_succ (at_succ (at_succ (at_succ (at_succ (at_succ at_zero))))))))) (fun K hK => ?_) (AllReadyH.nil))
            · rw [if_pos (by kernel_rfl)]
              refine wp_make_run _ _ _ _ rfl _ _ rfl rfl _ _ (mb.out _) ?_
              refine hK.out _ _ trivial (fun hHeld => ?_)
              clear hK K
              try simp only [Act.put, List.setIfInBounds_toArray, List.set_cons_zero, List.set_cons_succ]
              refine wpAnyH_ready (rs := [9]) (by kernel_rfl) (by simp) ?_
              refine AllReadyH.cons (at_succ (at_succ (at_succ (at_succ (at_succ (at_succ (at_succ (at_succ (at_succ at_zero))))))))) (fun K hK => ?_) (AllReadyH.nil)
              · rw [if_pos (by kernel_rfl)]
                refine wp_make_run _ _ _ _ rfl _ _ rfl rfl _ _ (mt.out _) ?_
                refine hK.out _ _ trivial (fun hHeld => ?_)
                clear hK K
                try simp only [Act.put, List.setIfInBounds_toArray, List.set_cons_zero, List.set_cons_succ]
                refine wpAnyH_take (i := 10) (v := (.agg #[.int .i64 s, .int .i64 (x0 : Int), .int .i64 (x2 : Int), .int .i64 tk, .slice (some ⟨wx.heap.size, 0, none⟩) x2 x2, .slice (some ⟨wx.heap.size + 1, 0, none⟩) x2 x2])) (at_succ (at_succ (at_succ (at_succ (at_succ (at_succ (at_succ (at_succ (at_succ (at_succ at_zero)))))))))) (by kernel_rfl) (by kernel_rfl) (by kernel_rfl) (fun _ _ _ h => h) (Or.inl ⟨by kernel_rfl, fun wy hSw => ?_⟩) (by assumption) ?_
                · refine ex_build 44 _ rfl #[(0, .int .i64 s), (1, .int .i64 (x0 : Int)), (2, .int .i64 (x2 : Int)), (3, .int .i64 tk), (4, .slice (some ⟨wx.heap.size, 0, none⟩) x2 x2), (5, .slice (some ⟨wx.heap.size + 1, 0, none⟩) x2 x2)] ?_ _ (built_p _ _ _ _ _ _ _ _ _ _); go_simp
                try simp only [Act.put, List.setIfInBounds_toArray, List.set_cons_zero, List.set_cons_succ]
                refine wpAnyH_ready (rs := [11]) (by kernel_rfl) (by simp) ?_
                refine AllReadyH.cons (at_succ (at_succ (at_succ (at_succ (at_succ (at_succ (at_succ (at_succ (at_succ (at_succ (at_succ at_zero))))))))))) (fun K hK => ?_) AllReadyH.nil
                rw [if_pos (by kernel_rfl)]
                refine wp_bsl_run _ _ _ _ rfl #[(0, .agg #[.int .i64 s, .int .i64 (x0 : Int), .int .i64 (x2 : Int), .int .i64 tk, .slice (some ⟨wx.heap.size, 0, none⟩) x2 x2, .slice (some ⟨wx.heap.size + 1, 0, none⟩) x2 x2])] (by go_simp) _ _ (bsl_p _ _ _ _ _ _ _ _ _ _ _) ?_
                refine hK.out _ _ (trivial) (fun hHeld => ?_)
                clear hK K
                try simp only [Act.put, List.setIfInBounds_toArray, List.set_cons_zero, List.set_cons_succ]
                simp only [World.size_alloc]
                refine wpAnyH_ready (rs := [12]) (by kernel_rfl) (by simp) ?_
                refine AllReadyH.cons (at_succ (at_succ (at_succ (at_succ (at_succ (at_succ (at_succ (at_succ (at_succ (at_succ (at_succ (at_succ at_zero)))))))))))) (fun K hK => ?_) AllReadyH.nil
                rw [if_pos (by kernel_rfl)]
                refine Lib.wp_append_run _ _ _ _ _ rfl _ _ rfl rfl _ _ hap1 ?_
                refine hK.out _ _ (trivial) (fun hHeld => ?_)
                clear hK K
                try simp only [Act.put, List.setIfInBounds_toArray, List.set_cons_zero, List.set_cons_succ]
                refine wpAnyH_take (i := 13) (v := (.slice D1 zs1.length e1)) (at_succ (at_succ (at_succ (at_succ (at_succ (at_succ (at_succ (at_succ (at_succ (at_succ (at_succ (at_succ (at_succ at_zero))))))))))))) (by kernel_rfl) (by kernel_rfl) (by kernel_rfl) (fun _ _ _ h => h) (Or.inl ⟨by kernel_rfl, fun wy hSw => ?_⟩) (by assumption) ?_
                · (try dsimp only at hSw); go_simp
                try simp only [Act.put, List.setIfInBounds_toArray, List.set_cons_zero, List.set_cons_succ]
                refine wpAnyH_done (by kernel_rfl) ?_ _
                go_wp2_with fail
                go_meet
                case rel => exact ⟨D1, e1, zs1, ys.length, rfl, rfl, ST1⟩
            · rw [if_pos (by kernel_rfl)]
              refine wp_make_run _ _ _ _ rfl _ _ rfl rfl _ _ (mt.out _) ?_
              refine hK.out _ _ trivial (fun hHeld => ?_)
              clear hK K
              try simp only [Act.put, List.setIfInBounds_toArray, List.set_cons_zero, List.set_cons_succ]
              refine wpAnyH_ready (rs := [7]) (by kernel_rfl) (by simp) ?_
              refine AllReadyH.cons (at_succ (at_succ (at_succ (at_succ (at_succ (at_succ (at_succ at_zero))))))) (fun K hK => ?_) (AllReadyH.nil)
              · rw [if_pos (by kernel_rfl)]
                refine wp_make_run _ _ _ _ rfl _ _ rfl rfl _ _ (mb.out _) ?_
                refine hK.out _ _ trivial (fun hHeld => ?_)
                clear hK K
                try simp only [Act.put, List.setIfInBounds_toArray, List.set_cons_zero, List.set_cons_succ]
                refine wpAnyH_take (i := 10) (v := (.agg #[.int .i64 s, .int .i64 (x0 : Int), .int .i64 (x2 : Int), .int .i64 tk, .slice (some ⟨wx.heap.size + 1, 0, none⟩) x2 x2, .slice (some ⟨wx.heap.size, 0, none⟩) x2 x2])) (at_succ (at_succ (at_succ (at_succ (at_succ (at_succ (at_succ (at_succ (at_succ (at_succ at_zero)))))))))) (by kernel_rfl) (by kernel_rfl) (by kernel_rfl) (fun _ _ _ h => h) (Or.inl ⟨by kernel_rfl, fun wy hSw => ?_⟩) (by assumption) ?_
                · refine ex_build 44 _ rfl #[(0, .int .i64 s), (1, .int .i64 (x0 : Int)), (2, .int .i64 (x2 : Int)), (3, .int .i64 tk), (4, .slice (some ⟨wx.heap.size + 1, 0, none⟩) x2 x2), (5, .slice (some ⟨wx.heap.size, 0, none⟩) x2 x2)] ?_ _ (built_p _ _ _ _ _ _ _ _ _ _); go_simp
                try simp only [Act.put, List.setIfInBounds_toArray, List.set_cons_zero, List.set_cons_succ]
                refine wpAnyH_ready (rs := [11]) (by kernel_rfl) (by simp) ?_
                refine AllReadyH.cons (at_succ (at_succ (at_succ (at_succ (at_succ (at_succ (at_succ (at_succ (at_succ (at_succ (at_succ at_zero))))))))))) (fun K hK => ?_) AllReadyH.nil
                rw [if_pos (by kernel_rfl)]
                refine wp_bsl_run _ _ _ _ rfl #[(0, .agg #[.int .i64 s, .int .i64 (x0 : Int), .int .i64 (x2 : Int), .int .i64 tk, .slice (some ⟨wx.heap.size + 1, 0, none⟩) x2 x2, .slice (some ⟨wx.heap.size, 0, none⟩) x2 x2])] (by go_simp) _ _ (bsl_p _ _ _ _ _ _ _ _ _ _ _) ?_
                refine hK.out _ _ (trivial) (fun hHeld => ?_)
                clear hK K
                try simp only [Act.put, List.setIfInBounds_toArray, List.set_cons_zero, List.set_cons_succ]
                simp only [World.size_alloc]
                refine wpAnyH_ready (rs := [12]) (by kernel_rfl) (by simp) ?_
                refine AllReadyH.cons (at_succ (at_succ (at_succ (at_succ (at_succ (at_succ (at_succ (at_succ (at_succ (at_succ (at_succ (at_succ at_zero)))))))))))) (fun K hK => ?_) AllReadyH.nil
                rw [if_pos (by kernel_rfl)]
                refine Lib.wp_append_run _ _ _ _ _ rfl _ _ rfl rfl _ _ hap2 ?_
                refine hK.out _ _ (trivial) (fun hHeld => ?_)
                clear hK K
                try simp only [Act.put, List.setIfInBounds_toArray, List.set_cons_zero, List.set_cons_succ]
                refine wpAnyH_take (i := 13) (v := (.slice D2 zs2.length e2)) (at_succ (at_succ (at_succ (at_succ (at_succ (at_succ (at_succ (at_succ (at_succ (at_succ (at_succ (at_succ (at_succ at_zero))))))))))))) (by kernel_rfl) (by kernel_rfl) (by kernel_rfl) (fun _ _ _ h => h) (Or.inl ⟨by kernel_rfl, fun wy hSw => ?_⟩) (by assumption) ?_
                · (try dsimp only at hSw); go_simp
                try simp only [Act.put, List.setIfInBounds_toArray, List.set_cons_zero, List.set_cons_succ]
                refine wpAnyH_done (by kernel_rfl) ?_ _
                go_wp2_with fail
                go_meet
                case rel => exact ⟨D2, e2, zs2, ys.length, rfl, rfl, ST2⟩
          · rw [if_pos (by kernel_rfl)]
            refine wp_make_run _ _ _ _ rfl _ _ rfl rfl _ _ (mb.out _) ?_
            refine hK.out _ _ trivial (fun hHeld => ?_)
            clear hK K
            try simp only [Act.put, List.setIfInBounds_toArray, List.set_cons_zero, List.set_cons_succ]
            refine wpAnyH_ready (rs := [5, 9]) (by kernel_rfl) (by simp) ?_
            refine AllReadyH.cons (at_succ (at_succ (at_succ (at_succ (at_succ at_zero))))) (fun K hK => ?_) (AllReadyH.cons (at_succ (at_succ (at_succ (at_succ (at_succ (at_succ (at_succ (at_succ (at_succ at_zero))))))))) (fun K hK => ?_) (AllReadyH.nil))
            · rw [if_pos (by kernel_rfl)]
              go_simp
              refine (KT.out _).mono ?_
              rintro _ _ ⟨rfl, rfl⟩
              go_wp2_with fail
              refine hK.out _ _ trivial (fun hHeld => ?_)
              clear hK K
              try simp only [Act.put, List.setIfInBounds_toArray, List.set_cons_zero, List.set_cons_succ]
              refine wpAnyH_ready (rs := [9]) (by kernel_rfl) (by simp) ?_
              refine AllReadyH.cons (at_succ (at_succ (at_succ (at_succ (at_succ (at_succ (at_succ (at_succ (at_succ at_zero))))))))) (fun K hK => ?_) (AllReadyH.nil)
              · rw [if_pos (by kernel_rfl)]
                refine wp_make_run _ _ _ _ rfl _ _ rfl rfl _ _ (mt.out _) ?_
                refine hK.out _ _ trivial (fun hHeld => ?_)
                clear hK K
                try simp only [Act.put, List.setIfInBounds_toArray, List.set_cons_zero, List.set_cons_succ]
                refine wpAnyH_take (i := 10) (v := (.agg #[.int .i64 s, .int .i64 (x0 : Int), .int .i64 (x2 : Int), .int .i64 tk, .slice (some ⟨wx.heap.size, 0, none⟩) x2 x2, .slice (some ⟨wx.heap.size + 1, 0, none⟩) x2 x2])) (at_succ (at_succ (at_succ (at_succ (at_succ (at_succ (at_succ (at_succ (at_succ (at_succ at_zero)))))))))) (by kernel_rfl) (by kernel_rfl) (by kernel_rfl) (fun _ _ _ h => h) (Or.inl ⟨by kernel_rfl, fun wy hSw => ?_⟩) (by assumption) ?_
                · refine ex_build 44 _ rfl #[(0, .int .i64 s), (1, .int .i64 (x0 : Int)), (2, .int .i64 (x2 : Int)), (3, .int .i64 tk), (4, .slice (some ⟨wx.heap.size, 0, none⟩) x2 x2), (5, .slice (some ⟨wx.heap.size + 1, 0, none⟩) x2 x2)] ?_ _ (built_p _ _ _ _ _ _ _ _ _ _); go_simp
                try simp only [Act.put, List.setIfInBounds_toArray, List.set_cons_zero, List.set_cons_succ]
                refine wpAnyH_ready (rs := [11]) (by kernel_rfl) (by simp) ?_
                refine AllReadyH.cons (at_succ (at_succ (at_succ (at_succ (at_succ (at_succ (at_succ (at_succ (at_succ (at_succ (at_succ at_zero))))))))))) (fun K hK => ?_) AllReadyH.nil
                rw [if_pos (by kernel_rfl)]
                refine wp_bsl_run _ _ _ _ rfl #[(0, .agg #[.int .i64 s, .int .i64 (x0 : Int), .int .i64 (x2 : Int), .int .i64 tk, .slice (some ⟨wx.heap.size, 0, none⟩) x2 x2, .slice (some ⟨wx.heap.size + 1, 0, none⟩) x2 x2])] (by go_simp) _ _ (bsl_p _ _ _ _ _ _ _ _ _ _ _) ?_
                refine hK.out _ _ (trivial) (fun hHeld => ?_)
                clear hK K
                try simp only [Act.put, List.setIfInBounds_toArray, List.set_cons_zero, List.set_cons_succ]
                simp only [World.size_alloc]
                refine wpAnyH_ready (rs := [12]) (by kernel_rfl) (by simp) ?_
                refine AllReadyH.cons (at_succ (at_succ (at_succ (at_succ (at_succ (at_succ (at_succ (at_succ (at_succ (at_succ (at_succ (at_succ at_zero)))))))))))) (fun K hK => ?_) AllReadyH.nil
                rw [if_pos (by kernel_rfl)]
                refine Lib.wp_append_run _ _ _ _ _ rfl _ _ rfl rfl _ _ hap1 ?_
                refine hK.out _ _ (trivial) (fun hHeld => ?_)
                clear hK K
                try simp only [Act.put, List.setIfInBounds_toArray, List.set_cons_zero, List.set_cons_succ]
                refine wpAnyH_take (i := 13) (v := (.slice D1 zs1.length e1)) (at_succ (at_succ (at_succ (at_succ (at_succ (at_succ (at_succ (at_succ (at_succ (at_succ (at_succ (at_succ (at_succ at_zero))))))))))))) (by kernel_rfl) (by kernel_rfl) (by kernel_rfl) (fun _ _ _ h => h) (Or.inl ⟨by kernel_rfl, fun wy hSw => ?_⟩) (by assumption) ?_
                · (try dsimp only at hSw); go_simp
                try simp only [Act.put, List.setIfInBounds_toArray, List.set_cons_zero, List.set_cons_succ]
                refine wpAnyH_done (by kernel_rfl) ?_ _
                go_wp2_with fail
                go_meet
                case rel => exact ⟨D1, e1, zs1, ys.length, rfl, rfl, ST1⟩
            · rw [if_pos (by kernel_rfl)]
              refine wp_make_run _ _ _ _ rfl _ _ rfl rfl _ _ (mt.out _) ?_
              refine hK.out _ _ trivial (fun hHeld => ?_)
              clear hK K
              try simp only [Act.put, List.setIfInBounds_toArray, List.set_cons_zero, List.set_cons_succ]
              refine wpAnyH_ready (rs := [5]) (by kernel_rfl) (by simp) ?_
              refine AllReadyH.cons (at_succ (at_succ (at_succ (at_succ (at_succ at_zero))))) (fun K hK => ?_) (AllReadyH.nil)
              · rw [if_pos (by kernel_rfl)]
                go_simp
                refine (KT.out _).mono ?_
                rintro _ _ ⟨rfl, rfl⟩
                go_wp2_with fail
                refine hK.out _ _ trivial (fun hHeld => ?_)
                clear hK K
                try simp only [Act.put, List.setIfInBounds_toArray, List.set_cons_zero, List.set_cons_succ]
                refine wpAnyH_take (i := 10) (v := (.agg #[.int .i64 s, .int .i64 (x0 : Int), .int .i64 (x2 : Int), .int .i64 tk, .slice (some ⟨wx.heap.size, 0, none⟩) x2 x2, .slice (some ⟨wx.heap.size + 1, 0, none⟩) x2 x2])) (at_succ (at_succ (at_succ (at_succ (at_succ (at_succ (at_succ (at_succ (at_succ (at_succ at_zero)))))))))) (by kernel_rfl) (by kernel_rfl) (by kernel_rfl) (fun _ _ _ h => h) (Or.inl ⟨by kernel_rfl, fun wy hSw => ?_⟩) (by assumption) ?_
                · refine ex_build 44 _ rfl #[(0, .int .i64 s), (1, .int .i64 (x0 : Int)), (2, .int .i64 (x2 : Int)), (3, .int .i64 tk), (4, .slice (some ⟨wx.heap.size, 0, none⟩) x2 x2), (5, .slice (some ⟨wx.heap.size + 1, 0, none⟩) x2 x2)] ?_ _ (built_p _ _ _ _ _ _ _ _ _ _); go_simp
                try simp only [Act.put, List.setIfInBounds_toArray, List.set_cons_zero, List.set_cons_succ]
                refine wpAnyH_ready (rs := [11]) (by kernel_rfl) (by simp) ?_
                refine AllReadyH.cons (at_succ (at_succ (at_succ (at_succ (at_succ (at_succ (at_succ (at_succ (at_succ (at_succ (at_succ at_zero))))))))))) (fun K hK => ?_) AllReadyH.nil
                rw [if_pos (by kernel_rfl)]
                refine wp_bsl_run _ _ _ _ rfl #[(0, .agg #[.int .i64 s, .int .i64 (x0 : Int), .int .i64 (x2 : Int), .int .i64 tk, .slice (some ⟨wx.heap.size, 0, none⟩) x2 x2, .slice (some ⟨wx.heap.size + 1, 0, none⟩) x2 x2])] (by go_simp) _ _ (bsl_p _ _ _ _ _ _ _ _ _ _ _) ?_
                refine hK.out _ _ (trivial) (fun hHeld => ?_)
                clear hK K
                try simp only [Act.put, List.setIfInBounds_toArray, List.set_cons_zero, List.set_cons_succ]
                simp only [World.size_alloc]
                refine wpAnyH_ready (rs := [12]) (by kernel_rfl) (by simp) ?_
                refine AllReadyH.cons (at_succ (at_succ (at_succ (at_succ (at_succ (at_succ (at_succ (at_succ (at_succ (at_succ (at_succ (at_succ at_zero)))))))))))) (fun K hK => ?_) AllReadyH.nil
                rw [if_pos (by kernel_rfl)]
                refine Lib.wp_append_run _ _ _ _ _ rfl _ _ rfl rfl _ _ hap1 ?_
                refine hK.out _ _ (trivial) (fun hHeld => ?_)
                clear hK K
                try simp only [Act.put, List.setIfInBounds_toArray, List.set_cons_zero, List.set_cons_succ]
                refine wpAnyH_take (i := 13) (v := (.slice D1 zs1.length e1)) (at_succ (at_succ (at_succ (at_succ (at_succ (at_succ (at_succ (at_succ (at_succ (at_succ (at_succ (at_succ (at_succ at_zero))))))))))))) (by kernel_rfl) (by kernel_rfl) (by kernel_rfl) (fun _ _ _ h => h) (Or.inl ⟨by kernel_rfl, fun wy hSw => ?_⟩) (by assumption) ?_
                · (try dsimp only at hSw); go_simp
                try simp only [Act.put, List.setIfInBounds_toArray, List.set_cons_zero, List.set_cons_succ]
                refine wpAnyH_done (by kernel_rfl) ?_ _
                go_wp2_with fail
                go_meet
                case rel => exact ⟨D1, e1, zs1, ys.length, rfl, rfl, ST1⟩
          · rw [if_pos (by kernel_rfl)]
            refine wp_make_run _ _ _ _ rfl _ _ rfl rfl _ _ (mt.out _) ?_
            refine hK.out _ _ trivial (fun hHeld => ?_)
            clear hK K
            try simp only [Act.put, List.setIfInBounds_toArray, List.set_cons_zero, List.set_cons_succ]
            refine wpAnyH_ready (rs := [5, 7]) (by kernel_rfl) (by simp) ?_
            refine AllReadyH.cons (at_succ (at_succ (at_succ (at_succ (at_succ at_zero))))) (fun K hK => ?_) (AllReadyH.cons (at_succ (at_succ (at_succ (at_succ (at_succ (at_succ (at_succ at_zero))))))) (fun K hK => ?_) (AllReadyH.nil))
            · rw [if_pos (by kernel_rfl)]
              go_simp
              refine (KT.out _).mono ?_
              rintro _ _ ⟨rfl, rfl⟩
              go_wp2_with fail
              refine hK.out _ _ trivial (fun hHeld => ?_)
              clear hK K
              try simp only [Act.put, List.setIfInBounds_toArray, List.set_cons_zero, List.set_cons_succ]
              refine wpAnyH_ready (rs := [7]) (by kernel_rfl) (by simp) ?_
              refine AllReadyH.cons (at_succ (at_succ (at_succ (at_succ (at_succ (at_succ (at_succ at_zero))))))) (fun K hK => ?_) (AllReadyH.nil)
              · rw [if_pos (by kernel_rfl)]
                refine wp_make_run _ _ _ _ rfl _ _ rfl rfl _ _ (mb.out _) ?_
                refine hK.out _ _ trivial (fun hHeld => ?_)
                clear hK K
                try simp only [Act.put, List.setIfInBounds_toArray, List.set_cons_zero, List.set_cons_succ]
                refine wpAnyH_take (i := 10) (v := (.agg #[.int .i64 s, .int .i64 (x0 : Int), .int .i64 (x2 : Int), .int .i64 tk, .slice (some ⟨wx.heap.size + 1, 0, none⟩) x2 x2, .slice (some ⟨wx.heap.size, 0, none⟩) x2 x2])) (at_succ (at_succ (at_succ (at_succ (at_succ (at_succ (at_succ (at_succ (at_succ (at_succ at_zero)))))))))) (by kernel_rfl) (by kernel_rfl) (by kernel_rfl) (fun _ _ _ h => h) (Or.inl ⟨by kernel_rfl, fun wy hSw => ?_⟩) (by assumption) ?_
                · refine ex_build 44 _ rfl #[(0, .int .i64 s), (1, .int .i64 (x0 : Int)), (2, .int .i64 (x2 : Int)), (3, .int .i64 tk), (4, .slice (some ⟨wx.heap.size + 1, 0, none⟩) x2 x2), (5, .slice (some ⟨wx.heap.size, 0, none⟩) x2 x2)] ?_ _ (built_p _ _ _ _ _ _ _ _ _ _); go_simp
                try simp only [Act.put, List.setIfInBounds_toArray, List.set_cons_zero, List.set_cons_succ]
                refine wpAnyH_ready (rs := [11]) (by kernel_rfl) (by simp) ?_
                refine AllReadyH.cons (at_succ (at_succ (at_succ (at_succ (at_succ (at_succ (at_succ (at_succ (at_succ (at_succ (at_succ at_zero))))))))))) (fun K hK => ?_) AllReadyH.nil
                rw [if_pos (by kernel_rfl)]
                refine wp_bsl_run _ _ _ _ rfl #[(0, .agg #[.int .i64 s, .int .i64 (x0 : Int), .int .i64 (x2 : Int), .int .i64 tk, .slice (some ⟨wx.heap.size + 1, 0, none⟩) x2 x2, .slice (some ⟨wx.heap.size, 0, none⟩) x2 x2])] (by go_simp) _ _ (bsl_p _ _ _ _ _ _ _ _ _ _ _) ?_
                refine hK.out _ _ (trivial) (fun hHeld => ?_)
                clear hK K
                try simp only [Act.put, List.setIfInBounds_toArray, List.set_cons_zero, List.set_cons_succ]
                simp only [World.size_alloc]
                refine wpAnyH_ready (rs := [12]) (by kernel_rfl) (by simp) ?_
                refine AllReadyH.cons (at_succ (at_succ (at_succ (at_succ (at_succ (at_succ (at_succ (at_succ (at_succ (at_succ (at_succ (at_succ at_zero)))))))))))) (fun K hK => ?_) AllReadyH.nil
                rw [if_pos (by kernel_rfl)]
                refine Lib.wp_append_run _ _ _ _ _ rfl _ _ rfl rfl _ _ hap2 ?_
                refine hK.out _ _ (trivial) (fun hHeld => ?_)
                clear hK K
                try simp only [Act.put, List.setIfInBounds_toArray, List.set_cons_zero, List.set_cons_succ]
                refine wpAnyH_take (i := 13) (v := (.slice D2 zs2.length e2)) (at_succ (at_succ (at_succ (at_succ (at_succ (at_succ (at_succ (at_succ (at_succ (at_succ (at_succ (at_succ (at_succ at_zero))))))))))))) (by kernel_rfl) (by kernel_rfl) (by kernel_rfl) (fun _ _ _ h => h) (Or.inl ⟨by kernel_rfl, fun wy hSw => ?_⟩) (by assumption) ?_
                · (try dsimp only at hSw); go_simp
                try simp only [Act.put, List.setIfInBounds_toArray, List.set_cons_zero, List.set_cons_succ]
                refine wpAnyH_done (by kernel_rfl) ?_ _
                go_wp2_with fail
                go_meet
                case rel => exact ⟨D2, e2, zs2, ys.length, rfl, rfl, ST2⟩
            · rw [if_pos (by kernel_rfl)]
              refine wp_make_run _ _ _ _ rfl _ _ rfl rfl _ _ (mb.out _) ?_
              refine hK.out _ _ trivial (fun hHeld => ?_)
              clear hK K
              try simp only [Act.put, List.setIfInBounds_toArray, List.set_cons_zero, List.set_cons_succ]
              refine wpAnyH_ready (rs := [5]) (by kernel_rfl) (by simp) ?_
              refine AllReadyH.cons (at_succ (at_succ (at_succ (at_succ (at_succ at_zero))))) (fun K hK => ?_) (AllReadyH.nil)
              · rw [if_pos (by kernel_rfl)]
                go_simp
                refine (KT.out _).mono ?_
                rintro _ _ ⟨rfl, rfl⟩
                go_wp2_with fail
                refine hK.out _ _ trivial (fun hHeld => ?_)
                clear hK K
                try simp only [Act.put, List.setIfInBounds_toArray, List.set_cons_zero, List.set_cons_succ]
                refine wpAnyH_take (i := 10) (v := (.agg #[.int .i64 s, .int .i64 (x0 : Int), .int .i64 (x2 : Int), .int .i64 tk, .slice (some ⟨wx.heap.size + 1, 0, none⟩) x2 x2, .slice (some ⟨wx.heap.size, 0, none⟩) x2 x2])) (at_succ (at_succ (at_succ (at_succ (at_succ (at_succ (at_succ (at_succ (at_succ (at_succ at_zero)))))))))) (by kernel_rfl) (by kernel_rfl) (by kernel_rfl) (fun _ _ _ h => h) (Or.inl ⟨by kernel_rfl, fun wy hSw => ?_⟩) (by assumption) ?_
                · refine ex_build 44 _ rfl #[(0, .int .i64 s), (1, .int .i64 (x0 : Int)), (2, .int .i64 (x2 : Int)), (3, .int .i64 tk), (4, .slice (some ⟨wx.heap.size + 1, 0, none⟩) x2 x2), (5, .slice (some ⟨wx.heap.size, 0, none⟩) x2 x2)] ?_ _ (built_p _ _ _ _ _ _ _ _ _ _); go_simp
                try simp only [Act.put, List.setIfInBounds_toArray, List.set_cons_zero, List.set_cons_succ]
                refine wpAnyH_ready (rs := [11]) (by kernel_rfl) (by simp) ?_
                refine AllReadyH.cons (at_succ (at_succ (at_succ (at_succ (at_succ (at_succ (at_succ (at_succ (at_succ (at_succ (at_succ at_zero))))))))))) (fun K hK => ?_) AllReadyH.nil
                rw [if_pos (by kernel_rfl)]
                refine wp_bsl_run _ _ _ _ rfl #[(0, .agg #[.int .i64 s, .int .i64 (x0 : Int), .int .i64 (x2 : Int), .int .i64 tk, .slice (some ⟨wx.heap.size + 1, 0, none⟩) x2 x2, .slice (some ⟨wx.heap.size, 0, none⟩) x2 x2])] (by go_simp) _ _ (bsl_p _ _ _ _ _ _ _ _ _ _ _) ?_
                refine hK.out _ _ (trivial) (fun hHeld => ?_)
                clear hK K
                try simp only [Act.put, List.setIfInBounds_toArray, List.set_cons_zero, List.set_cons_succ]
                simp only [World.size_alloc]
                refine wpAnyH_ready (rs := [12]) (by kernel_rfl) (by simp) ?_
                refine AllReadyH.cons (at_succ (at_succ (at_succ (at_succ (at_succ (at_succ (at_succ (at_succ (at_succ (at_succ (at_succ (at_succ at_zero)))))))))))) (fun K hK => ?_) AllReadyH.nil
                rw [if_pos (by kernel_rfl)]
                refine Lib.wp_append_run _ _ _ _ _ rfl _ _ rfl rfl _ _ hap2 ?_
                refine hK.out _ _ (trivial) (fun hHeld => ?_)
                clear hK K
                try simp only [Act.put, List.setIfInBounds_toArray, List.set_cons_zero, List.set_cons_succ]
                refine wpAnyH_take (i := 13) (v := (.slice D2 zs2.length e2)) (at_succ (at_succ (at_succ (at_succ (at_succ (at_succ (at_succ (at_succ (at_succ (at_succ (at_succ (at_succ (at_succ at_zero))))))))))))) (by kernel_rfl) (by kernel_rfl) (by kernel_rfl) (fun _ _ _ h => h) (Or.inl ⟨by kernel_rfl, fun wy hSw => ?_⟩) (by assumption) ?_
                · (try dsimp only at hSw); go_simp
                try simp only [Act.put, List.setIfInBounds_toArray, List.set_cons_zero, List.set_cons_succ]
                refine wpAnyH_done (by kernel_rfl) ?_ _
                go_wp2_with fail
                go_meet
                case rel => exact ⟨D2, e2, zs2, ys.length, rfl, rfl, ST2⟩
    case rest => as_aux_lemma =>
      clear ST X2 X3 O
      obtain ⟨A1, c1, ys, k, rfl, rfl, ST⟩ := hcut
      obtain ⟨P1, B1, L8, ⟨hk, FF⟩, RX⟩ := ST.out
      have B1 := Lib.hid B1
      obtain ⟨b, q, rfl, hbl, hc, hok⟩ := hp_cell P1.row.1 k hk
      have ON := P1.nest ys[k] (List.getElem_mem hk)
      have P1 := Lib.hid P1
      obtain ⟨g, cur, eg, hgB, hgt⟩ := own_blk ON.bo ON.nb
      obtain ⟨g2, cur2, eg2, hg2B, hgt2⟩ := own_blk ON.st ON.ns
      have EG := Lib.hid eg
      have EG2 := Lib.hid eg2
      have XG := xs_getD ys k hk
      clear ST
      have F1' := FF.1
      have F2' := FF.2.1
      obtain ⟨y, hy⟩ : ∃ y, (ys[k]'hk) = y := ⟨_, rfl⟩
      have HY := Lib.hid hy
      rw [hy] at hc ON eg eg2 FF XG
      have HK := Lib.hid hk
      clear hy hok
      obtain ⟨⟨s1, i1, c2, t, h, d⟩, a1, a2, a3, a4⟩ := y
      obtain ⟨F1, F2, F3, F4, F5⟩ := FF
      simp only at F1 F2 F3 F4 F5 eg eg2 XG
      subst eg
      subst eg2
      have RT := Lib.hid (fun (e : (h[x1]'F1) = true) => (show X = (xs ys, eb, false, 0) from by
        rw [RX]
        unfold put
        rw [XG, if_pos (by simpa [List.getD, F1] using e)]))
      have RF := Lib.hid (fun (e : (h[x1]'F1) = false) (f : full (upd ⟨s1, i1, c2, t, h, d⟩ x1 (dta p)) = false) => (show X = ((xs ys).set k (upd ⟨s1, i1, c2, t, h, d⟩ x1 (dta p)), eb, false, 0) from by
        rw [RX]
        unfold put
        rw [XG, if_neg (by simpa [List.getD, F1] using e), if_neg (by rw [f]; decide)]))
      have RG := Lib.hid (fun (e : (h[x1]'F1) = false) (f : full (upd ⟨s1, i1, c2, t, h, d⟩ x1 (dta p)) = true) => (show X = ((xs ys).eraseIdx k, jn (upd ⟨s1, i1, c2, t, h, d⟩ x1 (dta p)).d, true, 0) from by
        rw [RX]
        unfold put
        rw [XG, if_neg (by simpa [List.getD, F1] using e), if_pos f]))
      clear RX XG
      obtain ⟨u0, u1, u2, u3, u4, u5⟩ := hc
      try simp only at u4 u5
      have hv : wc.cell? ⟨g, x1, none⟩ = some (.bool (h[x1]'F1)) := by
        have e := OwnF.cell ON.bo x1 F1 0 (by decide)
        rw [show x1 * fBo.sz + 0 = x1 by show x1 * 1 + 0 = x1; omega] at e
        exact e
      have r0 : (k : Int) < (ys.length : Int) := by omega
      have r1 : (0 : Int) ≤ (k : Int) := by omega
      have r2 : (x1 : Int) < (h.length : Int) := by omega
      have r3 : (0 : Int) ≤ (x1 : Int) := by omega
      have r4 : (x1 : Int) < (d.length : Int) := by omega
      obtain ⟨z, hz⟩ : ∃ z, h[x1]'F1 = z := ⟨_, rfl⟩
      have HZ := Lib.hid hz
      rw [hz] at hv
      rw [hz] at RT RF RG
      clear hz
      cases z with
      | true =>
        have R := Lib.hid (RT.out rfl)
        clear RT RF RG
        go_wp2_with fail
        rw [R.out]
        refine bodyPost_ret (v := .tuple #[.slice (some ⟨b, q, none⟩) ys.length c1, .string eb, .bool false, .int .i64 0]) (by simp [results, Try.results19, go_sem]) rfl ⟨_, _, ys, rfl, P1.out, rfl, B1.out⟩
      | false =>
      have RF2 := Lib.hid (RF.out rfl)
      have RG2 := Lib.hid (RG.out rfl)
      clear RT RF RG
      have fr := fun j => blk_fr hgt j
      have P2 := P1.out.storeH k HK.out x1 F1' g EG.out
      simp only [HY.out, setH] at P2
      obtain ⟨w2, hw2⟩ : ∃ w2, wc.setCell ⟨g, x1, none⟩ (.bool true) = w2 := ⟨_, rfl⟩
      rw [hw2] at P2
      have b2 : Below w.heap.size w w2 := by rw [← hw2]; exact B1.out.setCell hgB _
      have bd := below_drewN (Below.refl w2.heap.size w2) 1
      have l2 : (ys.set k (⟨⟨s1, i1, c2, t, h.set x1 true, d⟩, some ⟨g, 0, none⟩, a2, some ⟨g2, 0, none⟩, a4⟩ : Hp)).length = ys.length := List.length_set
      have at2 : (ys.set k (⟨⟨s1, i1, c2, t, h.set x1 true, d⟩, some ⟨g, 0, none⟩, a2, some ⟨g2, 0, none⟩, a4⟩ : Hp))[k]'(by rw [l2]; exact HK.out) = (⟨⟨s1, i1, c2, t, h.set x1 true, d⟩, some ⟨g, 0, none⟩, a2, some ⟨g2, 0, none⟩, a4⟩ : Hp) := List.getElem_set_self _
      have P3 := P2.below bd
      have P4 := P3.storeD k (by rw [l2]; exact HK.out) x1 (by rw [at2]; exact F2) (dta p) (by have := HB.out; omega) g2 (by rw [at2])
      simp only [at2, setD, List.set_set] at P4
      have N3 := P3.nest _ (List.getElem_mem (by rw [l2]; exact HK.out : k < (ys.set k (⟨⟨s1, i1, c2, t, h.set x1 true, d⟩, some ⟨g, 0, none⟩, a2, some ⟨g2, 0, none⟩, a4⟩ : Hp)).length))
      rw [at2] at N3
      have hv3 : w2.drew.cell? ⟨g2, x1, none⟩ = some (.string (d[x1]'F2)) := by
        have e := OwnF.cell N3.st x1 F2 0 (by decide)
        rw [show x1 * fSt.sz + 0 = x1 by show x1 * 1 + 0 = x1; omega] at e
        exact e
      obtain ⟨g2', cur3, e3', _, hgt3⟩ := own_blk N3.st N3.ns
      simp only [Option.some.injEq, Addr.mk.injEq, and_true] at e3'
      subst e3'
      have fr3 := fun j => blk_fr hgt3 j
      have fr3' : ∀ j, w2.drew.frozen? ⟨g2, j, none⟩ = false := fr3
      have s5 : w2.drew.cell? ⟨b, q + k * 6 + 5, none⟩ = some (.slice (some ⟨g2, 0, none⟩) d.length a4) := by
        obtain ⟨b', q', e', _, hc', _⟩ := hp_cell P3.row.1 k (by rw [l2]; exact HK.out)
        simp only [Option.some.injEq, Addr.mk.injEq, and_true] at e'
        obtain ⟨rfl, rfl⟩ := e'
        rw [at2] at hc'
        exact hc'.2.2.2.2.2
      obtain ⟨w4, hw4⟩ : ∃ w4, w2.drew.setCell ⟨g2, x1, none⟩ (.string (dta p)) = w4 := ⟨_, rfl⟩
      have hw4' : (w2.drewN 1).setCell ⟨g2, x1, none⟩ (.string (dta p)) = w4 := hw4
      rw [hw4'] at P4
      have l4 : (ys.set k (⟨⟨s1, i1, c2, t, h.set x1 true, d.set x1 (dta p)⟩, some ⟨g, 0, none⟩, a2, some ⟨g2, 0, none⟩, a4⟩ : Hp)).length = ys.length := List.length_set
      have at4 : (ys.set k (⟨⟨s1, i1, c2, t, h.set x1 true, d.set x1 (dta p)⟩, some ⟨g, 0, none⟩, a2, some ⟨g2, 0, none⟩, a4⟩ : Hp))[k]'(by rw [l4]; exact HK.out) = (⟨⟨s1, i1, c2, t, h.set x1 true, d.set x1 (dta p)⟩, some ⟨g, 0, none⟩, a2, some ⟨g2, 0, none⟩, a4⟩ : Hp) := List.getElem_set_self _
      have H4 : HpC w4 b (q + k * 6) (⟨⟨s1, i1, c2, t, h.set x1 true, d.set x1 (dta p)⟩, some ⟨g, 0, none⟩, a2, some ⟨g2, 0, none⟩, a4⟩ : Hp) := by
        obtain ⟨b', q', e', _, hc', _⟩ := hp_cell P4.row.1 k (by rw [l4]; exact HK.out)
        simp only [Option.some.injEq, Addr.mk.injEq, and_true] at e'
        obtain ⟨rfl, rfl⟩ := e'
        rw [at4] at hc'
        exact hc'
      have s6 : w4.cell? ⟨b, q + k * 6 + 5, none⟩ = some (.slice (some ⟨g2, 0, none⟩) d.length a4) := by have := H4.2.2.2.2.2; simpa using this
      have b4 : Below w.heap.size w w4 := by rw [← hw4]; exact (b2.trans (bd.mono b2.size)).setCell hg2B _
      have N4 := P4.nest _ (List.getElem_mem (by rw [l4]; exact HK.out : k < (ys.set k (⟨⟨s1, i1, c2, t, h.set x1 true, d.set x1 (dta p)⟩, some ⟨g, 0, none⟩, a2, some ⟨g2, 0, none⟩, a4⟩ : Hp)).length))
      rw [at4] at N4
      have KW := Lib.hid (rwhole_any (⟨⟨s1, i1, c2, t, h.set x1 true, d.set x1 (dta p)⟩, some ⟨g, 0, none⟩, a2, some ⟨g2, 0, none⟩, a4⟩ : Hp) w4 (by simp; omega) (own_sls N4.bo))
      have XS4 := Lib.hid (show xs (ys.set k (⟨⟨s1, i1, c2, t, h.set x1 true, d.set x1 (dta p)⟩, some ⟨g, 0, none⟩, a2, some ⟨g2, 0, none⟩, a4⟩ : Hp)) = (xs ys).set k (upd ⟨s1, i1, c2, t, h, d⟩ x1 (dta p)) from by unfold xs; rw [List.map_set]; rfl)
      have FU : full ⟨s1, i1, c2, t, h.set x1 true, d.set x1 (dta p)⟩ = full (upd ⟨s1, i1, c2, t, h, d⟩ x1 (dta p)) := rfl
      have DB := Lib.hid (show ∀ i (hi : i < (d.set x1 (dta p)).length), ((d.set x1 (dta p))[i]'hi).size ≤ 64 from fun i hi => by
        rw [List.getElem_set]
        split
        · exact HB.out
        · exact F5 i (by simpa using hi))
      have P4 := Lib.hid P4
      have H4' := Lib.hid H4
      have B4 := Lib.hid b4
      unfold OutB at KW
      simp only [hpV, List.length_set] at KW
      rw [FU] at KW
      unfold HpC at H4
      simp only [List.length_set] at H4
      have HDL := Lib.hid (show (d.set x1 (dta p)).length = d.length from List.length_set)
      have ZD := Lib.hid (show (upd ⟨s1, i1, c2, t, h, d⟩ x1 (dta p)).d = d.set x1 (dta p) from rfl)
      have NS4 := Lib.hid (show SlS fSt w4 (some ⟨g2, 0, none⟩) a4 (d.set x1 (dta p)) from own_sls N4.st)
      have L4 := Lib.hid l4
      clear ON P1 B1 P2 P3 N3 N4 b2 b4 bd l2 at2 l4 at4 hgt hgt2 hgt3 hgB hg2B EG EG2 HY F1' F2' F5 FU HZ
      generalize upd ⟨s1, i1, c2, t, h, d⟩ x1 (dta p) = Z at *
      generalize hPL : ys.set k (⟨⟨s1, i1, c2, t, h.set x1 true, d.set x1 (dta p)⟩, some ⟨g, 0, none⟩, a2, some ⟨g2, 0, none⟩, a4⟩ : Hp) = zs at P4 XS4 L4
      clear hPL
      go_wp2_with fail
      refine wp_region_held_drew (S := (fun wy : World => wy.cell? ⟨b, q + k * 6 + 5, none⟩ = some (.slice (some ⟨g2, 0, none⟩) d.length a4))) (by kernel_rfl) (s5) (fun hHeld => ?_)
      refine wpAnyH_take (i := 0) (v := (.slice (some ⟨b, q, none⟩) ys.length c1)) at_zero (by kernel_rfl) (by kernel_rfl) (by kernel_rfl) (fun _ _ _ h => h) (Or.inl ⟨by kernel_rfl, fun wy hSw => ?_⟩) (by assumption) ?_
      · (try dsimp only at hSw); go_simp
      try simp only [Act.put, List.setIfInBounds_toArray, List.set_cons_zero, List.set_cons_succ]
      refine wpAnyH_take (i := 1) (v := (.int .i64 (k : Int))) (at_succ at_zero) (by kernel_rfl) (by kernel_rfl) (by kernel_rfl) (fun _ _ _ h => h) (Or.inl ⟨by kernel_rfl, fun wy hSw => ?_⟩) (by assumption) ?_
      · (try dsimp only at hSw); go_simp
      try simp only [Act.put, List.setIfInBounds_toArray, List.set_cons_zero, List.set_cons_succ]
      refine wpAnyH_take (i := 2) (v := (.pointer (some ⟨b, q + k * 6, none⟩))) (at_succ (at_succ at_zero)) (by kernel_rfl) (by kernel_rfl) (by kernel_rfl) (fun _ _ _ h => h) (Or.inl ⟨by kernel_rfl, fun wy hSw => ?_⟩) (by assumption) ?_
      · (try dsimp only at hSw); go_simp
      try simp only [Act.put, List.setIfInBounds_toArray, List.set_cons_zero, List.set_cons_succ]
      refine wpAnyH_take (i := 3) (v := (.pointer (some ⟨b, q + k * 6 + 5, none⟩))) (at_succ (at_succ (at_succ at_zero))) (by kernel_rfl) (by kernel_rfl) (by kernel_rfl) (fun _ _ _ h => h) (Or.inl ⟨by kernel_rfl, fun wy hSw => ?_⟩) (by assumption) ?_
      · (try dsimp only at hSw); go_simp
      try simp only [Act.put, List.setIfInBounds_toArray, List.set_cons_zero, List.set_cons_succ]
      refine wpAnyH_take (i := 4) (v := (.slice (some ⟨g2, 0, none⟩) d.length a4)) (at_succ (at_succ (at_succ (at_succ at_zero)))) (by kernel_rfl) (by kernel_rfl) (by kernel_rfl) (fun _ _ _ h => h) (Or.inl ⟨by kernel_rfl, fun wy hSw => ?_⟩) (by assumption) ?_
      · (try dsimp only at hSw); go_simp
      try simp only [Act.put, List.setIfInBounds_toArray, List.set_cons_zero, List.set_cons_succ]
      refine wpAnyH_take (i := 5) (v := (.int .i64 (x1 : Int))) (at_succ (at_succ (at_succ (at_succ (at_succ at_zero))))) (by kernel_rfl) (by kernel_rfl) (by kernel_rfl) (fun _ _ _ h => h) (Or.inl ⟨by kernel_rfl, fun wy hSw => ?_⟩) (by assumption) ?_
      · (try dsimp only at hSw); go_simp
      try simp only [Act.put, List.setIfInBounds_toArray, List.set_cons_zero, List.set_cons_succ]
      refine wpAnyH_take (i := 6) (v := (.string p)) (at_succ (at_succ (at_succ (at_succ (at_succ (at_succ at_zero)))))) (by kernel_rfl) (by kernel_rfl) (by kernel_rfl) (fun _ _ _ h => h) (Or.inl ⟨by kernel_rfl, fun wy hSw => ?_⟩) (by assumption) ?_
      · (try dsimp only at hSw); go_simp
      try simp only [Act.put, List.setIfInBounds_toArray, List.set_cons_zero, List.set_cons_succ]
      refine wpAnyH_take (i := 7) (v := (.string (dta p))) (at_succ (at_succ (at_succ (at_succ (at_succ (at_succ (at_succ at_zero))))))) (by kernel_rfl) (by kernel_rfl) (by kernel_rfl) (fun _ _ _ h => h) (Or.inl ⟨by kernel_rfl, fun wy hSw => ?_⟩) (by assumption) ?_
      · (try dsimp only at hSw); go_simp
      try simp only [Act.put, List.setIfInBounds_toArray, List.set_cons_zero, List.set_cons_succ]
      refine wpAnyH_take (i := 8) (v := (.pointer (some ⟨g2, x1, none⟩))) (at_succ (at_succ (at_succ (at_succ (at_succ (at_succ (at_succ (at_succ at_zero)))))))) (by kernel_rfl) (by kernel_rfl) (by kernel_rfl) (fun _ _ _ h => h) (Or.inl ⟨by kernel_rfl, fun wy hSw => ?_⟩) (by assumption) ?_
      · (try dsimp only at hSw); go_simp
      try simp only [Act.put, List.setIfInBounds_toArray, List.set_cons_zero, List.set_cons_succ]
      refine wpAnyH_ready (rs := [9]) (by kernel_rfl) (by simp) ?_
      refine AllReadyH.cons (at_succ (at_succ (at_succ (at_succ (at_succ (at_succ (at_succ (at_succ (at_succ at_zero))))))))) (fun K hK => ?_) AllReadyH.nil
      rw [if_pos (by kernel_rfl)]
      go_simp
      refine hK.out _ _ (s6) (fun hHeld => ?_)
      clear hK K
      try simp only [Act.put, List.setIfInBounds_toArray, List.set_cons_zero, List.set_cons_succ]
      refine wpAnyH_done (by kernel_rfl) ?_ _
      clear hv hv3 fr fr3 fr3' s5 u0 u1 u2 u3 u4 u5
      obtain ⟨m0, m1, m2, m3, m4, m5⟩ := H4
      have hb4 : b < w4.heap.size := by obtain ⟨_, cur, fz, e⟩ := P4.out.ty b q rfl; exact (Array.getElem?_eq_some_iff.1 e).1
      obtain ⟨fz, hfz⟩ : ∃ fz, full Z = fz := ⟨_, rfl⟩
      have RF := Lib.hid (show fz = false → X = ((xs ys).set k Z, eb, false, 0) from fun e => RF2.out (hfz.trans e))
      have RG := Lib.hid (show fz = true → X = ((xs ys).eraseIdx k, jn Z.d, true, 0) from fun e => RG2.out (hfz.trans e))
      rw [hfz] at KW
      clear hfz RF2 RG2
      cases fz with
      | false =>
        have R := Lib.hid (RF.out rfl)
        clear RF RG ZD NS4 DB HDL H4'
        go_wp2_with fail
        refine KW.out.mono ?_
        rintro _ w5 ⟨rfl, hb⟩
        have B5 := Lib.hid (B4.out.trans (hb.mono B4.out.size))
        have P5 := Lib.hid (P4.out.below hb)
        clear hb P4 B4 KW m0 m1 m2 m3 m4 m5 s6
        go_wp2_with fail
        rw [R.out]
        refine bodyPost_ret (v := .tuple #[.slice (some ⟨b, q, none⟩) ys.length c1, .string eb, .bool false, .int .i64 0]) (by simp [results, Try.results19, go_sem]) rfl ⟨_, _, zs, by rw [L4.out], P5.out, XS4.out, B5.out⟩
      | true =>
      have R := Lib.hid (RG.out rfl)
      clear RF RG
      go_wp2_with fail
      refine KW.out.mono ?_
      rintro _ w5 ⟨rfl, hb⟩
      have B5 := Lib.hid (B4.out.trans (hb.mono B4.out.size))
      have P5 := Lib.hid (P4.out.below hb)
      have NS5 := Lib.hid (NS4.out.next hb)
      have H5 := H4'.out.below hb hb4
      unfold HpC at H5
      simp only [List.length_set] at H5
      clear hb P4 B4 KW m0 m1 m2 m3 m4 m5 s6 NS4 H4' hb4
      obtain ⟨m0, m1, m2, m3, m4, m5⟩ := H5
      clear m0 m1 m2 m3 m4
      obtain ⟨D, hD⟩ : ∃ D, d.set x1 (dta p) = D := ⟨_, rfl⟩
      rw [hD] at NS5 HDL ZD
      have DB : Hid (∀ i (hi : i < D.length), D[i].size ≤ 64) := by subst hD; exact DB
      have DL : D.length ≤ 16 := by rw [HDL.out]; omega
      have KR := Lib.hid (rremove_any (some ⟨b, q, none⟩) c1 zs (k : Int) w.heap.size w5 (by rw [L4.out]; omega) B5.out.size P5.out (zs.eraseIdx k) (by rw [if_pos (by omega), Int.toNat_natCast]))
      rw [L4.out] at KR
      have XE := Lib.hid (show xs (zs.eraseIdx k) = (xs ys).eraseIdx k from by rw [xs_erase, XS4.out, List.eraseIdx_set_eq])
      generalize zs.eraseIdx k = E at *
      have R := Lib.hid (R.out.trans (by rw [ZD.out]))
      have GJ := Lib.hid (fun (m : Nat) (hm : m < D.length) => (show jn (D.take (m + 1)) = jn (D.take m) ++ D[m] from by rw [List.take_succ_eq_append_getElem hm, jn_next]))
      have GE := Lib.hid (show jn (D.take D.length) = jn D from by rw [List.take_length])
      have GS := Lib.hid (fun (m : Nat) (hm : m ≤ D.length) => (show (jn (D.take m)).size ≤ 64 * m from jn_size D DB.out m hm))
      have G0 := Lib.hid (show jn (D.take 0) = ⟨#[]⟩ from rfl)
      clear hD ZD P5 XS4
      obtain ⟨J, hJ⟩ : ∃ J : Nat → ByteArray, ∀ m, jn (D.take m) = J m := ⟨_, fun _ => rfl⟩
      simp only [hJ] at GJ GE GS G0
      generalize jn D = JD at *
      clear hJ
      go_wp2_with fail
      go_loop [18, 119] (fun vs vk => ∃ m : Nat, vk = .int .i64 m ∧ m ≤ d.length ∧ vs = .string (J m)) (fun _ vk => d.length - (intOf vk).toNat)
      case atStart => exact ⟨0, rfl, Nat.zero_le _, by rw [G0.out]⟩
      case round =>
        obtain ⟨m, rfl, hm, rfl⟩ := hrel
        by_cases hlt : m < d.length
        · have hmD : m < D.length := by rw [HDL.out]; exact hlt
          obtain ⟨b', q', e', _, hcd, _⟩ := st_cell NS5.out m hmD
          simp only [Option.some.injEq, Addr.mk.injEq, and_true] at e'
          obtain ⟨rfl, rfl⟩ := e'
          rw [Nat.zero_add] at hcd
          have z1 := DB.out m hmD
          have z2 := GS.out m (by omega)
          have N := Lib.hid (GJ.out m hmD)
          obtain ⟨x, hx⟩ : ∃ x, D[m]'hmD = x := ⟨_, rfl⟩
          rw [hx] at hcd z1 N
          have t0 : (m : Int) < (d.length : Int) := by omega
          have t1 : (0 : Int) ≤ (m : Int) := by omega
          have t2 : ¬ 9223372036854775807 < (J m).size + x.size := by omega
          have t3 : (J m).size + x.size ≤ 9223372036854775807 := by omega
          clear GJ GE GS G0 DB NS5 KR z1 z2 hx
          go_wp2_with fail
          go_round
          case rel => exact ⟨m + 1, by go_num, hlt, by rw [N.out]⟩
          case measure => simp [intOf]; omega
        · have hmd : m = D.length := by rw [HDL.out]; omega
          have E1 := GE.out
          rw [← hmd] at E1
          clear GJ GE GS G0 DB NS5 hmd
          rw [E1]
          go_wp2_with fail
          refine KR.out.mono ?_
          rintro _ w6 ⟨A6, c6, rfl, h6, _, hb6⟩
          have PS := Lib.hid h6
          have B6 := Lib.hid (B5.out.trans (hb6.mono B5.out.size))
          clear h6 hb6 KR m5
          go_wp2_with fail
          rw [R.out]
          refine bodyPost_ret (v := .tuple #[.slice A6 E.length c6, .string JD, .bool true, .int .i64 0]) (by simp [results, Try.results19, go_sem]) rfl ⟨A6, c6, E, rfl, PS.out, XE.out, B6.out⟩
theorem radd_q (A : Option Addr) (c : Nat) (l : List Hp) (s now : Int) (p : ByteArray) (w : World) (hs : I64 s) (hl : l.length ≤ 1000) (hp : p.size ≤ 9223372036854775807) (hm : ∀ y ∈ l, y.x.h.length ≤ 9223372036854775807 ∧ y.x.d.length ≤ 9223372036854775807) (hA : PsS w A c l) :
    Calls Try.prog 19 #[.slice A l.length c, .int .i64 s, .int .i64 now, .string p] w (AddQ w (add (xs l) s now p)) := (radd_any A c l s now p w hs hl hp hm hA).mono fun _ _ h => addQ_of h
end Go.Proofs.Ytljcjflbfjleoaa.Frg
