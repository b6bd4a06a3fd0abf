/- Package frag: Add. -/
import Derived.Test.YtljcjflbfjleoaaFgX9
set_option linter.unusedVariables false
namespace Go.Proofs.Ytljcjflbfjleoaa.Frg
open Go.RowKit

/-- Behind the first step: the entry with another count is away. -/
def Sv1 (w wx : World) (bf : Nat) (FB : Obj) (BB : Nat) (o : List Pt) (s i c : Int) (A : Option Addr) (c1 : Nat) (ys : List Hp) (a : Int) : Prop :=
  OwnV wx BB A c1 ys ∧ Below w.heap.size w wx ∧ BB ≤ wx.heap.size ∧ wx.heap[bf]? = some FB ∧ xs ys = rm o s i c ∧ ((a = -1 ∧ ¬ (fi o s i < o.length ∧ (o.getD (fi o s i) at0).c = c)) ∨ (a = (fi o s i : Nat) ∧ fi o s i < o.length ∧ (o.getD (fi o s i) at0).c = c ∧ xs ys = o))
/-- What the entry that takes the piece is like. -/
def Fit2 (j : Nat) (x : Pt) : Prop := Fit j x ∧ (x.h.getD j false = true → x.h.contains false = true)
/-- Behind the second step: the piece's entry stands at k. -/
def Sv2 (w wx : World) (bf : Nat) (FB : Obj) (BB : Nat) (X : List Pt × ByteArray × Bool × Int) (j : Nat) (b : ByteArray) (A : Option Addr) (c1 : Nat) (ys : List Hp) (k : Nat) : Prop :=
  OwnV wx BB A c1 ys ∧ Below w.heap.size w wx ∧ BB ≤ wx.heap.size ∧ wx.heap[bf]? = some FB ∧ ys.length ≤ 8 ∧ (∃ h : k < ys.length, Fit2 j ys[k].x) ∧ X = put (xs ys) k j b
/-- Behind the third step: the piece is stored. -/
def Sv3 (w wx : World) (BB : Nat) (X : List Pt × ByteArray × Bool × Int) (A : Option Addr) (c1 : Nat) (zs : List Hp) (k : Nat) : Prop :=
  OwnV wx BB A c1 zs ∧ Below w.heap.size w wx ∧ zs.length ≤ 8 ∧ ∃ h : k < zs.length, (0 < zs[k].x.d.length ∧ zs[k].x.h.length ≤ 16 ∧ zs[k].x.d.length ≤ 16 ∧ ∀ i (hi : i < zs[k].x.d.length), zs[k].x.d[i].size ≤ 64) ∧
    (zs[k].x.h.contains false = true → X = (xs zs, eb, false, 0)) ∧ (zs[k].x.h.contains false = false → X = ((xs zs).eraseIdx k, jn zs[k].x.d, true, 0))
theorem row_cell {w : World} {B : Nat} {A : Option Addr} {c : Nat} {l : List Hp} (h : OwnV w B A c l) (k : Nat) (hk : k < l.length) : ∃ b p, A = some ⟨b, p, none⟩ ∧ B ≤ b ∧ b < w.heap.size ∧ HpC w b (p + k * 6) l[k] ∧ ∃ cur, w.heap[b]? = some (.cells cur 44 (0, 0)) := by
  obtain ⟨b, p, e, h1, h2, _⟩ := hp_cell h.q.row.1 k hk
  rcases h.row with ⟨e2, _, _⟩ | ht
  · rw [e2] at e; cases e
  · obtain ⟨g, off, cap, cur, e1, k1, k2, _⟩ := ht
    simp only [Value.slice.injEq, true_and] at e1
    rw [e1.1] at e
    simp only [Option.some.injEq, Addr.mk.injEq, and_true] at e
    obtain ⟨rfl, rfl⟩ := e
    exact ⟨g, off, e1.1, k1, h1, h2, cur, k2⟩
/-- A new entry ahead of its rows. -/
abbrev ent0 (s : Int) (x0 x2 : Nat) (now : Int) : Hp := ⟨⟨s, (x0 : Int), (x2 : Int), tick now, [], []⟩, none, 0, none, 0⟩
theorem built_4 (s i c t : Int) : Try.prog.built 44 [(0, .int .i64 s), (1, .int .i64 i), (2, .int .i64 c), (3, .int .i64 t)] = some #[.int .i64 s, .int .i64 i, .int .i64 c, .int .i64 t, .slice none 0 0, .slice none 0 0] := by kernel_rfl
set_option maxRecDepth 100000 in
set_option maxHeartbeats 8000000 in
theorem padd_any (A : Option Addr) (c : Nat) (l : List Hp) (s now : Int) (p : ByteArray) (w : World) (hs : I64 s) (hl : l.length ≤ 1000) (hp : p.size ≤ 9223372036854775807) (hm : ∀ y ∈ l, y.x.h.length ≤ 9223372036854775807 ∧ y.x.d.length ≤ 9223372036854775807) (hA : PsS w A c l) :
    Calls Try.prog 18 #[.slice A l.length c, .int .i64 s, .int .i64 now, .string p] w (AddQ w (add (xs l) s now p)) := by
  have K0 := Lib.hid (pcheck_any p w hp)
  have HA := Lib.hid hA
  have HM := Lib.hid hm
  have HS := Lib.hid hs
  clear hA hm hs
  unfold OutI at K0
  by_cases h0 : chk p = 0
  rotate_left
  · have R := Lib.hid (show add (xs l) s now p = ([], eb, false, chk p) from if_pos h0)
    have d0 : (chk p != 0) = true := by simpa using h0
    generalize add (xs l) s now p = X at *
    generalize chk p = e at *
    clear h0
    go_enter Try.func18, Try.ntmps18
    go_wp2_with fail
    refine K0.out.mono ?_
    rintro _ w1 ⟨rfl, hb⟩
    have B1 := Lib.hid hb
    clear hb
    go_wp2_with fail
    rw [R.out]
    refine bodyPost_ret (v := .tuple #[.slice none 0 0, .string eb, .bool false, .int .i64 e]) (by simp [results, Try.results18, go_sem]) rfl ⟨none, 0, [], rfl, OwnQ.nil _ _, rfl, B1.out⟩
  obtain ⟨h3, ⟨f1, f2⟩, f3, f4⟩ := chk_zero h0
  have p0 : 0 < p.size := by omega
  have p1 : 1 < p.size := by omega
  have p2 : 2 < p.size := by omega
  have l0 := (p[0]'p0).toNat_lt
  have l1 := (p[1]'p1).toNat_lt
  have l2 := (p[2]'p2).toNat_lt
  have O := Lib.hid (ord_ok (xs l))
  have KO := Lib.hid (fun w hA => porder_any A c l w hl HM.out hA)
  have KR := Lib.hid (fun w => pread_any p w h3 hp)
  have X1 := Lib.hid (show bt p 2 = 1 → add (xs l) s now p = (rm (ord (xs l)) s (bt p 0) (bt p 2), dta p, true, 0) from fun e => by unfold add; rw [if_neg (by simpa using h0), if_pos e])
  have X2 := Lib.hid (show bt p 2 ≠ 1 → (fi (ord (xs l)) s (bt p 0) < (ord (xs l)).length ∧ ((ord (xs l)).getD (fi (ord (xs l)) s (bt p 0)) at0).c = bt p 2) → add (xs l) s now p = put (ord (xs l)) (fi (ord (xs l)) s (bt p 0)) (bt p 1).toNat (dta p) from fun e e2 => by unfold add; rw [if_neg (by simpa using h0), if_neg e, if_pos e2])
  have X3 := Lib.hid (fun (e : bt p 2 ≠ 1) e2 => add_new_is (l := xs l) (s := s) (now := now) h0 e e2)
  rw [h0] at K0
  generalize add (xs l) s now p = X at *
  generalize ord (xs l) = o at *
  have HB := Lib.hid (show (dta p).size ≤ 64 from by have := sz_le f4; rw [dta_size]; omega)
  unfold frV at KR
  rw [← bt_at p 2 p2] at f1 f2 f3 f4 X1 X2 X3
  rw [← bt_at p 1 p1] at f3 f4 X2 X3
  rw [← bt_at p 0 p0] at X1 X2 X3
  rw [Int.toNat_natCast] at X2 X3
  clear f4 h0
  generalize (p[0]'p0).toNat = x0 at *
  generalize (p[1]'p1).toNat = x1 at *
  generalize (p[2]'p2).toNat = x2 at *
  generalize dta p = D at *
  unfold OrdV at KO
  go_enter Try.func18, Try.ntmps18
  go_wp2_with fail
  refine K0.out.mono ?_
  rintro _ w1 ⟨rfl, hb⟩
  have B1 := Lib.hid hb
  clear hb K0 h3 p0 p1 p2
  go_wp2_with fail
  refine (KR.out _).mono ?_
  rintro _ w2 ⟨rfl, hb⟩
  have a3 := alloc_below w2 (frB x0 x1 x2 D)
  have B3 := Lib.hid ((B1.out.trans (hb.mono B1.out.size)).trans (a3.mono (B1.out.trans (hb.mono B1.out.size)).size))
  have Y3 := Lib.hid (blk_new w2 (frB x0 x1 x2 D))
  have L3 := Lib.hid (show w2.heap.size < (w2.alloc (frB x0 x1 x2 D)).heap.size by simp)
  have L2 := Lib.hid (show w.heap.size ≤ w2.heap.size from (B1.out.trans (hb.mono B1.out.size)).size)
  clear hb a3 B1 KR
  go_wp2_with fail
  obtain ⟨W, hW⟩ : ∃ W, w2.alloc (frB x0 x1 x2 D) = W := ⟨_, rfl⟩
  obtain ⟨bf, hbf⟩ : ∃ b, w2.heap.size = b := ⟨_, rfl⟩
  rw [hW] at B3 Y3 L3 ⊢
  rw [hbf] at Y3 L3 L2
  simp only [hbf]
  clear hW hbf
  refine (KO.out _ (HA.out.next B3.out)).mono ?_
  rintro _ w3 ⟨A1, c1, ys, rfl, hP, hx, hb⟩
  have B4 := Lib.hid (B3.out.trans (hb.mono B3.out.size))
  have P4 := Lib.hid hP
  have Q4 := Lib.hid hx
  have Y4 := Lib.hid (blk_below Y3.out hb L3.out)
  have S4 := Lib.hid hb.size
  have yl : ys.length ≤ 8 := by have := O.out.len; rw [← hx] at this; simpa using this
  have BB0 : ∃ BB, W.heap.size = BB := ⟨_, rfl⟩
  obtain ⟨BB, hBB⟩ := BB0
  rw [hBB] at P4 S4 L3
  have WB := Lib.hid (show w.heap.size ≤ BB by rw [← hBB]; exact B3.out.size)
  have k0 := blk_cell Y4.out 0 (v := .int .i64 (x0 : Int)) rfl
  have KP := Lib.hid (pplace_any A1 c1 ys s (x0 : Int) w3 (by omega) hP.q.row)
  have FA := Lib.hid (show (fnI (xs ys) s (x0 : Int) = -1 ∧ ¬ fi o s (x0 : Int) < o.length) ∨ (fnI (xs ys) s (x0 : Int) = (fi o s (x0 : Int) : Nat) ∧ fi o s (x0 : Int) < o.length) from by
    rw [hx]
    unfold fnI
    by_cases q : fi o s (x0 : Int) < o.length
    · rw [if_pos q]; exact Or.inr ⟨rfl, q⟩
    · rw [if_neg q]; exact Or.inl ⟨rfl, q⟩)
  unfold OutI at KP
  generalize fnI (xs ys) s (x0 : Int) = a at *
  clear hP hx hb KO HA HM B3 Y3 hBB W
  go_wp2_with fail
  refine KP.out.mono ?_
  rintro _ w5 ⟨rfl, hb⟩
  have B5 := Lib.hid (B4.out.trans (hb.mono B4.out.size))
  have P5 := Lib.hid (P4.out.below hb)
  have Y5 := Lib.hid (blk_below Y4.out hb (by have := L3.out; have := S4.out; omega))
  have S5 := Lib.hid (Nat.le_trans S4.out hb.size)
  clear KP hb B4 P4 Y4 S4 k0
  have TB := Lib.hid (show ∃ β : Bool, (β = true → ∃ k : Nat, a = k ∧ fi o s (x0 : Int) = k ∧ k < ys.length ∧ ¬ (o.getD k at0).c = (x2 : Int)) ∧ (β = false → xs ys = rm o s x0 x2 ∧ ((a = -1 ∧ ¬ (fi o s x0 < o.length ∧ (o.getD (fi o s x0) at0).c = x2)) ∨ (a = (fi o s x0 : Nat) ∧ fi o s x0 < o.length ∧ (o.getD (fi o s x0) at0).c = x2 ∧ xs ys = o))) ∧ ((a = -1 ∧ β = false) ∨ ∃ (k : Nat) (cc : Int), a = k ∧ k < ys.length ∧ (o.getD k at0).c = cc ∧ β = (cc != (x2 : Int))) from by
    rcases FA.out with ⟨rfl, hf⟩ | ⟨rfl, hf⟩
    · exact ⟨false, fun q => (by cases q), fun _ => ⟨by rw [Q4.out, rm_none (by cases e : has o s x0 with | false => rfl | true => exact absurd (fi_has.1 e) hf)], Or.inl ⟨rfl, fun q => hf q.1⟩⟩, Or.inl ⟨rfl, rfl⟩⟩
    · have hky : fi o s (x0 : Int) < ys.length := by have := xs_len ys; rw [Q4.out] at this; omega
      refine ⟨(o.getD (fi o s (x0 : Int)) at0).c != (x2 : Int), fun q => ⟨_, rfl, rfl, hky, by simpa using q⟩, fun q => ?_, Or.inr ⟨_, _, rfl, hky, rfl, rfl⟩⟩
      have hc2 : (o.getD (fi o s (x0 : Int)) at0).c = (x2 : Int) := by simpa using q
      refine ⟨?_, Or.inr ⟨rfl, hf, hc2, Q4.out⟩⟩
      rw [Q4.out]
      unfold rm
      rw [if_neg (fun q => q hc2)])
  obtain ⟨β, T1, T2, T3⟩ := TB.out
  have T1 := Lib.hid T1
  have T2 := Lib.hid T2
  have T3 := Lib.hid T3
  clear TB FA
  go_upto_region 7 with fail
  go_cut [44] (fun v wx => v = .bool β ∧ Below w5.heap.size w5 wx)
  case first => as_aux_lemma =>
    have k2 := blk_cell Y5.out 2 (v := .int .i64 (x2 : Int)) rfl
    rcases T3.out with ⟨rfl, rfl⟩ | ⟨k, cc, rfl, hky, hcc, rfl⟩
    · clear X1 X2 X3 O T1 T2 T3 B5 P5 Y5 S5 Q4
      go_quiet (fail)
      go_wp2_with fail
      go_meet
      case rel => exact ⟨rfl, below_drewN (Below.refl _ _) _⟩
    · have GD : (o.getD k at0) = ys[k].x := by rw [← Q4.out]; exact xs_getD ys k hky
      rw [GD] at hcc
      obtain ⟨b, q, rfl, _, _, hc, _⟩ := row_cell P5.out k hky
      have g2 := hc.2.2.1
      rw [hcc] at g2
      have r0 : (k : Int) < (ys.length : Int) := by omega
      have r1 : (0 : Int) ≤ (k : Int) := by omega
      have d0 : ((k : Int) != -1) = true := by simp
      clear hc hcc GD X1 X2 X3 O T1 T2 T3 P5 Q4 B5 Y5 S5
      go_quiet (fail)
      go_wp2_with fail
      go_meet
      case rel => exact ⟨rfl, below_drewN (Below.refl _ _) _⟩
  case rest => as_aux_lemma =>
  obtain ⟨rfl, hbc⟩ := hcut
  have B6 := Lib.hid (B5.out.trans (hbc.mono B5.out.size))
  have P6 := Lib.hid (P5.out.below hbc)
  have Y6 := Lib.hid (blk_below Y5.out hbc (by have := L3.out; have := S5.out; omega))
  have S6 := Lib.hid (Nat.le_trans S5.out hbc.size)
  clear T3 hbc B5 P5 Y5 S5
  go_upto_if 44 with fail
  go_cut [14, 15] (fun u v wx => ∃ A c1 ys a, u = .slice A (List.length ys) c1 ∧ v = .int .i64 a ∧ Hid (Sv1 w wx bf (frB x0 x1 x2 D) BB o s x0 x2 A c1 ys a))
  case first => as_aux_lemma =>
    cases β with
    | false =>
      obtain ⟨t1, t2⟩ := T2.out rfl
      have ST := Lib.hid (show Sv1 w wc bf (frB x0 x1 x2 D) BB o s x0 x2 A1 c1 ys a from ⟨P6.out, B6.out, S6.out, Y6.out, t1, t2⟩)
      clear X1 X2 X3 O T1 T2 P6 Q4 B6 S6 Y6 t1 t2
      go_wp2_with fail
      go_meet
      case rel => exact ⟨A1, c1, ys, a, rfl, rfl, ST⟩
    | true =>
      obtain ⟨k, rfl, hk, hky, hc2⟩ := T1.out rfl
      have KR := Lib.hid (pdelete_any A1 c1 ys k BB wc (by omega) hky P6.out)
      have RM := Lib.hid (show xs (ys.eraseIdx k) = rm o s x0 x2 from by
        rw [xs_erase, Q4.out]
        unfold rm
        rw [hk, if_pos hc2])
      have NF := Lib.hid (show ¬ (fi o s (x0 : Int) < o.length ∧ (o.getD (fi o s (x0 : Int)) at0).c = (x2 : Int)) from fun q => hc2 (by rw [hk] at q; exact q.2))
      have RB := Lib.hid (show ∀ g, Value.ownBlock (.slice A1 ys.length c1) = some g → BB ≤ g from fun g hg => by
        rcases P6.out.row with ⟨e, _, _⟩ | ht
        · rw [e] at hg; cases hg
        · exact (ht.lt g hg).1)
      have z1 : IntKind.i64.wrap ((k : Int) + 1) = (k : Int) + 1 := by rw [IntKind.wrap_i64] <;> omega
      clear X1 X2 X3 O P6 Q4 hc2 T1 T2 hk
      go_wp2_with fail
      refine KR.out.mono ?_
      rintro _ w3 ⟨rfl, h3, hg⟩
      have ST := Lib.hid (show Sv1 w w3 bf (frB x0 x1 x2 D) BB o s x0 x2 A1 c1 (ys.eraseIdx k) (-1) from ⟨h3, B6.out.trans (gr_below hg (B := w.heap.size) (fun g e => Nat.le_trans WB.out (RB.out g e)) B6.out.size), Nat.le_trans S6.out hg.size, blk_grown Y6.out hg (fun e => by have := RB.out bf e.symm; have := L3.out; omega), RM.out, Or.inl ⟨rfl, NF.out⟩⟩)
      clear h3 hg KR RM NF B6 S6 Y6 RB
      go_wp2_with fail
      go_meet
      case rel => exact ⟨A1, c1, ys.eraseIdx k, -1, rfl, rfl, ST⟩
  case rest => as_aux_lemma =>
    clear P6 Q4 B6 yl T1 T2 S6 Y6
    obtain ⟨A1, c1, ys, a, rfl, rfl, ST⟩ := hcut
    have k2 := blk_cell ST.out.2.2.2.1 2 (v := .int .i64 (x2 : Int)) rfl
    have k3 := blk_cell ST.out.2.2.2.1 3 (v := .string D) rfl
    by_cases hx2 : x2 = 1
    · have R := Lib.hid (X1.out (by omega))
      have PS := Lib.hid ST.out.1.q
      have BW := Lib.hid (fun n => below_drewN ST.out.2.1 n)
      have Q := Lib.hid ST.out.2.2.2.2.1
      have d3 : ((x2 : Int) == 1) = true := by simp; omega
      clear X1 X2 X3 ST hx2 O
      go_wp2_with fail
      go_quiet (fail)
      go_wp2_with fail
      rw [R.out]
      refine bodyPost_ret (v := .tuple #[.slice A1 ys.length c1, .string D, .bool true, .int .i64 0]) (by simp [results, Try.results18, go_sem]) rfl ⟨A1, c1, ys, rfl, (PS.out.below (below_drewN (Below.refl _ _) _)).down WB.out, Q.out, BW.out _⟩
    have d3 : ((x2 : Int) == 1) = false := by simp; omega
    have X2 := Lib.hid (X2.out (by omega))
    have X3 := Lib.hid (X3.out (by omega))
    clear X1 k3
    go_upto_if 57 with fail
    go_cut [14, 15] (fun u v wx => ∃ A c1 ys k, u = .slice A (List.length ys) c1 ∧ v = .int .i64 ((k : Nat) : Int) ∧ Hid (Sv2 w wx bf (frB x0 x1 x2 D) BB X x1 D A c1 ys k))
    case first => as_aux_lemma =>
      clear k2
      obtain ⟨P1, B1, S1, Y1, Q1, C1⟩ := ST.out
      rcases C1 with ⟨rfl, hf⟩ | ⟨rfl, hf, hc2, hxo⟩
      rotate_left
      · have ST2 := Lib.hid (show Sv2 w _ bf (frB x0 x1 x2 D) BB X x1 D A1 c1 ys (fi o s (x0 : Int)) from ⟨P1, B1, S1, Y1, by have := O.out.len; rw [← hxo] at this; simpa using this, ⟨by rw [← hxo] at hf ⊢; simpa using hf, by
          have v := valid_of_mem O.out _ hf
          rw [getD_at _ _ hf] at hc2
          have e : (ys[fi o s (x0 : Int)]'(by have := xs_len ys; rw [hxo] at this; omega)).x = o[fi o s (x0 : Int)] := by
            have := xs_at ys (fi o s (x0 : Int)) (by rw [hxo]; exact hf)
            rw [← this]
            congr 1
          rw [e]
          exact ⟨fit_valid v x1 (by rw [hc2]; omega), fun _ => (con_nF _).2 (by have := v.hi; have := v.hl; omega)⟩⟩, by rw [hxo]; exact X2.out ⟨hf, hc2⟩⟩)
        clear ST X2 X3 P1 B1 Q1 hc2 hxo O
        generalize fi o s (x0 : Int) = k at *
        have d4 : ((k : Int) == -1) = false := by simp
        clear hf
        go_wp2_with fail
        go_meet
        case rel => exact ⟨A1, c1, ys, k, rfl, rfl, ST2⟩
      · have X3 := Lib.hid (X3.out hf)
        have RO := Lib.hid (room_ok (rm_ok O.out s x0 x2))
        have yl : ys.length ≤ 8 := by have := (rm_ok O.out s x0 x2).len; rw [← Q1] at this; simpa using this
        have P1 := Lib.hid P1
        have B1 := Lib.hid B1
        have Q1 := Lib.hid Q1
        have S1 := Lib.hid S1
        have Y1 := Lib.hid Y1
        clear ST X2 hf O
        go_upto_region 12 with fail
        go_cut [16] (fun v wx => ∃ be, v = .pointer (some ⟨be, 0, none⟩) ∧ Hid (wx.heap[be]? = some (bxP (ent0 s x0 x2 now))) ∧ wc.heap.size ≤ be ∧ Below wc.heap.size wc wx)
        case first => as_aux_lemma =>
          have YD : wc.drew.heap[bf]? = some (frB x0 x1 x2 D) := Y1.out
          have k0 := blk_cell YD 0 (v := .int .i64 (x0 : Int)) rfl
          have k2 := blk_cell YD 2 (v := .int .i64 (x2 : Int)) rfl
          have KL := Lib.hid (fun w => plim_any now w)
          have YA := blk_alloc YD (.cells #[.int .i64 0, .int .i64 0, .int .i64 0, .int .i64 0, .slice none 0 0, .slice none 0 0] 44)
          have j0 := blk_cell YA 0 (v := .int .i64 (x0 : Int)) rfl
          have j2 := blk_cell YA 2 (v := .int .i64 (x2 : Int)) rfl
          have YB := blk_alloc YD (.cells #[.int .i64 s, .int .i64 (x0 : Int), .int .i64 (x2 : Int), .int .i64 (tick now), .slice none 0 0, .slice none 0 0] 44)
          have i0 := blk_cell YB 0 (v := .int .i64 (x0 : Int)) rfl
          have i2 := blk_cell YB 2 (v := .int .i64 (x2 : Int)) rfl
          have RES := Lib.hid (show (wc.drew.alloc (.cells #[.int .i64 s, .int .i64 (x0 : Int), .int .i64 (x2 : Int), .int .i64 (tick now), .slice none 0 0, .slice none 0 0] 44)).heap[wc.heap.size]? = some (bxP (ent0 s x0 x2 now)) from blk_new wc.drew _)
          have BW := Lib.hid (show Below wc.heap.size wc (wc.drew.alloc (.cells #[.int .i64 s, .int .i64 (x0 : Int), .int .i64 (x2 : Int), .int .i64 (tick now), .slice none 0 0, .slice none 0 0] 44)) from (below_drewN (Below.refl wc.heap.size wc) 1).alloc (Nat.le_refl _) _)
          clear X3 RO P1 B1 Q1 S1 Y1 YD YA YB
          generalize tick now = tk at *
          go_wp2_with fail
          refine wp_region_held_drew (S := (fun wy : World => wy.cell? ⟨bf, 0, none⟩ = some (.int .i64 (x0 : Int)) ∧ wy.cell? ⟨bf, 2, none⟩ = some (.int .i64 (x2 : Int)))) (by kernel_rfl) (⟨k0, k2⟩) (fun hHeld => ?_)
          refine wpAnyH_take (i := 0) (v := (.int .i64 s)) at_zero (by kernel_rfl) (by kernel_rfl) (by kernel_rfl) (fun _ _ _ h => h) (Or.inl ⟨by kernel_rfl, fun wy hSw => ?_⟩) (by assumption) ?_
          · (try dsimp only at hSw); go_simp
          try simp only [Act.put, List.setIfInBounds_toArray, List.set_cons_zero, List.set_cons_succ]
          refine wpAnyH_take (i := 1) (v := (.pointer (some ⟨bf, 0, none⟩))) (at_succ at_zero) (by kernel_rfl) (by kernel_rfl) (by kernel_rfl) (fun _ _ _ h => h) (Or.inl ⟨by kernel_rfl, fun wy hSw => ?_⟩) (by assumption) ?_
          · (try dsimp only at hSw); go_simp
          try simp only [Act.put, List.setIfInBounds_toArray, List.set_cons_zero, List.set_cons_succ]
          refine wpAnyH_take (i := 2) (v := (.int .i64 (x0 : Int))) (at_succ (at_succ at_zero)) (by kernel_rfl) (by kernel_rfl) (by kernel_rfl) (fun _ _ _ h => h) (Or.inl ⟨by kernel_rfl, fun wy hSw => ?_⟩) (by assumption) ?_
          · (try dsimp only at hSw); obtain ⟨u0, u1⟩ := hSw; go_simp
          try simp only [Act.put, List.setIfInBounds_toArray, List.set_cons_zero, List.set_cons_succ]
          refine wpAnyH_take (i := 3) (v := (.pointer (some ⟨bf, 2, none⟩))) (at_succ (at_succ (at_succ at_zero))) (by kernel_rfl) (by kernel_rfl) (by kernel_rfl) (fun _ _ _ h => h) (Or.inl ⟨by kernel_rfl, fun wy hSw => ?_⟩) (by assumption) ?_
          · (try dsimp only at hSw); go_simp
          try simp only [Act.put, List.setIfInBounds_toArray, List.set_cons_zero, List.set_cons_succ]
          refine wpAnyH_take (i := 4) (v := (.int .i64 (x2 : Int))) (at_succ (at_succ (at_succ (at_succ at_zero)))) (by kernel_rfl) (by kernel_rfl) (by kernel_rfl) (fun _ _ _ h => h) (Or.inl ⟨by kernel_rfl, fun wy hSw => ?_⟩) (by assumption) ?_
          · (try dsimp only at hSw); obtain ⟨u0, u1⟩ := hSw; go_simp
          try simp only [Act.put, List.setIfInBounds_toArray, List.set_cons_zero, List.set_cons_succ]
          refine wpAnyH_take (i := 5) (v := (.int .i64 now)) (at_succ (at_succ (at_succ (at_succ (at_succ at_zero))))) (by kernel_rfl) (by kernel_rfl) (by kernel_rfl) (fun _ _ _ h => h) (Or.inl ⟨by kernel_rfl, fun wy hSw => ?_⟩) (by assumption) ?_
          · (try dsimp only at hSw); go_simp
          try simp only [Act.put, List.setIfInBounds_toArray, List.set_cons_zero, List.set_cons_succ]
          refine wpAnyH_ready (rs := [6, 8]) (by kernel_rfl) (by simp) ?_
          refine AllReadyH.cons (at_succ (at_succ (at_succ (at_succ (at_succ (at_succ at_zero)))))) (fun K hK => ?_) (AllReadyH.cons (at_succ (at_succ (at_succ (at_succ (at_succ (at_succ (at_succ (at_succ at_zero)))))))) (fun K hK => ?_) AllReadyH.nil)
          · rw [if_pos (by kernel_rfl)]
            go_simp
            refine (KL.out _).mono ?_
            rintro _ _ ⟨rfl, rfl⟩
            go_wp2_with fail
            refine hK.out _ _ (⟨k0, k2⟩) (fun hHeld => ?_)
            clear hK K
            try simp only [Act.put, List.setIfInBounds_toArray, List.set_cons_zero, List.set_cons_succ]
            refine wpAnyH_take (i := 7) (v := (.agg #[.int .i64 s, .int .i64 (x0 : Int), .int .i64 (x2 : Int), .int .i64 tk, .slice none 0 0, .slice none 0 0])) (at_succ (at_succ (at_succ (at_succ (at_succ (at_succ (at_succ at_zero))))))) (by kernel_rfl) (by kernel_rfl) (by kernel_rfl) (fun _ _ _ h => h) (Or.inl ⟨by kernel_rfl, fun wy hSw => ?_⟩) (by assumption) ?_
            · refine ex_build 44 _ rfl #[(0, .int .i64 s), (1, .int .i64 (x0 : Int)), (2, .int .i64 (x2 : Int)), (3, .int .i64 tk)] ?_ _ (built_4 _ _ _ _); go_simp
            try simp only [Act.put, List.setIfInBounds_toArray, List.set_cons_zero, List.set_cons_succ]
            refine wpAnyH_ready (rs := [8]) (by kernel_rfl) (by simp) ?_
            refine AllReadyH.cons (at_succ (at_succ (at_succ (at_succ (at_succ (at_succ (at_succ (at_succ at_zero)))))))) (fun K hK => ?_) AllReadyH.nil
            rw [if_pos (by kernel_rfl)]
            go_simp
            refine hK.out _ _ (⟨j0, j2⟩) (fun hHeld => ?_)
            clear hK K
            try simp only [Act.put, List.setIfInBounds_toArray, List.set_cons_zero, List.set_cons_succ]
            refine wpAnyH_ready (rs := [9]) (by kernel_rfl) (by simp) ?_
            refine AllReadyH.cons (at_succ (at_succ (at_succ (at_succ (at_succ (at_succ (at_succ (at_succ (at_succ at_zero))))))))) (fun K hK => ?_) AllReadyH.nil
            rw [if_pos (by kernel_rfl)]
            go_simp
            refine hK.out _ _ (⟨i0, i2⟩) (fun hHeld => ?_)
            clear hK K
            try simp only [Act.put, List.setIfInBounds_toArray, List.set_cons_zero, List.set_cons_succ]
            refine wpAnyH_done (by kernel_rfl) ?_ _
            go_wp2_with fail
            go_meet
            case rel => exact ⟨wc.heap.size, rfl, RES, Nat.le_refl _, BW.out⟩
          · rw [if_pos (by kernel_rfl)]
            go_simp
            refine hK.out _ _ (⟨j0, j2⟩) (fun hHeld => ?_)
            clear hK K
            try simp only [Act.put, List.setIfInBounds_toArray, List.set_cons_zero, List.set_cons_succ]
            refine wpAnyH_ready (rs := [6]) (by kernel_rfl) (by simp) ?_
            refine AllReadyH.cons (at_succ (at_succ (at_succ (at_succ (at_succ (at_succ at_zero)))))) (fun K hK => ?_) AllReadyH.nil
            rw [if_pos (by kernel_rfl)]
            go_simp
            refine (KL.out _).mono ?_
            rintro _ _ ⟨rfl, rfl⟩
            go_wp2_with fail
            refine hK.out _ _ (⟨j0, j2⟩) (fun hHeld => ?_)
            clear hK K
            try simp only [Act.put, List.setIfInBounds_toArray, List.set_cons_zero, List.set_cons_succ]
            refine wpAnyH_take (i := 7) (v := (.agg #[.int .i64 s, .int .i64 (x0 : Int), .int .i64 (x2 : Int), .int .i64 tk, .slice none 0 0, .slice none 0 0])) (at_succ (at_succ (at_succ (at_succ (at_succ (at_succ (at_succ at_zero))))))) (by kernel_rfl) (by kernel_rfl) (by kernel_rfl) (fun _ _ _ h => h) (Or.inl ⟨by kernel_rfl, fun wy hSw => ?_⟩) (by assumption) ?_
            · refine ex_build 44 _ rfl #[(0, .int .i64 s), (1, .int .i64 (x0 : Int)), (2, .int .i64 (x2 : Int)), (3, .int .i64 tk)] ?_ _ (built_4 _ _ _ _); go_simp
            try simp only [Act.put, List.setIfInBounds_toArray, List.set_cons_zero, List.set_cons_succ]
            refine wpAnyH_ready (rs := [9]) (by kernel_rfl) (by simp) ?_
            refine AllReadyH.cons (at_succ (at_succ (at_succ (at_succ (at_succ (at_succ (at_succ (at_succ (at_succ at_zero))))))))) (fun K hK => ?_) AllReadyH.nil
            rw [if_pos (by kernel_rfl)]
            go_simp
            refine hK.out _ _ (⟨i0, i2⟩) (fun hHeld => ?_)
            clear hK K
            try simp only [Act.put, List.setIfInBounds_toArray, List.set_cons_zero, List.set_cons_succ]
            refine wpAnyH_done (by kernel_rfl) ?_ _
            go_wp2_with fail
            go_meet
            case rel => exact ⟨wc.heap.size, rfl, RES, Nat.le_refl _, BW.out⟩
        case rest => as_aux_lemma =>
          obtain ⟨be, rfl, HE, hbe, hbc⟩ := hcut
          have P2 := P1.out.below hbc
          have B2 := B1.out.trans (hbc.mono B1.out.size)
          have S2 := Nat.le_trans S1.out hbc.size
          have Y2 := blk_below Y1.out hbc (Array.getElem?_eq_some_iff.1 Y1.out).1
          have RBk : ∀ g, Value.ownBlock (.slice A1 ys.length c1) = some g → BB ≤ g ∧ g < be := fun g hg => by
            rcases P1.out.row with ⟨e, _, _⟩ | ht
            · rw [e] at hg; cases hg
            · have := ht.lt g hg; omega
          have bd := below_drewN (Below.refl wc.heap.size wc) 1
          have P3 : OwnV wc.drew BB A1 c1 ys := P2.below bd
          obtain ⟨A2, c2, hcut2, RV, RBc⟩ := RowV.cut2 P3.row (ys.length - 7) (by omega)
          have RB2 := Lib.hid (fun g hg => RBk g (RBc g hg))
          have KL := Lib.hid (fun w => plast_any A1 A2 ys.length 7 c1 (ys.drop (ys.length - 7)).length c2 w (by omega) (by omega) hcut2)
          have KW := Lib.hid (pwout_any (ent0 s x0 x2 now) x2 wc.drew (by omega) rfl)
          have EM : xs (ys.drop (ys.length - 7)) = room (rm o s x0 x2) := by
            rw [xs_drop, ← Q1.out]
            unfold room
            have := xs_len ys
            by_cases h8 : (xs ys).length = 8
            · rw [if_pos h8, show ys.length - 7 = 1 by omega]
              cases xs ys <;> rfl
            · rw [if_neg h8, show ys.length - 7 = 0 by omega, List.drop_zero]
          have ML : (ys.drop (ys.length - 7)).length ≤ 7 := by rw [List.length_drop]; omega
          have NM := Lib.hid (show ∀ z ∈ ys.drop (ys.length - 7), OwnN wc.drew BB z from fun z hz => P3.nest z (List.mem_of_mem_drop hz))
          have AM := Lib.hid (P3.ap.sublist (List.drop_sublist (ys.length - 7) ys))
          have HE2 : wc.drew.heap[be]? = some (bxP (ent0 s x0 x2 now)) := HE.out
          have Y3 := Lib.hid (show wc.drew.heap[bf]? = some (frB x0 x1 x2 D) from Y2)
          have B3 := Lib.hid (show Below w.heap.size w wc.drew from below_drewN B2 1)
          have S3 := Lib.hid (show BB ≤ wc.drew.heap.size from S2)
          have X3h := Lib.hid X3
          have EMh := Lib.hid EM
          have RVh := Lib.hid RV
          clear P1 B1 Q1 S1 Y1 P2 B2 S2 Y2 RBk bd P3 hcut2 RV RBc RO hbc HE X3 EM
          generalize ys.drop (ys.length - 7) = m at *
          unfold WoR blank at KW
          simp only [hpV, List.length_replicate, List.length_nil] at KW
          obtain ⟨e0, e1, e2, e3, e4, e5⟩ := hp_block HE2
          simp only [Nat.zero_add, List.length_nil] at e0 e1 e2 e3 e4 e5
          have HE2h := Lib.hid HE2
          have hbl : be < wc.drew.heap.size := (Array.getElem?_eq_some_iff.1 HE2).1
          clear HE2
          obtain ⟨tk, htk⟩ : ∃ t, tick now = t := ⟨_, rfl⟩
          simp only [htk] at KW e3
          go_wp2_with fail
          refine wp_region_held_drew (S := (fun wy : World => wy.cell? ⟨be, 0, none⟩ = some (.int .i64 s) ∧ wy.cell? ⟨be, 1, none⟩ = some (.int .i64 (x0 : Int)) ∧ wy.cell? ⟨be, 2, none⟩ = some (.int .i64 (x2 : Int)) ∧ wy.cell? ⟨be, 3, none⟩ = some (.int .i64 tk) ∧ wy.cell? ⟨be, 4, none⟩ = some (.slice none 0 0) ∧ wy.cell? ⟨be, 5, none⟩ = some (.slice none 0 0))) (by kernel_rfl) (⟨e0, e1, e2, e3, e4, e5⟩) (fun hHeld => ?_)
          refine wpAnyH_take (i := 0) (v := (.slice A1 ys.length c1)) at_zero (by kernel_rfl) (by kernel_rfl) (by kernel_rfl) (fun _ _ _ h => h) (Or.inl ⟨by kernel_rfl, fun wy hSw => ?_⟩) (by assumption) ?_
          · (try dsimp only at hSw); go_simp
          try simp only [Act.put, List.setIfInBounds_toArray, List.set_cons_zero, List.set_cons_succ]
          refine wpAnyH_take (i := 2) (v := (.agg #[.int .i64 s, .int .i64 (x0 : Int), .int .i64 (x2 : Int), .int .i64 tk, .slice none 0 0, .slice none 0 0])) (at_succ (at_succ at_zero)) (by kernel_rfl) (by kernel_rfl) (by kernel_rfl) (fun _ _ _ h => h) (Or.inl ⟨by kernel_rfl, fun wy hSw => ?_⟩) (by assumption) ?_
          · (try dsimp only at hSw); obtain ⟨u0, u1, u2, u3, u4, u5⟩ := hSw; go_simp
          try simp only [Act.put, List.setIfInBounds_toArray, List.set_cons_zero, List.set_cons_succ]
          refine wpAnyH_ready (rs := [1]) (by kernel_rfl) (by simp) ?_
          refine AllReadyH.cons (at_succ at_zero) (fun K hK => ?_) AllReadyH.nil
          rw [if_pos (by kernel_rfl)]
          go_simp
          refine (KL.out _).mono ?_
          rintro _ _ ⟨rfl, rfl⟩
          go_wp2_with fail
          refine hK.out _ _ (⟨e0, e1, e2, e3, e4, e5⟩) (fun hHeld => ?_)
          clear hK K
          try simp only [Act.put, List.setIfInBounds_toArray, List.set_cons_zero, List.set_cons_succ]
          refine wpAnyH_ready (rs := [3]) (by kernel_rfl) (by simp) ?_
          refine AllReadyH.cons (at_succ (at_succ (at_succ at_zero))) (fun K hK => ?_) AllReadyH.nil
          rw [if_pos (by kernel_rfl)]
          go_simp
          refine KW.out.mono ?_
          rintro _ w7 ⟨g, g2, rfl, ho, hb⟩
          have E7 := blk_below HE2h.out hb hbl
          obtain ⟨Y, hY⟩ : ∃ Y : Hp, Y = ⟨nw s x0 x2 now, some ⟨g, 0, none⟩, x2, some ⟨g2, 0, none⟩, x2⟩ := ⟨_, rfl⟩
          have ho' : OwnN w7 wc.drew.heap.size Y := by rw [hY]; unfold nw; rw [Int.toNat_natCast, htk]; exact ho
          have hYb : bxP Y = .cells #[.int .i64 s, .int .i64 (x0 : Int), .int .i64 (x2 : Int), .int .i64 tk, .slice (some ⟨g, 0, none⟩) x2 x2, .slice (some ⟨g2, 0, none⟩) x2 x2] 44 := by rw [hY]; simp [nw, htk]
          have RV7 : RowV w7 BB A2 c2 m := RVh.out.imp_right fun o => o.below hb
          have TI := tick_in now
          obtain ⟨A3, c3, w8, hap, RV8, hg8, hN8⟩ := RV7.push Y (by rw [hY]; exact ⟨HS.out, by unfold I64; show _ ≤ (x0 : Int) ∧ (x0 : Int) ≤ _; omega, by unfold I64; show _ ≤ (x2 : Int) ∧ (x2 : Int) ≤ _; omega, by unfold I64; show _ ≤ tick now ∧ tick now ≤ _; omega⟩) (by omega) (Nat.le_trans S3.out hb.size)
          obtain ⟨n1, n2⟩ := OwnP.push NM.out AM.out hb ho' S3.out
          obtain ⟨zs, hzs⟩ : ∃ zs, m ++ [Y] = zs := ⟨_, rfl⟩
          rw [hzs] at hap RV8 n1 n2
          have a8 := alloc_below w7 (bxP Y)
          have E8 := blk_below E7 a8 (by have := hb.size; omega)
          have E9 := blk_grown E8 hg8 (fun e => by have := RB2.out be e.symm; omega)
          have B7 := (B3.out.trans (hb.mono B3.out.size))
          have B8 := B7.trans (a8.mono B7.size)
          have B9 := B8.trans (gr_below hg8 (B := w.heap.size) (fun q e => Nat.le_trans WB.out (RB2.out q e).1) B8.size)
          have Y9 := blk_grown (blk_below (blk_below Y3.out hb (by have := L3.out; have := S3.out; omega)) a8 (by have := L3.out; have := S3.out; have := hb.size; omega)) hg8 (fun e => by have := (RB2.out bf e.symm).1; have := L3.out; omega)
          have ST2 : Hid (Sv2 w w8 bf (frB x0 x1 x2 D) BB X x1 D A3 c3 zs m.length) := Lib.hid ⟨⟨RV8, fun z hz => hN8 BB z (n1 z hz), n2⟩, B9, Nat.le_trans (Nat.le_trans (Nat.le_trans S3.out hb.size) a8.size) hg8.size, Y9, by rw [← hzs, List.length_append]; simp; omega, ⟨by rw [← hzs, List.length_append]; simp, by
            have e : (zs[m.length]'(by rw [← hzs, List.length_append]; simp)).x = nw s x0 x2 now := by
              have e8 : ∀ h : m.length < zs.length, zs[m.length]'h = Y := by
                intro h
                subst hzs
                rw [List.getElem_append_right (Nat.le_refl _)]
                simp
              rw [e8, hY]
            rw [e]
            exact ⟨fit_new s x0 x2 now x1 (by omega) (by omega), fun q => by
              have e : (nw s x0 x2 now).h.getD x1 false = false := by
                show (List.replicate ((x2 : Int)).toNat false).getD x1 false = false
                rw [Int.toNat_natCast, List.getD_eq_getElem?_getD, List.getElem?_replicate]
                split <;> rfl
              rw [e] at q
              cases q⟩⟩, by
            rw [X3h.out, ← EMh.out, xs_len, ← hzs]
            unfold xs
            rw [List.map_append, hY]
            rfl⟩
          rw [hYb] at hap
          rw [hYb] at E8
          have s7 := hp_block E7
          have s8 : (w7.alloc (.cells #[.int .i64 s, .int .i64 (x0 : Int), .int .i64 (x2 : Int), .int .i64 tk, .slice (some ⟨g, 0, none⟩) x2 x2, .slice (some ⟨g2, 0, none⟩) x2 x2] 44)).heap[be]? = _ := E8
          have s8 := hp_block s8
          have s9 := hp_block E9
          simp only [HpC, Nat.zero_add, List.length_nil, htk] at s7 s8 s9
          clear ho ho' hYb RV7 RV8 hg8 hN8 n1 n2 a8 E8 E9 B7 B8 B9 Y9 hb E7 hY
          go_wp2_with fail
          refine hK.out _ _ (s7) (fun hHeld => ?_)
          clear hK K
          try simp only [Act.put, List.setIfInBounds_toArray, List.set_cons_zero, List.set_cons_succ]
          refine wpAnyH_ready (rs := [4]) (by kernel_rfl) (by simp) ?_
          refine AllReadyH.cons (at_succ (at_succ (at_succ (at_succ at_zero)))) (fun K hK => ?_) AllReadyH.nil
          rw [if_pos (by kernel_rfl)]
          refine wp_bsl_run _ _ _ _ rfl #[(0, .agg #[.int .i64 s, .int .i64 (x0 : Int), .int .i64 (x2 : Int), .int .i64 tk, .slice (some ⟨g, 0, none⟩) x2 x2, .slice (some ⟨g2, 0, none⟩) x2 x2])] (by go_simp) _ _ (bsl_p _ _ _ _ _ _ _ _ _ _ _) ?_
          refine hK.out _ _ (s8) (fun hHeld => ?_)
          clear hK K
          try simp only [Act.put, List.setIfInBounds_toArray, List.set_cons_zero, List.set_cons_succ]
          refine wpAnyH_ready (rs := [5]) (by kernel_rfl) (by simp) ?_
          refine AllReadyH.cons (at_succ (at_succ (at_succ (at_succ (at_succ at_zero))))) (fun K hK => ?_) AllReadyH.nil
          rw [if_pos (by kernel_rfl)]
          refine Lib.wp_append_run _ _ _ _ _ rfl _ _ rfl rfl _ _ hap ?_
          refine hK.out _ _ (s9) (fun hHeld => ?_)
          clear hK K
          try simp only [Act.put, List.setIfInBounds_toArray, List.set_cons_zero, List.set_cons_succ]
          refine wpAnyH_take (i := 6) (v := (.slice A3 zs.length c3)) (at_succ (at_succ (at_succ (at_succ (at_succ (at_succ at_zero)))))) (by kernel_rfl) (by kernel_rfl) (by kernel_rfl) (fun _ _ _ h => h) (Or.inl ⟨by kernel_rfl, fun wy hSw => ?_⟩) (by assumption) ?_
          · (try dsimp only at hSw); go_simp
          try simp only [Act.put, List.setIfInBounds_toArray, List.set_cons_zero, List.set_cons_succ]
          refine wpAnyH_done (by kernel_rfl) ?_ _
          clear e0 e1 e2 e3 e4 e5
          have L9 : zs.length = m.length + 1 := by rw [← hzs, List.length_append]; rfl
          have z1 : IntKind.i64.wrap ((zs.length : Int) - 1) = (m.length : Int) := by rw [IntKind.wrap_i64] <;> omega
          go_wp2_with fail
          go_meet
          case rel => exact ⟨A3, c3, zs, m.length, rfl, rfl, ST2⟩
    case rest => as_aux_lemma =>
      clear X2 X3 ST k2 O d3 hx2
      obtain ⟨A1, c1, ys, k, rfl, rfl, ST⟩ := hcut
      obtain ⟨P1, B1, S1, Y1, L8, ⟨hk, F, F2⟩, XP⟩ := ST.out
      clear ST
      go_upto_region 15 with fail
      go_cut [80] (fun v wx => v = .tuple #[] ∧ ∃ zs, List.length zs = ys.length ∧ Hid (Sv3 w wx BB X A1 c1 zs k))
      case first => as_aux_lemma =>
        have bd := below_drewN (Below.refl wc.heap.size wc) 1
        have P2 : OwnV wc.drew BB A1 c1 ys := P1.below bd
        have Y2 : wc.drew.heap[bf]? = some (frB x0 x1 x2 D) := Y1
        have B2 : Below w.heap.size w wc.drew := below_drewN B1 1
        obtain ⟨b, q, rfl, hbB, hbl, c0, cur, hbk⟩ := row_cell P2 k hk
        have N := P2.nest ys[k] (List.getElem_mem hk)
        obtain ⟨g, cu1, hgA, hgB, hgt⟩ := own_blk N.bo N.nb
        obtain ⟨g2, cu2, hg2A, hg2B, hg2t⟩ := own_blk N.st N.ns
        have hbg : b ≠ g := fun e => by
          subst e
          rw [hbk] at hgt
          simp only [Option.some.injEq, Obj.cells.injEq] at hgt
          exact absurd hgt.2.1 (by decide)
        have hbg2 : b ≠ g2 := fun e => by
          subst e
          rw [hbk] at hg2t
          simp only [Option.some.injEq, Obj.cells.injEq] at hg2t
          exact absurd hg2t.2.1 (by decide)
        have hgg : g ≠ g2 := fun e => by
          subst e
          rw [hgt] at hg2t
          simp only [Option.some.injEq, Obj.cells.injEq] at hg2t
          exact absurd hg2t.2.1 (by decide)
        obtain ⟨F1, F1', F3, F4, F5⟩ := F
        have hbo := N.bo
        have hst := N.st
        rw [hgA] at hbo
        rw [hg2A] at hst
        have hv := OwnF.cell hbo x1 F1 0 (by decide)
        rw [show x1 * fBo.sz + 0 = x1 by show x1 * 1 + 0 = x1; omega] at hv
        have hv2 := OwnF.cell hst x1 F1' 0 (by decide)
        rw [show x1 * fSt.sz + 0 = x1 by show x1 * 1 + 0 = x1; omega] at hv2
        have hf1 := OwnF.fr hbo x1
        have hf2 := OwnF.fr hst x1
        have hgl := (Array.getElem?_eq_some_iff.1 hgt).1
        have hg2l := (Array.getElem?_eq_some_iff.1 hg2t).1
        have hbfl := (Array.getElem?_eq_some_iff.1 Y2).1
        have hL3 := L3.out
        have r0 : (k : Int) < (ys.length : Int) := by omega
        have r1 : (0 : Int) ≤ (k : Int) := by omega
        have F2h := Lib.hid F2
        have F5h := Lib.hid F5
        have XPh := Lib.hid XP
        have P2h := Lib.hid P2
        have B2h := Lib.hid B2
        have c0h := Lib.hid c0
        have GD := Lib.hid (show (xs ys).getD k at0 = ys[k].x from xs_getD ys k hk)
        have HT := Lib.hid (show ys[k].x.h.getD x1 false = ys[k].x.h[x1] from by simp [List.getD, F1])
        have hgAh := Lib.hid hgA
        have hg2Ah := Lib.hid hg2A
        obtain ⟨y, hy⟩ : ∃ y, ys[k] = y := ⟨_, rfl⟩
        have HY := Lib.hid hy
        have F1h := Lib.hid F1
        have F1h' := Lib.hid F1'
        have KH := Lib.hid (fun ha hv' => pstore_has (ys[k]'hk) x0 x1 x2 D g wc.drew ha F1 (by omega) hgl hv')
        have KN := Lib.hid (fun ha hd hv' => pstore_not (ys[k]'hk) x0 x1 x2 D g g2 ((ys[k]'hk).x.d[x1]'F1') wc.drew ha hd F1 F1' (by omega) (by omega) hgl hg2l hgg hv' hf1 hv2 hf2)
        have q0 := blk_cell Y2 0 (v := .int .i64 (x0 : Int)) rfl
        have q1 := blk_cell Y2 1 (v := .int .i64 (x1 : Int)) rfl
        have q2 := blk_cell Y2 2 (v := .int .i64 (x2 : Int)) rfl
        have q3 := blk_cell Y2 3 (v := .string D) rfl
        clear P1 B1 Y1 bd N hbo hst hgA hg2A hv2 hf1 hf2 F2 F5 XP P2 B2 hbk hgt hg2t c0
        have c0 := c0h.out
        rw [hy] at c0
        simp only [hy] at KH KN
        obtain ⟨⟨s1, i1, c2, t, h, d⟩, a1, a2, a3, a4⟩ := y
        unfold HpC at c0
        simp only at c0 KH KN
        cases hz : (ys[k]'hk).x.h[x1]'F1 with
        | true =>
          have KS := Lib.hid (KH.out (by have := hgAh.out; rw [hy] at this; exact this) (by rw [hv]; show some (Value.bool _) = _; rw [hz]))
          have ST := Lib.hid (fun w6 (hb : Below wc.drew.heap.size wc.drew w6) => (show Sv3 w w6 BB X (some ⟨b, q, none⟩) c1 ys k from
            ⟨P2h.out.below hb, B2h.out.trans (hb.mono B2h.out.size), L8, hk, ⟨by omega, F3, F4, F5h.out⟩, fun _ => by
              rw [XPh.out]
              unfold put
              rw [GD.out, if_pos (by rw [HT.out, hz])], fun e => by rw [F2h.out (by rw [HT.out, hz])] at e; cases e⟩))
          clear KH KN hv hz GD HT F2h F5h XPh P2h B2h HY F1h F1h' hgAh hg2Ah F1 F1' F3 F4
          go_wp2_with fail
          refine wp_region_held_drew (S := (fun wy : World => (wy.cell? ⟨b, q + k * 6, none⟩ = some (.int .i64 s1) ∧ wy.cell? ⟨b, q + k * 6 + 1, none⟩ = some (.int .i64 i1) ∧ wy.cell? ⟨b, q + k * 6 + 2, none⟩ = some (.int .i64 c2) ∧ wy.cell? ⟨b, q + k * 6 + 3, none⟩ = some (.int .i64 t) ∧ wy.cell? ⟨b, q + k * 6 + 4, none⟩ = some (.slice a1 h.length a2) ∧ wy.cell? ⟨b, q + k * 6 + 5, none⟩ = some (.slice a3 d.length a4)) ∧ wy.cell? ⟨bf, 0, none⟩ = some (.int .i64 (x0 : Int)) ∧ wy.cell? ⟨bf, 1, none⟩ = some (.int .i64 (x1 : Int)) ∧ wy.cell? ⟨bf, 2, none⟩ = some (.int .i64 (x2 : Int)) ∧ wy.cell? ⟨bf, 3, none⟩ = some (.string D))) (by kernel_rfl) (⟨c0, q0, q1, q2, q3⟩) (fun hHeld => ?_)
          refine wpAnyH_take (i := 0) (v := (.slice (some ⟨b, q, none⟩) ys.length c1)) at_zero (by kernel_rfl) (by kernel_rfl) (by kernel_rfl) (fun _ _ _ h => h) (Or.inl ⟨by kernel_rfl, fun wy hSw => ?_⟩) (by assumption) ?_
          · (try dsimp only at hSw); go_simp
          try simp only [Act.put, List.setIfInBounds_toArray, List.set_cons_zero, List.set_cons_succ]
          refine wpAnyH_take (i := 1) (v := (.int .i64 (k : Int))) (at_succ at_zero) (by kernel_rfl) (by kernel_rfl) (by kernel_rfl) (fun _ _ _ h => h) (Or.inl ⟨by kernel_rfl, fun wy hSw => ?_⟩) (by assumption) ?_
          · (try dsimp only at hSw); go_simp
          try simp only [Act.put, List.setIfInBounds_toArray, List.set_cons_zero, List.set_cons_succ]
          refine wpAnyH_take (i := 2) (v := (.pointer (some ⟨b, q + k * 6, none⟩))) (at_succ (at_succ at_zero)) (by kernel_rfl) (by kernel_rfl) (by kernel_rfl) (fun _ _ _ h => h) (Or.inl ⟨by kernel_rfl, fun wy hSw => ?_⟩) (by assumption) ?_
          · (try dsimp only at hSw); go_simp
          try simp only [Act.put, List.setIfInBounds_toArray, List.set_cons_zero, List.set_cons_succ]
          refine wpAnyH_take (i := 3) (v := (.agg #[.int .i64 s1, .int .i64 i1, .int .i64 c2, .int .i64 t, .slice a1 h.length a2, .slice a3 d.length a4])) (at_succ (at_succ (at_succ at_zero))) (by kernel_rfl) (by kernel_rfl) (by kernel_rfl) (fun _ _ _ h => h) (Or.inl ⟨by kernel_rfl, fun wy hSw => ?_⟩) (by assumption) ?_
          · (try dsimp only at hSw); obtain ⟨⟨u0, u1, u2, u3, u4, u5⟩, v0, v1, v2, v3⟩ := hSw; go_simp
          try simp only [Act.put, List.setIfInBounds_toArray, List.set_cons_zero, List.set_cons_succ]
          refine wpAnyH_take (i := 4) (v := (.agg #[.int .i64 (x0 : Int), .int .i64 (x1 : Int), .int .i64 (x2 : Int), .string D])) (at_succ (at_succ (at_succ (at_succ at_zero)))) (by kernel_rfl) (by kernel_rfl) (by kernel_rfl) (fun _ _ _ h => h) (Or.inl ⟨by kernel_rfl, fun wy hSw => ?_⟩) (by assumption) ?_
          · (try dsimp only at hSw); obtain ⟨⟨u0, u1, u2, u3, u4, u5⟩, v0, v1, v2, v3⟩ := hSw; go_simp
          try simp only [Act.put, List.setIfInBounds_toArray, List.set_cons_zero, List.set_cons_succ]
          refine wpAnyH_ready (rs := [5]) (by kernel_rfl) (by simp) ?_
          refine AllReadyH.cons (at_succ (at_succ (at_succ (at_succ (at_succ at_zero))))) (fun K hK => ?_) AllReadyH.nil
          rw [if_pos (by kernel_rfl)]
          go_simp
          refine KS.out.mono ?_
          rintro _ w6 ⟨rfl, hb⟩
          have y6 : w6.heap[bf]? = some (frB x0 x1 x2 D) := blk_below (show wc.drew.heap[bf]? = some (frB x0 x1 x2 D) from Y2) hb hbfl
          have c6 : HpC w6 b (q + k * 6) ⟨⟨s1, i1, c2, t, h, d⟩, a1, a2, a3, a4⟩ := HpC.below (show HpC wc.drew b (q + k * 6) ⟨⟨s1, i1, c2, t, h, d⟩, a1, a2, a3, a4⟩ from c0) hb hbl
          go_wp2_with fail
          refine hK.out _ _ (⟨c6, blk_cell y6 0 rfl, blk_cell y6 1 rfl, blk_cell y6 2 rfl, blk_cell y6 3 rfl⟩) (fun hHeld => ?_)
          clear hK K
          try simp only [Act.put, List.setIfInBounds_toArray, List.set_cons_zero, List.set_cons_succ]
          refine wpAnyH_done (by kernel_rfl) ?_ _
          go_wp2_with fail
          go_meet
          case rel => exact ⟨rfl, ys, rfl, ST.out _ hb⟩
        | false =>
          have KS := Lib.hid (KN.out (by have := hgAh.out; rw [hy] at this; exact this) (by have := hg2Ah.out; rw [hy] at this; exact this) (by rw [hv]; show some (Value.bool _) = _; rw [hz]))
          have DB := Lib.hid (show D.size ≤ 9223372036854775807 by have := HB.out; omega)
          have ST := Lib.hid (fun V (hb : Below wc.drew.heap.size wc.drew V) => (show Sv3 w ((V.setCell ⟨g, x1, none⟩ (.bool true)).setCell ⟨g2, x1, none⟩ (.string D)) BB X (some ⟨b, q, none⟩) c1 (ys.set k (setD (setH ys[k] x1) x1 D)) k from by
            have Q1 := (P2h.out.below hb).storeH k hk x1 F1h.out g hgAh.out
            have e1 : (ys.set k (setH ys[k] x1))[k]'(by rw [List.length_set]; exact hk) = setH ys[k] x1 := List.getElem_set_self _
            have Q2 := Q1.storeD k (by rw [List.length_set]; exact hk) x1 (by rw [e1]; exact F1h'.out) D DB.out g2 (by rw [e1]; exact hg2Ah.out)
            rw [e1, List.set_set] at Q2
            have e2 : (ys.set k (setD (setH ys[k] x1) x1 D))[k]'(by rw [List.length_set]; exact hk) = setD (setH ys[k] x1) x1 D := List.getElem_set_self _
            have e3 : xs (ys.set k (setD (setH ys[k] x1) x1 D)) = (xs ys).set k (upd ys[k].x x1 D) := by unfold xs; rw [List.map_set]; rfl
            have hWB := WB.out
            refine ⟨Q2, ((B2h.out.trans (hb.mono B2h.out.size)).setCell (by show w.heap.size ≤ g; omega) _).setCell (by show w.heap.size ≤ g2; omega) _, by rw [List.length_set]; exact L8, by rw [List.length_set]; exact hk, ?_, ?_, ?_⟩
            · rw [e2]
              show 0 < (ys[k].x.d.set x1 D).length ∧ (ys[k].x.h.set x1 true).length ≤ 16 ∧ (ys[k].x.d.set x1 D).length ≤ 16 ∧ ∀ i (hi : i < (ys[k].x.d.set x1 D).length), (ys[k].x.d.set x1 D)[i].size ≤ 64
              refine ⟨by rw [List.length_set]; omega, by rw [List.length_set]; exact F3, by rw [List.length_set]; exact F4, fun i hi => ?_⟩
              rw [List.getElem_set]
              split
              · exact HB.out
              · exact F5h.out i (by simpa using hi)
            · rw [e2, e3]
              intro e
              rw [XPh.out]
              unfold put
              rw [GD.out, if_neg (by rw [HT.out, hz]; simp), if_neg]
              show ¬ (upd ys[k].x x1 D).h.all id = true
              have e' : (upd ys[k].x x1 D).h.contains false = true := e
              rw [full_con] at e'
              simpa using e'
            · rw [e2, e3]
              intro e
              rw [XPh.out, List.eraseIdx_set_eq]
              unfold put
              rw [GD.out, if_neg (by rw [HT.out, hz]; simp), if_pos]
              · rfl
              show (upd ys[k].x x1 D).h.all id = true
              have e' : (upd ys[k].x x1 D).h.contains false = false := e
              rw [full_con] at e'
              simpa using e'))
          have LZ := Lib.hid (show (ys.set k (setD (setH ys[k] x1) x1 D)).length = ys.length from List.length_set)
          generalize ys.set k (setD (setH ys[k] x1) x1 D) = zs at ST LZ
          clear KH KN hv hz GD HT F2h F5h XPh P2h B2h HY F1h F1h' hgAh hg2Ah F1 F1' F3 F4 DB
          go_wp2_with fail
          refine wp_region_held_drew (S := (fun wy : World => (wy.cell? ⟨b, q + k * 6, none⟩ = some (.int .i64 s1) ∧ wy.cell? ⟨b, q + k * 6 + 1, none⟩ = some (.int .i64 i1) ∧ wy.cell? ⟨b, q + k * 6 + 2, none⟩ = some (.int .i64 c2) ∧ wy.cell? ⟨b, q + k * 6 + 3, none⟩ = some (.int .i64 t) ∧ wy.cell? ⟨b, q + k * 6 + 4, none⟩ = some (.slice a1 h.length a2) ∧ wy.cell? ⟨b, q + k * 6 + 5, none⟩ = some (.slice a3 d.length a4)) ∧ wy.cell? ⟨bf, 0, none⟩ = some (.int .i64 (x0 : Int)) ∧ wy.cell? ⟨bf, 1, none⟩ = some (.int .i64 (x1 : Int)) ∧ wy.cell? ⟨bf, 2, none⟩ = some (.int .i64 (x2 : Int)) ∧ wy.cell? ⟨bf, 3, none⟩ = some (.string D))) (by kernel_rfl) (⟨c0, q0, q1, q2, q3⟩) (fun hHeld => ?_)
          refine wpAnyH_take (i := 0) (v := (.slice (some ⟨b, q, none⟩) ys.length c1)) at_zero (by kernel_rfl) (by kernel_rfl) (by kernel_rfl) (fun _ _ _ h => h) (Or.inl ⟨by kernel_rfl, fun wy hSw => ?_⟩) (by assumption) ?_
          · (try dsimp only at hSw); go_simp
          try simp only [Act.put, List.setIfInBounds_toArray, List.set_cons_zero, List.set_cons_succ]
          refine wpAnyH_take (i := 1) (v := (.int .i64 (k : Int))) (at_succ at_zero) (by kernel_rfl) (by kernel_rfl) (by kernel_rfl) (fun _ _ _ h => h) (Or.inl ⟨by kernel_rfl, fun wy hSw => ?_⟩) (by assumption) ?_
          · (try dsimp only at hSw); go_simp
          try simp only [Act.put, List.setIfInBounds_toArray, List.set_cons_zero, List.set_cons_succ]
          refine wpAnyH_take (i := 2) (v := (.pointer (some ⟨b, q + k * 6, none⟩))) (at_succ (at_succ at_zero)) (by kernel_rfl) (by kernel_rfl) (by kernel_rfl) (fun _ _ _ h => h) (Or.inl ⟨by kernel_rfl, fun wy hSw => ?_⟩) (by assumption) ?_
          · (try dsimp only at hSw); go_simp
          try simp only [Act.put, List.setIfInBounds_toArray, List.set_cons_zero, List.set_cons_succ]
          refine wpAnyH_take (i := 3) (v := (.agg #[.int .i64 s1, .int .i64 i1, .int .i64 c2, .int .i64 t, .slice a1 h.length a2, .slice a3 d.length a4])) (at_succ (at_succ (at_succ at_zero))) (by kernel_rfl) (by kernel_rfl) (by kernel_rfl) (fun _ _ _ h => h) (Or.inl ⟨by kernel_rfl, fun wy hSw => ?_⟩) (by assumption) ?_
          · (try dsimp only at hSw); obtain ⟨⟨u0, u1, u2, u3, u4, u5⟩, v0, v1, v2, v3⟩ := hSw; go_simp
          try simp only [Act.put, List.setIfInBounds_toArray, List.set_cons_zero, List.set_cons_succ]
          refine wpAnyH_take (i := 4) (v := (.agg #[.int .i64 (x0 : Int), .int .i64 (x1 : Int), .int .i64 (x2 : Int), .string D])) (at_succ (at_succ (at_succ (at_succ at_zero)))) (by kernel_rfl) (by kernel_rfl) (by kernel_rfl) (fun _ _ _ h => h) (Or.inl ⟨by kernel_rfl, fun wy hSw => ?_⟩) (by assumption) ?_
          · (try dsimp only at hSw); obtain ⟨⟨u0, u1, u2, u3, u4, u5⟩, v0, v1, v2, v3⟩ := hSw; go_simp
          try simp only [Act.put, List.setIfInBounds_toArray, List.set_cons_zero, List.set_cons_succ]
          refine wpAnyH_ready (rs := [5]) (by kernel_rfl) (by simp) ?_
          refine AllReadyH.cons (at_succ (at_succ (at_succ (at_succ (at_succ at_zero))))) (fun K hK => ?_) AllReadyH.nil
          rw [if_pos (by kernel_rfl)]
          go_simp
          refine KS.out.mono ?_
          rintro _ w6 ⟨rfl, V, hb, rfl⟩
          have y6 : ((V.setCell ⟨g, x1, none⟩ (.bool true)).setCell ⟨g2, x1, none⟩ (.string D)).heap[bf]? = some (frB x0 x1 x2 D) := blk_other (blk_other (blk_below (show wc.drew.heap[bf]? = some (frB x0 x1 x2 D) from Y2) hb hbfl) (a := ⟨g, x1, none⟩) (by show bf ≠ g; omega) _) (a := ⟨g2, x1, none⟩) (by show bf ≠ g2; omega) _
          have c6 : HpC ((V.setCell ⟨g, x1, none⟩ (.bool true)).setCell ⟨g2, x1, none⟩ (.string D)) b (q + k * 6) ⟨⟨s1, i1, c2, t, h, d⟩, a1, a2, a3, a4⟩ := (HpC.below (show HpC wc.drew b (q + k * 6) ⟨⟨s1, i1, c2, t, h, d⟩, a1, a2, a3, a4⟩ from c0) hb hbl).block ((Below.heap_setCell _ ⟨g2, x1, none⟩ _ b hbg2).trans (Below.heap_setCell V ⟨g, x1, none⟩ _ b hbg))
          go_wp2_with fail
          refine hK.out _ _ (⟨c6, blk_cell y6 0 rfl, blk_cell y6 1 rfl, blk_cell y6 2 rfl, blk_cell y6 3 rfl⟩) (fun hHeld => ?_)
          clear hK K
          try simp only [Act.put, List.setIfInBounds_toArray, List.set_cons_zero, List.set_cons_succ]
          refine wpAnyH_done (by kernel_rfl) ?_ _
          go_wp2_with fail
          go_meet
          case rel => exact ⟨rfl, zs, LZ.out, ST.out _ hb⟩
      case rest => as_aux_lemma =>
        clear P1 B1 Y1 S1 F F2 XP
        obtain ⟨rfl, zs, hzl, ST⟩ := hcut
        rw [← hzl] at hk ⊢
        clear hzl L8
        obtain ⟨P1, B1, L8, _, ⟨G0, G1, G2, G3⟩, GY, GN⟩ := ST.out
        obtain ⟨b, q, rfl, _, hbl, c0, _⟩ := row_cell P1 k hk
        have N := P1.nest zs[k] (List.getElem_mem hk)
        have KC := Lib.hid (pcon_any zs[k].hA zs[k].hc zs[k].x.h false wc (by omega) (own_sls N.bo))
        have KJ := Lib.hid (pjoin_any zs[k].dA zs[k].dc zs[k].x.d wc (own_sls N.st) ⟨G0, G2⟩ G3)
        have r0 : (k : Int) < (zs.length : Int) := by omega
        have r1 : (0 : Int) ≤ (k : Int) := by omega
        have z1 : IntKind.i64.wrap ((k : Int) + 1) = (k : Int) + 1 := by rw [IntKind.wrap_i64] <;> omega
        have GYh := Lib.hid GY
        have GNh := Lib.hid GN
        have P1h := Lib.hid P1
        have B1h := Lib.hid B1
        obtain ⟨y, hy⟩ : ∃ y, zs[k] = y := ⟨_, rfl⟩
        rw [hy] at c0 KC KJ GYh GNh
        clear hy ST GY GN P1 B1 N G0 G1 G2 G3
        obtain ⟨⟨s1, i1, c2, t, h, d⟩, a1, a2, a3, a4⟩ := y
        unfold HpC at c0
        simp only at c0 KC KJ GYh GNh
        obtain ⟨g0, g1, g2, g3, g4, g5⟩ := c0
        cases hz : h.contains false with
        | true =>
          have R := Lib.hid (GYh.out hz)
          rw [hz] at KC
          clear hz GYh GNh KJ
          go_wp2_with fail
          refine KC.out.mono ?_
          rintro _ _ ⟨rfl, rfl⟩
          clear KC
          go_wp2_with fail
          rw [R.out]
          refine bodyPost_ret (v := .tuple #[.slice (some ⟨b, q, none⟩) zs.length c1, .string eb, .bool false, .int .i64 0]) (by simp [results, Try.results18, go_sem]) rfl ⟨_, _, zs, rfl, P1h.out.q.down WB.out, rfl, B1h.out⟩
        | false =>
          have R := Lib.hid (GNh.out hz)
          rw [hz] at KC
          clear hz GYh GNh
          go_wp2_with fail
          refine KC.out.mono ?_
          rintro _ _ ⟨rfl, rfl⟩
          clear KC
          go_wp2_with fail
          refine KJ.out.mono ?_
          rintro _ w7 ⟨rfl, hb⟩
          have P7 := P1h.out.below hb
          have B7 := Lib.hid (B1h.out.trans (hb.mono B1h.out.size))
          have KD := Lib.hid (pdelete_any (some ⟨b, q, none⟩) c1 zs k BB w7 (by omega) hk P7)
          have RB := Lib.hid (show ∀ g, Value.ownBlock (.slice (some ⟨b, q, none⟩) zs.length c1) = some g → BB ≤ g from fun g hg => by
            rcases P7.row with ⟨e, _, _⟩ | ht
            · cases e
            · exact (ht.lt g hg).1)
          have XE := Lib.hid (xs_erase zs k)
          clear hb P7 KJ P1h B1h g0 g1 g2 g3 g4 g5
          generalize zs.eraseIdx k = E at *
          go_wp2_with fail
          refine KD.out.mono ?_
          rintro _ w8 ⟨rfl, hV, hg⟩
          have V8 := Lib.hid (hV.q.down WB.out)
          have B8 := Lib.hid (B7.out.trans (gr_below hg (B := w.heap.size) (fun g e => Nat.le_trans WB.out (RB.out g e)) B7.out.size))
          clear hV hg KD RB B7
          go_wp2_with fail
          rw [R.out]
          refine bodyPost_ret (v := .tuple #[.slice (some ⟨b, q, none⟩) E.length c1, .string (jn d), .bool true, .int .i64 0]) (by simp [results, Try.results18, go_sem]) rfl ⟨_, _, E, rfl, V8.out, XE.out, B8.out⟩
end Go.Proofs.Ytljcjflbfjleoaa.Frg
