/- Package mailbox: hasExpired, place, Expire, Count, Take, Put. -/
import Derived.Test.YtlfegjhhkeceiaaMbZ
set_option linter.unusedVariables false
namespace Go.Proofs.Ytlfegjhhkeceiaa.Mbx
open Go.RowKit

set_option maxRecDepth 100000 in
set_option maxHeartbeats 2000000 in
theorem phas_any (x : Ml) (now life : Int) (w : World) : Calls Try.prog 33 #[mlV x, .int .i64 now, .int .i64 life] w (OutB w (!decide (Liv now life x))) := by
  obtain ⟨⟨x0, x1, x2, x3, x4, x5, x6, x7, x8⟩, x9⟩ := x
  have R := Lib.hid (show decide (lim life < lim now - lim x9) = !decide (Liv now life (⟨x0, x1, x2, x3, x4, x5, x6, x7, x8⟩, x9)) by
    unfold Liv
    by_cases h : lim now - lim x9 ≤ lim life
    · rw [show decide (lim life < lim now - lim x9) = false from df (by omega)]; simp [h]
    · rw [show decide (lim life < lim now - lim x9) = true from dt (by omega)]; simp [h])
  have b1 := lim_in now
  have b2 := lim_in x9
  have KL := Lib.hid (fun n w => plimited_any n w)
  generalize lim = f at *
  have z1 : IntKind.i64.wrap (f now - f x9) = f now - f x9 := by rw [IntKind.wrap_i64]; omega
  clear b1 b2
  go_enter Try.func33, Try.ntmps33
  go_wp2_with fail
  go_quiet ((go_at_call 27; exact quiet_same (KL.out _ _)))
  go_wp2_with fail
  go_ret
  exact outB R.out (below_drewN (alloc_below w (bxM (⟨x0, x1, x2, x3, x4, x5, x6, x7, x8⟩, x9))) _)

/-- Where a frame is put. -/
def plU (m : List Ml) (f : Fm) : Nat := if f.u = true then atU m m.length else m.length
theorem plU_le (m : List Ml) (f : Fm) : plU m f ≤ m.length := by
  unfold plU
  split
  · exact (atU_ins (f, 0) m).1
  · exact Nat.le_refl _
theorem plU_ins (m : List Ml) (f : Fm) (n : Int) : ins (f, n) m = m.take (plU m f) ++ [(f, n)] ++ m.drop (plU m f) := by
  unfold plU
  cases h : f.u with
  | true => rw [if_pos rfl]; exact ins_urgent h
  | false => rw [if_neg (by decide)]; exact ins_plain h
theorem atU_ix (m : List Ml) : (ixU (fun x => !x.1.u) m = -1 ∧ atU m m.length = m.length) ∨ ∃ i : Nat, i < m.length ∧ ixU (fun x => !x.1.u) m = i ∧ atU m m.length = i := by
  obtain ⟨h0, h1, h2, h3⟩ := atU_is m m.length (Nat.le_refl _)
  rcases ixU_is (fun x => !x.1.u) m with ⟨e, hn⟩ | ⟨i, hi, e, h4, h5⟩
  · refine Or.inl ⟨e, ?_⟩
    by_cases hlt : atU m m.length < m.length
    · have a := h2 hlt
      have b := hn _ hlt
      simp at b
      rw [b] at a
      cases a
    · omega
  · refine Or.inr ⟨i, hi, e, ?_⟩
    have hu : m[i].1.u = false := by simpa using h4
    rcases Nat.lt_trichotomy (atU m m.length) i with c | c | c
    · have a := h2 (by omega)
      have b := h5 _ (by omega) c
      simp at b
      rw [b] at a
      cases a
    · exact c
    · have a := h3 i hi (by omega) c
      rw [hu] at a
      cases a

set_option maxRecDepth 100000 in
set_option maxHeartbeats 2000000 in
theorem pplace_any (A : Option Addr) (c : Nat) (m : List Ml) (f : Fm) (w : World) (hl : m.length ≤ 1000000) (hA : MlS w A c m) :
    Calls Try.prog 26 #[.slice A m.length c, fmV f] w (OutI w (plU m f)) := by
  have eg : ∀ args w, (callFunc 34 args).run Try.prog w = .ok (.enter 34 args) w := enters_of Try.func34 (by kernel_rfl) rfl
  have K := Lib.hid (pindex_any 34 #[] (fun x => !x.1.u) A c m (w.alloc (bxF f)) hl (hA.next (alloc_below _ _)) eg (fun x wr _ => pord_any x wr))
  have E := atU_ix m
  have PU := Lib.hid (show plU m f = if f.u = true then atU m m.length else m.length from rfl)
  clear hA eg
  generalize plU m f = R at *
  generalize ixU (fun x => !x.1.u) m = j at *
  generalize atU m m.length = a at *
  obtain ⟨x0, x1, x2, x3, x4, x5, x6, x7, x8⟩ := f
  simp only at PU
  unfold OutI at K
  go_enter Try.func26, Try.ntmps26
  go_wp2_with fail
  refine K.out.mono ?_
  rintro _ w1 ⟨rfl, hb⟩
  have B1 := Lib.hid (box_below hb)
  have e7 : w1.cell? ⟨w.heap.size, 7, none⟩ = some (.bool x7) := (fm_block ((hb.block w.heap.size (by simp)).trans (blk_new w (bxF ⟨x0, x1, x2, x3, x4, x5, x6, x7, x8⟩)))).2.2.2.2.2.2.2.1
  clear hb K
  cases x7 with
  | false =>
    have P := Lib.hid (PU.out.trans (by rw [if_neg (by decide)]))
    clear PU E
    go_wp2_with fail
    go_ret
    exact outI (by rw [P.out]) B1.out
  | true =>
    have P := Lib.hid (PU.out.trans (by rw [if_pos rfl]))
    clear PU
    rcases E with ⟨rfl, rfl⟩ | ⟨i, hi, rfl, rfl⟩
    · go_wp2_with fail
      go_ret
      exact outI (by rw [P.out]) B1.out
    · have d1 : ((a : Int) == -1) = false := by simp <;> omega
      go_wp2_with fail
      go_ret
      exact outI (by rw [P.out]) B1.out

set_option maxRecDepth 100000 in
set_option maxHeartbeats 4000000 in
theorem pexpire_own (A : Option Addr) (c : Nat) (l : List Ml) (now life : Int) (w : World) (hl : l.length ≤ 1000) (hA : MlS w A c l) :
    Calls Try.prog 15 #[.slice A l.length c, .int .i64 now, .int .i64 life] w (OutM w (expi l now life)) := by
  have K0 := Lib.hid (pcut_any A c l w (by omega) hA)
  have GE := Lib.hid (exU_end l now life)
  have LM : (l.take 16).length ≤ 16 := by rw [List.length_take]; omega
  clear hA
  generalize expi l now life = F at *
  generalize l.take 16 = m at *
  have KH := Lib.hid (fun x w => phas_any x now life w)
  have GY := Lib.hid (fun (k : Nat) (h : k < m.length) (e : decide (Liv now life m[k]) = true) => exU_yes m now life k h (of_decide_eq_true e))
  have GZ := Lib.hid (fun (k : Nat) (h : k < m.length) (e : decide (Liv now life m[k]) = false) => exU_no m now life k h (of_decide_eq_false e))
  have GL := Lib.hid (fun k => exU_len m now life k)
  have G0 := Lib.hid (exU_zero m now life)
  generalize exU m now life = G at *
  obtain ⟨V, hV⟩ : ∃ V : Ml → Bool, ∀ x, decide (Liv now life x) = V x := ⟨_, fun _ => rfl⟩
  simp only [hV] at KH GY GZ
  clear hV
  unfold OutB at KH
  go_enter Try.func15, Try.ntmps15
  go_wp2_with fail
  refine K0.out.mono ?_
  rintro _ _ ⟨A1, rfl, hs, rfl⟩
  have HM := Lib.hid hs
  clear hs K0
  go_wp2_with fail
  go_loopw [7, 13] (fun vo vk wr => ∃ (k : Nat) (A2 : Option Addr) (c2 : Nat), vk = .int .i64 k ∧ k ≤ m.length ∧ vo = .slice A2 (G k).length c2 ∧ Hid (OwnM wr w.heap.size (.slice A2 (G k).length c2) (G k)) ∧ Below w.heap.size w wr) (fun _ vk _ => m.length - (intOf vk).toNat)
  case atStart => exact ⟨0, none, 0, rfl, by omega, by rw [G0.out]; rfl, Lib.hid (by rw [G0.out]; exact OwnF.nil _ _), Below.refl _ _⟩
  case round =>
    obtain ⟨k, A2, c2, rfl, hk, rfl, O, hb⟩ := hrel
    have B := Lib.hid hb
    by_cases hlt : k < m.length
    · obtain ⟨bb, p, rfl, _, hc, hok⟩ := ms_cell (HM.out.next hb) k hlt
      have Y := Lib.hid (GY.out k hlt)
      have Z := Lib.hid (GZ.out k hlt)
      have LG := GL.out k
      have OK := Lib.hid hok
      clear GY GZ GL hok hb
      obtain ⟨x, hx⟩ : ∃ x, m[k] = x := ⟨_, rfl⟩
      rw [hx] at hc OK Y Z
      clear hx
      have KX := Lib.hid (fun w => KH.out x w)
      obtain ⟨u, hu⟩ : ∃ u, V x = u := ⟨_, rfl⟩
      rw [hu] at Y Z
      simp only [hu] at KX
      clear hu
      obtain ⟨⟨x0, x1, x2, x3, x4, x5, x6, x7, x8⟩, x9⟩ := x
      obtain ⟨g0, g1, g2, g3, g4, g5, g6, g7, g8, g9⟩ := hc
      simp only at g0 g1 g2 g3 g4 g5 g6 g7 g8 g9
      go_wp2_with fail
      refine (KX.out _).mono ?_
      rintro _ w1 ⟨rfl, hb⟩
      have hb1 := (alloc_below wr (bxM (⟨x0, x1, x2, x3, x4, x5, x6, x7, x8⟩, x9))).trans (hb.mono (by simp))
      have X1 : w1.heap[wr.heap.size]? = some (bxM (⟨x0, x1, x2, x3, x4, x5, x6, x7, x8⟩, x9)) := (hb.block wr.heap.size (by simp)).trans (blk_new wr _)
      have O1 := Lib.hid (O.out.below hb1)
      have B1 := Lib.hid (B.out.trans (hb1.mono B.out.size))
      obtain ⟨g0, g1, g2, g3, g4, g5, g6, g7, g8, g9⟩ := ml_block X1
      simp only [Nat.zero_add] at g0 g1 g2 g3 g4 g5 g6 g7 g8 g9
      clear hb hb1 X1 KX O B
      cases u with
      | false =>
        have N := Lib.hid (Z.out rfl)
        clear Y Z
        go_wp2_with fail
        go_roundw
        case rel => exact ⟨k + 1, A2, c2, by go_num, hlt, by rw [N.out], Lib.hid (by rw [N.out]; exact O1.out), B1.out⟩
        case measure => simp [intOf]; omega
      | true =>
        have N := Lib.hid (Y.out rfl)
        clear Y Z
        obtain ⟨v6, w6, hap, ho6, hb6⟩ := app_mail O1.out _ OK.out (by omega) B1.out.size
        obtain ⟨A6, c6, e6, _⟩ := ho6.form
        subst e6
        have L6 := Lib.hid (congrArg List.length N.out.symm)
        have O6 := Lib.hid (show OwnM w6 w.heap.size (.slice A6 (G (k + 1)).length c6) (G (k + 1)) by rw [N.out]; exact ho6)
        have B6 := Lib.hid (B1.out.trans hb6)
        rw [L6.out] at hap
        clear ho6 hb6 LG N OK O1
        go_wp2_with (at_builtin; refine Lib.wpList_append_run _ rfl _ _ _ _ rfl _ _ rfl rfl _ _ hap ?_)
        go_roundw
        case rel => exact ⟨k + 1, A6, c6, by go_num, hlt, rfl, O6, B6.out⟩
        case measure => simp [intOf]; omega
    · obtain rfl : k = m.length := by omega
      have E := Lib.hid GE.out
      clear GY GZ GL GE hb
      go_wp2_with fail
      go_ret
      exact ⟨_, rfl, by rw [← E.out]; exact O.out, B.out⟩

set_option maxRecDepth 100000 in
set_option maxHeartbeats 2000000 in
theorem pcount_any (A : Option Addr) (c : Nat) (l : List Ml) (to : Int) (w : World) (hl : l.length ≤ 1000) (hA : MlS w A c l) :
    Calls Try.prog 17 #[.slice A l.length c, .int .i64 to] w (OutI w (cnt l to)) := by
  have K1 := Lib.hid (pcut_any A c l w (by omega) hA)
  have LM : (l.take 16).length ≤ 16 := by rw [List.length_take]; omega
  have GE := Lib.hid (show cnU (l.take 16) to (l.take 16).length = cnt l to from cnU_end _ _)
  clear hA
  generalize cnt l to = F at *
  generalize l.take 16 = m at *
  have GN := Lib.hid (fun (k : Nat) (h : k < m.length) => cnU_next m to k h)
  have GL := Lib.hid (fun k => cnU_le m to k)
  have G0 := Lib.hid (show cnU m to 0 = 0 from rfl)
  generalize cnU m to = G at *
  go_enter Try.func17, Try.ntmps17
  go_wp2_with fail
  refine K1.out.mono ?_
  rintro _ _ ⟨A1, rfl, hs, rfl⟩
  have HM := Lib.hid hs
  clear hs K1
  go_wp2_with fail
  go_loopw [5, 11] (fun vn vk wr => ∃ k : Nat, vk = .int .i64 k ∧ k ≤ m.length ∧ vn = .int .i64 (G k) ∧ Below w.heap.size w wr) (fun _ vk _ => m.length - (intOf vk).toNat)
  case atStart => exact ⟨0, rfl, Nat.zero_le _, by rw [G0.out]; rfl, Below.refl _ _⟩
  case round =>
    obtain ⟨k, rfl, hk, rfl, hb⟩ := hrel
    have B := Lib.hid hb
    have LG := GL.out k
    by_cases hlt : k < m.length
    · obtain ⟨bb, p, rfl, hbw, hc, _⟩ := ms_cell (HM.out.next hb) k hlt
      have N := Lib.hid (GN.out k hlt)
      clear GN GL GE hb
      obtain ⟨x, hx⟩ : ∃ x, m[k] = x := ⟨_, rfl⟩
      rw [hx] at hc N
      clear hx
      obtain ⟨⟨x0, x1, x2, x3, x4, x5, x6, x7, x8⟩, x9⟩ := x
      obtain ⟨g0, g1, g2, g3, g4, g5, g6, g7, g8, g9⟩ := hc
      simp only at g0 g1 g2 g3 g4 g5 g6 g7 g8 g9 N
      have B1 := Lib.hid (B.out.trans ((alloc_below wr (bxM (⟨x0, x1, x2, x3, x4, x5, x6, x7, x8⟩, x9))).mono B.out.size))
      by_cases e : x2 = to
      · have N := Lib.hid (N.out.trans (by rw [if_pos e]))
        have d1 : (x2 == to) = true := by simpa using e
        clear e
        go_wp2_with fail
        go_roundw
        case rel => exact ⟨k + 1, by go_num, hlt, by rw [N.out]; go_num, B1.out⟩
        case measure => simp [intOf]; omega
      · have N := Lib.hid (N.out.trans (by rw [if_neg e]))
        have d1 : (x2 == to) = false := by simpa using e
        clear e
        go_wp2_with fail
        go_roundw
        case rel => exact ⟨k + 1, by go_num, hlt, by rw [N.out]; rfl, B1.out⟩
        case measure => simp [intOf]; omega
    · obtain rfl : k = m.length := by omega
      clear GN GL hb
      go_wp2_with fail
      go_ret
      exact outI (by rw [GE.out]) B.out

theorem mlAt_put9 {w : World} {B : Nat} {A : Option Addr} {l : List Ml} {k : Nat} {x : Fm} (h : MlAt w B A l) (hk : w.heap[k]? = some (bxF x)) (y : Fm) : MlAt (put9 w k y) B A l := fun i hi => by
  obtain ⟨b, p, h1, h2, h3, h4⟩ := h i hi
  have hne : b ≠ k := by
    rintro rfl
    have e := h3 9 _ rfl
    rw [cell_of_row w b (p + i * fM.sz + 9) _ 24 (0, 0) hk] at e
    have := (Array.getElem?_eq_some_iff.1 e).1
    simp at this
    omega
  exact ⟨b, p, h1, h2, fun j u hu => (World.cell?_of_block (a := ⟨b, p + i * fM.sz + j, none⟩) (put9_other w hne y)).trans (h3 j u hu), h4⟩
set_option maxRecDepth 100000 in
theorem pclo_any (B : Nat) (to : Int) (x : Ml) (w : World) (hB : B < w.heap.size) (hc : w.cell? ⟨B, 0, none⟩ = some (.int .i64 to)) :
    Calls Try.prog 32 #[mlV x, .pointer (some ⟨B, 0, none⟩)] w (OutB w (x.1.t == to)) := by
  obtain ⟨⟨x0, x1, x2, x3, x4, x5, x6, x7, x8⟩, x9⟩ := x
  have e := ((alloc_below w (bxM (⟨x0, x1, x2, x3, x4, x5, x6, x7, x8⟩, x9))).cell (p := ⟨B, 0, none⟩) hB).trans hc
  have hne : B ≠ w.heap.size := by omega
  go_enter Try.func32, Try.ntmps32
  go_wp2_with fail
  go_ret
  exact outB rfl (alloc_below _ _)

set_option maxRecDepth 100000 in
set_option maxHeartbeats 4000000 in
theorem ptake_any (A : Option Addr) (c : Nat) (l : List Ml) (to now life : Int) (w : World) (hl : l.length ≤ 1000) (hA : MlS w A c l) :
    Calls Try.prog 13 #[.slice A l.length c, .int .i64 to, .int .i64 now, .int .i64 life] w (TakeR w (take l to now life)) := by
  have eg : ∀ args w, (callFunc 32 args).run Try.prog w = .ok (.enter 32 args) w := enters_of Try.func32 (by kernel_rfl) rfl
  have b0 := (alloc_below w (.cells #[.int .i64 to] 3)).trans ((alloc_below (w.alloc (.cells #[.int .i64 to] 3)) (bxF zf)).mono (by simp))
  have K0 := Lib.hid (pexpire_own A c l now life ((w.alloc (.cells #[.int .i64 to] 3)).alloc (bxF zf)) hl (hA.next b0))
  have LM := expi_len l now life
  have TH := Lib.hid (fun k hk h hn => take_hit (l := l) (to := to) (now := now) (life := life) (k := k) hk h hn)
  have TM := Lib.hid (fun hn => take_miss (l := l) (to := to) (now := now) (life := life) hn)
  have EG := Lib.hid eg
  clear hA b0 eg
  generalize take l to now life = F at *
  generalize expi l now life = E at *
  unfold OutM at K0
  go_enter Try.func13, Try.ntmps13
  go_wp2_with fail
  refine K0.out.mono ?_
  rintro _ w1 ⟨v, rfl, ho, hb⟩
  have hz1 : w.heap.size + 2 ≤ w1.heap.size := by have := hb.size; simpa using this
  have C1 : w1.heap[w.heap.size]? = some (.cells #[.int .i64 to] 3 (0, 0)) := (hb.block w.heap.size (by simp <;> omega)).trans (blk_alloc (blk_new w _) _)
  have X1 : w1.heap[w.heap.size + 1]? = some (bxF zf) := (hb.block (w.heap.size + 1) (by simp)).trans (by have := blk_new (w.alloc (.cells #[.int .i64 to] 3)) (bxF zf); simpa using this)
  have B1 : Below w.heap.size w w1 := (alloc_below w (.cells #[.int .i64 to] 3)).trans (((alloc_below (w.alloc (.cells #[.int .i64 to] 3)) (bxF zf)).mono (by simp)).trans (hb.mono (by simp; omega)))
  obtain ⟨A1, c1, rfl, hs⟩ := ho.slS
  have hci : w1.cell? ⟨w.heap.size, 0, none⟩ = some (.int .i64 to) := blk_cell C1 0 rfl
  have K1 := Lib.hid (pindex_any 32 #[.pointer (some ⟨w.heap.size, 0, none⟩)] (fun x => x.1.t == to) A1 c1 E w1 (by omega) hs EG.out (fun x wr hbr => pclo_any w.heap.size to x wr (by have := hbr.size; omega) ((hbr.cell (p := ⟨w.heap.size, 0, none⟩) (show w.heap.size < w1.heap.size by omega)).trans hci)))
  have IX := ixU_is (fun x => x.1.t == to) E
  generalize ixU (fun x => x.1.t == to) E = j at *
  have HM := Lib.hid hs
  have X1 := Lib.hid X1
  have B1 := Lib.hid B1
  unfold OutI at K1
  clear hb hs ho K0 EG hci C1
  go_wp2_with fail
  refine K1.out.mono ?_
  rintro _ w2 ⟨rfl, hb⟩
  have X2 := Lib.hid (blk_below X1.out hb (show w.heap.size + 1 < w1.heap.size by omega))
  have hz2 : w.heap.size + 2 ≤ w2.heap.size := Nat.le_trans hz1 hb.size
  have B2 := Lib.hid (B1.out.trans (hb.mono B1.out.size))
  have H2 := Lib.hid (HM.out.next hb)
  clear hb K1 HM X1 B1 hz1
  rcases IX with ⟨rfl, hn⟩ | ⟨i, hi, rfl, hp, hn⟩
  · have R := Lib.hid (TM.out fun j hj => by have := hn j hj; simpa using this)
    have Z := Lib.hid (fm_block (put9_blk X2.out zq))
    have BZ := Lib.hid (put9_below B2.out (Nat.le_succ _) zq)
    have MZ := Lib.hid (show MlS (put9 w2 (w.heap.size + 1) zq) A1 c1 E from ⟨by have := mlAt_put9 H2.out.1 X2.out zq; rw [put9_size]; exact this, H2.out.2⟩)
    have f9 := fun j => blk_fr X2.out j
    obtain ⟨z0, z1, z2, z3, z4, z5, z6, z7, z8⟩ := fm_block X2.out
    clear hn TH TM
    go_wp2_with fail
    rw [R.out]
    clear z0 z1 z2 z3 z4 z5 z6 z7 z8 f9
    obtain ⟨V, hV⟩ : ∃ V, V = put9 w2 (w.heap.size + 1) zq := ⟨_, rfl⟩
    rw [← hV] at Z BZ MZ
    obtain ⟨r0, r1, r2, r3, r4, r5, r6, r7, r8⟩ := Z.out
    unfold put9 at hV
    dsimp only [zq] at hV r0 r1 r2 r3 r4 r5 r6 r7 r8
    rw [← hV]
    clear hV
    refine bodyPost_ret (v := .tuple #[fmV zq, .slice A1 E.length c1, .bool false]) (by simp [results, Try.results13, go_sem, r0, r1, r2, r3, r4, r5, r6, r7, r8]) rfl ⟨A1, c1, rfl, MZ.out, BZ.out, zf_ok⟩
  · obtain ⟨bb, p, rfl, hbl, hc, hok⟩ := ms_cell H2.out i hi
    have R := Lib.hid (TH.out i hi (by simpa using hp) (fun j hj hji => by have := hn j hj hji; simpa using this))
    have OK := Lib.hid hok.1
    have hc9 := hc.2.2.2.2.2.2.2.2.2
    have S0 := hc.fm.below (below_drewN (Below.refl w2.heap.size w2) 1) hbl
    have KW := Lib.hid (pwithout_any (some ⟨bb, p, none⟩) c1 E i w2.drew (by omega) hi (H2.out.next (below_drewN (Below.refl w2.heap.size w2) 1)))
    unfold ListR at KW
    have BD := Lib.hid (show Below w.heap.size w w2.drew from below_drewN B2.out 1)
    have XD := Lib.hid (show w2.drew.heap[w.heap.size + 1]? = some (bxF zf) from X2.out)
    obtain ⟨x, hx⟩ : ∃ x, E[i] = x := ⟨_, rfl⟩
    rw [hx] at S0 OK R
    clear hx hp hn TH TM hc hok H2 B2
    have q0 : (i : Int) < (E.length : Int) := by omega
    have q1 : (0 : Int) ≤ (i : Int) := by omega
    have d1 : ((i : Int) == -1) = false := by simp <;> omega
    obtain ⟨⟨x0, x1, x2, x3, x4, x5, x6, x7, x8⟩, x9⟩ := x
    have hbne : bb ≠ w.heap.size + 1 := by
      rintro rfl
      have e := hc9
      rw [cell_of_row w2 (w.heap.size + 1) (p + i * 10 + 9) _ 24 (0, 0) X2.out] at e
      have := (Array.getElem?_eq_some_iff.1 e).1
      simp at this
      omega
    clear hc9
    go_wp2_with fail
    refine wp_region_held_drew (S := (fun wy : World => wy.cell? ⟨bb, p + i * 10, none⟩ = some (.int .i64 x0) ∧ wy.cell? ⟨bb, p + i * 10 + 1, none⟩ = some (.int .i64 x1) ∧ wy.cell? ⟨bb, p + i * 10 + 2, none⟩ = some (.int .i64 x2) ∧ wy.cell? ⟨bb, p + i * 10 + 3, none⟩ = some (.int .i64 x3) ∧ wy.cell? ⟨bb, p + i * 10 + 4, none⟩ = some (.int .i64 x4) ∧ wy.cell? ⟨bb, p + i * 10 + 5, none⟩ = some (.int .i64 x5) ∧ wy.cell? ⟨bb, p + i * 10 + 6, none⟩ = some (.int .i64 x6) ∧ wy.cell? ⟨bb, p + i * 10 + 7, none⟩ = some (.bool x7) ∧ wy.cell? ⟨bb, p + i * 10 + 8, none⟩ = some (.string x8))) (by kernel_rfl) (S0) (fun hHeld => ?_)
    refine wpAnyH_take (i := 0) (v := (.slice (some ⟨bb, p, none⟩) E.length c1)) at_zero (by kernel_rfl) (by kernel_rfl) (by kernel_rfl) (fun _ _ _ h => h) (Or.inl ⟨by kernel_rfl, fun wy hSw => ?_⟩) (by assumption) ?_
    · (try dsimp only at hSw); go_simp
    try simp only [Act.put, List.setIfInBounds_toArray, List.set_cons_zero, List.set_cons_succ]
    refine wpAnyH_take (i := 1) (v := (.int .i64 (i : Int))) (at_succ at_zero) (by kernel_rfl) (by kernel_rfl) (by kernel_rfl) (fun _ _ _ h => h) (Or.inl ⟨by kernel_rfl, fun wy hSw => ?_⟩) (by assumption) ?_
    · (try dsimp only at hSw); go_simp
    try simp only [Act.put, List.setIfInBounds_toArray, List.set_cons_zero, List.set_cons_succ]
    refine wpAnyH_take (i := 2) (v := (.pointer (some ⟨bb, p + i * 10, none⟩))) (at_succ (at_succ at_zero)) (by kernel_rfl) (by kernel_rfl) (by kernel_rfl) (fun _ _ _ h => h) (Or.inl ⟨by kernel_rfl, fun wy hSw => ?_⟩) (by assumption) ?_
    · (try dsimp only at hSw); go_simp
    try simp only [Act.put, List.setIfInBounds_toArray, List.set_cons_zero, List.set_cons_succ]
    refine wpAnyH_take (i := 3) (v := (.pointer (some ⟨bb, p + i * 10, none⟩))) (at_succ (at_succ (at_succ at_zero))) (by kernel_rfl) (by kernel_rfl) (by kernel_rfl) (fun _ _ _ h => h) (Or.inl ⟨by kernel_rfl, fun wy hSw => ?_⟩) (by assumption) ?_
    · (try dsimp only at hSw); go_simp
    try simp only [Act.put, List.setIfInBounds_toArray, List.set_cons_zero, List.set_cons_succ]
    refine wpAnyH_take (i := 4) (v := (.agg #[.int .i64 x0, .int .i64 x1, .int .i64 x2, .int .i64 x3, .int .i64 x4, .int .i64 x5, .int .i64 x6, .bool x7, .string x8])) (at_succ (at_succ (at_succ (at_succ at_zero)))) (by kernel_rfl) (by kernel_rfl) (by kernel_rfl) (fun _ _ _ h => h) (Or.inl ⟨by kernel_rfl, fun wy hSw => ?_⟩) (by assumption) ?_
    · (try dsimp only at hSw); go_simp
    try simp only [Act.put, List.setIfInBounds_toArray, List.set_cons_zero, List.set_cons_succ]
    refine wpAnyH_take (i := 5) (v := (.slice (some ⟨bb, p, none⟩) E.length c1)) (at_succ (at_succ (at_succ (at_succ (at_succ at_zero))))) (by kernel_rfl) (by kernel_rfl) (by kernel_rfl) (fun _ _ _ h => h) (Or.inl ⟨by kernel_rfl, fun wy hSw => ?_⟩) (by assumption) ?_
    · (try dsimp only at hSw); go_simp
    try simp only [Act.put, List.setIfInBounds_toArray, List.set_cons_zero, List.set_cons_succ]
    refine wpAnyH_take (i := 6) (v := (.int .i64 (i : Int))) (at_succ (at_succ (at_succ (at_succ (at_succ (at_succ at_zero)))))) (by kernel_rfl) (by kernel_rfl) (by kernel_rfl) (fun _ _ _ h => h) (Or.inl ⟨by kernel_rfl, fun wy hSw => ?_⟩) (by assumption) ?_
    · (try dsimp only at hSw); go_simp
    try simp only [Act.put, List.setIfInBounds_toArray, List.set_cons_zero, List.set_cons_succ]
    refine wpAnyH_ready (rs := [7]) (by kernel_rfl) (by simp) ?_
    refine AllReadyH.cons (at_succ (at_succ (at_succ (at_succ (at_succ (at_succ (at_succ at_zero))))))) (fun K hK => ?_) AllReadyH.nil
    rw [if_pos (by kernel_rfl)]
    go_simp
    refine KW.out.mono ?_
    rintro _ w5 ⟨A5, c5, rfl, h5, hb5⟩
    have S5 : FmC w5 bb (p + i * 10) ⟨x0, x1, x2, x3, x4, x5, x6, x7, x8⟩ := S0.below hb5 hbl
    have M5 := Lib.hid h5
    have B5 := Lib.hid (BD.out.trans (hb5.mono BD.out.size))
    have X5 := Lib.hid (show w5.heap[w.heap.size + 1]? = some (bxF zf) from (hb5.block (w.heap.size + 1) (show w.heap.size + 1 < w2.heap.size by omega)).trans XD.out)
    clear h5 hb5 hHeld
    go_wp2_with fail
    refine hK.out _ _ (S5) (fun hHeld => ?_)
    clear hK K
    try simp only [Act.put, List.setIfInBounds_toArray, List.set_cons_zero, List.set_cons_succ]
    have f9 := fun j => blk_fr X5.out j
    obtain ⟨z0, z1, z2, z3, z4, z5, z6, z7, z8⟩ := fm_block X5.out
    refine wpAnyH_ready (rs := [8]) (by kernel_rfl) (by simp) ?_
    refine AllReadyH.cons (at_succ (at_succ (at_succ (at_succ (at_succ (at_succ (at_succ (at_succ at_zero)))))))) (fun K hK => ?_) AllReadyH.nil
    rw [if_pos (by kernel_rfl)]
    go_simp
    refine hK.out _ _ (show FmC (put9 w5 (w.heap.size + 1) ⟨x0, x1, x2, x3, x4, x5, x6, x7, x8⟩) bb (p + i * 10) ⟨x0, x1, x2, x3, x4, x5, x6, x7, x8⟩ from FmC.block hHeld (put9_other _ hbne _)) (fun hHeld => ?_)
    clear hK K
    try simp only [Act.put, List.setIfInBounds_toArray, List.set_cons_zero, List.set_cons_succ]
    refine wpAnyH_take (i := 9) (v := (.slice A5 (E.eraseIdx i).length c5)) (at_succ (at_succ (at_succ (at_succ (at_succ (at_succ (at_succ (at_succ (at_succ at_zero))))))))) (by kernel_rfl) (by kernel_rfl) (by kernel_rfl) (fun _ _ _ h => h) (Or.inl ⟨by kernel_rfl, fun wy hSw => ?_⟩) (by assumption) ?_
    · (try dsimp only at hSw); go_simp
    try simp only [Act.put, List.setIfInBounds_toArray, List.set_cons_zero, List.set_cons_succ]
    refine wpAnyH_take (i := 10) (v := (.bool true)) (at_succ (at_succ (at_succ (at_succ (at_succ (at_succ (at_succ (at_succ (at_succ (at_succ at_zero)))))))))) (by kernel_rfl) (by kernel_rfl) (by kernel_rfl) (fun _ _ _ h => h) (Or.inl ⟨by kernel_rfl, fun wy hSw => ?_⟩) (by assumption) ?_
    · (try dsimp only at hSw); go_simp
    try simp only [Act.put, List.setIfInBounds_toArray, List.set_cons_zero, List.set_cons_succ]
    refine wpAnyH_done (by kernel_rfl) ?_ _
    have MZ := Lib.hid (show MlS (put9 w5 (w.heap.size + 1) ⟨x0, x1, x2, x3, x4, x5, x6, x7, x8⟩) A5 c5 (E.eraseIdx i) from ⟨by have := mlAt_put9 M5.out.1 X5.out ⟨x0, x1, x2, x3, x4, x5, x6, x7, x8⟩; rw [put9_size]; exact this, M5.out.2⟩)
    have BZ := Lib.hid (put9_below B5.out (Nat.le_succ _) ⟨x0, x1, x2, x3, x4, x5, x6, x7, x8⟩)
    have Z := Lib.hid (fm_block (put9_blk X5.out ⟨x0, x1, x2, x3, x4, x5, x6, x7, x8⟩))
    obtain ⟨V, hV⟩ : ∃ V, V = put9 w5 (w.heap.size + 1) ⟨x0, x1, x2, x3, x4, x5, x6, x7, x8⟩ := ⟨_, rfl⟩
    rw [← hV] at Z BZ MZ
    obtain ⟨r0, r1, r2, r3, r4, r5, r6, r7, r8⟩ := Z.out
    unfold put9 at hV
    dsimp only at hV r0 r1 r2 r3 r4 r5 r6 r7 r8
    clear z0 z1 z2 z3 z4 z5 z6 z7 z8 f9
    go_wp2_with fail
    rw [R.out, ← hV]
    clear hV
    refine bodyPost_ret (v := .tuple #[fmV ⟨x0, x1, x2, x3, x4, x5, x6, x7, x8⟩, .slice A5 (E.eraseIdx i).length c5, .bool true]) (by simp [results, Try.results13, go_sem, r0, r1, r2, r3, r4, r5, r6, r7, r8]) rfl ⟨A5, c5, rfl, MZ.out, BZ.out, OK.out⟩
end Go.Proofs.Ytlfegjhhkeceiaa.Mbx
