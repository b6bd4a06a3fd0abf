/- Contracts of package route: Bump, Break, Hop, Update. -/
import Derived.Test.YtcfnkfkdhcejeaaRL
set_option linter.unusedVariables false
namespace Go.Proofs.Ytcfnkfkdhcejeaa.Rte
open Go.RowKit

theorem map_one {t : List Rt} (hs : Srt t) {k : Nat} (hk : k < t.length) (f : Rt → Rt) (hf : ∀ x ∈ t, x.1 ≠ t[k].1 → f x = x) : t.map f = t.set k (f t[k]) := by
  refine List.ext_getElem (by simp) fun i h1 h2 => ?_
  have hi : i < t.length := by simpa using h1
  rw [List.getElem_map, List.getElem_set]
  by_cases e : k = i
  · subst e; rw [if_pos rfl]
  · rw [if_neg e]
    refine hf _ (List.getElem_mem hi) fun h => ?_
    rcases Nat.lt_or_gt_of_ne e with c | c
    · have := List.pairwise_iff_getElem.1 hs k i hk hi c; omega
    · have := List.pairwise_iff_getElem.1 hs i k hi hk c; omega
theorem bmp_set {t : List Rt} {s : Int} (hs : Srt t) {k : Nat} (hk : k < t.length) (hd : t[k].1 = s) : t.map (bmpF s) = t.set k (bmpF s t[k]) :=
  map_one hs hk _ fun x _ h => if_neg fun h2 => h (by rw [h2.1, hd])
theorem at_pos {t : List Rt} {s : Int} (h : has s t = true) : ∃ k, ∃ hk : k < t.length, pos s t = k ∧ t[k].1 = s := by
  obtain ⟨h1, h2⟩ := get_yes s t h
  exact ⟨_, h1, rfl, (get_mem h2).2⟩
/-- The first k elements mapped. -/
def mpt (f : Rt → Rt) (t : List Rt) (k : Nat) : List Rt := (t.take k).map f ++ t.drop k
theorem mpt_zero (f : Rt → Rt) (t : List Rt) : mpt f t 0 = t := rfl
theorem mpt_len (f : Rt → Rt) (t : List Rt) (k : Nat) : (mpt f t k).length = t.length := by
  unfold mpt; rw [List.length_append, List.length_map, List.length_take, List.length_drop]; omega
theorem mpt_all (f : Rt → Rt) (t : List Rt) : mpt f t t.length = t.map f := by unfold mpt; simp
theorem mpt_at? (f : Rt → Rt) (t : List Rt) (k : Nat) (hk : k < t.length) : (mpt f t k)[k]? = some t[k] := by
  have hl : ((t.take k).map f).length = k := by simp; omega
  unfold mpt
  rw [List.getElem?_append_right (by omega), hl, Nat.sub_self, List.getElem?_drop, Nat.add_zero, List.getElem?_eq_getElem hk]
theorem mpt_at (f : Rt → Rt) (t : List Rt) (k : Nat) (hk : k < t.length) (h2 : k < (mpt f t k).length) : (mpt f t k)[k] = t[k] := by
  have := mpt_at? f t k hk
  rw [List.getElem?_eq_getElem h2] at this
  exact Option.some.inj this
theorem mpt_succ (f : Rt → Rt) (t : List Rt) (k : Nat) (hk : k < t.length) : mpt f t (k + 1) = (mpt f t k).set k (f t[k]) := by
  unfold mpt
  have hl : ((t.take k).map f).length = k := by simp; omega
  rw [List.take_succ_eq_append_getElem hk, List.map_append, List.drop_eq_getElem_cons hk, List.set_append_right _ _ (by omega), hl, Nat.sub_self, List.set_cons_zero, List.append_assoc]
  rfl
theorem mpt_same (f : Rt → Rt) (t : List Rt) (k : Nat) (hk : k < t.length) (h : f t[k] = t[k]) : mpt f t (k + 1) = mpt f t k := by
  have hl : k < (mpt f t k).length := by rw [mpt_len]; exact hk
  rw [mpt_succ f t k hk, h, ← mpt_at f t k hk hl]
  exact List.set_getElem_self _
theorem own_setN {w : World} {B g n cap : Nat} {l : List Rt} (hn : n = l.length) (h : OwnR w B (.slice (some ⟨g, 0, none⟩) n cap) l) (k : Nat) (hk : k < l.length) (y : Rt) (hy : fR.ok y) :
    OwnR ((((w.setCell ⟨g, k * 4, none⟩ (.int .i64 y.1)).setCell ⟨g, k * 4 + 1, none⟩ (.int .i64 y.2.1)).setCell ⟨g, k * 4 + 2, none⟩ (.int .i64 y.2.2.1)).setCell ⟨g, k * 4 + 3, none⟩ (.int .i64 y.2.2.2)) B (.slice (some ⟨g, 0, none⟩) n cap) (l.set k y) := by
  subst hn; exact own_set h k hk y hy
theorem frN {w : World} {B g n cap : Nat} {l : List Rt} (hn : n = l.length) (h : OwnR w B (.slice (some ⟨g, 0, none⟩) n cap) l) (j : Nat) : w.frozen? ⟨g, j, none⟩ = false := by
  subst hn; exact h.fr j
theorem row4N {w : World} {B g n cap : Nat} {l : List Rt} (hn : n = l.length) (h : OwnR w B (.slice (some ⟨g, 0, none⟩) n cap) l) (k : Nat) (hk : k < l.length) :
    w.cell? ⟨g, k * 4, none⟩ = some (.int .i64 l[k].1) ∧ w.cell? ⟨g, k * 4 + 1, none⟩ = some (.int .i64 l[k].2.1) ∧ w.cell? ⟨g, k * 4 + 2, none⟩ = some (.int .i64 l[k].2.2.1) ∧ w.cell? ⟨g, k * 4 + 3, none⟩ = some (.int .i64 l[k].2.2.2) := by
  subst hn; exact row4 h k hk
theorem tab_ne {t : List Rt} {s : Int} (h : Tab t s) : t ≠ [] := fun e => by
  obtain ⟨x, hx⟩ := h.2.2.1
  rw [e] at hx; cases hx
theorem ok_fR {x : Rt} (h : Ok1 x) : fR.ok x := by
  obtain ⟨⟨⟨h1, h2⟩, h3⟩, h4, h5⟩ := h
  have hc : 0 ≤ x.2.2.1 ∧ x.2.2.1 ≤ 255 := by
    rcases h3 with h3 | h3
    · have := h3.1; unfold Fin1 at this; omega
    · omega
  have hn : 0 ≤ x.2.2.2 ∧ x.2.2.2 ≤ 255 := by
    by_cases hf : Fin1 x
    · have := h4 hf; omega
    · have := h5 hf; omega
  exact ⟨by unfold I64; omega, by unfold I64; omega, by unfold I64; omega, by unfold I64; omega⟩

set_option maxRecDepth 100000 in
set_option maxHeartbeats 4000000 in
theorem pbump_any (A : Option Addr) (c : Nat) (l : List Rt) (n : Int) (w : World) (hl : l.length ≤ 9223372036854775807) (hA : RtAt w w.heap.size A l) :
    Calls Try.prog 16 #[.slice A l.length c, .int .i64 n] w (OutT w (bmp l n)) := by
  have KL := Lib.hid (fun w => limited_any n w)
  have KC := Lib.hid (copied_any A c l n w hl hA)
  have TT := Lib.hid (tb_tab l n)
  have BM := Lib.hid (show bmp l n = (tb l n).map (bmpF (lim n)) from rfl)
  clear hA
  generalize bmp l n = F at *
  generalize tb l n = t at *
  generalize lim n = s at *
  have hlen := TT.out.1.1
  have hh : has s t = true := by
    rw [← get_fnd s t TT.out.2.1.2]
    obtain ⟨x, hx⟩ := TT.out.2.2.1
    rw [hx]; rfl
  obtain ⟨k, hk0, hk, hd0⟩ := at_pos hh
  go_enter Try.func16, Try.ntmps16
  go_wp2_with fail
  refine (KL.out _).mono ?_
  rintro _ w0 ⟨rfl, rfl⟩
  go_wp2_with fail
  refine KC.out.mono ?_
  rintro _ w1 ⟨v, rfl, ho, hb⟩
  have B1 := Lib.hid hb
  have hz1 := hb.size
  obtain ⟨g, cap, rfl, hBg, hgw⟩ := ho.at (tab_ne TT.out)
  obtain ⟨A1, c1, hv, hA1, _, _⟩ := ho.read
  simp only [Value.slice.injEq, true_and] at hv
  obtain ⟨rfl, rfl⟩ := hv
  have KP := Lib.hid (place_any _ cap t s w1 (by omega) TT.out.2.1.2 hA1)
  rw [hh] at KP
  have O1 := Lib.hid ho
  rw [hk] at KP
  have XS := Lib.hid (bmp_set TT.out.2.1.2 hk0 hd0)
  have OK1 := Lib.hid (TT.out.2.1.1 _ (List.getElem_mem hk0))
  have hq : 0 ≤ t[k].2.1 ∧ t[k].2.1 ≤ 65535 := OK1.out.1.1.2
  clear hb ho hA1 KL KC hk hh
  go_wp2_with fail
  refine KP.out.mono ?_
  rintro _ w2 ⟨rfl, hb⟩
  have B2 := Lib.hid (B1.out.trans (hb.mono hz1))
  have O2 := Lib.hid (O1.out.below hb)
  have q1 := O2.out.cell k hk0 1 (by decide)
  have q1 : w2.cell? ⟨g, k * 4 + 1, none⟩ = some (.int .i64 t[k].2.1) := q1
  have f1 := O2.out.fr (k * 4 + 1)
  have PUT := Lib.hid (fun y => O2.out.put k hk0 1 (by decide) (.int .i64 y) (t[k].1, y, t[k].2.2.1, t[k].2.2.2) rfl)
  have z1 : IntKind.i64.wrap (t[k].2.1 + 2) = t[k].2.1 + 2 := by rw [IntKind.wrap_i64]; omega
  clear hb KP
  by_cases h2 : t[k].2.1 + 2 ≤ 65535
  · have R := Lib.hid (show F = t.set k (t[k].1, t[k].2.1 + 2, t[k].2.2.1, t[k].2.2.2) by
      rw [BM.out, XS.out]
      congr 1
      exact if_pos ⟨hd0, by omega⟩)
    have d1 := dt h2
    have FIN := Lib.hid (PUT.out (t[k].2.1 + 2) (by
      have := ok_fR OK1.out
      exact ⟨this.1, by unfold I64; (try dsimp only); omega, this.2.2.1, this.2.2.2⟩))
    have LL : (t.set k (t[k].1, t[k].2.1 + 2, t[k].2.2.1, t[k].2.2.2)).length = t.length := List.length_set
    have LH := Lib.hid LL
    clear PUT XS BM OK1 hq h2 hd0 LL
    generalize t[k].2.1 = y at *
    go_wp2_with fail
    go_ret
    exact ⟨_, rfl, by rw [R.out]; exact FIN.out, B2.out.setCell hBg _⟩
  · have R := Lib.hid (show F = t by
      rw [BM.out, XS.out, show bmpF s t[k] = t[k] from if_neg (fun h => by omega)]
      exact List.set_getElem_self _)
    have d1 := df h2
    clear PUT XS BM OK1 hq h2 hd0
    generalize t[k].2.1 = y at *
    go_wp2_with fail
    go_ret
    exact ⟨_, rfl, by rw [R.out]; exact O2.out, B2.out⟩

set_option maxRecDepth 100000 in
set_option maxHeartbeats 4000000 in
theorem pbreak_any (A : Option Addr) (c : Nat) (l : List Rt) (n next : Int) (w : World) (hl : l.length ≤ 9223372036854775807) (hA : RtAt w w.heap.size A l) :
    Calls Try.prog 22 #[.slice A l.length c, .int .i64 n, .int .i64 next] w (OutT w (brk l n next)) := by
  have KL := Lib.hid (fun w => limited_any n w)
  have KC := Lib.hid (copied_any A c l n w hl hA)
  have KA := Lib.hid (fun w => isAddress_any next w)
  have TT := Lib.hid (tb_tab l n)
  have BM := Lib.hid (show brk l n next = if 0 ≤ next ∧ next ≤ 250 then (tb l n).map (brkF (lim n) next) else tb l n from rfl)
  clear hA
  generalize brk l n next = F at *
  generalize tb l n = t at *
  generalize lim n = s at *
  have hlen := TT.out.1.1
  by_cases hn : 0 ≤ next ∧ next ≤ 250
  rotate_left
  · have R := Lib.hid (show F = t by rw [BM.out, if_neg hn])
    rw [df hn] at KA
    clear BM hn
    go_enter Try.func22, Try.ntmps22
    go_wp2_with fail
    refine (KL.out _).mono ?_
    rintro _ w0 ⟨rfl, rfl⟩
    go_wp2_with fail
    refine KC.out.mono ?_
    rintro _ w1 ⟨v, rfl, ho, hb⟩
    have B1 := Lib.hid hb
    have O1 := Lib.hid ho
    clear hb ho
    go_wp2_with fail
    refine (KA.out _).mono ?_
    rintro _ w2 ⟨rfl, rfl⟩
    go_wp2_with fail
    go_ret
    exact ⟨_, rfl, by rw [R.out]; exact O1.out, B1.out⟩
  rw [dt hn] at KA
  have R := Lib.hid (show F = t.map (brkF s next) by rw [BM.out, if_pos hn])
  clear BM hn
  go_enter Try.func22, Try.ntmps22
  go_wp2_with fail
  refine (KL.out _).mono ?_
  rintro _ w0 ⟨rfl, rfl⟩
  go_wp2_with fail
  refine KC.out.mono ?_
  rintro _ w1 ⟨v, rfl, ho, hb⟩
  have B1 := Lib.hid hb
  have hz1 := hb.size
  obtain ⟨g, cap, rfl, hBg, hgw⟩ := ho.at (tab_ne TT.out)
  have O1 := Lib.hid ho
  clear hb ho
  go_wp2_with fail
  refine (KA.out _).mono ?_
  rintro _ w2 ⟨rfl, rfl⟩
  go_wp2_with fail
  go_loopw [21] (fun i wr => ∃ k : Nat, i = .int .i64 k ∧ k ≤ t.length ∧ Hid (OwnR wr w.heap.size (.slice (some ⟨g, 0, none⟩) t.length cap) (mpt (brkF s next) t k)) ∧ Below w.heap.size w wr) (fun i _ => t.length - (intOf i).toNat)
  case atStart => exact ⟨0, rfl, Nat.zero_le _, O1, B1.out⟩
  case round =>
    obtain ⟨k, rfl, hk, O, hb⟩ := hrel
    have B := Lib.hid hb
    have hz := hb.size
    by_cases hlt : k < t.length
    · have hlm : k < (mpt (brkF s next) t k).length := by rw [mpt_len]; exact hlt
      have em := mpt_at (brkF s next) t k hlt hlm
      have es := mpt_succ (brkF s next) t k hlt
      have r4 := row4N (mpt_len _ _ _).symm O.out k hlm
      rw [em] at r4
      have R4 := Lib.hid (fun w2 (h : OwnR w2 w.heap.size (.slice (some ⟨g, 0, none⟩) t.length cap) (mpt (brkF s next) t k)) => row4N (mpt_len _ _ _).symm h k hlm)
      simp only [em] at R4
      have SE := Lib.hid (fun w2 y (h : OwnR w2 w.heap.size (.slice (some ⟨g, 0, none⟩) t.length cap) (mpt (brkF s next) t k)) (hy : fR.ok y) => own_setN (mpt_len _ _ _).symm h k hlm y hy)
      obtain ⟨g0, g1, g2, g3⟩ := r4
      have okk := TT.out.2.1.1 _ (List.getElem_mem hlt)
      have hd := okk.1.1
      have SM := Lib.hid (mpt_same (brkF s next) t k hlt)
      obtain ⟨⟨x0, x1, x2, x3⟩, hx⟩ : ∃ x, t[k] = x := ⟨_, rfl⟩
      rw [hx] at g0 g1 g2 g3 es hd R4 SM
      simp only at g0 g1 g2 g3 hd R4
      have ES := Lib.hid es
      clear em hx okk hb es
      by_cases h3 : x3 = next
      · have d3 : (x3 == next) = true := by simpa using h3
        by_cases h0 : x0 = s
        · have d0 : (x0 != s) = false := by simpa using h0
          have d9 : (x0 == s) = true := by simpa using h0
          have N := Lib.hid (SM.out (if_neg (fun h => h.2 h0)))
          clear h3 h0 hd R4 SE ES SM
          go_wp2_with fail
          go_roundw
          case rel => exact ⟨k + 1, by go_num, hlt, Lib.hid (by rw [N.out]; exact O.out.alloc _), B.out.alloc hz _⟩
          case measure => simp [intOf]; omega
        · have d0 : (x0 != s) = true := by simpa using h0
          have d9 : (x0 == s) = false := by simpa using h0
          have N := Lib.hid (show mpt (brkF s next) t (k + 1) = (mpt (brkF s next) t k).set k (x0, x1 + 1, 255, 255) by
            rw [ES.out, show brkF s next (x0, x1, x2, x3) = (x0, x1 + 1, 255, 255) from if_pos ⟨h3, h0⟩])
          have KO := Lib.hid (fun w => (show Calls Try.prog 48 #[.int .i64 x0, .int .i64 (x1 + 1)] w (OutV w (.agg #[.int .i64 x0, .int .i64 (x1 + 1), .int .i64 255, .int .i64 255])) from (lost_any x0 (x1 + 1) w).mono fun _ _ h => outG_V h))
          have z1 : IntKind.i64.wrap (x1 + 1) = x1 + 1 := by rw [IntKind.wrap_i64]; omega
          have HY := Lib.hid (show fR.ok (x0, x1 + 1, 255, 255) from ⟨by unfold I64; (try dsimp only); omega, by unfold I64; (try dsimp only); omega, by unfold I64; (try dsimp only); omega, by unfold I64; (try dsimp only); omega⟩)
          clear h3 h0 hd ES SM
          go_wp2_with fail
          refine (KO.out _).mono ?_
          rintro _ w4 ⟨rfl, hb⟩
          have B4 := Lib.hid ((B.out.alloc hz _).trans (hb.mono (Nat.le_trans hz (by simp))))
          have O4 := Lib.hid ((O.out.alloc (bxR x0 x1 x2 x3)).below hb)
          have r4 := R4.out w4 O4.out
          obtain ⟨c0, c1, c2, c3⟩ := r4
          have f0 := frN (mpt_len _ _ _).symm O4.out (k * 4)
          have f1 := frN (mpt_len _ _ _).symm O4.out (k * 4 + 1)
          have f2 := frN (mpt_len _ _ _).symm O4.out (k * 4 + 2)
          have f3 := frN (mpt_len _ _ _).symm O4.out (k * 4 + 3)
          clear hb g0 g1 g2 g3 R4 KO
          go_wp2_with fail
          go_roundw
          case rel => exact ⟨k + 1, by go_num, hlt, Lib.hid (by rw [N.out]; exact SE.out _ (x0, x1 + 1, 255, 255) O4.out HY.out), (((B4.out.setCell hBg _).setCell hBg _).setCell hBg _).setCell hBg _⟩
          case measure => simp [intOf]; omega
      · have d3 : (x3 == next) = false := by simpa using h3
        have N := Lib.hid (SM.out (if_neg (fun h => h3 h.1)))
        clear h3 hd R4 SE ES SM
        go_wp2_with fail
        go_roundw
        case rel => exact ⟨k + 1, by go_num, hlt, Lib.hid (by rw [N.out]; exact O.out.alloc _), B.out.alloc hz _⟩
        case measure => simp [intOf]; omega
    · obtain rfl : k = t.length := by omega
      have FIN := Lib.hid (show OwnR wr w.heap.size (.slice (some ⟨g, 0, none⟩) t.length cap) F by rw [R.out, ← mpt_all]; exact O.out)
      clear hb O R TT O1
      go_wp2_with fail
      go_ret
      exact ⟨_, rfl, FIN.out, B.out⟩

/-! Hop. -/
def OutP (w : World) (p : Int × Bool) (e : Ending) (w' : World) : Prop := e = .returned (.tuple #[.int .i64 p.1, .bool p.2]) ∧ Below w.heap.size w w'
theorem hop_cons (x : Rt) (r : List Rt) (d : Int) : hop (x :: r) d = if x.1 = d then (if Fin1 x then (x.2.2.2, true) else (0, false)) else hop r d := by
  unfold hop
  rw [get_cons]
  by_cases h : x.1 = d
  · rw [if_pos h, if_pos h]
  · rw [if_neg h, if_neg h]
set_option maxHeartbeats 1000000 in
theorem hopOf_any (x : Rt) (w : World) : Calls Try.prog 47 #[rtV x] w (OutP w (if Fin1 x then (x.2.2.2, true) else (0, false))) := by
  obtain ⟨a, s, c, n⟩ := x
  have KF := Lib.hid (fun w => (show Calls Try.prog 49 #[.agg #[.int .i64 a, .int .i64 s, .int .i64 c, .int .i64 n]] w (OutV w (.bool (decide (Fin1 (a, s, c, n))))) from (isFinite_any (a, s, c, n) w).mono fun _ _ h => outG_V h))
  unfold OutV at KF
  by_cases hf : Fin1 (a, s, c, n)
  · rw [dt hf] at KF
    rw [if_pos hf]
    clear hf
    go_enter Try.func47, Try.ntmps47
    go_wp2_with fail
    refine (KF.out _).mono ?_
    rintro _ w1 ⟨rfl, hb⟩
    have B1 := Lib.hid (box_below hb)
    have c3 := box_at hb 3 (v := .int .i64 n) rfl
    clear hb
    go_wp2_with fail
    go_ret2
    exact ⟨rfl, B1.out⟩
  · rw [df hf] at KF
    rw [if_neg hf]
    clear hf
    go_enter Try.func47, Try.ntmps47
    go_wp2_with fail
    refine (KF.out _).mono ?_
    rintro _ w1 ⟨rfl, hb⟩
    have B1 := Lib.hid (box_below hb)
    clear hb
    go_wp2_with fail
    go_ret2
    exact ⟨rfl, B1.out⟩
set_option maxHeartbeats 2000000 in
theorem phop_any (A : Option Addr) (c : Nat) (l : List Rt) (d : Int) (w : World) (hl : l.length ≤ 9223372036854775807) (hA : RtAt w w.heap.size A l) :
    Calls Try.prog 20 #[.slice A l.length c, .int .i64 d] w (OutP w (hop l d)) := by
  have HA := Lib.hid hA
  have H0 := Lib.hid (show hop l d = hop (l.drop 0) d from rfl)
  clear hA
  generalize hop l d = P at *
  obtain ⟨p0, p1⟩ := P
  go_enter Try.func20, Try.ntmps20
  go_wp2_with fail
  go_loopw [10] (fun i wr => ∃ k : Nat, i = .int .i64 k ∧ k ≤ l.length ∧ Hid ((p0, p1) = hop (l.drop k) d) ∧ Below w.heap.size w wr) (fun i _ => l.length - (intOf i).toNat)
  case atStart => exact ⟨0, rfl, Nat.zero_le _, H0, Below.refl _ _⟩
  case round =>
    obtain ⟨k, rfl, hk, HE, hb⟩ := hrel
    have B := Lib.hid hb
    have hz := hb.size
    by_cases hlt : k < l.length
    · obtain ⟨b, p, rfl, hbw, g0, g1, g2, g3, _⟩ := rt_cell (HA.out.below hb) k hlt
      have HE := Lib.hid (HE.out.trans (by rw [drop_one l k hlt, hop_cons]))
      obtain ⟨⟨x0, x1, x2, x3⟩, hx⟩ : ∃ x, l[k] = x := ⟨_, rfl⟩
      rw [hx] at g0 g1 g2 g3 HE
      simp only at g0 g1 g2 g3
      clear hx hb H0
      by_cases hq : x0 = d
      · have R := Lib.hid (HE.out.trans (if_pos hq))
        have d1 : (x0 == d) = true := by simpa using hq
        have KO := Lib.hid (fun w => (show Calls Try.prog 47 #[.agg #[.int .i64 x0, .int .i64 x1, .int .i64 x2, .int .i64 x3]] w (OutP w (p0, p1)) from by have := hopOf_any (x0, x1, x2, x3) w; rw [← R.out] at this; exact this))
        unfold OutP at KO
        clear hq HE R
        go_wp2_with fail
        refine (KO.out _).mono ?_
        rintro _ w2 ⟨rfl, hb⟩
        have B2 := Lib.hid (B.out.trans ((box_below hb).mono hz))
        clear hb
        go_wp2_with fail
        go_ret2
        exact ⟨rfl, B2.out⟩
      · have R := Lib.hid (HE.out.trans (if_neg hq))
        have d1 : (x0 == d) = false := by simpa using hq
        clear hq HE
        go_wp2_with fail
        go_roundw
        case rel => exact ⟨k + 1, by go_num, hlt, R, B.out.alloc hz _⟩
        case measure => simp [intOf]; omega
    · have R := Lib.hid (show (p0, p1) = ((0, false) : Int × Bool) by rw [HE.out, List.drop_eq_nil_of_le (by omega)]; rfl)
      obtain ⟨rfl, rfl⟩ : p0 = 0 ∧ p1 = false := by simpa using R.out
      clear hb H0 HE R
      go_wp2_with fail
      go_ret2
      exact ⟨rfl, B.out⟩
end Go.Proofs.Ytcfnkfkdhcejeaa.Rte
