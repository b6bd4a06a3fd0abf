/- Contracts of package route: through, replaces, applied. -/
import Derived.Test.YtcfnkfkdhcejeaaRJ
set_option linter.unusedVariables false
namespace Go.Proofs.Ytcfnkfkdhcejeaa.Rte
open Go.RowKit

/-- The route that an advertised one becomes. -/
def thr (x : Rt) (frm cost : Int) : Rt := if 200 < x.2.2.1 + cost then (x.1, x.2.1, 255, 255) else (x.1, x.2.1, x.2.2.1 + cost, frm)
theorem thr_dest (x : Rt) (frm cost : Int) : (thr x frm cost).1 = x.1 := by unfold thr; split <;> rfl
/-- Whether it takes the place of the old one. -/
def Rpl (frm : Int) (e y : Rt) : Prop := (Fin1 e ∧ Btr e y) ∨ (¬ Fin1 e ∧ y.2.2.2 = frm ∧ y.2.1 < e.2.1)
instance (frm : Int) (e y : Rt) : Decidable (Rpl frm e y) := by unfold Rpl; infer_instance
/-- The table after one route through a neighbor. -/
def app (frm : Int) (t : List Rt) (e : Rt) : List Rt :=
  match get t e.1 with
  | some y => if Rpl frm e y then ins e t else t
  | none => if Fin1 e ∧ t.length < 24 then ins e t else t
theorem apl_app (frm cost : Int) (t : List Rt) (x : Rt) (hx : Us1 x) (hc : 1 ≤ cost ∧ cost ≤ 200) : apl frm cost t x = app frm t (thr x frm cost) := by
  have hr : (0 ≤ x.2.2.1 ∧ x.2.2.1 ≤ 200) ∨ x.2.2.1 = 255 := by
    rcases hx.2 with h | h
    · exact Or.inl h.1
    · exact Or.inr h
  unfold apl app
  rw [thr_dest]
  by_cases h : 200 < x.2.2.1 + cost
  · have e : thr x frm cost = (x.1, x.2.1, 255, 255) := if_pos h
    have nf : ¬ Fin1 ((x.1, x.2.1, 255, 255) : Rt) := fun h => by have := h.2; dsimp only at this; omega
    rw [e, if_neg (show ¬ (Fin1 x ∧ cost + x.2.2.1 ≤ 200) from fun h2 => by omega)]
    cases get t x.1 with
    | none => dsimp only; rw [if_neg (fun h => nf h.1)]
    | some y =>
      dsimp only
      by_cases h3 : y.2.2.2 = frm ∧ y.2.1 < x.2.1
      · rw [if_pos h3, if_pos (show Rpl frm (x.1, x.2.1, 255, 255) y from Or.inr ⟨nf, h3⟩)]
      · rw [if_neg h3, if_neg]
        rintro (h4 | h4)
        · exact nf h4.1
        · exact h3 h4.2
  · have e : thr x frm cost = (x.1, x.2.1, cost + x.2.2.1, frm) := by unfold thr; rw [if_neg h, Int.add_comm]
    have hf : Fin1 ((x.1, x.2.1, cost + x.2.2.1, frm) : Rt) := ⟨by dsimp only; omega, by dsimp only; omega⟩
    rw [e, if_pos (show Fin1 x ∧ cost + x.2.2.1 ≤ 200 from ⟨by unfold Fin1; omega, by omega⟩)]
    cases get t x.1 with
    | none =>
      dsimp only
      by_cases h3 : t.length < 24
      · rw [if_pos h3, if_pos ⟨hf, h3⟩]
      · rw [if_neg h3, if_neg (fun h => h3 h.2)]
    | some y =>
      dsimp only
      by_cases h3 : Btr (x.1, x.2.1, cost + x.2.2.1, frm) y
      · rw [if_pos h3, if_pos (show Rpl frm (x.1, x.2.1, cost + x.2.2.1, frm) y from Or.inl ⟨hf, h3⟩)]
      · rw [if_neg h3, if_neg]
        rintro (h4 | h4)
        · exact h3 h4.2
        · exact h4.1 hf
theorem ins_set {t : List Rt} {e : Rt} (h : has e.1 t = true) (hp : pos e.1 t < t.length) : ins e t = t.set (pos e.1 t) e := by
  rw [ins_pos, List.set_eq_take_append_cons_drop, if_pos hp]
  unfold pe
  rw [h]
  simp
theorem ins_at {t : List Rt} {e : Rt} (h : has e.1 t = false) : ins e t = t.take (pos e.1 t) ++ [e] ++ t.drop (pos e.1 t) := by
  rw [ins_pos]
  unfold pe
  rw [h]
  simp

set_option maxRecDepth 100000 in
set_option maxHeartbeats 2000000 in
theorem through_any (x : Rt) (frm cost : Int) (hx : 0 ≤ x.2.2.1 ∧ x.2.2.1 ≤ 255) (hc : 1 ≤ cost ∧ cost ≤ 200) (w : World) : Calls Try.prog 45 #[rtV x, .int .i64 frm, .int .i64 cost] w (OutV w (rtV (thr x frm cost))) := by
  obtain ⟨a, s, c, n⟩ := x
  dsimp only at hx
  have z1 : IntKind.i64.wrap (c + cost) = c + cost := by rw [IntKind.wrap_i64]; omega
  by_cases h : 200 < c + cost
  · have R := Lib.hid (show thr (a, s, c, n) frm cost = (a, s, 255, 255) from if_pos h)
    have d1 := dt h
    rw [R.out]
    clear R h hx hc
    have KL := Lib.hid (fun w => (show Calls Try.prog 48 #[.int .i64 a, .int .i64 s] w (OutV w (.agg #[.int .i64 a, .int .i64 s, .int .i64 255, .int .i64 255])) from (lost_any a s w).mono fun _ _ h => outG_V h))
    go_enter Try.func45, Try.ntmps45
    go_wp2_with fail
    refine (KL.out _).mono ?_
    rintro _ w1 ⟨rfl, hb⟩
    have B1 := Lib.hid (show Below w.heap.size w w1 from ((alloc_below w _).trans (alloc_below (w.alloc (bxR a s c n)) _ |>.mono (by simp))).trans (hb.mono (by simp; omega)))
    have Z := blk_below (blk_new (w.alloc (bxR a s c n)) (.cells #[.int .i64 0, .int .i64 0, .int .i64 0, .int .i64 0] 43)) hb (by simp)
    have es : (w.alloc (bxR a s c n)).heap.size = w.heap.size + 1 := by simp
    rw [es] at Z
    have c0 := blk_cell Z 0 (v := .int .i64 0) rfl
    have c1 := blk_cell Z 1 (v := .int .i64 0) rfl
    have c2 := blk_cell Z 2 (v := .int .i64 0) rfl
    have c3 := blk_cell Z 3 (v := .int .i64 0) rfl
    have f0 := blk_fr Z 0
    have f1 := blk_fr Z 1
    have f2 := blk_fr Z 2
    have f3 := blk_fr Z 3
    clear hb es Z KL d1
    go_wp2_with fail
    refine bodyPost_ret (v := rtV (a, s, 255, 255)) (by simp [results, Try.results45, go_sem, c0, c1, c2, c3]) rfl ⟨rfl, (((B1.out.setCell (by simp) _).setCell (by simp) _).setCell (by simp) _).setCell (by simp) _⟩
  · have R := Lib.hid (show thr (a, s, c, n) frm cost = (a, s, c + cost, frm) from if_neg h)
    have d1 := df h
    rw [R.out]
    clear R h hx hc
    go_enter Try.func45, Try.ntmps45
    go_wp2_with fail
    refine bodyPost_ret (v := rtV (a, s, c + cost, frm)) (by simp [results, Try.results45, go_sem]) rfl ⟨rfl, (alloc_below _ _).trans ((alloc_below _ _).mono (by simp))⟩

set_option maxRecDepth 100000 in
set_option maxHeartbeats 2000000 in
theorem replaces_any (x y : Rt) (frm : Int) (w : World) : Calls Try.prog 54 #[rtV x, rtV y, .int .i64 frm] w (OutG w (.bool (decide (Rpl frm x y)))) := by
  obtain ⟨a, s, c, n⟩ := x
  obtain ⟨a', s', c', n'⟩ := y
  have KF := Lib.hid (fun w => (show Calls Try.prog 49 #[.agg #[.int .i64 a, .int .i64 s, .int .i64 c, .int .i64 n]] w (OutG w (.bool (decide (Fin1 (a, s, c, n))))) from isFinite_any (a, s, c, n) w))
  have KB := Lib.hid (fun w => (show Calls Try.prog 59 #[.agg #[.int .i64 a, .int .i64 s, .int .i64 c, .int .i64 n], .agg #[.int .i64 a', .int .i64 s', .int .i64 c', .int .i64 n']] w (OutG w (.bool (decide (Btr (a, s, c, n) (a', s', c', n'))))) from isBetter_any (a, s, c, n) (a', s', c', n') w))
  have hW : (w.alloc (bxR a s c n)).alloc (bxR a' s' c' n') = Go.Sort.grow (w.drewN 0) #[bxR a s c n, bxR a' s' c' n'] := by rw [Go.Sort.alloc_eq_grow, Go.Sort.alloc_eq_grow, Go.Sort.grow_grow]; rfl
  have GW := Lib.hid hW
  clear hW
  by_cases hf : Fin1 (a, s, c, n)
  · have R := Lib.hid (show decide (Rpl frm (a, s, c, n) (a', s', c', n')) = decide (Btr (a, s, c, n) (a', s', c', n')) from decide_eq_decide.2 ⟨fun h => h.elim (fun h => h.2) (fun h => absurd hf h.1), fun h => Or.inl ⟨hf, h⟩⟩)
    rw [dt hf] at KF
    clear hf
    generalize decide (Btr (a, s, c, n) (a', s', c', n')) = q at *
    go_enter Try.func54, Try.ntmps54
    go_wp2_with fail
    refine (KF.out _).mono ?_
    rintro _ w1 ⟨rfl, q1, os1, hW⟩
    have hb : Below ((w.alloc (bxR a s c n)).alloc (bxR a' s' c' n')).heap.size ((w.alloc (bxR a s c n)).alloc (bxR a' s' c' n')) w1 := by rw [hW]; exact grown_below _ _ _
    have HW := Lib.hid hW
    have b1 := blk_below (blk_alloc (blk_new w (bxR a s c n)) (bxR a' s' c' n')) hb (by simp; omega)
    have b2 := blk_below (blk_new (w.alloc (bxR a s c n)) (bxR a' s' c' n')) hb (by simp)
    have es : (w.alloc (bxR a s c n)).heap.size = w.heap.size + 1 := by simp
    rw [es] at b2
    have c0 := blk_cell b1 0 (v := .int .i64 a) rfl
    have c1 := blk_cell b1 1 (v := .int .i64 s) rfl
    have c2 := blk_cell b1 2 (v := .int .i64 c) rfl
    have c3 := blk_cell b1 3 (v := .int .i64 n) rfl
    have e0 := blk_cell b2 0 (v := .int .i64 a') rfl
    have e1 := blk_cell b2 1 (v := .int .i64 s') rfl
    have e2 := blk_cell b2 2 (v := .int .i64 c') rfl
    have e3 := blk_cell b2 3 (v := .int .i64 n') rfl
    clear hb es b1 b2 KF hW
    go_wp2_with fail
    refine (KB.out _).mono ?_
    rintro _ w2 ⟨rfl, q2, os2, hW2⟩
    have HW2 := Lib.hid hW2
    clear hW2
    go_wp2_with fail
    go_ret
    exact outG_on GW.out (outG_on HW.out (outG_same HW2.out (congrArg Value.bool R.out.symm)))
  · rw [df hf] at KF
    by_cases h1 : n' = frm
    · have R := Lib.hid (show decide (Rpl frm (a, s, c, n) (a', s', c', n')) = decide (s' < s) from decide_eq_decide.2 ⟨fun h => h.elim (fun h => absurd h.1 hf) (fun h => h.2.2), fun h => Or.inr ⟨hf, h1, h⟩⟩)
      have d1 : (n' == frm) = true := by simpa using h1
      clear hf h1 KB
      go_enter Try.func54, Try.ntmps54
      go_wp2_with fail
      refine (KF.out _).mono ?_
      rintro _ w1 ⟨rfl, q1, os1, hW⟩
      have hb : Below ((w.alloc (bxR a s c n)).alloc (bxR a' s' c' n')).heap.size ((w.alloc (bxR a s c n)).alloc (bxR a' s' c' n')) w1 := by rw [hW]; exact grown_below _ _ _
      have HW := Lib.hid hW
      have b1 := blk_below (blk_alloc (blk_new w (bxR a s c n)) (bxR a' s' c' n')) hb (by simp; omega)
      have b2 := blk_below (blk_new (w.alloc (bxR a s c n)) (bxR a' s' c' n')) hb (by simp)
      have es : (w.alloc (bxR a s c n)).heap.size = w.heap.size + 1 := by simp
      rw [es] at b2
      have c1 := blk_cell b1 1 (v := .int .i64 s) rfl
      have e1 := blk_cell b2 1 (v := .int .i64 s') rfl
      have e3 := blk_cell b2 3 (v := .int .i64 n') rfl
      clear hb es b1 b2 KF hW
      go_wp2_with fail
      go_ret
      exact outG_on GW.out (outG_same HW.out (congrArg Value.bool R.out.symm))
    · have R := Lib.hid (show decide (Rpl frm (a, s, c, n) (a', s', c', n')) = false from df fun h => h.elim (fun h => hf h.1) (fun h => h1 h.2.1))
      have d1 : (n' == frm) = false := by simpa using h1
      clear hf h1 KB
      go_enter Try.func54, Try.ntmps54
      go_wp2_with fail
      refine (KF.out _).mono ?_
      rintro _ w1 ⟨rfl, q1, os1, hW⟩
      have hb : Below ((w.alloc (bxR a s c n)).alloc (bxR a' s' c' n')).heap.size ((w.alloc (bxR a s c n)).alloc (bxR a' s' c' n')) w1 := by rw [hW]; exact grown_below _ _ _
      have HW := Lib.hid hW
      have b1 := blk_below (blk_alloc (blk_new w (bxR a s c n)) (bxR a' s' c' n')) hb (by simp; omega)
      have b2 := blk_below (blk_new (w.alloc (bxR a s c n)) (bxR a' s' c' n')) hb (by simp)
      have es : (w.alloc (bxR a s c n)).heap.size = w.heap.size + 1 := by simp
      rw [es] at b2
      have c1 := blk_cell b1 1 (v := .int .i64 s) rfl
      have e1 := blk_cell b2 1 (v := .int .i64 s') rfl
      have e3 := blk_cell b2 3 (v := .int .i64 n') rfl
      clear hb es b1 b2 KF hW
      go_wp2_with fail
      go_ret
      exact outG_on GW.out (outG_same HW.out (congrArg Value.bool R.out.symm))

/-- One route of a row written over. -/
theorem own_set {w : World} {B g cap : Nat} {l : List Rt} (h : OwnR w B (.slice (some ⟨g, 0, none⟩) l.length cap) l) (k : Nat) (hk : k < l.length) (y : Rt) (hy : fR.ok y) :
    OwnR ((((w.setCell ⟨g, k * 4, none⟩ (.int .i64 y.1)).setCell ⟨g, k * 4 + 1, none⟩ (.int .i64 y.2.1)).setCell ⟨g, k * 4 + 2, none⟩ (.int .i64 y.2.2.1)).setCell ⟨g, k * 4 + 3, none⟩ (.int .i64 y.2.2.2)) B (.slice (some ⟨g, 0, none⟩) l.length cap) (l.set k y) := by
  have ho := h.2 _ (List.getElem_mem hk)
  obtain ⟨h1, h2, h3, h4⟩ := hy
  obtain ⟨o1, o2, o3, o4⟩ := ho
  have s1 := h.put k hk 0 (by decide) (.int .i64 y.1) (y.1, l[k].2.1, l[k].2.2.1, l[k].2.2.2) rfl ⟨h1, o2, o3, o4⟩
  have l1 : (l.set k (y.1, l[k].2.1, l[k].2.2.1, l[k].2.2.2)).length = l.length := List.length_set
  rw [← l1] at s1
  have s2 := s1.put k (by rw [l1]; exact hk) 1 (by decide) (.int .i64 y.2.1) (y.1, y.2.1, l[k].2.2.1, l[k].2.2.2) (by rw [List.getElem_set_self]; rfl) ⟨h1, h2, o3, o4⟩
  rw [List.set_set] at s2
  have l2 : (l.set k (y.1, y.2.1, l[k].2.2.1, l[k].2.2.2)).length = l.length := List.length_set
  rw [l1, ← l2] at s2
  have s3 := s2.put k (by rw [l2]; exact hk) 2 (by decide) (.int .i64 y.2.2.1) (y.1, y.2.1, y.2.2.1, l[k].2.2.2) (by rw [List.getElem_set_self]; rfl) ⟨h1, h2, h3, o4⟩
  rw [List.set_set] at s3
  have l3 : (l.set k (y.1, y.2.1, y.2.2.1, l[k].2.2.2)).length = l.length := List.length_set
  rw [l2, ← l3] at s3
  have s4 := s3.put k (by rw [l3]; exact hk) 3 (by decide) (.int .i64 y.2.2.2) y (by rw [List.getElem_set_self]; rfl) ⟨h1, h2, h3, h4⟩
  rw [List.set_set, l3] at s4
  exact s4
end Go.Proofs.Ytcfnkfkdhcejeaa.Rte
