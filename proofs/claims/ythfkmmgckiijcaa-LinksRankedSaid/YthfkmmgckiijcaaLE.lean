/- Contracts of the cost of an entry and of the comparisons that are handed to the library. -/
import Derived.Test.YthfkmmgckiijcaaLD
import Derived.Shelf.SlSortCmp.KitK
set_option linter.unusedVariables false
namespace Go.Proofs.Ythfkmmgckiijcaa.Lnk
open Go.RowKit

theorem mixedB : Try.prog.follows .mixedOrders = true := by kernel_rfl
/-- A value is handed back; memory has grown, and orders have been drawn. -/
def OutG (w : World) (v : Value) (e : Ending) (w' : World) : Prop := e = .returned v ∧ ∃ q os, w' = Go.Sort.grow (w.drewN q) os
theorem grown_below (w : World) (q : Nat) (os : Array Obj) : Below w.heap.size w (Go.Sort.grow (w.drewN q) os) := by
  refine ⟨rfl, rfl, rfl, ?_, fun k hk => ?_⟩
  · rw [Go.Sort.size_grow]; exact Nat.le_add_right _ _
  · unfold Go.Sort.grow
    show (w.heap ++ os)[k]? = _
    rw [Array.getElem?_append_left hk]
theorem outG_I {w : World} {n : Int} {e : Ending} {w' : World} (h : OutG w (.int .i64 n) e w') : OutI w n e w' := by
  obtain ⟨rfl, q, os, rfl⟩ := h
  exact ⟨rfl, grown_below _ _ _⟩
theorem outG_alloc {w : World} (o : Obj) {a b : Value} (h : a = b) : OutG w b (.returned a) (w.alloc o) := ⟨by rw [h], 0, #[o], by rw [Go.Sort.alloc_eq_grow]; rfl⟩
/-- From a world that has grown. -/
theorem outG_on {w W : World} {q : Nat} {os : Array Obj} {v : Value} {e : Ending} {w' : World} (hW : W = Go.Sort.grow (w.drewN q) os) (h : OutG W v e w') : OutG w v e w' := by
  obtain ⟨rfl, q', os', rfl⟩ := h
  subst hW
  exact ⟨rfl, q + q', os ++ os', by
    rw [show (Go.Sort.grow (w.drewN q) os).drewN q' = Go.Sort.grow ((w.drewN q).drewN q') os from rfl, World.drewN_drewN, Go.Sort.grow_grow]⟩
theorem outG_same {w W : World} {q : Nat} {os : Array Obj} {v : Value} {a : Value} (hW : W = Go.Sort.grow (w.drewN q) os) (h : a = v) : OutG w v (.returned a) W := ⟨by rw [h], q, os, hW⟩
theorem grown_alloc (w : World) (o : Obj) : w.alloc o = Go.Sort.grow (w.drewN 0) #[o] := by rw [Go.Sort.alloc_eq_grow]; rfl
theorem grown_more {w : World} {q q' : Nat} {os os' : Array Obj} : Go.Sort.grow ((Go.Sort.grow (w.drewN q) os).drewN q') os' = Go.Sort.grow (w.drewN (q + q')) (os ++ os') := by
  rw [show (Go.Sort.grow (w.drewN q) os).drewN q' = Go.Sort.grow ((w.drewN q).drewN q') os from rfl, World.drewN_drewN, Go.Sort.grow_grow]
/-- Callees met in a region that draws. -/
theorem grown_same {f : FuncId} {args : Array Value} {w : World} {n : Nat} {os : Array Obj} {v : Value}
    (h : Calls Try.prog f args (Go.Sort.grow (w.drewN n) os) fun e w' => e = .returned v ∧ Go.Sort.grow (w.drewN n) os = w') : Calls Try.prog f args (Go.Sort.grow (w.drewN n) os) fun e w'' => e = .returned v ∧ ∃ p : GrownBy, w'' = Go.Sort.grow (w.drewN p.n) p.os :=
  h.mono fun _ _ ⟨he, hm⟩ => ⟨he, ⟨n, os⟩, hm.symm⟩
theorem grown_out {f : FuncId} {args : Array Value} {w : World} {n : Nat} {os : Array Obj} {v : Value}
    (h : Calls Try.prog f args (Go.Sort.grow (w.drewN n) os) (OutG (Go.Sort.grow (w.drewN n) os) v)) : Calls Try.prog f args (Go.Sort.grow (w.drewN n) os) fun e w'' => e = .returned v ∧ ∃ p : GrownBy, w'' = Go.Sort.grow (w.drewN p.n) p.os :=
  Calls.grown_of h
/-- A box that was made first. -/
theorem box_grown {w W : World} {cs : Array Value} {T : TypeId} {q : Nat} {os : Array Obj} (hW : W = Go.Sort.grow ((w.alloc (.cells cs T)).drewN q) os) (j : Nat) {v : Value} (h : cs[j]? = some v) (n : Nat) (os' : Array Obj) : (Go.Sort.grow (W.drewN n) os').cell? ⟨w.heap.size, j, none⟩ = some v := by
  subst hW
  refine cell_grown (by rw [Go.Sort.size_grow]; show w.heap.size < (w.alloc _).heap.size + _; simp; omega) ?_ n os'
  exact box_at (grown_below _ _ _) j h

set_option maxHeartbeats 400000 in
theorem lsuccG_any (x : Lk) (hx : Ok1 x) (w : World) : Calls Try.prog 39 #[lkV x] w (OutG w (.int .i64 (scc x))) := by
  obtain ⟨n, b, c⟩ := x
  have hb := bits_lt hx
  obtain ⟨bn, hbn⟩ : ∃ bn : Nat, b = (bn : Int) := ⟨b.toNat, by have := hb.1; simp only at this; omega⟩
  subst hbn
  have K := Lib.hid (fun w => ones_any bn (by have := hb.2; simp only at this; omega) w)
  have R := Lib.hid (show scc (n, (bn : Int), c) = (ones 16 bn : Nat) from rfl)
  have w1 : IntKind.u64.wrap (bn : Int) = (bn : Int) := by
    show (bn : Int) % 18446744073709551616 = bn
    have := hb.2; simp only at this; omega
  clear hb hx
  rw [R.out]
  generalize ones 16 bn = r at *
  go_enter Try.func39, Try.ntmps39
  go_wp2_with (go_at_call 49; refine (K.out _).mono ?_; rintro e w' ⟨rfl, rfl⟩)
  go_ret
  exact outG_alloc _ rfl
theorem cst_pos {x : Lk} (h : scc x ≠ 0) : cst x = -(-(10 * x.2.2) / scc x) := if_neg h
set_option maxRecDepth 100000 in
set_option maxHeartbeats 1000000 in
theorem lcostOf_any (x : Lk) (hx : Ok1 x) (w : World) : Calls Try.prog 35 #[lkV x] w (OutG w (.int .i64 (cst x))) := by
  obtain ⟨n, b, c⟩ := x
  have K := Lib.hid (fun w => (show Calls Try.prog 39 #[.agg #[.int .i64 n, .int .i64 b, .int .i64 c]] w (OutG w (.int .i64 (scc (n, b, c)))) from lsuccG_any (n, b, c) hx w))
  have hs := scc_le hx
  have hc := hx.2.1
  simp only at hc hs
  have C0 := Lib.hid (fun h => (show cst (n, b, c) = 255 from if_pos h))
  have C1 := Lib.hid (fun (h : scc (n, b, c) ≠ 0) => (show cst (n, b, c) = -flo (-(10 * c)) (scc (n, b, c)) by rw [cst_pos h, flo_plain _ _ (by omega) (by omega) (by omega) (by omega)]))
  have mixed := mixedB
  clear hx
  obtain ⟨hc1, hc2⟩ := hc
  obtain ⟨hs1, hs2⟩ := hs
  generalize scc (n, b, c) = s at *
  generalize cst (n, b, c) = t at *
  by_cases h0 : s = 0
  · have R := Lib.hid (C0.out h0)
    have d1 : (s == 0) = true := by simpa using h0
    clear C0 C1
    go_enter Try.func35, Try.ntmps35
    go_wp2_with fail
    refine (K.out _).mono ?_
    rintro _ w1 ⟨rfl, q, os, hw⟩
    have HW := Lib.hid hw
    clear hw
    go_wp2_with fail
    go_ret
    exact outG_on (grown_alloc w _) (outG_same HW.out (by rw [R.out]; rfl))
  · have R := Lib.hid (C1.out h0)
    have d1 : (s == 0) = false := by simpa using h0
    have KC := Lib.hid (fun w => nceil_any (10 * c) s w)
    have z1 : IntKind.i64.wrap (10 * c) = 10 * c := by rw [IntKind.wrap_i64]; omega
    clear C0 C1 h0
    go_enter Try.func35, Try.ntmps35
    go_wp2_with fail
    refine (K.out _).mono ?_
    rintro _ w1 ⟨rfl, q, os, hw⟩
    have HW := Lib.hid hw
    have c0 := box_grown hw 0 (v := .int .i64 n) rfl
    have c1 := box_grown hw 1 (v := .int .i64 b) rfl
    have c2 := box_grown hw 2 (v := .int .i64 c) rfl
    clear hw
    go_wp2_with fail
    go_quiet_grown (first | (go_at_call 39; refine grown_out (K.out _)) | (go_at_call 46; refine grown_same (KC.out _)) | fail)
    go_wp2_with fail
    go_ret
    exact outG_on (grown_alloc w _) (outG_on HW.out (outG_same rfl (by rw [R.out]; rfl)))

theorem cmp_eq (x y : Int) : Lib.compareInt x y = if x < y then -1 else if y < x then 1 else 0 := by
  unfold Lib.compareInt; rfl
set_option maxHeartbeats 400000 in
theorem nan_any (x : Int) (w : World) : Calls Try.prog 51 #[.int .i64 x] w fun e w' => e = .returned (.bool false) ∧ w = w' := by
  go_enter Try.func51, Try.ntmps51
  go_wp2_with fail
  go_ret
  exact ⟨ret_bool (by first | rfl | simp), rfl⟩
set_option maxHeartbeats 400000 in
theorem compare_any (x y : Int) (w : World) : Calls Try.prog 43 #[.int .i64 x, .int .i64 y] w fun e w' => e = .returned (.int .i64 (Lib.compareInt x y)) ∧ w = w' := by
  have E := Lib.hid (cmp_eq x y)
  rcases Int.lt_trichotomy x y with h | h | h
  · have d1 := dt h
    have R := Lib.hid (show Lib.compareInt x y = -1 by rw [E.out, if_pos h])
    go_enter Try.func43, Try.ntmps43
    go_wp2_with (go_at_call 51; refine (nan_any _ _).mono ?_; rintro e w' ⟨rfl, rfl⟩)
    go_ret
    exact ⟨ret_int R.out.symm, rfl⟩
  · subst h
    have d1 := df (Int.lt_irrefl x)
    have R := Lib.hid (show Lib.compareInt x x = 0 by rw [E.out, if_neg (Int.lt_irrefl x), if_neg (Int.lt_irrefl x)])
    go_enter Try.func43, Try.ntmps43
    go_wp2_with (go_at_call 51; refine (nan_any _ _).mono ?_; rintro e w' ⟨rfl, rfl⟩)
    go_ret
    exact ⟨ret_int R.out.symm, rfl⟩
  · have d1 := df (show ¬ x < y by omega)
    have d2 := dt h
    have R := Lib.hid (show Lib.compareInt x y = 1 by rw [E.out, if_neg (by omega), if_pos h])
    go_enter Try.func43, Try.ntmps43
    go_wp2_with (go_at_call 51; refine (nan_any _ _).mono ?_; rintro e w' ⟨rfl, rfl⟩)
    go_ret
    exact ⟨ret_int R.out.symm, rfl⟩

set_option maxHeartbeats 400000 in
/-- The comparison of place. -/
theorem placeC_any (x : Lk) (n : Int) (w : World) : Calls Try.prog 45 #[lkV x, .int .i64 n] w (OutG w (.int .i64 (Lib.compareInt x.1 n))) := by
  obtain ⟨a, b, c⟩ := x
  have K := Lib.hid (fun w => compare_any a n w)
  simp only
  generalize Lib.compareInt a n = r at *
  go_enter Try.func45, Try.ntmps45
  go_wp2_with (go_at_call 43; refine (K.out _).mono ?_; rintro e w' ⟨rfl, rfl⟩)
  go_ret
  exact outG_alloc _ rfl
/-- The comparison of Best. -/
def cmpB (x y : Lk) : Int := Lib.compareInt (cst x) (cst y)
set_option maxRecDepth 100000 in
set_option maxHeartbeats 1000000 in
theorem bestC_any (x y : Lk) (hx : Ok1 x) (hy : Ok1 y) (w : World) : Calls Try.prog 42 #[lkV x, lkV y] w (OutG w (.int .i64 (cmpB x y))) := by
  obtain ⟨a, b, c⟩ := x
  obtain ⟨a', b', c'⟩ := y
  have K1 := Lib.hid (fun x1 x2 x3 w (h : Ok1 (x1, x2, x3)) => (show Calls Try.prog 35 #[.agg #[.int .i64 x1, .int .i64 x2, .int .i64 x3]] w (OutG w (.int .i64 (cst (x1, x2, x3)))) from lcostOf_any (x1, x2, x3) h w))
  obtain ⟨r, hr⟩ : ∃ r, r = cmpB (a, b, c) (a', b', c') := ⟨_, rfl⟩
  have K3 := Lib.hid (fun w => (show Calls Try.prog 43 #[.int .i64 (cst (a, b, c)), .int .i64 (cst (a', b', c'))] w fun e w' => e = .returned (.int .i64 r) ∧ w = w' from by rw [hr]; exact compare_any (cst (a, b, c)) (cst (a', b', c')) w))
  have mixed := mixedB
  rw [← hr]
  clear hr
  go_enter Try.func42, Try.ntmps42
  go_wp2_with fail
  obtain ⟨W, hW⟩ : ∃ W, W = (w.alloc (bxL a b c)).alloc (bxL a' b' c') := ⟨_, rfl⟩
  have HW := Lib.hid (show W = Go.Sort.grow (w.drewN 0) #[bxL a b c, bxL a' b' c'] by rw [hW, Go.Sort.alloc_eq_grow, Go.Sort.alloc_eq_grow, Go.Sort.grow_grow]; rfl)
  have b1 : W.heap[w.heap.size]? = some (bxL a b c) := by rw [hW]; exact blk_alloc (blk_new _ _) _
  have b2 : W.heap[w.heap.size + 1]? = some (bxL a' b' c') := by rw [hW]; have := blk_new (w.alloc (bxL a b c)) (bxL a' b' c'); simpa using this
  have c0 := fun n os => cell_grown (w := W) (a := ⟨w.heap.size, 0, none⟩) (blk_lt b1) (blk_cell b1 0 (v := .int .i64 a) rfl) n os
  have c1 := fun n os => cell_grown (w := W) (a := ⟨w.heap.size, 1, none⟩) (blk_lt b1) (blk_cell b1 1 (v := .int .i64 b) rfl) n os
  have c2 := fun n os => cell_grown (w := W) (a := ⟨w.heap.size, 2, none⟩) (blk_lt b1) (blk_cell b1 2 (v := .int .i64 c) rfl) n os
  have e0 := fun n os => cell_grown (w := W) (a := ⟨w.heap.size + 1, 0, none⟩) (blk_lt b2) (blk_cell b2 0 (v := .int .i64 a') rfl) n os
  have e1 := fun n os => cell_grown (w := W) (a := ⟨w.heap.size + 1, 1, none⟩) (blk_lt b2) (blk_cell b2 1 (v := .int .i64 b') rfl) n os
  have e2 := fun n os => cell_grown (w := W) (a := ⟨w.heap.size + 1, 2, none⟩) (blk_lt b2) (blk_cell b2 2 (v := .int .i64 c') rfl) n os
  rw [← hW]
  clear hW b1 b2
  go_quiet_grown (first
    | (go_at_call 35; exact grown_out (K1.out _ _ _ _ (by assumption)))
    | (go_at_call 43; exact grown_same (K3.out _)) | fail)
  go_wp2_with fail
  go_ret
  exact outG_on HW.out (outG_same rfl rfl)
end Go.Proofs.Ythfkmmgckiijcaa.Lnk
