/- Edges in memory; the reference's Node, Valid, SameLink, SameNodes, SameEdges, Linked, Among. -/
import Derived.Test.YtcnmknhjmflinaaGr
import Derived.Test.YtcnmknhjmflinaaQH
import Derived.Test.YtcnmknhjmflinaaTPlain
set_option linter.unusedVariables false
namespace Go.Proofs.Ytcnmknhjmflinaa.Tpo
open Go.RowKit

/-- An edge in cells. -/
def fE : Flat Ed := ⟨2, fun c => [.int .i64 c.1, .int .i64 c.2], fun c => I64 c.1 ∧ I64 c.2, by decide, fun _ => rfl, fun _ v h => by simp at h; rcases h with rfl | rfl <;> rfl⟩
abbrev EdAt (w : World) (B : Nat) (A : Option Addr) (l : List Ed) : Prop := FlAt fE w B A l
theorem ed_cell {w : World} {B : Nat} {A : Option Addr} {l : List Ed} (h : EdAt w B A l) (i : Nat) (hi : i < l.length) : ∃ b p, A = some ⟨b, p, none⟩ ∧ b < B ∧ w.cell? ⟨b, p + i * 2, none⟩ = some (.int .i64 l[i].1) ∧ w.cell? ⟨b, p + i * 2 + 1, none⟩ = some (.int .i64 l[i].2) ∧ I64 l[i].1 ∧ I64 l[i].2 := by
  obtain ⟨b, p, h1, h2, h3, h4⟩ := h i hi
  exact ⟨b, p, h1, h2, h3 0 _ rfl, h3 1 _ rfl, h4.1, h4.2⟩
abbrev bxE (a b : Int) : Obj := .cells #[.int .i64 a, .int .i64 b] 49
abbrev edV (x : Ed) : Value := .agg #[.int .i64 x.1, .int .i64 x.2]
theorem eInt : Elems Try.prog 23 3 fI.sz := Elems.mk' Try.underlying23 (z := .int .i64 0) (m := 8) (by kernel_rfl) (by decide) rfl
theorem eEd : Elems Try.prog 22 49 fE.sz := Elems.mk' Try.underlying22 (z := .agg #[.int .i64 0, .int .i64 0]) (m := 16) (by kernel_rfl) (by decide) rfl
abbrev OwnI (w : World) (B : Nat) (v : Value) (l : List Int) : Prop := OwnF fI 3 w B v l
abbrev OwnE (w : World) (B : Nat) (v : Value) (l : List Ed) : Prop := OwnF fE 49 w B v l
/-- Numbers, edges are handed back: a row of the call's own. -/
def OutN (w : World) (l : List Int) (e : Ending) (w' : World) : Prop := ∃ v, e = .returned v ∧ OwnI w' w.heap.size v l ∧ Below w.heap.size w w'
def OutL (w : World) (l : List Ed) (e : Ending) (w' : World) : Prop := ∃ v, e = .returned v ∧ OwnE w' w.heap.size v l ∧ Below w.heap.size w w'
def OutV (w : World) (v : Value) (e : Ending) (w' : World) : Prop := e = .returned v ∧ Below w.heap.size w w'
theorem outG_V {w : World} {v : Value} {e : Ending} {w' : World} (h : OutG w v e w') : OutV w v e w' := by
  obtain ⟨rfl, q, os, rfl⟩ := h
  exact ⟨rfl, grown_below _ _ _⟩
theorem nd_i64 {n : Int} (h : Nd n) : I64 n := by unfold Nd at h; unfold I64; omega
/-- One number more. -/
theorem app_int {w : World} {B : Nat} {v : Value} {l : List Int} (h : OwnI w B v l) (x : Int) (hx : I64 x) (hl : l.length ≤ 1000000) (hB : B ≤ w.heap.size) :
    ∃ v' w', (Builtin.append_ #[23, 23] 23 #[v, .slice (some ⟨w.heap.size, 0, none⟩) 1 1]).run Try.prog (w.alloc (.cells #[.int .i64 x] 3)) = .ok v' w' ∧ OwnI w' B v' (l ++ [x]) ∧ Below B w w' :=
  h.one eInt 23 x #[.int .i64 x] rfl hx (by omega) hB
theorem app_edge {w : World} {B : Nat} {v : Value} {l : List Ed} (h : OwnE w B v l) (x : Ed) (hx : fE.ok x) (hl : l.length ≤ 1000000) (hB : B ≤ w.heap.size) :
    ∃ v' w', (Builtin.append_ #[22, 22] 22 #[v, .slice (some ⟨w.heap.size, 0, none⟩) 1 1]).run Try.prog (w.alloc (bxE x.1 x.2)) = .ok v' w' ∧ OwnE w' B v' (l ++ [x]) ∧ Below B w w' :=
  h.one eEd 22 x #[.int .i64 x.1, .int .i64 x.2] rfl hx (by omega) hB

theorem rnode_any (n : Int) (w : World) : Calls Try.prog 29 #[.int .i64 n] w fun e w' => e = .returned (.bool (decide (Nd n))) ∧ w = w' := by
  by_cases c1 : 0 ≤ n
  · have R := Lib.hid (show decide (Nd n) = decide (n ≤ 250) from decide_eq_decide.2 ⟨fun h => h.2, fun h => ⟨c1, h⟩⟩)
    have d1 := dt c1
    go_enter Try.func29, Try.ntmps29
    go_wp2_with fail
    go_ret
    exact ⟨ret_bool R.out.symm, rfl⟩
  · have R := Lib.hid (show decide (Nd n) = false from df (fun h => c1 h.1))
    have d1 := df c1
    go_enter Try.func29, Try.ntmps29
    go_wp2_with fail
    go_ret
    exact ⟨ret_bool R.out.symm, rfl⟩
set_option maxHeartbeats 1000000 in
theorem rvalid_any (x : Ed) (w : World) : Calls Try.prog 52 #[edV x] w (OutG w (.bool (decide (Vd x)))) := by
  obtain ⟨a, b⟩ := x
  have K1 := Lib.hid (fun w => rnode_any a w)
  have K2 := Lib.hid (fun w => rnode_any b w)
  by_cases c1 : Nd a
  · rw [dt c1] at K1
    by_cases c2 : Nd b
    · have R := Lib.hid (show decide (Vd (a, b)) = (a != b) by
        by_cases e : a = b
        · subst e
          rw [df (show ¬ Vd (a, a) from fun h => h.2 rfl)]; simp
        · rw [dt (show Vd (a, b) from ⟨⟨c1, c2⟩, e⟩)]; simp [e])
      rw [dt c2] at K2
      clear c1 c2
      go_enter Try.func52, Try.ntmps52
      go_wp2_with fail
      refine (K1.out _).mono ?_
      rintro _ w1 ⟨rfl, rfl⟩
      go_wp2_with fail
      refine (K2.out _).mono ?_
      rintro _ w2 ⟨rfl, rfl⟩
      go_wp2_with fail
      go_ret
      exact outG_alloc _ (congrArg Value.bool R.out.symm)
    · have R := Lib.hid (show decide (Vd (a, b)) = false from df (fun h => c2 h.1.2))
      rw [df c2] at K2
      clear c1 c2
      go_enter Try.func52, Try.ntmps52
      go_wp2_with fail
      refine (K1.out _).mono ?_
      rintro _ w1 ⟨rfl, rfl⟩
      go_wp2_with fail
      refine (K2.out _).mono ?_
      rintro _ w2 ⟨rfl, rfl⟩
      go_wp2_with fail
      go_ret
      exact outG_alloc _ (congrArg Value.bool R.out.symm)
  · have R := Lib.hid (show decide (Vd (a, b)) = false from df (fun h => c1 h.1.1))
    rw [df c1] at K1
    clear c1 K2
    go_enter Try.func52, Try.ntmps52
    go_wp2_with fail
    refine (K1.out _).mono ?_
    rintro _ w1 ⟨rfl, rfl⟩
    go_wp2_with fail
    go_ret
    exact outG_alloc _ (congrArg Value.bool R.out.symm)
theorem two_boxes (w : World) (a b c d : Int) : (w.alloc (bxE a b)).alloc (bxE c d) = Go.Sort.grow (w.drewN 0) #[bxE a b, bxE c d] := by rw [Go.Sort.alloc_eq_grow, Go.Sort.alloc_eq_grow, Go.Sort.grow_grow]; rfl
set_option maxHeartbeats 1000000 in
theorem rsmlink_any (x y : Ed) (w : World) : Calls Try.prog 53 #[edV x, edV y] w (OutG w (.bool (decide (Sm x y.1 y.2)))) := by
  obtain ⟨a, b⟩ := x
  obtain ⟨c, d⟩ := y
  have GW := Lib.hid (two_boxes w a b c d)
  have R0 := Lib.hid (show ∀ q : Bool, (q = true ↔ (a = c ∧ b = d) ∨ (a = d ∧ b = c)) → decide (Sm (a, b) c d) = q from fun q h => by
    rw [Bool.eq_iff_iff, h, decide_eq_true_eq]; exact Iff.rfl)
  by_cases h1 : a = c
  · subst h1
    by_cases h2 : b = d
    · subst h2
      have R := Lib.hid (R0.out true (by simp))
      clear R0
      go_enter Try.func53, Try.ntmps53
      go_wp2_with fail
      go_ret
      exact outG_same GW.out (congrArg Value.bool R.out.symm)
    · have n1 : (b == d) = false := by simpa using h2
      have m1 : decide (b = d) = false := df h2
      by_cases h3 : a = d
      · subst h3
        have R := Lib.hid (R0.out (b == a) (by simp [h2]))
        clear R0 h2
        go_enter Try.func53, Try.ntmps53
        go_wp2_with fail
        go_ret
        exact outG_same GW.out (congrArg Value.bool (by rw [R.out]; simp [n1]))
      · have n2 : (a == d) = false := by simpa using h3
        have R := Lib.hid (R0.out false (by simp [h2, h3]))
        clear R0 h2 h3
        go_enter Try.func53, Try.ntmps53
        go_wp2_with fail
        go_ret
        exact outG_same GW.out (congrArg Value.bool R.out.symm)
  · have n1 : (a == c) = false := by simpa using h1
    have m1 : decide (a = c) = false := df h1
    by_cases h3 : a = d
    · subst h3
      have R := Lib.hid (R0.out (b == c) (by simp [h1]))
      clear R0 h1
      go_enter Try.func53, Try.ntmps53
      go_wp2_with fail
      go_ret
      exact outG_same GW.out (congrArg Value.bool (by rw [R.out]))
    · have n2 : (a == d) = false := by simpa using h3
      have R := Lib.hid (R0.out false (by simp [h1, h3]))
      clear R0 h1 h3
      go_enter Try.func53, Try.ntmps53
      go_wp2_with fail
      go_ret
      exact outG_same GW.out (congrArg Value.bool R.out.symm)
end Go.Proofs.Ytcnmknhjmflinaa.Tpo
