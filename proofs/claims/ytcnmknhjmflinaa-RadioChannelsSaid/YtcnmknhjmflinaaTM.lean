/- Package topo's maps; isNode, isValid, linkOf. -/
import Derived.Test.YtcnmknhjmflinaaTBf
import Derived.Test.YtcnmknhjmflinaaTG
import Derived.Test.YtcnmknhjmflinaaMv
import Derived.Test.YtcnmknhjmflinaaQu
import Derived.DeepKeys4
set_option linter.unusedVariables false
namespace Go.Proofs.Ytcnmknhjmflinaa.Tpo
open Go.RowKit

/-! Types of maps. -/
theorem laidOut : laidOutB Try.prog = true := by kernel_rfl
theorem rowE : (49 : TypeId) < Try.prog.types.size := of_decide_eq_true (by kernel_rfl)
theorem wideE : (match Try.prog.underlying 49 with | some (.array _ _) | some (.struct _) => true | _ => false) = true := by rw [Try.underlying49]
theorem lawE : Go.Maps.Keyed Try.prog 49 := Go.Maps.Keyed.of_law (deep_law_laid laidOut (m := 2) (by omega) rowE (by kernel_rfl) wideE)
theorem cellsE : Try.prog.cellsOf 49 = 2 := by kernel_rfl
theorem cellsI : Try.prog.cellsOf 3 = 1 := by kernel_rfl
theorem keyE : Try.prog.keyType 49 = true := by kernel_rfl
theorem keyOf_edge {a b : Int} (ha : I64 a) (hb : I64 b) : ∃ l, keyOf Try.prog 49 (.agg #[.int .i64 a, .int .i64 b]) = some l := by
  have h1 : ∀ d, Try.prog.keyLits (d + 1) 3 [.int .i64 a] = some [.int .i64 a] := fun d => by simp [Program.keyLits, Try.underlying3, i64_wf ha]
  have h2 : ∀ d, Try.prog.keyLits (d + 1) 3 [.int .i64 b] = some [.int .i64 b] := fun d => by simp [Program.keyLits, Try.underlying3, i64_wf hb]
  have h3 : ∀ d, Try.prog.keyLits (d + 2) 49 [.int .i64 a, .int .i64 b] = some [.int .i64 a, .int .i64 b] := fun d => by
    unfold Program.keyLits
    simp [Try.underlying49, cellsE, cellsI, h1, h2]
  obtain ⟨d, hd⟩ : ∃ d, Try.prog.types.size + 1 = d + 2 := ⟨Try.prog.types.size - 1, by have h : (49 : Nat) < Try.prog.types.size := rowE; omega⟩
  refine ⟨.string (keyBytes [.int .i64 a, .int .i64 b]), ?_⟩
  have hf : (Value.agg #[.int .i64 a, .int .i64 b]).formed Try.prog 49 = true := by simp [Value.formed, Try.underlying49, cellsE]
  have hc : (Value.agg #[.int .i64 a, .int .i64 b]).cells.toList = [.int .i64 a, .int .i64 b] := rfl
  unfold keyOf
  simp only [Try.underlying49, keyE, hf, hc, hd, h3]
  rfl
def MS : MvTy Ed := ⟨60, 49, 4, fun x => .agg #[.int .i64 x.1, .int .i64 x.2], fun x => I64 x.1 ∧ I64 x.2, .bool false⟩
theorem ms_of : MS.Of Try.prog := ⟨Try.underlying60, lawE, fun x hx => keyOf_edge hx.1 hx.2, fun x y h => by
  obtain ⟨a, b⟩ := x
  obtain ⟨c, d⟩ := y
  simp [MS] at h
  rw [h.1, h.2], fun w => by kernel_rfl⟩
abbrev MO : MvTy Int := mvInt 69 3 4 (.bool false)
theorem mo_of : MO.Of Try.prog := mvInt_of Try.underlying69 Try.underlying3 fun w => by kernel_rfl

theorem pnode_any (n : Int) (w : World) : Calls Try.prog 58 #[.int .i64 n] w fun e w' => e = .returned (.bool (decide (Nd n))) ∧ w = w' := by
  by_cases c1 : 0 ≤ n
  · have R := Lib.hid (show decide (Nd n) = decide (n ≤ 250) from decide_eq_decide.2 ⟨fun h => h.2, fun h => ⟨c1, h⟩⟩)
    have d1 := dt c1
    go_enter Try.func58, Try.ntmps58
    go_wp2_with fail
    go_ret
    exact ⟨ret_bool R.out.symm, rfl⟩
  · have R := Lib.hid (show decide (Nd n) = false from df (fun h => c1 h.1))
    have d1 := df c1
    go_enter Try.func58, Try.ntmps58
    go_wp2_with fail
    go_ret
    exact ⟨ret_bool R.out.symm, rfl⟩
set_option maxHeartbeats 1000000 in
theorem pvalid_any (x : Ed) (w : World) : Calls Try.prog 45 #[edV x] w (OutG w (.bool (decide (Vd x)))) := by
  obtain ⟨a, b⟩ := x
  have K1 := Lib.hid (fun w => pnode_any a w)
  have K2 := Lib.hid (fun w => pnode_any b w)
  by_cases c1 : Nd a
  · rw [dt c1] at K1
    by_cases c2 : Nd b
    · have R := Lib.hid (show decide (Vd (a, b)) = (a != b) by
        by_cases e : a = b
        · subst e
          rw [df (show ¬ Vd (a, a) from fun h => h.2 rfl)]; simp
        · rw [dt (show Vd (a, b) from ⟨⟨c1, c2⟩, e⟩)]; simp [e])
      rw [dt c2] at K2
      clear c1 c2
      go_enter Try.func45, Try.ntmps45
      go_wp2_with fail
      refine (K1.out _).mono ?_
      rintro _ w1 ⟨rfl, rfl⟩
      go_wp2_with fail
      refine (K2.out _).mono ?_
      rintro _ w2 ⟨rfl, rfl⟩
      go_wp2_with fail
      go_ret
      exact outG_alloc _ (congrArg Value.bool R.out.symm)
    · have R := Lib.hid (show decide (Vd (a, b)) = false from df (fun h => c2 h.1.2))
      rw [df c2] at K2
      clear c1 c2
      go_enter Try.func45, Try.ntmps45
      go_wp2_with fail
      refine (K1.out _).mono ?_
      rintro _ w1 ⟨rfl, rfl⟩
      go_wp2_with fail
      refine (K2.out _).mono ?_
      rintro _ w2 ⟨rfl, rfl⟩
      go_wp2_with fail
      go_ret
      exact outG_alloc _ (congrArg Value.bool R.out.symm)
  · have R := Lib.hid (show decide (Vd (a, b)) = false from df (fun h => c1 h.1.1))
    rw [df c1] at K1
    clear c1 K2
    go_enter Try.func45, Try.ntmps45
    go_wp2_with fail
    refine (K1.out _).mono ?_
    rintro _ w1 ⟨rfl, rfl⟩
    go_wp2_with fail
    go_ret
    exact outG_alloc _ (congrArg Value.bool R.out.symm)

/-- The one edge that stands for a link. -/
def lnk (x : Ed) : Ed := if x.1 ≤ x.2 then (x.1, x.2) else (x.2, x.1)
theorem lnk_min (x : Ed) : lnk x = ((if x.1 ≤ x.2 then x.1 else x.2), (if x.1 ≤ x.2 then x.2 else x.1)) := by unfold lnk; split <;> rfl
theorem lnk_sm (x y : Ed) : lnk x = lnk y ↔ Sm x y.1 y.2 := by
  obtain ⟨a, b⟩ := x
  obtain ⟨c, d⟩ := y
  unfold lnk Sm
  simp only
  split <;> split <;> simp only [Prod.mk.injEq] <;> omega
theorem plink_any (x : Ed) (w : World) : Calls Try.prog 48 #[edV x] w (OutV w (edV (lnk x))) := by
  obtain ⟨a, b⟩ := x
  have R := Lib.hid (lnk_min (a, b))
  by_cases h : a ≤ b
  · have R2 := Lib.hid (show lnk (a, b) = (a, b) by rw [R.out]; simp [h])
    have d4 : min a b = a := by omega
    have d5 : max a b = b := by omega
    have d1 := dt h
    have d2 : (if a ≤ b then a else b) = a := if_pos h
    have d3 : (if b ≤ a then a else b) = b := by split <;> omega
    clear h R
    go_enter Try.func48, Try.ntmps48
    go_wp2_with fail
    rw [R2.out]
    refine bodyPost_ret (v := .agg #[.int .i64 a, .int .i64 b]) (by simp [results, Try.results48, go_sem]) rfl ⟨rfl, ?_⟩
    exact ((Below.refl w.heap.size w).alloc (Nat.le_refl _) _).alloc (by simp) _
  · have R2 := Lib.hid (show lnk (a, b) = (b, a) by rw [R.out]; simp [h])
    have d4 : min a b = b := by omega
    have d5 : max a b = a := by omega
    have d1 := df h
    have d2 : (if a ≤ b then a else b) = b := if_neg h
    have d3 : (if b ≤ a then a else b) = a := by split <;> omega
    clear h R
    go_enter Try.func48, Try.ntmps48
    go_wp2_with fail
    rw [R2.out]
    refine bodyPost_ret (v := .agg #[.int .i64 b, .int .i64 a]) (by simp [results, Try.results48, go_sem]) rfl ⟨rfl, ?_⟩
    exact ((Below.refl w.heap.size w).alloc (Nat.le_refl _) _).alloc (by simp) _
end Go.Proofs.Ytcnmknhjmflinaa.Tpo
