/- Texts of this proof, one behind the other: no claim of its own. -/
import Derived.Test.YtagkmfhicpcjnaaDoorG2
import Derived.Sort.Walk0
import Derived.Deep.DeepCutAuto
import Derived.Deep.CutRange
import Derived.Deep.QuietTactic
import Derived.Test.YtagkmfhicpcjnaaDoorG1
import Derived.Deep.RegionHeld
import Derived.Maps.AppendAt
import Derived.Deep.MidRow
import Derived.Lib.SliceRun
/- Layer 20: values and attributes in memory; the reference's Check, Less. -/
set_option linter.unusedVariables false
set_option maxRecDepth 100000
namespace Go.Proofs.YtagkmfhicpcjnaaDoor.Vlu
open Go.RowKit

abbrev vlV (v : Vl) : Value := .agg #[.int .i64 v.1, .int .i64 v.2.1, .string v.2.2]
abbrev bxV (v : Vl) : Obj := .cells #[.int .i64 v.1, .int .i64 v.2.1, .string v.2.2] 26
def fV : Flat Vl := ⟨3, fun v => [.int .i64 v.1, .int .i64 v.2.1, .string v.2.2], fun v => I64 v.1 ∧ I64 v.2.1 ∧ v.2.2.size ≤ 9223372036854775807, by decide, fun _ => rfl, fun _ v h => by simp at h; rcases h with rfl | rfl | rfl <;> rfl⟩
def fT : Flat ByteArray := ⟨1, fun s => [.string s], fun s => s.size ≤ 9223372036854775807, by decide, fun _ => rfl, fun _ v h => by simp at h; subst h; rfl⟩
abbrev StS (w : World) (A : Option Addr) (c : Nat) (l : List ByteArray) : Prop := SlS fT w A c l
abbrev atC (a : At) (A : Option Addr) (c : Nat) : Array Value := #[.string a.n, .int .i64 a.k, .int .i64 a.mn, .int .i64 a.mx, .slice A a.en.length c, .bool a.wr, .bool a.sf]
abbrev atV (a : At) (A : Option Addr) (c : Nat) : Value := .agg (atC a A c)
abbrev bxA (a : At) (A : Option Addr) (c : Nat) : Obj := .cells (atC a A c) 24
theorem siz_pos {x : ByteArray} (h : ¬ x.size = 0) : x.toList ≠ [] ∧ x.toList.isEmpty = false := by
  have e : x.toList ≠ [] := fun e => by
    have := congrArg List.length e
    rw [Lib.toList_data] at this
    simp at this
    exact h (by rw [this]; rfl)
  refine ⟨e, ?_⟩
  cases hx : x.toList with
  | nil => exact absurd hx e
  | cons a b => rfl
theorem chk_kind {v : Vl} (h : v.1 < 0 ∨ 4 < v.1) : chk v = 7 := if_pos h
theorem chk_range {v : Vl} (h : ¬ (v.1 < 0 ∨ 4 < v.1)) (h2 : v.2.1 < lo v.1 ∨ hi v.1 < v.2.1) : chk v = 2 := by unfold chk; rw [if_neg h, if_pos h2]
theorem chk_long {v : Vl} (h : ¬ (v.1 < 0 ∨ 4 < v.1)) (h2 : ¬ (v.2.1 < lo v.1 ∨ hi v.1 < v.2.1)) (h3 : 60 < v.2.2.size) : chk v = 3 := by unfold chk; rw [if_neg h, if_neg h2, if_pos h3]
theorem chk_form {v : Vl} (h : ¬ (v.1 < 0 ∨ 4 < v.1)) (h2 : ¬ (v.2.1 < lo v.1 ∨ hi v.1 < v.2.1)) (h3 : ¬ 60 < v.2.2.size) (h4 : v.2.2.size ≠ 0 ∧ v.1 ≠ 4) : chk v = 4 := by unfold chk; rw [if_neg h, if_neg h2, if_neg h3, if_pos h4]
theorem chk_good {v : Vl} (h : ¬ (v.1 < 0 ∨ 4 < v.1)) (h2 : ¬ (v.2.1 < lo v.1 ∨ hi v.1 < v.2.1)) (h3 : ¬ 60 < v.2.2.size) (h4 : ¬ (v.2.2.size ≠ 0 ∧ v.1 ≠ 4)) : chk v = 0 := by unfold chk; rw [if_neg h, if_neg h2, if_neg h3, if_neg h4]

set_option maxRecDepth 100000 in
set_option maxHeartbeats 2000000 in
theorem rcheck_any (v : Vl) (w : World) (hs : v.2.2.size ≤ 9223372036854775807) : Calls Tryd.prog 14 #[vlV v] w (OutI w (chk v)) := by
  obtain ⟨k, n, s⟩ := v
  have B0 := Lib.hid (alloc_below w (bxV (k, n, s)))
  dsimp only at hs
  by_cases hk : k < 0 ∨ 4 < k
  · have R := Lib.hid (chk_kind (v := (k, n, s)) hk)
    have f0 : (k == 0) = false := beq_false_of_ne (by omega)
    have f1 : (k == 1) = false := beq_false_of_ne (by omega)
    have f2 : (k == 2) = false := beq_false_of_ne (by omega)
    have f3 : (k == 3) = false := beq_false_of_ne (by omega)
    have f4 : (k == 4) = false := beq_false_of_ne (by omega)
    clear hk
    go_enter Tryd.func14, Tryd.ntmps14
    go_wp2_with fail
    go_ret
    exact outI R.out.symm B0.out
  have hk5 : k = 0 ∨ k = 1 ∨ k = 2 ∨ k = 3 ∨ k = 4 := by omega
  rcases hk5 with rfl | rfl | rfl | rfl | rfl
  · have hl : lo 0 = 0 := by decide
    have hh : hi 0 = 0 := by decide
    by_cases h1 : n < 0
    · have R := Lib.hid (chk_range (v := (0, n, s)) hk (Or.inl (by rw [hl]; exact h1)))
      have d1 := dt h1
      clear hk hl hh h1 hs
      go_enter Tryd.func14, Tryd.ntmps14
      go_wp2_with fail
      go_ret
      exact outI R.out.symm B0.out
    by_cases h2 : 0 < n
    · have R := Lib.hid (chk_range (v := (0, n, s)) hk (Or.inr (by rw [hh]; exact h2)))
      have d1 := df h1
      have d2 := dt h2
      clear hk hl hh h1 h2 hs
      go_enter Tryd.func14, Tryd.ntmps14
      go_wp2_with fail
      go_ret
      exact outI R.out.symm B0.out
    have d1 := df h1
    have d2 := df h2
    have h12 : ¬ (n < lo 0 ∨ hi 0 < n) := by rw [hl, hh]; omega
    by_cases h3 : 60 < s.size
    · have R := Lib.hid (chk_long (v := (0, n, s)) hk h12 h3)
      have d3 := dt (show (60 : Int) < (s.size : Int) by omega)
      clear hk hl hh h1 h2 h12 hs h3
      go_enter Tryd.func14, Tryd.ntmps14
      go_wp2_with fail
      go_ret
      exact outI R.out.symm B0.out
    have d3 := df (show ¬ (60 : Int) < (s.size : Int) by omega)
    by_cases h4 : s.size = 0
    · have R := Lib.hid (chk_good (v := (0, n, s)) hk h12 h3 (fun q => q.1 h4))
      obtain rfl := size_zero h4
      clear hk hl hh h1 h2 h12 hs h3 h4
      go_enter Tryd.func14, Tryd.ntmps14
      go_wp2_with fail
      go_ret
      exact outI R.out.symm B0.out
    obtain ⟨e1, e2⟩ := siz_pos h4
    have R := Lib.hid (chk_form (v := (0, n, s)) hk h12 h3 ⟨h4, by show (0 : Int) ≠ 4; decide⟩)
    clear hk hl hh h1 h2 h12 hs h3 h4
    go_enter Tryd.func14, Tryd.ntmps14
    go_wp2_with fail
    go_ret
    exact outI R.out.symm B0.out
  · have hl : lo 1 = 0 := by decide
    have hh : hi 1 = 1 := by decide
    by_cases h1 : n < 0
    · have R := Lib.hid (chk_range (v := (1, n, s)) hk (Or.inl (by rw [hl]; exact h1)))
      have d1 := dt h1
      clear hk hl hh h1 hs
      go_enter Tryd.func14, Tryd.ntmps14
      go_wp2_with fail
      go_ret
      exact outI R.out.symm B0.out
    by_cases h2 : 1 < n
    · have R := Lib.hid (chk_range (v := (1, n, s)) hk (Or.inr (by rw [hh]; exact h2)))
      have d1 := df h1
      have d2 := dt h2
      clear hk hl hh h1 h2 hs
      go_enter Tryd.func14, Tryd.ntmps14
      go_wp2_with fail
      go_ret
      exact outI R.out.symm B0.out
    have d1 := df h1
    have d2 := df h2
    have h12 : ¬ (n < lo 1 ∨ hi 1 < n) := by rw [hl, hh]; omega
    by_cases h3 : 60 < s.size
    · have R := Lib.hid (chk_long (v := (1, n, s)) hk h12 h3)
      have d3 := dt (show (60 : Int) < (s.size : Int) by omega)
      clear hk hl hh h1 h2 h12 hs h3
      go_enter Tryd.func14, Tryd.ntmps14
      go_wp2_with fail
      go_ret
      exact outI R.out.symm B0.out
    have d3 := df (show ¬ (60 : Int) < (s.size : Int) by omega)
    by_cases h4 : s.size = 0
    · have R := Lib.hid (chk_good (v := (1, n, s)) hk h12 h3 (fun q => q.1 h4))
      obtain rfl := size_zero h4
      clear hk hl hh h1 h2 h12 hs h3 h4
      go_enter Tryd.func14, Tryd.ntmps14
      go_wp2_with fail
      go_ret
      exact outI R.out.symm B0.out
    obtain ⟨e1, e2⟩ := siz_pos h4
    have R := Lib.hid (chk_form (v := (1, n, s)) hk h12 h3 ⟨h4, by show (1 : Int) ≠ 4; decide⟩)
    clear hk hl hh h1 h2 h12 hs h3 h4
    go_enter Tryd.func14, Tryd.ntmps14
    go_wp2_with fail
    go_ret
    exact outI R.out.symm B0.out
  · have hl : lo 2 = -1099511627776 := by decide
    have hh : hi 2 = 1099511627776 := by decide
    by_cases h1 : n < -1099511627776
    · have R := Lib.hid (chk_range (v := (2, n, s)) hk (Or.inl (by rw [hl]; exact h1)))
      have d1 := dt h1
      clear hk hl hh h1 hs
      go_enter Tryd.func14, Tryd.ntmps14
      go_wp2_with fail
      go_ret
      exact outI R.out.symm B0.out
    by_cases h2 : 1099511627776 < n
    · have R := Lib.hid (chk_range (v := (2, n, s)) hk (Or.inr (by rw [hh]; exact h2)))
      have d1 := df h1
      have d2 := dt h2
      clear hk hl hh h1 h2 hs
      go_enter Tryd.func14, Tryd.ntmps14
      go_wp2_with fail
      go_ret
      exact outI R.out.symm B0.out
    have d1 := df h1
    have d2 := df h2
    have h12 : ¬ (n < lo 2 ∨ hi 2 < n) := by rw [hl, hh]; omega
    by_cases h3 : 60 < s.size
    · have R := Lib.hid (chk_long (v := (2, n, s)) hk h12 h3)
      have d3 := dt (show (60 : Int) < (s.size : Int) by omega)
      clear hk hl hh h1 h2 h12 hs h3
      go_enter Tryd.func14, Tryd.ntmps14
      go_wp2_with fail
      go_ret
      exact outI R.out.symm B0.out
    have d3 := df (show ¬ (60 : Int) < (s.size : Int) by omega)
    by_cases h4 : s.size = 0
    · have R := Lib.hid (chk_good (v := (2, n, s)) hk h12 h3 (fun q => q.1 h4))
      obtain rfl := size_zero h4
      clear hk hl hh h1 h2 h12 hs h3 h4
      go_enter Tryd.func14, Tryd.ntmps14
      go_wp2_with fail
      go_ret
      exact outI R.out.symm B0.out
    obtain ⟨e1, e2⟩ := siz_pos h4
    have R := Lib.hid (chk_form (v := (2, n, s)) hk h12 h3 ⟨h4, by show (2 : Int) ≠ 4; decide⟩)
    clear hk hl hh h1 h2 h12 hs h3 h4
    go_enter Tryd.func14, Tryd.ntmps14
    go_wp2_with fail
    go_ret
    exact outI R.out.symm B0.out
  · have hl : lo 3 = 0 := by decide
    have hh : hi 3 = 63 := by decide
    by_cases h1 : n < 0
    · have R := Lib.hid (chk_range (v := (3, n, s)) hk (Or.inl (by rw [hl]; exact h1)))
      have d1 := dt h1
      clear hk hl hh h1 hs
      go_enter Tryd.func14, Tryd.ntmps14
      go_wp2_with fail
      go_ret
      exact outI R.out.symm B0.out
    by_cases h2 : 63 < n
    · have R := Lib.hid (chk_range (v := (3, n, s)) hk (Or.inr (by rw [hh]; exact h2)))
      have d1 := df h1
      have d2 := dt h2
      clear hk hl hh h1 h2 hs
      go_enter Tryd.func14, Tryd.ntmps14
      go_wp2_with fail
      go_ret
      exact outI R.out.symm B0.out
    have d1 := df h1
    have d2 := df h2
    have h12 : ¬ (n < lo 3 ∨ hi 3 < n) := by rw [hl, hh]; omega
    by_cases h3 : 60 < s.size
    · have R := Lib.hid (chk_long (v := (3, n, s)) hk h12 h3)
      have d3 := dt (show (60 : Int) < (s.size : Int) by omega)
      clear hk hl hh h1 h2 h12 hs h3
      go_enter Tryd.func14, Tryd.ntmps14
      go_wp2_with fail
      go_ret
      exact outI R.out.symm B0.out
    have d3 := df (show ¬ (60 : Int) < (s.size : Int) by omega)
    by_cases h4 : s.size = 0
    · have R := Lib.hid (chk_good (v := (3, n, s)) hk h12 h3 (fun q => q.1 h4))
      obtain rfl := size_zero h4
      clear hk hl hh h1 h2 h12 hs h3 h4
      go_enter Tryd.func14, Tryd.ntmps14
      go_wp2_with fail
      go_ret
      exact outI R.out.symm B0.out
    obtain ⟨e1, e2⟩ := siz_pos h4
    have R := Lib.hid (chk_form (v := (3, n, s)) hk h12 h3 ⟨h4, by show (3 : Int) ≠ 4; decide⟩)
    clear hk hl hh h1 h2 h12 hs h3 h4
    go_enter Tryd.func14, Tryd.ntmps14
    go_wp2_with fail
    go_ret
    exact outI R.out.symm B0.out
  · have hl : lo 4 = 0 := by decide
    have hh : hi 4 = 0 := by decide
    by_cases h1 : n < 0
    · have R := Lib.hid (chk_range (v := (4, n, s)) hk (Or.inl (by rw [hl]; exact h1)))
      have d1 := dt h1
      clear hk hl hh h1 hs
      go_enter Tryd.func14, Tryd.ntmps14
      go_wp2_with fail
      go_ret
      exact outI R.out.symm B0.out
    by_cases h2 : 0 < n
    · have R := Lib.hid (chk_range (v := (4, n, s)) hk (Or.inr (by rw [hh]; exact h2)))
      have d1 := df h1
      have d2 := dt h2
      clear hk hl hh h1 h2 hs
      go_enter Tryd.func14, Tryd.ntmps14
      go_wp2_with fail
      go_ret
      exact outI R.out.symm B0.out
    have d1 := df h1
    have d2 := df h2
    have h12 : ¬ (n < lo 4 ∨ hi 4 < n) := by rw [hl, hh]; omega
    by_cases h3 : 60 < s.size
    · have R := Lib.hid (chk_long (v := (4, n, s)) hk h12 h3)
      have d3 := dt (show (60 : Int) < (s.size : Int) by omega)
      clear hk hl hh h1 h2 h12 hs h3
      go_enter Tryd.func14, Tryd.ntmps14
      go_wp2_with fail
      go_ret
      exact outI R.out.symm B0.out
    have d3 := df (show ¬ (60 : Int) < (s.size : Int) by omega)
    by_cases h4 : s.size = 0
    · have R := Lib.hid (chk_good (v := (4, n, s)) hk h12 h3 (fun q => q.1 h4))
      obtain rfl := size_zero h4
      clear hk hl hh h1 h2 h12 hs h3 h4
      go_enter Tryd.func14, Tryd.ntmps14
      go_wp2_with fail
      go_ret
      exact outI R.out.symm B0.out
    obtain ⟨e1, e2⟩ := siz_pos h4
    have R := Lib.hid (chk_good (v := (4, n, s)) hk h12 h3 (fun q => q.2 rfl))
    clear hk hl hh h1 h2 h12 hs h3 h4
    go_enter Tryd.func14, Tryd.ntmps14
    go_wp2_with fail
    go_ret
    exact outI R.out.symm B0.out

/-- One value precedes another. -/
def less (a b : Vl) : Bool := if a.1 ≠ b.1 then decide (a.1 < b.1) else if a.2.1 ≠ b.2.1 then decide (a.2.1 < b.2.1) else decide (a.2.2.data.toList < b.2.2.data.toList)
theorem lss_is (s t : ByteArray) : Op.bytesLess s.toList t.toList = decide (s.data.toList < t.data.toList) := by
  rw [bytesLess_eq, Lib.toList_data, Lib.toList_data]
set_option maxHeartbeats 2000000 in
theorem rless_any (a b : Vl) (w : World) : Calls Tryd.prog 24 #[vlV a, vlV b] w (OutB w (less a b)) := by
  have B0 := Lib.hid ((alloc_below w (bxV a)).trans ((alloc_below (w.alloc (bxV a)) (bxV b)).mono (by simp)))
  obtain ⟨a1, a2, a3⟩ := a
  obtain ⟨b1, b2, b3⟩ := b
  unfold less
  dsimp only at B0 ⊢
  by_cases h1 : a1 ≠ b1
  · rw [if_pos h1]
    have f1 : (a1 == b1) = false := beq_false_of_ne h1
    have f2 : (a1 != b1) = true := by simp [h1]
    go_enter Tryd.func24, Tryd.ntmps24
    go_wp2_with fail
    go_ret
    exact outB rfl B0.out
  have h1 : a1 = b1 := Classical.byContradiction h1
  subst h1
  rw [if_neg (fun q => q rfl)]
  by_cases h2 : a2 ≠ b2
  · rw [if_pos h2]
    have f1 : (a2 == b2) = false := beq_false_of_ne h2
    have f2 : (a2 != b2) = true := by simp [h2]
    go_enter Tryd.func24, Tryd.ntmps24
    go_wp2_with fail
    go_ret
    exact outB rfl B0.out
  have h2 : a2 = b2 := Classical.byContradiction h2
  subst h2
  rw [if_neg (fun q => q rfl), ← lss_is]
  go_enter Tryd.func24, Tryd.ntmps24
  go_wp2_with fail
  go_ret
  exact outB rfl B0.out
end Go.Proofs.YtagkmfhicpcjnaaDoor.Vlu
/- Layer 20: the reference's member, Def. -/
set_option linter.unusedVariables false
set_option maxRecDepth 100000
namespace Go.Proofs.YtagkmfhicpcjnaaDoor.Vlu
open Go.RowKit
open Names (nm)

theorem retb {a b : Bool} (h : a = b) : Ending.returned (.bool a) = .returned (.bool b) := by rw [h]
theorem seq_test (s t : ByteArray) : (s.toList == t.toList) = decide (s = t) := by
  rw [Lib.toList_data, Lib.toList_data]
  by_cases h : s = t
  · subst h; simp
  · rw [decide_eq_false h, beq_eq_false_iff_ne]
    intro e
    exact h (ByteArray.ext (Array.toList_inj.1 e))
theorem mem_snoc (l : List ByteArray) (y x : ByteArray) : mem (l ++ [y]) x = (mem l x || decide (y = x)) := by unfold mem; simp [List.any_append]
theorem mem_take (l : List ByteArray) (x : ByteArray) (k : Nat) (h : k < l.length) : mem (l.take (k + 1)) x = (mem (l.take k) x || decide (l[k] = x)) := by
  rw [List.take_succ_eq_append_getElem h, mem_snoc]
theorem mem_hit (l : List ByteArray) (x : ByteArray) (k : Nat) (h : k < l.length) (e : l[k] = x) : mem l x = true := by
  unfold mem
  exact List.any_eq_true.2 ⟨l[k], List.getElem_mem h, by simp [e]⟩
theorem st_cell {w : World} {A : Option Addr} {c : Nat} {l : List ByteArray} (h : StS w A c l) (i : Nat) (hi : i < l.length) : ∃ b p, A = some ⟨b, p, none⟩ ∧ b < w.heap.size ∧ w.cell? ⟨b, p + i, none⟩ = some (.string l[i]) ∧ l[i].size ≤ 9223372036854775807 := by
  obtain ⟨b, p, h1, h2, h3, h4⟩ := h.1 i hi
  refine ⟨b, p, h1, h2, ?_, h4⟩
  have := h3 0 _ rfl
  simpa [fT] using this
set_option maxHeartbeats 2000000 in
theorem rmember_any (A : Option Addr) (c : Nat) (l : List ByteArray) (x : ByteArray) (w : World) (hl : l.length ≤ 9223372036854775807) (hA : StS w A c l) :
    Calls Tryd.prog 44 #[.slice A l.length c, .string x] w fun e w' => e = .returned (.bool (mem l x)) ∧ w = w' := by
  have HA := Lib.hid hA
  have GN := Lib.hid (fun (k : Nat) (h : k < l.length) (e : ¬ l[k] = x) (q : mem (l.take k) x = false) => (show mem (l.take (k + 1)) x = false from by rw [mem_take l x k h, q, decide_eq_false e]; rfl))
  have GH := Lib.hid (fun (k : Nat) (h : k < l.length) (e : l[k] = x) => mem_hit l x k h e)
  have GE := Lib.hid (show mem (l.take l.length) x = mem l x from by rw [List.take_length])
  have G0 := Lib.hid (show mem (l.take 0) x = false from rfl)
  clear hA
  generalize mem l x = F at *
  obtain ⟨G, hG⟩ : ∃ G : Nat → Bool, ∀ k, mem (l.take k) x = G k := ⟨_, fun _ => rfl⟩
  simp only [hG] at GN GE G0
  clear hG
  go_enter Tryd.func44, Tryd.ntmps44
  go_wp2_with fail
  go_loop [5] (fun vi => ∃ k : Nat, vi = .int .i64 k ∧ k ≤ l.length ∧ Hid (G k = false)) (fun vi => l.length - (intOf vi).toNat)
  case atStart => exact ⟨0, rfl, Nat.zero_le _, G0⟩
  case round =>
    obtain ⟨k, rfl, hk, HG⟩ := hrel
    by_cases hlt : k < l.length
    · obtain ⟨b, p, rfl, hb, hc, _⟩ := st_cell HA.out k hlt
      by_cases e : l[k] = x
      · have R := Lib.hid (GH.out k hlt e)
        have d1 := (seq_test l[k] x).trans (decide_eq_true e)
        clear GN GH GE HG e
        generalize l[k] = y at *
        go_wp2_with fail
        go_ret
        exact ⟨retb R.out.symm, rfl⟩
      · have R := Lib.hid (GN.out k hlt e HG.out)
        have d1 := (seq_test l[k] x).trans (decide_eq_false e)
        clear GN GH GE HG e
        generalize l[k] = y at *
        go_wp2_with fail
        go_round
        case rel => exact ⟨k + 1, by go_num, hlt, R⟩
        case measure => first | (simp [intOf]; done) | (simp [intOf]; omega)
    · obtain rfl : k = l.length := by omega
      have R := Lib.hid (GE.out.symm.trans HG.out)
      clear GN GH GE HG
      go_wp2_with fail
      go_ret
      exact ⟨retb R.out.symm, rfl⟩
theorem rmember_q (A : Option Addr) (c : Nat) (l : List ByteArray) (x : ByteArray) (w : World) (hl : l.length ≤ 9223372036854775807) (hA : StS w A c l) :
    Calls Tryd.prog 44 #[.slice A l.length c, .string x] w fun e w' => e = .returned (.bool (mem l x)) ∧ w' = w :=
  (rmember_any A c l x w hl hA).mono fun _ _ h => ⟨h.1, h.2.symm⟩
theorem utT : Tryd.prog.underlying 22 = some (.slice (Tryd.prog.elem 22)) := by kernel_rfl
theorem szT (W : World) : (sizeOf (Tryd.prog.elem 22)).run Tryd.prog W = .ok fT.sz W := by show _ = Result.ok 1 W; kernel_rfl
section
variable {α : Type} {F : Flat α}
/-- 's[:k]'. -/
theorem sl_to {P : Program} {t : TypeId} {w : World} {A : Option Addr} {c : Nat} {l : List α} (h : SlS F w A c l) (ut : P.underlying t = some (.slice (P.elem t))) (sz : ∀ W : World, (sizeOf (P.elem t)).run P W = .ok F.sz W) (k : Nat) (hk : k ≤ l.length) :
    ∃ A1, (∀ W : World, (Instr.sliceAt t (.slice A l.length c) none (some (.int .i64 (k : Int))) none).run P W = .ok (.slice A1 k c) W) ∧ SlS F w A1 c (l.take k) := by
  have hkc : k ≤ c := Nat.le_trans hk h.2.1
  have e1 : ∀ W : World, (Instr.sliceAt t (.slice A l.length c) none (some (.int .i64 (k : Int))) none).run P W = .ok (sliced A 0 k c F.sz) W := fun W => by
    rw [run_sliceAt_slice W _ _ _ _ _ ut, run_slice_h W _ A l.length c ut .i64 k (by omega) (by omega), sz]
    rfl
  have hl : (l.take k).length ≤ c := by rw [List.length_take]; omega
  cases A with
  | none =>
    obtain rfl := h.1.none rfl
    refine ⟨none, fun W => (e1 W).trans ?_, by simpa using h.1, hl, h.2.2⟩
    have := h.2.2 rfl
    subst this
    unfold sliced; simp
  | some ad =>
    by_cases hM : l = []
    · subst hM
      obtain rfl : k = 0 := by simpa using hk
      refine ⟨if c = 0 then some ad else some (ad.add 0), fun W => (e1 W).trans ?_, FlAt.nil _ _ _, by simp, fun e => by split at e <;> cases e⟩
      unfold sliced
      simp
    · obtain ⟨b, p, e3, _⟩ := h.1 0 (List.length_pos_iff.2 hM)
      simp only [Option.some.injEq] at e3
      subst e3
      have hadd : ∀ j, (⟨b, p, none⟩ : Addr).add j = ⟨b, p + j, none⟩ := fun j => by unfold Addr.add; split <;> simp_all
      refine ⟨some ⟨b, p, none⟩, fun W => (e1 W).trans ?_, flS_take h.1 k, hl, fun e => by cases e⟩
      unfold sliced
      simp [hadd]
end
theorem enE_nil (s : List ByteArray) : enE s [] = 0 := rfl
theorem enE_at (l : List ByteArray) (k : Nat) (h : k < l.length) : enE (l.take k) (l.drop k) = if nm l[k].data.toList = false then 10 else if mem (l.take k) l[k] = true then 9 else enE (l.take (k + 1)) (l.drop (k + 1)) := by
  have e : l.drop k = l[k] :: l.drop (k + 1) := (List.drop_eq_getElem_cons h)
  rw [e]
  unfold enE
  rw [List.take_succ_eq_append_getElem h]
  cases hr : l.drop (k + 1) <;> rfl
theorem dfn_name {a : At} (h : nm a.n.data.toList = false) : dfn a = 10 := if_pos h
theorem dfn_kindE {a : At} (h : ¬ nm a.n.data.toList = false) (h2 : a.k < 1 ∨ 4 < a.k) : dfn a = 7 := by unfold dfn; rw [if_neg h, if_pos h2]
theorem dfn_bad {a : At} (h : ¬ nm a.n.data.toList = false) (h2 : ¬ (a.k < 1 ∨ 4 < a.k)) (h3 : bad a) : dfn a = 2 := by unfold dfn; rw [if_neg h, if_neg h2, if_pos h3]
theorem dfn_not {a : At} (h : ¬ nm a.n.data.toList = false) (h2 : ¬ (a.k < 1 ∨ 4 < a.k)) (h3 : ¬ bad a) (h4 : a.k ≠ 3) : dfn a = if a.en = [] then 0 else 4 := by unfold dfn; rw [if_neg h, if_neg h2, if_neg h3, if_pos h4]
theorem dfn_len {a : At} (h : ¬ nm a.n.data.toList = false) (h2 : ¬ (a.k < 1 ∨ 4 < a.k)) (h3 : ¬ bad a) (h4 : a.k = 3) (h5 : a.en.length < 1 ∨ 64 < a.en.length) : dfn a = 3 := by unfold dfn; rw [if_neg h, if_neg h2, if_neg h3, if_neg (by rw [h4]; decide), if_pos h5]
theorem dfn_en {a : At} (h : ¬ nm a.n.data.toList = false) (h2 : ¬ (a.k < 1 ∨ 4 < a.k)) (h3 : ¬ bad a) (h4 : a.k = 3) (h5 : ¬ (a.en.length < 1 ∨ 64 < a.en.length)) : dfn a = enE [] a.en := by unfold dfn; rw [if_neg h, if_neg h2, if_neg h3, if_neg (by rw [h4]; decide), if_neg h5]
theorem bad_two {a : At} (hk : a.k = 2) : bad a ↔ a.mn < -1099511627776 ∨ 1099511627776 < a.mx ∨ a.mx < a.mn := by
  unfold bad
  exact ⟨fun h => h.elim (·.2) (fun q => absurd hk q.1), fun h => Or.inl ⟨hk, h⟩⟩
theorem bad_other {a : At} (hk : ¬ a.k = 2) : bad a ↔ a.mn ≠ 0 ∨ a.mx ≠ 0 := by
  unfold bad
  exact ⟨fun h => h.elim (fun q => absurd q.1 hk) (·.2), fun h => Or.inr ⟨hk, h⟩⟩
set_option maxRecDepth 100000 in
set_option maxHeartbeats 4000000 in
theorem rdef_any (a : At) (A : Option Addr) (c : Nat) (w : World) (hn : a.n.size ≤ 9223372036854775807) (hl : a.en.length ≤ 9223372036854775807) (hA : StS w A c a.en) :
    Calls Tryd.prog 16 #[atV a A c] w (OutI w (dfn a)) := by
  have b0 := alloc_below w (bxA a A c)
  have X := blk_new w (bxA a A c)
  have K0 := Lib.hid (Names.rvalid_any a.n (w.alloc (bxA a A c)) hn _ rfl)
  have HA := Lib.hid (hA.next b0)
  have HB := Lib.hid b0
  have hz : w.heap.size < (w.alloc (bxA a A c)).heap.size := by simp
  unfold Names.OutBool at K0
  have D1 := Lib.hid (dfn_name (a := a))
  have D2 := Lib.hid (dfn_kindE (a := a))
  have D3 := Lib.hid (dfn_bad (a := a))
  have D4 := Lib.hid (dfn_not (a := a))
  have D5 := Lib.hid (dfn_len (a := a))
  have D6 := Lib.hid (dfn_en (a := a))
  have D7 := Lib.hid (bad_two (a := a))
  have D8 := Lib.hid (bad_other (a := a))
  clear b0 hA
  generalize dfn a = F at *
  generalize nm a.n.data.toList = nb at *
  obtain ⟨BAD, hBAD⟩ : ∃ B : Prop, bad a = B := ⟨_, rfl⟩
  rw [hBAD] at D3 D4 D5 D6 D7 D8
  clear hBAD
  obtain ⟨an, ak, amn, amx, en, awr, asf⟩ := a
  obtain ⟨W0, hW0⟩ : ∃ W0, w.alloc (bxA ⟨an, ak, amn, amx, en, awr, asf⟩ A c) = W0 := ⟨_, rfl⟩
  have hW0' : w.alloc (.cells #[.string an, .int .i64 ak, .int .i64 amn, .int .i64 amx, .slice A en.length c, .bool awr, .bool asf] 24) = W0 := hW0
  rw [hW0] at K0 HA HB hz X
  have q0 := blk_cell X 0 (v := .string an) rfl
  have X := Lib.hid X
  have hz := Lib.hid hz
  have HX := Lib.hid (fun (w1 : World) (hb : Below W0.heap.size W0 w1) => blk_below X.out hb hz.out)
  have HW := Lib.hid (fun (w1 : World) (hb : Below W0.heap.size W0 w1) => (show Below w.heap.size w w1 from HB.out.trans (hb.mono HB.out.size)))
  simp only at D1 D2 D3 D4 D5 D6 D7 D8 hn hl K0 HA
  clear hW0 X HB hn
  go_enter Tryd.func16, Tryd.ntmps16
  go_upto_region 1 with fail
  try rw [hW0']
  clear hW0'
  go_wp2_with fail
  refine K0.out.mono ?_
  rintro _ w1 ⟨rfl, hb⟩
  have Y := HX.out w1 hb
  have c1 := blk_cell Y 1 (v := .int .i64 ak) rfl
  have c2 := blk_cell Y 2 (v := .int .i64 amn) rfl
  have c3 := blk_cell Y 3 (v := .int .i64 amx) rfl
  have c4 := blk_cell Y 4 (v := .slice A en.length c) rfl
  have B1 := Lib.hid (HW.out w1 hb)
  have HB1 := Lib.hid hb
  clear hb K0 Y q0
  cases nb with
  | false =>
    have R := Lib.hid (D1.out rfl)
    clear D1 D2 D3 D4 D5 D6 D7 D8
    go_wp2_with fail
    go_ret
    exact outI R.out.symm B1.out
  | true =>
  have n0 : ¬ (true = false) := by decide
  by_cases k1 : ak < 1 ∨ 4 < ak
  · have R := Lib.hid (D2.out n0 k1)
    clear D1 D2 D3 D4 D5 D6 D7 D8
    by_cases k2 : ak < 1
    · have d1 := dt k2
      go_wp2_with fail
      go_ret
      exact outI R.out.symm B1.out
    · have d1 := df k2
      have d2 := dt (show 4 < ak by omega)
      go_wp2_with fail
      go_ret
      exact outI R.out.symm B1.out
  have d1 := df (show ¬ ak < 1 by omega)
  have d2 := df (show ¬ 4 < ak by omega)
  have D3 := Lib.hid (D3.out n0 k1)
  have D4 := Lib.hid (D4.out n0 k1)
  have D5 := Lib.hid (D5.out n0 k1)
  have D6 := Lib.hid (D6.out n0 k1)
  clear D1 D2 n0
  by_cases k2 : ak = 2
  · have D7 := Lib.hid (D7.out k2)
    have t2 : (ak == 2) = true := by rw [beq_iff_eq]; exact k2
    have t3 : (ak == 3) = false := beq_false_of_ne (by omega)
    have t4 : (ak != 3) = true := by simp; omega
    have D4 := Lib.hid (fun h => D4.out h (show ak ≠ 3 by omega))
    clear D5 D6 D8 k1 k2
    by_cases b1 : amn < -1099511627776
    · have R := Lib.hid (D3.out (D7.out.2 (Or.inl b1)))
      have d3 := dt b1
      clear D3 D4 D7 b1
      go_wp2_with fail
      go_ret
      exact outI R.out.symm B1.out
    have d3 := df b1
    by_cases b2 : 1099511627776 < amx
    · have R := Lib.hid (D3.out (D7.out.2 (Or.inr (Or.inl b2))))
      have d4 := dt b2
      clear D3 D4 D7 b1 b2
      go_wp2_with fail
      go_ret
      exact outI R.out.symm B1.out
    have d4 := df b2
    by_cases b3 : amx < amn
    · have R := Lib.hid (D3.out (D7.out.2 (Or.inr (Or.inr b3))))
      have d5 := dt b3
      clear D3 D4 D7 b1 b2 b3
      go_wp2_with fail
      go_ret
      exact outI R.out.symm B1.out
    have d5 := df b3
    have R := Lib.hid (D4.out (fun q => by have := D7.out.1 q; omega))
    clear D3 D4 D7 b1 b2 b3
    by_cases l0 : en = []
    · have R := Lib.hid (R.out.trans (if_pos l0))
      have e1 := df (show ¬ 0 < en.length by rw [l0]; simp)
      have e0 : ¬ 0 < en.length := by rw [l0]; simp
      clear l0
      go_wp2_with fail
      go_ret
      exact outI R.out.symm B1.out
    · have R := Lib.hid (R.out.trans (if_neg l0))
      have e1 := dt (List.length_pos_iff.2 l0)
      have e0 := List.length_pos_iff.2 l0
      clear l0
      go_wp2_with fail
      go_ret
      exact outI R.out.symm B1.out
  have t2 : (ak == 2) = false := beq_false_of_ne k2
  have D8 := Lib.hid (D8.out k2)
  clear D7
  by_cases m1 : amn = 0
  · by_cases m2 : amx = 0
    · have f1 : (amn != 0) = false := by simp [m1]
      have f2 : (amx != 0) = false := by simp [m2]
      have NB : ¬ BAD := fun q => by have := D8.out.1 q; omega
      have D4 := Lib.hid (D4.out NB)
      have D5 := Lib.hid (D5.out NB)
      have D6 := Lib.hid (D6.out NB)
      clear D3 D8 NB m1 m2
      by_cases k3 : ak = 3
      · have t3 : (ak == 3) = true := by rw [beq_iff_eq]; exact k3
        have t4 : (ak != 3) = false := by simp [k3]
        have D5 := Lib.hid (D5.out k3)
        have D6 := Lib.hid (D6.out k3)
        clear D4 k1 k2 k3
        by_cases l1 : en.length < 1
        · have R := Lib.hid (D5.out (Or.inl l1))
          have e1 := dt (show (en.length : Int) < 1 by omega)
          clear D5 D6 l1
          go_wp2_with fail
          go_ret
          exact outI R.out.symm B1.out
        have e1 := df (show ¬ (en.length : Int) < 1 by omega)
        by_cases l2 : 64 < en.length
        · have R := Lib.hid (D5.out (Or.inr l2))
          have e2 := dt (show (64 : Int) < (en.length : Int) by omega)
          clear D5 D6 l1 l2
          go_wp2_with fail
          go_ret
          exact outI R.out.symm B1.out
        have e2 := df (show ¬ (64 : Int) < (en.length : Int) by omega)
        have R := Lib.hid (D6.out (by omega))
        have l2 : en.length ≤ 64 := by omega
        clear D5 D6 l1
        go_wp2_with fail
        clear D3 D4 D5 D6 D8 c1 c2 c3 c4 t2 t3 t4 f1 f2 d1 d2 e1 e2 B1
        go_loopw [3] (fun vi wr => ∃ k : Nat, vi = .int .i64 k ∧ k ≤ en.length ∧ Hid (F = enE (en.take k) (en.drop k)) ∧ Below W0.heap.size W0 wr) (fun vi _ => en.length - (intOf vi).toNat)
        case atStart => exact ⟨0, rfl, Nat.zero_le _, Lib.hid (by rw [List.take_zero, List.drop_zero]; exact R.out), HB1.out⟩
        case round =>
          obtain ⟨k, rfl, hk, RK, hb⟩ := hrel
          have Y := HX.out wr hb
          have c4 := blk_cell Y 4 (v := .slice A en.length c) rfl
          have BW := Lib.hid (HW.out wr hb)
          have HL := Lib.hid (HA.out.next hb)
          have HB := Lib.hid hb
          clear R HB1 Y
          by_cases hlt : k < en.length
          · obtain ⟨b, p, rfl, hbw, hc, hsz⟩ := st_cell HL.out k hlt
            have RK := Lib.hid (RK.out.trans (enE_at en k hlt))
            obtain ⟨A1, sl, h1⟩ := sl_to HL.out utT szT k hk
            have el : (en.take k).length = k := by rw [List.length_take]; omega
            have KV := Lib.hid (Names.rvalid_any en[k] wr hsz _ rfl)
            have KQ := Lib.hid (fun (w2 : World) (hb2 : Below wr.heap.size wr w2) (n : Nat) => rmember_q A1 c (en.take k) en[k] (w2.drewN n) (by omega) (h1.next (below_drewN hb2 n)))
            rw [el] at KQ
            have HC := Lib.hid (fun (w2 : World) (hb2 : Below wr.heap.size wr w2) => And.intro (blk_cell (HX.out w2 (HB.out.trans (hb2.mono HB.out.size))) 4 (v := .slice (some ⟨b, p, none⟩) en.length c) rfl) ((hb2.cell (p := ⟨b, p + k, none⟩) hbw).trans hc))
            unfold Names.OutBool at KV
            clear h1 HL el HA HX hb hsz
            generalize nm en[k].data.toList = nb at *
            generalize mem (en.take k) en[k] = mb at *
            generalize en[k] = x at *
            have i1 : (k : Int) < (en.length : Int) := by omega
            have i2 : (0 : Int) ≤ (k : Int) := by omega
            cases nb with
            | false =>
              have R := Lib.hid (RK.out.trans (if_pos rfl))
              clear RK KQ HC
              go_wp2_with fail
              refine KV.out.mono ?_
              rintro _ w2 ⟨rfl, hb2⟩
              have B2 := Lib.hid (BW.out.trans (hb2.mono BW.out.size))
              clear hb2 KV
              go_wp2_with fail
              go_ret
              exact outI R.out.symm B2.out
            | true =>
              have RK := Lib.hid (RK.out.trans (if_neg (by decide)))
              cases mb with
              | true =>
                have R := Lib.hid (RK.out.trans (if_pos rfl))
                clear RK
                go_wp2_with fail
                refine KV.out.mono ?_
                rintro _ w2 ⟨rfl, hb2⟩
                obtain ⟨g4, gc⟩ := HC.out w2 hb2
                have KQ := Lib.hid (KQ.out w2 hb2)
                have B2 := Lib.hid (BW.out.trans (hb2.mono BW.out.size))
                clear hb2 KV HC c4 hc
                go_wp2_with fail
                go_quiet ((go_at_call 44; exact Calls.quiet_of_same (KQ.out _)))
                go_wp2_with fail
                go_ret
                exact outI R.out.symm (below_drewN B2.out _)
              | false =>
                have R := Lib.hid (RK.out.trans (if_neg (by decide)))
                clear RK
                go_wp2_with fail
                refine KV.out.mono ?_
                rintro _ w2 ⟨rfl, hb2⟩
                obtain ⟨g4, gc⟩ := HC.out w2 hb2
                have KQ := Lib.hid (KQ.out w2 hb2)
                have B2 := Lib.hid (HB.out.trans (hb2.mono HB.out.size))
                clear hb2 KV HC c4 hc
                go_wp2_with fail
                go_quiet ((go_at_call 44; exact Calls.quiet_of_same (KQ.out _)))
                go_wp2_with fail
                go_roundw
                case rel => exact ⟨k + 1, by go_num, hlt, R, below_drewN B2.out _⟩
                case measure => first | (simp [intOf]; done) | (simp [intOf]; omega)
          · obtain rfl : k = en.length := by omega
            have R := Lib.hid (show F = 0 by rw [RK.out, List.drop_length]; rfl)
            clear RK HL
            go_wp2_with fail
            go_ret
            exact outI R.out.symm BW.out
      · have t3 : (ak == 3) = false := beq_false_of_ne k3
        have t4 : (ak != 3) = true := by simp [k3]
        have R := Lib.hid (D4.out k3)
        clear D4 D5 D6 k1 k2 k3
        by_cases l0 : en = []
        · have R := Lib.hid (R.out.trans (if_pos l0))
          have e1 := df (show ¬ 0 < en.length by rw [l0]; simp)
          have e0 : ¬ 0 < en.length := by rw [l0]; simp
          clear l0
          go_wp2_with fail
          go_ret
          exact outI R.out.symm B1.out
        · have R := Lib.hid (R.out.trans (if_neg l0))
          have e1 := dt (List.length_pos_iff.2 l0)
          have e0 := List.length_pos_iff.2 l0
          clear l0
          go_wp2_with fail
          go_ret
          exact outI R.out.symm B1.out
    · have R := Lib.hid (D3.out (D8.out.2 (Or.inr m2)))
      have f1 : (amn != 0) = false := by simp [m1]
      have f2 : (amx != 0) = true := by simp [m2]
      clear D3 D4 D5 D6 D8 k1 k2 m1 m2
      go_wp2_with fail
      go_ret
      exact outI R.out.symm B1.out
  · have R := Lib.hid (D3.out (D8.out.2 (Or.inl m1)))
    have f1 : (amn != 0) = true := by simp [m1]
    clear D3 D4 D5 D6 D8 k1 k2 m1
    go_wp2_with fail
    go_ret
    exact outI R.out.symm B1.out
end Go.Proofs.YtagkmfhicpcjnaaDoor.Vlu
/- Layer 20: the reference's Fits, Limit, Zero. -/
set_option linter.unusedVariables false
set_option maxRecDepth 100000
namespace Go.Proofs.YtagkmfhicpcjnaaDoor.Vlu
open Go.RowKit
open Names (nm)

/-- A box of a value written over. -/
def putV (w : World) (b : Nat) (v : Vl) : World := ((w.setCell ⟨b, 0, none⟩ (.int .i64 v.1)).setCell ⟨b, 1, none⟩ (.int .i64 v.2.1)).setCell ⟨b, 2, none⟩ (.string v.2.2)
theorem putV_blk {w : World} {b : Nat} {u : Vl} (h : w.heap[b]? = some (bxV u)) (v : Vl) : (putV w b v).heap[b]? = some (bxV v) := by
  unfold putV
  exact blk_set (blk_set (blk_set h 0 _) 1 _) 2 _
theorem putV_below {w0 w : World} {B b : Nat} (h : Below B w0 w) (hb : B ≤ b) (v : Vl) : Below B w0 (putV w b v) := by
  unfold putV
  exact ((h.setCell (p := ⟨b, 0, none⟩) hb _).setCell (p := ⟨b, 1, none⟩) hb _).setCell (p := ⟨b, 2, none⟩) hb _
/-- A value is handed back. -/
def OutV (w : World) (v : Vl) (e : Ending) (w' : World) : Prop := e = .returned (vlV v) ∧ Below w.heap.size w w'
theorem fits_def {a : At} {v : Vl} (h : dfn a ≠ 0) : fits a v = dfn a := if_pos h
theorem fits_chk {a : At} {v : Vl} (h : dfn a = 0) (h2 : chk v ≠ 0) : fits a v = chk v := by unfold fits; rw [if_neg (fun q => q h), if_pos h2]
theorem fits_type {a : At} {v : Vl} (h : dfn a = 0) (h2 : chk v = 0) (h3 : v.1 ≠ a.k) : fits a v = 11 := by unfold fits; rw [if_neg (fun q => q h), if_neg (fun q => q h2), if_pos h3]
theorem fits_out {a : At} {v : Vl} (h : dfn a = 0) (h2 : chk v = 0) (h3 : v.1 = a.k) (h4 : outr a v) : fits a v = 2 := by unfold fits; rw [if_neg (fun q => q h), if_neg (fun q => q h2), if_neg (fun q => q h3), if_pos h4]
theorem fits_ok {a : At} {v : Vl} (h : dfn a = 0) (h2 : chk v = 0) (h3 : v.1 = a.k) (h4 : ¬ outr a v) : fits a v = 0 := by unfold fits; rw [if_neg (fun q => q h), if_neg (fun q => q h2), if_neg (fun q => q h3), if_neg h4]

set_option maxRecDepth 100000 in
set_option maxHeartbeats 4000000 in
theorem rfits_any (a : At) (A : Option Addr) (c : Nat) (v : Vl) (w : World) (hn : a.n.size ≤ 9223372036854775807) (hl : a.en.length ≤ 9223372036854775807) (hA : StS w A c a.en) (hv : v.2.2.size ≤ 9223372036854775807) :
    Calls Tryd.prog 18 #[atV a A c, vlV v] w (OutI w (fits a v)) := by
  have b0 := alloc_below w (bxA a A c)
  have b1 := alloc_below (w.alloc (bxA a A c)) (bxV v)
  have b01 := b0.trans (b1.mono (by simp))
  have XA := blk_alloc (blk_new w (bxA a A c)) (bxV v)
  have XV := blk_new (w.alloc (bxA a A c)) (bxV v)
  rw [show (w.alloc (bxA a A c)).heap.size = w.heap.size + 1 by simp] at XV
  have hz : w.heap.size + 1 < ((w.alloc (bxA a A c)).alloc (bxV v)).heap.size := by simp
  have hA1 := (hA.next b0).next b1
  have F1 := Lib.hid (fits_def (a := a) (v := v))
  have F2 := Lib.hid (fits_chk (a := a) (v := v))
  have F3 := Lib.hid (fits_type (a := a) (v := v))
  have F4 := Lib.hid (fits_out (a := a) (v := v))
  have F5 := Lib.hid (fits_ok (a := a) (v := v))
  have OU : outr a v ↔ (v.1 = 2 ∧ (v.2.1 < a.mn ∨ a.mx < v.2.1)) ∨ (v.1 = 3 ∧ (a.en.length : Int) ≤ v.2.1) := Iff.rfl
  obtain ⟨W, hW⟩ : ∃ W, (w.alloc (bxA a A c)).alloc (bxV v) = W := ⟨_, rfl⟩
  rw [hW] at XA XV hz hA1 b01
  have KD := Lib.hid (fun (w1 : World) (hb : Below W.heap.size W w1) => rdef_any a A c w1 hn hl (hA1.next hb))
  have KC := Lib.hid (fun (w1 : World) => rcheck_any v w1 hv)
  have HA := Lib.hid (fun (w1 : World) (hb : Below W.heap.size W w1) => And.intro (blk_below XA hb (by omega)) (And.intro (blk_below XV hb (by omega)) (b01.trans (hb.mono b01.size))))
  unfold OutI at KD KC
  have XA := Lib.hid XA
  have XV := Lib.hid XV
  have B0 := Lib.hid b01
  clear b0 b1 b01 hA hA1 hn hz
  generalize fits a v = F at *
  generalize dfn a = d at *
  generalize chk v = cv at *
  generalize outr a v = OUT at *
  obtain ⟨an, ak, amn, amx, en, awr, asf⟩ := a
  obtain ⟨k, n, s⟩ := v
  have hW' : (w.alloc (.cells #[.string an, .int .i64 ak, .int .i64 amn, .int .i64 amx, .slice A en.length c, .bool awr, .bool asf] 24)).alloc (.cells #[.int .i64 k, .int .i64 n, .string s] 26) = W := hW
  dsimp only at hl OU F3 F4 F5 hv
  have OU := Lib.hid OU
  clear hW hv
  have q0 := blk_cell XA.out 0 (v := .string an) rfl
  have q1 := blk_cell XA.out 1 (v := .int .i64 ak) rfl
  have q2 := blk_cell XA.out 2 (v := .int .i64 amn) rfl
  have q3 := blk_cell XA.out 3 (v := .int .i64 amx) rfl
  have q4 := blk_cell XA.out 4 (v := .slice A en.length c) rfl
  have q5 := blk_cell XA.out 5 (v := .bool awr) rfl
  have q6 := blk_cell XA.out 6 (v := .bool asf) rfl
  go_enter Tryd.func18, Tryd.ntmps18
  go_upto_region 1 with fail
  try rw [hW']
  clear hW'
  go_wp2_with fail
  refine (KD.out W (Below.refl _ _)).mono ?_
  rintro _ w1 ⟨rfl, hb1⟩
  clear q0 q1 q2 q3 q4 q5 q6
  obtain ⟨Y1, Z1, B1⟩ := HA.out w1 hb1
  by_cases hd : d = 0
  · have t1 : (d != 0) = false := by simp [hd]
    have F2 := Lib.hid (fun h => F2.out hd h)
    have F3 := Lib.hid (fun h h2 => F3.out hd h h2)
    have F4 := Lib.hid (fun h h2 h3 => F4.out hd h h2 h3)
    have F5 := Lib.hid (fun h h2 h3 => F5.out hd h h2 h3)
    clear F1 hd
    have v0 := blk_cell Z1 0 (v := .int .i64 k) rfl
    have v1 := blk_cell Z1 1 (v := .int .i64 n) rfl
    have v2 := blk_cell Z1 2 (v := .string s) rfl
    have HB1 := Lib.hid hb1
    clear Y1 Z1 B1 hb1 XA XV B0
    go_wp2_with fail
    refine (KC.out w1).mono ?_
    rintro _ w2 ⟨rfl, hb2⟩
    have hb2 := HB1.out.trans (hb2.mono HB1.out.size)
    obtain ⟨Y2, Z2, B2⟩ := HA.out w2 hb2
    have B2 := Lib.hid B2
    by_cases hc : cv = 0
    · have t2 : (cv != 0) = false := by simp [hc]
      have F3 := Lib.hid (fun h => F3.out hc h)
      have F4 := Lib.hid (fun h h2 => F4.out hc h h2)
      have F5 := Lib.hid (fun h h2 => F5.out hc h h2)
      clear F2 hc hb2
      have u0 := blk_cell Z2 0 (v := .int .i64 k) rfl
      have u1 := blk_cell Z2 1 (v := .int .i64 n) rfl
      have u2 := blk_cell Z2 2 (v := .string s) rfl
      have p0 := blk_cell Y2 0 (v := .string an) rfl
      have p1 := blk_cell Y2 1 (v := .int .i64 ak) rfl
      have p2 := blk_cell Y2 2 (v := .int .i64 amn) rfl
      have p3 := blk_cell Y2 3 (v := .int .i64 amx) rfl
      have p4 := blk_cell Y2 4 (v := .slice A en.length c) rfl
      have p5 := blk_cell Y2 5 (v := .bool awr) rfl
      have p6 := blk_cell Y2 6 (v := .bool asf) rfl
      clear Y2 Z2 v0 v1 v2 HA KC KD
      by_cases hk : k = ak
      · subst hk
        have t3 : (k != k) = false := by simp
        have F4 := Lib.hid (fun h => F4.out rfl h)
        have F5 := Lib.hid (fun h => F5.out rfl h)
        clear F3
        by_cases k2 : k = 2
        · have t4 : (k == 2) = true := by rw [beq_iff_eq]; exact k2
          have t5 : (k == 3) = false := beq_false_of_ne (by omega)
          by_cases m1 : n < amn
          · have d1 := dt m1
            have R := Lib.hid (F4.out (OU.out.2 (Or.inl ⟨k2, Or.inl m1⟩)))
            clear F4 F5 OU k2 m1
            go_wp2_with fail
            go_ret
            exact outI R.out.symm B2.out
          · have d1 := df m1
            by_cases m2 : amx < n
            · have d2 := dt m2
              have R := Lib.hid (F4.out (OU.out.2 (Or.inl ⟨k2, Or.inr m2⟩)))
              clear F4 F5 OU k2 m1 m2
              go_wp2_with fail
              go_ret
              exact outI R.out.symm B2.out
            · have d2 := df m2
              have R := Lib.hid (F5.out (fun q => by have := OU.out.1 q; omega))
              clear F4 F5 OU k2 m1 m2
              go_wp2_with fail
              go_ret
              exact outI R.out.symm B2.out
        · have t4 : (k == 2) = false := beq_false_of_ne k2
          by_cases k3 : k = 3
          · have t5 : (k == 3) = true := by rw [beq_iff_eq]; exact k3
            by_cases m1 : (en.length : Int) ≤ n
            · have d1 := dt m1
              have R := Lib.hid (F4.out (OU.out.2 (Or.inr ⟨k3, m1⟩)))
              clear F4 F5 OU k2 k3 m1
              go_wp2_with fail
              go_ret
              exact outI R.out.symm B2.out
            · have d1 := df m1
              have R := Lib.hid (F5.out (fun q => by have := OU.out.1 q; omega))
              clear F4 F5 OU k2 k3 m1
              go_wp2_with fail
              go_ret
              exact outI R.out.symm B2.out
          · have t5 : (k == 3) = false := beq_false_of_ne k3
            have R := Lib.hid (F5.out (fun q => by have := OU.out.1 q; omega))
            clear F4 F5 OU k2 k3
            go_wp2_with fail
            go_ret
            exact outI R.out.symm B2.out
      · have t3 : (k != ak) = true := by simp [hk]
        have R := Lib.hid (F3.out hk)
        clear F3 F4 F5 hk OU
        go_wp2_with fail
        go_ret
        exact outI R.out.symm B2.out
    · have t2 : (cv != 0) = true := by simp [hc]
      have R := Lib.hid (F2.out hc)
      have u0 := blk_cell Z2 0 (v := .int .i64 k) rfl
      have u1 := blk_cell Z2 1 (v := .int .i64 n) rfl
      have u2 := blk_cell Z2 2 (v := .string s) rfl
      clear F2 F3 F4 F5 hc Y2 Z2 v0 v1 v2 HA hb2
      go_wp2_with fail
      refine (KC.out w2).mono ?_
      rintro _ w3 ⟨rfl, hb3⟩
      have B3 := Lib.hid (B2.out.trans (hb3.mono B2.out.size))
      clear hb3
      go_wp2_with fail
      go_ret
      exact outI R.out.symm B3.out
  · have t1 : (d != 0) = true := by simp [hd]
    have R := Lib.hid (F1.out hd)
    have p0 := blk_cell Y1 0 (v := .string an) rfl
    have p1 := blk_cell Y1 1 (v := .int .i64 ak) rfl
    have p2 := blk_cell Y1 2 (v := .int .i64 amn) rfl
    have p3 := blk_cell Y1 3 (v := .int .i64 amx) rfl
    have p4 := blk_cell Y1 4 (v := .slice A en.length c) rfl
    have p5 := blk_cell Y1 5 (v := .bool awr) rfl
    have p6 := blk_cell Y1 6 (v := .bool asf) rfl
    have HB1 := Lib.hid hb1
    have B1 := Lib.hid B1
    clear F1 F2 F3 F4 F5 hd Y1 Z1 hb1 XA XV B0 HA KC
    go_wp2_with fail
    refine (KD.out w1 HB1.out).mono ?_
    rintro _ w2 ⟨rfl, hb2⟩
    have B2 := Lib.hid (B1.out.trans (hb2.mono B1.out.size))
    clear hb2
    go_wp2_with fail
    go_ret
    exact outI R.out.symm B2.out
end Go.Proofs.YtagkmfhicpcjnaaDoor.Vlu
/- Layer 20: the reference's Limit, Zero. -/
set_option linter.unusedVariables false
set_option maxRecDepth 100000
namespace Go.Proofs.YtagkmfhicpcjnaaDoor.Vlu
open Go.RowKit
open Names (nm)

theorem lmt_not {a : At} {v : Vl} (h : dfn a ≠ 0 ∨ a.k ≠ 2 ∨ v.1 ≠ 2) : lmt a v = v := if_pos h
theorem clp_lo {n a b : Int} (h : n < a) (h2 : ¬ b < a) : clp n a b = a := by unfold clp; rw [if_pos h, if_neg h2]
theorem clp_hi {n a b : Int} (h : ¬ n < a) (h2 : b < n) : clp n a b = b := by unfold clp; rw [if_neg h, if_pos h2]
theorem clp_id {n a b : Int} (h : ¬ n < a) (h2 : ¬ b < n) : clp n a b = n := by unfold clp; rw [if_neg h, if_neg h2]
set_option maxRecDepth 100000 in
set_option maxHeartbeats 4000000 in
theorem rlmt_any (a : At) (A : Option Addr) (c : Nat) (v : Vl) (w : World) (hn : a.n.size ≤ 9223372036854775807) (hl : a.en.length ≤ 9223372036854775807) (hA : StS w A c a.en) :
    Calls Tryd.prog 22 #[atV a A c, vlV v] w (OutV w (lmt a v)) := by
  have b0 := alloc_below w (bxA a A c)
  have b1 := alloc_below (w.alloc (bxA a A c)) (bxV v)
  have b2 := alloc_below ((w.alloc (bxA a A c)).alloc (bxV v)) (bxV z0)
  have b01 := (b0.trans (b1.mono (by simp))).trans (b2.mono (by simp; omega))
  have XA := blk_alloc (blk_alloc (blk_new w (bxA a A c)) (bxV v)) (bxV z0)
  have XV := blk_alloc (blk_new (w.alloc (bxA a A c)) (bxV v)) (bxV z0)
  have XZ := blk_new ((w.alloc (bxA a A c)).alloc (bxV v)) (bxV z0)
  rw [show (w.alloc (bxA a A c)).heap.size = w.heap.size + 1 by simp] at XV
  rw [show ((w.alloc (bxA a A c)).alloc (bxV v)).heap.size = w.heap.size + 2 by simp] at XZ
  have hz : w.heap.size + 2 < (((w.alloc (bxA a A c)).alloc (bxV v)).alloc (bxV z0)).heap.size := by simp
  have hA1 := ((hA.next b0).next b1).next b2
  have L1 := Lib.hid (lmt_not (a := a) (v := v))
  have L2 := Lib.hid (lmt_int (a := a) (v := v))
  have DI := Lib.hid (dfn_int (a := a))
  obtain ⟨W, hW⟩ : ∃ W, ((w.alloc (bxA a A c)).alloc (bxV v)).alloc (bxV z0) = W := ⟨_, rfl⟩
  rw [hW] at XA XV XZ hz hA1 b01
  have KD := Lib.hid (rdef_any a A c W hn hl hA1)
  have HA := Lib.hid (fun (w1 : World) (hb : Below W.heap.size W w1) => And.intro (blk_below XA hb (by omega)) (And.intro (blk_below XV hb (by omega)) (And.intro (blk_below XZ hb (by omega)) (b01.trans (hb.mono b01.size)))))
  unfold OutI at KD
  have XA := Lib.hid XA
  clear b0 b1 b2 b01 hA hA1 hn hz XV XZ hl
  generalize lmt a v = F at *
  generalize dfn a = d at *
  obtain ⟨an, ak, amn, amx, en, awr, asf⟩ := a
  obtain ⟨k, n, s⟩ := v
  have hW' : ((w.alloc (.cells #[.string an, .int .i64 ak, .int .i64 amn, .int .i64 amx, .slice A en.length c, .bool awr, .bool asf] 24)).alloc (.cells #[.int .i64 k, .int .i64 n, .string s] 26)).alloc (.cells #[.int .i64 0, .int .i64 0, .string { data := #[] }] 26) = W := hW
  dsimp only at L1 L2 DI
  have q0 := blk_cell XA.out 0 (v := .string an) rfl
  have q1 := blk_cell XA.out 1 (v := .int .i64 ak) rfl
  have q2 := blk_cell XA.out 2 (v := .int .i64 amn) rfl
  have q3 := blk_cell XA.out 3 (v := .int .i64 amx) rfl
  have q4 := blk_cell XA.out 4 (v := .slice A en.length c) rfl
  have q5 := blk_cell XA.out 5 (v := .bool awr) rfl
  have q6 := blk_cell XA.out 6 (v := .bool asf) rfl
  clear hW
  go_enter Tryd.func22, Tryd.ntmps22
  go_upto_region 1 with fail
  try rw [hW']
  clear hW'
  go_wp2_with fail
  refine KD.out.mono ?_
  rintro _ W1 ⟨rfl, hb1⟩
  clear q0 q1 q2 q3 q4 q5 q6
  obtain ⟨Y, Z, U, B⟩ := HA.out W1 hb1
  have B := Lib.hid B
  have Y := Lib.hid Y
  have Z := Lib.hid Z
  have U := Lib.hid U
  clear HA hb1 KD XA
  by_cases hd : d = 0
  · have t1 : (d != 0) = false := by simp [hd]
    by_cases hk : ak = 2
    · have t2 : (ak != 2) = false := by simp [hk]
      by_cases hv : k = 2
      · have t3 : (k != 2) = false := by simp [hv]
        have L2 := Lib.hid (L2.out hd hk hv)
        obtain ⟨_, m0, _⟩ := DI.out hd hk
        clear L1 DI hd hk hv
        by_cases m1 : n < amn
        · have R := Lib.hid (L2.out.trans (by rw [clp_lo m1 (show ¬ amx < amn by omega)]))
          have d1 := dt m1
          have d2 := df (show ¬ amx < amn by omega)
          clear L2 m1 m0
          have p0 := blk_cell Y.out 0 (v := .string an) rfl
          have p1 := blk_cell Y.out 1 (v := .int .i64 ak) rfl
          have p2 := blk_cell Y.out 2 (v := .int .i64 amn) rfl
          have p3 := blk_cell Y.out 3 (v := .int .i64 amx) rfl
          have p4 := blk_cell Y.out 4 (v := .slice A en.length c) rfl
          have p5 := blk_cell Y.out 5 (v := .bool awr) rfl
          have p6 := blk_cell Y.out 6 (v := .bool asf) rfl
          have v0 := blk_cell Z.out 0 (v := .int .i64 k) rfl
          have v1 := blk_cell Z.out 1 (v := .int .i64 n) rfl
          have v2 := blk_cell Z.out 2 (v := .string s) rfl
          have g0 := blk_fr Z.out 0
          have g1 := blk_fr Z.out 1
          have g2 := blk_fr Z.out 2
          have Z2 := Lib.hid (blk_set Z.out 1 (.int .i64 amn))
          have U2 := Lib.hid (blk_other U.out (show w.heap.size + 2 ≠ w.heap.size + 1 by omega) (.int .i64 amn) (a := ⟨w.heap.size + 1, 1, none⟩))
          have B2 := Lib.hid (B.out.setCell (p := ⟨w.heap.size + 1, 1, none⟩) (by dsimp only; omega) (.int .i64 amn))
          have Y2 := Lib.hid (blk_other Y.out (show w.heap.size ≠ w.heap.size + 1 by omega) (.int .i64 amn) (a := ⟨w.heap.size + 1, 1, none⟩))
          go_upto_region 5 with fail
          obtain ⟨W2, hW2⟩ : ∃ W2, W1.setCell ⟨w.heap.size + 1, 1, none⟩ (.int .i64 amn) = W2 := ⟨_, rfl⟩
          rw [hW2] at Z2 U2 B2 Y2 ⊢
          clear hW2 p0 p1 p2 p3 p4 p5 p6 v0 v1 v2 g0 g1 g2 Y Z U B
          have y3 := blk_cell Y2.out 3 (v := .int .i64 amx) rfl
          have r0 := blk_cell Z2.out 0 (v := .int .i64 k) rfl
          have r1 := blk_cell Z2.out 1 (v := .int .i64 amn) rfl
          have r2 := blk_cell Z2.out 2 (v := .string s) rfl
          obtain ⟨V, hV⟩ : ∃ V, V = putV W2 (w.heap.size + 2) (k, amn, s) := ⟨_, rfl⟩
          have RV := Lib.hid (show V.heap[w.heap.size + 2]? = some (bxV (k, amn, s)) by rw [hV]; exact putV_blk U2.out _)
          have BV := Lib.hid (show Below w.heap.size w V by rw [hV]; exact putV_below B2.out (by omega) _)
          have z0 := blk_cell U2.out 0 (v := .int .i64 0) rfl
          have z1 := blk_cell U2.out 1 (v := .int .i64 0) rfl
          have z2 := blk_cell U2.out 2 (v := .string { data := #[] }) rfl
          have f0 := blk_fr U2.out 0
          have f1 := blk_fr U2.out 1
          have f2 := blk_fr U2.out 2
          unfold putV at hV
          dsimp only at hV
          go_wp2_with fail
          rw [← hV]
          have t0 := blk_cell RV.out 0 (v := .int .i64 k) rfl
          have t1 := blk_cell RV.out 1 (v := .int .i64 amn) rfl
          have t2 := blk_cell RV.out 2 (v := .string s) rfl
          refine bodyPost_ret (v := .agg #[.int .i64 k, .int .i64 amn, .string s]) (by simp [results, Tryd.results22, go_sem, t0, t1, t2]) rfl ⟨?_, BV.out⟩
          rw [R.out]
        · have d1 := df m1
          by_cases m2 : amx < n
          · have R := Lib.hid (L2.out.trans (by rw [clp_hi m1 m2]))
            have d2 := dt m2
            clear L2 m1 m2 m0
            have p0 := blk_cell Y.out 0 (v := .string an) rfl
            have p1 := blk_cell Y.out 1 (v := .int .i64 ak) rfl
            have p2 := blk_cell Y.out 2 (v := .int .i64 amn) rfl
            have p3 := blk_cell Y.out 3 (v := .int .i64 amx) rfl
            have p4 := blk_cell Y.out 4 (v := .slice A en.length c) rfl
            have p5 := blk_cell Y.out 5 (v := .bool awr) rfl
            have p6 := blk_cell Y.out 6 (v := .bool asf) rfl
            have v0 := blk_cell Z.out 0 (v := .int .i64 k) rfl
            have v1 := blk_cell Z.out 1 (v := .int .i64 n) rfl
            have v2 := blk_cell Z.out 2 (v := .string s) rfl
            have g0 := blk_fr Z.out 0
            have g1 := blk_fr Z.out 1
            have g2 := blk_fr Z.out 2
            have Z2 := Lib.hid (blk_set Z.out 1 (.int .i64 amx))
            have U2 := Lib.hid (blk_other U.out (show w.heap.size + 2 ≠ w.heap.size + 1 by omega) (.int .i64 amx) (a := ⟨w.heap.size + 1, 1, none⟩))
            have B2 := Lib.hid (B.out.setCell (p := ⟨w.heap.size + 1, 1, none⟩) (by dsimp only; omega) (.int .i64 amx))
            have Y2 := Lib.hid (blk_other Y.out (show w.heap.size ≠ w.heap.size + 1 by omega) (.int .i64 amx) (a := ⟨w.heap.size + 1, 1, none⟩))
            go_upto_region 7 with fail
            obtain ⟨W2, hW2⟩ : ∃ W2, W1.setCell ⟨w.heap.size + 1, 1, none⟩ (.int .i64 amx) = W2 := ⟨_, rfl⟩
            rw [hW2] at Z2 U2 B2 Y2 ⊢
            clear hW2 p0 p1 p2 p3 p4 p5 p6 v0 v1 v2 g0 g1 g2 Y Z U B
            have r0 := blk_cell Z2.out 0 (v := .int .i64 k) rfl
            have r1 := blk_cell Z2.out 1 (v := .int .i64 amx) rfl
            have r2 := blk_cell Z2.out 2 (v := .string s) rfl
            obtain ⟨V, hV⟩ : ∃ V, V = putV W2 (w.heap.size + 2) (k, amx, s) := ⟨_, rfl⟩
            have RV := Lib.hid (show V.heap[w.heap.size + 2]? = some (bxV (k, amx, s)) by rw [hV]; exact putV_blk U2.out _)
            have BV := Lib.hid (show Below w.heap.size w V by rw [hV]; exact putV_below B2.out (by omega) _)
            have z0 := blk_cell U2.out 0 (v := .int .i64 0) rfl
            have z1 := blk_cell U2.out 1 (v := .int .i64 0) rfl
            have z2 := blk_cell U2.out 2 (v := .string { data := #[] }) rfl
            have f0 := blk_fr U2.out 0
            have f1 := blk_fr U2.out 1
            have f2 := blk_fr U2.out 2
            unfold putV at hV
            dsimp only at hV
            go_wp2_with fail
            rw [← hV]
            have t0 := blk_cell RV.out 0 (v := .int .i64 k) rfl
            have t1 := blk_cell RV.out 1 (v := .int .i64 amx) rfl
            have t2 := blk_cell RV.out 2 (v := .string s) rfl
            refine bodyPost_ret (v := .agg #[.int .i64 k, .int .i64 amx, .string s]) (by simp [results, Tryd.results22, go_sem, t0, t1, t2]) rfl ⟨?_, BV.out⟩
            rw [R.out]
          · have R := Lib.hid (L2.out.trans (by rw [clp_id m1 m2]))
            have d2 := df m2
            clear L2 m1 m2 m0
            have p0 := blk_cell Y.out 0 (v := .string an) rfl
            have p1 := blk_cell Y.out 1 (v := .int .i64 ak) rfl
            have p2 := blk_cell Y.out 2 (v := .int .i64 amn) rfl
            have p3 := blk_cell Y.out 3 (v := .int .i64 amx) rfl
            have p4 := blk_cell Y.out 4 (v := .slice A en.length c) rfl
            have p5 := blk_cell Y.out 5 (v := .bool awr) rfl
            have p6 := blk_cell Y.out 6 (v := .bool asf) rfl
            have v0 := blk_cell Z.out 0 (v := .int .i64 k) rfl
            have v1 := blk_cell Z.out 1 (v := .int .i64 n) rfl
            have v2 := blk_cell Z.out 2 (v := .string s) rfl
            have r0 := blk_cell Z.out 0 (v := .int .i64 k) rfl
            have r1 := blk_cell Z.out 1 (v := .int .i64 n) rfl
            have r2 := blk_cell Z.out 2 (v := .string s) rfl
            obtain ⟨V, hV⟩ : ∃ V, V = putV W1 (w.heap.size + 2) (k, n, s) := ⟨_, rfl⟩
            have RV := Lib.hid (show V.heap[w.heap.size + 2]? = some (bxV (k, n, s)) by rw [hV]; exact putV_blk U.out _)
            have BV := Lib.hid (show Below w.heap.size w V by rw [hV]; exact putV_below B.out (by omega) _)
            have z0 := blk_cell U.out 0 (v := .int .i64 0) rfl
            have z1 := blk_cell U.out 1 (v := .int .i64 0) rfl
            have z2 := blk_cell U.out 2 (v := .string { data := #[] }) rfl
            have f0 := blk_fr U.out 0
            have f1 := blk_fr U.out 1
            have f2 := blk_fr U.out 2
            unfold putV at hV
            dsimp only at hV
            go_wp2_with fail
            rw [← hV]
            have t0 := blk_cell RV.out 0 (v := .int .i64 k) rfl
            have t1 := blk_cell RV.out 1 (v := .int .i64 n) rfl
            have t2 := blk_cell RV.out 2 (v := .string s) rfl
            refine bodyPost_ret (v := .agg #[.int .i64 k, .int .i64 n, .string s]) (by simp [results, Tryd.results22, go_sem, t0, t1, t2]) rfl ⟨?_, BV.out⟩
            rw [R.out]
      · have t3 : (k != 2) = true := by simp [hv]
        have R := Lib.hid (L1.out (Or.inr (Or.inr hv)))
        clear L1 L2 DI hd hk hv
        have p0 := blk_cell Y.out 0 (v := .string an) rfl
        have p1 := blk_cell Y.out 1 (v := .int .i64 ak) rfl
        have p2 := blk_cell Y.out 2 (v := .int .i64 amn) rfl
        have p3 := blk_cell Y.out 3 (v := .int .i64 amx) rfl
        have p4 := blk_cell Y.out 4 (v := .slice A en.length c) rfl
        have p5 := blk_cell Y.out 5 (v := .bool awr) rfl
        have p6 := blk_cell Y.out 6 (v := .bool asf) rfl
        have v0 := blk_cell Z.out 0 (v := .int .i64 k) rfl
        have v1 := blk_cell Z.out 1 (v := .int .i64 n) rfl
        have v2 := blk_cell Z.out 2 (v := .string s) rfl
        have r0 := blk_cell Z.out 0 (v := .int .i64 k) rfl
        have r1 := blk_cell Z.out 1 (v := .int .i64 n) rfl
        have r2 := blk_cell Z.out 2 (v := .string s) rfl
        obtain ⟨V, hV⟩ : ∃ V, V = putV W1 (w.heap.size + 2) (k, n, s) := ⟨_, rfl⟩
        have RV := Lib.hid (show V.heap[w.heap.size + 2]? = some (bxV (k, n, s)) by rw [hV]; exact putV_blk U.out _)
        have BV := Lib.hid (show Below w.heap.size w V by rw [hV]; exact putV_below B.out (by omega) _)
        have z0 := blk_cell U.out 0 (v := .int .i64 0) rfl
        have z1 := blk_cell U.out 1 (v := .int .i64 0) rfl
        have z2 := blk_cell U.out 2 (v := .string { data := #[] }) rfl
        have f0 := blk_fr U.out 0
        have f1 := blk_fr U.out 1
        have f2 := blk_fr U.out 2
        unfold putV at hV
        dsimp only at hV
        go_wp2_with fail
        rw [← hV]
        have t0 := blk_cell RV.out 0 (v := .int .i64 k) rfl
        have t1 := blk_cell RV.out 1 (v := .int .i64 n) rfl
        have t2 := blk_cell RV.out 2 (v := .string s) rfl
        refine bodyPost_ret (v := .agg #[.int .i64 k, .int .i64 n, .string s]) (by simp [results, Tryd.results22, go_sem, t0, t1, t2]) rfl ⟨?_, BV.out⟩
        rw [R.out]
    · have t2 : (ak != 2) = true := by simp [hk]
      have R := Lib.hid (L1.out (Or.inr (Or.inl hk)))
      clear L1 L2 DI hd hk
      have p0 := blk_cell Y.out 0 (v := .string an) rfl
      have p1 := blk_cell Y.out 1 (v := .int .i64 ak) rfl
      have p2 := blk_cell Y.out 2 (v := .int .i64 amn) rfl
      have p3 := blk_cell Y.out 3 (v := .int .i64 amx) rfl
      have p4 := blk_cell Y.out 4 (v := .slice A en.length c) rfl
      have p5 := blk_cell Y.out 5 (v := .bool awr) rfl
      have p6 := blk_cell Y.out 6 (v := .bool asf) rfl
      have v0 := blk_cell Z.out 0 (v := .int .i64 k) rfl
      have v1 := blk_cell Z.out 1 (v := .int .i64 n) rfl
      have v2 := blk_cell Z.out 2 (v := .string s) rfl
      have r0 := blk_cell Z.out 0 (v := .int .i64 k) rfl
      have r1 := blk_cell Z.out 1 (v := .int .i64 n) rfl
      have r2 := blk_cell Z.out 2 (v := .string s) rfl
      obtain ⟨V, hV⟩ : ∃ V, V = putV W1 (w.heap.size + 2) (k, n, s) := ⟨_, rfl⟩
      have RV := Lib.hid (show V.heap[w.heap.size + 2]? = some (bxV (k, n, s)) by rw [hV]; exact putV_blk U.out _)
      have BV := Lib.hid (show Below w.heap.size w V by rw [hV]; exact putV_below B.out (by omega) _)
      have z0 := blk_cell U.out 0 (v := .int .i64 0) rfl
      have z1 := blk_cell U.out 1 (v := .int .i64 0) rfl
      have z2 := blk_cell U.out 2 (v := .string { data := #[] }) rfl
      have f0 := blk_fr U.out 0
      have f1 := blk_fr U.out 1
      have f2 := blk_fr U.out 2
      unfold putV at hV
      dsimp only at hV
      go_wp2_with fail
      rw [← hV]
      have t0 := blk_cell RV.out 0 (v := .int .i64 k) rfl
      have t1 := blk_cell RV.out 1 (v := .int .i64 n) rfl
      have t2 := blk_cell RV.out 2 (v := .string s) rfl
      refine bodyPost_ret (v := .agg #[.int .i64 k, .int .i64 n, .string s]) (by simp [results, Tryd.results22, go_sem, t0, t1, t2]) rfl ⟨?_, BV.out⟩
      rw [R.out]
  · have t1 : (d != 0) = true := by simp [hd]
    have R := Lib.hid (L1.out (Or.inl hd))
    clear L1 L2 DI hd
    have p0 := blk_cell Y.out 0 (v := .string an) rfl
    have p1 := blk_cell Y.out 1 (v := .int .i64 ak) rfl
    have p2 := blk_cell Y.out 2 (v := .int .i64 amn) rfl
    have p3 := blk_cell Y.out 3 (v := .int .i64 amx) rfl
    have p4 := blk_cell Y.out 4 (v := .slice A en.length c) rfl
    have p5 := blk_cell Y.out 5 (v := .bool awr) rfl
    have p6 := blk_cell Y.out 6 (v := .bool asf) rfl
    have v0 := blk_cell Z.out 0 (v := .int .i64 k) rfl
    have v1 := blk_cell Z.out 1 (v := .int .i64 n) rfl
    have v2 := blk_cell Z.out 2 (v := .string s) rfl
    have r0 := blk_cell Z.out 0 (v := .int .i64 k) rfl
    have r1 := blk_cell Z.out 1 (v := .int .i64 n) rfl
    have r2 := blk_cell Z.out 2 (v := .string s) rfl
    obtain ⟨V, hV⟩ : ∃ V, V = putV W1 (w.heap.size + 2) (k, n, s) := ⟨_, rfl⟩
    have RV := Lib.hid (show V.heap[w.heap.size + 2]? = some (bxV (k, n, s)) by rw [hV]; exact putV_blk U.out _)
    have BV := Lib.hid (show Below w.heap.size w V by rw [hV]; exact putV_below B.out (by omega) _)
    have z0 := blk_cell U.out 0 (v := .int .i64 0) rfl
    have z1 := blk_cell U.out 1 (v := .int .i64 0) rfl
    have z2 := blk_cell U.out 2 (v := .string { data := #[] }) rfl
    have f0 := blk_fr U.out 0
    have f1 := blk_fr U.out 1
    have f2 := blk_fr U.out 2
    unfold putV at hV
    dsimp only at hV
    go_wp2_with fail
    rw [← hV]
    have t0 := blk_cell RV.out 0 (v := .int .i64 k) rfl
    have t1 := blk_cell RV.out 1 (v := .int .i64 n) rfl
    have t2 := blk_cell RV.out 2 (v := .string s) rfl
    refine bodyPost_ret (v := .agg #[.int .i64 k, .int .i64 n, .string s]) (by simp [results, Tryd.results22, go_sem, t0, t1, t2]) rfl ⟨?_, BV.out⟩
    rw [R.out]
end Go.Proofs.YtagkmfhicpcjnaaDoor.Vlu
/- Contracts of the reference's Reader: lengths, strings, booleans. -/
set_option linter.unusedVariables false
set_option maxRecDepth 100000
namespace Go.Proofs.YtagkmfhicpcjnaaDoor.Wire
open Go.RowKit

theorem fcount_eq (most : Int) (s : ByteArray) : fCount most s = if (fInt s).2.2 ≠ 0 then (0, (fInt s).2.1, (fInt s).2.2) else if (fInt s).1 < 0 then (0, (fInt s).2.1, 4) else if max most 0 < (fInt s).1 then (0, (fInt s).2.1, 3) else ((fInt s).1, (fInt s).2.1, 0) := rfl
theorem sub_size (S : ByteArray) (a : Nat) (h : a ≤ S.size) : (S.extract a S.size).size = S.size - a := by simp

theorem rcount_dead (c : Nat) (S : ByteArray) (a : Nat) (e m : Int) (w : World) (h : RB w c S a e) (he : e ≠ 0) :
    Calls Tryd.prog 94 #[pt c, .int .i64 m] w fun r w' => r = .returned (.int .i64 0) ∧ w = w' := by
  have H := Lib.hid h
  have HE := Lib.hid he
  have he' : (e != 0) = true := by simpa using he
  clear h he
  go_enter Tryd.func94, Tryd.ntmps94
  go_wp2_with fail
  refine (rint_dead c S a e _ H.out HE.out).mono ?_
  rintro r w' ⟨rfl, rfl⟩
  go_wp2_with fail
  all_goals
    refine (rerr_any c S a e _ H.out).mono ?_
    rintro r w' ⟨rfl, rfl⟩
    go_wp2_with fail
    go_ret
    exact ⟨rfl, rfl⟩

set_option maxHeartbeats 1000000 in
theorem rcount_live (c : Nat) (S : ByteArray) (a : Nat) (m : Int) (w : World) (hs : S.size ≤ 100000) (ha : a ≤ S.size) (h : RB w c S a 0) :
    Calls Tryd.prog 94 #[pt c, .int .i64 m] w (OutR c S w (.int .i64 (fCount m (S.extract a S.size)).1) (fCount m (S.extract a S.size)).2.1 (fCount m (S.extract a S.size)).2.2) := by
  have L := Lib.hid (rint_live c S a w hs ha h)
  have F := Lib.hid (fcount_eq m (S.extract a S.size))
  have hsz := sub_size S a ha
  have B := Lib.hid (fInt_bad (S.extract a S.size) (by omega))
  clear h hsz
  rcases hr : fInt (S.extract a S.size) with ⟨v, t, e⟩
  rw [hr] at L F B
  clear hr
  by_cases he : e = 0
  · subst he
    by_cases h1 : v < 0
    · have E := Lib.hid (show fCount m (S.extract a S.size) = (0, t, 4) by rw [F.out]; simp [h1])
      go_enter Tryd.func94, Tryd.ntmps94
      go_wp2_with fail
      refine L.out.mono ?_
      rintro r w1 ⟨rfl, ⟨a1, ha1, hrb, hre⟩, hg⟩
      have R := Lib.hid hrb
      have G := Lib.hid hg
      have h2 := hrb.c2
      have hf := hrb.fr 2
      clear hrb hg hre
      go_wp2_with fail
      all_goals
        refine (rerr_any c S a1 0 _ R.out).mono ?_
        rintro r w' ⟨rfl, rfl⟩
        go_wp2_with fail
        go_ret
        rw [E.out]
        exact ⟨rfl, ⟨a1, ha1, R.out.set2 4, fun h => by cases h⟩, gb_trans G.out (gb_set _ _ _ _)⟩
    · by_cases h2 : max m 0 < v
      · have E := Lib.hid (show fCount m (S.extract a S.size) = (0, t, 3) by rw [F.out]; simp [h1, h2])
        have h3 : m < v := by omega
        have h4 : 0 < v := by omega
        clear h2
        go_enter Tryd.func94, Tryd.ntmps94
        go_wp2_with fail
        refine L.out.mono ?_
        rintro r w1 ⟨rfl, ⟨a1, ha1, hrb, hre⟩, hg⟩
        have R := Lib.hid hrb
        have G := Lib.hid hg
        have h2 := hrb.c2
        have hf := hrb.fr 2
        clear hrb hg hre
        go_wp2_with fail
        all_goals
          refine (rerr_any c S a1 0 _ R.out).mono ?_
          rintro r w' ⟨rfl, rfl⟩
          go_wp2_with fail
          go_ret
          rw [E.out]
          exact ⟨rfl, ⟨a1, ha1, R.out.set2 3, fun h => by cases h⟩, gb_trans G.out (gb_set _ _ _ _)⟩
      · have E := Lib.hid (show fCount m (S.extract a S.size) = (v, t, 0) by rw [F.out]; simp [h1, h2])
        have h3 : m < 0 → v = 0 := by omega
        have h4 : 0 ≤ m → v ≤ m := by omega
        go_enter Tryd.func94, Tryd.ntmps94
        go_wp2_with fail
        refine L.out.mono ?_
        rintro r w1 ⟨rfl, ⟨a1, ha1, hrb, hre⟩, hg⟩
        have R := Lib.hid hrb
        have G := Lib.hid hg
        have X := Lib.hid hre
        clear hrb hg hre
        by_cases hm : m < 0
        · obtain rfl := h3 hm
          clear h3 h4 h2
          go_wp2_with fail
          refine (rerr_any c S a1 0 _ R.out).mono ?_
          rintro r w' ⟨rfl, rfl⟩
          go_wp2_with fail
          go_ret
          rw [E.out]
          exact ⟨rfl, ⟨a1, ha1, R.out, fun _ => X.out trivial⟩, G.out⟩
        · have h5 := h4 (by omega)
          clear h3 h4 h2
          go_wp2_with fail
          refine (rerr_any c S a1 0 _ R.out).mono ?_
          rintro r w' ⟨rfl, rfl⟩
          go_wp2_with fail
          go_ret
          rw [E.out]
          exact ⟨rfl, ⟨a1, ha1, R.out, fun _ => X.out trivial⟩, G.out⟩
  · have E := Lib.hid (show fCount m (S.extract a S.size) = (0, t, e) by rw [F.out]; simp [he])
    obtain rfl : v = 0 := B.out he
    have he' : (e != 0) = true := by simpa using he
    have HE := Lib.hid he
    clear he
    go_enter Tryd.func94, Tryd.ntmps94
    go_wp2_with fail
    refine L.out.mono ?_
    rintro r w1 ⟨rfl, ⟨a1, ha1, hrb, hre⟩, hg⟩
    have R := Lib.hid hrb
    have G := Lib.hid hg
    clear hrb hg hre
    go_wp2_with fail
    all_goals
      refine (rerr_any c S a1 e _ R.out).mono ?_
      rintro r w' ⟨rfl, rfl⟩
      go_wp2_with fail
      go_ret
      rw [E.out]
      exact ⟨rfl, ⟨a1, ha1, R.out, fun h => absurd h HE.out⟩, G.out⟩

theorem rtext_dead (c : Nat) (S : ByteArray) (a : Nat) (e m : Int) (w : World) (h : RB w c S a e) (he : e ≠ 0) :
    Calls Tryd.prog 75 #[pt c, .int .i64 m] w fun r w' => r = .returned (.string ByteArray.empty) ∧ w = w' := by
  have H := Lib.hid h
  have HE := Lib.hid he
  have he' : (e != 0) = true := by simpa using he
  clear h he
  go_enter Tryd.func75, Tryd.ntmps75
  go_wp2_with fail
  refine (rcount_dead c S a e m _ H.out HE.out).mono ?_
  rintro r w' ⟨rfl, rfl⟩
  go_wp2_with fail
  refine (rerr_any c S a e _ H.out).mono ?_
  rintro r w' ⟨rfl, rfl⟩
  go_wp2_with fail
  go_ret
  exact ⟨rfl, rfl⟩

theorem ftext_eq (most : Int) (s : ByteArray) : fText most s = if (fCount most s).2.2 ≠ 0 then (ByteArray.empty, (fCount most s).2.1, (fCount most s).2.2) else fTake (fCount most s).1.toNat (fCount most s).2.1 := rfl
theorem sub_take (S : ByteArray) (a n : Nat) (h : a + n ≤ S.size) : (S.extract a S.size).extract 0 n = S.extract a (a + n) := by
  apply of_data
  rw [Lib.extract_data, drop_at, Lib.extract_data, List.drop_zero, Nat.sub_zero, show a + n - a = n by omega]

set_option maxHeartbeats 1000000 in
theorem rtext_live (c : Nat) (S : ByteArray) (a : Nat) (m : Int) (w : World) (hs : S.size ≤ 100000) (hm : m ≤ 9223372036854775807) (ha : a ≤ S.size) (h : RB w c S a 0) :
    Calls Tryd.prog 75 #[pt c, .int .i64 m] w (OutR c S w (.string (fText m (S.extract a S.size)).1) (fText m (S.extract a S.size)).2.1 (fText m (S.extract a S.size)).2.2) := by
  have L := Lib.hid (rcount_live c S a m w hs ha h)
  have F := Lib.hid (ftext_eq m (S.extract a S.size))
  have hsz := sub_size S a ha
  have B := Lib.hid (fCount_bd m (S.extract a S.size) hm)
  clear h hsz
  rcases hr : fCount m (S.extract a S.size) with ⟨v, t, e⟩
  rw [hr] at L F B
  clear hr
  by_cases he : e = 0
  · subst he
    obtain ⟨n, rfl⟩ := Int.eq_ofNat_of_zero_le B.out.1
    have hn : n ≤ 9223372036854775807 := by have := B.out.2; simp only at this; omega
    have E := Lib.hid (show fText m (S.extract a S.size) = fTake n t by rw [F.out]; simp)
    go_enter Tryd.func75, Tryd.ntmps75
    go_wp2_with fail
    refine L.out.mono ?_
    rintro r w1 ⟨rfl, ⟨a1, ha1, hrb, hre⟩, hg⟩
    have ht := hre rfl
    subst ht
    have R := Lib.hid hrb
    have G := Lib.hid hg
    have h0 := hrb.c0
    have h1 := hrb.c1
    have h2 := hrb.c2
    have hf1 := hrb.fr 1
    have hf2 := hrb.fr 2
    have hsz1 := sub_size S a1 ha1
    have HS := Lib.hid hsz1
    clear hrb hg hre hsz1
    by_cases hlt : S.size - a1 < n
    · have E2 := Lib.hid (show fTake n (S.extract a1 S.size) = (ByteArray.empty, S.extract a1 S.size, 5) by unfold fTake; rw [if_pos (by rw [HS.out]; exact hlt)])
      have hlt2 : (S.size : Int) - a1 < n := by omega
      clear hlt
      go_wp2_with fail
      refine (rerr_any c S a1 0 _ R.out).mono ?_
      rintro r w' ⟨rfl, rfl⟩
      go_wp2_with fail
      go_quiet (fail)
      go_wp2_with fail
      go_ret
      rw [E.out, E2.out]
      exact ⟨rfl, ⟨a1, ha1, (R.out.drewN _).set2 5, fun h => by cases h⟩, gb_trans (gb_trans G.out (gb_drewN _ _ _)) (gb_set _ _ _ _)⟩
    · have E2 := Lib.hid (show fTake n (S.extract a1 S.size) = ((S.extract a1 S.size).extract 0 n, (S.extract a1 S.size).extract n (S.extract a1 S.size).size, 0) by unfold fTake; rw [if_neg (by rw [HS.out]; exact hlt)])
      have hlt2 : (n : Int) ≤ (S.size : Int) - a1 := by omega
      have hle : a1 + n ≤ S.size := by omega
      have X := Lib.hid (extract_extract S a1 n ha1)
      have Y := Lib.hid (sub_take S a1 n hle)
      clear hlt
      go_wp2_with fail
      refine (rerr_any c S a1 0 _ R.out).mono ?_
      rintro r w' ⟨rfl, rfl⟩
      go_wp2_with fail
      go_quiet (fail)
      go_wp2_with fail
      have hq1 : IntKind.i64.wrap ((a1 : Int) + (n : Int)) = (a1 : Int) + (n : Int) := IntWalk.i64_in _ (by omega)
      have hq2 : 0 ≤ (a1 : Int) + (n : Int) := by omega
      have hq3 : ((a1 : Int) + (n : Int)).toNat = a1 + n := by omega
      have hq4 : (a1 : Int) + (n : Int) ≤ (S.size : Int) := by omega
      have hq5 : (a1 : Int) ≤ (a1 : Int) + (n : Int) := by omega
      go_quiet (fail)
      clear hq1 hq2 hq3 hq4 hq5
      go_wp2_with fail
      go_ret
      rw [E.out, E2.out]
      exact ⟨ret_str Y.out.symm, ⟨a1 + n, hle, (R.out.drewN _).set1 _ _ (by omega), fun _ => X.out⟩, gb_trans (gb_trans G.out (gb_drewN _ _ _)) (gb_set _ _ _ _)⟩
  · have E := Lib.hid (show fText m (S.extract a S.size) = (ByteArray.empty, t, e) by rw [F.out]; simp [he])
    have he' : (e != 0) = true := by simpa using he
    have HE := Lib.hid he
    clear he
    go_enter Tryd.func75, Tryd.ntmps75
    go_wp2_with fail
    refine L.out.mono ?_
    rintro r w1 ⟨rfl, ⟨a1, ha1, hrb, hre⟩, hg⟩
    have R := Lib.hid hrb
    have G := Lib.hid hg
    clear hrb hg hre
    go_wp2_with fail
    refine (rerr_any c S a1 e _ R.out).mono ?_
    rintro r w' ⟨rfl, rfl⟩
    go_wp2_with fail
    go_ret
    rw [E.out]
    exact ⟨rfl, ⟨a1, ha1, R.out, fun h => absurd h HE.out⟩, G.out⟩
end Go.Proofs.YtagkmfhicpcjnaaDoor.Wire
/- Contracts of the reference's Reader: booleans and lists. -/
set_option linter.unusedVariables false
set_option maxRecDepth 100000
namespace Go.Proofs.YtagkmfhicpcjnaaDoor.Wire
open Go.RowKit

theorem sub_first (S : ByteArray) (a : Nat) (h : a < S.size) : (S.extract a S.size).data.toList = S[a] :: S.data.toList.drop (a + 1) := by
  rw [drop_at, drop_cons S a h]
theorem fBool_sub (S : ByteArray) (a : Nat) (h : a < S.size) : fBool (S.extract a S.size) = if 1 < S[a].toNat then (false, (S.extract a S.size).extract 1 (S.extract a S.size).size, 4) else (decide (S[a].toNat = 1), (S.extract a S.size).extract 1 (S.extract a S.size).size, 0) := by
  unfold fBool; rw [sub_first S a h]

/-- What a call of the reference that reads a list leaves. -/
def OutRL (c : Nat) (S : ByteArray) (w : World) (q : List Int × ByteArray × Int) (r : Ending) (w' : World) : Prop :=
  ∃ v, r = .returned v ∧ (∃ a, a ≤ S.size ∧ RB w' c S a q.2.2 ∧ (q.2.2 = 0 → q.2.1 = S.extract a S.size)) ∧ w.grownBy w' (some c) ∧ w'.ownsRow w.heap.size 3 1 v q.1.length (i64s q.1)

end Go.Proofs.YtagkmfhicpcjnaaDoor.Wire
/- Contracts of New, Same, starts and awake. -/
set_option linter.unusedVariables false
set_option maxRecDepth 100000
namespace Go.Proofs.YtagkmfhicpcjnaaDoor.Wire
open Go.RowKit

theorem ret_bool {a b : Bool} (h : a = b) : Ending.returned (.bool a) = .returned (.bool b) := by rw [h]
theorem new_any (s : ByteArray) (w : World) :
    Calls Tryd.prog 30 #[.string s] w fun r w' => r = .returned (pt w.heap.size) ∧ PB w' w.heap.size s 0 true ∧ Below w.heap.size w w' := by
  go_enter Tryd.func30, Tryd.ntmps30
  go_wp2_with fail
  go_ret
  exact ⟨rfl, heap_alloc_new w _, (Below.refl _ _).alloc (Nat.le_refl _) _⟩
theorem rnew_any (s : ByteArray) (w : World) :
    Calls Tryd.prog 50 #[.string s] w fun r w' => r = .returned (pt w.heap.size) ∧ RB w' w.heap.size s 0 0 ∧ Below w.heap.size w w' := by
  go_enter Tryd.func50, Tryd.ntmps50
  go_wp2_with fail
  go_ret
  exact ⟨rfl, heap_alloc_new w _, (Below.refl _ _).alloc (Nat.le_refl _) _⟩

theorem same_draw {w w' : World} (h : Same w w') (B : Nat) : Below B w w' := by
  obtain ⟨n, rfl⟩ := h
  exact ⟨rfl, rfl, rfl, Nat.le_refl _, fun _ _ => rfl⟩
theorem same_gb {w w' : World} (h : Same w w') (r : Option Nat) : w.grownBy w' r := by
  obtain ⟨n, rfl⟩ := h
  exact gb_drewN _ _ _
theorem same_trans {a b c : World} (h : Same a b) (k : Same b c) : Same a c := by
  obtain ⟨n, rfl⟩ := h
  obtain ⟨m, rfl⟩ := k
  exact ⟨n + m, by simp [World.drewN_drewN]⟩

theorem own_ints {w : World} {base n : Nat} {v : Value} {l : List Int} (h : w.ownsRow base 3 1 v n (i64s l)) (hn : n = l.length) :
    ∃ A c, v = .slice A l.length c ∧ IntsAt w w.heap.size A l := by
  subst hn
  rcases h.2 with ⟨rfl, h0⟩ | ⟨g, cap, cur, rfl, h2, h3, h4⟩
  · rw [h0]; exact ⟨none, 0, rfl, fun h => by omega⟩
  · refine ⟨_, cap, rfl, fun _ => ⟨g, 0, rfl, (Array.getElem?_eq_some_iff.1 h3).1, fun i hi => ?_⟩⟩
    have := h.cells (g := g) rfl i (.int .i64 (l.getD i 0)) (by
      unfold i64s
      rw [List.getElem?_map]
      simp [List.getD, List.getElem?_eq_getElem hi])
    rw [show ({ block := g, off := 0, spot := none : Addr }.add i) = ⟨g, i, none⟩ by unfold Addr.add; split <;> simp_all] at this
    rw [Nat.zero_add]; exact this

/-- Whether s begins with t. -/
def strt (s t : ByteArray) : Bool := decide (t.data.toList <+: s.data.toList)
end Go.Proofs.YtagkmfhicpcjnaaDoor.Wire
/- Layer 20: the reference's Zero, Put. -/
set_option linter.unusedVariables false
set_option maxRecDepth 100000
namespace Go.Proofs.YtagkmfhicpcjnaaDoor.Vlu
open Go.RowKit
open Names (nm)
open Wire (bs enI enT)

theorem zer_not {a : At} (h : dfn a ≠ 0) : zer a = z0 := if_pos h
theorem zer_is {a : At} (h : dfn a = 0) : zer a = lmt a (a.k, 0, ByteArray.empty) := if_neg (fun q => q h)
set_option maxRecDepth 100000 in
set_option maxHeartbeats 4000000 in
theorem rzer_any (a : At) (A : Option Addr) (c : Nat) (w : World) (hn : a.n.size ≤ 9223372036854775807) (hl : a.en.length ≤ 9223372036854775807) (hA : StS w A c a.en) :
    Calls Tryd.prog 20 #[atV a A c] w (OutV w (zer a)) := by
  have b0 := alloc_below w (bxA a A c)
  have b1 := alloc_below (w.alloc (bxA a A c)) (bxV z0)
  have b01 := b0.trans (b1.mono (by simp))
  have XA := blk_alloc (blk_new w (bxA a A c)) (bxV z0)
  have XZ := blk_new (w.alloc (bxA a A c)) (bxV z0)
  rw [show (w.alloc (bxA a A c)).heap.size = w.heap.size + 1 by simp] at XZ
  have hz : w.heap.size + 1 < ((w.alloc (bxA a A c)).alloc (bxV z0)).heap.size := by simp
  have hA1 := (hA.next b0).next b1
  have L1 := Lib.hid (zer_not (a := a))
  have L2 := Lib.hid (zer_is (a := a))
  obtain ⟨W, hW⟩ : ∃ W, (w.alloc (bxA a A c)).alloc (bxV z0) = W := ⟨_, rfl⟩
  rw [hW] at XA XZ hz hA1 b01
  have KD := Lib.hid (rdef_any a A c W hn hl hA1)
  have KL := Lib.hid (fun (w1 : World) (hb : Below W.heap.size W w1) => rlmt_any a A c (a.k, 0, ByteArray.empty) w1 hn hl (hA1.next hb))
  have HA := Lib.hid (fun (w1 : World) (hb : Below W.heap.size W w1) => And.intro (blk_below XA hb (by omega)) (And.intro (blk_below XZ hb (by omega)) (b01.trans (hb.mono b01.size))))
  unfold OutI at KD
  unfold OutV at KL
  have XA := Lib.hid XA
  clear b0 b1 b01 hA hA1 hn hz XZ hl
  obtain ⟨⟨f0, f1, f2⟩, hf⟩ : ∃ f, lmt a (a.k, 0, ByteArray.empty) = f := ⟨_, rfl⟩
  rw [hf] at L2 KL
  clear hf
  generalize zer a = F at *
  generalize dfn a = d at *
  obtain ⟨an, ak, amn, amx, en, awr, asf⟩ := a
  have hW' : (w.alloc (.cells #[.string an, .int .i64 ak, .int .i64 amn, .int .i64 amx, .slice A en.length c, .bool awr, .bool asf] 24)).alloc (.cells #[.int .i64 0, .int .i64 0, .string { data := #[] }] 26) = W := hW
  dsimp only at KL
  have q0 := blk_cell XA.out 0 (v := .string an) rfl
  have q1 := blk_cell XA.out 1 (v := .int .i64 ak) rfl
  have q2 := blk_cell XA.out 2 (v := .int .i64 amn) rfl
  have q3 := blk_cell XA.out 3 (v := .int .i64 amx) rfl
  have q4 := blk_cell XA.out 4 (v := .slice A en.length c) rfl
  have q5 := blk_cell XA.out 5 (v := .bool awr) rfl
  have q6 := blk_cell XA.out 6 (v := .bool asf) rfl
  clear hW
  go_enter Tryd.func20, Tryd.ntmps20
  go_upto_region 1 with fail
  try rw [hW']
  clear hW'
  go_wp2_with fail
  refine KD.out.mono ?_
  rintro _ W1 ⟨rfl, hb1⟩
  clear q0 q1 q2 q3 q4 q5 q6
  obtain ⟨Y, U, B⟩ := HA.out W1 hb1
  by_cases hd : d = 0
  · have t1 : (d != 0) = false := by simp [hd]
    have R := Lib.hid (L2.out hd)
    have HB := Lib.hid hb1
    have KL := Lib.hid (KL.out W1 hb1)
    have p0 := blk_cell Y 0 (v := .string an) rfl
    have p1 := blk_cell Y 1 (v := .int .i64 ak) rfl
    have p2 := blk_cell Y 2 (v := .int .i64 amn) rfl
    have p3 := blk_cell Y 3 (v := .int .i64 amx) rfl
    have p4 := blk_cell Y 4 (v := .slice A en.length c) rfl
    have p5 := blk_cell Y 5 (v := .bool awr) rfl
    have p6 := blk_cell Y 6 (v := .bool asf) rfl
    clear L1 L2 hd Y U B hb1 KD XA
    go_wp2_with fail
    refine KL.out.mono ?_
    rintro _ W2 ⟨rfl, hb2⟩
    have hb2 := HB.out.trans (hb2.mono HB.out.size)
    obtain ⟨_, U, B⟩ := HA.out W2 hb2
    obtain ⟨V, hV⟩ : ∃ V, V = putV W2 (w.heap.size + 1) (f0, f1, f2) := ⟨_, rfl⟩
    have RV := Lib.hid (show V.heap[w.heap.size + 1]? = some (bxV (f0, f1, f2)) by rw [hV]; exact putV_blk U _)
    have BV := Lib.hid (show Below w.heap.size w V by rw [hV]; exact putV_below B (by omega) _)
    have z0 := blk_cell U 0 (v := .int .i64 0) rfl
    have z1 := blk_cell U 1 (v := .int .i64 0) rfl
    have z2 := blk_cell U 2 (v := .string { data := #[] }) rfl
    have x0 := blk_fr U 0
    have x1 := blk_fr U 1
    have x2 := blk_fr U 2
    clear U B HA
    unfold putV at hV
    dsimp only at hV
    go_wp2_with fail
    rw [← hV]
    have t0 := blk_cell RV.out 0 (v := .int .i64 f0) rfl
    have t1 := blk_cell RV.out 1 (v := .int .i64 f1) rfl
    have t2 := blk_cell RV.out 2 (v := .string f2) rfl
    refine bodyPost_ret (v := .agg #[.int .i64 f0, .int .i64 f1, .string f2]) (by simp [results, Tryd.results20, go_sem, t0, t1, t2]) rfl ⟨?_, BV.out⟩
    rw [R.out]
  · have t1 : (d != 0) = true := by simp [hd]
    have R := Lib.hid (L1.out hd)
    clear L1 L2 hd Y hb1 KD XA KL
    obtain ⟨V, hV⟩ : ∃ V, V = putV W1 (w.heap.size + 1) (0, 0, { data := #[] }) := ⟨_, rfl⟩
    have RV := Lib.hid (show V.heap[w.heap.size + 1]? = some (bxV (0, 0, { data := #[] })) by rw [hV]; exact putV_blk U _)
    have BV := Lib.hid (show Below w.heap.size w V by rw [hV]; exact putV_below B (by omega) _)
    have z0 := blk_cell U 0 (v := .int .i64 0) rfl
    have z1 := blk_cell U 1 (v := .int .i64 0) rfl
    have z2 := blk_cell U 2 (v := .string { data := #[] }) rfl
    have x0 := blk_fr U 0
    have x1 := blk_fr U 1
    have x2 := blk_fr U 2
    clear U B HA
    unfold putV at hV
    dsimp only at hV
    go_wp2_with fail
    rw [← hV]
    have t0 := blk_cell RV.out 0 (v := .int .i64 0) rfl
    have t1 := blk_cell RV.out 1 (v := .int .i64 0) rfl
    have t2 := blk_cell RV.out 2 (v := .string { data := #[] }) rfl
    refine bodyPost_ret (v := .agg #[.int .i64 0, .int .i64 0, .string { data := #[] }]) (by simp [results, Tryd.results20, go_sem, t0, t1, t2]) rfl ⟨?_, BV.out⟩
    rw [R.out]
    rfl

theorem at_zero {o : Oper} {r : List Oper} : (o :: r).toArray[0]? = some o := rfl
theorem at_succ {x o : Oper} {r : List Oper} {n : Nat} (h : r.toArray[n]? = some o) : (x :: r).toArray[n + 1]? = some o := by simpa using h
def OutY (w : World) (s : ByteArray) (e : Ending) (w' : World) : Prop := e = .returned (.string s) ∧ Below w.heap.size w w'
theorem enI_sz (m : Int) : (bs (enI m)).size ≤ 10 := by rw [Wire.bs_size]; exact Wire.enI_length m
theorem enT_sz (s : ByteArray) : (bs (enT s)).size ≤ 10 + s.size := by
  rw [Wire.bs_size]
  unfold enT
  rw [List.length_append]
  have := Wire.enI_length (s.size : Int)
  have e : s.data.toList.length = s.size := by simp
  omega
theorem bs_app (a b : List UInt8) : bs a ++ bs b = bs (a ++ b) := by apply ByteArray.ext; simp [ByteArray.data_append, bs]
set_option maxRecDepth 100000 in
set_option maxHeartbeats 4000000 in
theorem rput_any (v : Vl) (w : World) (hv : v.2.2.size ≤ 100000) (h1 : I64 v.1) (h2 : I64 v.2.1) :
    Calls Tryd.prog 28 #[vlV v] w (OutY w (bs (put v))) := by
  have b0 := alloc_below w (bxV v)
  have X := blk_new w (bxV v)
  have KC := Lib.hid (rcheck_any v (w.alloc (bxV v)) (by omega))
  unfold OutI at KC
  have hz : w.heap.size < (w.alloc (bxV v)).heap.size := by simp
  have E0 := Lib.hid (put_nrm v)
  have N1 := Lib.hid (fun h => nrm_of (v := v) h)
  have N2 : chk v ≠ 0 → nrm v = z0 := fun h => if_neg h
  have OKN := nrm_ok v
  have HX := Lib.hid (fun (w1 : World) (hb : Below (w.alloc (bxV v)).heap.size (w.alloc (bxV v)) w1) => And.intro (blk_below X hb hz) (b0.trans (hb.mono b0.size)))
  have b0 := Lib.hid b0
  generalize put v = P at *
  generalize chk v = cv at *
  obtain ⟨k, n, s⟩ := v
  dsimp only at HX KC h1 h2 hv b0
  have c0 := blk_cell X 0 (v := .int .i64 k) rfl
  have c1 := blk_cell X 1 (v := .int .i64 n) rfl
  have c2 := blk_cell X 2 (v := .string s) rfl
  clear X hz
  go_enter Tryd.func28, Tryd.ntmps28
  go_wp2_with fail
  refine KC.out.mono ?_
  rintro _ W1 ⟨rfl, hb1⟩
  clear c0 c1 c2
  obtain ⟨X1, B1⟩ := HX.out W1 hb1
  clear HX KC hb1 b0
  go_upto_if 5 with fail
  go_cut [] (fun wx => Hid (wx.heap[w.heap.size]? = some (bxV (nrm (k, n, s)))) ∧ Below w.heap.size w wx)
  case first =>
    by_cases hc : cv = 0
    · have t1 : (cv != 0) = false := by simp [hc]
      have XN := Lib.hid (show W1.heap[w.heap.size]? = some (bxV (nrm (k, n, s))) by rw [N1.out hc]; exact X1)
      have B1 := Lib.hid B1
      clear N1 N2 hc X1 E0 OKN b0
      go_wp2_with fail
      go_meet
      case rel => exact ⟨XN, B1.out⟩
    · have t1 : (cv != 0) = true := by simp [hc]
      obtain ⟨V, hV⟩ : ∃ V, V = putV W1 w.heap.size (0, 0, { data := #[] }) := ⟨_, rfl⟩
      have RV := Lib.hid (show V.heap[w.heap.size]? = some (bxV (nrm (k, n, s))) by rw [hV, N2 hc]; exact putV_blk X1 _)
      have BV := Lib.hid (show Below w.heap.size w V by rw [hV]; exact putV_below B1 (Nat.le_refl _) _)
      have c0 := blk_cell X1 0 (v := .int .i64 k) rfl
      have c1 := blk_cell X1 1 (v := .int .i64 n) rfl
      have c2 := blk_cell X1 2 (v := .string s) rfl
      have x0 := blk_fr X1 0
      have x1 := blk_fr X1 1
      have x2 := blk_fr X1 2
      clear N1 N2 hc X1 B1 E0 OKN b0
      unfold putV at hV
      dsimp only at hV
      go_wp2_with fail
      rw [← hV]
      go_meet
      case rel => exact ⟨RV, BV.out⟩
  case rest => as_aux_lemma =>
  obtain ⟨XN, BN⟩ := hcut
  clear X1 B1 b0 N1 N2 h1 h2 hv
  obtain ⟨⟨k2, n2, s2⟩, hu⟩ : ∃ u, nrm (k, n, s) = u := ⟨_, rfl⟩
  rw [hu] at XN OKN E0
  clear hu
  have hn2 := chk_n OKN
  obtain ⟨g1, g2, _, _, g5, _⟩ := chk_iff.1 OKN
  dsimp only at hn2 g1 g2 g5
  have BN := Lib.hid BN
  have hlt := blk_lt XN.out
  have KI := Lib.hid (fun (m : Int) (w : World) (hm : Wire.I64 m) => Wire.rint_any m w hm)
  have KT := Lib.hid (fun (w : World) => Wire.rtext_any s2 w (by omega))
  unfold Wire.OutS at KI KT
  clear OKN
  have SC := Lib.hid (show ∀ wy, Below wc.heap.size wc wy → wy.cell? ⟨w.heap.size, 0, none⟩ = some (.int .i64 k2) ∧ wy.cell? ⟨w.heap.size, 1, none⟩ = some (.int .i64 n2) ∧ wy.cell? ⟨w.heap.size, 2, none⟩ = some (.string s2) from fun wy hb => ⟨blk_cell (blk_below XN.out hb hlt) 0 rfl, blk_cell (blk_below XN.out hb hlt) 1 rfl, blk_cell (blk_below XN.out hb hlt) 2 rfl⟩)
  obtain ⟨c0, c1, c2⟩ := SC.out wc (Below.refl _ _)
  have Z0 := below_drewN (Below.refl wc.heap.size wc) 1
  by_cases k0 : k2 = 0
  · subst k0
    have E := Lib.hid (show bs (enI 0) = bs P by rw [E0.out]; unfold put0; dsimp only; rw [if_pos rfl, List.append_nil])
    have KI := Lib.hid (KI.out 0 wc (by unfold Wire.I64; omega))
    clear E0 XN KT SC Z0
    go_wp2_with fail
    refine KI.out.mono ?_
    rintro _ w2 ⟨rfl, hb⟩
    have B2 := Lib.hid (BN.out.trans (hb.mono BN.out.size))
    clear hb KI
    go_wp2_with fail
    go_ret
    exact ⟨by rw [← E.out]; rfl, B2.out⟩
  have t3 : (k2 == 0) = false := beq_false_of_ne k0
  by_cases k4 : k2 = 4
  · subst k4
    have E := Lib.hid (show bs (enI 4) ++ bs (enT s2) = bs P by rw [E0.out, bs_app]; unfold put0; dsimp only; rw [if_neg (by decide), if_pos rfl])
    have KI := Lib.hid (fun w => KI.out 4 w (by unfold Wire.I64; omega))
    have LZ : (bs (enI 4)).size + (bs (enT s2)).size ≤ 9223372036854775807 := by have := enI_sz 4; have := enT_sz s2; omega
    clear E0 XN k0
    go_wp2_with fail
    refine wp_region_held_drew (S := (fun wy : World => wy.cell? ⟨w.heap.size, 0, none⟩ = some (.int .i64 4) ∧ wy.cell? ⟨w.heap.size, 1, none⟩ = some (.int .i64 n2) ∧ wy.cell? ⟨w.heap.size, 2, none⟩ = some (.string s2))) (by kernel_rfl) (SC.out _ Z0) (fun hHeld => ?_)
    refine wpAnyH_take (i := 0) (v := (.pointer (some ⟨w.heap.size, 0, none⟩))) at_zero (by kernel_rfl) (by kernel_rfl) (by kernel_rfl) (fun _ _ _ h => h) (Or.inl ⟨by kernel_rfl, fun wy hSw => ?_⟩) (by assumption) ?_
    · (try dsimp only at hSw); go_simp
    try simp only [Act.put, List.setIfInBounds_toArray, List.set_cons_zero, List.set_cons_succ]
    refine wpAnyH_take (i := 1) (v := (.int .i64 4)) (at_succ at_zero) (by kernel_rfl) (by kernel_rfl) (by kernel_rfl) (fun _ _ _ h => h) (Or.inl ⟨by kernel_rfl, fun wy hSw => ?_⟩) (by assumption) ?_
    · (try dsimp only at hSw); go_simp
    try simp only [Act.put, List.setIfInBounds_toArray, List.set_cons_zero, List.set_cons_succ]
    refine wpAnyH_take (i := 3) (v := (.pointer (some ⟨w.heap.size, 2, none⟩))) (at_succ (at_succ (at_succ at_zero))) (by kernel_rfl) (by kernel_rfl) (by kernel_rfl) (fun _ _ _ h => h) (Or.inl ⟨by kernel_rfl, fun wy hSw => ?_⟩) (by assumption) ?_
    · (try dsimp only at hSw); go_simp
    try simp only [Act.put, List.setIfInBounds_toArray, List.set_cons_zero, List.set_cons_succ]
    refine wpAnyH_take (i := 4) (v := (.string s2)) (at_succ (at_succ (at_succ (at_succ at_zero)))) (by kernel_rfl) (by kernel_rfl) (by kernel_rfl) (fun _ _ _ h => h) (Or.inl ⟨by kernel_rfl, fun wy hSw => ?_⟩) (by assumption) ?_
    · (try dsimp only at hSw); go_simp
    try simp only [Act.put, List.setIfInBounds_toArray, List.set_cons_zero, List.set_cons_succ]
    refine wpAnyH_ready (rs := [2]) (by kernel_rfl) (by simp) ?_
    refine AllReadyH.cons (at_succ (at_succ at_zero)) (fun K hK => ?_) AllReadyH.nil
    rw [if_pos (by kernel_rfl)]
    go_simp
    refine (KI.out _).mono ?_
    rintro _ wz ⟨rfl, hb⟩
    have Z1 := Z0.trans (hb.mono Z0.size)
    clear hb hHeld
    go_wp2_with fail
    refine hK.out _ _ (SC.out _ Z1) (fun hHeld => ?_)
    clear hK K
    try simp only [Act.put, List.setIfInBounds_toArray, List.set_cons_zero, List.set_cons_succ]
    refine wpAnyH_ready (rs := [5]) (by kernel_rfl) (by simp) ?_
    refine AllReadyH.cons (at_succ (at_succ (at_succ (at_succ (at_succ at_zero))))) (fun K hK => ?_) AllReadyH.nil
    rw [if_pos (by kernel_rfl)]
    go_simp
    refine (KT.out _).mono ?_
    rintro _ wz ⟨rfl, hb⟩
    have Z2 := Z1.trans (hb.mono Z1.size)
    clear hb hHeld
    go_wp2_with fail
    refine hK.out _ _ (SC.out _ Z2) (fun hHeld => ?_)
    clear hK K
    try simp only [Act.put, List.setIfInBounds_toArray, List.set_cons_zero, List.set_cons_succ]
    refine wpAnyH_take (i := 6) (v := (.string (bs (enI 4) ++ bs (enT s2)))) (at_succ (at_succ (at_succ (at_succ (at_succ (at_succ at_zero)))))) (by kernel_rfl) (by kernel_rfl) (by kernel_rfl) (fun _ _ _ h => h) (Or.inl ⟨by kernel_rfl, fun wy hSw => ?_⟩) (by assumption) ?_
    · (try dsimp only at hSw); go_simp
    try simp only [Act.put, List.setIfInBounds_toArray, List.set_cons_zero, List.set_cons_succ]
    refine wpAnyH_take (i := 7) (v := (.string (bs (enI 4) ++ bs (enT s2)))) (at_succ (at_succ (at_succ (at_succ (at_succ (at_succ (at_succ at_zero))))))) (by kernel_rfl) (by kernel_rfl) (by kernel_rfl) (fun _ _ _ h => h) (Or.inl ⟨by kernel_rfl, fun wy hSw => ?_⟩) (by assumption) ?_
    · (try dsimp only at hSw); go_simp
    try simp only [Act.put, List.setIfInBounds_toArray, List.set_cons_zero, List.set_cons_succ]
    refine wpAnyH_done (by kernel_rfl) ?_ _
    go_wp2_with fail
    go_ret
    exact ⟨by rw [← E.out]; rfl, BN.out.trans (Z2.mono BN.out.size)⟩
  · have t4 : (k2 == 4) = false := beq_false_of_ne k4
    have E := Lib.hid (show bs (enI k2) ++ bs (enI n2) = bs P by rw [E0.out, bs_app]; unfold put0; dsimp only; rw [if_neg k0, if_neg k4])
    have KK := Lib.hid (fun w => KI.out k2 w (by unfold Wire.I64; omega))
    have KN := Lib.hid (fun w => KI.out n2 w (by unfold Wire.I64; omega))
    have LZ : (bs (enI k2)).size + (bs (enI n2)).size ≤ 9223372036854775807 := by have := enI_sz k2; have := enI_sz n2; omega
    clear E0 XN k0 k4 KI KT
    go_wp2_with fail
    refine wp_region_held_drew (S := (fun wy : World => wy.cell? ⟨w.heap.size, 0, none⟩ = some (.int .i64 k2) ∧ wy.cell? ⟨w.heap.size, 1, none⟩ = some (.int .i64 n2) ∧ wy.cell? ⟨w.heap.size, 2, none⟩ = some (.string s2))) (by kernel_rfl) (SC.out _ Z0) (fun hHeld => ?_)
    refine wpAnyH_take (i := 0) (v := (.pointer (some ⟨w.heap.size, 0, none⟩))) at_zero (by kernel_rfl) (by kernel_rfl) (by kernel_rfl) (fun _ _ _ h => h) (Or.inl ⟨by kernel_rfl, fun wy hSw => ?_⟩) (by assumption) ?_
    · (try dsimp only at hSw); go_simp
    try simp only [Act.put, List.setIfInBounds_toArray, List.set_cons_zero, List.set_cons_succ]
    refine wpAnyH_take (i := 1) (v := (.int .i64 k2)) (at_succ at_zero) (by kernel_rfl) (by kernel_rfl) (by kernel_rfl) (fun _ _ _ h => h) (Or.inl ⟨by kernel_rfl, fun wy hSw => ?_⟩) (by assumption) ?_
    · (try dsimp only at hSw); go_simp
    try simp only [Act.put, List.setIfInBounds_toArray, List.set_cons_zero, List.set_cons_succ]
    refine wpAnyH_take (i := 3) (v := (.pointer (some ⟨w.heap.size, 1, none⟩))) (at_succ (at_succ (at_succ at_zero))) (by kernel_rfl) (by kernel_rfl) (by kernel_rfl) (fun _ _ _ h => h) (Or.inl ⟨by kernel_rfl, fun wy hSw => ?_⟩) (by assumption) ?_
    · (try dsimp only at hSw); go_simp
    try simp only [Act.put, List.setIfInBounds_toArray, List.set_cons_zero, List.set_cons_succ]
    refine wpAnyH_take (i := 4) (v := (.int .i64 n2)) (at_succ (at_succ (at_succ (at_succ at_zero)))) (by kernel_rfl) (by kernel_rfl) (by kernel_rfl) (fun _ _ _ h => h) (Or.inl ⟨by kernel_rfl, fun wy hSw => ?_⟩) (by assumption) ?_
    · (try dsimp only at hSw); go_simp
    try simp only [Act.put, List.setIfInBounds_toArray, List.set_cons_zero, List.set_cons_succ]
    refine wpAnyH_ready (rs := [2]) (by kernel_rfl) (by simp) ?_
    refine AllReadyH.cons (at_succ (at_succ at_zero)) (fun K hK => ?_) AllReadyH.nil
    rw [if_pos (by kernel_rfl)]
    go_simp
    refine (KK.out _).mono ?_
    rintro _ wz ⟨rfl, hb⟩
    have Z1 := Z0.trans (hb.mono Z0.size)
    clear hb hHeld
    go_wp2_with fail
    refine hK.out _ _ (SC.out _ Z1) (fun hHeld => ?_)
    clear hK K
    try simp only [Act.put, List.setIfInBounds_toArray, List.set_cons_zero, List.set_cons_succ]
    refine wpAnyH_ready (rs := [5]) (by kernel_rfl) (by simp) ?_
    refine AllReadyH.cons (at_succ (at_succ (at_succ (at_succ (at_succ at_zero))))) (fun K hK => ?_) AllReadyH.nil
    rw [if_pos (by kernel_rfl)]
    go_simp
    refine (KN.out _).mono ?_
    rintro _ wz ⟨rfl, hb⟩
    have Z2 := Z1.trans (hb.mono Z1.size)
    clear hb hHeld
    go_wp2_with fail
    refine hK.out _ _ (SC.out _ Z2) (fun hHeld => ?_)
    clear hK K
    try simp only [Act.put, List.setIfInBounds_toArray, List.set_cons_zero, List.set_cons_succ]
    refine wpAnyH_take (i := 6) (v := (.string (bs (enI k2) ++ bs (enI n2)))) (at_succ (at_succ (at_succ (at_succ (at_succ (at_succ at_zero)))))) (by kernel_rfl) (by kernel_rfl) (by kernel_rfl) (fun _ _ _ h => h) (Or.inl ⟨by kernel_rfl, fun wy hSw => ?_⟩) (by assumption) ?_
    · (try dsimp only at hSw); go_simp
    try simp only [Act.put, List.setIfInBounds_toArray, List.set_cons_zero, List.set_cons_succ]
    refine wpAnyH_take (i := 7) (v := (.string (bs (enI k2) ++ bs (enI n2)))) (at_succ (at_succ (at_succ (at_succ (at_succ (at_succ (at_succ at_zero))))))) (by kernel_rfl) (by kernel_rfl) (by kernel_rfl) (fun _ _ _ h => h) (Or.inl ⟨by kernel_rfl, fun wy hSw => ?_⟩) (by assumption) ?_
    · (try dsimp only at hSw); go_simp
    try simp only [Act.put, List.setIfInBounds_toArray, List.set_cons_zero, List.set_cons_succ]
    refine wpAnyH_done (by kernel_rfl) ?_ _
    go_wp2_with fail
    go_ret
    exact ⟨by rw [← E.out]; rfl, BN.out.trans (Z2.mono BN.out.size)⟩
end Go.Proofs.YtagkmfhicpcjnaaDoor.Vlu
/- A part of a row of the call's own, of any flat type: cut off at its beginning ('q[k:]'), appended to at its end; for every seat. -/
set_option linter.unusedVariables false
set_option maxRecDepth 100000
namespace Go.Proofs.YtagkmfhicpcjnaaDoor
open Go.RowKit
section
variable {α : Type} {F : Flat α} {T : TypeId}
def OwnT (F : Flat α) (T : TypeId) (w : World) (B : Nat) (v : Value) (l : List α) : Prop := ∃ g off cap cur, v = .slice (some ⟨g, off, none⟩) l.length cap ∧ B ≤ g ∧ w.heap[g]? = some (.cells cur T (0, 0)) ∧ l.length ≤ cap ∧ off + cap * F.sz ≤ cur.size ∧ (∀ (j : Nat) (u : Value), (l.flatMap F.enc)[j]? = some u → cur[off + j]? = some u) ∧ ∀ a ∈ l, F.ok a
theorem OwnT.of_own {w : World} {B : Nat} {v : Value} {l : List α} (h : OwnF F T w B v l) (hl : l ≠ []) : OwnT F T w B v l := by
  obtain ⟨⟨h0, h1⟩, h2⟩ := h
  rcases h1 with ⟨_, e⟩ | ⟨g, cap, cur, hv, hB, hg, hn, hm, hs, ht⟩
  · exact absurd (List.eq_nil_of_length_eq_zero e) hl
  · refine ⟨g, 0, cap, cur, hv, hB, hg, hn, by rw [hs]; omega, fun j u hu => ?_, h2⟩
    have hj : j < l.length * F.sz := by rw [← flat_len (F := F)]; exact (List.getElem?_eq_some_iff.1 hu).1
    have e : (cur.toList.take (l.length * F.sz))[j]? = some u := by rw [ht]; exact hu
    rw [List.getElem?_take_of_lt hj] at e
    rw [Nat.zero_add, ← Array.getElem?_toList]
    exact e
theorem OwnT.lt {w : World} {B : Nat} {v : Value} {l : List α} (h : OwnT F T w B v l) : ∀ g, v.ownBlock = some g → B ≤ g ∧ g < w.heap.size := by
  obtain ⟨g, off, cap, cur, rfl, h1, h2, h3⟩ := h
  rintro k hk
  simp [Value.ownBlock] at hk
  subst hk
  exact ⟨h1, (Array.getElem?_eq_some_iff.1 h2).1⟩
theorem OwnT.below {w w' : World} {B : Nat} {v : Value} {l : List α} (h : OwnT F T w B v l) (hb : Below w.heap.size w w') : OwnT F T w' B v l := by
  obtain ⟨g, off, cap, cur, rfl, h1, h2, h3⟩ := h
  exact ⟨g, off, cap, cur, rfl, h1, (hb.block g (Array.getElem?_eq_some_iff.1 h2).1).trans h2, h3⟩
theorem OwnT.down {w : World} {B B' : Nat} {v : Value} {l : List α} (h : OwnT F T w B v l) (hB : B' ≤ B) : OwnT F T w B' v l := by
  obtain ⟨g, off, cap, cur, rfl, h1, h2⟩ := h
  exact ⟨g, off, cap, cur, rfl, by omega, h2⟩
theorem OwnT.slS {w : World} {B : Nat} {v : Value} {l : List α} (h : OwnT F T w B v l) : ∃ A c, v = .slice A l.length c ∧ SlS F w A c l := by
  obtain ⟨g, off, cap, cur, rfl, h1, h2, h3, h4, h5, h6⟩ := h
  refine ⟨_, _, rfl, fun i hi => ⟨g, off, rfl, (Array.getElem?_eq_some_iff.1 h2).1, fun j u hu => ?_, h6 _ (List.getElem_mem hi)⟩, h3, fun e => by cases e⟩
  have hj : j < F.sz := by rw [← F.len l[i]]; exact (List.getElem?_eq_some_iff.1 hu).1
  rw [Nat.add_assoc, cell_of_row w g (off + (i * F.sz + j)) cur T (0, 0) h2]
  exact h5 _ _ (by rw [flat_get l i hi j hj]; exact hu)
theorem flat_app (a b : List α) : (a ++ b).flatMap F.enc = a.flatMap F.enc ++ b.flatMap F.enc := List.flatMap_append
/-- 'q[k:]'. -/
theorem OwnT.cut {P : Program} {t : TypeId} (ut : P.underlying t = some (.slice (P.elem t))) (sz : ∀ W : World, (sizeOf (P.elem t)).run P W = .ok F.sz W) {w : World} {B : Nat} {v : Value} {l : List α} (h : OwnT F T w B v l) (k : Nat) (hk : k ≤ l.length) :
    ∃ v', (∀ W : World, (Instr.sliceAt t v (some (.int .i64 (k : Int))) none none).run P W = .ok v' W) ∧ OwnT F T w B v' (l.drop k) := by
  obtain ⟨g, off, cap, cur, rfl, h1, h2, h3, h4, h5, h6⟩ := h
  have e1 : ∀ W : World, (Instr.sliceAt t (.slice (some ⟨g, off, none⟩) l.length cap) (some (.int .i64 (k : Int))) none none).run P W = .ok (sliced (some ⟨g, off, none⟩) k l.length cap F.sz) W := fun W => by
    rw [run_sliceAt_slice W _ _ _ _ _ ut, run_slice_l W _ _ l.length cap ut .i64 k (by omega) (by omega), sz]
    rfl
  have hadd : ∀ j, (⟨g, off, none⟩ : Addr).add j = ⟨g, off + j, none⟩ := fun j => by unfold Addr.add; split <;> simp_all
  have hd : (l.drop k).length = l.length - k := List.length_drop
  by_cases hc : cap = k
  · have hn : l.drop k = [] := List.drop_of_length_le (by omega)
    refine ⟨.slice (some ⟨g, off, none⟩) (l.drop k).length 0, fun W => (e1 W).trans ?_, g, off, 0, cur, rfl, h1, h2, by rw [hn]; simp, by omega, fun j u hu => by rw [hn] at hu; simp at hu, fun a ha => by rw [hn] at ha; cases ha⟩
    unfold sliced
    rw [hd]
    simp [hc]
  · have hkk : k < cap := by omega
    refine ⟨.slice (some ⟨g, off + k * F.sz, none⟩) (l.drop k).length (cap - k), fun W => (e1 W).trans ?_, g, off + k * F.sz, cap - k, cur, rfl, h1, h2, by rw [hd]; omega, ?_, fun j u hu => ?_, fun a ha => h6 a (List.mem_of_mem_drop ha)⟩
    · unfold sliced
      rw [hd]
      simp [hc, hadd]
    · have : (cap - k) * F.sz + k * F.sz = cap * F.sz := by rw [← Nat.add_mul]; congr 1; omega
      omega
    · have e : l.flatMap F.enc = (l.take k).flatMap F.enc ++ (l.drop k).flatMap F.enc := by rw [← flat_app, List.take_append_drop]
      have hl : ((l.take k).flatMap F.enc).length = k * F.sz := by rw [flat_len, List.length_take, Nat.min_eq_left hk]
      rw [Nat.add_assoc]
      exact h5 _ _ (by rw [e, List.getElem?_append_right (by omega), hl, Nat.add_sub_cancel_left]; exact hu)
/-- One element more, out of a new block: in the row, if there is room, else in a new one. -/
theorem OwnT.one {P : Program} {t : TypeId} (E : Elems P t T F.sz) {w : World} {B : Nat} {v : Value} {l : List α} (ty : TypeId) (h : OwnT F T w B v l) (x : α) (cs : Array Value) (hcs : cs.toList = F.enc x) (hx : F.ok x) (hl : l.length ≤ 10000000) (hB : B ≤ w.heap.size) :
    ∃ v' w', (Builtin.append_ #[t, t] ty #[v, .slice (some ⟨w.heap.size, 0, none⟩) 1 1]).run P (w.alloc (.cells cs T)) = .ok v' w' ∧ OwnT F T w' B v' (l ++ [x]) ∧ Below B w w' := by
  obtain ⟨i0, z, m, q1, q2, q3, q4, q5, q6⟩ := E.info
  obtain ⟨g, off, cap, cur, rfl, h1, h2, h3, h4, h5, h6⟩ := h
  have hgl : g < w.heap.size := (Array.getElem?_eq_some_iff.1 h2).1
  have h2' : (w.alloc (.cells cs T)).heap[g]? = some (.cells cur T (0, 0)) := (Below.heap_alloc _ _ g hgl).trans h2
  have hadd : ∀ j, (⟨g, off, none⟩ : Addr).add j = ⟨g, off + j, none⟩ := fun j => by unfold Addr.add; split <;> simp_all
  have hok : ∀ a ∈ l ++ [x], F.ok a := fun a ha => by
    rcases List.mem_append.1 ha with k | k
    · exact h6 a k
    · rw [List.mem_singleton.1 k]; exact hx
  have hnew : ∀ (j : Nat) (u : Value), (F.enc x)[j]? = some u → (w.alloc (.cells cs T)).cell? ((⟨w.heap.size, 0, none⟩ : Addr).add j) = some u := fun j u hu => by
    have e : (⟨w.heap.size, 0, none⟩ : Addr).add j = ⟨w.heap.size, j, none⟩ := by unfold Addr.add; split <;> simp_all
    rw [e]
    exact blk_cell (blk_new w (.cells cs T)) j (by rw [← Array.getElem?_toList, hcs]; exact hu)
  have hxl : (F.enc x).length = F.sz := F.len x
  have hf1 : (l ++ [x]).flatMap F.enc = l.flatMap F.enc ++ F.enc x := by rw [flat_app]; simp
  have hll : (l.flatMap F.enc).length = l.length * F.sz := flat_len l
  by_cases hc : l.length + 1 ≤ cap
  · have hroom : off + l.length * F.sz + F.sz ≤ cur.size := by
      have : (l.length + 1) * F.sz ≤ cap * F.sz := Nat.mul_le_mul_right _ hc
      rw [Nat.add_mul, Nat.one_mul] at this
      omega
    have hf := run_firstCells_some (P := P) (w.alloc (.cells cs T)) i0.size 1 ⟨w.heap.size, 0, none⟩ 1 1 (F.enc x) (by rw [q3, hxl, Nat.one_mul]) hnew
    have hst := run_storeCells_at P g (off + l.length * F.sz) T (F.enc x) 0 cur _ h2' (by rw [hxl]; omega) (fun v hv => by have := flat_one [x] v (by simpa using hv); exact this)
    simp only [Nat.add_zero, hxl] at hst
    obtain ⟨cur2, hcur2⟩ : ∃ cur2, cur2 = (cur.toList.take (off + l.length * F.sz) ++ F.enc x ++ cur.toList.drop (off + l.length * F.sz + F.sz)).toArray := ⟨_, rfl⟩
    rw [← hcur2] at hst
    have hlen : (cur.toList.take (off + l.length * F.sz)).length = off + l.length * F.sz := by rw [List.length_take, Array.length_toList (xs := cur)]; omega
    refine ⟨.slice (some ⟨g, off, none⟩) (l.length + 1) cap, (w.alloc (.cells cs T)).setRow g cur2, ?_, ⟨g, off, cap, cur2, by rw [List.length_append]; rfl, h1, setRow_heap _ g cur _ T _ h2', by simp; omega, ?_, fun j u hu => ?_, hok⟩, ⟨rfl, rfl, rfl, by simp, fun k hk => ?_⟩⟩
    · simp [Builtin.append_, run_underlying E.ut, sizeOf, typeInfo, q1, q3, Builtin.lenOf, hc, hadd]
      rw [q3] at hf
      simp [hf, hst]
    · rw [hcur2]
      simp only [List.size_toArray, List.length_append, hlen, hxl, List.length_drop, Array.length_toList (xs := cur)]
      omega
    · rw [hcur2, List.getElem?_toArray, List.append_assoc]
      rw [hf1] at hu
      rcases Nat.lt_or_ge j (l.length * F.sz) with c | c
      · rw [List.getElem?_append_left (by rw [hll]; exact c)] at hu
        rw [List.getElem?_append_left (by rw [hlen]; omega), List.getElem?_take_of_lt (by omega), Array.getElem?_toList]
        exact h5 j u hu
      · rw [List.getElem?_append_right (by rw [hll]; exact c), hll] at hu
        have hj : j - l.length * F.sz < F.sz := by have := (List.getElem?_eq_some_iff.1 hu).1; rw [hxl] at this; exact this
        rw [List.getElem?_append_right (by rw [hlen]; omega), hlen, List.getElem?_append_left (by rw [hxl]; omega), show off + j - (off + l.length * F.sz) = j - l.length * F.sz by omega]
        exact hu
    · exact (setRow_other (w.alloc (.cells cs T)) g k cur2 (fun e => by omega)).trans (Below.heap_alloc _ _ k (by omega))
  · have holds : ∀ (j : Nat) (u : Value), (l.flatMap F.enc)[j]? = some u → (w.alloc (.cells cs T)).cell? ((⟨g, off, none⟩ : Addr).add j) = some u := fun j u hu => by
      rw [hadd, cell_of_row _ g (off + j) cur T (0, 0) h2']
      exact h5 j u hu
    have hr := run_append_grow (P := P) (w.alloc (.cells cs T)) t ty T i0 z E.ut q1 q2 ⟨g, off, none⟩ l.length cap (l.flatMap F.enc) (by rw [q3, hll]) holds ⟨w.heap.size, 0, none⟩ 1 1 (F.enc x) (by rw [q3, hxl, Nat.one_mul]) hnew (by omega) (by omega)
      (growslice_fits (by omega) (by rw [q4]; exact Nat.le_trans (Nat.mul_le_mul (show l.length + 1 ≤ 100000000 by omega) q5) (by omega)))
    have hge := grownCap_ge (w.alloc (.cells cs T)) (l.length + 1) cap T
    refine ⟨_, _, hr, ⟨_, 0, _, _, by rw [List.length_append]; rfl, ?_, heap_alloc_new _ _, by rw [List.length_append]; exact hge, ?_, fun j u hu => ?_, hok⟩, ⟨rfl, rfl, rfl, ?_, fun k hk => ?_⟩⟩
    · simp; omega
    · simp only [Array.size_append, List.size_toArray, size_zeroCells, q6, hll, hxl]
      have : (l.length + 1) * F.sz + (grownCap (w.alloc (.cells cs T)) (l.length + 1) cap T - (l.length + 1)) * F.sz = grownCap (w.alloc (.cells cs T)) (l.length + 1) cap T * F.sz := by rw [← Nat.add_mul]; congr 1; omega
      rw [Nat.add_mul, Nat.one_mul] at this
      omega
    · have hj : j < (l.flatMap F.enc ++ F.enc x).length := by rw [← hf1]; exact (List.getElem?_eq_some_iff.1 hu).1
      rw [Nat.zero_add, Array.getElem?_append_left (by simpa using hj)]
      have e : (l.flatMap F.enc).toArray ++ (F.enc x).toArray = ((l ++ [x]).flatMap F.enc).toArray := by rw [hf1]; simp
      rw [e, List.getElem?_toArray]
      exact hu
    · simp; omega
    · exact (Below.heap_alloc _ _ k (show k < (w.alloc _).heap.size by simp; omega)).trans (Below.heap_alloc w _ k (by omega))
end
end Go.Proofs.YtagkmfhicpcjnaaDoor
/- A whole element of a row of the call's own is written (any flat type); for every seat. -/
set_option linter.unusedVariables false
set_option maxRecDepth 100000
namespace Go.Proofs.YtagkmfhicpcjnaaDoor
open Go.RowKit
/-- Values set one by one from a place on. -/
def setAll {β : Type} : List β → Nat → List β → List β
  | xs, _, [] => xs
  | xs, o, v :: r => setAll (xs.set o v) (o + 1) r
theorem setAll_len {β : Type} : ∀ (vs xs : List β) (o : Nat), (setAll xs o vs).length = xs.length
  | [], xs, o => rfl
  | v :: r, xs, o => by unfold setAll; rw [setAll_len r, List.length_set]
theorem setAll_out {β : Type} : ∀ (vs xs : List β) (o k : Nat), (k < o ∨ o + vs.length ≤ k) → (setAll xs o vs)[k]? = xs[k]?
  | [], xs, o, k, _ => rfl
  | v :: r, xs, o, k, h => by
    unfold setAll
    rw [setAll_out r _ (o + 1) k (by simp only [List.length_cons] at h; omega), List.getElem?_set_ne (by simp only [List.length_cons] at h; omega)]
theorem setAll_in {β : Type} : ∀ (vs xs : List β) (o j : Nat), j < vs.length → o + vs.length ≤ xs.length → (setAll xs o vs)[o + j]? = vs[j]?
  | v :: r, xs, o, 0, _, h => by
    unfold setAll
    rw [setAll_out r _ (o + 1) (o + 0) (by omega), Nat.add_zero, List.getElem?_set_self (by simp only [List.length_cons] at h; omega)]
    rfl
  | v :: r, xs, o, j + 1, hj, h => by
    unfold setAll
    rw [show o + (j + 1) = o + 1 + j by omega, setAll_in r _ (o + 1) j (by simpa using hj) (by rw [List.length_set]; simp only [List.length_cons] at h; omega)]
    rfl
section
variable {α : Type} {F : Flat α} {T : TypeId}
theorem flat_whole (l : List α) (i : Nat) (hi : i < l.length) (a : α) : setAll (l.flatMap F.enc) (i * F.sz) (F.enc a) = (l.set i a).flatMap F.enc := by
  have hp := F.pos
  have hla := F.len a
  have hlen : (l.flatMap F.enc).length = l.length * F.sz := flat_len l
  have hin : i * F.sz + F.sz ≤ l.length * F.sz := by
    have : (i + 1) * F.sz ≤ l.length * F.sz := Nat.mul_le_mul_right _ hi
    rw [Nat.add_mul, Nat.one_mul] at this
    exact this
  apply List.ext_getElem?
  intro k
  by_cases hk : k < l.length * F.sz
  · have hq : k / F.sz < l.length := Nat.div_lt_of_lt_mul (by rw [Nat.mul_comm]; exact hk)
    have hr : k % F.sz < F.sz := Nat.mod_lt _ hp
    have hkq : k = k / F.sz * F.sz + k % F.sz := by rw [Nat.mul_comm]; exact (Nat.div_add_mod k F.sz).symm
    have e2 : ((l.set i a).flatMap F.enc)[k]? = (F.enc ((l.set i a)[k / F.sz]'(by rw [List.length_set]; exact hq)))[k % F.sz]? := by
      have := flat_get (F := F) (l.set i a) (k / F.sz) (by rw [List.length_set]; exact hq) (k % F.sz) hr
      rw [← hkq] at this
      exact this
    rw [e2, List.getElem_set]
    by_cases c : i = k / F.sz
    · rw [if_pos c]
      have := setAll_in (F.enc a) (l.flatMap F.enc) (i * F.sz) (k % F.sz) (by rw [hla]; exact hr) (by rw [hla, hlen]; exact hin)
      rw [show i * F.sz + k % F.sz = k by rw [c]; exact hkq.symm] at this
      exact this
    · rw [if_neg c]
      have hap : k < i * F.sz ∨ i * F.sz + (F.enc a).length ≤ k := by
        rw [hla]
        rcases Nat.lt_or_gt_of_ne c with c | c
        · right
          have : (i + 1) * F.sz ≤ k / F.sz * F.sz := Nat.mul_le_mul_right _ c
          rw [Nat.add_mul, Nat.one_mul] at this
          omega
        · left
          have : (k / F.sz + 1) * F.sz ≤ i * F.sz := Nat.mul_le_mul_right _ c
          rw [Nat.add_mul, Nat.one_mul] at this
          omega
      rw [setAll_out _ _ _ _ hap]
      have := flat_get (F := F) l (k / F.sz) hq (k % F.sz) hr
      rw [← hkq] at this
      exact this
  · rw [List.getElem?_eq_none (by rw [setAll_len, hlen]; omega), List.getElem?_eq_none (by rw [flat_len, List.length_set]; omega)]
theorem row_setCells {w : World} {B g cap n sz : Nat} : ∀ (vs xs : List Value) (o : Nat) (w : World), w.ownsRow B T sz (.slice (some ⟨g, 0, none⟩) n cap) n xs → (w.setCells g o vs).ownsRow B T sz (.slice (some ⟨g, 0, none⟩) n cap) n (setAll xs o vs)
  | [], _, _, _, h => h
  | v :: r, xs, o, w, h => by
    unfold World.setCells setAll
    exact row_setCells (w := w) r _ (o + 1) _ (h.stored o v).1
/-- The i-th element is written. -/
theorem OwnF.whole {w : World} {B g cap : Nat} {l : List α} (h : OwnF F T w B (.slice (some ⟨g, 0, none⟩) l.length cap) l) (i : Nat) (hi : i < l.length) (a : α) (hok : F.ok a) :
    OwnF F T (w.setCells g (i * F.sz) (F.enc a)) B (.slice (some ⟨g, 0, none⟩) l.length cap) (l.set i a) := by
  refine ⟨?_, fun x hx => ?_⟩
  · rw [List.length_set, ← flat_whole l i hi a]
    exact row_setCells (w := w) _ _ _ _ h.1
  · rcases List.mem_or_eq_of_mem_set hx with hx | rfl
    · exact h.2 x hx
    · exact hok
/-- Its cells are there, and may be written. -/
theorem OwnF.there {w : World} {B g cap : Nat} {l : List α} (h : OwnF F T w B (.slice (some ⟨g, 0, none⟩) l.length cap) l) (i : Nat) (hi : i < l.length) : w.there g (i * F.sz) F.sz := fun j hj => by
  refine ⟨?_, h.fr _⟩
  rw [h.cell i hi j hj, List.getElem?_eq_getElem (by rw [F.len]; exact hj)]
  rfl
theorem below_setCells {B : Nat} {a : World} {g : Nat} (hg : B ≤ g) : ∀ (vs : List Value) (o : Nat) (w : World), Below B a w → Below B a (w.setCells g o vs)
  | [], _, _, h => h
  | v :: r, o, w, h => by
    unfold World.setCells
    exact below_setCells hg r (o + 1) _ (h.setCell hg _)
end
/-- A struct is put together: the values of its parts, its cells laid. -/
theorem wpl_build {P : Program} {ops : Array Oper} {rest : List Oper} {o : Oper} {a : Act} {w : World} {Q : Exit → Act → World → Prop} (hg : o.guard = none) (t : TypeId) (parts : Array (Nat × Operand)) (ho : o.op = Op.build t parts) (vs : Array (Nat × Value)) (cells : Array Value) (h : P.built t vs.toList = some cells) (hv : (parts.map fun (i, x) => (i, a.eval x)) = vs)
    (hk : wpList P ops Q rest (a.put o.dst (.agg cells)) w) : wpList P ops Q (o :: rest) a w := by
  refine wpList_plain hg fun K hK => ?_
  have e := run_build w t vs cells h
  rw [← hv] at e
  unfold Oper.wp execOp
  simp only [ho, e, Result.andThen_ok, Sem.run_bind, Sem.run_pure]
  exact hK _ _ hk
/-- A slice literal whose run is known. -/
theorem wpl_bsl_run {P : Program} {ops : Array Oper} {rest : List Oper} {o : Oper} {a : Act} {w : World} {Q : Exit → Act → World → Prop} (hg : o.guard = none) (t : TypeId) (len : Nat) (parts : Array (Nat × Operand)) (ho : o.op = .buildSlice t len parts) (vs : Array (Nat × Value))
    (v' : Value) (w' : World) (hr : (Instr.buildSlice t len vs).run P w = .ok v' w') (hv : (parts.map fun (i, x) => (i, a.eval x)) = vs) (h : wpList P ops Q rest (a.put o.dst v') w') : wpList P ops Q (o :: rest) a w := by
  refine wpList_plain hg fun K hK => ?_
  rw [← hv] at hr
  unfold Oper.wp execOp
  simp only [ho, hr, Result.andThen_ok, Sem.run_bind, Sem.run_pure]
  exact hK _ _ h
end Go.Proofs.YtagkmfhicpcjnaaDoor
/- Rows of the call's own of any flat type, written in place at any offset: appended to within their room, an element taken out, cleared, packed; for every seat. -/
set_option linter.unusedVariables false
set_option maxRecDepth 100000
namespace Go.Proofs.YtagkmfhicpcjnaaDoor
open Go.RowKit

theorem setCell_grown (w : World) (a : Addr) (v : Value) : w.grownBy (w.setCell a v) (some a.block) := ⟨rfl, rfl, rfl, by rw [World.size_setCell]; exact Nat.le_refl _, fun k hk hr => Below.heap_setCell w a v k (fun e => hr (by rw [e]))⟩
theorem gr_trans {a b c : World} {r : Option Nat} (h : a.grownBy b r) (k : b.grownBy c r) : a.grownBy c r :=
  ⟨k.os.trans h.os, k.tape.trans h.tape, k.output.trans h.output, Nat.le_trans h.size k.size, fun i hi hr => (k.block i (Nat.lt_of_lt_of_le hi h.size) hr).trans (h.block i hi hr)⟩
theorem gr_refl (w : World) (r : Option Nat) : w.grownBy w r := ⟨rfl, rfl, rfl, Nat.le_refl _, fun _ _ _ => rfl⟩
theorem gr_drew (w : World) (n : Nat) (r : Option Nat) : w.grownBy (w.drewN n) r := gb_below (below_drewN (Below.refl _ _) n)
theorem gr_below {a b : World} {B : Nat} {r : Option Nat} (h : a.grownBy b r) (hB : ∀ g, r = some g → B ≤ g) (hs : B ≤ a.heap.size) : Below B a b :=
  ⟨h.os, h.tape, h.output, h.size, fun k hk => h.block k (by omega) fun e => by have := hB k e.symm; omega⟩
theorem setCells_grown (g : Nat) : ∀ (vs : List Value) (o : Nat) (w : World), w.grownBy (w.setCells g o vs) (some g)
  | [], _, w => gr_refl w _
  | v :: r, o, w => gr_trans (setCell_grown w ⟨g, o, none⟩ v) (setCells_grown g r (o + 1) _)
theorem setCells_blk {g : Nat} {T : TypeId} : ∀ (vs : List Value) (o : Nat) (w : World) (cur : Array Value), w.heap[g]? = some (.cells cur T (0, 0)) → (w.setCells g o vs).heap[g]? = some (.cells (setAll cur.toList o vs).toArray T (0, 0))
  | [], _, _, cur, h => by unfold World.setCells setAll; simpa using h
  | v :: r, o, w, cur, h => by
    unfold World.setCells setAll
    have := setCells_blk r (o + 1) _ _ (blk_set h o v)
    simpa [Array.toList_setIfInBounds] using this

section
variable {α : Type} {F : Flat α} {T : TypeId}
/-- From place o on the cells are the list's. -/
def HasR (F : Flat α) (cur : List Value) (o : Nat) (l : List α) : Prop := ∀ (j : Nat) (u : Value), (l.flatMap F.enc)[j]? = some u → cur[o + j]? = some u
theorem HasR.nil (cur : List Value) (o : Nat) : HasR F cur o [] := fun j u h => by simp at h
theorem HasR.fst {cur : List Value} {o : Nat} {a b : List α} (h : HasR F cur o (a ++ b)) : HasR F cur o a := fun j u hu => h j u (by
  rw [flat_app, List.getElem?_append_left (List.getElem?_eq_some_iff.1 hu).1]; exact hu)
theorem HasR.snd {cur : List Value} {o : Nat} {a b : List α} (h : HasR F cur o (a ++ b)) : HasR F cur (o + a.length * F.sz) b := fun j u hu => by
  have := h (a.length * F.sz + j) u (by rw [flat_app, List.getElem?_append_right (by rw [flat_len]; omega), flat_len, Nat.add_sub_cancel_left]; exact hu)
  rw [← Nat.add_assoc] at this
  exact this
theorem HasR.two {cur : List Value} {o : Nat} {a b : List α} (h : HasR F cur o a) (h2 : HasR F cur (o + a.length * F.sz) b) : HasR F cur o (a ++ b) := fun j u hu => by
  rw [flat_app] at hu
  rcases Nat.lt_or_ge j (a.length * F.sz) with c | c
  · rw [List.getElem?_append_left (by rw [flat_len]; exact c)] at hu
    exact h j u hu
  · rw [List.getElem?_append_right (by rw [flat_len]; exact c), flat_len] at hu
    have := h2 _ u hu
    rw [show o + a.length * F.sz + (j - a.length * F.sz) = o + j by omega] at this
    exact this
theorem HasR.out {cur : List Value} {o p : Nat} {l : List α} (h : HasR F cur o l) (vs : List Value) (hd : o + l.length * F.sz ≤ p ∨ p + vs.length ≤ o) : HasR F (setAll cur p vs) o l := fun j u hu => by
  have hj : j < l.length * F.sz := by rw [← flat_len (F := F)]; exact (List.getElem?_eq_some_iff.1 hu).1
  rw [setAll_out vs cur p (o + j) (by omega)]
  exact h j u hu
theorem HasR.put {cur : List Value} {o : Nat} (m : List α) (hf : o + m.length * F.sz ≤ cur.length) : HasR F (setAll cur o (m.flatMap F.enc)) o m := fun j u hu => by
  have hj := (List.getElem?_eq_some_iff.1 hu).1
  rw [setAll_in _ cur o j hj (by rw [flat_len]; exact hf)]
  exact hu

/-- A row, by its words. -/
structure RoT (F : Flat α) (T : TypeId) (w : World) (B g off cap : Nat) (cur : Array Value) (l : List α) : Prop where
  base : B ≤ g
  blk : w.heap[g]? = some (.cells cur T (0, 0))
  len : l.length ≤ cap
  room : off + cap * F.sz ≤ cur.size
  has : HasR F cur.toList off l
  ok : ∀ a ∈ l, F.ok a
theorem RoT.own {w : World} {B g off cap : Nat} {cur : Array Value} {l : List α} (h : RoT F T w B g off cap cur l) : OwnT F T w B (.slice (some ⟨g, off, none⟩) l.length cap) l :=
  ⟨g, off, cap, cur, rfl, h.base, h.blk, h.len, h.room, fun j u hu => by have := h.has j u hu; rw [Array.getElem?_toList] at this; exact this, h.ok⟩
theorem OwnT.ro {w : World} {B : Nat} {v : Value} {l : List α} (h : OwnT F T w B v l) : ∃ g off cap cur, v = .slice (some ⟨g, off, none⟩) l.length cap ∧ RoT F T w B g off cap cur l := by
  obtain ⟨g, off, cap, cur, e, h1, h2, h3, h4, h5, h6⟩ := h
  exact ⟨g, off, cap, cur, e, h1, h2, h3, h4, fun j u hu => by rw [Array.getElem?_toList]; exact h5 j u hu, h6⟩
theorem RoT.below {w w' : World} {B g off cap : Nat} {cur : Array Value} {l : List α} (h : RoT F T w B g off cap cur l) (hb : Below w.heap.size w w') : RoT F T w' B g off cap cur l :=
  ⟨h.base, (hb.block g (Array.getElem?_eq_some_iff.1 h.blk).1).trans h.blk, h.len, h.room, h.has, h.ok⟩
theorem RoT.kept {w w' : World} {B g off cap : Nat} {cur : Array Value} {l : List α} {r : Option Nat} (h : RoT F T w B g off cap cur l) (hg : w.grownBy w' r) (hr : some g ≠ r) : RoT F T w' B g off cap cur l :=
  ⟨h.base, (hg.block g (Array.getElem?_eq_some_iff.1 h.blk).1 hr).trans h.blk, h.len, h.room, h.has, h.ok⟩
theorem RoT.lt {w : World} {B g off cap : Nat} {cur : Array Value} {l : List α} (h : RoT F T w B g off cap cur l) : g < w.heap.size := (Array.getElem?_eq_some_iff.1 h.blk).1
theorem RoT.cell {w : World} {B g off cap : Nat} {cur : Array Value} {l : List α} (h : RoT F T w B g off cap cur l) (i : Nat) (hi : i < l.length) (j : Nat) (hj : j < F.sz) : w.cell? ⟨g, off + i * F.sz + j, none⟩ = (F.enc l[i])[j]? := by
  have e := flat_get (F := F) l i hi j hj
  cases hv : (F.enc l[i])[j]? with
  | none => exact absurd (List.getElem?_eq_none_iff.1 hv) (by rw [F.len]; omega)
  | some u =>
    rw [hv] at e
    have := h.has _ u e
    rw [cell_of_row w g _ cur T (0, 0) h.blk, ← Array.getElem?_toList, Nat.add_assoc]
    exact this
theorem RoT.there {w : World} {B g off cap : Nat} {cur : Array Value} {l : List α} (h : RoT F T w B g off cap cur l) (i : Nat) (hi : i < cap) : w.there g (off + i * F.sz) F.sz := fun j hj => by
  have : (i + 1) * F.sz ≤ cap * F.sz := Nat.mul_le_mul_right _ hi
  rw [Nat.add_mul, Nat.one_mul] at this
  have hr := h.room
  refine ⟨?_, blk_fr h.blk _⟩
  rw [cell_of_row w g _ cur T (0, 0) h.blk, Array.getElem?_eq_getElem (by omega)]
  rfl
theorem add_at (g o j : Nat) : (⟨g, o, none⟩ : Addr).add j = ⟨g, o + j, none⟩ := by unfold Addr.add; split <;> simp_all
/-- 'append' within the room. -/
theorem RoT.app {P : Program} {t : TypeId} (E : Elems P t T F.sz) {w : World} {B g off cap : Nat} {cur : Array Value} {a m : List α} (ty : TypeId) (h : RoT F T w B g off cap cur a) (A2 : Addr) (c2 : Nat) (hm : ∀ (j : Nat) (u : Value), (m.flatMap F.enc)[j]? = some u → w.cell? (A2.add j) = some u) (hok : ∀ x ∈ m, F.ok x) (hc : a.length + m.length ≤ cap) :
    ∃ w' cur', (Builtin.append_ #[t, t] ty #[.slice (some ⟨g, off, none⟩) a.length cap, .slice (some A2) m.length c2]).run P w = .ok (.slice (some ⟨g, off, none⟩) (a.length + m.length) cap) w' ∧ RoT F T w' B g off cap cur' (a ++ m) ∧ cur'.size = cur.size ∧ w.grownBy w' (some g) := by
  obtain ⟨i0, z, bts, q1, q2, q3, q4, q5, q6⟩ := E.info
  have hmul : a.length * F.sz + m.length * F.sz ≤ cap * F.sz := by rw [← Nat.add_mul]; exact Nat.mul_le_mul_right _ hc
  have hr := h.room
  have hf := run_firstCells_some (P := P) w i0.size m.length A2 m.length c2 (m.flatMap F.enc) (by rw [q3, flat_len]) hm
  have hst := run_storeCells_cells (P := P) g (off + a.length * F.sz) (m.flatMap F.enc) 0 w (fun j hj => by
      rw [flat_len] at hj
      rw [cell_of_row w g _ cur T (0, 0) h.blk, Array.getElem?_eq_getElem (by omega)]; rfl) (fun j hj => blk_fr h.blk _) (flat_one m)
  rw [Nat.add_zero] at hst
  refine ⟨w.setCells g (off + a.length * F.sz) (m.flatMap F.enc), _, ?_, ⟨h.base, setCells_blk _ _ _ _ h.blk, by rw [List.length_append]; exact hc, ?_, ?_, fun x hx => ?_⟩, ?_, setCells_grown g _ _ _⟩
  · rw [q3] at hf
    simp [Builtin.append_, run_underlying E.ut, sizeOf, typeInfo, q1, q3, Builtin.lenOf, hc, add_at, hf, hst]
  · rw [List.size_toArray, setAll_len, Array.length_toList]; exact hr
  · simp only
    exact (h.has.out _ (Or.inl (Nat.le_refl _))).two (HasR.put m (by rw [Array.length_toList (xs := cur)]; omega))
  · rcases List.mem_append.1 hx with k | k
    · exact h.ok x k
    · exact hok x k
  · rw [List.size_toArray, setAll_len, Array.length_toList]
theorem RoT.take {w : World} {B g off cap : Nat} {cur : Array Value} {l : List α} (h : RoT F T w B g off cap cur l) (k : Nat) : RoT F T w B g off cap cur (l.take k) :=
  ⟨h.base, h.blk, by rw [List.length_take]; have := h.len; omega, h.room, by have q := h.has; rw [← List.take_append_drop k l] at q; exact q.fst, fun a ha => h.ok a (List.mem_of_mem_take ha)⟩
theorem RoT.drop {w : World} {B g off cap : Nat} {cur : Array Value} {l : List α} (h : RoT F T w B g off cap cur l) (k : Nat) (hk : k ≤ l.length) : HasR F cur.toList (off + k * F.sz) (l.drop k) := by
  have q := h.has
  rw [← List.take_append_drop k l] at q
  have := q.snd
  rw [List.length_take, Nat.min_eq_left hk] at this
  exact this
/-- 'clear' of what lies behind. -/
theorem RoT.clear {P : Program} {t : TypeId} (ut : P.underlying t = some (.slice T)) {z : Array Value} (zRun : ∀ w : World, (zeroValue T).run P w = .ok (.agg z) w) (z1 : z.size = F.sz) (z2 : ∀ v ∈ z, v.oneCell' = true) {w : World} {B g off cap : Nat} {cur : Array Value} {l : List α} (ty : TypeId) (h : RoT F T w B g off cap cur l) (o n c3 : Nat) (ho : l.length ≤ o) (hn : o + n ≤ cap) :
    ∃ w' cur', (Builtin.clear_ #[t] ty #[.slice (some ⟨g, off + o * F.sz, none⟩) n c3]).run P w = .ok (.tuple #[]) w' ∧ RoT F T w' B g off cap cur' l ∧ cur'.size = cur.size ∧ w.grownBy w' (some g) := by
  have hmul : o * F.sz + n * F.sz ≤ cap * F.sz := by rw [← Nat.add_mul]; exact Nat.mul_le_mul_right _ hn
  have hmo : l.length * F.sz ≤ o * F.sz := Nat.mul_le_mul_right _ ho
  have hr := h.room
  have hzl : (Builtin.zeroCells z n).toList.length = n * F.sz := by rw [Array.length_toList, size_zeroCells, z1]
  have hz1 : ∀ v ∈ (Builtin.zeroCells z n).toList, v.oneCell' = true := fun v hv => by
    unfold Builtin.zeroCells at hv
    simp only [Array.toList_map, List.mem_map] at hv
    obtain ⟨i, hi, rfl⟩ := hv
    have hz0 : 0 < z.size := by rw [z1]; exact F.pos
    have hlt := Nat.mod_lt i hz0
    rw [getElem!_pos z _ hlt]
    exact z2 _ (Array.getElem_mem hlt)
  have hst := run_storeCells_cells (P := P) g (off + o * F.sz) (Builtin.zeroCells z n).toList 0 w (fun j hj => by
      rw [hzl] at hj
      rw [cell_of_row w g _ cur T (0, 0) h.blk, Array.getElem?_eq_getElem (by omega)]; rfl) (fun j hj => blk_fr h.blk _) hz1
  rw [Nat.add_zero] at hst
  by_cases h0 : n = 0
  · subst h0
    refine ⟨w, cur, ?_, h, rfl, gr_refl _ _⟩
    simp [Builtin.clear_, run_underlying ut]
  · obtain ⟨n', rfl⟩ : ∃ k, n = k + 1 := ⟨n - 1, by omega⟩
    refine ⟨w.setCells g (off + o * F.sz) (Builtin.zeroCells z (n' + 1)).toList, _, ?_, ⟨h.base, setCells_blk _ _ _ _ h.blk, h.len, ?_, ?_, h.ok⟩, ?_, setCells_grown g _ _ _⟩
    · simp [Builtin.clear_, run_underlying ut, zRun, Value.cells, hst]
    · rw [List.size_toArray, setAll_len, Array.length_toList]; exact hr
    · simp only
      exact h.has.out _ (Or.inl (by omega))
    · rw [List.size_toArray, setAll_len, Array.length_toList]
/-- Slices of a row. -/
theorem RoT.to {P : Program} {t : TypeId} (ut : P.underlying t = some (.slice (P.elem t))) (sz : ∀ W : World, (sizeOf (P.elem t)).run P W = .ok F.sz W) (g off n cap k : Nat) (hk : k ≤ cap) :
    ∀ W : World, (Instr.sliceAt t (.slice (some ⟨g, off, none⟩) n cap) none (some (.int .i64 (k : Int))) none).run P W = .ok (.slice (some ⟨g, off, none⟩) k cap) W := fun W => by
  rw [run_sliceAt_slice W _ _ _ _ _ ut, run_slice_h W _ _ n cap ut .i64 k (by omega) (by omega), sz]
  unfold sliced
  simp [add_at]
theorem RoT.from {P : Program} {t : TypeId} (ut : P.underlying t = some (.slice (P.elem t))) (sz : ∀ W : World, (sizeOf (P.elem t)).run P W = .ok F.sz W) (g off n cap k : Nat) (hk : k ≤ n) (i : Int) (hi : i = k) :
    ∀ W : World, (Instr.sliceAt t (.slice (some ⟨g, off, none⟩) n cap) (some (.int .i64 i)) none none).run P W = .ok (.slice (some (if cap = k then ⟨g, off, none⟩ else ⟨g, off + k * F.sz, none⟩)) (n - k) (cap - k)) W := fun W => by
  subst hi
  rw [run_sliceAt_slice W _ _ _ _ _ ut, run_slice_l W _ _ n cap ut .i64 k (by omega) (by omega), sz]
  unfold sliced
  by_cases hc : cap = k
  · simp [hc]
  · simp [hc, add_at]
theorem RoT.part {P : Program} {t : TypeId} (ut : P.underlying t = some (.slice (P.elem t))) (sz : ∀ W : World, (sizeOf (P.elem t)).run P W = .ok F.sz W) (g off n cap k e : Nat) (hk : k ≤ e) (he : e ≤ cap) (i j : Int) (hi : i = k) (hj : j = e) :
    ∀ W : World, (Instr.sliceAt t (.slice (some ⟨g, off, none⟩) n cap) (some (.int .i64 i)) (some (.int .i64 j)) none).run P W = .ok (.slice (some (if cap = k then ⟨g, off, none⟩ else ⟨g, off + k * F.sz, none⟩)) (e - k) (cap - k)) W := fun W => by
  subst hi hj
  rw [run_sliceAt_slice W _ _ _ _ _ ut, run_slice_lh W _ _ n cap ut .i64 .i64 k e (by omega) (by omega) (by omega), sz]
  unfold sliced
  by_cases hc : cap = k
  · simp [hc]
  · simp [hc, add_at]
theorem RoT.part3 {P : Program} {t : TypeId} (ut : P.underlying t = some (.slice (P.elem t))) (sz : ∀ W : World, (sizeOf (P.elem t)).run P W = .ok F.sz W) (g off n cap k e f : Nat) (hk : k ≤ e) (he : e ≤ f) (hf : f ≤ cap) (i j : Int) (hi : i = k) (hj : j = e) :
    ∀ W : World, (Instr.sliceAt t (.slice (some ⟨g, off, none⟩) n cap) (some (.int .i64 i)) (some (.int .i64 j)) (some (.int .i64 (f : Int)))).run P W = .ok (.slice (some (if f = k then ⟨g, off, none⟩ else ⟨g, off + k * F.sz, none⟩)) (e - k) (f - k)) W := fun W => by
  subst hi hj
  rw [run_sliceAt_slice W _ _ _ _ _ ut, run_slice_lhm W _ _ n cap ut .i64 .i64 .i64 k e f (by omega) (by omega) (by omega) (by omega), sz]
  unfold sliced
  by_cases hc : f = k
  · simp [hc]
  · simp [hc, add_at]

/-- A row that is being packed: a has its place, b is still to be looked at, from element m on. -/
structure MidT (F : Flat α) (T : TypeId) (w : World) (B g off cap : Nat) (a : List α) (m : Nat) (b : List α) : Prop where
  base : B ≤ g
  le : a.length ≤ m
  fit : m + b.length ≤ cap
  ex : ∃ cur, w.heap[g]? = some (.cells cur T (0, 0)) ∧ off + cap * F.sz ≤ cur.size ∧ HasR F cur.toList off a ∧ HasR F cur.toList (off + m * F.sz) b
  oka : ∀ x ∈ a, F.ok x
  okb : ∀ x ∈ b, F.ok x
theorem RoT.mid {w : World} {B g off cap : Nat} {cur : Array Value} {l : List α} (h : RoT F T w B g off cap cur l) (k : Nat) (hk : k ≤ l.length) : MidT F T w B g off cap (l.take k) k (l.drop k) :=
  ⟨h.base, by rw [List.length_take]; omega, by rw [List.length_drop]; have := h.len; omega, ⟨cur, h.blk, h.room, (h.take k).has, h.drop k hk⟩, fun x hx => h.ok x (List.mem_of_mem_take hx), fun x hx => h.ok x (List.mem_of_mem_drop hx)⟩
theorem MidT.ro {w : World} {B g off cap m : Nat} {a b : List α} (h : MidT F T w B g off cap a m b) : ∃ cur, RoT F T w B g off cap cur a := by
  obtain ⟨cur, h1, h2, h3, h4⟩ := h.ex
  exact ⟨cur, h.base, h1, by have := h.le; have := h.fit; omega, h2, h3, h.oka⟩
theorem MidT.below {w w' : World} {B g off cap m : Nat} {a b : List α} (h : MidT F T w B g off cap a m b) (hb : Below w.heap.size w w') : MidT F T w' B g off cap a m b := by
  obtain ⟨cur, h1, h2⟩ := h.ex
  exact ⟨h.base, h.le, h.fit, ⟨cur, (hb.block g (Array.getElem?_eq_some_iff.1 h1).1).trans h1, h2⟩, h.oka, h.okb⟩
theorem MidT.lt {w : World} {B g off cap m : Nat} {a b : List α} (h : MidT F T w B g off cap a m b) : g < w.heap.size := by
  obtain ⟨cur, h1, h2⟩ := h.ex
  exact (Array.getElem?_eq_some_iff.1 h1).1
theorem MidT.skip {w : World} {B g off cap m : Nat} {a b : List α} {x : α} (h : MidT F T w B g off cap a m (x :: b)) : MidT F T w B g off cap a (m + 1) b := by
  obtain ⟨cur, h1, h2, h3, h4⟩ := h.ex
  refine ⟨h.base, by have := h.le; omega, by have := h.fit; simp at this; omega, ⟨cur, h1, h2, h3, ?_⟩, h.oka, fun y hy => h.okb y (List.mem_cons_of_mem _ hy)⟩
  have q : HasR F cur.toList (off + m * F.sz) ([x] ++ b) := h4
  have := q.snd
  rw [List.length_singleton, Nat.one_mul, Nat.add_assoc] at this
  rw [Nat.add_mul, Nat.one_mul]
  exact this
theorem MidT.there {w : World} {B g off cap m : Nat} {a b : List α} (h : MidT F T w B g off cap a m b) (i : Nat) (hi : i < cap) : w.there g (off + i * F.sz) F.sz := by
  obtain ⟨cur, h1⟩ := h.ro
  exact h1.there i hi
theorem MidT.cell {w : World} {B g off cap m : Nat} {a b : List α} {x : α} (h : MidT F T w B g off cap a m (x :: b)) (j : Nat) (hj : j < F.sz) : w.cell? ⟨g, off + m * F.sz + j, none⟩ = (F.enc x)[j]? := by
  obtain ⟨cur, h1, h2, h3, h4⟩ := h.ex
  cases hv : (F.enc x)[j]? with
  | none => exact absurd (List.getElem?_eq_none_iff.1 hv) (by rw [F.len]; omega)
  | some u =>
    have := h4 j u (by rw [List.flatMap_cons, List.getElem?_append_left (by rw [F.len]; exact hj)]; exact hv)
    rw [cell_of_row w g _ cur T (0, 0) h1, ← Array.getElem?_toList]
    exact this
/-- Another element takes the next place. -/
theorem MidT.store {w : World} {B g off cap m : Nat} {a b : List α} {x : α} (h : MidT F T w B g off cap a m (x :: b)) (y : α) (hy : F.ok y) : MidT F T (w.setCells g (off + a.length * F.sz) (F.enc y)) B g off cap (a ++ [y]) (m + 1) b := by
  have hs := h.skip
  obtain ⟨cur, h1, h2, h3, h4⟩ := hs.ex
  have hle := h.le
  have hfit := h.fit
  have hm1 : a.length * F.sz + F.sz ≤ (m + 1) * F.sz := by
    have : (a.length + 1) * F.sz ≤ (m + 1) * F.sz := Nat.mul_le_mul_right _ (by omega)
    rw [Nat.add_mul, Nat.one_mul] at this
    exact this
  have hm2 : (m + 1) * F.sz ≤ cap * F.sz := Nat.mul_le_mul_right _ (by simp at hfit; omega)
  have ey : F.enc y = [y].flatMap F.enc := by simp
  refine ⟨h.base, by rw [List.length_append]; simp; omega, hs.fit, ⟨_, setCells_blk _ _ _ _ h1, by rw [List.size_toArray, setAll_len, Array.length_toList]; exact h2, ?_, ?_⟩, fun z hz => ?_, hs.okb⟩
  · simp only
    refine (h3.out _ (Or.inl (Nat.le_refl _))).two ?_
    rw [ey]
    exact HasR.put [y] (by rw [Array.length_toList (xs := cur), List.length_singleton, Nat.one_mul]; omega)
  · simp only
    exact h4.out _ (Or.inr (by rw [F.len]; omega))
  · rcases List.mem_append.1 hz with k | k
    · exact h.oka z k
    · rw [List.mem_singleton.1 k]; exact hy
end
end Go.Proofs.YtagkmfhicpcjnaaDoor
/- Layer 20: the reference's Take, Decode. -/
set_option linter.unusedVariables false
set_option maxRecDepth 100000
namespace Go.Proofs.YtagkmfhicpcjnaaDoor.Vlu
open Go.RowKit
open Wire (bs enI enT fInt fText pt RB OutR)

/-- What stands where while a value is taken: the Reader, the value's box, the result's box. -/
structure St (w wx : World) (c : Nat) (S : ByteArray) (b1 b2 a : Nat) (e : Int) (u : Vl) : Prop where
  r : RB wx c S a e
  x : wx.heap[b2]? = some (bxV u)
  z : wx.heap[b1]? = some (bxV z0)
  g : w.grownBy wx (some c)
theorem St.grown {w wx wy : World} {c b1 b2 a a' : Nat} {S : ByteArray} {e e' : Int} {u : Vl} (h : St w wx c S b1 b2 a e u) (hg : wx.grownBy wy (some c)) (h1 : b1 ≠ c) (h2 : b2 ≠ c) (hr : RB wy c S a' e') : St w wy c S b1 b2 a' e' u :=
  ⟨hr, blk_grown h.x hg (fun q => h2 (Option.some.inj q)), blk_grown h.z hg (fun q => h1 (Option.some.inj q)), gr_trans h.g hg⟩
theorem St.below {w wx wy : World} {c b1 b2 a : Nat} {S : ByteArray} {e : Int} {u : Vl} (h : St w wx c S b1 b2 a e u) (hb : Below wx.heap.size wx wy) : St w wy c S b1 b2 a e u :=
  ⟨(hb.block c h.r.lt).trans h.r, blk_below h.x hb (blk_lt h.x), blk_below h.z hb (blk_lt h.z), gr_trans h.g (gb_below hb)⟩
theorem gr_set {w wx : World} {r : Option Nat} {b : Nat} (h : w.grownBy wx r) (hb : w.heap.size ≤ b) (j : Nat) (v : Value) : w.grownBy (wx.setCell ⟨b, j, none⟩ v) r :=
  ⟨h.os, h.tape, h.output, by rw [World.size_setCell]; exact h.size, fun k hk hr => (Below.heap_setCell wx ⟨b, j, none⟩ v k (by simp only; omega)).trans (h.block k hk hr)⟩
theorem St.box {w wx : World} {c b1 b2 a : Nat} {S : ByteArray} {e : Int} {u : Vl} (h : St w wx c S b1 b2 a e u) (j : Nat) (v : Value) (u' : Vl) (hc : c ≠ b2) (h1 : b1 ≠ b2) (hb : w.heap.size ≤ b2) (hu : (#[.int .i64 u.1, .int .i64 u.2.1, .string u.2.2] : Array Value).setIfInBounds j v = #[.int .i64 u'.1, .int .i64 u'.2.1, .string u'.2.2]) : St w (wx.setCell ⟨b2, j, none⟩ v) c S b1 b2 a e u' := by
  refine ⟨blk_other h.r hc v, ?_, blk_other h.z h1 v, gr_set h.g hb j v⟩
  have := blk_set h.x j v
  rw [hu] at this
  exact this
theorem St.out {w wx : World} {c b1 b2 a : Nat} {S : ByteArray} {e : Int} {u : Vl} (h : St w wx c S b1 b2 a e u) (v : Vl) (hc : c ≠ b1) (hb : w.heap.size ≤ b1) : RB (putV wx b1 v) c S a e ∧ (putV wx b1 v).heap[b1]? = some (bxV v) ∧ w.grownBy (putV wx b1 v) (some c) := by
  refine ⟨?_, putV_blk h.z v, ?_⟩
  · unfold putV
    exact blk_other (a := ⟨b1, 2, none⟩) (blk_other (a := ⟨b1, 1, none⟩) (blk_other (a := ⟨b1, 0, none⟩) h.r hc _) hc _) hc _
  · unfold putV
    exact gr_set (gr_set (gr_set h.g hb 0 _) hb 1 _) hb 2 _
theorem text_size (t : ByteArray) : (fText 60 t).1.size ≤ 9223372036854775807 := by
  have hb := Wire.fCount_bd 60 t (by decide)
  unfold fText
  split
  · show (ByteArray.empty).size ≤ 9223372036854775807
    decide
  · unfold Wire.fTake
    split
    · show (ByteArray.empty).size ≤ 9223372036854775807
      decide
    · simp only [ByteArray.size_extract]
      omega
set_option maxRecDepth 100000 in
set_option maxHeartbeats 4000000 in
theorem rtake_live (c : Nat) (S : ByteArray) (a : Nat) (w : World) (hs : S.size ≤ 100000) (ha : a ≤ S.size) (h : RB w c S a 0) :
    Calls Tryd.prog 51 #[pt c] w (OutR c S w (vlV (tk (S.extract a S.size)).1) (tk (S.extract a S.size)).2.1 (tk (S.extract a S.size)).2.2) := by
  have hlt := h.lt
  have X0 := blk_new w (bxV z0)
  have h0 : RB (w.alloc (bxV z0)) c S a 0 := blk_alloc h _
  have G0 : w.grownBy (w.alloc (bxV z0)) (some c) := gb_below (alloc_below w (bxV z0))
  have hz0 : w.heap.size < (w.alloc (bxV z0)).heap.size := by simp
  have KI := Lib.hid (Wire.rint_live c S a (w.alloc (bxV z0)) hs ha h0)
  have hsz : (S.extract a S.size).size ≤ 100000 := by simp; omega
  have FB := Lib.hid (fun e => Wire.fInt_bad (S.extract a S.size) hsz e)
  have F6 : Wire.I64 (fInt (S.extract a S.size)).1 := Wire.fInt_64 _ hsz
  obtain ⟨X, hX⟩ : ∃ X, tk (S.extract a S.size) = X := ⟨_, rfl⟩
  have EQ : X = tk (S.extract a S.size) := hX.symm
  rw [hX]
  unfold tk at EQ
  obtain ⟨k, t1, e1, hk⟩ : ∃ k t1 e1, fInt (S.extract a S.size) = (k, t1, e1) := ⟨_, _, _, rfl⟩
  rw [hk] at KI FB EQ F6
  dsimp only at KI FB EQ F6
  replace EQ := Lib.hid EQ
  unfold OutR at KI
  clear h h0 hX hk hsz
  go_enter Tryd.func51, Tryd.ntmps51
  go_wp2_with fail
  refine KI.out.mono ?_
  rintro _ w1 ⟨rfl, ⟨a1, ha1, hr1, hx1⟩, hg1⟩
  have HX := Lib.hid hx1
  have hl1 : w.heap.size < w1.heap.size := Nat.lt_of_lt_of_le hz0 hg1.size
  have ST := Lib.hid (show St w (w1.alloc (bxV (k, 0, ByteArray.empty))) c S w.heap.size w1.heap.size a1 e1 (k, 0, ByteArray.empty) from
    ⟨blk_alloc hr1 _, blk_new w1 _, blk_alloc (blk_grown X0 hg1 (fun q => by simp only [Option.some.injEq] at q; omega)) _, gr_trans (gr_trans G0 hg1) (gb_below (alloc_below w1 _))⟩)
  go_upto_region 2 with fail
  obtain ⟨W, hW⟩ : ∃ W, w1.alloc (.cells #[.int .i64 k, .int .i64 0, .string { data := #[] }] 26) = W := ⟨_, rfl⟩
  have hW2 : w1.alloc (bxV (k, 0, ByteArray.empty)) = W := hW
  rw [hW2] at ST
  rw [hW]
  obtain ⟨b2, hb2⟩ : ∃ b2, w1.heap.size = b2 := ⟨_, rfl⟩
  rw [hb2] at ST hl1 ⊢
  clear hW hW2 hb2 hr1 hg1 hx1 KI X0 G0 hz0
  obtain ⟨b1, hb1⟩ : ∃ b1, w.heap.size = b1 := ⟨_, rfl⟩
  have HB1 := Lib.hid hb1
  rw [hb1] at ST hl1 hlt ⊢
  clear hb1
  by_cases k4 : k = 4
  · have he1 : e1 = 0 := Classical.byContradiction fun q => by have := FB.out q; omega
    subst he1 k4
    replace EQ := Lib.hid (EQ.out.trans ((if_neg (by decide)).trans (if_pos rfl)))
    have KT := Lib.hid (Wire.rtext_live c S a1 60 W hs (by decide) ha1 ST.out.r)
    rw [← HX.out rfl] at KT
    obtain ⟨u1, t2, e2, hu⟩ : ∃ u1 t2 e2, fText 60 t1 = (u1, t2, e2) := ⟨_, _, _, rfl⟩
    have hus := Lib.hid (show u1.size ≤ 9223372036854775807 from by
      have := text_size t1
      rw [hu] at this
      exact this)
    rw [hu] at KT EQ
    dsimp only at KT EQ
    unfold OutR at KT
    replace EQ := Lib.hid EQ.out
    have c0 := blk_cell ST.out.x 0 (v := .int .i64 4) rfl
    clear hu FB
    go_wp2_with fail
    refine KT.out.mono ?_
    rintro _ w2 ⟨rfl, ⟨a2, ha2, hr2, hx2⟩, hg2⟩
    have ST2 := ST.out.grown hg2 (by omega) (by omega) hr2
    have s2 := blk_cell ST2.x 2 (v := .string { data := #[] }) rfl
    have g2 := blk_fr ST2.x 2
    have ST3 := Lib.hid (ST2.box 2 (.string u1) (4, 0, u1) (by omega) (by omega) (by have := HB1.out; omega) rfl)
    replace HX := Lib.hid hx2
    clear ST c0 KT hr2 hg2 hx2 ST2
    go_upto_region 4 with fail
    obtain ⟨W3, hW3⟩ : ∃ W3, w2.setCell ⟨b2, 2, none⟩ (.string u1) = W3 := ⟨_, rfl⟩
    rw [hW3] at ST3 ⊢
    clear hW3 s2 g2
    have c0 := blk_cell ST3.out.x 0 (v := .int .i64 4) rfl
    go_upto_region 6 with fail
    clear c0
    by_cases he : e2 = 0
    · replace EQ := Lib.hid (EQ.out.trans (if_neg (fun q => q he)))
      have ST' := Lib.hid (show St w W3 c S b1 b2 a2 0 (4, 0, u1) by have := ST3.out; rw [he] at this; exact this)
      clear ST3
      have ST := ST'
      clear ST'
      replace HX := Lib.hid (fun _ : True => HX.out he)
      have KC := Lib.hid (rcheck_any (4, 0, u1) W3 hus.out)
      unfold OutI at KC
      clear he
      go_wp2_with fail
      refine (Wire.rerr_any c S a2 0 W3 ST.out.r).mono ?_
      rintro _ w5 ⟨rfl, hw5⟩
      subst hw5
      have u0c := blk_cell ST.out.x 0 (v := .int .i64 4) rfl
      have u1c := blk_cell ST.out.x 1 (v := .int .i64 0) rfl
      have u2c := blk_cell ST.out.x 2 (v := .string u1) rfl
      go_wp2_with fail
      refine KC.out.mono ?_
      rintro _ w6 ⟨rfl, hb6⟩
      replace ST := Lib.hid (ST.out.below hb6)
      clear hb6 KC u0c u1c u2c
      by_cases hc : chk (4, 0, u1) = 0
      · have R := Lib.hid (EQ.out.trans (if_neg (fun q => q hc)))
        have t5 : (chk (4, 0, u1) != 0) = false := by simp [hc]
        clear EQ hc
        generalize chk (4, 0, u1) = cc at *
        go_wp2_with fail
        refine (Wire.rerr_any c S a2 0 w6 ST.out.r).mono ?_
        rintro _ w7 ⟨rfl, hw7⟩
        subst hw7
        obtain ⟨V, hV⟩ : ∃ V, V = putV w6 b1 (4, 0, u1) := ⟨_, rfl⟩
        obtain ⟨q1, q2, q3⟩ := ST.out.out (4, 0, u1) (by omega) (by have := HB1.out; omega)
        rw [← hV] at q1 q2 q3
        have RV := Lib.hid q2
        have RR := Lib.hid q1
        have GV := Lib.hid q3
        have u0c := blk_cell ST.out.x 0 (v := .int .i64 4) rfl
        have u1c := blk_cell ST.out.x 1 (v := .int .i64 0) rfl
        have u2c := blk_cell ST.out.x 2 (v := .string u1) rfl
        have z0 := blk_cell ST.out.z 0 (v := .int .i64 0) rfl
        have z1 := blk_cell ST.out.z 1 (v := .int .i64 0) rfl
        have z2 := blk_cell ST.out.z 2 (v := .string { data := #[] }) rfl
        have x0 := blk_fr ST.out.z 0
        have x1 := blk_fr ST.out.z 1
        have x2 := blk_fr ST.out.z 2
        clear q1 q2 q3
        unfold putV at hV
        dsimp only at hV
        go_wp2_with fail
        rw [← hV]
        have t0 := blk_cell RV.out 0 (v := .int .i64 4) rfl
        have t1' := blk_cell RV.out 1 (v := .int .i64 0) rfl
        have t2' := blk_cell RV.out 2 (v := .string u1) rfl
        refine bodyPost_ret (v := .agg #[.int .i64 4, .int .i64 0, .string u1]) (by simp [results, Tryd.results51, go_sem, t0, t1', t2']) rfl ?_
        rw [R.out]
        exact ⟨rfl, ⟨a2, ha2, RR.out, fun _ => HX.out trivial⟩, GV.out⟩
      · have R := Lib.hid (EQ.out.trans (if_pos hc))
        have t5 : (chk (4, 0, u1) != 0) = true := by simp [hc]
        clear EQ hc
        generalize chk (4, 0, u1) = cc at *
        go_wp2_with fail
        refine (Wire.rfail_any c S a2 4 w6 ST.out.r).mono ?_
        rintro _ w7 ⟨rfl, hr7, hg7⟩
        replace ST := Lib.hid (ST.out.grown hg7 (by omega) (by omega) hr7)
        clear hr7 hg7
        go_wp2_with fail
        refine (Wire.rerr_any c S a2 4 w7 ST.out.r).mono ?_
        rintro _ w8 ⟨rfl, hw8⟩
        subst hw8
        obtain ⟨V, hV⟩ : ∃ V, V = putV w7 b1 (0, 0, { data := #[] }) := ⟨_, rfl⟩
        obtain ⟨q1, q2, q3⟩ := ST.out.out (0, 0, { data := #[] }) (by omega) (by have := HB1.out; omega)
        rw [← hV] at q1 q2 q3
        have RV := Lib.hid q2
        have RR := Lib.hid q1
        have GV := Lib.hid q3
        have z0 := blk_cell ST.out.z 0 (v := .int .i64 0) rfl
        have z1 := blk_cell ST.out.z 1 (v := .int .i64 0) rfl
        have z2 := blk_cell ST.out.z 2 (v := .string { data := #[] }) rfl
        have x0 := blk_fr ST.out.z 0
        have x1 := blk_fr ST.out.z 1
        have x2 := blk_fr ST.out.z 2
        clear q1 q2 q3
        unfold putV at hV
        dsimp only at hV
        go_wp2_with fail
        rw [← hV]
        have t0 := blk_cell RV.out 0 (v := .int .i64 0) rfl
        have t1' := blk_cell RV.out 1 (v := .int .i64 0) rfl
        have t2' := blk_cell RV.out 2 (v := .string { data := #[] }) rfl
        refine bodyPost_ret (v := .agg #[.int .i64 0, .int .i64 0, .string { data := #[] }]) (by simp [results, Tryd.results51, go_sem, t0, t1', t2']) rfl ?_
        rw [R.out]
        exact ⟨rfl, ⟨a2, ha2, RR.out, fun q => absurd (show (4 : Int) = 0 from q) (by decide)⟩, GV.out⟩
    · have R := Lib.hid (EQ.out.trans (if_pos he))
      have t5 : (e2 == 0) = false := beq_false_of_ne he
      have t6 : (e2 != 0) = true := by simp [he]
      have HE := Lib.hid he
      clear EQ he
      go_wp2_with fail
      refine (Wire.rerr_any c S a2 e2 W3 ST3.out.r).mono ?_
      rintro _ w5 ⟨rfl, hw5⟩
      subst hw5
      go_wp2_with fail
      refine (Wire.rerr_any c S a2 e2 W3 ST3.out.r).mono ?_
      rintro _ w5 ⟨rfl, hw5⟩
      subst hw5
      obtain ⟨V, hV⟩ : ∃ V, V = putV W3 b1 (0, 0, { data := #[] }) := ⟨_, rfl⟩
      obtain ⟨q1, q2, q3⟩ := ST3.out.out (0, 0, { data := #[] }) (by omega) (by have := HB1.out; omega)
      rw [← hV] at q1 q2 q3
      have RV := Lib.hid q2
      have RR := Lib.hid q1
      have GV := Lib.hid q3
      have z0 := blk_cell ST3.out.z 0 (v := .int .i64 0) rfl
      have z1 := blk_cell ST3.out.z 1 (v := .int .i64 0) rfl
      have z2 := blk_cell ST3.out.z 2 (v := .string { data := #[] }) rfl
      have x0 := blk_fr ST3.out.z 0
      have x1 := blk_fr ST3.out.z 1
      have x2 := blk_fr ST3.out.z 2
      clear q1 q2 q3
      unfold putV at hV
      dsimp only at hV
      go_wp2_with fail
      rw [← hV]
      have t0 := blk_cell RV.out 0 (v := .int .i64 0) rfl
      have t1' := blk_cell RV.out 1 (v := .int .i64 0) rfl
      have t2' := blk_cell RV.out 2 (v := .string { data := #[] }) rfl
      refine bodyPost_ret (v := .agg #[.int .i64 0, .int .i64 0, .string { data := #[] }]) (by simp [results, Tryd.results51, go_sem, t0, t1', t2']) rfl ?_
      rw [R.out]
      exact ⟨rfl, ⟨a2, ha2, RR.out, fun q => absurd q HE.out⟩, GV.out⟩
  have t4 : (k == 4) = false := beq_false_of_ne k4
  by_cases k3 : 1 ≤ k ∧ k ≤ 3
  · have he1 : e1 = 0 := Classical.byContradiction fun q => by have := FB.out q; omega
    subst he1
    replace EQ := Lib.hid (EQ.out.trans ((if_neg (by decide)).trans ((if_neg k4).trans (if_pos k3))))
    have KT := Lib.hid (Wire.rint_live c S a1 W hs ha1 ST.out.r)
    rw [← HX.out rfl] at KT
    obtain ⟨u1, t2, e2, hu⟩ : ∃ u1 t2 e2, fInt t1 = (u1, t2, e2) := ⟨_, _, _, rfl⟩
    have hus := Lib.hid (show (ByteArray.empty).size ≤ 9223372036854775807 by decide)
    rw [hu] at KT EQ
    dsimp only at KT EQ
    unfold OutR at KT
    replace EQ := Lib.hid EQ.out
    have c0 := blk_cell ST.out.x 0 (v := .int .i64 k) rfl
    have d1 := dt k3.1
    have d2 := dt k3.2
    clear hu FB k4
    go_wp2_with fail
    refine KT.out.mono ?_
    rintro _ w2 ⟨rfl, ⟨a2, ha2, hr2, hx2⟩, hg2⟩
    have ST2 := ST.out.grown hg2 (by omega) (by omega) hr2
    have s2 := blk_cell ST2.x 1 (v := .int .i64 0) rfl
    have g2 := blk_fr ST2.x 1
    have ST3 := Lib.hid (ST2.box 1 (.int .i64 u1) (k, u1, ByteArray.empty) (by omega) (by omega) (by have := HB1.out; omega) rfl)
    replace HX := Lib.hid hx2
    clear ST c0 KT hr2 hg2 hx2 ST2 k3
    go_upto_region 6 with fail
    obtain ⟨W3, hW3⟩ : ∃ W3, w2.setCell ⟨b2, 1, none⟩ (.int .i64 u1) = W3 := ⟨_, rfl⟩
    rw [hW3] at ST3 ⊢
    clear hW3 s2 g2
    by_cases he : e2 = 0
    · replace EQ := Lib.hid (EQ.out.trans (if_neg (fun q => q he)))
      have ST' := Lib.hid (show St w W3 c S b1 b2 a2 0 (k, u1, ByteArray.empty) by have := ST3.out; rw [he] at this; exact this)
      clear ST3
      have ST := ST'
      clear ST'
      replace HX := Lib.hid (fun _ : True => HX.out he)
      have KC := Lib.hid (rcheck_any (k, u1, ByteArray.empty) W3 hus.out)
      unfold OutI at KC
      clear he
      go_wp2_with fail
      refine (Wire.rerr_any c S a2 0 W3 ST.out.r).mono ?_
      rintro _ w5 ⟨rfl, hw5⟩
      subst hw5
      have u0c := blk_cell ST.out.x 0 (v := .int .i64 k) rfl
      have u1c := blk_cell ST.out.x 1 (v := .int .i64 u1) rfl
      have u2c := blk_cell ST.out.x 2 (v := .string { data := #[] }) rfl
      go_wp2_with fail
      refine KC.out.mono ?_
      rintro _ w6 ⟨rfl, hb6⟩
      replace ST := Lib.hid (ST.out.below hb6)
      clear hb6 KC u0c u1c u2c
      by_cases hc : chk (k, u1, ByteArray.empty) = 0
      · have R := Lib.hid (EQ.out.trans (if_neg (fun q => q hc)))
        have t5 : (chk (k, u1, ByteArray.empty) != 0) = false := by simp [hc]
        clear EQ hc
        generalize chk (k, u1, ByteArray.empty) = cc at *
        go_wp2_with fail
        refine (Wire.rerr_any c S a2 0 w6 ST.out.r).mono ?_
        rintro _ w7 ⟨rfl, hw7⟩
        subst hw7
        obtain ⟨V, hV⟩ : ∃ V, V = putV w6 b1 (k, u1, { data := #[] }) := ⟨_, rfl⟩
        obtain ⟨q1, q2, q3⟩ := ST.out.out (k, u1, { data := #[] }) (by omega) (by have := HB1.out; omega)
        rw [← hV] at q1 q2 q3
        have RV := Lib.hid q2
        have RR := Lib.hid q1
        have GV := Lib.hid q3
        have u0c := blk_cell ST.out.x 0 (v := .int .i64 k) rfl
        have u1c := blk_cell ST.out.x 1 (v := .int .i64 u1) rfl
        have u2c := blk_cell ST.out.x 2 (v := .string { data := #[] }) rfl
        have z0 := blk_cell ST.out.z 0 (v := .int .i64 0) rfl
        have z1 := blk_cell ST.out.z 1 (v := .int .i64 0) rfl
        have z2 := blk_cell ST.out.z 2 (v := .string { data := #[] }) rfl
        have x0 := blk_fr ST.out.z 0
        have x1 := blk_fr ST.out.z 1
        have x2 := blk_fr ST.out.z 2
        clear q1 q2 q3
        unfold putV at hV
        dsimp only at hV
        go_wp2_with fail
        rw [← hV]
        have t0 := blk_cell RV.out 0 (v := .int .i64 k) rfl
        have t1' := blk_cell RV.out 1 (v := .int .i64 u1) rfl
        have t2' := blk_cell RV.out 2 (v := .string { data := #[] }) rfl
        refine bodyPost_ret (v := .agg #[.int .i64 k, .int .i64 u1, .string { data := #[] }]) (by simp [results, Tryd.results51, go_sem, t0, t1', t2']) rfl ?_
        rw [R.out]
        exact ⟨rfl, ⟨a2, ha2, RR.out, fun _ => HX.out trivial⟩, GV.out⟩
      · have R := Lib.hid (EQ.out.trans (if_pos hc))
        have t5 : (chk (k, u1, ByteArray.empty) != 0) = true := by simp [hc]
        clear EQ hc
        generalize chk (k, u1, ByteArray.empty) = cc at *
        go_wp2_with fail
        refine (Wire.rfail_any c S a2 4 w6 ST.out.r).mono ?_
        rintro _ w7 ⟨rfl, hr7, hg7⟩
        replace ST := Lib.hid (ST.out.grown hg7 (by omega) (by omega) hr7)
        clear hr7 hg7
        go_wp2_with fail
        refine (Wire.rerr_any c S a2 4 w7 ST.out.r).mono ?_
        rintro _ w8 ⟨rfl, hw8⟩
        subst hw8
        obtain ⟨V, hV⟩ : ∃ V, V = putV w7 b1 (0, 0, { data := #[] }) := ⟨_, rfl⟩
        obtain ⟨q1, q2, q3⟩ := ST.out.out (0, 0, { data := #[] }) (by omega) (by have := HB1.out; omega)
        rw [← hV] at q1 q2 q3
        have RV := Lib.hid q2
        have RR := Lib.hid q1
        have GV := Lib.hid q3
        have z0 := blk_cell ST.out.z 0 (v := .int .i64 0) rfl
        have z1 := blk_cell ST.out.z 1 (v := .int .i64 0) rfl
        have z2 := blk_cell ST.out.z 2 (v := .string { data := #[] }) rfl
        have x0 := blk_fr ST.out.z 0
        have x1 := blk_fr ST.out.z 1
        have x2 := blk_fr ST.out.z 2
        clear q1 q2 q3
        unfold putV at hV
        dsimp only at hV
        go_wp2_with fail
        rw [← hV]
        have t0 := blk_cell RV.out 0 (v := .int .i64 0) rfl
        have t1' := blk_cell RV.out 1 (v := .int .i64 0) rfl
        have t2' := blk_cell RV.out 2 (v := .string { data := #[] }) rfl
        refine bodyPost_ret (v := .agg #[.int .i64 0, .int .i64 0, .string { data := #[] }]) (by simp [results, Tryd.results51, go_sem, t0, t1', t2']) rfl ?_
        rw [R.out]
        exact ⟨rfl, ⟨a2, ha2, RR.out, fun q => absurd (show (4 : Int) = 0 from q) (by decide)⟩, GV.out⟩
    · have R := Lib.hid (EQ.out.trans (if_pos he))
      have t5 : (e2 == 0) = false := beq_false_of_ne he
      have t6 : (e2 != 0) = true := by simp [he]
      have HE := Lib.hid he
      clear EQ he
      go_wp2_with fail
      refine (Wire.rerr_any c S a2 e2 W3 ST3.out.r).mono ?_
      rintro _ w5 ⟨rfl, hw5⟩
      subst hw5
      go_wp2_with fail
      refine (Wire.rerr_any c S a2 e2 W3 ST3.out.r).mono ?_
      rintro _ w5 ⟨rfl, hw5⟩
      subst hw5
      obtain ⟨V, hV⟩ : ∃ V, V = putV W3 b1 (0, 0, { data := #[] }) := ⟨_, rfl⟩
      obtain ⟨q1, q2, q3⟩ := ST3.out.out (0, 0, { data := #[] }) (by omega) (by have := HB1.out; omega)
      rw [← hV] at q1 q2 q3
      have RV := Lib.hid q2
      have RR := Lib.hid q1
      have GV := Lib.hid q3
      have z0 := blk_cell ST3.out.z 0 (v := .int .i64 0) rfl
      have z1 := blk_cell ST3.out.z 1 (v := .int .i64 0) rfl
      have z2 := blk_cell ST3.out.z 2 (v := .string { data := #[] }) rfl
      have x0 := blk_fr ST3.out.z 0
      have x1 := blk_fr ST3.out.z 1
      have x2 := blk_fr ST3.out.z 2
      clear q1 q2 q3
      unfold putV at hV
      dsimp only at hV
      go_wp2_with fail
      rw [← hV]
      have t0 := blk_cell RV.out 0 (v := .int .i64 0) rfl
      have t1' := blk_cell RV.out 1 (v := .int .i64 0) rfl
      have t2' := blk_cell RV.out 2 (v := .string { data := #[] }) rfl
      refine bodyPost_ret (v := .agg #[.int .i64 0, .int .i64 0, .string { data := #[] }]) (by simp [results, Tryd.results51, go_sem, t0, t1', t2']) rfl ?_
      rw [R.out]
      exact ⟨rfl, ⟨a2, ha2, RR.out, fun q => absurd q HE.out⟩, GV.out⟩
  · replace EQ := Lib.hid (show X = if e1 ≠ 0 then (z0, t1, e1) else if chk (k, 0, ByteArray.empty) ≠ 0 then (z0, t1, 4) else ((k, 0, ByteArray.empty), t1, 0) by
      rw [EQ.out]
      by_cases q : e1 ≠ 0
      · rw [if_pos q, if_pos q]
      · rw [if_neg q, if_neg q, if_neg k4, if_neg k3])
    have hus := Lib.hid (show (ByteArray.empty).size ≤ 9223372036854775807 by decide)
    have c0 := blk_cell ST.out.x 0 (v := .int .i64 k) rfl
    clear FB
    by_cases k1 : 1 ≤ k
    · have d1 := dt k1
      have d2 := df (show ¬ k ≤ 3 by omega)
      clear k1 k3 k4
      go_upto_region 6 with fail
      clear c0
      by_cases he : e1 = 0
      · replace EQ := Lib.hid (EQ.out.trans (if_neg (fun q => q he)))
        have ST' := Lib.hid (show St w W c S b1 b2 a1 0 (k, 0, ByteArray.empty) by have := ST.out; rw [he] at this; exact this)
        clear ST
        have ST := ST'
        clear ST'
        replace HX := Lib.hid (fun _ : True => HX.out he)
        have KC := Lib.hid (rcheck_any (k, 0, ByteArray.empty) W hus.out)
        unfold OutI at KC
        clear he
        go_wp2_with fail
        refine (Wire.rerr_any c S a1 0 W ST.out.r).mono ?_
        rintro _ w5 ⟨rfl, hw5⟩
        subst hw5
        have u0c := blk_cell ST.out.x 0 (v := .int .i64 k) rfl
        have u1c := blk_cell ST.out.x 1 (v := .int .i64 0) rfl
        have u2c := blk_cell ST.out.x 2 (v := .string { data := #[] }) rfl
        go_wp2_with fail
        refine KC.out.mono ?_
        rintro _ w6 ⟨rfl, hb6⟩
        replace ST := Lib.hid (ST.out.below hb6)
        clear hb6 KC u0c u1c u2c
        by_cases hc : chk (k, 0, ByteArray.empty) = 0
        · have R := Lib.hid (EQ.out.trans (if_neg (fun q => q hc)))
          have t5 : (chk (k, 0, ByteArray.empty) != 0) = false := by simp [hc]
          clear EQ hc
          generalize chk (k, 0, ByteArray.empty) = cc at *
          go_wp2_with fail
          refine (Wire.rerr_any c S a1 0 w6 ST.out.r).mono ?_
          rintro _ w7 ⟨rfl, hw7⟩
          subst hw7
          obtain ⟨V, hV⟩ : ∃ V, V = putV w6 b1 (k, 0, { data := #[] }) := ⟨_, rfl⟩
          obtain ⟨q1, q2, q3⟩ := ST.out.out (k, 0, { data := #[] }) (by omega) (by have := HB1.out; omega)
          rw [← hV] at q1 q2 q3
          have RV := Lib.hid q2
          have RR := Lib.hid q1
          have GV := Lib.hid q3
          have u0c := blk_cell ST.out.x 0 (v := .int .i64 k) rfl
          have u1c := blk_cell ST.out.x 1 (v := .int .i64 0) rfl
          have u2c := blk_cell ST.out.x 2 (v := .string { data := #[] }) rfl
          have z0 := blk_cell ST.out.z 0 (v := .int .i64 0) rfl
          have z1 := blk_cell ST.out.z 1 (v := .int .i64 0) rfl
          have z2 := blk_cell ST.out.z 2 (v := .string { data := #[] }) rfl
          have x0 := blk_fr ST.out.z 0
          have x1 := blk_fr ST.out.z 1
          have x2 := blk_fr ST.out.z 2
          clear q1 q2 q3
          unfold putV at hV
          dsimp only at hV
          go_wp2_with fail
          rw [← hV]
          have t0 := blk_cell RV.out 0 (v := .int .i64 k) rfl
          have t1' := blk_cell RV.out 1 (v := .int .i64 0) rfl
          have t2' := blk_cell RV.out 2 (v := .string { data := #[] }) rfl
          refine bodyPost_ret (v := .agg #[.int .i64 k, .int .i64 0, .string { data := #[] }]) (by simp [results, Tryd.results51, go_sem, t0, t1', t2']) rfl ?_
          rw [R.out]
          exact ⟨rfl, ⟨a1, ha1, RR.out, fun _ => HX.out trivial⟩, GV.out⟩
        · have R := Lib.hid (EQ.out.trans (if_pos hc))
          have t5 : (chk (k, 0, ByteArray.empty) != 0) = true := by simp [hc]
          clear EQ hc
          generalize chk (k, 0, ByteArray.empty) = cc at *
          go_wp2_with fail
          refine (Wire.rfail_any c S a1 4 w6 ST.out.r).mono ?_
          rintro _ w7 ⟨rfl, hr7, hg7⟩
          replace ST := Lib.hid (ST.out.grown hg7 (by omega) (by omega) hr7)
          clear hr7 hg7
          go_wp2_with fail
          refine (Wire.rerr_any c S a1 4 w7 ST.out.r).mono ?_
          rintro _ w8 ⟨rfl, hw8⟩
          subst hw8
          obtain ⟨V, hV⟩ : ∃ V, V = putV w7 b1 (0, 0, { data := #[] }) := ⟨_, rfl⟩
          obtain ⟨q1, q2, q3⟩ := ST.out.out (0, 0, { data := #[] }) (by omega) (by have := HB1.out; omega)
          rw [← hV] at q1 q2 q3
          have RV := Lib.hid q2
          have RR := Lib.hid q1
          have GV := Lib.hid q3
          have z0 := blk_cell ST.out.z 0 (v := .int .i64 0) rfl
          have z1 := blk_cell ST.out.z 1 (v := .int .i64 0) rfl
          have z2 := blk_cell ST.out.z 2 (v := .string { data := #[] }) rfl
          have x0 := blk_fr ST.out.z 0
          have x1 := blk_fr ST.out.z 1
          have x2 := blk_fr ST.out.z 2
          clear q1 q2 q3
          unfold putV at hV
          dsimp only at hV
          go_wp2_with fail
          rw [← hV]
          have t0 := blk_cell RV.out 0 (v := .int .i64 0) rfl
          have t1' := blk_cell RV.out 1 (v := .int .i64 0) rfl
          have t2' := blk_cell RV.out 2 (v := .string { data := #[] }) rfl
          refine bodyPost_ret (v := .agg #[.int .i64 0, .int .i64 0, .string { data := #[] }]) (by simp [results, Tryd.results51, go_sem, t0, t1', t2']) rfl ?_
          rw [R.out]
          exact ⟨rfl, ⟨a1, ha1, RR.out, fun q => absurd (show (4 : Int) = 0 from q) (by decide)⟩, GV.out⟩
      · have R := Lib.hid (EQ.out.trans (if_pos he))
        have t5 : (e1 == 0) = false := beq_false_of_ne he
        have t6 : (e1 != 0) = true := by simp [he]
        have HE := Lib.hid he
        clear EQ he
        go_wp2_with fail
        refine (Wire.rerr_any c S a1 e1 W ST.out.r).mono ?_
        rintro _ w5 ⟨rfl, hw5⟩
        subst hw5
        go_wp2_with fail
        refine (Wire.rerr_any c S a1 e1 W ST.out.r).mono ?_
        rintro _ w5 ⟨rfl, hw5⟩
        subst hw5
        obtain ⟨V, hV⟩ : ∃ V, V = putV W b1 (0, 0, { data := #[] }) := ⟨_, rfl⟩
        obtain ⟨q1, q2, q3⟩ := ST.out.out (0, 0, { data := #[] }) (by omega) (by have := HB1.out; omega)
        rw [← hV] at q1 q2 q3
        have RV := Lib.hid q2
        have RR := Lib.hid q1
        have GV := Lib.hid q3
        have z0 := blk_cell ST.out.z 0 (v := .int .i64 0) rfl
        have z1 := blk_cell ST.out.z 1 (v := .int .i64 0) rfl
        have z2 := blk_cell ST.out.z 2 (v := .string { data := #[] }) rfl
        have x0 := blk_fr ST.out.z 0
        have x1 := blk_fr ST.out.z 1
        have x2 := blk_fr ST.out.z 2
        clear q1 q2 q3
        unfold putV at hV
        dsimp only at hV
        go_wp2_with fail
        rw [← hV]
        have t0 := blk_cell RV.out 0 (v := .int .i64 0) rfl
        have t1' := blk_cell RV.out 1 (v := .int .i64 0) rfl
        have t2' := blk_cell RV.out 2 (v := .string { data := #[] }) rfl
        refine bodyPost_ret (v := .agg #[.int .i64 0, .int .i64 0, .string { data := #[] }]) (by simp [results, Tryd.results51, go_sem, t0, t1', t2']) rfl ?_
        rw [R.out]
        exact ⟨rfl, ⟨a1, ha1, RR.out, fun q => absurd q HE.out⟩, GV.out⟩
    · have d1 := df k1
      clear k1 k3 k4
      go_upto_region 6 with fail
      clear c0
      by_cases he : e1 = 0
      · replace EQ := Lib.hid (EQ.out.trans (if_neg (fun q => q he)))
        have ST' := Lib.hid (show St w W c S b1 b2 a1 0 (k, 0, ByteArray.empty) by have := ST.out; rw [he] at this; exact this)
        clear ST
        have ST := ST'
        clear ST'
        replace HX := Lib.hid (fun _ : True => HX.out he)
        have KC := Lib.hid (rcheck_any (k, 0, ByteArray.empty) W hus.out)
        unfold OutI at KC
        clear he
        go_wp2_with fail
        refine (Wire.rerr_any c S a1 0 W ST.out.r).mono ?_
        rintro _ w5 ⟨rfl, hw5⟩
        subst hw5
        have u0c := blk_cell ST.out.x 0 (v := .int .i64 k) rfl
        have u1c := blk_cell ST.out.x 1 (v := .int .i64 0) rfl
        have u2c := blk_cell ST.out.x 2 (v := .string { data := #[] }) rfl
        go_wp2_with fail
        refine KC.out.mono ?_
        rintro _ w6 ⟨rfl, hb6⟩
        replace ST := Lib.hid (ST.out.below hb6)
        clear hb6 KC u0c u1c u2c
        by_cases hc : chk (k, 0, ByteArray.empty) = 0
        · have R := Lib.hid (EQ.out.trans (if_neg (fun q => q hc)))
          have t5 : (chk (k, 0, ByteArray.empty) != 0) = false := by simp [hc]
          clear EQ hc
          generalize chk (k, 0, ByteArray.empty) = cc at *
          go_wp2_with fail
          refine (Wire.rerr_any c S a1 0 w6 ST.out.r).mono ?_
          rintro _ w7 ⟨rfl, hw7⟩
          subst hw7
          obtain ⟨V, hV⟩ : ∃ V, V = putV w6 b1 (k, 0, { data := #[] }) := ⟨_, rfl⟩
          obtain ⟨q1, q2, q3⟩ := ST.out.out (k, 0, { data := #[] }) (by omega) (by have := HB1.out; omega)
          rw [← hV] at q1 q2 q3
          have RV := Lib.hid q2
          have RR := Lib.hid q1
          have GV := Lib.hid q3
          have u0c := blk_cell ST.out.x 0 (v := .int .i64 k) rfl
          have u1c := blk_cell ST.out.x 1 (v := .int .i64 0) rfl
          have u2c := blk_cell ST.out.x 2 (v := .string { data := #[] }) rfl
          have z0 := blk_cell ST.out.z 0 (v := .int .i64 0) rfl
          have z1 := blk_cell ST.out.z 1 (v := .int .i64 0) rfl
          have z2 := blk_cell ST.out.z 2 (v := .string { data := #[] }) rfl
          have x0 := blk_fr ST.out.z 0
          have x1 := blk_fr ST.out.z 1
          have x2 := blk_fr ST.out.z 2
          clear q1 q2 q3
          unfold putV at hV
          dsimp only at hV
          go_wp2_with fail
          rw [← hV]
          have t0 := blk_cell RV.out 0 (v := .int .i64 k) rfl
          have t1' := blk_cell RV.out 1 (v := .int .i64 0) rfl
          have t2' := blk_cell RV.out 2 (v := .string { data := #[] }) rfl
          refine bodyPost_ret (v := .agg #[.int .i64 k, .int .i64 0, .string { data := #[] }]) (by simp [results, Tryd.results51, go_sem, t0, t1', t2']) rfl ?_
          rw [R.out]
          exact ⟨rfl, ⟨a1, ha1, RR.out, fun _ => HX.out trivial⟩, GV.out⟩
        · have R := Lib.hid (EQ.out.trans (if_pos hc))
          have t5 : (chk (k, 0, ByteArray.empty) != 0) = true := by simp [hc]
          clear EQ hc
          generalize chk (k, 0, ByteArray.empty) = cc at *
          go_wp2_with fail
          refine (Wire.rfail_any c S a1 4 w6 ST.out.r).mono ?_
          rintro _ w7 ⟨rfl, hr7, hg7⟩
          replace ST := Lib.hid (ST.out.grown hg7 (by omega) (by omega) hr7)
          clear hr7 hg7
          go_wp2_with fail
          refine (Wire.rerr_any c S a1 4 w7 ST.out.r).mono ?_
          rintro _ w8 ⟨rfl, hw8⟩
          subst hw8
          obtain ⟨V, hV⟩ : ∃ V, V = putV w7 b1 (0, 0, { data := #[] }) := ⟨_, rfl⟩
          obtain ⟨q1, q2, q3⟩ := ST.out.out (0, 0, { data := #[] }) (by omega) (by have := HB1.out; omega)
          rw [← hV] at q1 q2 q3
          have RV := Lib.hid q2
          have RR := Lib.hid q1
          have GV := Lib.hid q3
          have z0 := blk_cell ST.out.z 0 (v := .int .i64 0) rfl
          have z1 := blk_cell ST.out.z 1 (v := .int .i64 0) rfl
          have z2 := blk_cell ST.out.z 2 (v := .string { data := #[] }) rfl
          have x0 := blk_fr ST.out.z 0
          have x1 := blk_fr ST.out.z 1
          have x2 := blk_fr ST.out.z 2
          clear q1 q2 q3
          unfold putV at hV
          dsimp only at hV
          go_wp2_with fail
          rw [← hV]
          have t0 := blk_cell RV.out 0 (v := .int .i64 0) rfl
          have t1' := blk_cell RV.out 1 (v := .int .i64 0) rfl
          have t2' := blk_cell RV.out 2 (v := .string { data := #[] }) rfl
          refine bodyPost_ret (v := .agg #[.int .i64 0, .int .i64 0, .string { data := #[] }]) (by simp [results, Tryd.results51, go_sem, t0, t1', t2']) rfl ?_
          rw [R.out]
          exact ⟨rfl, ⟨a1, ha1, RR.out, fun q => absurd (show (4 : Int) = 0 from q) (by decide)⟩, GV.out⟩
      · have R := Lib.hid (EQ.out.trans (if_pos he))
        have t5 : (e1 == 0) = false := beq_false_of_ne he
        have t6 : (e1 != 0) = true := by simp [he]
        have HE := Lib.hid he
        clear EQ he
        go_wp2_with fail
        refine (Wire.rerr_any c S a1 e1 W ST.out.r).mono ?_
        rintro _ w5 ⟨rfl, hw5⟩
        subst hw5
        go_wp2_with fail
        refine (Wire.rerr_any c S a1 e1 W ST.out.r).mono ?_
        rintro _ w5 ⟨rfl, hw5⟩
        subst hw5
        obtain ⟨V, hV⟩ : ∃ V, V = putV W b1 (0, 0, { data := #[] }) := ⟨_, rfl⟩
        obtain ⟨q1, q2, q3⟩ := ST.out.out (0, 0, { data := #[] }) (by omega) (by have := HB1.out; omega)
        rw [← hV] at q1 q2 q3
        have RV := Lib.hid q2
        have RR := Lib.hid q1
        have GV := Lib.hid q3
        have z0 := blk_cell ST.out.z 0 (v := .int .i64 0) rfl
        have z1 := blk_cell ST.out.z 1 (v := .int .i64 0) rfl
        have z2 := blk_cell ST.out.z 2 (v := .string { data := #[] }) rfl
        have x0 := blk_fr ST.out.z 0
        have x1 := blk_fr ST.out.z 1
        have x2 := blk_fr ST.out.z 2
        clear q1 q2 q3
        unfold putV at hV
        dsimp only at hV
        go_wp2_with fail
        rw [← hV]
        have t0 := blk_cell RV.out 0 (v := .int .i64 0) rfl
        have t1' := blk_cell RV.out 1 (v := .int .i64 0) rfl
        have t2' := blk_cell RV.out 2 (v := .string { data := #[] }) rfl
        refine bodyPost_ret (v := .agg #[.int .i64 0, .int .i64 0, .string { data := #[] }]) (by simp [results, Tryd.results51, go_sem, t0, t1', t2']) rfl ?_
        rw [R.out]
        exact ⟨rfl, ⟨a1, ha1, RR.out, fun q => absurd q HE.out⟩, GV.out⟩
end Go.Proofs.YtagkmfhicpcjnaaDoor.Vlu
/- Layer 20: the reference's Decode. -/
set_option linter.unusedVariables false
set_option maxRecDepth 100000
namespace Go.Proofs.YtagkmfhicpcjnaaDoor.Vlu
open Go.RowKit
open Wire (bs enI enT fInt fText pt RB OutR)

/-- A value and an error. -/
def OutD (w : World) (x : Vl × Int) (e : Ending) (w' : World) : Prop := e = .returned (.tuple #[vlV x.1, .int .i64 x.2]) ∧ Below w.heap.size w w'
set_option maxRecDepth 100000 in
set_option maxHeartbeats 4000000 in
theorem rdec_any (s : ByteArray) (w : World) (hs : s.size ≤ 100000) :
    Calls Tryd.prog 26 #[.string s] w (OutD w (dcd s)) := by
  have X0 := blk_new w (bxV z0)
  have hz : w.heap.size < (w.alloc (bxV z0)).heap.size := by simp
  have B0 := alloc_below w (bxV z0)
  have KN := Lib.hid (Wire.rnew_any s (w.alloc (bxV z0)))
  have KT := Lib.hid (fun (w1 : World) (c : Nat) (h : RB w1 c s 0 0) => rtake_live c s 0 w1 hs (Nat.zero_le _) h)
  have e0 : s.extract 0 s.size = s := by simp
  have D : dcd s = if (tk s).2.2 ≠ 0 then (z0, (tk s).2.2) else if (tk s).2.1.size ≠ 0 then (z0, 23) else ((tk s).1, 0) := rfl
  rw [e0] at KT
  obtain ⟨⟨k, n, u⟩, t, e, ht⟩ : ∃ u t e, tk s = (u, t, e) := ⟨_, _, _, rfl⟩
  rw [ht] at KT D
  dsimp only at KT D
  unfold OutR at KT
  generalize dcd s = X at *
  replace D := Lib.hid D
  clear ht e0
  go_enter Tryd.func26, Tryd.ntmps26
  go_wp2_with fail
  refine KN.out.mono ?_
  rintro _ w1 ⟨rfl, hr1, hb1⟩
  have KT := Lib.hid (KT.out w1 _ hr1)
  have X1 := blk_below X0 hb1 hz
  have B1 := B0.trans (hb1.mono B0.size)
  have hc1 : w.heap.size < (w.alloc (bxV z0)).heap.size := hz
  obtain ⟨c, hc⟩ : ∃ c, (w.alloc (bxV z0)).heap.size = c := ⟨_, rfl⟩
  rw [hc] at KT hr1 hc1
  have HC := Lib.hid hc
  clear KN hb1 X0 B0 hz
  go_wp2_with fail
  refine KT.out.mono ?_
  rintro _ w2 ⟨rfl, ⟨a2, ha2, hr2, hx2⟩, hg2⟩
  have hb3 := alloc_below w2 (bxV (k, n, u))
  have hl2 : w.heap.size < w2.heap.size := by have := blk_lt hr2; omega
  have B3 := B1.trans (gr_below hg2 (fun g q => by simp only [Option.some.injEq] at q; omega) B1.size) |>.trans (hb3.mono (by omega))
  have X3 := blk_alloc (blk_grown X1 hg2 (fun q => by simp only [Option.some.injEq] at q; omega)) (bxV (k, n, u))
  have V3 := blk_new w2 (bxV (k, n, u))
  have hr3 : RB (w2.alloc (bxV (k, n, u))) c s a2 e := blk_alloc hr2 _
  go_upto_region 3 with fail
  obtain ⟨W, hW⟩ : ∃ W, w2.alloc (.cells #[.int .i64 k, .int .i64 n, .string u] 26) = W := ⟨_, rfl⟩
  have hW2 : w2.alloc (bxV (k, n, u)) = W := hW
  rw [hW2] at B3 X3 V3 hr3
  rw [hW]
  have B3 := Lib.hid B3
  have X3 := Lib.hid X3
  have V3 := Lib.hid V3
  have hr3 := Lib.hid hr3
  have HX := Lib.hid hx2
  clear hb3 hl2 hW hW2 hr2 hg2 hx2 X1 B1 hr1 hc KT
  by_cases he : e = 0
  · have hts : t.size = s.size - a2 := by rw [HX.out he]; simp
    replace D := Lib.hid (D.out.trans (if_neg (fun q => q he)))
    have KE := Lib.hid (fun (m : Nat) => Wire.rend_live c s a2 (W.drewN m) hs ha2 (by have := hr3.out; rw [he] at this; exact this))
    unfold Wire.Same at KE
    clear HX
    by_cases hl : s.size - a2 = 0
    · rw [if_pos hl] at KE
      have R := Lib.hid (D.out.trans (if_neg (by rw [hts, hl]; decide)))
      clear D hl hts he
      go_wp2_with fail
      refine (KE.out 0).mono ?_
      rintro _ w4 ⟨rfl, m, rfl⟩
      have V4 : ((W.drewN 0).drewN m).heap[w2.heap.size]? = some (bxV (k, n, u)) := V3.out
      have X4 : ((W.drewN 0).drewN m).heap[w.heap.size]? = some (bxV z0) := X3.out
      have B4 : Below w.heap.size w ((W.drewN 0).drewN m) := below_drewN (below_drewN B3.out 0) m
      obtain ⟨W4, hW4⟩ : ∃ W4, (W.drewN 0).drewN m = W4 := ⟨_, rfl⟩
      rw [hW4] at V4 X4 B4 ⊢
      have V4 := Lib.hid V4
      have X4 := Lib.hid X4
      have B4 := Lib.hid B4
      clear hW4 KE
      have v0c := blk_cell V4.out 0 (v := .int .i64 k) rfl
      have v1c := blk_cell V4.out 1 (v := .int .i64 n) rfl
      have v2c := blk_cell V4.out 2 (v := .string u) rfl
      obtain ⟨V, hV⟩ : ∃ V, V = putV W4 w.heap.size (k, n, u) := ⟨_, rfl⟩
      have RV := Lib.hid (show V.heap[w.heap.size]? = some (bxV (k, n, u)) by rw [hV]; exact putV_blk X4.out _)
      have BV := Lib.hid (show Below w.heap.size w V by rw [hV]; exact putV_below B4.out (Nat.le_refl _) _)
      have z0c := blk_cell X4.out 0 (v := .int .i64 0) rfl
      have z1c := blk_cell X4.out 1 (v := .int .i64 0) rfl
      have z2c := blk_cell X4.out 2 (v := .string { data := #[] }) rfl
      have x0c := blk_fr X4.out 0
      have x1c := blk_fr X4.out 1
      have x2c := blk_fr X4.out 2
      unfold putV at hV
      dsimp only at hV
      go_wp2_with fail
      rw [← hV]
      have t0 := blk_cell RV.out 0 (v := .int .i64 k) rfl
      have t1 := blk_cell RV.out 1 (v := .int .i64 n) rfl
      have t2 := blk_cell RV.out 2 (v := .string u) rfl
      refine bodyPost_ret (v := .tuple #[.agg #[.int .i64 k, .int .i64 n, .string u], .int .i64 0]) (by simp [results, Tryd.results26, go_sem, t0, t1, t2]) rfl ⟨?_, BV.out⟩
      rw [R.out]
    · rw [if_neg hl] at KE
      have R := Lib.hid (D.out.trans (if_pos (by rw [hts]; exact hl)))
      clear D hl hts he
      go_wp2_with fail
      refine (KE.out 0).mono ?_
      rintro _ w4 ⟨rfl, m, rfl⟩
      have hd : (W.drewN 0).drewN m = W.drewN m := rfl
      rw [hd]
      clear hd
      go_wp2_with fail
      refine (KE.out m).mono ?_
      rintro _ w4 ⟨rfl, m2, rfl⟩
      have X4 : ((W.drewN m).drewN m2).heap[w.heap.size]? = some (bxV z0) := X3.out
      have B4 : Below w.heap.size w ((W.drewN m).drewN m2) := below_drewN (below_drewN B3.out m) m2
      obtain ⟨W4, hW4⟩ : ∃ W4, (W.drewN m).drewN m2 = W4 := ⟨_, rfl⟩
      rw [hW4] at X4 B4 ⊢
      have X4 := Lib.hid X4
      have B4 := Lib.hid B4
      clear hW4 KE
      obtain ⟨V, hV⟩ : ∃ V, V = putV W4 w.heap.size (0, 0, { data := #[] }) := ⟨_, rfl⟩
      have RV := Lib.hid (show V.heap[w.heap.size]? = some (bxV (0, 0, { data := #[] })) by rw [hV]; exact putV_blk X4.out _)
      have BV := Lib.hid (show Below w.heap.size w V by rw [hV]; exact putV_below B4.out (Nat.le_refl _) _)
      have z0c := blk_cell X4.out 0 (v := .int .i64 0) rfl
      have z1c := blk_cell X4.out 1 (v := .int .i64 0) rfl
      have z2c := blk_cell X4.out 2 (v := .string { data := #[] }) rfl
      have x0c := blk_fr X4.out 0
      have x1c := blk_fr X4.out 1
      have x2c := blk_fr X4.out 2
      unfold putV at hV
      dsimp only at hV
      go_wp2_with fail
      rw [← hV]
      have t0 := blk_cell RV.out 0 (v := .int .i64 0) rfl
      have t1 := blk_cell RV.out 1 (v := .int .i64 0) rfl
      have t2 := blk_cell RV.out 2 (v := .string { data := #[] }) rfl
      refine bodyPost_ret (v := .tuple #[.agg #[.int .i64 0, .int .i64 0, .string { data := #[] }], .int .i64 23]) (by simp [results, Tryd.results26, go_sem, t0, t1, t2]) rfl ⟨?_, BV.out⟩
      rw [R.out]
      rfl
  · have R := Lib.hid (D.out.trans (if_pos he))
    have t5 : (e != 0) = true := by simp [he]
    have KE := Lib.hid (Wire.rend_dead c s a2 e W hr3.out he)
    clear D he HX
    go_wp2_with fail
    refine KE.out.mono ?_
    rintro _ w4 ⟨rfl, hw⟩
    subst hw
    go_wp2_with fail
    refine KE.out.mono ?_
    rintro _ w4 ⟨rfl, hw⟩
    subst hw
    clear KE
    obtain ⟨V, hV⟩ : ∃ V, V = putV W w.heap.size (0, 0, { data := #[] }) := ⟨_, rfl⟩
    have RV := Lib.hid (show V.heap[w.heap.size]? = some (bxV (0, 0, { data := #[] })) by rw [hV]; exact putV_blk X3.out _)
    have BV := Lib.hid (show Below w.heap.size w V by rw [hV]; exact putV_below B3.out (Nat.le_refl _) _)
    have z0c := blk_cell X3.out 0 (v := .int .i64 0) rfl
    have z1c := blk_cell X3.out 1 (v := .int .i64 0) rfl
    have z2c := blk_cell X3.out 2 (v := .string { data := #[] }) rfl
    have x0c := blk_fr X3.out 0
    have x1c := blk_fr X3.out 1
    have x2c := blk_fr X3.out 2
    unfold putV at hV
    dsimp only at hV
    go_wp2_with fail
    rw [← hV]
    have t0 := blk_cell RV.out 0 (v := .int .i64 0) rfl
    have t1 := blk_cell RV.out 1 (v := .int .i64 0) rfl
    have t2 := blk_cell RV.out 2 (v := .string { data := #[] }) rfl
    refine bodyPost_ret (v := .tuple #[.agg #[.int .i64 0, .int .i64 0, .string { data := #[] }], .int .i64 e]) (by simp [results, Tryd.results26, go_sem, t0, t1, t2]) rfl ⟨?_, BV.out⟩
    rw [R.out]
    rfl
end Go.Proofs.YtagkmfhicpcjnaaDoor.Vlu
/- Layer 20: the reference's Print. -/
set_option linter.unusedVariables false
set_option maxRecDepth 100000
namespace Go.Proofs.YtagkmfhicpcjnaaDoor.Vlu
open Go.RowKit
open Names (quo)
open Wire (bs)

theorem prt_bad {v : Vl} (h : chk v ≠ 0) : prt v = ByteArray.empty := if_pos h
theorem prt_is {v : Vl} (h : chk v = 0) : prt v = prt0 v := if_neg (fun q => q h)
set_option maxRecDepth 100000 in
set_option maxHeartbeats 4000000 in
theorem rprt_any (v : Vl) (w : World) (hv : v.2.2.size ≤ 100000) : Calls Tryd.prog 37 #[vlV v] w (OutY w (prt v)) := by
  have b0 := alloc_below w (bxV v)
  have X := blk_new w (bxV v)
  have hz : w.heap.size < (w.alloc (bxV v)).heap.size := by simp
  have KC := Lib.hid (rcheck_any v (w.alloc (bxV v)) (by omega))
  unfold OutI at KC
  have HX := Lib.hid (fun (w1 : World) (hb : Below (w.alloc (bxV v)).heap.size (w.alloc (bxV v)) w1) => And.intro (blk_below X hb hz) (b0.trans (hb.mono b0.size)))
  have P1 := Lib.hid (prt_bad (v := v))
  have P2 := Lib.hid (prt_is (v := v))
  have CI := Lib.hid (chk_iff (v := v))
  generalize prt v = P at *
  generalize chk v = cv at *
  obtain ⟨k, n, s⟩ := v
  dsimp only at KC CI hv
  have c0 := blk_cell X 0 (v := .int .i64 k) rfl
  have c1 := blk_cell X 1 (v := .int .i64 n) rfl
  have c2 := blk_cell X 2 (v := .string s) rfl
  clear X hz b0
  go_enter Tryd.func37, Tryd.ntmps37
  go_wp2_with fail
  refine KC.out.mono ?_
  rintro _ w1 ⟨rfl, hb1⟩
  clear c0 c1 c2
  obtain ⟨X1, B1⟩ := HX.out w1 hb1
  clear HX KC hb1
  by_cases hc : cv = 0
  · have t1 : (cv != 0) = false := by simp [hc]
    obtain ⟨k0, k4, l1, l2, _, _⟩ := CI.out.1 hc
    have R := Lib.hid (P2.out hc)
    have B1 := Lib.hid B1
    have c0 := blk_cell X1 0 (v := .int .i64 k) rfl
    have c1 := blk_cell X1 1 (v := .int .i64 n) rfl
    have c2 := blk_cell X1 2 (v := .string s) rfl
    clear P1 P2 CI hc X1
    have hk5 : k = 0 ∨ k = 1 ∨ k = 2 ∨ k = 3 ∨ k = 4 := by omega
    rcases hk5 with rfl | rfl | rfl | rfl | rfl
    · have R := Lib.hid (show P = sNone from R.out)
      go_wp2_with fail
      go_ret
      exact ⟨by rw [R.out]; rfl, B1.out⟩
    · by_cases n1 : n = 1
      · have R := Lib.hid (show P = sTrue from R.out.trans (by unfold prt0; dsimp only; rw [if_neg (by decide), if_pos rfl, if_pos n1]))
        have t2 : (n == 1) = true := by rw [beq_iff_eq]; exact n1
        clear n1 l1 l2
        go_wp2_with fail
        go_ret
        exact ⟨by rw [R.out]; rfl, B1.out⟩
      · have R := Lib.hid (show P = sFals from R.out.trans (by unfold prt0; dsimp only; rw [if_neg (by decide), if_pos rfl, if_neg n1]))
        have t2 : (n == 1) = false := beq_false_of_ne n1
        clear n1 l1 l2
        go_wp2_with fail
        go_ret
        exact ⟨by rw [R.out]; rfl, B1.out⟩
    · have KD := Lib.hid (rdig_any n w1 (by have := hi_le 2; have := lo_ge 2; unfold I64; omega))
      have R := Lib.hid (show P = digS n from R.out)
      clear l1 l2
      go_wp2_with fail
      refine KD.out.mono ?_
      rintro _ w2 ⟨rfl, hg⟩
      have B2 := Lib.hid (B1.out.trans (hg.mono B1.out.size))
      clear hg
      go_wp2_with fail
      go_ret
      exact ⟨by rw [R.out]; rfl, B2.out⟩
    · have KD := Lib.hid (rdig_any n w1 (by have := hi_le 3; have := lo_ge 3; unfold I64; omega))
      have R := Lib.hid (show P = (⟨#[35]⟩ : ByteArray) ++ digS n from R.out)
      have LZ := digS_size n
      clear l1 l2
      go_wp2_with fail
      refine KD.out.mono ?_
      rintro _ w2 ⟨rfl, hg⟩
      have B2 := Lib.hid (B1.out.trans (hg.mono B1.out.size))
      have LZ2 : (⟨#[35]⟩ : ByteArray).size + (digS n).size ≤ 9223372036854775807 := by
        have : (⟨#[35]⟩ : ByteArray).size = 1 := rfl
        omega
      have LZ3 : 1 + (digS n).size ≤ 9223372036854775807 := by omega
      clear hg
      go_wp2_with fail
      go_ret
      exact ⟨by rw [R.out]; rfl, B2.out⟩
    · have KQ := Lib.hid (Names.rquote_any s w1 hv)
      unfold Names.OutS at KQ
      have R := Lib.hid (show P = bs (quo s.data.toList) from R.out)
      clear l1 l2
      go_wp2_with fail
      refine KQ.out.mono ?_
      rintro _ w2 ⟨rfl, hb⟩
      have B2 := Lib.hid (B1.out.trans (hb.mono B1.out.size))
      clear hb
      go_wp2_with fail
      go_ret
      exact ⟨by rw [R.out]; rfl, B2.out⟩
  · have t1 : (cv != 0) = true := by simp [hc]
    have R := Lib.hid (P1.out hc)
    have B1 := Lib.hid B1
    clear P1 P2 CI hc X1
    go_wp2_with fail
    go_ret
    exact ⟨by rw [R.out]; rfl, B1.out⟩
end Go.Proofs.YtagkmfhicpcjnaaDoor.Vlu
/- Layer 20: the reference's guess. -/
set_option linter.unusedVariables false
set_option maxRecDepth 100000
namespace Go.Proofs.YtagkmfhicpcjnaaDoor.Vlu
open Go.RowKit
open Names (quo unq)
open Wire (bs)

theorem gss_word {s : ByteArray} (h : s = sTrue ∨ s = sFals) : gss s = (1, if s = sTrue then 1 else 0, ByteArray.empty) := if_pos h
theorem gss_enum {s : ByteArray} (h : ¬ (s = sTrue ∨ s = sFals)) (h2 : s.data.toList.head? = some 35) : gss s = (3, numS (s.extract 1 s.size), ByteArray.empty) := by unfold gss; rw [if_neg h, if_pos h2]
theorem gss_text {s : ByteArray} (h : ¬ (s = sTrue ∨ s = sFals)) (h2 : ¬ s.data.toList.head? = some 35) (h3 : s.data.toList.head? = some 34) : gss s = (4, 0, bs (unq s.data.toList).1) := by unfold gss; rw [if_neg h, if_neg h2, if_pos h3]
theorem gss_num {s : ByteArray} (h : ¬ (s = sTrue ∨ s = sFals)) (h2 : ¬ s.data.toList.head? = some 35) (h3 : ¬ s.data.toList.head? = some 34) (h4 : okS s = true) : gss s = (2, numS s, ByteArray.empty) := by unfold gss; rw [if_neg h, if_neg h2, if_neg h3, if_pos h4]
theorem gss_none {s : ByteArray} (h : ¬ (s = sTrue ∨ s = sFals)) (h2 : ¬ s.data.toList.head? = some 35) (h3 : ¬ s.data.toList.head? = some 34) (h4 : ¬ okS s = true) : gss s = z0 := by unfold gss; rw [if_neg h, if_neg h2, if_neg h3, if_neg h4]
theorem head_at {s : ByteArray} (h : 0 < s.size) : s.data.toList.head? = some s[0] := by
  have e : s.data.toList.head? = s.data.toList[0]? := List.head?_eq_getElem?
  rw [e, Array.getElem?_toList, Array.getElem?_eq_getElem h]
  rfl
theorem head_test {s : ByteArray} (h : 0 < s.size) (c : UInt8) : (((s[0].toNat : Nat) : Int) == ((c.toNat : Nat) : Int)) = decide (s.data.toList.head? = some c) := by
  rw [head_at h]
  by_cases e : s[0] = c
  · rw [e]; simp
  · rw [decide_eq_false (fun q => e (Option.some.inj q)), beq_eq_false_iff_ne]
    intro q
    exact e (UInt8.toNat_inj.1 (by omega))
set_option maxRecDepth 100000 in
set_option maxHeartbeats 4000000 in
theorem rgss_any (s : ByteArray) (w : World) (hs : s.size ≤ 10000) : Calls Tryd.prog 64 #[.string s] w (OutV w (gss s)) := by
  have X := blk_new w (bxV z0)
  have B0 := alloc_below w (bxV z0)
  have hz : w.heap.size < (w.alloc (bxV z0)).heap.size := by simp
  have q1 := seq_test s sTrue
  have q2 := seq_test s sFals
  have G1 := Lib.hid (gss_word (s := s))
  have G2 := Lib.hid (gss_enum (s := s))
  have G3 := Lib.hid (gss_text (s := s))
  have G4 := Lib.hid (gss_num (s := s))
  have G5 := Lib.hid (gss_none (s := s))
  generalize gss s = F at *
  obtain ⟨W, hW⟩ : ∃ W, w.alloc (bxV z0) = W := ⟨_, rfl⟩
  have hW' : w.alloc (.cells #[.int .i64 0, .int .i64 0, .string { data := #[] }] 26) = W := hW
  rw [hW] at X B0 hz
  have X := Lib.hid X
  have B0 := Lib.hid B0
  have HX := Lib.hid (fun (w1 : World) (hb : Below W.heap.size W w1) => And.intro (blk_below X.out hb hz) (B0.out.trans (hb.mono B0.out.size)))
  clear hW
  have lT : sTrue.toList = [116, 114, 117, 101] := by rw [Lib.toList_data]; rfl
  have lF : sFals.toList = [102, 97, 108, 115, 101] := by rw [Lib.toList_data]; rfl
  rw [lT] at q1
  rw [lF] at q2
  clear lT lF
  have LT := Lib.hid (fun (e : s.toList = [116, 114, 117, 101]) => (show s = sTrue from of_decide_eq_true (q1.symm.trans (by simp [e]))))
  have LF := Lib.hid (fun (e : s.toList = [102, 97, 108, 115, 101]) => (show s = sFals from of_decide_eq_true (q2.symm.trans (by simp [e]))))
  by_cases s1 : s = sTrue
  · have R := Lib.hid ((G1.out (Or.inl s1)).trans (by rw [if_pos s1]))
    rw [decide_eq_true s1] at q1
    have p1 : s.toList = [116, 114, 117, 101] := by simpa using q1
    clear G1 G2 G3 G4 G5 q1 q2 HX LT LF s1
    go_enter Tryd.func64, Tryd.ntmps64
    go_upto_region 5 with fail
    obtain ⟨W1, hW1⟩ : ∃ W1, W.alloc (.cells #[.int .i64 1, .int .i64 1, .string { data := #[] }] 26) = W1 := ⟨_, rfl⟩
    have X1 := Lib.hid (show W1.heap[w.heap.size]? = some (bxV z0) by rw [← hW1]; exact blk_alloc X.out _)
    have V1 := Lib.hid (show W1.heap[W.heap.size]? = some (bxV (1, 1, { data := #[] })) by rw [← hW1]; exact blk_new W _)
    have B1 := Lib.hid (show Below w.heap.size w W1 by rw [← hW1]; exact B0.out.trans ((alloc_below W _).mono B0.out.size))
    try rw [hW1]
    clear hW1 hW'
    have v0c := blk_cell V1.out 0 (v := .int .i64 1) rfl
    have v1c := blk_cell V1.out 1 (v := .int .i64 1) rfl
    have v2c := blk_cell V1.out 2 (v := .string { data := #[] }) rfl
    obtain ⟨V, hV⟩ : ∃ V, V = putV W1 w.heap.size (1, 1, { data := #[] }) := ⟨_, rfl⟩
    have RV := Lib.hid (show V.heap[w.heap.size]? = some (bxV (1, 1, { data := #[] })) by rw [hV]; exact putV_blk X1.out _)
    have BV := Lib.hid (show Below w.heap.size w V by rw [hV]; exact putV_below B1.out (Nat.le_refl _) _)
    have z0c := blk_cell X1.out 0 (v := .int .i64 0) rfl
    have z1c := blk_cell X1.out 1 (v := .int .i64 0) rfl
    have z2c := blk_cell X1.out 2 (v := .string { data := #[] }) rfl
    have x0c := blk_fr X1.out 0
    have x1c := blk_fr X1.out 1
    have x2c := blk_fr X1.out 2
    unfold putV at hV
    dsimp only at hV
    go_wp2_with fail
    rw [← hV]
    have t0 := blk_cell RV.out 0 (v := .int .i64 1) rfl
    have t1 := blk_cell RV.out 1 (v := .int .i64 1) rfl
    have t2 := blk_cell RV.out 2 (v := .string { data := #[] }) rfl
    refine bodyPost_ret (v := .agg #[.int .i64 1, .int .i64 1, .string { data := #[] }]) (by simp [results, Tryd.results64, go_sem, t0, t1, t2]) rfl ⟨?_, BV.out⟩
    rw [R.out]
    first | done | rfl
  have n1 : ¬ s.toList = [116, 114, 117, 101] := fun e => s1 (LT.out e)
  rw [decide_eq_false s1] at q1
  by_cases s2 : s = sFals
  · have R := Lib.hid ((G1.out (Or.inr s2)).trans (by rw [if_neg s1]))
    rw [decide_eq_true s2] at q2
    have p2 : s.toList = [102, 97, 108, 115, 101] := by simpa using q2
    clear G1 G2 G3 G4 G5 q1 q2 HX LT LF s1 s2 n1
    go_enter Tryd.func64, Tryd.ntmps64
    go_upto_region 5 with fail
    obtain ⟨W1, hW1⟩ : ∃ W1, W.alloc (.cells #[.int .i64 1, .int .i64 0, .string { data := #[] }] 26) = W1 := ⟨_, rfl⟩
    have X1 := Lib.hid (show W1.heap[w.heap.size]? = some (bxV z0) by rw [← hW1]; exact blk_alloc X.out _)
    have V1 := Lib.hid (show W1.heap[W.heap.size]? = some (bxV (1, 0, { data := #[] })) by rw [← hW1]; exact blk_new W _)
    have B1 := Lib.hid (show Below w.heap.size w W1 by rw [← hW1]; exact B0.out.trans ((alloc_below W _).mono B0.out.size))
    try rw [hW1]
    clear hW1 hW'
    have v0c := blk_cell V1.out 0 (v := .int .i64 1) rfl
    have v1c := blk_cell V1.out 1 (v := .int .i64 0) rfl
    have v2c := blk_cell V1.out 2 (v := .string { data := #[] }) rfl
    obtain ⟨V, hV⟩ : ∃ V, V = putV W1 w.heap.size (1, 0, { data := #[] }) := ⟨_, rfl⟩
    have RV := Lib.hid (show V.heap[w.heap.size]? = some (bxV (1, 0, { data := #[] })) by rw [hV]; exact putV_blk X1.out _)
    have BV := Lib.hid (show Below w.heap.size w V by rw [hV]; exact putV_below B1.out (Nat.le_refl _) _)
    have z0c := blk_cell X1.out 0 (v := .int .i64 0) rfl
    have z1c := blk_cell X1.out 1 (v := .int .i64 0) rfl
    have z2c := blk_cell X1.out 2 (v := .string { data := #[] }) rfl
    have x0c := blk_fr X1.out 0
    have x1c := blk_fr X1.out 1
    have x2c := blk_fr X1.out 2
    unfold putV at hV
    dsimp only at hV
    go_wp2_with fail
    rw [← hV]
    have t0 := blk_cell RV.out 0 (v := .int .i64 1) rfl
    have t1 := blk_cell RV.out 1 (v := .int .i64 0) rfl
    have t2 := blk_cell RV.out 2 (v := .string { data := #[] }) rfl
    refine bodyPost_ret (v := .agg #[.int .i64 1, .int .i64 0, .string { data := #[] }]) (by simp [results, Tryd.results64, go_sem, t0, t1, t2]) rfl ⟨?_, BV.out⟩
    rw [R.out]
    first | done | rfl
  have n2 : ¬ s.toList = [102, 97, 108, 115, 101] := fun e => s2 (LF.out e)
  rw [decide_eq_false s2] at q2
  have s12 : ¬ (s = sTrue ∨ s = sFals) := fun q => q.elim s1 s2
  have G2 := Lib.hid (G2.out s12)
  have G3 := Lib.hid (G3.out s12)
  have G4 := Lib.hid (G4.out s12)
  have G5 := Lib.hid (G5.out s12)
  clear G1 LT LF s1 s2 s12
  have KP := Lib.hid (rparse_two s W hs)
  by_cases h0 : s.size = 0
  · obtain rfl := size_zero h0
    have R := Lib.hid (G5.out (by decide) (by decide) (by decide))
    have k0 : okS ByteArray.empty = false := by decide
    rw [k0] at KP
    clear G2 G3 G4 G5 h0 q1 q2 n1 n2
    go_enter Tryd.func64, Tryd.ntmps64
    go_wp2_with fail
    refine KP.out.mono ?_
    rintro _ w1 ⟨rfl, hb1⟩
    obtain ⟨X1, B1⟩ := HX.out w1 hb1
    have X1 := Lib.hid X1
    have B1 := Lib.hid B1
    clear hb1 KP
    obtain ⟨V, hV⟩ : ∃ V, V = putV w1 w.heap.size (0, 0, { data := #[] }) := ⟨_, rfl⟩
    have RV := Lib.hid (show V.heap[w.heap.size]? = some (bxV (0, 0, { data := #[] })) by rw [hV]; exact putV_blk X1.out _)
    have BV := Lib.hid (show Below w.heap.size w V by rw [hV]; exact putV_below B1.out (Nat.le_refl _) _)
    have z0c := blk_cell X1.out 0 (v := .int .i64 0) rfl
    have z1c := blk_cell X1.out 1 (v := .int .i64 0) rfl
    have z2c := blk_cell X1.out 2 (v := .string { data := #[] }) rfl
    have x0c := blk_fr X1.out 0
    have x1c := blk_fr X1.out 1
    have x2c := blk_fr X1.out 2
    unfold putV at hV
    dsimp only at hV
    go_wp2_with fail
    rw [← hV]
    have t0 := blk_cell RV.out 0 (v := .int .i64 0) rfl
    have t1 := blk_cell RV.out 1 (v := .int .i64 0) rfl
    have t2 := blk_cell RV.out 2 (v := .string { data := #[] }) rfl
    refine bodyPost_ret (v := .agg #[.int .i64 0, .int .i64 0, .string { data := #[] }]) (by simp [results, Tryd.results64, go_sem, t0, t1, t2]) rfl ⟨?_, BV.out⟩
    rw [R.out]
    first | done | rfl
  obtain ⟨e1, e2⟩ := siz_pos h0
  have hp : 0 < s.size := by omega
  have a35 := head_test hp 35
  have a34 := head_test hp 34
  have i0 : (0 : Int) < (s.size : Int) := by omega
  by_cases h35 : s.data.toList.head? = some 35
  · have R := Lib.hid (G2.out h35)
    rw [decide_eq_true h35] at a35
    have a35 : ((s[0].toNat : Int) == 35) = true := a35
    have KE := Lib.hid (rparse_two (s.extract 1 s.size) W (by simp; omega))
    have i1 : (1 : Int) ≤ (s.size : Int) := by omega
    have i1n : 1 ≤ s.size := by omega
    clear G2 G3 G4 G5 h0 a34 h35 KP
    go_enter Tryd.func64, Tryd.ntmps64
    go_wp2_with fail
    refine KE.out.mono ?_
    rintro _ w1 ⟨rfl, hb1⟩
    obtain ⟨X1, B1⟩ := HX.out w1 hb1
    have X1 := Lib.hid X1
    have B1 := Lib.hid B1
    clear hb1 KE
    obtain ⟨V, hV⟩ : ∃ V, V = putV w1 w.heap.size (3, numS (s.extract 1 s.size), { data := #[] }) := ⟨_, rfl⟩
    have RV := Lib.hid (show V.heap[w.heap.size]? = some (bxV (3, numS (s.extract 1 s.size), { data := #[] })) by rw [hV]; exact putV_blk X1.out _)
    have BV := Lib.hid (show Below w.heap.size w V by rw [hV]; exact putV_below B1.out (Nat.le_refl _) _)
    have z0c := blk_cell X1.out 0 (v := .int .i64 0) rfl
    have z1c := blk_cell X1.out 1 (v := .int .i64 0) rfl
    have z2c := blk_cell X1.out 2 (v := .string { data := #[] }) rfl
    have x0c := blk_fr X1.out 0
    have x1c := blk_fr X1.out 1
    have x2c := blk_fr X1.out 2
    unfold putV at hV
    dsimp only at hV
    go_wp2_with fail
    rw [← hV]
    have t0 := blk_cell RV.out 0 (v := .int .i64 3) rfl
    have t1 := blk_cell RV.out 1 (v := .int .i64 (numS (s.extract 1 s.size))) rfl
    have t2 := blk_cell RV.out 2 (v := .string { data := #[] }) rfl
    refine bodyPost_ret (v := .agg #[.int .i64 3, .int .i64 (numS (s.extract 1 s.size)), .string { data := #[] }]) (by simp [results, Tryd.results64, go_sem, t0, t1, t2]) rfl ⟨?_, BV.out⟩
    rw [R.out]
    first | done | rfl
  rw [decide_eq_false h35] at a35
  have a35 : ((s[0].toNat : Int) == 35) = false := a35
  by_cases h34 : s.data.toList.head? = some 34
  · have R := Lib.hid (G3.out h35 h34)
    rw [decide_eq_true h34] at a34
    have a34 : ((s[0].toNat : Int) == 34) = true := a34
    have KU := Lib.hid (Names.ruq_any s W (by omega) _ rfl)
    unfold Names.OutUq at KU
    generalize unq s.data.toList = uq at *
    obtain ⟨ut, ue⟩ := uq
    clear G2 G3 G4 G5 h0 h35 h34 KP
    go_enter Tryd.func64, Tryd.ntmps64
    go_wp2_with fail
    refine KU.out.mono ?_
    rintro _ w1 ⟨rfl, hb1⟩
    obtain ⟨X1, B1⟩ := HX.out w1 hb1
    have X1 := Lib.hid X1
    have B1 := Lib.hid B1
    clear hb1 KU
    obtain ⟨V, hV⟩ : ∃ V, V = putV w1 w.heap.size (4, 0, Names.bs ut) := ⟨_, rfl⟩
    have RV := Lib.hid (show V.heap[w.heap.size]? = some (bxV (4, 0, Names.bs ut)) by rw [hV]; exact putV_blk X1.out _)
    have BV := Lib.hid (show Below w.heap.size w V by rw [hV]; exact putV_below B1.out (Nat.le_refl _) _)
    have z0c := blk_cell X1.out 0 (v := .int .i64 0) rfl
    have z1c := blk_cell X1.out 1 (v := .int .i64 0) rfl
    have z2c := blk_cell X1.out 2 (v := .string { data := #[] }) rfl
    have x0c := blk_fr X1.out 0
    have x1c := blk_fr X1.out 1
    have x2c := blk_fr X1.out 2
    unfold putV at hV
    dsimp only at hV
    go_wp2_with fail
    rw [← hV]
    have t0 := blk_cell RV.out 0 (v := .int .i64 4) rfl
    have t1 := blk_cell RV.out 1 (v := .int .i64 0) rfl
    have t2 := blk_cell RV.out 2 (v := .string (Names.bs ut)) rfl
    refine bodyPost_ret (v := .agg #[.int .i64 4, .int .i64 0, .string (Names.bs ut)]) (by simp [results, Tryd.results64, go_sem, t0, t1, t2]) rfl ⟨?_, BV.out⟩
    rw [R.out]
    first | done | rfl
  rw [decide_eq_false h34] at a34
  have a34 : ((s[0].toNat : Int) == 34) = false := a34
  by_cases hk : okS s = true
  · have R := Lib.hid (G4.out h35 h34 hk)
    rw [hk] at KP
    clear G2 G3 G4 G5 h0 h35 h34 hk
    go_enter Tryd.func64, Tryd.ntmps64
    go_wp2_with fail
    refine KP.out.mono ?_
    rintro _ w1 ⟨rfl, hb1⟩
    obtain ⟨X1, B1⟩ := HX.out w1 hb1
    have X1 := Lib.hid X1
    have B1 := Lib.hid B1
    clear hb1 KP
    obtain ⟨V, hV⟩ : ∃ V, V = putV w1 w.heap.size (2, numS s, { data := #[] }) := ⟨_, rfl⟩
    have RV := Lib.hid (show V.heap[w.heap.size]? = some (bxV (2, numS s, { data := #[] })) by rw [hV]; exact putV_blk X1.out _)
    have BV := Lib.hid (show Below w.heap.size w V by rw [hV]; exact putV_below B1.out (Nat.le_refl _) _)
    have z0c := blk_cell X1.out 0 (v := .int .i64 0) rfl
    have z1c := blk_cell X1.out 1 (v := .int .i64 0) rfl
    have z2c := blk_cell X1.out 2 (v := .string { data := #[] }) rfl
    have x0c := blk_fr X1.out 0
    have x1c := blk_fr X1.out 1
    have x2c := blk_fr X1.out 2
    unfold putV at hV
    dsimp only at hV
    go_wp2_with fail
    rw [← hV]
    have t0 := blk_cell RV.out 0 (v := .int .i64 2) rfl
    have t1 := blk_cell RV.out 1 (v := .int .i64 (numS s)) rfl
    have t2 := blk_cell RV.out 2 (v := .string { data := #[] }) rfl
    refine bodyPost_ret (v := .agg #[.int .i64 2, .int .i64 (numS s), .string { data := #[] }]) (by simp [results, Tryd.results64, go_sem, t0, t1, t2]) rfl ⟨?_, BV.out⟩
    rw [R.out]
    first | done | rfl
  · have R := Lib.hid (G5.out h35 h34 hk)
    have hk : okS s = false := by simpa using hk
    rw [hk] at KP
    clear G2 G3 G4 G5 h0 h35 h34 hk
    go_enter Tryd.func64, Tryd.ntmps64
    go_wp2_with fail
    refine KP.out.mono ?_
    rintro _ w1 ⟨rfl, hb1⟩
    obtain ⟨X1, B1⟩ := HX.out w1 hb1
    have X1 := Lib.hid X1
    have B1 := Lib.hid B1
    clear hb1 KP
    obtain ⟨V, hV⟩ : ∃ V, V = putV w1 w.heap.size (0, 0, { data := #[] }) := ⟨_, rfl⟩
    have RV := Lib.hid (show V.heap[w.heap.size]? = some (bxV (0, 0, { data := #[] })) by rw [hV]; exact putV_blk X1.out _)
    have BV := Lib.hid (show Below w.heap.size w V by rw [hV]; exact putV_below B1.out (Nat.le_refl _) _)
    have z0c := blk_cell X1.out 0 (v := .int .i64 0) rfl
    have z1c := blk_cell X1.out 1 (v := .int .i64 0) rfl
    have z2c := blk_cell X1.out 2 (v := .string { data := #[] }) rfl
    have x0c := blk_fr X1.out 0
    have x1c := blk_fr X1.out 1
    have x2c := blk_fr X1.out 2
    unfold putV at hV
    dsimp only at hV
    go_wp2_with fail
    rw [← hV]
    have t0 := blk_cell RV.out 0 (v := .int .i64 0) rfl
    have t1 := blk_cell RV.out 1 (v := .int .i64 0) rfl
    have t2 := blk_cell RV.out 2 (v := .string { data := #[] }) rfl
    refine bodyPost_ret (v := .agg #[.int .i64 0, .int .i64 0, .string { data := #[] }]) (by simp [results, Tryd.results64, go_sem, t0, t1, t2]) rfl ⟨?_, BV.out⟩
    rw [R.out]
    first | done | rfl
end Go.Proofs.YtagkmfhicpcjnaaDoor.Vlu
