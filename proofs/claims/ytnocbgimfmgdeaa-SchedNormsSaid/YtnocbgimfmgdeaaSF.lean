/- Contract of slices.SortFunc at rows of turns, with the closure that compares their minutes. -/
import Derived.Test.YtnocbgimfmgdeaaSE
import Derived.Test.YtnocbgimfmgdeaaNSort
set_option linter.unusedVariables false
namespace Go.Proofs.Ytnocbgimfmgdeaa
open Go.RowKit

theorem cmp_eq (x y : Int) : Lib.compareInt x y = if x < y then -1 else if y < x then 1 else 0 := by
  unfold Lib.compareInt; rfl
set_option maxHeartbeats 400000 in
theorem nan_any (x : Int) (w : World) : Calls Try.prog 53 #[.int .i64 x] w fun e w' => e = .returned (.bool false) ∧ w = w' := by
  go_enter Try.func53, Try.ntmps53
  go_wp2_with fail
  go_ret
  exact ⟨ret_bool (by first | rfl | simp), rfl⟩
set_option maxHeartbeats 400000 in
theorem compare_any (x y : Int) (w : World) : Calls Try.prog 49 #[.int .i64 x, .int .i64 y] w fun e w' => e = .returned (.int .i64 (Lib.compareInt x y)) ∧ w = w' := by
  have E := Lib.hid (cmp_eq x y)
  rcases Int.lt_trichotomy x y with h | h | h
  · have d1 := dt h
    have R := Lib.hid (show Lib.compareInt x y = -1 by rw [E.out, if_pos h])
    go_enter Try.func49, Try.ntmps49
    go_wp2_with (go_at_call 53; refine (nan_any _ _).mono ?_; rintro e w' ⟨rfl, rfl⟩)
    go_ret
    exact ⟨ret_int R.out.symm, rfl⟩
  · subst h
    have d1 := df (Int.lt_irrefl x)
    have R := Lib.hid (show Lib.compareInt x x = 0 by rw [E.out, if_neg (Int.lt_irrefl x), if_neg (Int.lt_irrefl x)])
    go_enter Try.func49, Try.ntmps49
    go_wp2_with (go_at_call 53; refine (nan_any _ _).mono ?_; rintro e w' ⟨rfl, rfl⟩)
    go_ret
    exact ⟨ret_int R.out.symm, rfl⟩
  · have d1 := df (show ¬ x < y by omega)
    have d2 := dt h
    have R := Lib.hid (show Lib.compareInt x y = 1 by rw [E.out, if_neg (by omega), if_pos h])
    go_enter Try.func49, Try.ntmps49
    go_wp2_with (go_at_call 53; refine (nan_any _ _).mono ?_; rintro e w' ⟨rfl, rfl⟩)
    go_ret
    exact ⟨ret_int R.out.symm, rfl⟩

def cmpT (x y : Trn) : Int := Lib.compareInt x.1 y.1
theorem ltT (x y : Trn) : ltOf cmpT x y = decide (x.1 < y.1) := by
  unfold ltOf cmpT
  rw [cmp_eq]
  by_cases h1 : x.1 < y.1
  · simp [h1]
  · by_cases h2 : y.1 < x.1 <;> simp [h1, h2]
theorem swoT : Go.Sort.SWO (ltOf cmpT) where
  irrefl x := by rw [ltT]; simp
  trans x y z h1 h2 := by rw [ltT] at *; simp at *; omega
  ntrans x y z h1 h2 := by rw [ltT] at *; simp at *; omega

set_option maxHeartbeats 1000000 in
theorem closure_any (x y : Trn) (W : World) : Calls Try.prog 48 #[.agg #[.int .i64 x.1, .int .i64 x.2.1, .int .i64 x.2.2], .agg #[.int .i64 y.1, .int .i64 y.2.1, .int .i64 y.2.2]] W fun e w' => e = .returned (.int .i64 (cmpT x y)) ∧ ∃ q os', w' = Go.Sort.grow (W.drewN q) os' := by
  have hcon := fun W' => compare_any x.1 y.1 W'
  unfold cmpT
  generalize Lib.compareInt x.1 y.1 = r at hcon ⊢
  generalize x.1 = x0 at *
  generalize x.2.1 = x1 at *
  generalize x.2.2 = x2 at *
  generalize y.1 = y0 at *
  generalize y.2.1 = y1 at *
  generalize y.2.2 = y2 at *
  go_enter Try.func48, Try.ntmps48
  go_wp2_with (go_at_call 49; refine (hcon _).mono ?_; rintro e w' ⟨rfl, rfl⟩)
  go_ret
  exact ⟨rfl, 0, _, by rw [Go.Sort.alloc_eq_grow, Go.Sort.alloc_eq_grow, Go.Sort.grow_grow]; rfl⟩
theorem cmpLays (blk off size : Nat) (w : World) : CmpLays Try.prog 48 #[] encT 3 cmpT blk off size w := fun _ _ _ _ x y => closure_any x y _

/-- Block g holds these turns. -/
def TrAt (w : World) (g : Nat) (D : List Trn) : Prop := g < w.heap.size ∧ ∀ i (hi : i < D.length), w.cell? ⟨g, i * 3, none⟩ = some (.int .i64 D[i].1) ∧ w.cell? ⟨g, i * 3 + 1, none⟩ = some (.int .i64 D[i].2.1) ∧ w.cell? ⟨g, i * 3 + 2, none⟩ = some (.int .i64 D[i].2.2)
theorem TrAt.below {w w' : World} {g B : Nat} {D : List Trn} (h : TrAt w g D) (hB : g < B) (hb : Below B w w') : TrAt w' g D := by
  have := hb.size
  refine ⟨by have := h.1; omega, fun i hi => ?_⟩
  obtain ⟨h1, h2, h3⟩ := h.2 i hi
  exact ⟨(hb.cell (p := ⟨g, i * 3, none⟩) hB).trans h1, (hb.cell (p := ⟨g, i * 3 + 1, none⟩) hB).trans h2, (hb.cell (p := ⟨g, i * 3 + 2, none⟩) hB).trans h3⟩
theorem mapBlock_below (w : World) (blk : Nat) (f : Array Value → Array Value) (k : Nat) (h : k < blk) : (Go.Sort.mapBlock w blk f).heap[k]? = w.heap[k]? := by
  unfold Go.Sort.mapBlock
  simp [Array.getElem?_modify]
  omega
theorem sorted_below (w : World) (blk m : Nat) (d : Array Trn) (os : Array Obj) (B : Nat) (hB : B ≤ blk) (hb : blk < w.heap.size) : Below B w (sortWorldK encT 3 w blk 0 m d os) := by
  have hs : ((Go.Sort.putRowK encT 3 (Go.Sort.ahead w m) blk 0 d)).heap.size = w.heap.size := by rw [Go.Sort.size_putRowK]; rfl
  refine ⟨rfl, rfl, rfl, ?_, fun k hk => ?_⟩
  · unfold sortWorldK; rw [Go.Sort.size_grow, hs]; omega
  · unfold sortWorldK Go.Sort.grow
    show ((Go.Sort.putRowK encT 3 (Go.Sort.ahead w m) blk 0 d).heap ++ os)[k]? = _
    rw [Array.getElem?_append_left (by rw [hs]; omega)]
    exact mapBlock_below _ _ _ _ (by omega)

theorem holds_turns {w : World} {B g cap : Nat} {l : List Trn} (h : OwnT w B (.slice (some ⟨g, 0, none⟩) l.length cap) l) : Go.Sort.HoldsK encT 3 w g 0 l.toArray := by
  intro j hj
  have hj2 : j < l.length * 3 := by simpa using hj
  have e := h.cellAt j hj2
  refine ⟨?_, by rw [Nat.zero_add]; exact h.frozenAt j⟩
  obtain ⟨q, r, rfl, hr⟩ : ∃ q r, j = q * 3 + r ∧ r < 3 := ⟨j / 3, j % 3, by omega, by omega⟩
  rw [Nat.zero_add, e, Go.Sort.get_flatK _ _ _ _ hj2, show (q * 3 + r) / 3 = q by omega, show (q * 3 + r) % 3 = r by omega]
  have hq : q < l.length := by omega
  obtain ⟨e0, e1, e2⟩ := flT_get l q hq
  have ea : l.toArray[q]! = l[q] := by rw [getElem!_pos _ _ (by simpa using hq)]; simp
  rw [ea]
  match r, hr with
  | 0, _ => exact e0
  | 1, _ => exact e1
  | 2, _ => exact e2

set_option maxHeartbeats 1000000 in
theorem ssort_any (B g cap : Nat) (l : List Trn) (w : World) (h : OwnT w B (.slice (some ⟨g, 0, none⟩) l.length cap) l) (hl : l.length ≤ 600000) :
    Calls Try.prog 47 #[.slice (some ⟨g, 0, none⟩) l.length cap, .func (.func 48) #[] #[]] w
      fun e w' => e = .returned (.tuple #[]) ∧ ∃ D : List Trn, D.Perm l ∧ (∀ i j (hi : i < D.length) (hj : j < D.length), i ≤ j → D[i].1 ≤ D[j].1) ∧ TrAt w' g D ∧ Below g w w' := by
  have hg : g < w.heap.size := (h.lt g rfl).2
  have hH := holds_turns h
  have eg : ∀ args w, (callFunc 48 args).run Try.prog w = .ok (.enter 48 args) w := enters_of Try.func48 (by kernel_rfl) rfl
  have hcon := AnyQ.slices_SortFunc Try.sortT 3 Try.isAgg52 Try.sizeOf52 encT (fun _ => rfl) (fun x v hv => by simp [encT] at hv; rcases hv with rfl | rfl | rfl <;> rfl) cmpT swoT 48 #[] g 0 cap l.toArray w eg (cmpLays g 0 _ w) hH hg (by simp; omega)
  rw [List.size_toArray] at hcon
  refine Calls.mono (show Calls Try.prog 47 _ _ _ from hcon) ?_
  rintro e w' ⟨rfl, d, n, os, hp, hs, rfl⟩
  obtain ⟨p1, p2, p3⟩ := hp
  have p1 : d.size = l.length := by simpa using p1
  have hH2 := holdsK_sortWorldK_c encT 3 w g 0 l.toArray d n os hH hg (by simp [p1])
  refine ⟨rfl, d.toList, ?_, ?_, ⟨?_, ?_⟩, sorted_below w g n d os g (Nat.le_refl _) hg⟩
  · have e1 : d.extract 0 l.length = d := by rw [← p1]; exact Array.extract_size
    have e2 : l.toArray.extract 0 l.length = l.toArray := by simp
    rw [e1, e2] at p3
    exact p3
  · intro i j hi hj hij
    have hi : i < d.size := by simpa using hi
    have hj : j < d.size := by simpa using hj
    rw [Array.getElem_toList, Array.getElem_toList]
    rcases Nat.lt_or_ge i j with c | c
    · have := hs i j (Nat.zero_le _) c (by omega)
      rw [ltT, getElem!_pos d i hi, getElem!_pos d j hj] at this
      have := of_decide_eq_false this
      omega
    · obtain rfl : i = j := by omega
      exact Int.le_refl _
  · have := size_sortWorldK_c encT 3 w g 0 n d os; omega
  · intro i hi
    have hi : i < d.size := by simpa using hi
    rw [Array.getElem_toList]
    have c0 := (hH2.cell hi (c := 0) (by decide)).1
    have c1 := (hH2.cell hi (c := 1) (by decide)).1
    have c2 := (hH2.cell hi (c := 2) (by decide)).1
    rw [getElem!_pos d i hi, Nat.zero_add] at c0 c1 c2
    exact ⟨c0, c1, c2⟩
theorem sort_none (p : Option Addr) (cap : Nat) (fv : Value) (w : World) :
    Calls Try.prog 47 #[.slice p 0 cap, fv] w fun e w' => e = .returned (.tuple #[]) ∧ w' = w :=
  AnyF.slices_SortFunc_none Try.sortT p cap fv w
end Go.Proofs.Ytnocbgimfmgdeaa
