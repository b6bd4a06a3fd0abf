/- Contracts of the table that counts, of Clone, of the sort at a row of the call's own, and of Best. -/
import Derived.Test.YthfkmmgckiijcaaLJ
set_option linter.unusedVariables false
namespace Go.Proofs.Ythfkmmgckiijcaa.Lnk
open Go.RowKit

theorem eLk : Elems Try.prog 22 38 fL.sz := Elems.mk' Try.underlying22 (z := .agg #[.int .i64 0, .int .i64 0, .int .i64 0]) (m := 24) (by kernel_rfl) (by decide) rfl
theorem eInt : Elems Try.prog 33 3 fI.sz := Elems.mk' Try.underlying33 (z := .int .i64 0) (m := 8) (by kernel_rfl) (by decide) rfl
abbrev OwnL (w : World) (B : Nat) (v : Value) (l : List Lk) : Prop := OwnF fL 38 w B v l
/-- A row of the call's own is handed back. -/
def OutL (w : World) (l : List Lk) (e : Ending) (w' : World) : Prop := ∃ v, e = .returned v ∧ OwnL w' w.heap.size v l ∧ Below w.heap.size w w'
theorem ok_i64 {x : Lk} (h : Ok1 x) : I64 x.1 ∧ I64 x.2.1 ∧ I64 x.2.2 := by
  have := bits_lt h
  obtain ⟨h1, h2, _⟩ := h
  exact ⟨by unfold I64; omega, by unfold I64; omega, by unfold I64; omega⟩
theorem vl_len (l : List Lk) : (vl l).length ≤ 24 := (vl_val l).1

set_option maxHeartbeats 400000 in
theorem lvalid_any (A : Option Addr) (c : Nat) (l : List Lk) (w : World) (hl : l.length ≤ 9223372036854775807) (hc : l.length ≤ c) (hc0 : A = none → c = 0) (hA : LkAt w w.heap.size A l) :
    Calls Try.prog 26 #[.slice A l.length c] w (OutF fL w (vl l)) := by
  have HA := Lib.hid hA
  have HC := Lib.hid hc0
  have K := Lib.hid (lcheck_any A c l w hl hA)
  clear hA hc0
  by_cases h : chk l = 0
  · have R := Lib.hid (show vl l = l from if_pos h)
    rw [h] at K
    clear h
    go_enter Try.func26, Try.ntmps26
    go_wp2_with fail
    refine K.out.mono ?_
    rintro _ w1 ⟨rfl, hb⟩
    have B1 := Lib.hid hb
    clear hb
    go_wp2_with fail
    go_ret
    exact outF R.out (by rw [R.out]) (HA.out.next B1.out) hc HC.out B1.out
  · have R := Lib.hid (show vl l = [] from if_neg h)
    have h2 : (chk l != 0) = true := by simpa using h
    generalize chk l = q at *
    clear h
    go_enter Try.func26, Try.ntmps26
    go_wp2_with fail
    refine K.out.mono ?_
    rintro _ w1 ⟨rfl, hb⟩
    have B1 := Lib.hid hb
    clear hb
    go_wp2_with fail
    go_ret
    exact outF_nil R.out B1.out

set_option maxRecDepth 100000 in
set_option maxHeartbeats 2000000 in
theorem lclone_any (A : Option Addr) (c : Nat) (l : List Lk) (w : World) (hl : l.length ≤ 100000000) (hA : LkAt w w.heap.size A l) :
    Calls Try.prog 29 #[.slice A l.length c] w (OutL w l) := by
  cases A with
  | none =>
    obtain rfl := hA.none rfl
    have hnil := fun w => Lib.run_eql_slice_nil (P := Try.prog) w 22 _ none 0 c 0 0 Try.underlying22
    simp only [Option.isNone] at hnil
    go_enter Try.func29, Try.ntmps29
    go_wp2_with fail
    go_ret
    exact ⟨_, rfl, OwnF.nil _ _, Below.refl _ _⟩
  | some ad =>
    obtain ⟨v', w', hap, ho, hb, _⟩ := (OwnF.lit (F := fL) (T := 38) w w.heap.size [] #[] (Nat.le_refl _) (by unfold maxLen; simp) rfl (by simp)).app eLk (c := c) 22 ((hA.below (alloc_below _ _))) (by simpa using hl) (by simp)
    have O := Lib.hid (show OwnL w' w.heap.size v' l from ho)
    have B := Lib.hid ((alloc_below w (.cells #[] 38)).trans hb)
    clear ho hb hA
    simp only [List.length_nil] at hap
    have hnil := fun w => Lib.run_eql_slice_nil (P := Try.prog) w 22 _ (some ad) l.length c 0 0 Try.underlying22
    simp only [Option.isNone] at hnil
    go_enter Try.func29, Try.ntmps29
    go_wp2_with (at_builtin; refine Lib.wpList_append_run _ rfl _ _ _ _ rfl _ _ rfl rfl _ _ hap ?_)
    go_ret
    exact ⟨_, rfl, O.out, B.out⟩

/-! The sort of nothing. -/
set_option maxHeartbeats 400000 in
theorem ins_none (p : Option Addr) (cap : Nat) (fv : Value) (w : World) : Calls Try.prog 55 #[.slice p 0 cap, .int .i64 0, .int .i64 0, fv] w fun e w' => e = .returned (.tuple #[]) ∧ w' = w := by
  go_enter Try.func55, Try.ntmps55
  go_wp2_with fail
  go_loopw [8] (fun v wr => v = .int .i64 1 ∧ wr = w) (fun _ _ => 0)
  case atStart => exact ⟨rfl, rfl⟩
  case round =>
    obtain ⟨rfl, rfl⟩ := hrel
    go_wp2_with fail
    go_end0
    exact ⟨rfl, rfl⟩
set_option maxHeartbeats 400000 in
theorem stable_none (p : Option Addr) (cap : Nat) (fv : Value) (w : World) : Calls Try.prog 50 #[.slice p 0 cap, .int .i64 0, fv] w fun e w' => e = .returned (.tuple #[]) ∧ w' = w := by
  go_enter Try.func50, Try.ntmps50
  go_wp2_with fail
  go_loopw [7, 8] (fun v7 v8 wr => v7 = .int .i64 0 ∧ v8 = .int .i64 20 ∧ wr = w) (fun _ _ _ => 0)
  case atStart => exact ⟨rfl, rfl, rfl⟩
  case round =>
    obtain ⟨rfl, rfl, rfl⟩ := hrel
    go_wp2_with fail
    refine (ins_none p cap fv _).mono ?_
    rintro _ w2 ⟨rfl, rfl⟩
    go_wp2_with fail
    go_loopw [6, 7, 8, 9] (fun v6 v7 v8 v9 wx => v6 = .int .i64 20 ∧ wx = w2) (fun _ _ _ _ _ => 0)
    case atStart => exact ⟨rfl, rfl⟩
    case round =>
      obtain ⟨rfl, rfl⟩ := hrel
      go_wp2_with fail
      go_end0
      exact ⟨rfl, rfl⟩
set_option maxHeartbeats 400000 in
theorem stableF_none (p : Option Addr) (cap : Nat) (fv : Value) (w : World) : Calls Try.prog 41 #[.slice p 0 cap, fv] w fun e w' => e = .returned (.tuple #[]) ∧ w' = w := by
  go_enter Try.func41, Try.ntmps41
  go_wp2_with fail
  refine (stable_none p cap fv _).mono ?_
  rintro _ w2 ⟨rfl, rfl⟩
  go_wp2_with fail
  go_end0
  exact ⟨rfl, rfl⟩

/-! The sort of a row of the call's own. -/
theorem mapBlock_below (w : World) (blk : Nat) (f : Array Value → Array Value) (k : Nat) (h : k < blk) : (Go.Sort.mapBlock w blk f).heap[k]? = w.heap[k]? := by
  unfold Go.Sort.mapBlock
  simp [Array.getElem?_modify]
  omega
theorem sw_below {w w' : World} {blk : Nat} {dk : Array VL} (h : SWV w blk dk w') (B : Nat) (hB : B ≤ blk) (hb : blk < w.heap.size) : Below B w w' := by
  obtain ⟨m, os, rfl⟩ := h
  have hs : ((Go.Sort.putRowK encV 3 (Go.Sort.ahead w m) blk 0 dk)).heap.size = w.heap.size := by rw [Go.Sort.size_putRowK]; rfl
  refine ⟨rfl, rfl, rfl, ?_, fun k hk => ?_⟩
  · unfold sortWorldK; rw [Go.Sort.size_grow, hs]; omega
  · unfold sortWorldK Go.Sort.grow
    show ((Go.Sort.putRowK encV 3 (Go.Sort.ahead w m) blk 0 dk).heap ++ os)[k]? = _
    rw [Array.getElem?_append_left (by rw [hs]; omega)]
    exact mapBlock_below _ _ _ _ (by omega)
/-- A list of entries in range, as such. -/
def toV (l : List Lk) (h : ∀ x ∈ l, Ok1 x) : List VL := l.pmap Subtype.mk h
theorem toV_map (l : List Lk) (h : ∀ x ∈ l, Ok1 x) : (toV l h).map Subtype.val = l := by unfold toV; rw [List.map_pmap]; simp
theorem holdsV {w : World} {B g cap : Nat} {l : List Lk} (L : List VL) (hL : L.map Subtype.val = l) (h : OwnL w B (.slice (some ⟨g, 0, none⟩) l.length cap) l) : Go.Sort.HoldsK encV 3 w g 0 L.toArray := by
  subst hL
  intro j hj
  have hj2 : j < L.length * 3 := by simpa using hj
  refine ⟨?_, by rw [Nat.zero_add]; exact h.fr j⟩
  obtain ⟨q, r, rfl, hr⟩ : ∃ q r, j = q * 3 + r ∧ r < 3 := ⟨j / 3, j % 3, by omega, by omega⟩
  have hq : q < L.length := by omega
  have e := h.cell q (by simpa using hq) r hr
  have eq : (L.map Subtype.val)[q]'(by simpa using hq) = L[q].1 := by simp
  rw [Nat.zero_add, Go.Sort.get_flatK _ _ _ _ hj2, show (q * 3 + r) / 3 = q by omega, show (q * 3 + r) % 3 = r by omega]
  have ea : L.toArray[q]! = L[q] := by rw [getElem!_pos _ _ (by simpa using hq)]; simp
  rw [ea]
  refine e.trans ?_
  rw [eq]
  match r, hr with
  | 0, _ => rfl
  | 1, _ => rfl
  | 2, _ => rfl
/-- In order of cost, then of number. -/
def Srt (l : List Lk) : Prop := l.Pairwise fun x y => cst x < cst y ∨ (cst x = cst y ∧ x.1 < y.1)
theorem lsort_any (B : Nat) (v : Value) (l : List Lk) (w : World) (hv : l.length ≤ 24 ∧ (∀ x ∈ l, Ok1 x) ∧ l.Pairwise fun a b => a.1 < b.1) (h : OwnL w B v l) (hB : B ≤ w.heap.size) :
    Calls Try.prog 41 #[v, .func (.func 42) #[] #[]] w
      fun e w' => e = .returned (.tuple #[]) ∧ ∃ sl A c, v = .slice A (List.length sl) c ∧ sl.Perm l ∧ Srt sl ∧ LkAt w' w'.heap.size A sl ∧ Below B w w' := by
  by_cases hn : l = []
  · subst hn
    obtain ⟨A, c, rfl, _⟩ := h.form
    refine (stableF_none A c _ w).mono ?_
    rintro e w' ⟨rfl, rfl⟩
    exact ⟨rfl, [], A, c, rfl, List.Perm.refl _, List.Pairwise.nil, FlAt.nil _ _ _, Below.refl _ _⟩
  obtain ⟨g, cap, rfl, hg1, hg2⟩ := h.at hn
  obtain ⟨hlen, hok, hasc⟩ := hv
  obtain ⟨L, hL⟩ : ∃ L : List VL, L.map Subtype.val = l := ⟨toV l hok, toV_map l hok⟩
  have hLn : L.length = l.length := by rw [← hL, List.length_map]
  have hH := holdsV L hL h
  have hAsc : Asc 0 L.toArray.size L.toArray := by
    intro p q _ hpq hq
    have hq' : q < L.length := by simpa using hq
    have hp' : p < L.length := by omega
    have e1 : L.toArray[p]! = L[p] := by rw [getElem!_pos _ _ (by simpa using hp')]; simp
    have e2 : L.toArray[q]! = L[q] := by rw [getElem!_pos _ _ (by simpa using hq')]; simp
    rw [e1, e2]
    have := List.pairwise_iff_getElem.1 (hL ▸ hasc) p q (by simpa using hp') (by simpa using hq') hpq
    simpa using this
  have K := stableF_any g cap L.toArray w (rowV hH hg2) (by simp; omega) hAsc
  rw [List.size_toArray, hLn] at K
  refine K.mono ?_
  rintro e w' ⟨rfl, d, hp, hs, hS⟩
  have hz : d.size = l.length := by have := hp.1; simp at this; omega
  refine ⟨rfl, d.toList.map Subtype.val, some ⟨g, 0, none⟩, cap, by simp [hz], ?_, ?_, ?_, sw_below hS B hg1 hg2⟩
  · have := hp.2.2
    have e1 : d.extract 0 l.length = d := by rw [← hz]; exact Array.extract_size
    have e2 : L.toArray.extract 0 l.length = L.toArray := by rw [← hLn]; simp
    rw [e1, e2] at this
    rw [← hL]
    exact this.map _
  · have hper : (d.toList.map Subtype.val).Perm l := by
      have := hp.2.2
      have e1 : d.extract 0 l.length = d := by rw [← hz]; exact Array.extract_size
      have e2 : L.toArray.extract 0 l.length = L.toArray := by rw [← hLn]; simp
      rw [e1, e2] at this
      rw [← hL]
      exact this.map _
    have hne : (d.toList.map Subtype.val).Pairwise fun x y : Lk => x.1 ≠ y.1 :=
      (List.Perm.pairwise_iff (fun {x y} (h : x.1 ≠ y.1) => fun e => h e.symm) hper).2 (hasc.imp fun {x y} h => by omega)
    unfold Srt
    rw [List.pairwise_iff_getElem] at hne ⊢
    intro i j hi hj hij
    have h1 := hne i j hi hj hij
    have hi' : i < d.size := by simpa using hi
    have hj' : j < d.size := by simpa using hj
    have h2 := (ltB_not _ _).1 (hs i j (Nat.zero_le _) hij (by omega))
    have e1 : (d.toList.map Subtype.val)[i] = d[i]!.1 := by rw [getElem!_pos d i hi']; simp
    have e2 : (d.toList.map Subtype.val)[j] = d[j]!.1 := by rw [getElem!_pos d j hj']; simp
    rw [e1, e2] at h1 ⊢
    omega
  · intro i hi
    have hi' : i < d.size := by simpa using hi
    obtain ⟨c0, c1, c2⟩ := sw_cell hS (rowV hH hg2) (by simp; omega) i hi'
    have e : (d.toList.map Subtype.val)[i] = d[i]!.1 := by rw [getElem!_pos d i hi']; simp
    refine ⟨g, 0, rfl, hS.lt hg2, fun j u hu => ?_, ?_⟩
    · rw [e] at hu
      rw [Nat.zero_add]
      match j, hu with
      | 0, hu => exact c0.trans hu
      | 1, hu => exact c1.trans hu
      | 2, hu => exact c2.trans hu
      | n + 3, hu => cases hu
    · rw [e]; exact ok_i64 d[i]!.2
end Go.Proofs.Ythfkmmgckiijcaa.Lnk
