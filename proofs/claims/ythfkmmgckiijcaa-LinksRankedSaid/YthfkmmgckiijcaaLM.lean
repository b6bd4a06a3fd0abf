/- Where a neighbor stands; contracts of the search, of place and of entryOf. -/
import Derived.Test.YthfkmmgckiijcaaLL
set_option linter.unusedVariables false
namespace Go.Proofs.Ythfkmmgckiijcaa.Lnk
open Go.RowKit

/-- How many entries stand before a neighbor's place. -/
def pos (n : Int) : List Lk → Nat
  | [] => 0
  | y :: r => if y.1 < n then pos n r + 1 else 0
/-- Whether it has an entry there. -/
def fnd (n : Int) : List Lk → Bool
  | [] => false
  | y :: r => if y.1 < n then fnd n r else decide (y.1 = n)
/-- The place behind. -/
def pe (n : Int) (l : List Lk) : Nat := pos n l + (if fnd n l then 1 else 0)
theorem pos_le (n : Int) : ∀ l, pos n l ≤ l.length
  | [] => Nat.le_refl 0
  | y :: r => by unfold pos; have := pos_le n r; split <;> simp <;> omega
theorem pos_lt (n : Int) : ∀ (l : List Lk) (p : Nat) (hp : p < l.length), p < pos n l → l[p].1 < n
  | [], p, hp, _ => absurd hp (by simp)
  | y :: r, p, hp, h => by
    unfold pos at h
    split at h
    · rename_i hy
      cases p with
      | zero => exact hy
      | succ p => exact pos_lt n r p (by simpa using hp) (by omega)
    · omega
theorem pos_at (n : Int) : ∀ (l : List Lk) (h : pos n l < l.length), ¬ l[pos n l].1 < n
  | [], h => absurd h (by simp)
  | y :: r, h => by
    by_cases hy : y.1 < n
    · have e : pos n (y :: r) = pos n r + 1 := if_pos hy
      simp only [e, List.getElem_cons_succ]
      exact pos_at n r (by rw [e] at h; simpa using h)
    · have e : pos n (y :: r) = 0 := if_neg hy
      simp only [e, List.getElem_cons_zero]
      exact hy
theorem pos_of (n : Int) (l : List Lk) (i : Nat) (hi : i ≤ l.length) (h1 : ∀ p (hp : p < l.length), p < i → l[p].1 < n) (h2 : ∀ p (hp : p < l.length), i ≤ p → ¬ l[p].1 < n) : i = pos n l := by
  have h3 := pos_le n l
  rcases Nat.lt_trichotomy i (pos n l) with c | c | c
  · exact absurd (pos_lt n l i (by omega) c) (h2 i (by omega) (Nat.le_refl _))
  · exact c
  · exact absurd (h1 (pos n l) (by omega) c) (pos_at n l (by omega))
theorem fnd_at (n : Int) : ∀ (l : List Lk) (h : pos n l < l.length), fnd n l = decide (l[pos n l].1 = n)
  | [], h => absurd h (by simp)
  | y :: r, h => by
    by_cases hy : y.1 < n
    · have e : pos n (y :: r) = pos n r + 1 := if_pos hy
      have e2 : fnd n (y :: r) = fnd n r := if_pos hy
      simp only [e, List.getElem_cons_succ]
      rw [e2]
      exact fnd_at n r (by rw [e] at h; simpa using h)
    · have e : pos n (y :: r) = 0 := if_neg hy
      have e2 : fnd n (y :: r) = decide (y.1 = n) := if_neg hy
      simp only [e, List.getElem_cons_zero]
      exact e2
theorem fnd_end (n : Int) : ∀ (l : List Lk), pos n l = l.length → fnd n l = false
  | [], _ => rfl
  | y :: r, h => by
    by_cases hy : y.1 < n
    · have e : pos n (y :: r) = pos n r + 1 := if_pos hy
      have e2 : fnd n (y :: r) = fnd n r := if_pos hy
      rw [e2]
      exact fnd_end n r (by rw [e] at h; simpa using h)
    · have e : pos n (y :: r) = 0 := if_neg hy
      rw [e] at h; simp at h
theorem pe_le (n : Int) (l : List Lk) : pos n l ≤ pe n l ∧ pe n l ≤ l.length := by
  have h := pos_le n l
  unfold pe
  rcases Nat.lt_or_ge (pos n l) l.length with c | c
  · split <;> omega
  · rw [fnd_end n l (by omega)]; simp; omega
abbrev Sor (l : List Lk) : Prop := l.Pairwise fun a b => a.1 < b.1
theorem ent_yes (n : Int) : ∀ (l : List Lk), fnd n l = true → ∃ h : pos n l < l.length, ent l n = some l[pos n l]
  | [], h => by cases h
  | y :: r, h => by
    by_cases hy : y.1 < n
    · have e : pos n (y :: r) = pos n r + 1 := if_pos hy
      have e2 : fnd n (y :: r) = fnd n r := if_pos hy
      rw [e2] at h
      obtain ⟨h1, h2⟩ := ent_yes n r h
      refine ⟨by rw [e]; simpa using h1, ?_⟩
      simp only [e, List.getElem_cons_succ]
      rw [← h2]
      unfold ent
      rw [List.find?_cons_of_neg (by simp; omega)]
    · have e : pos n (y :: r) = 0 := if_neg hy
      have e2 : fnd n (y :: r) = decide (y.1 = n) := if_neg hy
      rw [e2] at h
      refine ⟨by rw [e]; simp, ?_⟩
      simp only [e, List.getElem_cons_zero]
      unfold ent
      rw [List.find?_cons_of_pos (p := fun (x : Lk) => decide (x.1 = n)) (a := y) h]
theorem ent_no (n : Int) : ∀ (l : List Lk), Sor l → fnd n l = false → ent l n = none
  | [], _, _ => rfl
  | y :: r, hs, h => by
    obtain ⟨h1, h2⟩ := List.pairwise_cons.1 hs
    by_cases hy : y.1 < n
    · have e2 : fnd n (y :: r) = fnd n r := if_pos hy
      rw [e2] at h
      unfold ent
      rw [List.find?_cons_of_neg (by simp; omega)]
      exact ent_no n r h2 h
    · have e2 : fnd n (y :: r) = decide (y.1 = n) := if_neg hy
      rw [e2] at h
      have hne : y.1 ≠ n := of_decide_eq_false h
      refine List.find?_eq_none.2 fun x hx => ?_
      rcases List.mem_cons.1 hx with rfl | hx
      · simpa using hne
      · have := h1 x hx; simp; omega
theorem ent_fnd (n : Int) (l : List Lk) (hs : Sor l) : (ent l n).isSome = fnd n l := by
  cases h : fnd n l with
  | true => obtain ⟨_, e⟩ := ent_yes n l h; rw [e]; rfl
  | false => rw [ent_no n l hs h]; rfl
theorem ins_pos (x : Lk) : ∀ (l : List Lk), ins x l = l.take (pos x.1 l) ++ [x] ++ l.drop (pe x.1 l)
  | [] => rfl
  | y :: r => by
    unfold ins
    by_cases hy : y.1 < x.1
    · have e : pos x.1 (y :: r) = pos x.1 r + 1 := if_pos hy
      have e2 : fnd x.1 (y :: r) = fnd x.1 r := if_pos hy
      have e3 : pe x.1 (y :: r) = pe x.1 r + 1 := by unfold pe; rw [e, e2]; omega
      rw [if_pos hy, e, e3, ins_pos x r]
      rfl
    · have e : pos x.1 (y :: r) = 0 := if_neg hy
      have e2 : fnd x.1 (y :: r) = decide (y.1 = x.1) := if_neg hy
      rw [if_neg hy]
      by_cases h : y.1 = x.1
      · have e3 : pe x.1 (y :: r) = 1 := by unfold pe; rw [e, e2, decide_eq_true h]; rfl
        rw [if_pos h, e, e3]
        rfl
      · have e3 : pe x.1 (y :: r) = 0 := by unfold pe; rw [e, e2, decide_eq_false h]; rfl
        rw [if_neg h, e, e3]
        rfl
theorem fil_pos (n : Int) : ∀ (l : List Lk), Sor l → (l.filter fun x => decide (x.1 ≠ n)) = l.take (pos n l) ++ [] ++ l.drop (pe n l)
  | [], _ => rfl
  | y :: r, hs => by
    obtain ⟨h1, h2⟩ := List.pairwise_cons.1 hs
    by_cases hy : y.1 < n
    · have e : pos n (y :: r) = pos n r + 1 := if_pos hy
      have e2 : fnd n (y :: r) = fnd n r := if_pos hy
      have e3 : pe n (y :: r) = pe n r + 1 := by unfold pe; rw [e, e2]; omega
      rw [List.filter_cons_of_pos (by simp; omega), e, e3, fil_pos n r h2]
      rfl
    · have e : pos n (y :: r) = 0 := if_neg hy
      have e2 : fnd n (y :: r) = decide (y.1 = n) := if_neg hy
      have hr : r.filter (fun x => decide (x.1 ≠ n)) = r := by
        rw [List.filter_eq_self]
        intro x hx
        have := h1 x hx
        simp; omega
      by_cases h : y.1 = n
      · have e3 : pe n (y :: r) = 1 := by unfold pe; rw [e, e2, decide_eq_true h]; rfl
        rw [List.filter_cons_of_neg (by simpa using h), e, e3, hr]
        rfl
      · have e3 : pe n (y :: r) = 0 := by unfold pe; rw [e, e2, decide_eq_false h]; rfl
        rw [List.filter_cons_of_pos (by simpa using h), e, e3, hr]
        rfl

theorem enP : ∀ args w, (callFunc 45 args).run Try.prog w = .ok (.enter 45 args) w := enters_of Try.func45 (by kernel_rfl) rfl
theorem u64_nat2' (i j : Nat) (h : i + j < 18446744073709551616) : IntKind.u64.wrap ((i : Int) + (j : Int)) = (i : Int) + (j : Int) := u64_nat2 i j h
set_option maxRecDepth 100000 in
set_option maxHeartbeats 1000000 in
theorem bsearch_any (A : Option Addr) (c : Nat) (l : List Lk) (n : Int) (w : World) (hl : l.length ≤ 1000000) (hs : Sor l) (hA : LkAt w w.heap.size A l) :
    Calls Try.prog 44 #[.slice A l.length c, .int .i64 n, .func (.func 45) #[] #[]] w
      (fun e w' => e = .returned (.tuple #[.int .i64 (pos n l : Nat), .bool (fnd n l)]) ∧ Below w.heap.size w w') := by
  have HA := Lib.hid hA
  have HS := Lib.hid hs
  have eg := enP
  clear hA hs
  go_enter Try.func44, Try.ntmps44
  go_wp2_with fail
  go_loopw [9, 10] (fun vi vj wr => ∃ i j : Nat, vi = .int .i64 i ∧ vj = .int .i64 j ∧ i ≤ j ∧ j ≤ l.length ∧ Hid (∀ p (hp : p < l.length), p < i → l[p].1 < n) ∧ Hid (∀ p (hp : p < l.length), j ≤ p → n ≤ l[p].1) ∧ Below w.heap.size w wr) (fun vi vj _ => (intOf vj - intOf vi).toNat)
  case atStart => exact ⟨0, l.length, rfl, rfl, Nat.zero_le _, Nat.le_refl _, Lib.hid (fun p hp h => by omega), Lib.hid (fun p hp h => by omega), Below.refl _ _⟩
  case round =>
    obtain ⟨i, j, rfl, rfl, hij, hjl, HL, HH, hb⟩ := hrel
    have B := Lib.hid hb
    have hz := hb.size
    by_cases hlt : i < j
    · obtain ⟨h, hh⟩ : ∃ h, h = (i + j) / 2 := ⟨_, rfl⟩
      have h1 : i ≤ h := by omega
      have h2 : h < j := by omega
      have h3 : h < l.length := by omega
      have u1 := u64_nat2 i j (by omega)
      have eH : ((i : Int) + (j : Int)) / 2 = (h : Int) := by omega
      have wH := i64_nat h (by omega)
      obtain ⟨b, p, rfl, hbw, g0, g1, g2, g3, g4, g5⟩ := lk_cell (HA.out.below hb) h h3
      have KC := Lib.hid (fun w => (show Calls Try.prog 45 #[.agg #[.int .i64 l[h].1, .int .i64 l[h].2.1, .int .i64 l[h].2.2], .int .i64 n] w (OutI w (Lib.compareInt l[h].1 n)) from (placeC_any l[h] n w).mono fun _ _ h => outG_I h))
      have CE := Lib.hid (cmp_eq l[h].1 n)
      have NA := Lib.hid (show l[h].1 < n → ∀ p (hp : p < l.length), p < h + 1 → l[p].1 < n from fun hx p hp hq => by
        rcases Nat.lt_or_ge p h with c | c
        · have := List.pairwise_iff_getElem.1 HS.out p h hp h3 c; omega
        · obtain rfl : p = h := by omega
          exact hx)
      have NB := Lib.hid (show ¬ l[h].1 < n → ∀ p (hp : p < l.length), h ≤ p → n ≤ l[p].1 from fun hx p hp hq => by
        rcases Nat.lt_or_ge h p with c | c
        · have := List.pairwise_iff_getElem.1 HS.out h p h3 hp c; omega
        · obtain rfl : p = h := by omega
          omega)
      clear hb hh
      generalize Lib.compareInt l[h].1 n = r at *
      generalize l[h].1 = x0 at *
      generalize l[h].2.1 = x1 at *
      generalize l[h].2.2 = x2 at *
      by_cases hx : x0 < n
      · have d1 := dt (show r < 0 by rw [CE.out, if_pos hx]; omega)
        have NA := Lib.hid (NA.out hx)
        clear NB CE hx
        go_wp2_with fail
        refine (KC.out _).mono ?_
        rintro _ w2 ⟨rfl, hb⟩
        have B2 := Lib.hid (B.out.trans (hb.mono hz))
        clear hb
        go_wp2_with fail
        go_roundw
        case rel => exact ⟨h + 1, j, by go_num, rfl, by omega, hjl, NA, HH, B2.out⟩
        case measure => simp [intOf]; omega
      · have d1 := df (show ¬ r < 0 by rw [CE.out, if_neg hx]; split <;> omega)
        have NB2 := Lib.hid (NB.out hx)
        clear NA NB CE hx
        go_wp2_with fail
        refine (KC.out _).mono ?_
        rintro _ w2 ⟨rfl, hb⟩
        have B2 := Lib.hid (B.out.trans (hb.mono hz))
        clear hb
        go_wp2_with fail
        go_roundw
        case rel => exact ⟨i, h, rfl, rfl, by omega, by omega, HL, NB2, B2.out⟩
        case measure => simp [intOf]; omega
    · have P := Lib.hid (pos_of n l i (by omega) HL.out (fun p hp hq => by have := HH.out p hp (by omega); omega))
      by_cases hil : i < l.length
      · obtain ⟨b, p, rfl, hbw, g0, g1, g2, g3, g4, g5⟩ := lk_cell (HA.out.below hb) i hil
        have FA := Lib.hid (show fnd n l = decide (l[i].1 = n) by
          have := fnd_at n l (by rw [← P.out]; exact hil)
          simp only [← P.out] at this
          exact this)
        have KC := Lib.hid (fun w => (show Calls Try.prog 45 #[.agg #[.int .i64 l[i].1, .int .i64 l[i].2.1, .int .i64 l[i].2.2], .int .i64 n] w (OutI w (Lib.compareInt l[i].1 n)) from (placeC_any l[i] n w).mono fun _ _ h => outG_I h))
        have CE := Lib.hid (cmp_eq l[i].1 n)
        clear hb HL HH
        generalize Lib.compareInt l[i].1 n = r at *
        generalize l[i].1 = x0 at *
        generalize l[i].2.1 = x1 at *
        generalize l[i].2.2 = x2 at *
        have E := Lib.hid (show (r == 0) = fnd n l by
          rw [FA.out, CE.out]
          rcases Int.lt_trichotomy x0 n with h | h | h
          · rw [if_pos h, decide_eq_false (by omega)]; rfl
          · rw [if_neg (by omega), if_neg (by omega), decide_eq_true h]; rfl
          · rw [if_neg (by omega), if_pos h, decide_eq_false (by omega)]; rfl)
        have RR := Lib.hid P.out
        clear FA CE P
        go_wp2_with fail
        refine (KC.out _).mono ?_
        rintro _ w2 ⟨rfl, hb⟩
        have B2 := Lib.hid (B.out.trans (hb.mono hz))
        clear hb
        go_wp2_with fail
        go_ret2
        exact ⟨by rw [← E.out, ← RR.out]; rfl, B2.out⟩
      · have FE := Lib.hid (fnd_end n l (by have := P.out; omega))
        have RR := Lib.hid P.out
        clear hb HL HH P
        go_wp2_with fail
        go_ret2
        exact ⟨by rw [FE.out, ← RR.out]; rfl, B.out⟩

set_option maxHeartbeats 1000000 in
theorem place_any (A : Option Addr) (c : Nat) (l : List Lk) (n : Int) (w : World) (hl : l.length ≤ 1000000) (hs : Sor l) (hA : LkAt w w.heap.size A l) :
    Calls Try.prog 27 #[.slice A l.length c, .int .i64 n] w (fun e w' => e = .returned (.tuple #[.int .i64 (pos n l : Nat), .int .i64 (pe n l : Nat)]) ∧ Below w.heap.size w w') := by
  have K := Lib.hid (bsearch_any A c l n w hl hs hA)
  have hp := pos_le n l
  have PE := Lib.hid (show pe n l = pos n l + (if fnd n l then 1 else 0) from rfl)
  clear hA hs
  generalize pos n l = i at *
  generalize pe n l = j at *
  cases hf : fnd n l with
  | true =>
    rw [hf] at K
    have R := Lib.hid (show j = i + 1 by rw [PE.out, hf]; rfl)
    clear hf PE
    go_enter Try.func27, Try.ntmps27
    go_wp2_with fail
    refine K.out.mono ?_
    rintro _ w1 ⟨rfl, hb⟩
    have B := Lib.hid hb
    clear hb
    go_wp2_with fail
    go_ret2
    exact ⟨by rw [R.out]; rfl, B.out⟩
  | false =>
    rw [hf] at K
    have R := Lib.hid (show j = i by rw [PE.out, hf]; rfl)
    clear hf PE
    go_enter Try.func27, Try.ntmps27
    go_wp2_with fail
    refine K.out.mono ?_
    rintro _ w1 ⟨rfl, hb⟩
    have B := Lib.hid hb
    clear hb
    go_wp2_with fail
    go_ret2
    exact ⟨by rw [R.out]; rfl, B.out⟩

/-- An entry is handed back. -/
def OutE (w : World) (x : Lk) (e : Ending) (w' : World) : Prop := e = .returned (lkV x) ∧ Below w.heap.size w w'
set_option maxHeartbeats 1000000 in
theorem entryOf_any (A : Option Addr) (c : Nat) (l : List Lk) (n : Int) (w : World) (hl : l.length ≤ 1000000) (hs : Sor l) (hA : LkAt w w.heap.size A l) :
    Calls Try.prog 32 #[.slice A l.length c, .int .i64 n] w (OutE w (entd l n)) := by
  have K := Lib.hid (fun w hA => place_any A c l n w hl hs hA)
  have HA := Lib.hid hA
  have hp := pos_le n l
  have PE := Lib.hid (show pe n l = pos n l + (if fnd n l then 1 else 0) from rfl)
  clear hA
  cases hf : fnd n l with
  | true =>
    obtain ⟨hpl, he⟩ := ent_yes n l hf
    have R := Lib.hid (show entd l n = l[pos n l] by unfold entd; rw [he]; rfl)
    have hj : pe n l = pos n l + 1 := by rw [PE.out, hf]; rfl
    rw [hj] at K
    clear hf PE he hj hs
    obtain ⟨B0, hB0⟩ : ∃ B0, B0 = w.heap.size := ⟨_, rfl⟩
    generalize pos n l = i at *
    obtain ⟨⟨x0, x1, x2⟩, hx⟩ : ∃ x, l[i] = x := ⟨_, rfl⟩
    have HX := Lib.hid hx
    rw [hx] at R
    clear hx
    have t1 : ((i : Int) == (i : Int) + 1) = false := by simp; omega
    have bi : (i : Int) < (l.length : Int) := by omega
    rw [R.out]
    clear hB0
    go_enter Try.func32, Try.ntmps32
    go_wp2_with fail
    refine (K.out _ (HA.out.next (alloc_below _ _))).mono ?_
    rintro _ w1 ⟨rfl, hb⟩
    have B := Lib.hid (box_below hb)
    have Z := blk_below (blk_new w (.cells #[.int .i64 0, .int .i64 0, .int .i64 0] 38)) hb (by simp)
    obtain ⟨b, p, rfl, hbw, g0, g1, g2, g3, g4, g5⟩ := lk_cell (HA.out.below (box_below hb)) i hpl
    have c0 := blk_cell Z 0 (v := .int .i64 0) rfl
    have c1 := blk_cell Z 1 (v := .int .i64 0) rfl
    have c2 := blk_cell Z 2 (v := .int .i64 0) rfl
    have f0 := blk_fr Z 0
    have f1 := blk_fr Z 1
    have f2 := blk_fr Z 2
    rw [HX.out] at g0 g1 g2
    simp only at g0 g1 g2
    clear hb Z g3 g4 g5
    go_wp2_with fail
    refine bodyPost_ret (v := lkV (x0, x1, x2)) (by simp [results, Try.results32, go_sem, c0, c1, c2]) rfl ⟨rfl, ((B.out.setCell (Nat.le_refl _) _).setCell (Nat.le_refl _) _).setCell (Nat.le_refl _) _⟩
  | false =>
    have R := Lib.hid (show entd l n = (n, 0, 0) by unfold entd; rw [ent_no n l hs hf]; rfl)
    have hj : pe n l = pos n l := by rw [PE.out, hf]; rfl
    rw [hj] at K
    clear hf PE hj hs
    generalize pos n l = i at *
    rw [R.out]
    go_enter Try.func32, Try.ntmps32
    go_wp2_with fail
    refine (K.out _ (HA.out.next (alloc_below _ _))).mono ?_
    rintro _ w1 ⟨rfl, hb⟩
    have B := Lib.hid (box_below hb)
    have Z := blk_below (blk_new w (.cells #[.int .i64 0, .int .i64 0, .int .i64 0] 38)) hb (by simp)
    have c0 := blk_cell Z 0 (v := .int .i64 0) rfl
    have c1 := blk_cell Z 1 (v := .int .i64 0) rfl
    have c2 := blk_cell Z 2 (v := .int .i64 0) rfl
    have f0 := blk_fr Z 0
    have f1 := blk_fr Z 1
    have f2 := blk_fr Z 2
    clear hb Z
    go_wp2_with fail
    refine bodyPost_ret (v := lkV (n, 0, 0)) (by simp [results, Try.results32, go_sem, c0, c1, c2]) rfl ⟨rfl, ((B.out.setCell (Nat.le_refl _) _).setCell (Nat.le_refl _) _).setCell (Nat.le_refl _) _⟩

theorem nxt_i64 {x : Lk} (h : Ok1 x) (t : Int) (ht : t = 0 ∨ t = 1) : Ok1 (nxt x t) := nxt_ok h t ht
set_option maxHeartbeats 1000000 in
theorem after_any (x : Lk) (ok : Bool) (hx : Ok1 x) (w : World) : Calls Try.prog 31 #[lkV x, .bool ok] w (OutE w (nxt x (if ok then 1 else 0))) := by
  obtain ⟨n, b, c⟩ := x
  have hb := bits_lt hx
  have hc := hx.2.1
  simp only at hb hc
  obtain ⟨hb1, hb2⟩ := hb
  obtain ⟨hc1, hc2⟩ := hc
  clear hx
  cases ok with
  | true =>
    have e1 : 2 * b % 65536 + 1 = (2 * b + 1) % 65536 := by omega
    have E1 := Lib.hid e1
    clear e1
    go_enter Try.func31, Try.ntmps31
    go_wp2_with fail
    refine bodyPost_ret (v := lkV (n, 2 * b % 65536 + 1, min (c + 1) 16)) (by simp [results, Try.results31, go_sem]) rfl ⟨by rw [E1.out]; rfl, (alloc_below _ _).trans ((alloc_below _ _).mono (by simp))⟩
  | false =>
    have E1 := Lib.hid (show 2 * b + 0 = 2 * b from Int.add_zero _)
    go_enter Try.func31, Try.ntmps31
    go_wp2_with fail
    refine bodyPost_ret (v := lkV (n, 2 * b % 65536, min (c + 1) 16)) (by simp [results, Try.results31, go_sem]) rfl ⟨by rw [← Int.add_zero (2 * b)]; rfl, (alloc_below _ _).trans ((alloc_below _ _).mono (by simp))⟩
end Go.Proofs.Ythfkmmgckiijcaa.Lnk
