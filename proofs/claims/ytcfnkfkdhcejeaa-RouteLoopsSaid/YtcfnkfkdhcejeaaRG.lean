/- Where a route stands; contracts of the search and of place. -/
import Derived.Test.YtcfnkfkdhcejeaaRC
set_option linter.unusedVariables false
namespace Go.Proofs.Ytcfnkfkdhcejeaa.Rte
open Go.RowKit

theorem u64_nat2 (i j : Nat) (h : i + j < 18446744073709551616) : IntKind.u64.wrap ((i : Int) + (j : Int)) = (i : Int) + (j : Int) := by
  show ((i : Int) + (j : Int)) % 18446744073709551616 = _
  omega
theorem i64_nat (h : Nat) (hh : h ≤ 9223372036854775807) : IntKind.i64.wrap (h : Int) = (h : Int) := by rw [IntKind.wrap_i64]; omega
def cmpI (x y : Int) : Int := if x < y then -1 else if y < x then 1 else 0
theorem cmp_eq (x y : Int) : cmpI x y = if x < y then -1 else if y < x then 1 else 0 := by
  rfl
set_option maxHeartbeats 400000 in
theorem nan_any (x : Int) (w : World) : Calls Try.prog 58 #[.int .i64 x] w fun e w' => e = .returned (.bool false) ∧ w = w' := by
  go_enter Try.func58, Try.ntmps58
  go_wp2_with fail
  go_ret
  exact ⟨ret_bool (by first | rfl | simp), rfl⟩
set_option maxHeartbeats 400000 in
theorem compare_any (x y : Int) (w : World) : Calls Try.prog 52 #[.int .i64 x, .int .i64 y] w fun e w' => e = .returned (.int .i64 (cmpI x y)) ∧ w = w' := by
  have E := Lib.hid (cmp_eq x y)
  rcases Int.lt_trichotomy x y with h | h | h
  · have d1 := dt h
    have R := Lib.hid (show cmpI x y = -1 by rw [E.out, if_pos h])
    go_enter Try.func52, Try.ntmps52
    go_wp2_with (go_at_call 58; refine (nan_any _ _).mono ?_; rintro e w' ⟨rfl, rfl⟩)
    go_ret
    exact ⟨ret_int R.out.symm, rfl⟩
  · subst h
    have d1 := df (Int.lt_irrefl x)
    have R := Lib.hid (show cmpI x x = 0 by rw [E.out, if_neg (Int.lt_irrefl x), if_neg (Int.lt_irrefl x)])
    go_enter Try.func52, Try.ntmps52
    go_wp2_with (go_at_call 58; refine (nan_any _ _).mono ?_; rintro e w' ⟨rfl, rfl⟩)
    go_ret
    exact ⟨ret_int R.out.symm, rfl⟩
  · have d1 := df (show ¬ x < y by omega)
    have d2 := dt h
    have R := Lib.hid (show cmpI x y = 1 by rw [E.out, if_neg (by omega), if_pos h])
    go_enter Try.func52, Try.ntmps52
    go_wp2_with (go_at_call 58; refine (nan_any _ _).mono ?_; rintro e w' ⟨rfl, rfl⟩)
    go_ret
    exact ⟨ret_int R.out.symm, rfl⟩

set_option maxHeartbeats 400000 in
/-- The comparison of place. -/
theorem placeC_any (x : Rt) (n : Int) (w : World) : Calls Try.prog 51 #[rtV x, .int .i64 n] w (OutG w (.int .i64 (cmpI x.1 n))) := by
  obtain ⟨a, b, c, e⟩ := x
  have K := Lib.hid (fun w => compare_any a n w)
  simp only
  generalize cmpI a n = r at *
  go_enter Try.func51, Try.ntmps51
  go_wp2_with (go_at_call 52; refine (K.out _).mono ?_; rintro e w' ⟨rfl, rfl⟩)
  go_ret
  exact outG_alloc _ rfl
/-- How many entries stand before a neighbor's place. -/
def pos (n : Int) : List Rt → Nat
  | [] => 0
  | y :: r => if y.1 < n then pos n r + 1 else 0
/-- Whether it has an entry there. -/
def has (n : Int) : List Rt → Bool
  | [] => false
  | y :: r => if y.1 < n then has n r else decide (y.1 = n)
/-- The place behind. -/
def pe (n : Int) (l : List Rt) : Nat := pos n l + (if has n l then 1 else 0)
theorem pos_le (n : Int) : ∀ l, pos n l ≤ l.length
  | [] => Nat.le_refl 0
  | y :: r => by unfold pos; have := pos_le n r; split <;> simp <;> omega
theorem pos_lt (n : Int) : ∀ (l : List Rt) (p : Nat) (hp : p < l.length), p < pos n l → l[p].1 < n
  | [], p, hp, _ => absurd hp (by simp)
  | y :: r, p, hp, h => by
    unfold pos at h
    split at h
    · rename_i hy
      cases p with
      | zero => exact hy
      | succ p => exact pos_lt n r p (by simpa using hp) (by omega)
    · omega
theorem pos_at (n : Int) : ∀ (l : List Rt) (h : pos n l < l.length), ¬ l[pos n l].1 < n
  | [], h => absurd h (by simp)
  | y :: r, h => by
    by_cases hy : y.1 < n
    · have e : pos n (y :: r) = pos n r + 1 := if_pos hy
      simp only [e, List.getElem_cons_succ]
      exact pos_at n r (by rw [e] at h; simpa using h)
    · have e : pos n (y :: r) = 0 := if_neg hy
      simp only [e, List.getElem_cons_zero]
      exact hy
theorem pos_of (n : Int) (l : List Rt) (i : Nat) (hi : i ≤ l.length) (h1 : ∀ p (hp : p < l.length), p < i → l[p].1 < n) (h2 : ∀ p (hp : p < l.length), i ≤ p → ¬ l[p].1 < n) : i = pos n l := by
  have h3 := pos_le n l
  rcases Nat.lt_trichotomy i (pos n l) with c | c | c
  · exact absurd (pos_lt n l i (by omega) c) (h2 i (by omega) (Nat.le_refl _))
  · exact c
  · exact absurd (h1 (pos n l) (by omega) c) (pos_at n l (by omega))
theorem has_at (n : Int) : ∀ (l : List Rt) (h : pos n l < l.length), has n l = decide (l[pos n l].1 = n)
  | [], h => absurd h (by simp)
  | y :: r, h => by
    by_cases hy : y.1 < n
    · have e : pos n (y :: r) = pos n r + 1 := if_pos hy
      have e2 : has n (y :: r) = has n r := if_pos hy
      simp only [e, List.getElem_cons_succ]
      rw [e2]
      exact has_at n r (by rw [e] at h; simpa using h)
    · have e : pos n (y :: r) = 0 := if_neg hy
      have e2 : has n (y :: r) = decide (y.1 = n) := if_neg hy
      simp only [e, List.getElem_cons_zero]
      exact e2
theorem has_end (n : Int) : ∀ (l : List Rt), pos n l = l.length → has n l = false
  | [], _ => rfl
  | y :: r, h => by
    by_cases hy : y.1 < n
    · have e : pos n (y :: r) = pos n r + 1 := if_pos hy
      have e2 : has n (y :: r) = has n r := if_pos hy
      rw [e2]
      exact has_end n r (by rw [e] at h; simpa using h)
    · have e : pos n (y :: r) = 0 := if_neg hy
      rw [e] at h; simp at h
theorem pe_le (n : Int) (l : List Rt) : pos n l ≤ pe n l ∧ pe n l ≤ l.length := by
  have h := pos_le n l
  unfold pe
  rcases Nat.lt_or_ge (pos n l) l.length with c | c
  · split <;> omega
  · rw [has_end n l (by omega)]; simp; omega
theorem get_yes (n : Int) : ∀ (l : List Rt), has n l = true → ∃ h : pos n l < l.length, get l n = some l[pos n l]
  | [], h => by cases h
  | y :: r, h => by
    by_cases hy : y.1 < n
    · have e : pos n (y :: r) = pos n r + 1 := if_pos hy
      have e2 : has n (y :: r) = has n r := if_pos hy
      rw [e2] at h
      obtain ⟨h1, h2⟩ := get_yes n r h
      refine ⟨by rw [e]; simpa using h1, ?_⟩
      simp only [e, List.getElem_cons_succ]
      rw [← h2]
      unfold get
      rw [List.find?_cons_of_neg (by simp; omega)]
    · have e : pos n (y :: r) = 0 := if_neg hy
      have e2 : has n (y :: r) = decide (y.1 = n) := if_neg hy
      rw [e2] at h
      refine ⟨by rw [e]; simp, ?_⟩
      simp only [e, List.getElem_cons_zero]
      unfold get
      rw [List.find?_cons_of_pos (p := fun (x : Rt) => decide (x.1 = n)) (a := y) h]
theorem get_no (n : Int) : ∀ (l : List Rt), Srt l → has n l = false → get l n = none
  | [], _, _ => rfl
  | y :: r, hs, h => by
    obtain ⟨h1, h2⟩ := List.pairwise_cons.1 hs
    by_cases hy : y.1 < n
    · have e2 : has n (y :: r) = has n r := if_pos hy
      rw [e2] at h
      unfold get
      rw [List.find?_cons_of_neg (by simp; omega)]
      exact get_no n r h2 h
    · have e2 : has n (y :: r) = decide (y.1 = n) := if_neg hy
      rw [e2] at h
      have hne : y.1 ≠ n := of_decide_eq_false h
      refine List.find?_eq_none.2 fun x hx => ?_
      rcases List.mem_cons.1 hx with rfl | hx
      · simpa using hne
      · have := h1 x hx; simp; omega
theorem get_fnd (n : Int) (l : List Rt) (hs : Srt l) : (get l n).isSome = has n l := by
  cases h : has n l with
  | true => obtain ⟨_, e⟩ := get_yes n l h; rw [e]; rfl
  | false => rw [get_no n l hs h]; rfl
theorem ins_pos (x : Rt) : ∀ (l : List Rt), ins x l = l.take (pos x.1 l) ++ [x] ++ l.drop (pe x.1 l)
  | [] => rfl
  | y :: r => by
    unfold ins
    by_cases hy : y.1 < x.1
    · have e : pos x.1 (y :: r) = pos x.1 r + 1 := if_pos hy
      have e2 : has x.1 (y :: r) = has x.1 r := if_pos hy
      have e3 : pe x.1 (y :: r) = pe x.1 r + 1 := by unfold pe; rw [e, e2]; omega
      rw [if_pos hy, e, e3, ins_pos x r]
      rfl
    · have e : pos x.1 (y :: r) = 0 := if_neg hy
      have e2 : has x.1 (y :: r) = decide (y.1 = x.1) := if_neg hy
      rw [if_neg hy]
      by_cases h : y.1 = x.1
      · have e3 : pe x.1 (y :: r) = 1 := by unfold pe; rw [e, e2, decide_eq_true h]; rfl
        rw [if_pos h, e, e3]
        rfl
      · have e3 : pe x.1 (y :: r) = 0 := by unfold pe; rw [e, e2, decide_eq_false h]; rfl
        rw [if_neg h, e, e3]
        rfl

theorem enP : ∀ args w, (callFunc 51 args).run Try.prog w = .ok (.enter 51 args) w := enters_of Try.func51 (by kernel_rfl) rfl
theorem u64_nat2' (i j : Nat) (h : i + j < 18446744073709551616) : IntKind.u64.wrap ((i : Int) + (j : Int)) = (i : Int) + (j : Int) := u64_nat2 i j h
set_option maxRecDepth 100000 in
set_option maxHeartbeats 1000000 in
theorem bsearch_any (A : Option Addr) (c : Nat) (l : List Rt) (n : Int) (w : World) (hl : l.length ≤ 1000000) (hs : Srt l) (hA : RtAt w w.heap.size A l) :
    Calls Try.prog 50 #[.slice A l.length c, .int .i64 n, .func (.func 51) #[] #[]] w
      (fun e w' => e = .returned (.tuple #[.int .i64 (pos n l : Nat), .bool (has n l)]) ∧ Below w.heap.size w w') := by
  have HA := Lib.hid hA
  have HS := Lib.hid hs
  have eg := enP
  clear hA hs
  go_enter Try.func50, Try.ntmps50
  go_wp2_with fail
  go_loopw [9, 10] (fun vi vj wr => ∃ i j : Nat, vi = .int .i64 i ∧ vj = .int .i64 j ∧ i ≤ j ∧ j ≤ l.length ∧ Hid (∀ p (hp : p < l.length), p < i → l[p].1 < n) ∧ Hid (∀ p (hp : p < l.length), j ≤ p → n ≤ l[p].1) ∧ Below w.heap.size w wr) (fun vi vj _ => (intOf vj - intOf vi).toNat)
  case atStart => exact ⟨0, l.length, rfl, rfl, Nat.zero_le _, Nat.le_refl _, Lib.hid (fun p hp h => by omega), Lib.hid (fun p hp h => by omega), Below.refl _ _⟩
  case round =>
    obtain ⟨i, j, rfl, rfl, hij, hjl, HL, HH, hb⟩ := hrel
    have B := Lib.hid hb
    have hz := hb.size
    by_cases hlt : i < j
    · obtain ⟨h, hh⟩ : ∃ h, h = (i + j) / 2 := ⟨_, rfl⟩
      have h1 : i ≤ h := by omega
      have h2 : h < j := by omega
      have h3 : h < l.length := by omega
      have u1 := u64_nat2 i j (by omega)
      have eH : ((i : Int) + (j : Int)) / 2 = (h : Int) := by omega
      have wH := i64_nat h (by omega)
      obtain ⟨b, p, rfl, hbw, g0, g1, g2, g3, _⟩ := rt_cell (HA.out.below hb) h h3
      have KC := Lib.hid (fun w => (show Calls Try.prog 51 #[.agg #[.int .i64 l[h].1, .int .i64 l[h].2.1, .int .i64 l[h].2.2.1, .int .i64 l[h].2.2.2], .int .i64 n] w (OutI w (cmpI l[h].1 n)) from (placeC_any l[h] n w).mono fun _ _ h => outG_I h))
      have CE := Lib.hid (cmp_eq l[h].1 n)
      have NA := Lib.hid (show l[h].1 < n → ∀ p (hp : p < l.length), p < h + 1 → l[p].1 < n from fun hx p hp hq => by
        rcases Nat.lt_or_ge p h with c | c
        · have := List.pairwise_iff_getElem.1 HS.out p h hp h3 c; omega
        · obtain rfl : p = h := by omega
          exact hx)
      have NB := Lib.hid (show ¬ l[h].1 < n → ∀ p (hp : p < l.length), h ≤ p → n ≤ l[p].1 from fun hx p hp hq => by
        rcases Nat.lt_or_ge h p with c | c
        · have := List.pairwise_iff_getElem.1 HS.out h p h3 hp c; omega
        · obtain rfl : p = h := by omega
          omega)
      clear hb hh
      generalize cmpI l[h].1 n = r at *
      generalize l[h].1 = x0 at *
      generalize l[h].2.1 = x1 at *
      generalize l[h].2.2.1 = x2 at *
      generalize l[h].2.2.2 = x3 at *
      by_cases hx : x0 < n
      · have d1 := dt (show r < 0 by rw [CE.out, if_pos hx]; omega)
        have NA := Lib.hid (NA.out hx)
        clear NB CE hx
        go_wp2_with fail
        refine (KC.out _).mono ?_
        rintro _ w2 ⟨rfl, hb⟩
        have B2 := Lib.hid (B.out.trans (hb.mono hz))
        clear hb
        go_wp2_with fail
        go_roundw
        case rel => exact ⟨h + 1, j, by go_num, rfl, by omega, hjl, NA, HH, B2.out⟩
        case measure => simp [intOf]; omega
      · have d1 := df (show ¬ r < 0 by rw [CE.out, if_neg hx]; split <;> omega)
        have NB2 := Lib.hid (NB.out hx)
        clear NA NB CE hx
        go_wp2_with fail
        refine (KC.out _).mono ?_
        rintro _ w2 ⟨rfl, hb⟩
        have B2 := Lib.hid (B.out.trans (hb.mono hz))
        clear hb
        go_wp2_with fail
        go_roundw
        case rel => exact ⟨i, h, rfl, rfl, by omega, by omega, HL, NB2, B2.out⟩
        case measure => simp [intOf]; omega
    · have P := Lib.hid (pos_of n l i (by omega) HL.out (fun p hp hq => by have := HH.out p hp (by omega); omega))
      by_cases hil : i < l.length
      · obtain ⟨b, p, rfl, hbw, g0, g1, g2, g3, _⟩ := rt_cell (HA.out.below hb) i hil
        have FA := Lib.hid (show has n l = decide (l[i].1 = n) by
          have := has_at n l (by rw [← P.out]; exact hil)
          simp only [← P.out] at this
          exact this)
        have KC := Lib.hid (fun w => (show Calls Try.prog 51 #[.agg #[.int .i64 l[i].1, .int .i64 l[i].2.1, .int .i64 l[i].2.2.1, .int .i64 l[i].2.2.2], .int .i64 n] w (OutI w (cmpI l[i].1 n)) from (placeC_any l[i] n w).mono fun _ _ h => outG_I h))
        have CE := Lib.hid (cmp_eq l[i].1 n)
        clear hb HL HH
        generalize cmpI l[i].1 n = r at *
        generalize l[i].1 = x0 at *
        generalize l[i].2.1 = x1 at *
        generalize l[i].2.2.1 = x2 at *
        generalize l[i].2.2.2 = x3 at *
        have E := Lib.hid (show (r == 0) = has n l by
          rw [FA.out, CE.out]
          rcases Int.lt_trichotomy x0 n with h | h | h
          · rw [if_pos h, decide_eq_false (by omega)]; rfl
          · rw [if_neg (by omega), if_neg (by omega), decide_eq_true h]; rfl
          · rw [if_neg (by omega), if_pos h, decide_eq_false (by omega)]; rfl)
        have RR := Lib.hid P.out
        clear FA CE P
        go_wp2_with fail
        refine (KC.out _).mono ?_
        rintro _ w2 ⟨rfl, hb⟩
        have B2 := Lib.hid (B.out.trans (hb.mono hz))
        clear hb
        go_wp2_with fail
        go_ret2
        exact ⟨by rw [← E.out, ← RR.out]; rfl, B2.out⟩
      · have FE := Lib.hid (has_end n l (by have := P.out; omega))
        have RR := Lib.hid P.out
        clear hb HL HH P
        go_wp2_with fail
        go_ret2
        exact ⟨by rw [FE.out, ← RR.out]; rfl, B.out⟩


set_option maxHeartbeats 1000000 in
theorem place_any (A : Option Addr) (c : Nat) (l : List Rt) (n : Int) (w : World) (hl : l.length ≤ 1000000) (hs : Srt l) (hA : RtAt w w.heap.size A l) :
    Calls Try.prog 36 #[.slice A l.length c, .int .i64 n] w (fun e w' => e = .returned (.tuple #[.int .i64 (pos n l : Nat), .bool (has n l)]) ∧ Below w.heap.size w w') := by
  have K := Lib.hid (bsearch_any A c l n w hl hs hA)
  have hp := pos_le n l
  clear hA hs
  generalize pos n l = i at *
  generalize has n l = j at *
  go_enter Try.func36, Try.ntmps36
  go_wp2_with fail
  refine K.out.mono ?_
  rintro _ w1 ⟨rfl, hb⟩
  have B := Lib.hid hb
  clear hb
  go_wp2_with fail
  go_ret2
  exact ⟨rfl, B.out⟩
end Go.Proofs.Ytcfnkfkdhcejeaa.Rte
