/- Plain mathematics of series; no program in sight. -/
import Derived.Test.YtekcknpgpfeijaaPlain
set_option linter.unusedVariables false
namespace Go.Proofs.Ytekcknpgpfeijaa.Series

/-- The elements of a series, as they are read. -/
def rd (l : List Int) : List Int := if l.length ≤ 96 then l.map sat else []
/-- How many elements of a list count. -/
def ln (l : List Int) : Nat := if l.length ≤ 96 then l.length else 0
theorem rd_length (l : List Int) : (rd l).length = ln l := by unfold rd ln; split <;> simp
theorem ln_le (l : List Int) : ln l ≤ 96 ∧ ln l ≤ l.length := by unfold ln; split <;> omega
theorem ln_short {l : List Int} (h : l.length ≤ 96) : ln l = l.length := if_pos h
theorem rd_short {l : List Int} (h : l.length ≤ 96) : rd l = l.map sat := if_pos h
theorem rd_long {l : List Int} (h : ¬ l.length ≤ 96) : rd l = [] := if_neg h
theorem rd_len (l : List Int) : (rd l).length ≤ 96 := by rw [rd_length]; exact (ln_le l).1
/-- The elements are limited. -/
def Lim (m : List Int) : Prop := ∀ x ∈ m, -1099511627776 ≤ x ∧ x ≤ 1099511627776
theorem lim_sat (l : List Int) : Lim (l.map sat) := fun x h => by
  obtain ⟨y, _, rfl⟩ := List.mem_map.1 h
  exact sat_in y
theorem lim_map {α : Type} (l : List α) (f : α → Int) : Lim (l.map fun x => sat (f x)) := fun x h => by
  obtain ⟨y, _, rfl⟩ := List.mem_map.1 h
  exact sat_in _
theorem lim_rd (l : List Int) : Lim (rd l) := by
  unfold rd; split
  · exact lim_sat l
  · intro x h; cases h
theorem map_lim {m : List Int} (h : Lim m) : m.map sat = m := by
  rw [List.map_congr_left (g := id) fun x hx => sat_id x (h x hx).1 (h x hx).2, List.map_id]
theorem rd_of {m : List Int} (h : Lim m) (hl : m.length ≤ 96) : rd m = m := by rw [rd_short hl, map_lim h]
theorem rd_rd (l : List Int) : rd (rd l) = rd l := rd_of (lim_rd l) (rd_len l)

/-- The element with this index, or 0. -/
def atL (m : List Int) (i : Int) : Int := if 0 ≤ i then m.getD i.toNat 0 else 0
theorem atL_neg (m : List Int) (i : Int) (h : i < 0) : atL m i = 0 := if_neg (by omega)
theorem atL_nat (m : List Int) (i : Nat) : atL m i = m.getD i 0 := by unfold atL; rw [if_pos (by omega)]; rfl
theorem atL_get (m : List Int) (i : Nat) (h : i < m.length) : atL m i = m[i] := by rw [atL_nat]; simp [List.getD, h]
theorem atL_out (m : List Int) (i : Int) (h : (m.length : Int) ≤ i) : atL m i = 0 := by
  unfold atL; split
  · simp [List.getD]; rw [List.getElem?_eq_none (by omega)]; rfl
  · rfl
theorem rd_get (l : List Int) (i : Nat) (h : i < ln l) (h2 : i < l.length) : atL (rd l) i = sat l[i] := by
  have hl : l.length ≤ 96 := by unfold ln at h; split at h <;> omega
  rw [atL_get _ _ (by rw [rd_length]; exact h)]
  simp only [rd_short hl, List.getElem_map]
theorem lim_at {m : List Int} (h : Lim m) (i : Int) : -1099511627776 ≤ atL m i ∧ atL m i ≤ 1099511627776 := by
  by_cases h0 : 0 ≤ i
  · by_cases h1 : i < m.length
    · obtain ⟨k, rfl⟩ : ∃ k : Nat, i = k := ⟨i.toNat, by omega⟩
      rw [atL_get m k (by omega)]; exact h _ (List.getElem_mem _)
    · rw [atL_out m i (by omega)]; omega
  · rw [atL_neg m i (by omega)]; omega

/-- The sum of the first k elements. -/
def P (m : List Int) (k : Nat) : Int := (m.take k).sum
theorem P_zero (m : List Int) : P m 0 = 0 := rfl
theorem P_succ (m : List Int) (k : Nat) (h : k < m.length) : P m (k + 1) = P m k + m[k] := by
  unfold P; rw [List.take_succ_eq_append_getElem h, List.sum_append]; simp
theorem P_at (m : List Int) (k : Nat) : P m (k + 1) = P m k + atL m k := by
  by_cases h : k < m.length
  · rw [P_succ m k h, atL_get m k h]
  · rw [atL_out m k (by omega)]; unfold P; rw [List.take_of_length_le (by omega), List.take_of_length_le (by omega)]; omega
theorem P_all (m : List Int) (k : Nat) (h : m.length ≤ k) : P m k = m.sum := by unfold P; rw [List.take_of_length_le h]
theorem P_full (m : List Int) (k : Nat) (h : m.length ≤ k) : P m k = P m m.length := by rw [P_all m k h, P_all m _ (Nat.le_refl _)]
theorem P_bd {m : List Int} {B : Int} (hB : 0 ≤ B) (h : ∀ x ∈ m, -B ≤ x ∧ x ≤ B) (k : Nat) : -(B * (k : Int)) ≤ P m k ∧ P m k ≤ B * (k : Int) := by
  induction k with
  | zero => rw [P_zero]; simp
  | succ k ih =>
    rw [show ((k + 1 : Nat) : Int) = (k : Int) + 1 by omega, Int.mul_add, Int.mul_one]
    by_cases hk : k < m.length
    · rw [P_succ m k hk]
      have := h m[k] (List.getElem_mem _)
      omega
    · rw [P_full m (k + 1) (by omega), ← P_full m k (by omega)]; omega
theorem P_bd96 {m : List Int} {B : Int} (hB : 0 ≤ B) (h : ∀ x ∈ m, -B ≤ x ∧ x ≤ B) (hl : m.length ≤ 96) (k : Nat) : -(B * 96) ≤ P m k ∧ P m k ≤ B * 96 := by
  have key : ∀ j : Nat, j ≤ 96 → -(B * 96) ≤ P m j ∧ P m j ≤ B * 96 := fun j hj => by
    have h1 := P_bd hB h j
    have h2 : B * (j : Int) ≤ B * 96 := Int.mul_le_mul_of_nonneg_left (by omega) hB
    omega
  by_cases hk : k ≤ 96
  · exact key k hk
  · rw [P_full m k (by omega)]; exact key _ hl
theorem P_lim {m : List Int} (h : Lim m) (hl : m.length ≤ 96) (k : Nat) : -105553116266496 ≤ P m k ∧ P m k ≤ 105553116266496 := P_bd96 (B := 1099511627776) (by omega) h hl k
/-- The elements are small: no sum is limited. -/
def Sml (m : List Int) : Prop := (∀ x ∈ m, -1073741824 ≤ x ∧ x ≤ 1073741824) ∧ m.length ≤ 96
theorem Sml.lim {m : List Int} (h : Sml m) : Lim m := fun x hx => by have := h.1 x hx; omega
theorem Sml.rd {m : List Int} (h : Sml m) : rd m = m := rd_of h.lim h.2
theorem P_sml {m : List Int} (h : Sml m) (k : Nat) : -103079215104 ≤ P m k ∧ P m k ≤ 103079215104 := P_bd96 (B := 1073741824) (by omega) h.1 h.2 k

/-- The sum of the elements whose index is from f to t - 1. -/
def psum (m : List Int) (f t : Int) : Int := if f ≤ t then P m t.toNat - P m f.toNat else 0
theorem P_take (m : List Int) (k j : Nat) : P (m.take k) j = P m (min j k) := by unfold P; rw [List.take_take]
theorem psum_bd {m : List Int} (h : Lim m) (hl : m.length ≤ 96) (f t : Int) : -211106232532992 ≤ psum m f t ∧ psum m f t ≤ 211106232532992 := by
  have h1 := P_lim h hl t.toNat
  have h2 := P_lim h hl f.toNat
  unfold psum; split <;> omega
theorem psum_add (m : List Int) {a b c : Int} (h1 : a ≤ b) (h2 : b ≤ c) : psum m a b + psum m b c = psum m a c := by
  unfold psum; rw [if_pos h1, if_pos h2, if_pos (by omega)]; omega
theorem psum_sml {m : List Int} (h : Sml m) (f t : Int) : sat (psum m f t) = psum m f t := by
  have h1 := P_sml h t.toNat
  have h2 := P_sml h f.toNat
  have h3 : -206158430208 ≤ psum m f t ∧ psum m f t ≤ 206158430208 := by unfold psum; split <;> omega
  exact sat_id _ (by omega) (by omega)
theorem psum_none (f t : Int) (m : List Int) : psum (m.take 0) f t = 0 := by unfold psum; simp [P]
theorem psum_step (m : List Int) (k : Nat) (hk : k < m.length) (f t : Int) : psum (m.take (k + 1)) f t = psum (m.take k) f t + (if f ≤ k ∧ (k : Int) < t then m[k] else 0) := by
  unfold psum
  have hs := P_succ m k hk
  by_cases h : f ≤ t
  · rw [if_pos h, if_pos h, P_take, P_take, P_take, P_take]
    rcases Nat.lt_or_ge k t.toNat with h1 | h1
    · rw [Nat.min_eq_right (show k + 1 ≤ t.toNat by omega), Nat.min_eq_right (show k ≤ t.toNat by omega)]
      rcases Nat.lt_or_ge k f.toNat with h2 | h2
      · rw [Nat.min_eq_right (show k + 1 ≤ f.toNat by omega), Nat.min_eq_right (show k ≤ f.toNat by omega), if_neg (by omega)]; omega
      · rw [Nat.min_eq_left (show f.toNat ≤ k + 1 by omega), Nat.min_eq_left (show f.toNat ≤ k by omega), if_pos (by omega)]; omega
    · rw [Nat.min_eq_left (show t.toNat ≤ k + 1 by omega), Nat.min_eq_left (show t.toNat ≤ k by omega)]
      rcases Nat.lt_or_ge k f.toNat with h2 | h2
      · omega
      · rw [Nat.min_eq_left (show f.toNat ≤ k + 1 by omega), Nat.min_eq_left (show f.toNat ≤ k by omega), if_neg (by omega)]; omega
  · rw [if_neg h, if_neg h, if_neg (by omega)]; rfl
/-- The loop from the greater of f and 0 to the lesser of t and the length, at its end. -/
theorem psum_loop (m : List Int) (f t : Int) (k : Nat) (h1 : (k : Int) ≥ f) (h2 : (k : Int) ≥ t ∨ k ≥ m.length) (h3 : (k : Int) ≤ max f 0 ∨ (k : Int) ≤ t) (h4 : (k : Int) ≤ max f 0 ∨ k ≤ m.length) : P m k - P m f.toNat = psum m f t := by
  unfold psum
  by_cases h : f ≤ t
  · rw [if_pos h]
    rcases Nat.lt_or_ge k t.toNat with g | g
    · rw [P_full m k (by omega), P_full m t.toNat (by omega)]
    · by_cases e : k = t.toNat
      · rw [e]
      · by_cases e2 : (k : Int) ≤ max f 0
        · have : k = f.toNat := by omega
          have : t.toNat = f.toNat := by omega
          omega
        · omega
  · rw [if_neg h]
    have : k = f.toNat := by omega
    rw [this]; omega

/-- The sums, element by element. -/
def addL (x y : List Int) : List Int := (List.range (max x.length y.length)).map fun i : Nat => sat (atL x i + atL y i)
def sclL (m : List Int) (a b : Int) : List Int := (List.range m.length).map fun i : Nat => scl (atL m i) a b
def cumL (m : List Int) : List Int := (List.range m.length).map fun i => sat (P m (i + 1))
theorem sum_range (m : List Int) (n : Nat) : ((List.range n).map fun i : Nat => atL m i).sum = P m n := by
  induction n with
  | zero => rfl
  | succ n ih => rw [List.range_succ, List.map_append, List.sum_append, ih, P_at]; simp
theorem sum_two (x y : List Int) (n : Nat) : ((List.range n).map fun i : Nat => atL x i + atL y i).sum = P x n + P y n := by
  induction n with
  | zero => rfl
  | succ n ih => rw [List.range_succ, List.map_append, List.sum_append, ih, P_at, P_at]; simp; omega
theorem addL_sml {x y : List Int} (hx : Sml x) (hy : Sml y) : addL x y = (List.range (max x.length y.length)).map fun i : Nat => atL x i + atL y i := by
  unfold addL
  refine List.map_congr_left fun i hi => ?_
  have h1 : ∀ {m : List Int}, Sml m → -1073741824 ≤ atL m i ∧ atL m i ≤ 1073741824 := fun {m} h => by
    by_cases h1 : i < m.length
    · rw [atL_get m i h1]; exact h.1 _ (List.getElem_mem _)
    · rw [atL_out m i (by omega)]; omega
  have a := h1 hx
  have b := h1 hy
  exact sat_id _ (by omega) (by omega)
theorem addL_len (x y : List Int) : (addL x y).length = max x.length y.length := by simp [addL]
theorem addL_lim (x y : List Int) : Lim (addL x y) := lim_map _ _
theorem addL_total {x y : List Int} (hx : Sml x) (hy : Sml y) : sat (psum (rd (addL x y)) 0 96) = psum x 0 96 + psum y 0 96 := by
  have l1 := hx.2
  have l2 := hy.2
  rw [rd_of (addL_lim x y) (by rw [addL_len]; omega)]
  unfold psum
  simp only [show ((0 : Int) ≤ 96) = True by simp, if_true, show (96 : Int).toNat = 96 from rfl, show (0 : Int).toNat = 0 from rfl, P_zero, Int.sub_zero]
  rw [P_all (addL x y) 96 (by rw [addL_len]; omega), addL_sml hx hy, sum_two]
  have a := P_sml hx (max x.length y.length)
  have b := P_sml hy (max x.length y.length)
  rw [sat_id _ (by omega) (by omega), P_full x (max _ _) (by omega), P_full y (max _ _) (by omega), P_full x 96 (by omega), P_full y 96 (by omega)]
theorem cumL_len (m : List Int) : (cumL m).length = m.length := by simp [cumL]
theorem cumL_last {m : List Int} (h : 0 < m.length) : atL (cumL m) ((m.length : Int) - 1) = sat (psum m 0 m.length) := by
  rw [show (m.length : Int) - 1 = ((m.length - 1 : Nat) : Int) by omega, atL_get _ _ (by rw [cumL_len]; omega)]
  unfold psum
  rw [if_pos (by omega)]
  simp [cumL, show m.length - 1 + 1 = m.length by omega, P_zero]

/-- The groups of k elements. -/
def gN (m : List Int) (k i : Nat) : Int := sat (P m ((i + 1) * k) - P m (i * k))
def gct (n k : Nat) : Nat := (n + k - 1) / k
def grp (m : List Int) (k : Nat) : List Int := (List.range (gct m.length k)).map (gN m k)
theorem gct_eq {n k j : Nat} (hk : 1 ≤ k) (h1 : n ≤ j * k) (h2 : ∀ i, i + 1 = j → i * k < n) : gct n k = j := by
  unfold gct
  refine Nat.div_eq_of_lt_le ?_ ?_
  · cases j with
    | zero => omega
    | succ i =>
      have := h2 i rfl
      rw [Nat.succ_mul]
      omega
  · rw [Nat.succ_mul]; omega
theorem gct_hi (n k : Nat) (hk : 1 ≤ k) : n ≤ gct n k * k := by
  unfold gct
  have h1 := Nat.div_add_mod (n + k - 1) k
  have h2 := Nat.mod_lt (n + k - 1) (show 0 < k by omega)
  rw [Nat.mul_comm] at h1
  omega
theorem gct_le (n k : Nat) (hk : 1 ≤ k) : gct n k ≤ n := by
  unfold gct
  have h := Nat.div_le_div_right (c := k) (show n + k - 1 ≤ n * k + (k - 1) by have := Nat.le_mul_of_pos_right n hk; omega)
  refine Nat.le_trans h ?_
  rw [Nat.mul_comm n k, Nat.mul_add_div (by omega)]
  rw [Nat.div_eq_of_lt (by omega)]; omega
theorem grp_len (m : List Int) (k : Nat) : (grp m k).length = gct m.length k := by simp [grp]
theorem grp_lim (m : List Int) (k : Nat) : Lim (grp m k) := fun x h => by
  obtain ⟨i, _, rfl⟩ := List.mem_map.1 h
  exact sat_in _
theorem grp_sum {m : List Int} (h : Sml m) (k j : Nat) : ((List.range j).map (gN m k)).sum = P m (j * k) := by
  induction j with
  | zero => rw [Nat.zero_mul, P_zero]; rfl
  | succ j ih =>
    rw [List.range_succ, List.map_append, List.sum_append, ih]
    have a := P_sml h ((j + 1) * k)
    have b := P_sml h (j * k)
    have : gN m k j = P m ((j + 1) * k) - P m (j * k) := sat_id _ (by omega) (by omega)
    simp [this]; omega
theorem grp_total {m : List Int} (h : Sml m) (k : Nat) (hk : 1 ≤ k) : sat (psum (rd (grp m k)) 0 96) = psum m 0 96 := by
  have l1 := h.2
  have l2 := gct_le m.length k hk
  rw [rd_of (grp_lim m k) (by rw [grp_len]; omega)]
  unfold psum
  simp only [show ((0 : Int) ≤ 96) = True by simp, if_true, show (96 : Int).toNat = 96 from rfl, show (0 : Int).toNat = 0 from rfl, P_zero, Int.sub_zero]
  rw [P_all (grp m k) 96 (by rw [grp_len]; omega)]
  show sat ((List.range _).map (gN m k)).sum = _
  rw [grp_sum h, P_full m _ (gct_hi m.length k hk), P_full m 96 (by omega)]
  have a := P_sml h m.length
  exact sat_id _ (by omega) (by omega)

/-- The index of the first greatest of the first k elements. -/
def pk (m : List Int) : Nat → Int
  | 0 => -1
  | k + 1 => if pk m k < 0 ∨ atL m (pk m k) < atL m k then (k : Int) else pk m k
theorem pk_in (m : List Int) (k : Nat) : -1 ≤ pk m k ∧ pk m k < k ∧ (0 < k → 0 ≤ pk m k) := by
  induction k with
  | zero => exact ⟨by simp [pk], by simp [pk], fun h => by omega⟩
  | succ k ih =>
    unfold pk
    obtain ⟨h1, h2, h3⟩ := ih
    split
    · exact ⟨by omega, by omega, fun _ => by omega⟩
    · exact ⟨by omega, by omega, fun _ => by omega⟩
theorem pk_max (m : List Int) (k : Nat) : ∀ j : Nat, j < k → atL m j ≤ atL m (pk m k) ∧ ((j : Int) < pk m k → atL m j < atL m (pk m k)) := by
  induction k with
  | zero => intro j h; omega
  | succ k ih =>
    intro j hj
    have hi := pk_in m k
    unfold pk
    by_cases h : pk m k < 0 ∨ atL m (pk m k) < atL m k
    · rw [if_pos h]
      by_cases hjk : j = k
      · subst hjk; exact ⟨Int.le_refl _, fun h => by omega⟩
      · have := ih j (by omega)
        have hp := hi.2.2 (by omega)
        exact ⟨by omega, fun _ => by omega⟩
    · rw [if_neg h]
      by_cases hjk : j = k
      · subst hjk; exact ⟨by omega, fun h => by omega⟩
      · exact ih j (by omega)

/-- A point: a slot and a value. -/
abbrev Pt := Int × Int
def ptN (l : List Pt) (i : Nat) : Pt := l.getD i (0, 0)
theorem ptN_get (l : List Pt) (i : Nat) (h : i < l.length) : ptN l i = l[i] := by simp [ptN, List.getD, h]
/-- The value of a slot, by the first k points. -/
def hvN (l : List Pt) (s : Int) : Nat → Int
  | 0 => 0
  | k + 1 => if (ptN l k).1 ≤ s then sat (ptN l k).2 else hvN l s k
/-- The slots are strictly ascending. -/
def Asc (l : List Pt) : Prop := ∀ i, i + 1 < l.length → (ptN l i).1 < (ptN l (i + 1)).1
noncomputable instance (l : List Pt) : Decidable (Asc l) := Classical.propDecidable _
theorem asc_le {l : List Pt} (h : Asc l) {i j : Nat} (hij : i ≤ j) (hj : j < l.length) : (ptN l i).1 ≤ (ptN l j).1 := by
  induction j with
  | zero => rw [show i = 0 by omega]; exact Int.le_refl _
  | succ j ih =>
    by_cases e : i = j + 1
    · subst e; exact Int.le_refl _
    · have a := ih (by omega) (by omega)
      have b := h j hj
      omega
/-- The value behind the first c points. -/
def vc (l : List Pt) (c : Nat) : Int := if c = 0 then 0 else sat (ptN l (c - 1)).2
theorem vc_succ (l : List Pt) (c : Nat) : vc l (c + 1) = sat (ptN l c).2 := by simp [vc]
theorem hvN_vc (l : List Pt) (s : Int) (c : Nat) (h : c = 0 ∨ (ptN l (c - 1)).1 ≤ s) : hvN l s c = vc l c := by
  cases c with
  | zero => rfl
  | succ c => rw [vc_succ]; unfold hvN; rw [if_pos (by simpa using h)]
theorem hvN_on {l : List Pt} (hA : Asc l) (s : Int) (c k : Nat) (hk : c + k ≤ l.length) (h : k = 0 ∨ s < (ptN l c).1) : hvN l s (c + k) = hvN l s c := by
  induction k with
  | zero => rfl
  | succ k ih =>
    have hs : s < (ptN l c).1 := by omega
    have := asc_le hA (show c ≤ c + k by omega) (by omega)
    show (if (ptN l (c + k)).1 ≤ s then sat (ptN l (c + k)).2 else hvN l s (c + k)) = _
    rw [if_neg (by omega)]
    exact ih (by omega) (Or.inr hs)
theorem hv_end {l : List Pt} (hA : Asc l) (s : Int) (c : Nat) (hc : c ≤ l.length) (h0 : c = 0 ∨ (ptN l (c - 1)).1 ≤ s) (h1 : c = l.length ∨ s < (ptN l c).1) : vc l c = hvN l s l.length := by
  have h2 := hvN_on hA s c (l.length - c) (by omega) (by omega)
  rw [show c + (l.length - c) = l.length by omega] at h2
  rw [h2, hvN_vc l s c h0]
def hoL (l : List Pt) (n : Nat) : List Int := (List.range n).map fun i : Nat => hvN l i l.length
/-- What Hold hands back: an error, or the values. -/
noncomputable def hoE (l : List Pt) (n : Int) : Int := if n < 0 ∨ 96 < n ∨ 256 < l.length then 3 else if Asc l then 0 else 14
noncomputable def hoR (l : List Pt) (n : Int) : List Int := if hoE l n = 0 then hoL l n.toNat else []

/-- What Check answers. -/
def chk (l : List Int) (lo hi n : Int) : Int := if (l.length : Int) ≠ n ∨ 96 < n then 3 else if ∀ x ∈ l, lo ≤ x ∧ x ≤ hi then 0 else 2
theorem range_snoc {α : Type} (f : Nat → α) (k : Nat) : (List.range (k + 1)).map f = (List.range k).map f ++ [f k] := by rw [List.range_succ, List.map_append]; rfl
end Go.Proofs.Ytekcknpgpfeijaa.Series
