/- Plain mathematics of the calendar; no program in sight. -/
import Derived.WalkKit
set_option linter.unusedVariables false
namespace Go.Proofs.YtoodfiicoplbhaaDoor
open Go.RowKit

theorem ilt_or (a b : Int) : a < b ∨ b ≤ a := by omega
/-- One in a leap year, else nothing. -/
def lp (y : Int) : Int := if y % 4 = 0 ∧ (y % 100 ≠ 0 ∨ y % 400 = 0) then 1 else 0
theorem lp_in (y : Int) : 0 ≤ lp y ∧ lp y ≤ 1 := by unfold lp; split <;> omega
/-- The days before a year, from 2000 on. -/
def dby (y : Int) : Int := (y - 2000) * 365 - (2000 - y) / 4 + (2000 - y) / 100 - (2000 - y) / 400
theorem dby_step (y : Int) : dby (y + 1) = dby y + 365 + lp y := by
  unfold dby lp
  split <;> omega
theorem dby_zero : dby 2000 = 0 := rfl
theorem dby_mono (y z : Int) (h : y ≤ z) : dby y ≤ dby z := by unfold dby; omega
theorem dby_far (y : Int) (h : 2000 ≤ y) : 365 * (y - 2000) ≤ dby y ∧ dby y ≤ 366 * (y - 2000) := by unfold dby; omega

/-- The day belongs to this year. -/
def YrIs (d y : Int) : Prop := dby y ≤ d ∧ d < dby (y + 1)
theorem YrIs.one {d y z : Int} (h : YrIs d y) (k : YrIs d z) : y = z := by
  unfold YrIs at h k
  rcases Int.lt_trichotomy y z with e | e | e
  · have := dby_mono (y + 1) z (by omega); omega
  · exact e
  · have := dby_mono (z + 1) y (by omega); omega
theorem YrIs.low {d y : Int} (h : YrIs d y) (h0 : 0 ≤ d) : 2000 ≤ y := by
  unfold YrIs at h
  rcases ilt_or y 2000 with e | e
  · have := dby_mono (y + 1) 2000 (by omega); have := dby_zero; omega
  · exact e
theorem yr_ex' (n : Nat) : ∀ d : Int, 0 ≤ d → d < dby (2000 + n) → ∃ y, YrIs d y := by
  induction n with
  | zero => intro d h0 h; have := dby_zero; simp at h; omega
  | succ n ih =>
    intro d h0 h
    by_cases e : d < dby (2000 + n)
    · exact ih d h0 e
    · exact ⟨2000 + n, by omega, by rw [show (2000 : Int) + n + 1 = 2000 + ((n + 1 : Nat) : Int) by omega]; exact h⟩
theorem yr_ex (d : Int) (h : 0 ≤ d) : ∃ y, YrIs d y :=
  yr_ex' (d.toNat + 1) d h (by have := dby_far (2000 + ((d.toNat + 1 : Nat) : Int)) (by omega); omega)
open Classical in
/-- The year of a day. -/
noncomputable def yr (d : Int) : Int := if h : ∃ y, YrIs d y then h.choose else 0
theorem yr_is (d : Int) (h : 0 ≤ d) : YrIs d (yr d) := by
  unfold yr
  rw [dif_pos (yr_ex d h)]
  exact (yr_ex d h).choose_spec
theorem yr_eq {d y : Int} (h : YrIs d y) : yr d = y := by
  unfold yr
  rw [dif_pos ⟨y, h⟩]
  exact YrIs.one (Exists.choose_spec (p := fun y => YrIs d y) ⟨y, h⟩) h
theorem yr_mono (d e : Int) (h0 : 0 ≤ d) (h : d ≤ e) : yr d ≤ yr e := by
  have h1 := yr_is d h0
  have h2 := yr_is e (by omega)
  unfold YrIs at h1 h2
  rcases ilt_or (yr e) (yr d) with c | c
  · have := dby_mono (yr e + 1) (yr d) (by omega); omega
  · exact c

/-- The days before a month of an ordinary year. -/
def cum : Nat → Int
  | 0 => 0 | 1 => 31 | 2 => 59 | 3 => 90 | 4 => 120 | 5 => 151 | 6 => 181 | 7 => 212 | 8 => 243 | 9 => 273 | 10 => 304 | 11 => 334 | _ => 365
theorem cum_in (n : Nat) : 0 ≤ cum n ∧ cum n ≤ 365 := by
  unfold cum
  split <;> decide
def dbm (y m : Int) : Int := cum (m - 1).toNat + if 2 < m then lp y else 0
def mlen (y m : Int) : Int := if m = 2 then 28 + lp y else if m = 4 ∨ m = 6 ∨ m = 9 ∨ m = 11 then 30 else 31
theorem m_cases (m : Int) (h1 : 1 ≤ m) (h2 : m ≤ 12) : m = 1 ∨ m = 2 ∨ m = 3 ∨ m = 4 ∨ m = 5 ∨ m = 6 ∨ m = 7 ∨ m = 8 ∨ m = 9 ∨ m = 10 ∨ m = 11 ∨ m = 12 := by omega
theorem dbm_step (y m : Int) (h1 : 1 ≤ m) (h2 : m ≤ 12) : dbm y (m + 1) = dbm y m + mlen y m := by
  have hl := lp_in y
  unfold dbm mlen
  generalize lp y = l at *
  rcases m_cases m h1 h2 with h | h | h | h | h | h | h | h | h | h | h | h <;> subst h <;> simp [cum] <;> omega
theorem dbm_one (y : Int) : dbm y 1 = 0 := by simp [dbm, cum]
theorem dbm_end (y : Int) : dbm y 13 = 365 + lp y := by simp [dbm, cum]
theorem mlen_in (y m : Int) : 28 ≤ mlen y m ∧ mlen y m ≤ 31 := by
  have := lp_in y
  unfold mlen
  split <;> (try split) <;> omega
theorem dbm_in (y m : Int) : 0 ≤ dbm y m ∧ dbm y m ≤ 366 := by
  have h1 := lp_in y
  have h2 := cum_in (m - 1).toNat
  unfold dbm
  split <;> omega
theorem dbm_mono' (y : Int) (n : Nat) : ∀ m : Int, 1 ≤ m → m + n ≤ 13 → dbm y m ≤ dbm y (m + n) := by
  induction n with
  | zero => intro m _ _; simp
  | succ n ih =>
    intro m h1 h2
    have a := ih m h1 (by omega)
    have b := dbm_step y (m + n) (by omega) (by omega)
    have c := mlen_in y (m + n)
    rw [show m + ((n + 1 : Nat) : Int) = m + n + 1 by omega]
    omega
theorem dbm_mono (y m k : Int) (h1 : 1 ≤ m) (h2 : m ≤ k) (h3 : k ≤ 13) : dbm y m ≤ dbm y k := by
  have := dbm_mono' y (k - m).toNat m h1 (by omega)
  rw [show m + ((k - m).toNat : Int) = k by omega] at this
  exact this
/-- The day of the year belongs to this month. -/
def MoIs (y r m : Int) : Prop := 1 ≤ m ∧ m ≤ 12 ∧ dbm y m ≤ r ∧ r < dbm y (m + 1)
theorem MoIs.one {y r m k : Int} (h : MoIs y r m) (g : MoIs y r k) : m = k := by
  obtain ⟨h1, h2, h3, h4⟩ := h
  obtain ⟨g1, g2, g3, g4⟩ := g
  rcases Int.lt_trichotomy m k with e | e | e
  · have := dbm_mono y (m + 1) k (by omega) (by omega) (by omega); omega
  · exact e
  · have := dbm_mono y (k + 1) m (by omega) (by omega) (by omega); omega
theorem mo_ex' (y : Int) (n : Nat) : ∀ r : Int, n ≤ 12 → 0 ≤ r → r < dbm y (1 + n) → ∃ m, MoIs y r m := by
  induction n with
  | zero => intro r _ h0 h; have := dbm_one y; simp at h; omega
  | succ n ih =>
    intro r hn h0 h
    by_cases e : r < dbm y (1 + n)
    · exact ih r (by omega) h0 e
    · exact ⟨1 + n, by omega, by omega, by omega, by rw [show (1 : Int) + n + 1 = 1 + ((n + 1 : Nat) : Int) by omega]; exact h⟩
theorem mo_ex (y r : Int) (h0 : 0 ≤ r) (h : r < 365 + lp y) : ∃ m, MoIs y r m :=
  mo_ex' y 12 r (by omega) h0 (by rw [show (1 : Int) + ((12 : Nat) : Int) = 13 by omega, dbm_end]; exact h)
open Classical in
/-- The month of a day of the year. -/
noncomputable def mo (y r : Int) : Int := if h : ∃ m, MoIs y r m then h.choose else 0
theorem mo_is (y r : Int) (h0 : 0 ≤ r) (h : r < 365 + lp y) : MoIs y r (mo y r) := by
  unfold mo
  rw [dif_pos (mo_ex y r h0 h)]
  exact (mo_ex y r h0 h).choose_spec
theorem mo_eq {y r m : Int} (h : MoIs y r m) : mo y r = m := by
  unfold mo
  rw [dif_pos ⟨m, h⟩]
  exact MoIs.one (Exists.choose_spec (p := fun m => MoIs y r m) ⟨m, h⟩) h
theorem mo_mono (y r s : Int) (h0 : 0 ≤ r) (h : r ≤ s) (hs : s < 365 + lp y) : mo y r ≤ mo y s := by
  obtain ⟨a1, a2, a3, a4⟩ := mo_is y r h0 (by omega)
  obtain ⟨b1, b2, b3, b4⟩ := mo_is y s (by omega) hs
  rcases ilt_or (mo y s) (mo y r) with c | c
  · have := dbm_mono y (mo y s + 1) (mo y r) (by omega) (by omega) (by omega); omega
  · exact c

/-- A minute, limited. -/
def vm (m : Int) : Int := min (max m 0) 1073741824
theorem vm_in (m : Int) : 0 ≤ vm m ∧ vm m ≤ 1073741824 := by unfold vm; omega
theorem vm_id (m : Int) (h0 : 0 ≤ m) (h1 : m ≤ 1073741824) : vm m = m := by unfold vm; omega
/-- The date of a minute, part by part. -/
noncomputable def oY (m : Int) : Int := yr (vm m / 1440)
noncomputable def oR (m : Int) : Int := vm m / 1440 - dby (oY m)
noncomputable def oM (m : Int) : Int := mo (oY m) (oR m)
noncomputable def oD (m : Int) : Int := oR m - dbm (oY m) (oM m) + 1
def oH (m : Int) : Int := vm m % 1440 / 60
def oI (m : Int) : Int := vm m % 60
theorem oY_is (m : Int) : YrIs (vm m / 1440) (oY m) := yr_is _ (by have := vm_in m; omega)
theorem oY_in (m : Int) : 2000 ≤ oY m ∧ oY m ≤ 4041 := by
  have h1 := vm_in m
  have h := oY_is m
  refine ⟨h.low (by omega), ?_⟩
  rcases ilt_or 4041 (oY m) with e | e
  · have h2 := dby_mono 4042 (oY m) (by omega)
    have h3 : dby 4042 = 745826 := rfl
    unfold YrIs at h
    omega
  · exact e
theorem oR_in (m : Int) : 0 ≤ oR m ∧ oR m < 365 + lp (oY m) := by
  have h := oY_is m
  unfold YrIs at h
  rw [dby_step] at h
  unfold oR
  omega
theorem oM_is (m : Int) : MoIs (oY m) (oR m) (oM m) := mo_is _ _ (oR_in m).1 (oR_in m).2
theorem oM_in (m : Int) : 1 ≤ oM m ∧ oM m ≤ 12 := ⟨(oM_is m).1, (oM_is m).2.1⟩
theorem oD_in (m : Int) : 1 ≤ oD m ∧ oD m ≤ mlen (oY m) (oM m) := by
  obtain ⟨h1, h2, h3, h4⟩ := oM_is m
  rw [dbm_step _ _ h1 h2] at h4
  unfold oD
  omega
theorem oH_in (m : Int) : 0 ≤ oH m ∧ oH m ≤ 23 := by unfold oH; omega
theorem oI_in (m : Int) : 0 ≤ oI m ∧ oI m ≤ 59 := by unfold oI; omega

/-- The date exists, up to 4041. -/
def exD (y m d h i : Int) : Prop := (2000 ≤ y ∧ y ≤ 4041) ∧ (1 ≤ m ∧ m ≤ 12) ∧ (1 ≤ d ∧ d ≤ mlen y m) ∧ (0 ≤ h ∧ h ≤ 23) ∧ (0 ≤ i ∧ i ≤ 59)
instance (y m d h i : Int) : Decidable (exD y m d h i) := by unfold exD; infer_instance
/-- The minute of a date. -/
def atM (y m d h i : Int) : Int := (dby y + dbm y m + d - 1) * 1440 + h * 60 + i
/-- What At answers. -/
def atR (y m d h i : Int) : Int × Int := if exD y m d h i ∧ atM y m d h i ≤ 1073741824 then (atM y m d h i, 0) else (0, 2)
theorem atR_no (y m d h i : Int) (k : ¬ (exD y m d h i ∧ atM y m d h i ≤ 1073741824)) : atR y m d h i = (0, 2) := by unfold atR; rw [if_neg k]
theorem atR_yes (y m d h i : Int) (k : exD y m d h i) (k2 : atM y m d h i ≤ 1073741824) : atR y m d h i = (atM y m d h i, 0) := by unfold atR; rw [if_pos ⟨k, k2⟩]
theorem atM_in (y m d h i : Int) (k : exD y m d h i) : 0 ≤ atM y m d h i ∧ atM y m d h i ≤ 2000000000 := by
  obtain ⟨⟨a1, a2⟩, ⟨b1, b2⟩, ⟨c1, c2⟩, ⟨d1, d2⟩, e1, e2⟩ := k
  have h1 := dby_far y a1
  have h2 := dbm_in y m
  have h3 := mlen_in y m
  unfold atM
  omega
/-- Of a minute, and back. -/
theorem of_ex (m : Int) : exD (oY m) (oM m) (oD m) (oH m) (oI m) := ⟨oY_in m, oM_in m, oD_in m, oH_in m, oI_in m⟩
theorem at_of (m : Int) : atM (oY m) (oM m) (oD m) (oH m) (oI m) = vm m := by
  unfold atM oD oR oH oI
  omega
theorem of_at (y m d h i : Int) (k : exD y m d h i) (hm : atM y m d h i ≤ 1073741824) :
    oY (atM y m d h i) = y ∧ oM (atM y m d h i) = m ∧ oD (atM y m d h i) = d ∧ oH (atM y m d h i) = h ∧ oI (atM y m d h i) = i := by
  have hin := atM_in y m d h i k
  have hv := vm_id _ hin.1 hm
  obtain ⟨⟨a1, a2⟩, ⟨b1, b2⟩, ⟨c1, c2⟩, ⟨d1, d2⟩, e1, e2⟩ := k
  have hday : vm (atM y m d h i) / 1440 = dby y + dbm y m + d - 1 := by rw [hv]; unfold atM; omega
  have hs := dbm_step y m b1 b2
  have hb := dbm_in y m
  have hmo := dbm_mono y (m + 1) 13 (by omega) (by omega) (by omega)
  rw [dbm_end] at hmo
  have hY : oY (atM y m d h i) = y := yr_eq ⟨by omega, by rw [dby_step]; omega⟩
  have hR : oR (atM y m d h i) = dbm y m + d - 1 := by unfold oR; rw [hY]; omega
  have hM : oM (atM y m d h i) = m := by unfold oM; rw [hY, hR]; exact mo_eq ⟨b1, b2, by omega, by omega⟩
  refine ⟨hY, hM, ?_, ?_, ?_⟩
  · unfold oD; rw [hY, hM, hR]; omega
  · unfold oH; rw [hv]; unfold atM; omega
  · unfold oI; rw [hv]; unfold atM; omega

/-- One date is later than the other. -/
def lat (a0 a1 a2 a3 a4 b0 b1 b2 b3 b4 : Int) : Bool := if a0 ≠ b0 then decide (b0 < a0) else if a1 ≠ b1 then decide (b1 < a1) else if a2 ≠ b2 then decide (b2 < a2) else if a3 ≠ b3 then decide (b3 < a3) else if a4 ≠ b4 then decide (b4 < a4) else false
theorem lat_of (m n : Int) (h0 : 0 ≤ m) (h : m < n) (h1 : n ≤ 1073741824) :
    lat (oY n) (oM n) (oD n) (oH n) (oI n) (oY m) (oM m) (oD m) (oH m) (oI m) = true := by
  have vmm := vm_id m h0 (by omega)
  have vnn := vm_id n (by omega) h1
  have hy := yr_mono (vm m / 1440) (vm n / 1440) (by omega) (by omega)
  have hrn := oR_in n
  have hrm := oR_in m
  unfold lat
  by_cases e0 : oY n = oY m
  · rw [if_neg (by simpa using e0)]
    have er : oR m ≤ oR n := by unfold oR; rw [e0]; omega
    have hmo := mo_mono (oY m) (oR m) (oR n) hrm.1 er (by rw [← e0]; exact hrn.2)
    by_cases e1 : oM n = oM m
    · rw [if_neg (by simpa using e1)]
      by_cases e2 : oD n = oD m
      · rw [if_neg (by simpa using e2)]
        have ed : vm n / 1440 = vm m / 1440 := by unfold oD oR at e2; rw [e0, e1] at e2; omega
        by_cases e3 : oH n = oH m
        · rw [if_neg (by simpa using e3)]
          rw [if_pos (by unfold oI oH at *; omega)]
          exact decide_eq_true (by unfold oI oH at *; omega)
        · rw [if_pos e3]
          exact decide_eq_true (by unfold oH at *; omega)
      · rw [if_pos e2]
        exact decide_eq_true (by unfold oD at *; rw [e0, e1] at *; omega)
    · rw [if_pos e1]
      have : oM m ≤ oM n := by unfold oM; rw [e0]; exact hmo
      exact decide_eq_true (by omega)
  · rw [if_pos e0]
    have : oY m ≤ oY n := hy
    exact decide_eq_true (by omega)
end Go.Proofs.YtoodfiicoplbhaaDoor
