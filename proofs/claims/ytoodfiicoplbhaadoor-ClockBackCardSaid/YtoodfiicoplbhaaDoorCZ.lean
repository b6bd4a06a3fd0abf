/- Plain mathematics of time zones; no program in sight. -/
import Derived.Test.YtoodfiicoplbhaaDoorCPlain
set_option linter.unusedVariables false
namespace Go.Proofs.YtoodfiicoplbhaaDoor
open Go.RowKit

/-- A change: its minute and its offset. -/
abbrev Chg := Int × Int
def okOB (o : Int) : Bool := decide (-840 ≤ o) && decide (o ≤ 840)
def okMB (a : Int) : Bool := decide (0 ≤ a) && decide (a ≤ 1073741824)
def okCB (c : Chg) : Bool := okOB c.2 && okMB c.1
def allC : List Chg → Bool
  | [] => true
  | c :: r => okCB c && allC r
def asc : List Chg → Bool
  | a :: b :: r => decide (a.1 < b.1) && asc (b :: r)
  | _ => true
theorem okO_in {o : Int} (h : okOB o = true) : -840 ≤ o ∧ o ≤ 840 := by unfold okOB at h; simpa using h
theorem okM_in {o : Int} (h : okMB o = true) : 0 ≤ o ∧ o ≤ 1073741824 := by unfold okMB at h; simpa using h
theorem allC_mem {l : List Chg} (h : allC l = true) : ∀ c ∈ l, okOB c.2 = true ∧ okMB c.1 = true := by
  induction l with
  | nil => intro c hc; cases hc
  | cons d r ih =>
    unfold allC okCB at h
    simp only [Bool.and_eq_true] at h
    intro c hc
    rcases List.mem_cons.1 hc with rfl | hc
    · exact h.1
    · exact ih h.2 c hc
theorem asc_cons {c : Chg} {r : List Chg} (h : asc (c :: r) = true) : asc r = true ∧ ∀ d ∈ r, c.1 < d.1 := by
  induction r generalizing c with
  | nil => exact ⟨rfl, fun d hd => by cases hd⟩
  | cons b r ih =>
    unfold asc at h
    simp only [Bool.and_eq_true, decide_eq_true_eq] at h
    refine ⟨h.2, fun d hd => ?_⟩
    rcases List.mem_cons.1 hd with rfl | hd
    · exact h.1
    · have := (ih h.2).2 d hd; omega
/-- What Check answers. -/
def chk (o : Int) (l : List Chg) : Int := if (okOB o && allC l) = false then 2 else if 64 < l.length then 3 else if asc l = true then 0 else 14
theorem chk_zero {o : Int} {l : List Chg} (h : chk o l = 0) : okOB o = true ∧ allC l = true ∧ l.length ≤ 64 ∧ asc l = true := by
  unfold chk at h
  split at h
  · simp at h
  · rename_i h1
    split at h
    · simp at h
    · split at h
      · rename_i h3
        simp only [Bool.not_eq_false, Bool.and_eq_true] at h1
        exact ⟨h1.1, h1.2, by omega, h3⟩
      · simp at h
/-- The offset at a minute, by the changes in order. -/
def offL : Int → List Chg → Int → Int
  | o, [], _ => o
  | o, c :: r, m => if c.1 ≤ m then offL c.2 r m else o
def offR : Int → List Chg → Int → Int
  | o, [], _ => o
  | o, c :: r, m => offR (if c.1 ≤ m then c.2 else o) r m
theorem offR_stay (l : List Chg) (m : Int) : ∀ o, (∀ c ∈ l, m < c.1) → offR o l m = o := by
  induction l with
  | nil => intro o _; rfl
  | cons c r ih =>
    intro o h
    have := h c List.mem_cons_self
    unfold offR
    rw [if_neg (by omega)]
    exact ih o fun d hd => h d (List.mem_cons_of_mem _ hd)
theorem offR_offL (l : List Chg) (m : Int) : ∀ o, asc l = true → offR o l m = offL o l m := by
  induction l with
  | nil => intro o _; rfl
  | cons c r ih =>
    intro o h
    obtain ⟨h1, h2⟩ := asc_cons h
    unfold offR offL
    by_cases e : c.1 ≤ m
    · rw [if_pos e, if_pos e]; exact ih _ h1
    · rw [if_neg e, if_neg e]
      exact offR_stay r m o fun d hd => by have := h2 d hd; omega
theorem offL_in (l : List Chg) (m : Int) : ∀ o, okOB o = true → allC l = true → -840 ≤ offL o l m ∧ offL o l m ≤ 840 := by
  induction l with
  | nil => intro o h _; exact okO_in h
  | cons c r ih =>
    intro o h k
    unfold offL
    unfold allC okCB at k
    simp only [Bool.and_eq_true] at k
    split
    · exact ih _ k.1.1 k.2
    · exact okO_in h
theorem offR_in (l : List Chg) (m : Int) : ∀ o, okOB o = true → allC l = true → -840 ≤ offR o l m ∧ offR o l m ≤ 840 := by
  induction l with
  | nil => intro o h _; exact okO_in h
  | cons c r ih =>
    intro o h k
    unfold offR
    unfold allC okCB at k
    simp only [Bool.and_eq_true] at k
    split
    · exact ih _ k.1.1 k.2
    · exact ih _ h k.2
/-- The offset of a zone at a minute; the local minute. -/
def off (o : Int) (l : List Chg) (m : Int) : Int := if chk o l = 0 then offL o l (vm m) else 0
theorem off_in (o : Int) (l : List Chg) (m : Int) : -840 ≤ off o l m ∧ off o l m ≤ 840 := by
  unfold off
  split
  · rename_i h
    obtain ⟨h1, h2, _, _⟩ := chk_zero h
    exact offL_in l _ o h1 h2
  · omega
def loc (o : Int) (l : List Chg) (m : Int) : Int := vm (vm m + off o l m)

/-- The least minute of a span with one offset that has the local minute. -/
def fstO (a b o L : Int) : Option Int := if a ≤ b ∧ vm (a + o) = L then some a else if a ≤ L - o ∧ L - o ≤ b ∧ 0 ≤ L ∧ L ≤ 1073741824 then some (L - o) else none
theorem fstO_some {a b o L m : Int} (h : fstO a b o L = some m) : a ≤ m ∧ m ≤ b ∧ vm (m + o) = L ∧ ∀ k, a ≤ k → k < m → vm (k + o) ≠ L := by
  unfold fstO at h
  split at h
  · rename_i h1
    obtain rfl : a = m := by simpa using h
    exact ⟨by omega, h1.1, h1.2, fun k _ _ => by omega⟩
  · rename_i h1
    split at h
    · rename_i h2
      obtain rfl : L - o = m := by simpa using h
      refine ⟨h2.1, h2.2.1, ?_, fun k k1 k2 => ?_⟩
      · unfold vm; omega
      · unfold vm at *; omega
    · simp at h
theorem fstO_none {a b o L : Int} (h : fstO a b o L = none) : ∀ k, a ≤ k → k ≤ b → vm (k + o) ≠ L := by
  unfold fstO at h
  split at h
  · simp at h
  · rename_i h1
    split at h
    · simp at h
    · rename_i h2
      intro k k1 k2
      unfold vm at *
      omega
def utcL : Int → Int → List Chg → Int → Option Int
  | a, o, [], L => fstO a 1073741824 o L
  | a, o, c :: r, L => match fstO a (c.1 - 1) o L with
    | some m => some m
    | none => utcL c.1 c.2 r L
theorem utcL_some (l : List Chg) (L m : Int) : ∀ a o, (∀ c ∈ l, a ≤ c.1) → allC l = true → asc l = true → utcL a o l L = some m →
    a ≤ m ∧ m ≤ 1073741824 ∧ vm (m + offL o l m) = L ∧ ∀ k, a ≤ k → k < m → vm (k + offL o l k) ≠ L := by
  induction l with
  | nil => intro a o _ _ _ h; exact fstO_some h
  | cons c r ih =>
    intro a o ha hc hs h
    have hc0 := ha c List.mem_cons_self
    obtain ⟨s1, s2⟩ := asc_cons hs
    have hk := (allC_mem hc c List.mem_cons_self).2
    have hk := okM_in hk
    unfold utcL at h
    cases hf : fstO a (c.1 - 1) o L with
    | some n =>
      rw [hf] at h
      obtain rfl : n = m := by simpa using h
      obtain ⟨g1, g2, g3, g4⟩ := fstO_some hf
      refine ⟨g1, by omega, ?_, fun k k1 k2 => ?_⟩
      · unfold offL; rw [if_neg (by omega)]; exact g3
      · unfold offL; rw [if_neg (by omega)]; exact g4 k k1 k2
    | none =>
      rw [hf] at h
      have g := fstO_none hf
      have hc2 : allC r = true := by unfold allC at hc; simp only [Bool.and_eq_true] at hc; exact hc.2
      obtain ⟨g1, g2, g3, g4⟩ := ih c.1 c.2 (fun d hd => by have := s2 d hd; omega) hc2 s1 h
      refine ⟨by omega, g2, ?_, fun k k1 k2 => ?_⟩
      · unfold offL; rw [if_pos (by omega)]; exact g3
      · unfold offL
        by_cases e : c.1 ≤ k
        · rw [if_pos e]; exact g4 k e k2
        · rw [if_neg e]; exact g k k1 (by omega)
theorem utcL_none (l : List Chg) (L : Int) : ∀ a o, (∀ c ∈ l, a ≤ c.1) → allC l = true → asc l = true → utcL a o l L = none →
    ∀ k, a ≤ k → k ≤ 1073741824 → vm (k + offL o l k) ≠ L := by
  induction l with
  | nil => intro a o _ _ _ h; exact fstO_none h
  | cons c r ih =>
    intro a o ha hc hs h k k1 k2
    have hc0 := ha c List.mem_cons_self
    obtain ⟨s1, s2⟩ := asc_cons hs
    unfold utcL at h
    cases hf : fstO a (c.1 - 1) o L with
    | some n => rw [hf] at h; simp at h
    | none =>
      rw [hf] at h
      have g := fstO_none hf
      have hc2 : allC r = true := by unfold allC at hc; simp only [Bool.and_eq_true] at hc; exact hc.2
      have q := ih c.1 c.2 (fun d hd => by have := s2 d hd; omega) hc2 s1 h
      unfold offL
      by_cases e : c.1 ≤ k
      · rw [if_pos e]; exact q k e k2
      · rw [if_neg e]; exact g k k1 (by omega)
def utc (o : Int) (l : List Chg) (L : Int) : Option Int := if chk o l = 0 then utcL 0 o l L else utcL 0 0 [] L
theorem loc_ok {o : Int} {l : List Chg} (h : chk o l = 0) (k : Int) (k0 : 0 ≤ k) (k1 : k ≤ 1073741824) : loc o l k = vm (k + offL o l k) := by
  unfold loc off; rw [if_pos h, vm_id k k0 k1]
theorem loc_no {o : Int} {l : List Chg} (h : ¬ chk o l = 0) (k : Int) (k0 : 0 ≤ k) (k1 : k ≤ 1073741824) : loc o l k = vm (k + offL 0 [] k) := by
  unfold loc off; rw [if_neg h, vm_id k k0 k1]; rfl
theorem utc_some {o : Int} {l : List Chg} {L m : Int} (h : utc o l L = some m) : 0 ≤ m ∧ m ≤ 1073741824 ∧ loc o l m = L ∧ ∀ k, 0 ≤ k → k < m → loc o l k ≠ L := by
  unfold utc at h
  split at h
  · rename_i hc
    obtain ⟨h1, h2, _, h4⟩ := chk_zero hc
    obtain ⟨g1, g2, g3, g4⟩ := utcL_some l L m 0 o (fun c hm => (okM_in (allC_mem h2 c hm).2).1) h2 h4 h
    exact ⟨g1, g2, by rw [loc_ok hc m g1 g2]; exact g3, fun k k0 k1 => by rw [loc_ok hc k k0 (by omega)]; exact g4 k k0 k1⟩
  · rename_i hc
    obtain ⟨g1, g2, g3, g4⟩ := utcL_some [] L m 0 0 (fun c hm => by cases hm) rfl rfl h
    exact ⟨g1, g2, by rw [loc_no hc m g1 g2]; exact g3, fun k k0 k1 => by rw [loc_no hc k k0 (by omega)]; exact g4 k k0 k1⟩
theorem utc_none {o : Int} {l : List Chg} {L : Int} (h : utc o l L = none) : ∀ k, 0 ≤ k → k ≤ 1073741824 → loc o l k ≠ L := by
  unfold utc at h
  split at h
  · rename_i hc
    obtain ⟨h1, h2, _, h4⟩ := chk_zero hc
    have g := utcL_none l L 0 o (fun c hm => (okM_in (allC_mem h2 c hm).2).1) h2 h4 h
    exact fun k k0 k1 => by rw [loc_ok hc k k0 k1]; exact g k k0 k1
  · rename_i hc
    have g := utcL_none [] L 0 0 (fun c hm => by cases hm) rfl rfl h
    exact fun k k0 k1 => by rw [loc_no hc k k0 k1]; exact g k k0 k1
/-- What Utc answers. -/
def uR : Option Int → Int × Bool
  | some m => (m, true)
  | none => (0, false)
theorem utc_eq_some {o : Int} {l : List Chg} {L m : Int} (h0 : 0 ≤ m) (h1 : m ≤ 1073741824) (h2 : loc o l m = L) (h3 : ∀ k, 0 ≤ k → k < m → loc o l k ≠ L) : utc o l L = some m := by
  cases h : utc o l L with
  | none => exact absurd h2 (utc_none h m h0 h1)
  | some n =>
    obtain ⟨g1, g2, g3, g4⟩ := utc_some h
    rcases Int.lt_trichotomy n m with e | e | e
    · exact absurd g3 (h3 n g1 e)
    · rw [e]
    · exact absurd h2 (g4 m h0 e)
theorem utc_eq_none {o : Int} {l : List Chg} {L : Int} (h : ∀ k, 0 ≤ k → k ≤ 1073741824 → loc o l k ≠ L) : utc o l L = none := by
  cases e : utc o l L with
  | none => rfl
  | some n =>
    obtain ⟨g1, g2, g3, g4⟩ := utc_some e
    exact absurd g3 (h n g1 g2)
/-- Far from the local minute no minute has it. -/
theorem loc_low {o : Int} {l : List Chg} {L k : Int} (h0 : 0 ≤ k) (h1 : k ≤ 1073741824) (h : k < vm (L - 840)) : loc o l k ≠ L := by
  have := off_in o l k
  unfold loc
  rw [vm_id k h0 h1]
  unfold vm at *
  omega
theorem loc_high {o : Int} {l : List Chg} {L k : Int} (h0 : 0 ≤ k) (h1 : k ≤ 1073741824) (h : vm (L + 840) < k) : loc o l k ≠ L := by
  have := off_in o l k
  unfold loc
  rw [vm_id k h0 h1]
  unfold vm at *
  omega
end Go.Proofs.YtoodfiicoplbhaaDoor
