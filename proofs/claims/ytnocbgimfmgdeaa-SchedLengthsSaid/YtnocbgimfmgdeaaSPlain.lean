/- Plain mathematics of weekly schedules: sets of minutes, lists in normal form, the turns of a sweep; no program in sight. -/
import Derived.WalkKit
set_option linter.unusedVariables false
namespace Go.Proofs.Ytnocbgimfmgdeaa
open Go.RowKit

/-- A span: from, to. -/
abbrev Spn := Int × Int
def vldB (s : Spn) : Bool := decide (0 ≤ s.1) && decide (s.1 < s.2) && decide (s.2 ≤ 10080)
theorem vld_in {s : Spn} (h : vldB s = true) : 0 ≤ s.1 ∧ s.1 < s.2 ∧ s.2 ≤ 10080 := by unfold vldB at h; simp at h; omega
theorem vld_of {s : Spn} (h : 0 ≤ s.1 ∧ s.1 < s.2 ∧ s.2 ≤ 10080) : vldB s = true := by unfold vldB; simp; omega
def inO (s : Spn) (m : Int) : Bool := vldB s && decide (s.1 ≤ m) && decide (m < s.2)
/-- The minute lies in a valid span of the list. -/
def inS : List Spn → Int → Bool
  | [], _ => false
  | s :: r, m => inO s m || inS r m
theorem inO_iff (s : Spn) (m : Int) : inO s m = true ↔ 0 ≤ s.1 ∧ s.1 < s.2 ∧ s.2 ≤ 10080 ∧ s.1 ≤ m ∧ m < s.2 := by
  unfold inO vldB; simp; omega
theorem inS_append (l r : List Spn) (m : Int) : inS (l ++ r) m = (inS l m || inS r m) := by
  induction l with
  | nil => simp [inS]
  | cons s l ih => simp only [List.cons_append, inS, ih, Bool.or_assoc]
theorem inS_iff (l : List Spn) (m : Int) : inS l m = true ↔ ∃ s ∈ l, inO s m = true := by
  induction l with
  | nil => simp [inS]
  | cons s l ih => simp [inS, ih]
theorem inS_range {l : List Spn} {m : Int} (h : inS l m = true) : 0 ≤ m ∧ m < 10080 := by
  obtain ⟨s, _, h⟩ := (inS_iff l m).1 h
  have := (inO_iff s m).1 h
  omega
theorem inS_reverse (l : List Spn) (m : Int) : inS l.reverse m = inS l m := by
  induction l with
  | nil => rfl
  | cons s l ih => rw [List.reverse_cons, inS_append, ih]; simp only [inS, Bool.or_false]; exact Bool.or_comm _ _

/-- Ascending from p on, with a gap ahead of each. -/
def ascS : Int → List Spn → Prop
  | _, [] => True
  | p, s :: r => p < s.1 ∧ s.1 < s.2 ∧ s.2 ≤ 10080 ∧ ascS s.2 r
/-- The list is in normal form, and contains this set of minutes. -/
def NF (k : List Spn) (S : Int → Bool) : Prop := ascS (-1) k ∧ ∀ m, inS k m = S m

theorem ascS_gt {p : Int} {k : List Spn} (h : ascS p k) {m : Int} (hm : inS k m = true) : p < m := by
  induction k generalizing p with
  | nil => cases hm
  | cons s r ih =>
    obtain ⟨h1, h2, h3, h4⟩ := h
    unfold inS at hm
    rcases Bool.or_eq_true_iff.1 hm with e | e
    · have := (inO_iff s m).1 e; omega
    · have := ih h4 e; omega
theorem ascS_one {p q : Int} {k l : List Spn} (hp : -1 ≤ p) (hq : -1 ≤ q) (h : ascS p k) (g : ascS q l) (e : ∀ m, inS k m = inS l m) : k = l := by
  induction k generalizing p q l with
  | nil =>
    cases l with
    | nil => rfl
    | cons s r =>
      obtain ⟨g1, g2, g3, _⟩ := g
      have := e s.1
      have h2 : inO s s.1 = true := (inO_iff s s.1).2 ⟨by omega, by omega, by omega, by omega, by omega⟩
      unfold inS at this
      rw [h2] at this
      cases this
  | cons s r ih =>
    obtain ⟨h1, h2, h3, h4⟩ := h
    cases l with
    | nil =>
      have := e s.1
      have h2 : inO s s.1 = true := (inO_iff s s.1).2 ⟨by omega, by omega, by omega, by omega, by omega⟩
      unfold inS at this
      rw [h2] at this
      cases this
    | cons t q2 =>
      obtain ⟨g1, g2, g3, g4⟩ := g
      have a1 : inS (s :: r) s.1 = true := by unfold inS; rw [(inO_iff s s.1).2 ⟨by omega, by omega, by omega, by omega, by omega⟩]; rfl
      have a2 : inS (t :: q2) t.1 = true := by unfold inS; rw [(inO_iff t t.1).2 ⟨by omega, by omega, by omega, by omega, by omega⟩]; rfl
      have low : ∀ {x : Spn} {y : List Spn} {m : Int}, ascS x.2 y → x.1 < x.2 → inS (x :: y) m = true → x.1 ≤ m := by
        intro x y m hy hx hm
        unfold inS at hm
        rcases Bool.or_eq_true_iff.1 hm with e | e
        · have := (inO_iff x m).1 e; omega
        · have := ascS_gt hy e; omega
      have f1 : s.1 = t.1 := by
        have b1 := low g4 g2 (e s.1 ▸ a1)
        have b2 := low h4 h2 ((e t.1).symm ▸ a2)
        omega
      have out : ∀ {x : Spn} {y : List Spn}, ascS x.2 y → inS (x :: y) x.2 = false := by
        intro x y hy
        unfold inS
        rw [Bool.or_eq_false_iff]
        refine ⟨?_, ?_⟩
        · cases hc : inO x x.2 with
          | false => rfl
          | true => have := (inO_iff x x.2).1 hc; omega
        · cases hc : inS y x.2 with
          | false => rfl
          | true => have := ascS_gt hy hc; omega
      have f2 : s.2 = t.2 := by
        rcases Int.lt_trichotomy s.2 t.2 with c | c | c
        · have b := out h4
          rw [e] at b
          unfold inS at b
          rw [(inO_iff t s.2).2 ⟨by omega, by omega, by omega, by omega, by omega⟩] at b
          cases b
        · exact c
        · have b := out g4
          rw [← e] at b
          unfold inS at b
          rw [(inO_iff s t.2).2 ⟨by omega, by omega, by omega, by omega, by omega⟩] at b
          cases b
      have f : s = t := Prod.ext f1 f2
      subst f
      congr 1
      refine ih (p := s.2) (q := s.2) (by omega) (by omega) h4 g4 fun m => ?_
      have em := e m
      unfold inS at em
      cases hm : inO s m with
      | false => simpa [hm] using em
      | true =>
        have := (inO_iff s m).1 hm
        cases c1 : inS r m with
        | true => have := ascS_gt h4 c1; omega
        | false =>
          cases c2 : inS q2 m with
          | true => have := ascS_gt g4 c2; omega
          | false => rfl
/-- A set has one normal form. -/
theorem NF.one {k l : List Spn} {S : Int → Bool} (h : NF k S) (g : NF l S) : k = l :=
  ascS_one (Int.le_refl _) (Int.le_refl _) h.1 g.1 fun m => (h.2 m).trans (g.2 m).symm
theorem NF.self {k : List Spn} {S : Int → Bool} (h : NF k S) : NF k (inS k) := ⟨h.1, fun _ => rfl⟩
theorem NF.congr {k : List Spn} {S T : Int → Bool} (h : NF k S) (e : ∀ m, S m = T m) : NF k T := ⟨h.1, fun m => (h.2 m).trans (e m)⟩
theorem NF.range {k : List Spn} {S : Int → Bool} (h : NF k S) {m : Int} (hm : S m = true) : 0 ≤ m ∧ m < 10080 := inS_range (by rw [h.2 m]; exact hm)
theorem ascS_all {p : Int} {k : List Spn} (h : ascS p k) : ∀ s ∈ k, p < s.1 ∧ s.1 < s.2 ∧ s.2 ≤ 10080 := by
  induction k generalizing p with
  | nil => intro s hs; cases hs
  | cons t r ih =>
    obtain ⟨h1, h2, h3, h4⟩ := h
    intro s hs
    rcases List.mem_cons.1 hs with rfl | hs
    · exact ⟨h1, h2, h3⟩
    · have := ih h4 s hs; omega
theorem ascS_len {p : Int} {k : List Spn} (h : ascS p k) (hp : p ≤ 10080) : p + k.length ≤ 10080 := by
  induction k generalizing p with
  | nil => simpa using hp
  | cons t r ih =>
    obtain ⟨h1, h2, h3, h4⟩ := h
    have := ih h4 h3
    simp only [List.length_cons]
    omega
theorem NF.len {k : List Spn} {S : Int → Bool} (h : NF k S) : k.length ≤ 10081 := by have := ascS_len h.1 (by omega); omega
theorem ascS_snoc {p : Int} {k : List Spn} {x : Spn} (h : ascS p k) (h1 : p < x.1) (h2 : ∀ s ∈ k, s.2 < x.1) (h3 : x.1 < x.2) (h4 : x.2 ≤ 10080) : ascS p (k ++ [x]) := by
  induction k generalizing p with
  | nil => exact ⟨h1, h3, h4, trivial⟩
  | cons t r ih =>
    obtain ⟨a1, a2, a3, a4⟩ := h
    exact ⟨a1, a2, a3, ih a4 (h2 t List.mem_cons_self) fun s hs => h2 s (List.mem_cons_of_mem _ hs)⟩
theorem ascS_init {p : Int} {k : List Spn} {x : Spn} (h : ascS p (k ++ [x])) : ascS p k ∧ p < x.1 ∧ (∀ s ∈ k, s.2 < x.1) ∧ x.1 < x.2 ∧ x.2 ≤ 10080 := by
  induction k generalizing p with
  | nil => obtain ⟨a1, a2, a3, _⟩ := h; exact ⟨trivial, a1, (fun s hs => absurd hs List.not_mem_nil), a2, a3⟩
  | cons t r ih =>
    obtain ⟨a1, a2, a3, a4⟩ := h
    obtain ⟨b1, b2, b3, b4, b5⟩ := ih a4
    refine ⟨⟨a1, a2, a3, b1⟩, by omega, fun s hs => ?_, b4, b5⟩
    rcases List.mem_cons.1 hs with rfl | hs
    · exact b2
    · exact b3 s hs

/-! ### Lengths -/
def cntS (S : Int → Bool) : Nat → Int
  | 0 => 0
  | n + 1 => cntS S n + if S (n : Int) then 1 else 0
theorem cnt_in (S : Int → Bool) (n : Nat) : 0 ≤ cntS S n ∧ cntS S n ≤ n := by
  induction n with
  | zero => simp [cntS]
  | succ n ih => simp only [cntS]; split <;> omega
theorem cnt_congr {S T : Int → Bool} (n : Nat) (h : ∀ m : Int, 0 ≤ m → m < n → S m = T m) : cntS S n = cntS T n := by
  induction n with
  | zero => rfl
  | succ n ih => simp only [cntS]; rw [ih fun m h0 h1 => h m h0 (by omega), h n (by omega) (by omega)]
theorem cnt_or {S T : Int → Bool} (n : Nat) (h : ∀ m, (S m && T m) = false) : cntS (fun m => S m || T m) n = cntS S n + cntS T n := by
  induction n with
  | zero => rfl
  | succ n ih =>
    have e := h n
    simp only [cntS]
    rw [ih]
    rcases Bool.eq_false_or_eq_true (S (n : Int)) with hs | hs <;> rcases Bool.eq_false_or_eq_true (T (n : Int)) with ht | ht <;> simp [hs, ht] at e ⊢ <;> omega
theorem cnt_none (n : Nat) : cntS (fun _ => false) n = 0 := by
  induction n with
  | zero => rfl
  | succ n ih => simp [cntS, ih]
theorem cnt_one (s : Spn) (h : vldB s = true) (n : Nat) : cntS (inO s) n = min (max 0 ((n : Int) - s.1)) (s.2 - s.1) := by
  have hv := vld_in h
  induction n with
  | zero => simp only [cntS]; omega
  | succ n ih =>
    simp only [cntS]
    rw [ih]
    by_cases hm : inO s (n : Int) = true
    · rw [if_pos hm]; have := (inO_iff s n).1 hm; omega
    · rw [if_neg hm]
      have : ¬ (s.1 ≤ n ∧ (n : Int) < s.2) := fun g => hm ((inO_iff s n).2 ⟨by omega, by omega, by omega, g.1, g.2⟩)
      omega
def sumL : List Spn → Int
  | [] => 0
  | s :: r => (s.2 - s.1) + sumL r
theorem sumL_cnt {p : Int} {k : List Spn} (hp : -1 ≤ p) (h : ascS p k) : sumL k = cntS (inS k) 10080 := by
  induction k generalizing p with
  | nil => exact (cnt_none _).symm
  | cons s r ih =>
    obtain ⟨h1, h2, h3, h4⟩ := h
    have hv : vldB s = true := vld_of ⟨by omega, h2, h3⟩
    have e : ∀ m, (inO s m && inS r m) = false := by
      intro m
      cases c : inO s m with
      | false => rfl
      | true =>
        cases c2 : inS r m with
        | false => rfl
        | true => have := (inO_iff s m).1 c; have := ascS_gt h4 c2; omega
    have := cnt_or 10080 e
    show (s.2 - s.1) + sumL r = cntS (fun m => inO s m || inS r m) 10080
    rw [this, ih (p := s.2) (by omega) h4, cnt_one s hv]
    omega
theorem sumL_append (a b : List Spn) : sumL (a ++ b) = sumL a + sumL b := by
  induction a with
  | nil => simp [sumL]
  | cons s r ih => simp only [List.cons_append, sumL, ih]; omega
theorem NF.sum {k : List Spn} {S : Int → Bool} (h : NF k S) : sumL k = cntS S 10080 := by
  rw [sumL_cnt (Int.le_refl _) h.1]; exact cnt_congr _ fun m _ _ => h.2 m
theorem sum_bd {p : Int} {k : List Spn} (h : ascS p k) (n : Nat) : 0 ≤ sumL (k.take n) ∧ sumL (k.take n) ≤ max 0 (10080 - p) := by
  induction k generalizing p n with
  | nil => simp [sumL]; omega
  | cons s r ih =>
    obtain ⟨h1, h2, h3, h4⟩ := h
    cases n with
    | zero => simp [sumL]; omega
    | succ n => have := ih h4 n; simp only [List.take_succ_cons, sumL]; omega
theorem cnt_split (A B : Int → Bool) (n : Nat) : cntS (fun m => A m && B m) n + cntS (fun m => A m && !B m) n = cntS A n := by
  rw [← cnt_or n (fun m => by cases A m <;> cases B m <;> rfl)]
  exact cnt_congr n fun m _ _ => by cases A m <;> cases B m <;> rfl
theorem cnt_union (A B : Int → Bool) (n : Nat) : cntS (fun m => A m || B m) n = cntS A n + cntS (fun m => B m && !A m) n := by
  rw [← cnt_or n (fun m => by cases A m <;> cases B m <;> rfl)]
  exact cnt_congr n fun m _ _ => by cases A m <;> cases B m <;> rfl
end Go.Proofs.Ytnocbgimfmgdeaa
