/- Plain mathematics of the sweep over the turns of two lists; no program in sight. -/
import Derived.Test.YtnocbgimfmgdeaaSPlain
set_option linter.unusedVariables false
namespace Go.Proofs.Ytnocbgimfmgdeaa
open Go.RowKit

/-- A turn: its minute, its list, its step. -/
abbrev Trn := Int × Int × Int
def trns (j : Int) : List Spn → List Trn
  | [] => []
  | s :: r => if vldB s = true then (s.1, j, 1) :: (s.2, j, -1) :: trns j r else trns j r
/-- How many spans of a list are open at a minute. -/
def opn (j m : Int) : List Trn → Int
  | [] => 0
  | t :: r => (if t.2.1 = j ∧ t.1 ≤ m then t.2.2 else 0) + opn j m r
def opa (j : Int) : List Trn → Int
  | [] => 0
  | t :: r => (if t.2.1 = j then t.2.2 else 0) + opa j r
theorem opn_append (j m : Int) (a b : List Trn) : opn j m (a ++ b) = opn j m a + opn j m b := by
  induction a with
  | nil => simp [opn]
  | cons t r ih => simp only [List.cons_append, opn, ih]; omega
theorem opa_append (j : Int) (a b : List Trn) : opa j (a ++ b) = opa j a + opa j b := by
  induction a with
  | nil => simp [opa]
  | cons t r ih => simp only [List.cons_append, opa, ih]; omega
theorem opn_perm {j m : Int} {a b : List Trn} (h : a.Perm b) : opn j m a = opn j m b := by
  induction h with
  | nil => rfl
  | cons x _ ih => simp only [opn, ih]
  | swap x y l => simp only [opn]; omega
  | trans _ _ h1 h2 => exact h1.trans h2
theorem opn_le {j m : Int} {l : List Trn} (h : ∀ t ∈ l, t.1 ≤ m) : opn j m l = opa j l := by
  induction l with
  | nil => rfl
  | cons t r ih =>
    simp only [opn, opa]
    rw [ih fun x hx => h x (List.mem_cons_of_mem _ hx)]
    have := h t List.mem_cons_self
    by_cases c : t.2.1 = j
    · rw [if_pos ⟨c, this⟩, if_pos c]
    · rw [if_neg (fun g => c g.1), if_neg c]
theorem opn_gt {j m : Int} {l : List Trn} (h : ∀ t ∈ l, m < t.1) : opn j m l = 0 := by
  induction l with
  | nil => rfl
  | cons t r ih =>
    simp only [opn]
    rw [ih fun x hx => h x (List.mem_cons_of_mem _ hx)]
    have := h t List.mem_cons_self
    rw [if_neg (fun g => by omega)]
    rfl
theorem opn_same {j m n : Int} {l : List Trn} (h : ∀ t ∈ l, t.1 ≤ m ↔ t.1 ≤ n) : opn j m l = opn j n l := by
  induction l with
  | nil => rfl
  | cons t r ih =>
    simp only [opn]
    rw [ih fun x hx => h x (List.mem_cons_of_mem _ hx)]
    have := h t List.mem_cons_self
    by_cases c : t.2.1 = j ∧ t.1 ≤ m
    · rw [if_pos c, if_pos ⟨c.1, this.1 c.2⟩]
    · rw [if_neg c, if_neg (fun g => c ⟨g.1, this.2 g.2⟩)]
theorem opn_other {i j : Int} (h : j ≠ i) (m : Int) (l : List Spn) : opn i m (trns j l) = 0 := by
  induction l with
  | nil => rfl
  | cons s r ih =>
    unfold trns
    split
    · simp only [opn, ih]
      rw [if_neg (fun g => h g.1), if_neg (fun g => h g.1)]
      rfl
    · exact ih
theorem opn_trns (j m : Int) (l : List Spn) : 0 ≤ opn j m (trns j l) ∧ decide (0 < opn j m (trns j l)) = inS l m := by
  induction l with
  | nil => exact ⟨Int.le_refl _, rfl⟩
  | cons s r ih =>
    obtain ⟨i1, i2⟩ := ih
    unfold trns inS
    rw [← i2]
    split
    · rename_i hv
      have hv2 := vld_in hv
      simp only [opn]
      cases hm : inO s m with
      | true =>
        have := (inO_iff s m).1 hm
        rw [if_pos ⟨trivial, by omega⟩, if_neg (fun g => by omega)]
        refine ⟨by omega, ?_⟩
        rw [Bool.true_or]
        exact decide_eq_true (by omega)
      | false =>
        have : ¬ (s.1 ≤ m ∧ m < s.2) := fun g => by rw [(inO_iff s m).2 ⟨by omega, by omega, by omega, g.1, g.2⟩] at hm; cases hm
        rw [Bool.false_or]
        by_cases c : s.1 ≤ m
        · rw [if_pos ⟨trivial, c⟩, if_pos ⟨trivial, by omega⟩]
          refine ⟨by omega, ?_⟩
          congr 1
          exact propext ⟨fun _ => by omega, fun _ => by omega⟩
        · rw [if_neg (fun g => c g.2), if_neg (fun g => by omega)]
          refine ⟨by omega, ?_⟩
          congr 1
          exact propext ⟨fun _ => by omega, fun _ => by omega⟩
    · rename_i hv
      have : inO s m = false := by
        cases hm : inO s m with
        | false => rfl
        | true => have := (inO_iff s m).1 hm; exact absurd (vld_of ⟨this.1, this.2.1, this.2.2.1⟩) hv
      rw [this, Bool.false_or]
      exact ⟨i1, rfl⟩
theorem trns_mem {j : Int} {l : List Spn} : ∀ t ∈ trns j l, 0 ≤ t.1 ∧ t.1 ≤ 10080 ∧ t.2.1 = j ∧ -1 ≤ t.2.2 ∧ t.2.2 ≤ 1 := by
  induction l with
  | nil => intro t ht; cases ht
  | cons s r ih =>
    intro t ht
    unfold trns at ht
    split at ht
    · rename_i hv
      have := vld_in hv
      rcases List.mem_cons.1 ht with rfl | ht
      · exact ⟨by show 0 ≤ s.1; omega, by show s.1 ≤ 10080; omega, rfl, (by decide : (-1 : Int) ≤ 1), (by decide : (1 : Int) ≤ 1)⟩
      · rcases List.mem_cons.1 ht with rfl | ht
        · exact ⟨by show 0 ≤ s.2; omega, by show s.2 ≤ 10080; omega, rfl, (by decide : (-1 : Int) ≤ -1), (by decide : (-1 : Int) ≤ 1)⟩
        · exact ih t ht
    · exact ih t ht
theorem trns_len (j : Int) (l : List Spn) : (trns j l).length ≤ 2 * l.length := by
  induction l with
  | nil => exact Nat.le_refl _
  | cons s r ih => unfold trns; split <;> simp only [List.length_cons] <;> omega
theorem trns_append (j : Int) (a b : List Spn) : trns j (a ++ b) = trns j a ++ trns j b := by
  induction a with
  | nil => rfl
  | cons s r ih =>
    have e1 : ∀ x : List Spn, trns j (s :: x) = if vldB s = true then (s.1, j, 1) :: (s.2, j, -1) :: trns j x else trns j x := fun _ => rfl
    rw [List.cons_append, e1, e1, ih]
    split
    · rfl
    · rfl
theorem opa_bd (j : Int) (l : List Trn) (h : ∀ t ∈ l, -1 ≤ t.2.2 ∧ t.2.2 ≤ 1) : -(l.length : Int) ≤ opa j l ∧ opa j l ≤ l.length := by
  induction l with
  | nil => exact ⟨Int.le_refl _, Int.le_refl _⟩
  | cons t r ih =>
    have := ih fun x hx => h x (List.mem_cons_of_mem _ hx)
    have := h t List.mem_cons_self
    simp only [opa, List.length_cons]
    split <;> omega

/-- The turns of two lists, sorted by their minutes. -/
structure Tns (D : List Trn) (a b : List Spn) : Prop where
  perm : D.Perm (trns 0 a ++ trns 1 b)
  sorted : ∀ i j (hi : i < D.length) (hj : j < D.length), i ≤ j → D[i].1 ≤ D[j].1
namespace Tns
variable {D : List Trn} {a b : List Spn}
theorem mem (h : Tns D a b) : ∀ t ∈ D, 0 ≤ t.1 ∧ t.1 ≤ 10080 ∧ (t.2.1 = 0 ∨ t.2.1 = 1) ∧ -1 ≤ t.2.2 ∧ t.2.2 ≤ 1 := by
  intro t ht
  rcases List.mem_append.1 (h.perm.mem_iff.1 ht) with g | g
  · have := trns_mem t g; exact ⟨this.1, this.2.1, Or.inl this.2.2.1, this.2.2.2⟩
  · have := trns_mem t g; exact ⟨this.1, this.2.1, Or.inr this.2.2.1, this.2.2.2⟩
theorem len (h : Tns D a b) : D.length ≤ 2 * a.length + 2 * b.length := by
  rw [h.perm.length_eq, List.length_append]
  have := trns_len 0 a
  have := trns_len 1 b
  omega
theorem inA (h : Tns D a b) (m : Int) : decide (0 < opn 0 m D) = inS a m := by
  rw [opn_perm h.perm, opn_append, opn_other (by decide) m b, Int.add_zero]
  exact (opn_trns 0 m a).2
theorem inB (h : Tns D a b) (m : Int) : decide (0 < opn 1 m D) = inS b m := by
  rw [opn_perm h.perm, opn_append, opn_other (by decide) m a, Int.zero_add]
  exact (opn_trns 1 m b).2
theorem mem_take {i : Nat} {t : Trn} (h : t ∈ D.take i) : ∃ (j : Nat) (hj : j < D.length), j < i ∧ D[j] = t := by
  obtain ⟨j, hj, e⟩ := List.mem_iff_getElem.1 h
  rw [List.length_take] at hj
  exact ⟨j, by omega, by omega, by rw [← e, List.getElem_take]⟩
theorem mem_drop {i : Nat} {t : Trn} (h : t ∈ D.drop i) : ∃ (j : Nat) (hj : j < D.length), i ≤ j ∧ D[j] = t := by
  obtain ⟨j, hj, e⟩ := List.mem_iff_getElem.1 h
  rw [List.length_drop] at hj
  exact ⟨i + j, by omega, by omega, by rw [← e, List.getElem_drop]⟩
/-- At the last turn of its minute the running sum is the number of open spans. -/
theorem run (h : Tns D a b) {i : Nat} (hi : i < D.length) (hl : ∀ h1 : i + 1 < D.length, D[i + 1].1 ≠ D[i].1) (j : Int) : opa j (D.take (i + 1)) = opn j D[i].1 D := by
  have e0 : ∀ m, opn j m D = opn j m (D.take (i + 1)) + opn j m (D.drop (i + 1)) := fun m => by
    rw [← opn_append, List.take_append_drop]
  rw [e0, opn_le (l := D.take (i + 1)), opn_gt (l := D.drop (i + 1)), Int.add_zero]
  · intro t ht
    obtain ⟨k, hk, h1, rfl⟩ := mem_drop ht
    have h2 : i + 1 < D.length := by omega
    have := h.sorted i (i + 1) hi h2 (by omega)
    have := hl h2
    have := h.sorted (i + 1) k h2 hk h1
    omega
  · intro t ht
    obtain ⟨k, hk, h1, rfl⟩ := mem_take ht
    exact h.sorted k i hk hi (by omega)
end Tns

/-- What is known of the sweep ahead of turn i: the set, as far as it has been told, is the list and what is open. -/
structure SwI (D : List Trn) (S : Int → Bool) (i : Nat) (F : List Spn) (ins : Bool) (frm : Int) : Prop where
  cov : ∀ m, (∀ h : i < D.length, m < D[i].1) → S m = (inS F m || (ins && decide (frm ≤ m)))
  ascS : ascS (-1) F
  mu : ∃ μ, -1 ≤ μ ∧ (∀ h : i < D.length, μ < D[i].1) ∧ (∀ s ∈ F, s.2 ≤ μ) ∧ (ins = true → frm ≤ μ ∧ ∀ s ∈ F, s.2 < frm)
  fr : 0 ≤ frm ∧ frm ≤ 10080
/-- What is asked of the set: it turns at turns alone, and ends. -/
structure SwS (D : List Trn) (S : Int → Bool) : Prop where
  low : ∀ m, (∀ t ∈ D, m < t.1) → S m = false
  same : ∀ m n, m ≤ n → (∀ t ∈ D, t.1 ≤ m ∨ n < t.1) → S n = S m
  high : ∀ m, 10080 ≤ m → S m = false
  range : ∀ t ∈ D, 0 ≤ t.1 ∧ t.1 ≤ 10080
  sorted : ∀ i j (hi : i < D.length) (hj : j < D.length), i ≤ j → D[i].1 ≤ D[j].1
theorem Tns.sw {D : List Trn} {a b : List Spn} (h : Tns D a b) (f : Bool → Bool → Bool) (hf : f false false = false) : SwS D fun m => f (inS a m) (inS b m) := by
  refine ⟨fun m hm => ?_, fun m n h1 h2 => ?_, fun m hm => ?_, fun t ht => ⟨(h.mem t ht).1, (h.mem t ht).2.1⟩, h.sorted⟩
  · show f _ _ = _
    rw [← h.inA, ← h.inB, opn_gt hm, opn_gt hm]; exact hf
  · show f _ _ = f _ _
    have e : ∀ t ∈ D, t.1 ≤ n ↔ t.1 ≤ m := fun t ht => by rcases h2 t ht with g | g <;> omega
    rw [← h.inA, ← h.inB, ← h.inA, ← h.inB, opn_same e, opn_same e]
  · show f _ _ = _
    have e : ∀ l : List Spn, inS l m = false := fun l => by
      cases c : inS l m with
      | false => rfl
      | true => have := inS_range c; omega
    rw [e, e]; exact hf
theorem inS_past {F : List Spn} {m : Int} (h : ∀ s ∈ F, s.2 ≤ m) : inS F m = false := by
  cases c : inS F m with
  | false => rfl
  | true =>
    obtain ⟨s, hs, g⟩ := (inS_iff F m).1 c
    have := (inO_iff s m).1 g
    have := h s hs
    omega
theorem SwI.start {D : List Trn} {S : Int → Bool} (h : SwS D S) : SwI D S 0 [] false 0 := by
  refine ⟨fun m hm => ?_, trivial, ⟨-1, Int.le_refl _, fun h0 => ?_, fun s hs => (by cases hs), fun g => by cases g⟩, by decide, by decide⟩
  · show S m = false
    refine h.low m fun t ht => ?_
    obtain ⟨j, hj, rfl⟩ := List.mem_iff_getElem.1 ht
    have := h.sorted 0 j (by omega) hj (Nat.zero_le _)
    have := hm (by omega)
    omega
  · have := (h.range D[0] (List.getElem_mem _)).1; omega
theorem SwI.skip {D : List Trn} {S : Int → Bool} {i : Nat} {F : List Spn} {ins : Bool} {frm : Int} (h : SwI D S i F ins frm) (hi : i + 1 < D.length) (he : D[i + 1].1 = D[i].1) : SwI D S (i + 1) F ins frm := by
  obtain ⟨h1, h2, ⟨μ, m0, m1, m2, m3⟩, h4⟩ := h
  refine ⟨fun m hm => h1 m fun _ => ?_, h2, ⟨μ, m0, fun _ => ?_, m2, m3⟩, h4⟩
  · have := hm hi; omega
  · have := m1 (by omega); omega
theorem SwS.flat {D : List Trn} {S : Int → Bool} (h : SwS D S) {i : Nat} (hi : i < D.length) (hl : ∀ h1 : i + 1 < D.length, D[i + 1].1 ≠ D[i].1) {m : Int} (hm : D[i].1 ≤ m) (hn : ∀ h1 : i + 1 < D.length, m < D[i + 1].1) : S m = S D[i].1 := by
  refine h.same _ _ hm fun t ht => ?_
  obtain ⟨j, hj, rfl⟩ := List.mem_iff_getElem.1 ht
  by_cases c : j ≤ i
  · exact Or.inl (h.sorted j i hj hi c)
  · have h1 : i + 1 < D.length := by omega
    have := h.sorted (i + 1) j h1 hj (by omega)
    have := hn h1
    exact Or.inr (by omega)
theorem SwS.next {D : List Trn} {S : Int → Bool} (h : SwS D S) {i : Nat} (hi : i < D.length) (hl : ∀ h1 : i + 1 < D.length, D[i + 1].1 ≠ D[i].1) (h1 : i + 1 < D.length) : D[i].1 < D[i + 1].1 := by
  have := h.sorted i (i + 1) hi h1 (by omega)
  have := hl h1
  omega
section
variable {D : List Trn} {S : Int → Bool} {i : Nat} {F : List Spn} {frm : Int}
/-- It begins. -/
theorem SwI.on (hS : SwS D S) (h : SwI D S i F false frm) (hi : i < D.length) (hl : ∀ h1 : i + 1 < D.length, D[i + 1].1 ≠ D[i].1) (hv : S D[i].1 = true) : SwI D S (i + 1) F true D[i].1 := by
  obtain ⟨h1, h2, ⟨μ, m0, m1, m2, m3⟩, h4⟩ := h
  have hr := hS.range D[i] (List.getElem_mem _)
  have hμ := m1 hi
  refine ⟨fun m hm => ?_, h2, ⟨D[i].1, by omega, hS.next hi hl, fun s hs => by have := m2 s hs; omega, fun _ => ⟨Int.le_refl _, fun s hs => by have := m2 s hs; omega⟩⟩, hr⟩
  by_cases c : D[i].1 ≤ m
  · rw [hS.flat hi hl c hm, hv, decide_eq_true c]; simp
  · rw [h1 m fun _ => by omega, decide_eq_false c]; simp
/-- It ends. -/
theorem SwI.off (hS : SwS D S) (h : SwI D S i F true frm) (hi : i < D.length) (hl : ∀ h1 : i + 1 < D.length, D[i + 1].1 ≠ D[i].1) (hv : S D[i].1 = false) : SwI D S (i + 1) (F ++ [(frm, D[i].1)]) false frm := by
  obtain ⟨h1, h2, ⟨μ, m0, m1, m2, m3⟩, h4⟩ := h
  have hr := hS.range D[i] (List.getElem_mem _)
  have hμ := m1 hi
  obtain ⟨g1, g2⟩ := m3 rfl
  have hlt : frm < D[i].1 := by omega
  have hvo : ∀ m, inO (frm, D[i].1) m = (decide (frm ≤ m) && decide (m < D[i].1)) := fun m => by
    rw [Bool.eq_iff_iff, inO_iff]; simp; omega
  refine ⟨fun m hm => ?_, ascS_snoc h2 (show -1 < frm by omega) (fun s hs => g2 s hs) hlt (show D[i].1 ≤ 10080 by omega), ⟨D[i].1, by omega, hS.next hi hl, fun s hs => ?_, fun g => by cases g⟩, h4⟩
  · rw [inS_append]
    simp only [inS, Bool.or_false, Bool.false_and, hvo]
    by_cases c : D[i].1 ≤ m
    · rw [hS.flat hi hl c hm, hv, inS_past (F := F) fun s hs => by have := m2 s hs; omega, decide_eq_false (show ¬ m < D[i].1 by omega)]; simp
    · rw [h1 m fun _ => by omega, decide_eq_true (show m < D[i].1 by omega)]; simp
  · rcases List.mem_append.1 hs with hs | hs
    · have := m2 s hs; omega
    · rw [List.mem_singleton] at hs; subst hs; exact Int.le_refl _
/-- It stays. -/
theorem SwI.stay (hS : SwS D S) {ins : Bool} (h : SwI D S i F ins frm) (hi : i < D.length) (hl : ∀ h1 : i + 1 < D.length, D[i + 1].1 ≠ D[i].1) (hv : S D[i].1 = ins) : SwI D S (i + 1) F ins frm := by
  obtain ⟨h1, h2, ⟨μ, m0, m1, m2, m3⟩, h4⟩ := h
  have hr := hS.range D[i] (List.getElem_mem _)
  have hμ := m1 hi
  refine ⟨fun m hm => ?_, h2, ⟨D[i].1, by omega, hS.next hi hl, fun s hs => by have := m2 s hs; omega, fun g => ?_⟩, h4⟩
  · by_cases c : D[i].1 ≤ m
    · rw [hS.flat hi hl c hm, hv, inS_past (F := F) fun s hs => by have := m2 s hs; omega]
      cases ins with
      | false => rfl
      | true => have := (m3 rfl).1; rw [decide_eq_true (show frm ≤ m by omega)]; rfl
    · exact h1 m fun _ => by omega
  · have := m3 g
    exact ⟨by omega, this.2⟩
theorem SwI.fin (hS : SwS D S) {ins : Bool} (h : SwI D S i F ins frm) (hi : D.length ≤ i) : NF F S := by
  have hb : ins = false := by
    cases ins with
    | false => rfl
    | true =>
      have := h.cov 20000 fun g => by omega
      rw [hS.high 20000 (by decide)] at this
      have h4 := h.fr
      rw [decide_eq_true (show frm ≤ 20000 by omega)] at this
      simp at this
  subst hb
  refine ⟨h.ascS, fun m => ?_⟩
  rw [h.cov m fun g => by omega]
  simp
theorem SwI.len {ins : Bool} (h : SwI D S i F ins frm) : F.length ≤ 10081 := by have := ascS_len h.ascS (by omega); omega
end
end Go.Proofs.Ytnocbgimfmgdeaa
