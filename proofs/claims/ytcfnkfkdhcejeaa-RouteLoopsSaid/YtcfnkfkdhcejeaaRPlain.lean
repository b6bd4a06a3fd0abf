/- Routing tables: when they are valid, the steps, what is kept, and why no routes form a loop; no program in sight. -/
import Derived.WalkKit
set_option linter.unusedVariables false
namespace Go.Proofs.Ytcfnkfkdhcejeaa.Rte
open Go.RowKit

/-- Dest, Seq, Cost, Next. -/
abbrev Rt := Int × Int × Int × Int
def lim (n : Int) : Int := if n < 0 then 0 else if 250 < n then 250 else n
theorem lim_in (n : Int) : 0 ≤ lim n ∧ lim n ≤ 250 := by unfold lim; split <;> (try split) <;> omega
theorem lim_id {n : Int} (h : 0 ≤ n ∧ n ≤ 250) : lim n = n := by unfold lim; rw [if_neg (by omega), if_neg (by omega)]
theorem lim_same (n : Int) : n = lim n ↔ 0 ≤ n ∧ n ≤ 250 := by unfold lim; split <;> (try split) <;> omega
theorem lim_lim (n : Int) : lim (lim n) = lim n := lim_id (lim_in n)
/-- Finite. -/
def Fin1 (x : Rt) : Prop := 0 ≤ x.2.2.1 ∧ x.2.2.1 ≤ 200
instance (x : Rt) : Decidable (Fin1 x) := by unfold Fin1; infer_instance
/-- Usable as an advertisement. -/
def Us1 (x : Rt) : Prop := ((0 ≤ x.1 ∧ x.1 ≤ 250) ∧ (0 ≤ x.2.1 ∧ x.2.1 ≤ 65535)) ∧ ((Fin1 x ∧ x.2.1 % 2 = 0) ∨ x.2.2.1 = 255)
instance (x : Rt) : Decidable (Us1 x) := by unfold Us1; infer_instance
/-- A route that may stand in a table. -/
def Ok1 (x : Rt) : Prop := Us1 x ∧ (Fin1 x → 0 ≤ x.2.2.2 ∧ x.2.2.2 ≤ 250) ∧ (¬ Fin1 x → x.2.2.2 = 255)
instance (x : Rt) : Decidable (Ok1 x) := by unfold Ok1; infer_instance
theorem ok_dest {x : Rt} (h : Ok1 x) : 0 ≤ x.1 ∧ x.1 ≤ 250 := h.1.1.1
/-- Of self, or not: cost and next. -/
def Own (self : Int) (x : Rt) : Prop := (x.1 = self → x.2.2.1 = 0 ∧ x.2.2.2 = self) ∧ (x.1 ≠ self → x.2.2.1 ≠ 0 ∧ x.2.2.2 ≠ self)
instance (self : Int) (x : Rt) : Decidable (Own self x) := by unfold Own; infer_instance
/-- The route to a destination. -/
def get (t : List Rt) (d : Int) : Option Rt := t.find? fun x => decide (x.1 = d)
theorem get_nil (d : Int) : get [] d = none := rfl
theorem get_cons (a : Rt) (t : List Rt) (m : Int) : get (a :: t) m = if a.1 = m then some a else get t m := by
  by_cases h : a.1 = m
  · rw [if_pos h]; simp [get, h]
  · rw [if_neg h]; simp [get, h]
theorem get_mem {t : List Rt} {d : Int} {x : Rt} (h : get t d = some x) : x ∈ t ∧ x.1 = d := ⟨List.mem_of_find?_eq_some h, by have := List.find?_some h; simpa using this⟩
theorem get_none {t : List Rt} {d : Int} (h : get t d = none) : ∀ x ∈ t, x.1 ≠ d := by
  intro x hx
  have := List.find?_eq_none.1 h x hx
  simpa using this
/-- In strict order. -/
abbrev Srt (t : List Rt) : Prop := t.Pairwise fun a b => a.1 < b.1
theorem get_of {t : List Rt} (hs : Srt t) {x : Rt} (hx : x ∈ t) : get t x.1 = some x := by
  induction t with
  | nil => simp at hx
  | cons y r ih =>
    obtain ⟨h1, h2⟩ := List.pairwise_cons.1 hs
    rw [get_cons]
    rcases List.mem_cons.1 hx with e | hx
    · rw [e, if_pos rfl]
    · have := h1 x hx
      rw [if_neg (by omega), ih h2 hx]
theorem mem_get {t : List Rt} (hs : Srt t) (x : Rt) : x ∈ t ↔ get t x.1 = some x := ⟨get_of hs, fun h => (get_mem h).1⟩
/-- Two ordered tables with the same routes are one. -/
theorem srt_one : ∀ (t u : List Rt), Srt t → Srt u → (∀ x, x ∈ t ↔ x ∈ u) → t = u := by
  intro t
  induction t with
  | nil =>
    intro u _ _ h
    cases u with
    | nil => rfl
    | cons b u => exact absurd ((h b).2 List.mem_cons_self) (by simp)
  | cons a t ih =>
    intro u ht hu h
    cases u with
    | nil => exact absurd ((h a).1 List.mem_cons_self) (by simp)
    | cons b u =>
      obtain ⟨l1, l2⟩ := List.pairwise_cons.1 ht
      obtain ⟨m1, m2⟩ := List.pairwise_cons.1 hu
      have e : a = b := by
        rcases List.mem_cons.1 ((h a).1 List.mem_cons_self) with e | h1
        · exact e
        · rcases List.mem_cons.1 ((h b).2 List.mem_cons_self) with e | h2
          · exact e.symm
          · have := l1 b h2; have := m1 a h1; omega
      subst e
      rw [ih u l2 m2 fun x => ⟨fun hx => ?_, fun hx => ?_⟩]
      · rcases List.mem_cons.1 ((h x).1 (List.mem_cons_of_mem _ hx)) with e | h1
        · have := l1 x hx; rw [e] at this; omega
        · exact h1
      · rcases List.mem_cons.1 ((h x).2 (List.mem_cons_of_mem _ hx)) with e | h1
        · have := m1 x hx; rw [e] at this; omega
        · exact h1

/-! Check. -/
/-- The error of the routes behind one with this destination. -/
def chkG (p : Int) : List Rt → Int
  | [] => 0
  | x :: r => if Ok1 x then (if x.1 ≤ p then 14 else chkG x.1 r) else 2
/-- The error of a table. -/
def chk (t : List Rt) (self : Int) : Int :=
  if 24 < t.length then 3 else if ¬ (0 ≤ self ∧ self ≤ 250) then 2 else if chkG (-1) t ≠ 0 then chkG (-1) t else
    if get t self = none then 8 else if ∀ x ∈ t, Own self x then 0 else 4
/-- A table of self. -/
def Tab (t : List Rt) (self : Int) : Prop := (t.length ≤ 24 ∧ (0 ≤ self ∧ self ≤ 250)) ∧ ((∀ x ∈ t, Ok1 x) ∧ Srt t) ∧ (∃ x, get t self = some x) ∧ ∀ x ∈ t, Own self x
theorem chkG_zero (l : List Rt) : ∀ p, chkG p l = 0 ↔ (∀ x ∈ l, Ok1 x ∧ p < x.1) ∧ Srt l := by
  induction l with
  | nil => intro p; simp [chkG]
  | cons x r ih =>
    intro p
    unfold chkG
    by_cases h1 : Ok1 x
    · rw [if_pos h1]
      by_cases h2 : x.1 ≤ p
      · rw [if_pos h2]
        refine ⟨fun h => by omega, fun h => ?_⟩
        have := (h.1 x List.mem_cons_self).2
        omega
      · rw [if_neg h2, ih]
        unfold Srt
        rw [List.pairwise_cons]
        refine ⟨fun h => ⟨fun y hy => ?_, fun y hy => (h.1 y hy).2, h.2⟩, fun h => ⟨fun y hy => ⟨(h.1 y (List.mem_cons_of_mem _ hy)).1, h.2.1 y hy⟩, h.2.2⟩⟩
        rcases List.mem_cons.1 hy with rfl | hy
        · exact ⟨h1, by omega⟩
        · have := h.1 y hy
          exact ⟨this.1, by omega⟩
    · rw [if_neg h1]
      exact ⟨fun h => by omega, fun h => absurd (h.1 x List.mem_cons_self).1 h1⟩
theorem chk_zero (t : List Rt) (self : Int) : chk t self = 0 ↔ Tab t self := by
  unfold chk Tab
  by_cases h : 24 < t.length
  · rw [if_pos h]; exact ⟨fun h => by omega, fun h2 => by omega⟩
  rw [if_neg h]
  by_cases hs : 0 ≤ self ∧ self ≤ 250
  · rw [if_neg (by simpa using hs)]
    by_cases hg : chkG (-1) t = 0
    · rw [if_neg (by simpa using hg)]
      obtain ⟨g1, g2⟩ := (chkG_zero t (-1)).1 hg
      cases hx : get t self with
      | none => rw [if_pos rfl]; exact ⟨fun h => by omega, fun h => by obtain ⟨x, hx⟩ := h.2.2.1; simp at hx⟩
      | some x =>
        rw [if_neg (by simp)]
        by_cases ho : ∀ x ∈ t, Own self x
        · rw [if_pos ho]; exact ⟨fun _ => ⟨⟨by omega, hs⟩, ⟨fun x hx => (g1 x hx).1, g2⟩, ⟨x, rfl⟩, ho⟩, fun _ => rfl⟩
        · rw [if_neg ho]; exact ⟨fun h => by omega, fun h => absurd h.2.2.2 ho⟩
    · rw [if_pos hg]
      refine ⟨fun h => absurd h hg, fun h => ?_⟩
      exact absurd ((chkG_zero t (-1)).2 ⟨fun x hx => ⟨h.2.1.1 x hx, by have := ok_dest (h.2.1.1 x hx); omega⟩, h.2.1.2⟩) hg
  · rw [if_pos hs]; exact ⟨fun h => by omega, fun h => absurd h.1.2 hs⟩

/-! New; the table that counts. -/
def nw (self : Int) : List Rt := [(lim self, 0, 0, lim self)]
theorem nw_tab (self : Int) : Tab (nw self) (lim self) := by
  have := lim_in self
  refine ⟨⟨by simp [nw], this⟩, ⟨fun x hx => ?_, by simp [nw, Srt]⟩, ⟨_, by rw [nw, get_cons, if_pos rfl]⟩, fun x hx => ?_⟩
  · obtain rfl : x = _ := by simpa [nw] using hx
    refine ⟨⟨⟨this, by simp⟩, Or.inl ⟨?_, by simp⟩⟩, fun _ => this, fun h => absurd ?_ h⟩ <;> (unfold Fin1; simp)
  · obtain rfl : x = _ := by simpa [nw] using hx
    exact ⟨fun _ => ⟨rfl, rfl⟩, fun h => absurd rfl h⟩
def tb (t : List Rt) (self : Int) : List Rt := if chk t (lim self) = 0 then t else nw self
theorem tb_tab (t : List Rt) (self : Int) : Tab (tb t self) (lim self) := by
  unfold tb
  split
  · rename_i h; exact (chk_zero _ _).1 h
  · exact nw_tab self
theorem tb_id {t : List Rt} {self : Int} (h : Tab t (lim self)) : tb t self = t := if_pos ((chk_zero _ _).2 h)

/-! A route put in its place, or over the one that is there. -/
def ins (x : Rt) : List Rt → List Rt
  | [] => [x]
  | y :: r => if y.1 < x.1 then y :: ins x r else if y.1 = x.1 then x :: r else x :: y :: r
theorem ins_mem (x : Rt) : ∀ (l : List Rt) (z : Rt), z ∈ ins x l → z = x ∨ z ∈ l := by
  intro l
  induction l with
  | nil => intro z h; simpa [ins] using h
  | cons y r ih =>
    intro z h
    unfold ins at h
    split at h
    · rcases List.mem_cons.1 h with e | h
      · exact Or.inr (by rw [e]; exact List.mem_cons_self)
      · rcases ih z h with e | h
        · exact Or.inl e
        · exact Or.inr (List.mem_cons_of_mem _ h)
    · split at h
      · rcases List.mem_cons.1 h with e | h
        · exact Or.inl e
        · exact Or.inr (List.mem_cons_of_mem _ h)
      · rcases List.mem_cons.1 h with e | h
        · exact Or.inl e
        · exact Or.inr h
theorem ins_srt (x : Rt) : ∀ l : List Rt, Srt l → Srt (ins x l) := by
  intro l
  induction l with
  | nil => intro _; simp [ins, Srt]
  | cons y r ih =>
    intro h
    obtain ⟨h1, h2⟩ := List.pairwise_cons.1 h
    unfold ins
    split
    · rename_i hlt
      refine List.pairwise_cons.2 ⟨fun z hz => ?_, ih h2⟩
      rcases ins_mem x r z hz with e | hz
      · rw [e]; exact hlt
      · exact h1 z hz
    · split
      · rename_i he
        exact List.pairwise_cons.2 ⟨fun z hz => by rw [← he]; exact h1 z hz, h2⟩
      · rename_i hn he
        refine List.pairwise_cons.2 ⟨fun z hz => ?_, h⟩
        rcases List.mem_cons.1 hz with e | hz
        · rw [e]; omega
        · have := h1 z hz; omega
theorem get_ins (x : Rt) (m : Int) : ∀ l : List Rt, get (ins x l) m = if x.1 = m then some x else get l m := by
  intro l
  induction l with
  | nil => unfold ins; rw [get_cons]
  | cons y r ih =>
    unfold ins
    split
    · rename_i hlt
      rw [get_cons, ih, get_cons]
      by_cases h1 : y.1 = m
      · rw [if_pos h1, if_neg (by omega), if_pos h1]
      · rw [if_neg h1, if_neg h1]
    · split
      · rename_i he
        rw [get_cons, get_cons]
        by_cases h1 : x.1 = m
        · rw [if_pos h1, if_pos h1]
        · rw [if_neg h1, if_neg h1, if_neg (by omega)]
      · rw [get_cons]
theorem ins_len (x : Rt) : ∀ l : List Rt, (ins x l).length ≤ l.length + 1 := by
  intro l
  induction l with
  | nil => simp [ins]
  | cons y r ih =>
    unfold ins
    split
    · simp; omega
    · split <;> simp
theorem ins_len_has (x : Rt) : ∀ l : List Rt, Srt l → (∃ y ∈ l, y.1 = x.1) → (ins x l).length = l.length := by
  intro l
  induction l with
  | nil => intro _ ⟨y, hy, _⟩; simp at hy
  | cons y r ih =>
    intro h ⟨z, hz, he⟩
    obtain ⟨h1, h2⟩ := List.pairwise_cons.1 h
    unfold ins
    split
    · rename_i hlt
      rcases List.mem_cons.1 hz with e | hz
      · rw [e] at he; omega
      · rw [List.length_cons, ih h2 ⟨z, hz, he⟩, List.length_cons]
    · split
      · simp
      · rename_i hn hq
        rcases List.mem_cons.1 hz with e | hz
        · rw [e] at he; omega
        · have := h1 z hz; omega

/-! Better; kept. -/
def Btr (a b : Rt) : Prop := b.2.1 < a.2.1 ∨ (a.2.1 = b.2.1 ∧ a.2.2.1 < b.2.2.1)
instance (a b : Rt) : Decidable (Btr a b) := by unfold Btr; infer_instance
theorem btr_trans {a b c : Rt} (h1 : Btr a b) (h2 : Btr b c) : Btr a c := by unfold Btr at *; omega
/-- The same or better, for each destination. -/
def Kept (t u : List Rt) : Prop := ∀ m x, get t m = some x → ∃ y, get u m = some y ∧ (y = x ∨ Btr y x)
theorem kept_refl (t : List Rt) : Kept t t := fun m x h => ⟨x, h, Or.inl rfl⟩
theorem kept_trans {t u v : List Rt} (h1 : Kept t u) (h2 : Kept u v) : Kept t v := fun m x h => by
  obtain ⟨y, hy, ey⟩ := h1 m x h
  obtain ⟨z, hz, ez⟩ := h2 m y hy
  refine ⟨z, hz, ?_⟩
  rcases ey with rfl | ey
  · exact ez
  · rcases ez with rfl | ez
    · exact Or.inr ey
    · exact Or.inr (btr_trans ez ey)
theorem ins_kept (x : Rt) (t : List Rt) (h : ∀ y, get t x.1 = some y → x = y ∨ Btr x y) : Kept t (ins x t) := fun m y hy => by
  rw [get_ins]
  by_cases e : x.1 = m
  · rw [if_pos e]; exact ⟨x, rfl, h y (by rw [e]; exact hy)⟩
  · rw [if_neg e]; exact ⟨y, hy, Or.inl rfl⟩
/-- A change of each route that keeps its destination. -/
theorem get_map (f : Rt → Rt) (hf : ∀ x, (f x).1 = x.1) (m : Int) : ∀ t : List Rt, get (t.map f) m = (get t m).map f := by
  intro t
  induction t with
  | nil => rfl
  | cons a r ih =>
    rw [List.map_cons, get_cons, get_cons, hf, ih]
    by_cases e : a.1 = m
    · rw [if_pos e, if_pos e]; rfl
    · rw [if_neg e, if_neg e]
theorem map_srt (f : Rt → Rt) (hf : ∀ x, (f x).1 = x.1) {t : List Rt} (h : Srt t) : Srt (t.map f) := List.pairwise_map.2 (h.imp fun {a b} hab => by rw [hf, hf]; exact hab)
theorem map_kept (f : Rt → Rt) (hf : ∀ x, (f x).1 = x.1) (t : List Rt) (h : ∀ x ∈ t, f x = x ∨ Btr (f x) x) : Kept t (t.map f) := fun m x hx =>
  ⟨f x, by rw [get_map f hf, hx]; rfl, h x (get_mem hx).1⟩
theorem map_tab (f : Rt → Rt) (hf : ∀ x, (f x).1 = x.1) {t : List Rt} {self : Int} (h : Tab t self) (ho : ∀ x ∈ t, Ok1 (f x) ∧ Own self (f x)) : Tab (t.map f) self := by
  obtain ⟨h1, h2, ⟨x, hx⟩, h4⟩ := h
  refine ⟨⟨by rw [List.length_map]; exact h1.1, h1.2⟩, ⟨fun y hy => ?_, map_srt f hf h2.2⟩, ⟨f x, by rw [get_map f hf, hx]; rfl⟩, fun y hy => ?_⟩
  · obtain ⟨z, hz, rfl⟩ := List.mem_map.1 hy; exact (ho z hz).1
  · obtain ⟨z, hz, rfl⟩ := List.mem_map.1 hy; exact (ho z hz).2
theorem ins_tab {t : List Rt} {self : Int} (h : Tab t self) (x : Rt) (hx : Ok1 x) (ho : Own self x) (hl : (∃ y, get t x.1 = some y) ∨ t.length < 24) : Tab (ins x t) self := by
  obtain ⟨h1, h2, ⟨y, hy⟩, h4⟩ := h
  refine ⟨⟨?_, h1.2⟩, ⟨fun z hz => ?_, ins_srt x t h2.2⟩, ?_, fun z hz => ?_⟩
  · rcases hl with ⟨z, hz⟩ | hl
    · rw [ins_len_has x t h2.2 ⟨z, (get_mem hz).1, (get_mem hz).2⟩]; exact h1.1
    · have := ins_len x t; omega
  · rcases ins_mem x t z hz with rfl | hz
    · exact hx
    · exact h2.1 z hz
  · rw [get_ins]
    by_cases e : x.1 = self
    · rw [if_pos e]; exact ⟨x, rfl⟩
    · rw [if_neg e]; exact ⟨y, hy⟩
  · rcases ins_mem x t z hz with rfl | hz
    · exact ho
    · exact h4 z hz

/-! Bump. -/
def bmpF (self : Int) (x : Rt) : Rt := if x.1 = self ∧ x.2.1 < 65534 then (x.1, x.2.1 + 2, x.2.2.1, x.2.2.2) else x
def bmp (t : List Rt) (self : Int) : List Rt := (tb t self).map (bmpF (lim self))
theorem bmpF_dest (self : Int) (x : Rt) : (bmpF self x).1 = x.1 := by unfold bmpF; split <;> rfl
theorem bmpF_ok {self : Int} {x : Rt} (h : Ok1 x) (ho : Own self x) : Ok1 (bmpF self x) ∧ Own self (bmpF self x) := by
  unfold bmpF
  split
  · rename_i hc
    refine ⟨?_, ho⟩
    have hz := ho.1 hc.1
    obtain ⟨x1, x2, x3, x4⟩ := x
    unfold Ok1 Us1 Fin1 at *
    dsimp only at *
    omega
  · exact ⟨h, ho⟩
theorem bmp_tab (t : List Rt) (self : Int) : Tab (bmp t self) (lim self) :=
  map_tab _ (bmpF_dest _) (tb_tab t self) fun x hx => bmpF_ok ((tb_tab t self).2.1.1 x hx) ((tb_tab t self).2.2.2 x hx)
theorem bmp_kept (t : List Rt) (self : Int) : Kept (tb t self) (bmp t self) :=
  map_kept _ (bmpF_dest _) _ fun x hx => by
    unfold bmpF
    split
    · exact Or.inr (Or.inl (by show x.2.1 < x.2.1 + 2; omega))
    · exact Or.inl rfl

/-! Break. -/
def brkF (self next : Int) (x : Rt) : Rt := if x.2.2.2 = next ∧ x.1 ≠ self then (x.1, x.2.1 + 1, 255, 255) else x
def brk (t : List Rt) (self next : Int) : List Rt := if 0 ≤ next ∧ next ≤ 250 then (tb t self).map (brkF (lim self) next) else tb t self
theorem brkF_dest (self next : Int) (x : Rt) : (brkF self next x).1 = x.1 := by unfold brkF; split <;> rfl
theorem brkF_ok {self next : Int} (hs : 0 ≤ self ∧ self ≤ 250) (hn : 0 ≤ next ∧ next ≤ 250) {x : Rt} (h : Ok1 x) (ho : Own self x) : Ok1 (brkF self next x) ∧ Own self (brkF self next x) := by
  unfold brkF
  split
  · rename_i hc
    obtain ⟨x1, x2, x3, x4⟩ := x
    unfold Ok1 Us1 Fin1 Own at *
    dsimp only at *
    omega
  · exact ⟨h, ho⟩
theorem brk_tab (t : List Rt) (self next : Int) : Tab (brk t self next) (lim self) := by
  unfold brk
  split
  · rename_i hn
    exact map_tab _ (brkF_dest _ _) (tb_tab t self) fun x hx => brkF_ok (lim_in self) hn ((tb_tab t self).2.1.1 x hx) ((tb_tab t self).2.2.2 x hx)
  · exact tb_tab t self
theorem brk_kept (t : List Rt) (self next : Int) : Kept (tb t self) (brk t self next) := by
  unfold brk
  split
  · exact map_kept _ (brkF_dest _ _) _ fun x hx => by
      unfold brkF
      split
      · exact Or.inr (Or.inl (by show x.2.1 < x.2.1 + 1; omega))
      · exact Or.inl rfl
  · exact kept_refl _

/-! Update. -/
def apl (frm cost : Int) (t : List Rt) (x : Rt) : List Rt :=
  if Fin1 x ∧ cost + x.2.2.1 ≤ 200 then
    match get t x.1 with
    | none => if t.length < 24 then ins (x.1, x.2.1, cost + x.2.2.1, frm) t else t
    | some y => if Btr (x.1, x.2.1, cost + x.2.2.1, frm) y then ins (x.1, x.2.1, cost + x.2.2.1, frm) t else t
  else
    match get t x.1 with
    | none => t
    | some y => if y.2.2.2 = frm ∧ y.2.1 < x.2.1 then ins (x.1, x.2.1, 255, 255) t else t
def aplU (self frm cost : Int) (t : List Rt) (x : Rt) : List Rt := if Us1 x ∧ x.1 ≠ self then apl frm cost t x else t
def upd (t : List Rt) (self frm cost : Int) (adv : List Rt) : List Rt :=
  if ((0 ≤ frm ∧ frm ≤ 250) ∧ frm ≠ lim self) ∧ (1 ≤ cost ∧ cost ≤ 200) then adv.foldl (aplU (lim self) frm cost) (tb t self) else tb t self
/-- What a step of Update does: nothing, or one route is put that is new or better. -/
theorem aplU_is (self frm cost : Int) (t : List Rt) (x : Rt) : aplU self frm cost t x = t ∨
    ∃ z, aplU self frm cost t x = ins z t ∧ z.1 = x.1 ∧ z.2.1 = x.2.1 ∧ (Us1 x ∧ x.1 ≠ self) ∧ ((∃ y, get t x.1 = some y ∧ Btr z y) ∨ (get t x.1 = none ∧ t.length < 24)) ∧
      ((Fin1 x ∧ cost + x.2.2.1 ≤ 200 ∧ z.2.2.1 = cost + x.2.2.1 ∧ z.2.2.2 = frm) ∨ (z.2.2.1 = 255 ∧ z.2.2.2 = 255)) := by
  unfold aplU
  split
  · rename_i hu
    unfold apl
    split
    · rename_i hf
      cases hg : get t x.1 with
      | none =>
        dsimp only
        split
        · rename_i hl; exact Or.inr ⟨_, rfl, rfl, rfl, hu, Or.inr ⟨rfl, hl⟩, Or.inl ⟨hf.1, hf.2, rfl, rfl⟩⟩
        · exact Or.inl rfl
      | some y =>
        dsimp only
        split
        · rename_i hb; exact Or.inr ⟨_, rfl, rfl, rfl, hu, Or.inl ⟨y, rfl, hb⟩, Or.inl ⟨hf.1, hf.2, rfl, rfl⟩⟩
        · exact Or.inl rfl
    · cases hg : get t x.1 with
      | none => exact Or.inl rfl
      | some y =>
        dsimp only
        split
        · rename_i hb; exact Or.inr ⟨_, rfl, rfl, rfl, hu, Or.inl ⟨y, rfl, Or.inl hb.2⟩, Or.inr ⟨rfl, rfl⟩⟩
        · exact Or.inl rfl
  · exact Or.inl rfl
theorem aplU_tab {self frm cost : Int} (hf : (0 ≤ frm ∧ frm ≤ 250) ∧ frm ≠ self) (hc : 1 ≤ cost ∧ cost ≤ 200) {t : List Rt} (h : Tab t self) (x : Rt) : Tab (aplU self frm cost t x) self := by
  rcases aplU_is self frm cost t x with e | ⟨z, e, e1, e2, hu, hg, hz⟩
  · rw [e]; exact h
  · rw [e]
    have hs := h.1.2
    refine ins_tab h z ?_ ?_ ?_
    · obtain ⟨z1, z2, z3, z4⟩ := z
      obtain ⟨x1, x2, x3, x4⟩ := x
      unfold Ok1 Us1 Fin1 at *
      dsimp only at *
      omega
    · obtain ⟨z1, z2, z3, z4⟩ := z
      obtain ⟨x1, x2, x3, x4⟩ := x
      unfold Own
      unfold Us1 Fin1 at *
      dsimp only at *
      omega
    · rw [e1]
      rcases hg with ⟨y, hy, _⟩ | ⟨_, hl⟩
      · exact Or.inl ⟨y, hy⟩
      · exact Or.inr hl
theorem aplU_kept (self frm cost : Int) (t : List Rt) (x : Rt) : Kept t (aplU self frm cost t x) := by
  rcases aplU_is self frm cost t x with e | ⟨z, e, e1, e2, hu, hg, hz⟩
  · rw [e]; exact kept_refl t
  · rw [e]
    refine ins_kept z t fun y hy => ?_
    rw [e1] at hy
    rcases hg with ⟨y', hy', hb⟩ | ⟨hn, _⟩
    · rw [hy] at hy'; obtain rfl : y = y' := by simpa using hy'
      exact Or.inr hb
    · rw [hy] at hn; simp at hn
theorem upd_tab (t : List Rt) (self frm cost : Int) (adv : List Rt) : Tab (upd t self frm cost adv) (lim self) := by
  unfold upd
  split
  · rename_i h
    have hT := tb_tab t self
    generalize tb t self = u at hT
    induction adv generalizing u with
    | nil => exact hT
    | cons x r ih => exact ih _ (aplU_tab h.1 h.2 hT x)
  · exact tb_tab t self
theorem upd_kept (t : List Rt) (self frm cost : Int) (adv : List Rt) : Kept (tb t self) (upd t self frm cost adv) := by
  unfold upd
  split
  · generalize tb t self = u
    induction adv generalizing u with
    | nil => exact kept_refl u
    | cons x r ih => exact kept_trans (aplU_kept _ _ _ u x) (ih _)
  · exact kept_refl _
/-- Where a route of the result comes from. -/
theorem upd_from (t : List Rt) (self frm cost : Int) (adv : List Rt) (hc : 1 ≤ cost) : ∀ m x, get (upd t self frm cost adv) m = some x → Fin1 x → get (tb t self) m = some x ∨
    (((0 ≤ frm ∧ frm ≤ 250) ∧ frm ≠ lim self) ∧ x.2.2.2 = frm ∧ m ≠ lim self ∧ ∃ y ∈ adv, y.1 = m ∧ y.2.1 = x.2.1 ∧ Fin1 y ∧ y.2.2.1 < x.2.2.1) := by
  unfold upd
  split
  · rename_i h
    have key : ∀ (adv' : List Rt) (u : List Rt), (∀ y ∈ adv', y ∈ adv) → (∀ m x, get u m = some x → Fin1 x → get (tb t self) m = some x ∨ (((0 ≤ frm ∧ frm ≤ 250) ∧ frm ≠ lim self) ∧ x.2.2.2 = frm ∧ m ≠ lim self ∧ ∃ y ∈ adv, y.1 = m ∧ y.2.1 = x.2.1 ∧ Fin1 y ∧ y.2.2.1 < x.2.2.1)) →
        ∀ m x, get (adv'.foldl (aplU (lim self) frm cost) u) m = some x → Fin1 x → get (tb t self) m = some x ∨ (((0 ≤ frm ∧ frm ≤ 250) ∧ frm ≠ lim self) ∧ x.2.2.2 = frm ∧ m ≠ lim self ∧ ∃ y ∈ adv, y.1 = m ∧ y.2.1 = x.2.1 ∧ Fin1 y ∧ y.2.2.1 < x.2.2.1) := by
      intro adv'
      induction adv' with
      | nil => exact fun u _ hu => hu
      | cons a r ih =>
        intro u ha hu
        refine ih _ (fun y hy => ha y (List.mem_cons_of_mem _ hy)) fun m x hx hf => ?_
        rcases aplU_is (lim self) frm cost u a with e | ⟨z, e, e1, e2, hus, hg, hz⟩
        · rw [e] at hx; exact hu m x hx hf
        · rw [e, get_ins] at hx
          by_cases em : z.1 = m
          · rw [if_pos em] at hx
            obtain rfl : z = x := by simpa using hx
            rcases hz with ⟨h1, h2, h3, h4⟩ | ⟨h1, h2⟩
            · exact Or.inr ⟨h.1, h4, by rw [← em, e1]; exact hus.2, a, ha a List.mem_cons_self, by rw [← em, e1], e2.symm, h1, by omega⟩
            · unfold Fin1 at hf; omega
          · rw [if_neg em] at hx; exact hu m x hx hf
    exact key adv (tb t self) (fun y hy => hy) fun m x hx _ => Or.inl hx
  · exact fun m x hx _ => Or.inl hx

/-! Hop. -/
def hop (t : List Rt) (d : Int) : Int × Bool := match get t d with
  | none => (0, false)
  | some x => if Fin1 x then (x.2.2.2, true) else (0, false)
/-! No loops. -/
/-- What six nodes hold: tables; and along each finite route the next node holds a better one. -/
def Net (N : Nat → List Rt) : Prop := ∀ a, a < 6 → Tab (N a) (a : Int) ∧ ∀ m x, get (N a) m = some x → Fin1 x → m ≠ (a : Int) →
  ∃ b : Nat, b < 6 ∧ x.2.2.2 = (b : Int) ∧ ∃ y, get (N b) m = some y ∧ Btr y x
/-- What they held before: never better than what they hold. -/
def Old (P N : Nat → List Rt) : Prop := ∀ a, a < 6 → Tab (P a) (a : Int) ∧ Kept (P a) (N a)
def setN (N : Nat → List Rt) (a : Nat) (u : List Rt) : Nat → List Rt := fun b => if b = a then u else N b
theorem setN_at (N : Nat → List Rt) (a : Nat) (u : List Rt) : setN N a u a = u := if_pos rfl
theorem setN_ne (N : Nat → List Rt) {a b : Nat} (u : List Rt) (h : b ≠ a) : setN N a u b = N b := if_neg h
theorem setN_kept {N : Nat → List Rt} {a : Nat} {u : List Rt} (hk : Kept (N a) u) (b : Nat) : Kept (N b) (setN N a u b) := by
  by_cases h : b = a
  · subst h; rw [setN_at]; exact hk
  · rw [setN_ne N u h]; exact kept_refl _
theorem net_old {N : Nat → List Rt} (h : Net N) : Old N N := fun a ha => ⟨(h a ha).1, kept_refl _⟩
theorem old_step {P N : Nat → List Rt} (h : Old P N) {a : Nat} {u : List Rt} (hk : Kept (N a) u) : Old P (setN N a u) := fun b hb => ⟨(h b hb).1, kept_trans (h b hb).2 (setN_kept hk b)⟩
theorem lim_nat {a : Nat} (h : a < 6) : lim (a : Int) = (a : Int) := lim_id (by omega)
theorem net_start : Net fun a => nw (a : Int) := fun a ha => by
  have e := lim_nat ha
  refine ⟨by have := nw_tab (a : Int); rw [e] at this; exact this, fun m x hx hf hm => ?_⟩
  unfold nw at hx
  rw [get_cons, e, if_neg (by intro h; exact hm h.symm), get_nil] at hx
  simp at hx
theorem net_step {N : Nat → List Rt} (hN : Net N) {a : Nat} (ha : a < 6) {u : List Rt} (hu : Tab u (a : Int)) (hk : Kept (N a) u)
    (hf : ∀ m x, get u m = some x → Fin1 x → m ≠ (a : Int) → get (N a) m = some x ∨ ∃ b : Nat, b < 6 ∧ x.2.2.2 = (b : Int) ∧ ∃ y, get (N b) m = some y ∧ Btr y x) : Net (setN N a u) := by
  have up : ∀ m x, (∃ b : Nat, b < 6 ∧ x.2.2.2 = (b : Int) ∧ ∃ y, get (N b) m = some y ∧ Btr y x) → ∃ b : Nat, b < 6 ∧ x.2.2.2 = (b : Int) ∧ ∃ y, get (setN N a u b) m = some y ∧ Btr y x := by
    intro m x ⟨b, hb, hn, y, hy, hyx⟩
    obtain ⟨z, hz, e⟩ := setN_kept hk b m y hy
    refine ⟨b, hb, hn, z, hz, ?_⟩
    rcases e with rfl | e
    · exact hyx
    · exact btr_trans e hyx
  intro c hc
  by_cases e : c = a
  · subst e
    rw [setN_at]
    refine ⟨hu, fun m x hx hfx hm => up m x ?_⟩
    rcases hf m x hx hfx hm with h | h
    · exact (hN c hc).2 m x h hfx hm
    · exact h
  · rw [setN_ne N u e]
    exact ⟨(hN c hc).1, fun m x hx hfx hm => up m x ((hN c hc).2 m x hx hfx hm)⟩
theorem tb_net {N : Nat → List Rt} (hN : Net N) {a : Nat} (ha : a < 6) : tb (N a) (a : Int) = N a := tb_id (by rw [lim_nat ha]; exact (hN a ha).1)
theorem bmp_keeps {N : Nat → List Rt} (hN : Net N) {a : Nat} (ha : a < 6) : Kept (N a) (bmp (N a) (a : Int)) := by
  have := bmp_kept (N a) (a : Int); rw [tb_net hN ha] at this; exact this
theorem brk_keeps {N : Nat → List Rt} (hN : Net N) {a : Nat} (ha : a < 6) (n : Int) : Kept (N a) (brk (N a) (a : Int) n) := by
  have := brk_kept (N a) (a : Int) n; rw [tb_net hN ha] at this; exact this
theorem upd_keeps {N : Nat → List Rt} (hN : Net N) {a : Nat} (ha : a < 6) (f c : Int) (l : List Rt) : Kept (N a) (upd (N a) (a : Int) f c l) := by
  have := upd_kept (N a) (a : Int) f c l; rw [tb_net hN ha] at this; exact this
theorem net_bmp {N : Nat → List Rt} (hN : Net N) {a : Nat} (ha : a < 6) : Net (setN N a (bmp (N a) (a : Int))) := by
  refine net_step hN ha (by have := bmp_tab (N a) (a : Int); rw [lim_nat ha] at this; exact this) (bmp_keeps hN ha) fun m x hx hf hm => Or.inl ?_
  unfold bmp at hx
  rw [tb_net hN ha, get_map _ (bmpF_dest _)] at hx
  cases h : get (N a) m with
  | none => rw [h] at hx; simp at hx
  | some y =>
    rw [h] at hx
    have e : bmpF (lim (a : Int)) y = y := if_neg (by rw [lim_nat ha, (get_mem h).2]; exact fun h => hm h.1)
    rw [Option.map_some, e] at hx
    exact hx
theorem net_brk {N : Nat → List Rt} (hN : Net N) {a : Nat} (ha : a < 6) (n : Int) : Net (setN N a (brk (N a) (a : Int) n)) := by
  refine net_step hN ha (by have := brk_tab (N a) (a : Int) n; rw [lim_nat ha] at this; exact this) (brk_keeps hN ha n) fun m x hx hf hm => Or.inl ?_
  unfold brk at hx
  rw [tb_net hN ha] at hx
  split at hx
  · rw [get_map _ (brkF_dest _ _)] at hx
    cases h : get (N a) m with
    | none => rw [h] at hx; simp at hx
    | some y =>
      rw [h, Option.map_some] at hx
      unfold brkF at hx
      split at hx
      · obtain rfl : _ = x := by simpa using hx
        unfold Fin1 at hf
        dsimp only at hf
        omega
      · exact hx
  · exact hx
theorem net_upd {P N : Nat → List Rt} (hN : Net N) (hP : Old P N) {a b : Nat} (ha : a < 6) (hb : b < 6) (c : Int) : Net (setN N a (upd (N a) (a : Int) (b : Int) c (P b))) := by
  refine net_step hN ha (by have := upd_tab (N a) (a : Int) b c (P b); rw [lim_nat ha] at this; exact this) (upd_keeps hN ha _ _ _) fun m x hx hf hm => ?_
  by_cases hc : 1 ≤ c
  · rcases upd_from (N a) (a : Int) b c (P b) hc m x hx hf with h | ⟨hr, hn, hd, y, hy, y1, y2, y3, y4⟩
    · rw [tb_net hN ha] at h; exact Or.inl h
    · have hg : get (P b) m = some y := by rw [← y1]; exact get_of (hP b hb).1.2.1.2 hy
      obtain ⟨z, hz, e⟩ := (hP b hb).2 m y hg
      refine Or.inr ⟨b, hb, hn, z, hz, ?_⟩
      have hyx : Btr y x := Or.inr ⟨y2, y4⟩
      rcases e with rfl | e
      · exact hyx
      · exact btr_trans e hyx
  · unfold upd at hx
    rw [if_neg (by omega), tb_net hN ha] at hx
    exact Or.inl hx
/-- A walk along next hops: i nodes lie behind it, each with a worse route. -/
def Walk (N : Nat → List Rt) (d : Int) (i at' : Nat) : Prop := at' < 6 ∧ ∃ L : List Nat, L.length = i ∧ L.Nodup ∧ ∀ v ∈ L, v < 6 ∧ ∃ x y, get (N v) d = some x ∧ get (N at') d = some y ∧ Btr y x
theorem walk_start (N : Nat → List Rt) (d : Int) {a : Nat} (h : a < 6) : Walk N d 0 a := ⟨h, [], rfl, List.nodup_nil, fun v hv => by simp at hv⟩
theorem few : ∀ (k : Nat) (L : List Nat), L.Nodup → (∀ v ∈ L, v < k) → L.length ≤ k
  | 0, L, _, h => by
    cases L with
    | nil => exact Nat.le_refl 0
    | cons x r => have := h x List.mem_cons_self; omega
  | k + 1, L, hn, h => by
    by_cases hk : k ∈ L
    · have := few k (L.erase k) (hn.erase k) fun v hv => by
        obtain ⟨h1, h2⟩ := hn.mem_erase_iff.1 hv
        have := h v h2; omega
      have := List.length_erase_of_mem hk
      omega
    · have := few k L hn fun v hv => by
        have := h v hv
        have : v ≠ k := fun e => hk (by rw [← e]; exact hv)
        omega
      omega
theorem walk_new {N : Nat → List Rt} {d : Int} {i at' : Nat} (h : Walk N d i at') : i ≤ 5 := by
  obtain ⟨ha, L, rfl, hn, hL⟩ := h
  have hat : at' ∉ L := fun hm => by
    obtain ⟨_, x, y, hx, hy, hb⟩ := hL at' hm
    rw [hx] at hy; obtain rfl : x = y := by simpa using hy
    unfold Btr at hb; omega
  have := few 6 (at' :: L) (List.nodup_cons.2 ⟨hat, hn⟩) fun v hv => by
    rcases List.mem_cons.1 hv with e | hv
    · rw [e]; exact ha
    · exact (hL v hv).1
  rw [List.length_cons] at this
  omega
theorem walk_hop {N : Nat → List Rt} (hN : Net N) {d : Int} {i at' : Nat} (h : Walk N d i at') (hd : (at' : Int) ≠ d) {n : Int} (hh : hop (N at') d = (n, true)) : ∃ b : Nat, b < 6 ∧ n = (b : Int) ∧ b ≠ at' ∧ Walk N d (i + 1) b := by
  obtain ⟨ha, L, hl, hn, hL⟩ := h
  have hw : Walk N d i at' := ⟨ha, L, hl, hn, hL⟩
  unfold hop at hh
  cases hg : get (N at') d with
  | none => rw [hg] at hh; simp at hh
  | some x =>
    rw [hg] at hh
    dsimp only at hh
    by_cases hf : Fin1 x
    · rw [if_pos hf] at hh
      obtain ⟨b, hb, hn', y, hy, hb'⟩ := (hN at' ha).2 d x hg hf (fun e => hd e.symm)
      have hne : b ≠ at' := fun e => by
        subst e
        rw [hg] at hy; obtain rfl : x = y := by simpa using hy
        unfold Btr at hb'; omega
      have hat : at' ∉ L := fun hm => by
        obtain ⟨_, x, y, hx, hy, hb⟩ := hL at' hm
        rw [hx] at hy; obtain rfl : x = y := by simpa using hy
        unfold Btr at hb; omega
      refine ⟨b, hb, ?_, hne, hb, at' :: L, by rw [List.length_cons, hl], List.nodup_cons.2 ⟨hat, hn⟩, fun v hv => ?_⟩
      · have : x.2.2.2 = n := by simpa using hh
        omega
      · rcases List.mem_cons.1 hv with rfl | hv
        · exact ⟨ha, x, y, hg, hy, hb'⟩
        · obtain ⟨h1, p, q, hp, hq, hpq⟩ := hL v hv
          rw [hg] at hq; obtain rfl : x = q := by simpa using hq
          exact ⟨h1, p, y, hp, hy, btr_trans hb' hpq⟩
    · rw [if_neg hf] at hh; simp at hh
/-! Bytes. -/
def u8 (n : Int) : UInt8 := UInt8.ofNat n.toNat
theorem u8_nat (n : Int) (h : 0 ≤ n ∧ n < 256) : ((u8 n).toNat : Int) = n := by
  unfold u8; rw [UInt8.toNat_ofNat']; omega
theorem u8_self (c : UInt8) : u8 (c.toNat : Int) = c := by
  unfold u8; rw [Int.toNat_natCast]; exact UInt8.ofNat_toNat
/-- Four bytes of a route. -/
def e4 (x : Rt) : List UInt8 := [u8 x.1, u8 (x.2.1 / 256), u8 (x.2.1 % 256), u8 x.2.2.1]
def enc (t : List Rt) : List UInt8 := ((t.filter fun x => decide (Us1 x)).take 24).flatMap e4
def rd4 (a b c e : UInt8) : Rt := ((a.toNat : Int), (b.toNat : Int) * 256 + (c.toNat : Int), (e.toNat : Int), 255)
/-- The routes in bytes, four by four. -/
def rts : List UInt8 → List Rt
  | a :: b :: c :: e :: r => rd4 a b c e :: rts r
  | _ => []
def chkD (p : Int) : List Rt → Int
  | [] => 0
  | x :: r => if Us1 x then (if x.1 ≤ p then 14 else chkD x.1 r) else 2
def dec (l : List UInt8) : List Rt × Int :=
  if l.length % 4 ≠ 0 then ([], 5) else if 96 < l.length then ([], 3) else if chkD (-1) (rts l) = 0 then (rts l, 0) else ([], chkD (-1) (rts l))
/-- A route as it is advertised. -/
def nx (x : Rt) : Rt := (x.1, x.2.1, x.2.2.1, 255)
theorem rd_e4 (x : Rt) (h : Us1 x) : rd4 (u8 x.1) (u8 (x.2.1 / 256)) (u8 (x.2.1 % 256)) (u8 x.2.2.1) = nx x := by
  have h3 : 0 ≤ x.2.2.1 ∧ x.2.2.1 < 256 := by unfold Us1 Fin1 at h; omega
  unfold rd4 nx
  rw [u8_nat _ (by have := h.1.1; omega), u8_nat _ (by have := h.1.2; omega), u8_nat _ (by omega), u8_nat _ h3]
  congr 2
  omega
theorem e4_rd (a b c e : UInt8) : e4 (rd4 a b c e) = [a, b, c, e] := by
  have hb := b.toNat_lt
  have hc := c.toNat_lt
  have h1 : ((b.toNat : Int) * 256 + (c.toNat : Int)) / 256 = (b.toNat : Int) := by omega
  have h2 : ((b.toNat : Int) * 256 + (c.toNat : Int)) % 256 = (c.toNat : Int) := by omega
  unfold e4 rd4
  dsimp only
  rw [h1, h2, u8_self, u8_self, u8_self, u8_self]
theorem rts_enc : ∀ t : List Rt, (∀ x ∈ t, Us1 x) → rts (t.flatMap e4) = t.map nx := by
  intro t
  induction t with
  | nil => intro _; rfl
  | cons x r ih =>
    intro h
    rw [List.flatMap_cons, List.map_cons, ← ih fun y hy => h y (List.mem_cons_of_mem _ hy), ← rd_e4 x (h x List.mem_cons_self)]
    rfl
theorem rts_back : ∀ (k : Nat) (l : List UInt8), l.length = 4 * k → (rts l).flatMap e4 = l ∧ (rts l).length = k
  | 0, l, h => by
    obtain rfl : l = [] := List.eq_nil_of_length_eq_zero (by omega)
    exact ⟨rfl, rfl⟩
  | k + 1, l, h => by
    match l, h with
    | a :: b :: c :: e :: r, h =>
      obtain ⟨h1, h2⟩ := rts_back k r (by simp at h; omega)
      refine ⟨?_, by unfold rts; rw [List.length_cons, h2]⟩
      unfold rts
      rw [List.flatMap_cons, e4_rd, h1]
      rfl
theorem chkD_zero (l : List Rt) : ∀ p, chkD p l = 0 ↔ (∀ x ∈ l, Us1 x ∧ p < x.1) ∧ Srt l := by
  induction l with
  | nil => intro p; simp [chkD]
  | cons x r ih =>
    intro p
    unfold chkD
    by_cases h1 : Us1 x
    · rw [if_pos h1]
      by_cases h2 : x.1 ≤ p
      · rw [if_pos h2]
        refine ⟨fun h => by omega, fun h => ?_⟩
        have := (h.1 x List.mem_cons_self).2
        omega
      · rw [if_neg h2, ih]
        unfold Srt
        rw [List.pairwise_cons]
        refine ⟨fun h => ⟨fun y hy => ?_, fun y hy => (h.1 y hy).2, h.2⟩, fun h => ⟨fun y hy => ⟨(h.1 y (List.mem_cons_of_mem _ hy)).1, h.2.1 y hy⟩, h.2.2⟩⟩
        rcases List.mem_cons.1 hy with rfl | hy
        · exact ⟨h1, by omega⟩
        · have := h.1 y hy
          exact ⟨this.1, by omega⟩
    · rw [if_neg h1]
      exact ⟨fun h => by omega, fun h => absurd (h.1 x List.mem_cons_self).1 h1⟩
theorem us_nx (x : Rt) : Us1 (nx x) ↔ Us1 x := Iff.rfl
theorem filter_us {t : List Rt} (h : ∀ x ∈ t, Us1 x) : (t.filter fun x => decide (Us1 x)) = t := List.filter_eq_self.2 fun x hx => by simpa using h x hx
theorem enc_len_le (t : List Rt) : (enc t).length ≤ 96 := by
  have : ∀ u : List Rt, (u.flatMap e4).length = 4 * u.length := fun u => by
    induction u with
    | nil => rfl
    | cons x r ih => rw [List.flatMap_cons, List.length_append, ih, List.length_cons]; show 4 + _ = _; omega
  unfold enc
  rw [this, List.length_take]
  omega
theorem dec_enc {t : List Rt} {self : Int} (h : Tab t self) : dec (enc t) = (t.map nx, 0) := by
  have hu : ∀ x ∈ t, Us1 x := fun x hx => (h.2.1.1 x hx).1
  have e : enc t = t.flatMap e4 := by unfold enc; rw [filter_us hu, List.take_of_length_le h.1.1]
  have hl : (t.flatMap e4).length = 4 * t.length := by
    clear e h hu
    induction t with
    | nil => rfl
    | cons x r ih => rw [List.flatMap_cons, List.length_append, ih, List.length_cons]; show 4 + _ = _; omega
  have hz : chkD (-1) (t.map nx) = 0 := (chkD_zero _ _).2 ⟨fun y hy => by
    obtain ⟨x, hx, rfl⟩ := List.mem_map.1 hy
    exact ⟨hu x hx, by have := (hu x hx).1.1.1; show -1 < x.1; omega⟩, map_srt nx (fun _ => rfl) h.2.1.2⟩
  unfold dec
  rw [e, rts_enc t hu, hz, if_neg (by omega), if_neg (by have := h.1.1; omega), if_pos rfl]
theorem enc_dec (l : List UInt8) (h : (dec l).2 = 0) : enc (dec l).1 = l := by
  unfold dec at h ⊢
  by_cases h4 : l.length % 4 = 0
  · rw [if_neg (by omega)] at h ⊢
    by_cases h96 : 96 < l.length
    · rw [if_pos h96] at h; simp at h
    · rw [if_neg h96] at h ⊢
      by_cases hc : chkD (-1) (rts l) = 0
      · rw [if_pos hc]
        obtain ⟨h1, h2⟩ := rts_back (l.length / 4) l (by omega)
        have hu : ∀ x ∈ rts l, Us1 x := fun x hx => (((chkD_zero _ _).1 hc).1 x hx).1
        show enc (rts l) = l
        unfold enc
        rw [filter_us hu, List.take_of_length_le (by omega), h1]
      · rw [if_neg hc] at h; exact absurd h hc
  · rw [if_pos (by omega)] at h; simp at h
/-- The next route in the bytes that are left. -/
theorem rts_at (l : List UInt8) (i : Nat) (h : i + 3 < l.length) : rts (l.drop i) = rd4 (l.getD i 0) (l.getD (i + 1) 0) (l.getD (i + 2) 0) (l.getD (i + 3) 0) :: rts (l.drop (i + 4)) := by
  have g : ∀ j (hj : j < l.length), l.getD j 0 = l[j] := fun j hj => by simp [hj]
  rw [g i (by omega), g (i + 1) (by omega), g (i + 2) (by omega), g (i + 3) h]
  rw [List.drop_eq_getElem_cons (show i < l.length by omega), List.drop_eq_getElem_cons (show i + 1 < l.length by omega), List.drop_eq_getElem_cons (show i + 1 + 1 < l.length by omega), List.drop_eq_getElem_cons (show i + 1 + 1 + 1 < l.length by omega)]
  rfl
/-- One more route of the list that is encoded. -/
theorem enc_yes (t : List Rt) (i : Nat) (h : i < t.length) (hu : Us1 t[i]) (hl : (enc (t.take i)).length < 96) : enc (t.take (i + 1)) = enc (t.take i) ++ e4 t[i] := by
  have hlen : ∀ u : List Rt, (u.flatMap e4).length = 4 * u.length := fun u => by
    induction u with
    | nil => rfl
    | cons x r ih => rw [List.flatMap_cons, List.length_append, ih, List.length_cons]; show 4 + _ = _; omega
  unfold enc at hl ⊢
  rw [hlen, List.length_take] at hl
  have e : t.take (i + 1) = t.take i ++ [t[i]] := by rw [List.take_succ_eq_append_getElem h]
  rw [e, List.filter_append]
  have e2 : ([t[i]].filter fun x => decide (Us1 x)) = [t[i]] := by simp [hu]
  have e3 : ((t.take i).filter fun x => decide (Us1 x)).take 24 = (t.take i).filter fun x => decide (Us1 x) := List.take_of_length_le (by omega)
  have e4' : (((t.take i).filter fun x => decide (Us1 x)) ++ [t[i]]).take 24 = ((t.take i).filter fun x => decide (Us1 x)) ++ [t[i]] := List.take_of_length_le (by rw [List.length_append]; simp; omega)
  rw [e2, e3, e4', List.flatMap_append]
  simp
theorem enc_no (t : List Rt) (i : Nat) (h : i < t.length) (hu : ¬ Us1 t[i]) : enc (t.take (i + 1)) = enc (t.take i) := by
  unfold enc
  rw [List.take_succ_eq_append_getElem h, List.filter_append]
  have e2 : ([t[i]].filter fun x => decide (Us1 x)) = [] := by simp [hu]
  rw [e2, List.append_nil]
theorem enc_full (t : List Rt) (i : Nat) (h : i < t.length) (hl : ¬ (enc (t.take i)).length < 96) : enc (t.take (i + 1)) = enc (t.take i) := by
  have hlen : ∀ u : List Rt, (u.flatMap e4).length = 4 * u.length := fun u => by
    induction u with
    | nil => rfl
    | cons x r ih => rw [List.flatMap_cons, List.length_append, ih, List.length_cons]; show 4 + _ = _; omega
  unfold enc at hl ⊢
  rw [hlen, List.length_take] at hl
  rw [List.take_succ_eq_append_getElem h, List.filter_append, List.take_append_of_le_length (by omega)]
end Go.Proofs.Ytcfnkfkdhcejeaa.Rte
