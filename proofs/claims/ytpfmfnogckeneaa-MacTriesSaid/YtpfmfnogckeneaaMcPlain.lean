/- Layer 16's mathematics: transmission queues, lists of pairs. -/
import Derived.Test.YtpfmfnogckeneaaMbPlain
set_option linter.unusedVariables false
namespace Go.Proofs.Ytpfmfnogckeneaa.Mcq
open Mbx (Fm zf)

/-- An entry: the frame, the tries, the wait. -/
abbrev Sd := Fm × Int × Int
/-- The last index among the first k that is as p says, or -1. -/
def lsP {α : Type} (p : α → Bool) (m : List α) : Nat → Int
  | 0 => -1
  | k + 1 => if h : k < m.length then (if p m[k] = true then (k : Int) else lsP p m k) else lsP p m k
section
variable {α : Type} (p : α → Bool) (m : List α)
theorem lsP_zero : lsP p m 0 = -1 := rfl
theorem lsP_yes (k : Nat) (h : k < m.length) (e : p m[k] = true) : lsP p m (k + 1) = k := by unfold lsP; rw [dif_pos h, if_pos e]
theorem lsP_no (k : Nat) (h : k < m.length) (e : p m[k] = false) : lsP p m (k + 1) = lsP p m k := by
  rw [show lsP p m (k + 1) = (if h : k < m.length then (if p m[k] = true then (k : Int) else lsP p m k) else lsP p m k) from rfl, dif_pos h, if_neg (by rw [e]; decide)]
theorem lsP_is : ∀ k, k ≤ m.length → (lsP p m k = -1 ∧ ∀ j (hj : j < m.length), j < k → p m[j] = false) ∨ ∃ (i : Nat) (hi : i < m.length), lsP p m k = i ∧ i < k ∧ p m[i] = true ∧ ∀ j (hj : j < m.length), i < j → j < k → p m[j] = false
  | 0, _ => Or.inl ⟨rfl, fun j hj h => by omega⟩
  | k + 1, hk => by
    cases e : p (m[k]'(by omega)) with
    | true => exact Or.inr ⟨k, by omega, lsP_yes p m k (by omega) e, by omega, e, fun j hj h1 h2 => by omega⟩
    | false =>
      rw [lsP_no p m k (by omega) e]
      rcases lsP_is k (by omega) with ⟨h1, h2⟩ | ⟨i, hi, h1, h2, h3, h4⟩
      · refine Or.inl ⟨h1, fun j hj h => ?_⟩
        by_cases c : j = k
        · subst c; exact e
        · exact h2 j hj (by omega)
      · refine Or.inr ⟨i, hi, h1, by omega, h3, fun j hj a b => ?_⟩
        by_cases c : j = k
        · subst c; exact e
        · exact h4 j hj a (by omega)
theorem lsP_in (k : Nat) (hk : k ≤ m.length) : -1 ≤ lsP p m k ∧ lsP p m k < k := by
  rcases lsP_is p m k hk with ⟨h, _⟩ | ⟨i, hi, h1, h2, _⟩ <;> omega
/-- The last index that is as p says is one alone. -/
theorem lsP_one {i : Nat} (hi : i < m.length) (h : p m[i] = true) (h2 : ∀ j (hj : j < m.length), i < j → p m[j] = false) : lsP p m m.length = i := by
  rcases lsP_is p m m.length (Nat.le_refl _) with ⟨_, h3⟩ | ⟨j, hj, h1, _, h3, h4⟩
  · have := h3 i hi hi
    rw [h] at this
    cases this
  · rcases Nat.lt_trichotomy i j with c | c | c
    · have := h2 j hj c
      rw [h3] at this
      cases this
    · omega
    · have := h4 i hi c hi
      rw [h] at this
      cases this
theorem lsP_none (h : ∀ j (hj : j < m.length), p m[j] = false) : lsP p m m.length = -1 := by
  rcases lsP_is p m m.length (Nat.le_refl _) with ⟨h1, _⟩ | ⟨j, hj, _, _, h3, _⟩
  · exact h1
  · have := h j hj
    rw [h3] at this
    cases this
end
/-- An entry that may be removed: neither urgent nor tried. -/
def rmv (x : Sd) : Bool := !x.1.u && decide (x.2.1 ≤ 0)
def ord (x : Sd) : Bool := !x.1.u
def lst (m : List Sd) : Int := lsP rmv m m.length
/-- Where a frame goes: the first entry that is not urgent, or the end. -/
def plc (m : List Sd) (f : Fm) : Nat := if f.u = true then m.findIdx ord else m.length
def ins (m : List Sd) (f : Fm) : List Sd := m.take (plc m f) ++ [(f, 0, 0)] ++ m.drop (plc m f)
def Full (m : List Sd) (f : Fm) : Prop := m.length = 16 ∧ (f.u = false ∨ lst m < 0)
instance (m : List Sd) (f : Fm) : Decidable (Full m f) := inferInstanceAs (Decidable (_ ∧ _))
def put (l : List Sd) (f : Fm) : List Sd × Bool :=
  if Full (l.take 16) f then (l.take 16, false)
  else (ins (if (l.take 16).length = 16 then (l.take 16).eraseIdx (lst (l.take 16)).toNat else l.take 16) f, true)
/-- The first ready one. -/
def rdy (x : Sd) : Bool := decide (x.2.2 ≤ 0)
def nx (m : List Sd) : Int := if m.findIdx rdy < m.length then (m.findIdx rdy : Int) else -1
def next (l : List Sd) : Int := nx (l.take 16)
def tk (x : Sd) : Sd := (x.1, x.2.1, if 0 < x.2.2 then x.2.2 - 1 else x.2.2)
def tick (l : List Sd) : List Sd := (l.take 16).map tk
def pos (n : Int) : Int := if n < 0 then 0 else n
/-- An entry that was not acknowledged. -/
def fl (x : Sd) : Sd := (x.1, pos x.2.1 + 1, if x.1.u = true then 0 else if 4 < pos x.2.1 + 1 then 4 else pos x.2.1 + 1)
def z0 : Sd := (zf, 0, 0)
def res (l : List Sd) (i : Int) (ok : Bool) : List Sd × Bool :=
  if i < 0 ∨ (l.take 16).length ≤ i.toNat then (l.take 16, false)
  else if ok = true ∨ 7 ≤ ((l.take 16).getD i.toNat z0).2.1 then ((l.take 16).eraseIdx i.toNat, !ok)
  else ((l.take 16).set i.toNat (fl ((l.take 16).getD i.toNat z0)), false)
abbrev Pr := Int × Int
/-- The last 32. -/
def last (l : List Pr) : List Pr := l.drop (l.length - 32)
def fresh (l : List Pr) (p : Pr) : List Pr × Bool :=
  if p ∈ last l then (last l, false) else ((if (last l).length = 32 then (last l).drop 1 else last l) ++ [p], true)

theorem take_len (l : List Sd) : (l.take 16).length ≤ 16 := by rw [List.length_take]; omega
theorem plc_le (m : List Sd) (f : Fm) : plc m f ≤ m.length := by
  unfold plc
  split
  · exact List.findIdx_le_length
  · exact Nat.le_refl _
theorem ins_len (m : List Sd) (f : Fm) : (ins m f).length = m.length + 1 := by
  have := plc_le m f
  unfold ins
  simp only [List.length_append, List.length_take, List.length_drop, List.length_cons, List.length_nil]
  omega
theorem lst_in {m : List Sd} (h : ¬ lst m < 0) : (lst m).toNat < m.length ∧ lst m = ((lst m).toNat : Int) := by
  have := lsP_in rmv m m.length (Nat.le_refl _)
  unfold lst at *
  omega
/-- MacOrder: what a queue is like that began empty. -/
structure Inv (q : List Sd) : Prop where
  len : q.length ≤ 16
  ent : ∀ x ∈ q, (x.1.u = true → x.2.2 = 0) ∧ 0 ≤ x.2.2 ∧ x.2.2 ≤ 4 ∧ 0 ≤ x.2.1 ∧ x.2.1 ≤ 7
  srt : q.Pairwise fun x y => y.1.u = true → x.1.u = true
theorem inv_nil : Inv [] := ⟨by simp, fun x h => (by cases h), List.Pairwise.nil⟩
theorem inv_erase {q : List Sd} (h : Inv q) (i : Nat) : Inv (q.eraseIdx i) :=
  ⟨Nat.le_trans (List.eraseIdx_sublist _ _).length_le h.len, fun x hx => h.ent x (List.mem_of_mem_eraseIdx hx), h.srt.sublist (List.eraseIdx_sublist _ _)⟩
theorem inv_take {q : List Sd} (h : Inv q) : q.take 16 = q := List.take_of_length_le h.len
theorem inv_ins {q : List Sd} (h : Inv q) (f : Fm) (hl : q.length ≤ 15) : Inv (ins q f) := by
  refine ⟨by rw [ins_len]; omega, fun x hx => ?_, ?_⟩
  · unfold ins at hx
    rcases List.mem_append.1 hx with hx | hx
    · rcases List.mem_append.1 hx with hx | hx
      · exact h.ent x (List.mem_of_mem_take hx)
      · rw [List.mem_singleton.1 hx]; simp
    · exact h.ent x (List.mem_of_mem_drop hx)
  · have hp := plc_le q f
    unfold ins
    have hs := h.srt
    rw [← List.take_append_drop (plc q f) q, List.pairwise_append] at hs
    rw [List.append_assoc, List.pairwise_append]
    refine ⟨hs.1, ?_, ?_⟩
    · rw [List.singleton_append, List.pairwise_cons]
      refine ⟨fun y hy hu => ?_, hs.2.1⟩
      obtain ⟨j, hj, rfl⟩ := List.getElem_of_mem hy
      rw [List.length_drop] at hj
      by_cases c : f.u = true
      · exact c
      · exfalso
        unfold plc at hj
        rw [if_neg c] at hj
        omega
    · intro x hx y hy hu
      rcases List.mem_append.1 hy with hy | hy
      · rw [List.mem_singleton.1 hy] at hu
        obtain ⟨j, hj, rfl⟩ := List.getElem_of_mem hx
        rw [List.length_take] at hj
        rw [List.getElem_take]
        unfold plc at hj
        rw [if_pos hu] at hj
        have := List.not_of_lt_findIdx (show j < q.findIdx ord by omega)
        simpa [ord] using this
      · exact hs.2.2 x hx y hy hu
theorem inv_put {q : List Sd} (h : Inv q) (f : Fm) : Inv (put q f).1 := by
  unfold put
  rw [inv_take h]
  split
  · exact h
  · rename_i hf
    have hl := h.len
    by_cases h16 : q.length = 16
    · rw [if_pos h16]
      have hn : ¬ lst q < 0 := fun c => hf ⟨h16, Or.inr c⟩
      obtain ⟨h1, _⟩ := lst_in hn
      exact inv_ins (inv_erase h _) f (by rw [List.length_eraseIdx, if_pos h1]; omega)
    · rw [if_neg h16]
      exact inv_ins h f (by omega)
theorem tk_ent {x : Sd} (h : (x.1.u = true → x.2.2 = 0) ∧ 0 ≤ x.2.2 ∧ x.2.2 ≤ 4 ∧ 0 ≤ x.2.1 ∧ x.2.1 ≤ 7) : ((tk x).1.u = true → (tk x).2.2 = 0) ∧ 0 ≤ (tk x).2.2 ∧ (tk x).2.2 ≤ 4 ∧ 0 ≤ (tk x).2.1 ∧ (tk x).2.1 ≤ 7 := by
  obtain ⟨h1, h2, h3, h4, h5⟩ := h
  unfold tk
  dsimp only
  refine ⟨fun hu => ?_, ?_, ?_, h4, h5⟩
  · have := h1 hu
    rw [if_neg (by omega)]
    exact this
  · split <;> omega
  · split <;> omega
theorem inv_tick {q : List Sd} (h : Inv q) : Inv (tick q) := by
  unfold tick
  rw [inv_take h]
  refine ⟨by rw [List.length_map]; exact h.len, fun x hx => ?_, ?_⟩
  · obtain ⟨y, hy, rfl⟩ := List.mem_map.1 hx
    exact tk_ent (h.ent y hy)
  · rw [List.pairwise_map]
    exact h.srt
theorem fl_ent {x : Sd} (h : (x.1.u = true → x.2.2 = 0) ∧ 0 ≤ x.2.2 ∧ x.2.2 ≤ 4 ∧ 0 ≤ x.2.1 ∧ x.2.1 ≤ 7) (h2 : ¬ 7 ≤ x.2.1) : ((fl x).1.u = true → (fl x).2.2 = 0) ∧ 0 ≤ (fl x).2.2 ∧ (fl x).2.2 ≤ 4 ∧ 0 ≤ (fl x).2.1 ∧ (fl x).2.1 ≤ 7 := by
  obtain ⟨h1, _, _, h4, h5⟩ := h
  have e : pos x.2.1 = x.2.1 := by unfold pos; rw [if_neg (by omega)]
  unfold fl
  dsimp only
  rw [e]
  refine ⟨fun hu => by rw [if_pos hu], ?_, ?_, by omega, by omega⟩
  · split
    · omega
    · split <;> omega
  · split
    · omega
    · split <;> omega
theorem inv_res {q : List Sd} (h : Inv q) (i : Int) (ok : Bool) : Inv (res q i ok).1 := by
  unfold res
  rw [inv_take h]
  split
  · exact h
  · rename_i h1
    split
    · exact inv_erase h _
    · rename_i h2
      have hi : i.toNat < q.length := by omega
      have e : q.getD i.toNat z0 = q[i.toNat] := by simp [List.getD, hi]
      rw [e] at h2 ⊢
      have hx := h.ent _ (List.getElem_mem hi)
      refine ⟨by rw [List.length_set]; exact h.len, fun x hx' => ?_, ?_⟩
      · rcases List.mem_or_eq_of_mem_set hx' with hx' | rfl
        · exact h.ent x hx'
        · exact fl_ent hx (fun c => h2 (Or.inr c))
      · rw [List.pairwise_iff_getElem]
        intro a b ha hb hab
        rw [List.length_set] at ha hb
        have := List.pairwise_iff_getElem.1 h.srt a b ha hb hab
        rw [List.getElem_set, List.getElem_set]
        split
        · rename_i c; subst c
          rw [if_neg (by omega)]
          exact this
        · split
          · rename_i c; subst c
            exact this
          · exact this
theorem inv_two {q : List Sd} (h : Inv q) (k : Nat) (hk : k < q.length) (hk1 : 0 < k) (hu : q[k].1.u = true) : (q[k - 1]'(by omega)).1.u = true :=
  List.pairwise_iff_getElem.1 h.srt (k - 1) k (by omega) hk (by omega) hu
/-- After four ticks all are ready. -/
theorem ticks_zero {q : List Sd} (h : Inv q) : ∀ x ∈ tick (tick (tick (tick q))), x.2.2 = 0 := by
  have e : ∀ m, Inv m → tick m = m.map tk := fun m hm => by unfold tick; rw [inv_take hm]
  have h1 := inv_tick h
  have h2 := inv_tick h1
  have h3 := inv_tick h2
  intro x hx
  rw [e _ h3, e _ h2, e _ h1, e _ h] at hx
  simp only [List.map_map, List.mem_map] at hx
  obtain ⟨y, hy, rfl⟩ := hx
  have := h.ent y hy
  simp only [Function.comp, tk]
  repeat' split
  all_goals omega
theorem ticks_next {q : List Sd} (h : Inv q) (hz : ∀ x ∈ q, x.2.2 = 0) : next q = -1 ↔ q = [] := by
  unfold next nx
  rw [inv_take h]
  constructor
  · intro hh
    by_cases c : q = []
    · exact c
    · have h0 : 0 < q.length := List.length_pos_iff.2 c
      have : q.findIdx rdy < q.length := by
        rw [List.findIdx_lt_length]
        exact ⟨q[0], List.getElem_mem h0, by simp [rdy, hz _ (List.getElem_mem h0)]⟩
      rw [if_pos this] at hh
      omega
  · rintro rfl
    rfl
/-! MacTries. -/
theorem put_nil (f : Fm) : put [] f = ([(f, 0, 0)], true) := by
  unfold put
  rw [if_neg (by unfold Full; simp)]
  simp [ins, plc]
def wt (f : Fm) (k : Int) : Int := if f.u = true then 0 else if 4 < k then 4 else k
theorem res_step (f : Fm) (k w : Int) (h : 0 ≤ k) (h7 : k < 7) : res [(f, k, w)] 0 false = ([(f, k + 1, wt f (k + 1))], false) := by
  unfold res
  rw [show ([(f, k, w)] : List Sd).take 16 = [(f, k, w)] from rfl, if_neg (by simp), if_neg (by simp [List.getD]; omega)]
  show ([fl (f, k, w)], false) = _
  have e : pos k = k := by unfold pos; rw [if_neg (by omega)]
  unfold fl wt
  dsimp only
  rw [e]
theorem res_last (f : Fm) (k w : Int) (h : 7 ≤ k) : res [(f, k, w)] 0 false = ([], true) := by
  unfold res
  rw [show ([(f, k, w)] : List Sd).take 16 = [(f, k, w)] from rfl, if_neg (by simp), if_pos (by simp [List.getD]; omega)]
  rfl
theorem wt_in (f : Fm) (k : Int) (h : 0 ≤ k) : 0 ≤ wt f k ∧ wt f k ≤ 4 ∧ (f.u = true → wt f k = 0) := by
  unfold wt
  refine ⟨?_, ?_, fun hu => by rw [if_pos hu]⟩ <;> (split; omega; split <;> omega)
/-! MacOnce. -/
theorem last_len (l : List Pr) : (last l).length ≤ 32 := by unfold last; rw [List.length_drop]; omega
theorem last_self {l : List Pr} (h : l.length ≤ 32) : last l = l := by unfold last; rw [show l.length - 32 = 0 by omega]; rfl
theorem fresh_len (l : List Pr) (p : Pr) : (fresh l p).1.length ≤ 32 := by
  have h := last_len l
  unfold fresh
  split
  · exact h
  · simp only [List.length_append, List.length_cons, List.length_nil]
    split
    · rw [List.length_drop]; omega
    · omega
/-- p stands among the last n + 1. -/
def Near (p : Pr) (n : Nat) (m : List Pr) : Prop := m.length ≤ 32 ∧ ∃ (i : Nat) (h : i < m.length), m[i] = p ∧ m.length ≤ i + n + 1
theorem near_start {l : List Pr} {p : Pr} (h : ∃ hh : 0 < (fresh l p).1.length, (fresh l p).1[(fresh l p).1.length - 1] = p) : Near p 0 (fresh l p).1 := by
  obtain ⟨h0, h1⟩ := h
  exact ⟨fresh_len l p, _, by omega, h1, by omega⟩
theorem near_step {m : List Pr} {p q : Pr} {n : Nat} (h : Near p n m) (hn : n ≤ 30) : Near p (n + 1) (fresh m q).1 := by
  obtain ⟨hl, i, hi, e, h2⟩ := h
  refine ⟨fresh_len m q, ?_⟩
  unfold fresh
  rw [last_self hl]
  split
  · exact ⟨i, hi, e, by show m.length ≤ _; omega⟩
  · by_cases c : m.length = 32
    · simp only [if_pos c]
      refine ⟨i - 1, by simp; omega, ?_, by simp; omega⟩
      rw [List.getElem_append_left (by rw [List.length_drop]; omega), List.getElem_drop]
      rw [← e]
      congr 1
      omega
    · simp only [if_neg c]
      refine ⟨i, by simp; omega, ?_, by simp; omega⟩
      rw [List.getElem_append_left hi]
      exact e
theorem near_end {m : List Pr} {p : Pr} {n : Nat} (h : Near p n m) : (fresh m p).2 = false := by
  obtain ⟨hl, i, hi, e, h2⟩ := h
  unfold fresh
  rw [last_self hl, if_pos (by rw [← e]; exact List.getElem_mem hi)]
end Go.Proofs.Ytpfmfnogckeneaa.Mcq
