/- Layer 18's mathematics: the medium, who receives, channels; no program in sight. -/
import Derived.Test.YtcnmknhjmflinaaTPlain
set_option linter.unusedVariables false
namespace Go.Proofs.Ytcnmknhjmflinaa.Rdo
open Tpo (Ed Nd Vd Lk near wout sel nds chk mem_near mem_sel sel_asc)

/-- The medium. -/
structure Ar where
  e : List Ed
  o : List Int
  n : List Int
abbrev ar0 : Ar := ⟨[], [], []⟩
def AllN (l : List Int) : Prop := ∀ x ∈ l, Nd x
instance (l : List Int) : Decidable (AllN l) := by unfold AllN; infer_instance
def achk (a : Ar) : Int := if chk a.e ≠ 0 then chk a.e else if ¬ (AllN a.o ∧ AllN a.n) then 2 else if 24 < a.o.length ∨ 24 < a.n.length then 3 else 0
theorem achk_ok {a : Ar} (h : achk a = 0) : chk a.e = 0 ∧ AllN a.o ∧ AllN a.n ∧ a.o.length ≤ 24 ∧ a.n.length ≤ 24 := by
  unfold achk at h
  split at h
  · rename_i h1; exact absurd h h1
  · rename_i h1
    split at h
    · cases h
    · rename_i h2
      split at h
      · cases h
      · rename_i h3
        exact ⟨Classical.not_not.1 h1, (Classical.not_not.1 h2).1, (Classical.not_not.1 h2).2, by omega, by omega⟩
theorem achk_of {a : Ar} (h1 : chk a.e = 0) (h2 : AllN a.o) (h3 : AllN a.n) (h4 : a.o.length ≤ 24) (h5 : a.n.length ≤ 24) : achk a = 0 := by
  unfold achk
  rw [if_neg (by simpa using h1), if_neg (fun q => q ⟨h2, h3⟩), if_neg (by omega)]
def sane (a : Ar) : Ar := if achk a ≠ 0 then ar0 else a
theorem sane_ok {a : Ar} (h : achk a = 0) : sane a = a := if_neg (by simpa using h)
theorem sane_no {a : Ar} (h : achk a ≠ 0) : sane a = ar0 := if_pos h
theorem sane_len (a : Ar) : (sane a).e.length ≤ a.e.length ∧ (sane a).o.length ≤ a.o.length ∧ (sane a).n.length ≤ a.n.length := by
  unfold sane; split
  · exact ⟨Nat.zero_le _, Nat.zero_le _, Nat.zero_le _⟩
  · exact ⟨Nat.le_refl _, Nat.le_refl _, Nat.le_refl _⟩
/-- A node hears what a neighbor sends. -/
def Hrs (a : Ar) (v : Int) : Prop := ¬ v ∈ a.o ∧ ¬ v ∈ a.n
instance (a : Ar) (v : Int) : Decidable (Hrs a v) := by unfold Hrs; infer_instance
def Rcv (a : Ar) (to v : Int) : Prop := Hrs a v ∧ (to = 255 ∨ to = v)
instance (a : Ar) (to v : Int) : Decidable (Rcv a to v) := by unfold Rcv; infer_instance
noncomputable def rcv (a : Ar) (f to : Int) : List Int := (near a.e f).filter fun v => decide (Rcv a to v)
noncomputable def del (a : Ar) (f to : Int) : List Int × Bool :=
  if f ∈ (sane a).o then ([], false) else if to = 255 then (rcv (sane a) f to, true) else (rcv (sane a) f to, decide ((rcv (sane a) f to).length = 1) && !decide (f ∈ (sane a).n))
theorem mem_rcv (a : Ar) (f to v : Int) : v ∈ rcv a f to ↔ Lk a.e f v ∧ Rcv a to v := by unfold rcv; rw [List.mem_filter, mem_near]; simp
theorem rcv_asc (a : Ar) (f to : Int) : (rcv a f to).Pairwise (· < ·) := (sel_asc _).filter _
theorem rcv_len (a : Ar) (f to : Int) : (rcv a f to).length ≤ 251 := Nat.le_trans (List.length_filter_le _ _) (Tpo.sel_len _)
theorem del_len (a : Ar) (f to : Int) : (del a f to).1.length ≤ 251 := by
  unfold del
  split
  · exact Nat.zero_le _
  · split <;> exact rcv_len _ _ _
/-- Who is noisy then. -/
noncomputable def nsy (a : Ar) (l : List Int) : List Int := (sel fun v => v ∈ a.n ∨ v ∈ l).take 24
noncomputable def jam (a : Ar) (l : List Int) : Ar := { sane a with n := nsy (sane a) l }
def clr (a : Ar) : Ar := { sane a with n := [] }
def up (a : Ar) : List Ed := wout (sane a).e (sane a).o
theorem nsy_nd (a : Ar) (l : List Int) : AllN (nsy a l) := fun x hx => ((mem_sel _ x).1 (List.mem_of_mem_take hx)).1
theorem nsy_len (a : Ar) (l : List Int) : (nsy a l).length ≤ 24 := by unfold nsy; rw [List.length_take]; omega
theorem nsy_all {a : Ar} {l : List Int} (h : (nsy a l).length < 24) : nsy a l = sel fun v => v ∈ a.n ∨ v ∈ l := by
  unfold nsy at *
  rw [List.length_take] at h
  exact List.take_of_length_le (by omega)
theorem jam_ok {a : Ar} (h : achk a = 0) (l : List Int) : jam a l = { a with n := nsy a l } ∧ achk (jam a l) = 0 := by
  obtain ⟨h1, h2, h3, h4, h5⟩ := achk_ok h
  have e : jam a l = { a with n := nsy a l } := by unfold jam; rw [sane_ok h]
  rw [e]
  exact ⟨rfl, achk_of h1 h2 (nsy_nd a l) h4 (nsy_len a l)⟩
theorem clr_ok {a : Ar} (h : achk a = 0) : clr a = { a with n := [] } ∧ achk (clr a) = 0 := by
  obtain ⟨h1, h2, h3, h4, h5⟩ := achk_ok h
  have e : clr a = { a with n := [] } := by unfold clr; rw [sane_ok h]
  rw [e]
  exact ⟨rfl, achk_of h1 h2 (fun x hx => by cases hx) h4 (Nat.zero_le _)⟩
/-- What RadioReceivers asks. -/
theorem del_good {a : Ar} (h : achk a = 0) (f to : Int) : (del a f to).1.Pairwise (· < ·) ∧ (∀ v ∈ (del a f to).1, Nd v ∧ v ∈ near (up a) f ∧ ¬ v ∈ a.n ∧ (to = 255 ∨ v = to)) ∧ ((del a f to).2 = true → to ≠ 255 → to ∈ (del a f to).1) := by
  unfold del up
  rw [sane_ok h]
  by_cases hf : f ∈ a.o
  · rw [if_pos hf]
    exact ⟨List.Pairwise.nil, fun v hv => (by cases hv), fun q => (by cases q)⟩
  · rw [if_neg hf]
    have key : ∀ v ∈ rcv a f to, Nd v ∧ v ∈ near (wout a.e a.o) f ∧ ¬ v ∈ a.n ∧ (to = 255 ∨ v = to) := fun v hv => by
      obtain ⟨h1, ⟨h2, h3⟩, h4⟩ := (mem_rcv a f to v).1 hv
      refine ⟨(Tpo.lk_node h1).1.2, (mem_near _ _ _).2 ((Tpo.lk_wout _ _ _ _).2 ⟨h1, hf, h2⟩), h3, h4.imp_right fun q => q.symm⟩
    by_cases ht : to = 255
    · rw [if_pos ht]
      exact ⟨rcv_asc _ _ _, key, fun _ q => absurd ht q⟩
    · rw [if_neg ht]
      refine ⟨rcv_asc _ _ _, key, fun q _ => ?_⟩
      have hl : (rcv a f to).length = 1 := by
        have q' : (decide ((rcv a f to).length = 1) && !decide (f ∈ a.n)) = true := q
        rw [Bool.and_eq_true] at q'
        exact of_decide_eq_true q'.1
      obtain ⟨x, hx⟩ := List.length_eq_one_iff.1 hl
      show to ∈ rcv a f to
      have hm : x ∈ rcv a f to := by rw [hx]; exact List.mem_cons_self
      have := (key x hm).2.2.2.resolve_left ht
      subst this
      exact hm
/-- What RadioSilence asks. -/
theorem jam_quiet {a : Ar} (h : achk a = 0) (l : List Int) (f to : Int) : ∀ v ∈ (del (jam a l) f to).1, (¬ v ∈ (jam a l).n) ∧ ((jam a l).n.length < 24 → v ∈ (del a f to).1) := by
  obtain ⟨h1, h2⟩ := jam_ok h l
  have hn : (jam a l).n = nsy a l := by rw [h1]
  unfold del
  rw [sane_ok h2, sane_ok h, h1]
  intro v hv
  by_cases hf : f ∈ a.o
  · rw [if_pos (show f ∈ ({ a with n := nsy a l } : Ar).o from hf)] at hv
    cases hv
  · rw [if_neg (show ¬ f ∈ ({ a with n := nsy a l } : Ar).o from hf)] at hv
    have hv' : v ∈ rcv { a with n := nsy a l } f to := by split at hv <;> exact hv
    obtain ⟨q1, ⟨q2, q3⟩, q4⟩ := (mem_rcv _ f to v).1 hv'
    refine ⟨q3, fun hl => ?_⟩
    have e := nsy_all hl
    have q5 : ¬ v ∈ a.n := fun m => q3 (by
      show v ∈ nsy a l
      rw [e, mem_sel]
      exact ⟨(Tpo.lk_node q1).1.2, Or.inl m⟩)
    have hm : v ∈ rcv a f to := (mem_rcv a f to v).2 ⟨q1, ⟨q2, q5⟩, q4⟩
    rw [if_neg hf]
    split <;> exact hm
theorem jam_has {a : Ar} (h : achk a = 0) {l : List Int} (hl : (jam a l).n.length < 24) {v : Int} (hv : v ∈ l) (hn : Nd v) : v ∈ (jam a l).n := by
  obtain ⟨h1, _⟩ := jam_ok h l
  rw [h1] at hl ⊢
  show v ∈ nsy a l
  rw [nsy_all hl, mem_sel]
  exact ⟨hn, Or.inr hv⟩
theorem clr_all {a : Ar} (h : achk a = 0) (f : Int) : (del (clr a) f 255).1 = if f ∈ a.o then [] else near (up a) f := by
  obtain ⟨h1, h2⟩ := clr_ok h
  unfold del up
  rw [sane_ok h2, sane_ok h, h1]
  by_cases hf : f ∈ a.o
  · rw [if_pos (show f ∈ ({ a with n := [] } : Ar).o from hf), if_pos hf]
  · rw [if_neg (show ¬ f ∈ ({ a with n := [] } : Ar).o from hf), if_neg hf, if_pos rfl]
    refine Tpo.asc_one _ _ (rcv_asc _ _ _) (sel_asc _) fun v => ?_
    rw [mem_rcv, mem_near, Tpo.lk_wout]
    exact ⟨fun ⟨q1, ⟨q2, _⟩, _⟩ => ⟨q1, hf, q2⟩, fun ⟨q1, _, q2⟩ => ⟨q1, ⟨q2, fun q => by cases q⟩, Or.inl rfl⟩⟩

/-! Channels. -/
/-- The first of the least of the first k, or -1. -/
def bst (l : List Int) : Nat → Int
  | 0 => -1
  | k + 1 => if bst l k < 0 ∨ l.getD k 0 < l.getD (bst l k).toNat 0 then k else bst l k
theorem bst_is (l : List Int) : ∀ k, k ≤ l.length → (k = 0 ∧ bst l k = -1) ∨ ∃ i, i < k ∧ bst l k = (i : Nat) ∧ (∀ j, j < k → l.getD i 0 ≤ l.getD j 0) ∧ ∀ j, j < i → l.getD i 0 < l.getD j 0
  | 0, _ => Or.inl ⟨rfl, rfl⟩
  | k + 1, hk => by
    right
    rcases bst_is l k (by omega) with ⟨rfl, h⟩ | ⟨i, h1, h2, h3, h4⟩
    · refine ⟨0, by omega, ?_, fun j hj => ?_, fun j hj => by omega⟩
      · unfold bst; rw [h]; rfl
      · have : j = 0 := by omega
        subst this; exact Int.le_refl _
    · by_cases c : l.getD k 0 < l.getD i 0
      · refine ⟨k, by omega, ?_, fun j hj => ?_, fun j hj => ?_⟩
        · unfold bst; rw [h2, if_pos (Or.inr (by rw [Int.toNat_natCast]; exact c))]
        · rcases Nat.lt_or_ge j k with q | q
          · have := h3 j q; omega
          · have : j = k := by omega
            subst this; exact Int.le_refl _
        · have := h3 j hj; omega
      · refine ⟨i, by omega, ?_, fun j hj => ?_, h4⟩
        · unfold bst; rw [h2, if_neg (by rw [Int.toNat_natCast]; omega)]
        · rcases Nat.lt_or_ge j k with q | q
          · exact h3 j q
          · have : j = k := by omega
            subst this; omega
def Fine (l : List Int) (now limit : Int) : Prop := (0 ≤ now ∧ now < l.length) ∧ l.getD now.toNat 0 ≤ limit
instance (l : List Int) (now limit : Int) : Decidable (Fine l now limit) := by unfold Fine; infer_instance
def chan (l : List Int) (now limit : Int) : Int := if Fine l now limit then now else bst l l.length
theorem chan_in (l : List Int) (now limit : Int) : (l = [] ∧ chan l now limit = -1) ∨ ∃ i, i < l.length ∧ chan l now limit = (i : Nat) ∧ (l.getD i 0 ≤ limit ∨ ∀ j, j < l.length → l.getD i 0 ≤ l.getD j 0) ∧ chan l i limit = i := by
  unfold chan
  by_cases h : Fine l now limit
  · obtain ⟨⟨h1, h2⟩, h3⟩ := h
    right
    refine ⟨now.toNat, by omega, ?_, Or.inl h3, ?_⟩
    · rw [if_pos ⟨⟨h1, h2⟩, h3⟩]; omega
    · rw [if_pos ⟨⟨by omega, by omega⟩, by rw [Int.toNat_natCast]; exact h3⟩]
  · rw [if_neg h]
    rcases bst_is l l.length (Nat.le_refl _) with ⟨h1, h2⟩ | ⟨i, h1, h2, h3, h4⟩
    · exact Or.inl ⟨List.eq_nil_of_length_eq_zero h1, h2⟩
    · right
      refine ⟨i, h1, h2, Or.inr h3, ?_⟩
      split
      · rfl
      · exact h2
end Go.Proofs.Ytcnmknhjmflinaa.Rdo
