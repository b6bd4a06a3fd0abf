/- Graphs of links: neighbors, distances, what is reached, depth, parents, what is critical; no program in sight. -/
import Derived.WalkKit
set_option linter.unusedVariables false
namespace Go.Proofs.Ytcnmknhjmflinaa.Tpo
open Go.RowKit

/-- A link's two ends. -/
abbrev Ed := Int × Int
def Nd (n : Int) : Prop := 0 ≤ n ∧ n ≤ 250
instance (n : Int) : Decidable (Nd n) := by unfold Nd; infer_instance
def Vd (e : Ed) : Prop := (Nd e.1 ∧ Nd e.2) ∧ e.1 ≠ e.2
instance (e : Ed) : Decidable (Vd e) := by unfold Vd; infer_instance
/-- The same link. -/
def Sm (e : Ed) (a b : Int) : Prop := (e.1 = a ∧ e.2 = b) ∨ (e.1 = b ∧ e.2 = a)
instance (e : Ed) (a b : Int) : Decidable (Sm e a b) := by unfold Sm; infer_instance
theorem sm_symm {e : Ed} {a b : Int} (h : Sm e a b) : Sm e b a := h.symm
def Lk (l : List Ed) (a b : Int) : Prop := ∃ e ∈ l, Vd e ∧ Sm e a b
instance (l : List Ed) (a b : Int) : Decidable (Lk l a b) := by unfold Lk; infer_instance
theorem lk_symm {l : List Ed} {a b : Int} (h : Lk l a b) : Lk l b a := by
  obtain ⟨e, h1, h2, h3⟩ := h; exact ⟨e, h1, h2, sm_symm h3⟩
theorem lk_node {l : List Ed} {a b : Int} (h : Lk l a b) : (Nd a ∧ Nd b) ∧ a ≠ b := by
  obtain ⟨e, h1, ⟨⟨h2, h3⟩, h4⟩, h5⟩ := h
  rcases h5 with ⟨rfl, rfl⟩ | ⟨rfl, rfl⟩
  · exact ⟨⟨h2, h3⟩, h4⟩
  · exact ⟨⟨h3, h2⟩, fun e => h4 e.symm⟩
theorem lk_nil (a b : Int) : ¬ Lk [] a b := fun h => by obtain ⟨e, h, _⟩ := h; cases h
theorem lk_cons (e : Ed) (l : List Ed) (a b : Int) : Lk (e :: l) a b ↔ (Vd e ∧ Sm e a b) ∨ Lk l a b := by
  unfold Lk
  constructor
  · rintro ⟨x, hx, h⟩
    rcases List.mem_cons.1 hx with rfl | hx
    · exact Or.inl h
    · exact Or.inr ⟨x, hx, h⟩
  · rintro (h | ⟨x, hx, h⟩)
    · exact ⟨e, List.mem_cons_self, h⟩
    · exact ⟨x, List.mem_cons_of_mem _ hx, h⟩
/-- Two lists with the same links. -/
def Eqv (l m : List Ed) : Prop := ∀ a b, Lk l a b ↔ Lk m a b

/-! Paths. -/
/-- A path of so many links. -/
def Pth (l : List Ed) : Nat → Int → Int → Prop
  | 0, a, b => a = b ∧ Nd a
  | k + 1, a, b => ∃ u, Pth l k a u ∧ Lk l u b
theorem pth_node {l : List Ed} : ∀ {k : Nat} {a b : Int}, Pth l k a b → Nd a ∧ Nd b
  | 0, a, b, h => by obtain ⟨rfl, h⟩ := h; exact ⟨h, h⟩
  | k + 1, a, b, ⟨u, h1, h2⟩ => ⟨(pth_node h1).1, (lk_node h2).1.2⟩
theorem pth_first {l : List Ed} : ∀ {k : Nat} {a u b : Int}, Lk l a u → Pth l k u b → Pth l (k + 1) a b
  | 0, a, u, b, h, ⟨e, _⟩ => by subst e; exact ⟨a, ⟨rfl, (lk_node h).1.1⟩, h⟩
  | k + 1, a, u, b, h, ⟨v, h1, h2⟩ => ⟨v, pth_first h h1, h2⟩
theorem pth_symm {l : List Ed} : ∀ {k : Nat} {a b : Int}, Pth l k a b → Pth l k b a
  | 0, a, b, ⟨e, h⟩ => by subst e; exact ⟨rfl, h⟩
  | k + 1, a, b, ⟨u, h1, h2⟩ => pth_first (lk_symm h2) (pth_symm h1)
theorem pth_trans {l : List Ed} : ∀ {j k : Nat} {a b c : Int}, Pth l j a b → Pth l k b c → Pth l (j + k) a c
  | j, 0, a, b, c, h1, ⟨e, _⟩ => by subst e; exact h1
  | j, k + 1, a, b, c, h1, ⟨u, h2, h3⟩ => ⟨u, pth_trans h1 h2, h3⟩
theorem pth_mono {l m : List Ed} (h : ∀ a b, Lk l a b → Lk m a b) : ∀ {k : Nat} {a b : Int}, Pth l k a b → Pth m k a b
  | 0, a, b, hp => hp
  | k + 1, a, b, ⟨u, h1, h2⟩ => ⟨u, pth_mono h h1, h _ _ h2⟩
/-- A first one of all numbers with a property. -/
theorem least {P : Nat → Prop} (h : ∃ k, P k) : ∃ k, P k ∧ ∀ j, j < k → ¬ P j := by
  obtain ⟨k, hk⟩ := h
  induction k using Nat.strongRecOn with
  | _ k ih =>
    rcases Classical.em (∃ j, j < k ∧ P j) with ⟨j, h1, h2⟩ | hn
    · exact ih j h1 h2
    · exact ⟨k, hk, fun j hj h => hn ⟨j, hj, h⟩⟩
/-- The least number of links from a to b, or -1. -/
noncomputable def dist (l : List Ed) (a b : Int) : Int := open Classical in if h : ∃ k, Pth l k a b ∧ ∀ j, j < k → ¬ Pth l j a b then ((Classical.choose h : Nat) : Int) else -1
theorem dist_some {l : List Ed} {a b : Int} {k : Nat} (h : Pth l k a b) (hm : ∀ j, j < k → ¬ Pth l j a b) : dist l a b = k := by
  have he : ∃ k, Pth l k a b ∧ ∀ j, j < k → ¬ Pth l j a b := ⟨k, h, hm⟩
  unfold dist
  rw [dif_pos he]
  have := Classical.choose_spec he
  have : Classical.choose he = k := by
    rcases Nat.lt_trichotomy (Classical.choose he) k with c | c | c
    · exact absurd this.1 (hm _ c)
    · exact c
    · exact absurd h (this.2 k c)
  rw [this]
theorem dist_is (l : List Ed) (a b : Int) : (dist l a b = -1 ∧ ∀ k, ¬ Pth l k a b) ∨ ∃ k : Nat, dist l a b = k ∧ Pth l k a b ∧ ∀ j, j < k → ¬ Pth l j a b := by
  rcases Classical.em (∃ k, Pth l k a b) with h | h
  · obtain ⟨k, h1, h2⟩ := least h
    exact Or.inr ⟨k, dist_some h1 h2, h1, h2⟩
  · refine Or.inl ⟨?_, fun k hk => h ⟨k, hk⟩⟩
    unfold dist
    rw [dif_neg]
    rintro ⟨k, hk, _⟩
    exact h ⟨k, hk⟩
theorem dist_le {l : List Ed} {a b : Int} {k : Nat} (h : Pth l k a b) : 0 ≤ dist l a b ∧ dist l a b ≤ k := by
  rcases dist_is l a b with ⟨_, h2⟩ | ⟨j, h1, h2, h3⟩
  · exact absurd h (h2 k)
  · rw [h1]
    refine ⟨by omega, ?_⟩
    rcases Nat.lt_or_ge k j with c | c
    · exact absurd h (h3 k c)
    · omega
theorem dist_pth {l : List Ed} {a b : Int} (h : 0 ≤ dist l a b) : Pth l (dist l a b).toNat a b := by
  rcases dist_is l a b with ⟨h1, _⟩ | ⟨j, h1, h2, _⟩
  · omega
  · rw [h1]; exact h2
theorem dist_neg (l : List Ed) (a b : Int) : -1 ≤ dist l a b := by
  rcases dist_is l a b with ⟨h1, _⟩ | ⟨j, h1, _⟩ <;> omega
theorem dist_node {l : List Ed} {a b : Int} (h : 0 ≤ dist l a b) : Nd a ∧ Nd b := pth_node (dist_pth h)
theorem dist_far {l : List Ed} {a b : Int} (h : ¬ (Nd a ∧ Nd b)) : dist l a b = -1 := by
  have := dist_neg l a b
  rcases Int.lt_or_le (dist l a b) 0 with c | c
  · omega
  · exact absurd (dist_node c) h
theorem dist_zero {l : List Ed} {a : Int} (h : Nd a) (b : Int) : dist l a b = 0 ↔ b = a := by
  constructor
  · intro e
    have := dist_pth (l := l) (a := a) (b := b) (by omega)
    rw [e] at this
    exact this.1.symm
  · rintro rfl
    have := dist_le (l := l) (k := 0) (a := b) (b := b) ⟨rfl, h⟩
    omega
theorem dist_symm (l : List Ed) (a b : Int) : dist l a b = dist l b a := by
  have key : ∀ a b, 0 ≤ dist l a b → 0 ≤ dist l b a ∧ dist l b a ≤ dist l a b := fun a b h => by
    have := dist_le (pth_symm (dist_pth h))
    omega
  have h1 := dist_neg l a b
  have h2 := dist_neg l b a
  rcases Int.lt_or_le (dist l a b) 0 with c | c
  · rcases Int.lt_or_le (dist l b a) 0 with d | d
    · omega
    · have := key b a d; omega
  · have k1 := key a b c
    have k2 := key b a k1.1
    omega
theorem dist_tri {l : List Ed} {a b c : Int} (h1 : 0 ≤ dist l a b) (h2 : 0 ≤ dist l b c) : 0 ≤ dist l a c ∧ dist l a c ≤ dist l a b + dist l b c := by
  have := dist_le (pth_trans (dist_pth h1) (dist_pth h2))
  omega
/-- What makes a distance from a the distance. -/
structure IsD (l : List Ed) (a : Int) (d : Int → Int) : Prop where
  zero : ∀ v, d v = 0 ↔ v = a
  neg : ∀ v, -1 ≤ d v
  down : ∀ v, 0 < d v → ∃ u, Lk l u v ∧ d u = d v - 1
  edge : ∀ u v, Lk l u v → 0 ≤ d u → 0 ≤ d v ∧ d v ≤ d u + 1
theorem isD_le {l : List Ed} {a : Int} {d e : Int → Int} (hd : IsD l a d) (he : IsD l a e) : ∀ (k : Nat) (v : Int), d v = k → 0 ≤ e v ∧ e v ≤ d v
  | 0, v, h => by
    have := (hd.zero v).1 (by omega)
    have := (he.zero v).2 this
    omega
  | k + 1, v, h => by
    obtain ⟨u, h1, h2⟩ := hd.down v (by omega)
    have := isD_le hd he k u (by omega)
    have := he.edge u v h1 this.1
    omega
theorem isD_one {l : List Ed} {a : Int} {d e : Int → Int} (hd : IsD l a d) (he : IsD l a e) (v : Int) : d v = e v := by
  have h1 := hd.neg v
  have h2 := he.neg v
  rcases Int.lt_or_le (d v) 0 with c | c
  · rcases Int.lt_or_le (e v) 0 with c2 | c2
    · omega
    · have := isD_le he hd (e v).toNat v (by omega); omega
  · have k1 := isD_le hd he (d v).toNat v (by omega)
    have k2 := isD_le he hd (e v).toNat v (by omega)
    omega
theorem dist_isD {l : List Ed} {a : Int} (h : Nd a) : IsD l a (dist l a) where
  zero v := dist_zero h v
  neg v := dist_neg l a v
  down v hv := by
    rcases dist_is l a v with ⟨h1, _⟩ | ⟨k, h1, h2, h3⟩
    · omega
    · cases k with
      | zero => omega
      | succ k =>
        obtain ⟨u, hu, hl⟩ := h2
        refine ⟨u, hl, ?_⟩
        have := dist_some hu (fun j hj hp => h3 (j + 1) (by omega) ⟨u, hp, hl⟩)
        omega
  edge u v hl hu := by
    have := dist_le (l := l) (k := (dist l a u).toNat + 1) (a := a) (b := v) ⟨u, dist_pth hu, hl⟩
    omega
theorem dist_eq {l : List Ed} {a : Int} (h : Nd a) {d : Int → Int} (hd : IsD l a d) (v : Int) : dist l a v = d v := isD_one (dist_isD h) hd v
theorem dist_one {l : List Ed} {a b : Int} : dist l a b = 1 ↔ Lk l a b := by
  constructor
  · intro e
    have hn := dist_node (l := l) (a := a) (b := b) (by omega)
    obtain ⟨u, h1, h2⟩ := (dist_isD (l := l) hn.1).down b (by omega)
    have := (dist_zero (l := l) hn.1 u).1 (by omega)
    rw [this] at h1; exact h1
  · intro h
    have hn := lk_node h
    have h0 := (dist_zero (l := l) hn.1.1 a).2 rfl
    have := (dist_isD hn.1.1).edge a b h (by omega)
    have : dist l a b ≠ 0 := fun e => hn.2 ((dist_zero hn.1.1 b).1 e).symm
    omega
theorem dist_eqv {l m : List Ed} (h : Eqv l m) (a b : Int) : dist l a b = dist m a b := by
  rcases dist_is l a b with ⟨h1, h2⟩ | ⟨k, h1, h2, h3⟩
  · rw [h1]
    rcases dist_is m a b with ⟨h4, _⟩ | ⟨k, h4, h5, _⟩
    · rw [h4]
    · exact absurd (pth_mono (fun a b => (h a b).2) h5) (h2 k)
  · rw [h1, dist_some (pth_mono (fun a b => (h a b).1) h2) (fun j hj hp => h3 j hj (pth_mono (fun a b => (h a b).2) hp))]
/-- Few numbers below k. -/
theorem few : ∀ (k : Nat) (L : List Nat), L.Nodup → (∀ v ∈ L, v < k) → L.length ≤ k
  | 0, L, _, h => by
    cases L with
    | nil => exact Nat.le_refl 0
    | cons x r => have := h x List.mem_cons_self; omega
  | k + 1, L, hn, h => by
    by_cases hk : k ∈ L
    · have := few k (L.erase k) (hn.erase k) fun v hv => by
        obtain ⟨h1, h2⟩ := hn.mem_erase_iff.1 hv
        have := h v h2; omega
      have := List.length_erase_of_mem hk
      omega
    · have := few k L hn fun v hv => by
        have := h v hv
        have : v ≠ k := fun e => hk (by rw [← e]; exact hv)
        omega
      omega
theorem dist_line {l : List Ed} {a : Int} (h : Nd a) : ∀ (k : Nat) (v : Int), dist l a v = k → ∃ L : List Nat, L.length = k + 1 ∧ L.Nodup ∧ ∀ x ∈ L, x < 251 ∧ 0 ≤ dist l a (x : Int) ∧ dist l a (x : Int) ≤ k
  | 0, v, e => by
    have hn := dist_node (l := l) (a := a) (b := v) (by omega)
    refine ⟨[v.toNat], rfl, by simp, fun x hx => ?_⟩
    rw [List.mem_singleton.1 hx]
    have hv : ((v.toNat : Nat) : Int) = v := by unfold Nd at hn; omega
    rw [hv]
    unfold Nd at hn
    omega
  | k + 1, v, e => by
    have hn := dist_node (l := l) (a := a) (b := v) (by omega)
    obtain ⟨u, hl, hu⟩ := (dist_isD (l := l) h).down v (by omega)
    obtain ⟨L, h1, h2, h3⟩ := dist_line (l := l) h k u (by omega)
    have hv : ((v.toNat : Nat) : Int) = v := by unfold Nd at hn; omega
    refine ⟨v.toNat :: L, by simp [h1], List.nodup_cons.2 ⟨fun hm => ?_, h2⟩, fun x hx => ?_⟩
    · have := (h3 _ hm).2.2
      rw [hv] at this
      omega
    · rcases List.mem_cons.1 hx with rfl | hx
      · rw [hv]
        unfold Nd at hn
        omega
      · have := h3 x hx; omega
theorem dist_max (l : List Ed) (a b : Int) : dist l a b ≤ 250 := by
  rcases Int.lt_or_le (dist l a b) 0 with c | c
  · omega
  · have hn := dist_node c
    obtain ⟨L, h1, h2, h3⟩ := dist_line (l := l) hn.1 (dist l a b).toNat b (by omega)
    have := few 251 L h2 fun v hv => (h3 v hv).1
    omega

/-! All nodes; lists of nodes. -/
def nds : List Int := (List.range 251).map fun (k : Nat) => (k : Int)
theorem mem_nds (v : Int) : v ∈ nds ↔ Nd v := by
  unfold nds Nd
  rw [List.mem_map]
  constructor
  · rintro ⟨k, hk, rfl⟩
    have := List.mem_range.1 hk
    omega
  · intro h
    exact ⟨v.toNat, List.mem_range.2 (by omega), by omega⟩
theorem nds_len : nds.length = 251 := by unfold nds; simp
theorem nds_at (k : Nat) (h : k < nds.length) : nds[k] = (k : Int) := by
  have h2 : k < 251 := by rw [nds_len] at h; exact h
  have : nds[k]? = some (k : Int) := by unfold nds; rw [List.getElem?_map, List.getElem?_range h2]; rfl
  rw [List.getElem?_eq_getElem h] at this
  exact Option.some.inj this
theorem nds_srt : nds.Pairwise (· < ·) := by
  unfold nds
  rw [List.pairwise_map]
  exact List.pairwise_lt_range.imp fun h => by omega
/-- Two ascending lists with the same members are one. -/
theorem asc_one : ∀ (t u : List Int), t.Pairwise (· < ·) → u.Pairwise (· < ·) → (∀ x, x ∈ t ↔ x ∈ u) → t = u := by
  intro t
  induction t with
  | nil =>
    intro u _ _ h
    cases u with
    | nil => rfl
    | cons b u => exact absurd ((h b).2 List.mem_cons_self) (by simp)
  | cons a t ih =>
    intro u ht hu h
    cases u with
    | nil => exact absurd ((h a).1 List.mem_cons_self) (by simp)
    | cons b u =>
      obtain ⟨l1, l2⟩ := List.pairwise_cons.1 ht
      obtain ⟨m1, m2⟩ := List.pairwise_cons.1 hu
      have e : a = b := by
        rcases List.mem_cons.1 ((h a).1 List.mem_cons_self) with e | h1
        · exact e
        · rcases List.mem_cons.1 ((h b).2 List.mem_cons_self) with e | h2
          · exact e.symm
          · have := l1 b h2; have := m1 a h1; omega
      subst e
      rw [ih u l2 m2 fun x => ⟨fun hx => ?_, fun hx => ?_⟩]
      · rcases List.mem_cons.1 ((h x).1 (List.mem_cons_of_mem _ hx)) with e | h1
        · have := l1 x hx; rw [e] at this; omega
        · exact h1
      · rcases List.mem_cons.1 ((h x).2 (List.mem_cons_of_mem _ hx)) with e | h1
        · have := m1 x hx; rw [e] at this; omega
        · exact h1
noncomputable section
open Classical
/-- The nodes with a property, ascending. -/
def sel (P : Int → Prop) : List Int := nds.filter fun v => decide (P v)
theorem mem_sel (P : Int → Prop) (v : Int) : v ∈ sel P ↔ Nd v ∧ P v := by unfold sel; rw [List.mem_filter, mem_nds]; simp
theorem sel_asc (P : Int → Prop) : (sel P).Pairwise (· < ·) := nds_srt.filter _
theorem sel_is {P : Int → Prop} {t : List Int} (h : t.Pairwise (· < ·)) (hm : ∀ v, v ∈ t ↔ Nd v ∧ P v) : t = sel P := asc_one _ _ h (sel_asc P) fun v => by rw [hm, mem_sel]
theorem sel_congr {P Q : Int → Prop} (h : ∀ v, Nd v → (P v ↔ Q v)) : sel P = sel Q := sel_is (sel_asc P) fun v => by
  rw [mem_sel]; exact ⟨fun ⟨h1, h2⟩ => ⟨h1, (h v h1).1 h2⟩, fun ⟨h1, h2⟩ => ⟨h1, (h v h1).2 h2⟩⟩
theorem sel_len (P : Int → Prop) : (sel P).length ≤ 251 := by unfold sel; have := List.length_filter_le (fun v => decide (P v)) nds; rw [nds_len] at this; exact this
/-- The nodes below k with the property: what a loop over the nodes has found. -/
def selU (P : Int → Prop) (k : Nat) : List Int := (nds.take k).filter fun v => decide (P v)
theorem selU_zero (P : Int → Prop) : selU P 0 = [] := rfl
theorem selU_all (P : Int → Prop) : selU P 251 = sel P := by unfold selU sel; rw [List.take_of_length_le (by rw [nds_len]; exact Nat.le_refl _)]
theorem selU_yes {P : Int → Prop} {k : Nat} (hk : k < 251) (h : P (k : Int)) : selU P (k + 1) = selU P k ++ [(k : Int)] := by
  unfold selU
  rw [List.take_succ_eq_append_getElem (by rw [nds_len]; exact hk), List.filter_append, nds_at]
  simp [h]
theorem selU_no {P : Int → Prop} {k : Nat} (hk : k < 251) (h : ¬ P (k : Int)) : selU P (k + 1) = selU P k := by
  unfold selU
  rw [List.take_succ_eq_append_getElem (by rw [nds_len]; exact hk), List.filter_append, nds_at]
  simp [h]
theorem selU_len (P : Int → Prop) (k : Nat) : (selU P k).length ≤ 251 := by
  unfold selU
  have := List.length_filter_le (fun v => decide (P v)) (nds.take k)
  have h2 := List.length_take_le k nds
  have := List.length_take_le' k nds
  rw [nds_len] at this
  omega

def near (l : List Ed) (n : Int) : List Int := sel fun v => Lk l n v
def reach (l : List Ed) (a : Int) : List Int := sel fun v => 0 ≤ dist l a v
theorem mem_near (l : List Ed) (n v : Int) : v ∈ near l n ↔ Lk l n v := by unfold near; rw [mem_sel]; exact ⟨fun h => h.2, fun h => ⟨(lk_node h).1.2, h⟩⟩
theorem mem_reach (l : List Ed) (a v : Int) : v ∈ reach l a ↔ 0 ≤ dist l a v := by unfold reach; rw [mem_sel]; exact ⟨fun h => h.2, fun h => ⟨(dist_node h).2, h⟩⟩
theorem near_eqv {l m : List Ed} (h : Eqv l m) (n : Int) : near l n = near m n := sel_congr fun v _ => h n v
theorem reach_eqv {l m : List Ed} (h : Eqv l m) (a : Int) : reach l a = reach m a := sel_congr fun v _ => by rw [dist_eqv h]

/-! Depth. -/
def dpU (l : List Ed) (a : Int) : Nat → Int
  | 0 => 0
  | k + 1 => if dpU l a k < dist l a (k : Int) then dist l a (k : Int) else dpU l a k
def depth (l : List Ed) (a : Int) : Int := dpU l a 251
theorem dpU_eqv {l m : List Ed} (h : Eqv l m) (a : Int) : ∀ k, dpU l a k = dpU m a k
  | 0 => rfl
  | k + 1 => by unfold dpU; rw [dpU_eqv h a k, dist_eqv h]
theorem dpU_in (l : List Ed) (a : Int) : ∀ k, 0 ≤ dpU l a k ∧ dpU l a k ≤ 250
  | 0 => by unfold dpU; omega
  | k + 1 => by
    have := dpU_in l a k
    have := dist_max l a (k : Int)
    unfold dpU
    split <;> omega
/-- What makes a number the depth. -/
theorem depth_is {l : List Ed} {a : Int} {m : Int} (h0 : 0 ≤ m) (hm : ∀ v, dist l a v ≤ m) (he : m = 0 ∨ ∃ v, dist l a v = m) : depth l a = m := by
  have up : ∀ k, dpU l a k ≤ m := fun k => by
    induction k with
    | zero => unfold dpU; exact h0
    | succ k ih => unfold dpU; have := hm (k : Int); split <;> omega
  have lo : ∀ k (j : Nat), j < k → dist l a (j : Int) ≤ dpU l a k := fun k => by
    induction k with
    | zero => intro j hj; omega
    | succ k ih =>
      intro j hj
      unfold dpU
      rcases Nat.lt_or_ge j k with c | c
      · have := ih j c; split <;> omega
      · obtain rfl : j = k := by omega
        split <;> omega
  have h1 := up 251
  unfold depth
  rcases he with rfl | ⟨v, rfl⟩
  · have := (dpU_in l a 251).1; omega
  · rcases Int.lt_or_le (dist l a v) 0 with c | c
    · have := (dpU_in l a 251).1; omega
    · have hn := (dist_node c).2
      have := lo 251 v.toNat (by unfold Nd at hn; omega)
      have hv : ((v.toNat : Nat) : Int) = v := by unfold Nd at hn; omega
      rw [hv] at this
      omega
theorem depth_eqv {l m : List Ed} (h : Eqv l m) (a : Int) : depth l a = depth m a := dpU_eqv h a 251

/-! Without; what is critical. -/
def wout (l : List Ed) (off : List Int) : List Ed := l.filter fun e => decide (Vd e ∧ ¬ (e.1 ∈ off ∨ e.2 ∈ off))
theorem lk_wout (l : List Ed) (off : List Int) (a b : Int) : Lk (wout l off) a b ↔ Lk l a b ∧ a ∉ off ∧ b ∉ off := by
  unfold Lk wout
  constructor
  · rintro ⟨e, h1, h2, h3⟩
    obtain ⟨h4, h5⟩ := List.mem_filter.1 h1
    have h5 := (of_decide_eq_true h5).2
    refine ⟨⟨e, h4, h2, h3⟩, ?_⟩
    rcases h3 with ⟨rfl, rfl⟩ | ⟨rfl, rfl⟩
    · exact ⟨fun h => h5 (Or.inl h), fun h => h5 (Or.inr h)⟩
    · exact ⟨fun h => h5 (Or.inr h), fun h => h5 (Or.inl h)⟩
  · rintro ⟨⟨e, h1, h2, h3⟩, h4, h5⟩
    refine ⟨e, List.mem_filter.2 ⟨h1, decide_eq_true ⟨h2, ?_⟩⟩, h2, h3⟩
    rcases h3 with ⟨rfl, rfl⟩ | ⟨rfl, rfl⟩
    · exact fun h => h.elim h4 h5
    · exact fun h => h.elim h5 h4
theorem wout_eqv {l m : List Ed} (h : Eqv l m) (off : List Int) : Eqv (wout l off) (wout m off) := fun a b => by rw [lk_wout, lk_wout, h]
theorem wout_len (l : List Ed) (off : List Int) : (wout l off).length ≤ l.length := List.length_filter_le _ _
theorem wout_mono (l : List Ed) (off : List Int) (a b : Int) (h : Lk (wout l off) a b) : Lk l a b := ((lk_wout l off a b).1 h).1
/-- Without edges no path becomes shorter. -/
theorem wout_dist (l : List Ed) (off : List Int) (a b : Int) : dist (wout l off) a b = -1 ∨ (0 ≤ dist l a b ∧ dist l a b ≤ dist (wout l off) a b) := by
  rcases Int.lt_or_le (dist (wout l off) a b) 0 with c | c
  · have := dist_neg (wout l off) a b; omega
  · have := dist_le (pth_mono (wout_mono l off) (dist_pth c)); omega
/-- A removed node reaches itself alone. -/
theorem wout_alone {l : List Ed} {off : List Int} {n : Int} (h : n ∈ off) (hn : Nd n) (v : Int) : 0 ≤ dist (wout l off) n v ↔ v = n := by
  have key : IsD (wout l off) n fun v => if v = n then 0 else -1 := {
    zero := fun v => by
      by_cases e : v = n
      · simp [e]
      · simp [e]
    neg := fun v => by split <;> omega
    down := fun v hv => by
      by_cases e : v = n
      · simp [e] at hv
      · simp [e] at hv
    edge := fun u v hl hu => by
      have hlk := (lk_wout l off u v).1 hl
      by_cases e : u = n
      · rw [e] at hlk; exact absurd h hlk.2.1
      · simp [e] at hu }
  rw [dist_eq hn key]
  by_cases e : v = n
  · simp [e]
  · simp [e]
theorem reach_alone {l : List Ed} {off : List Int} {n : Int} (h : n ∈ off) (hn : Nd n) : reach (wout l off) n = [n] := by
  refine asc_one _ _ (sel_asc _) (by simp) fun v => ?_
  rw [mem_reach, wout_alone h hn, List.mem_singleton]
/-- The critical nodes, as the reference has them. -/
def Crit (l : List Ed) (r c : Int) : Prop := (0 ≤ dist l r c ∧ c ≠ r) ∧ (reach (wout l [c]) r).length + 1 < (reach l r).length
def cut (l : List Ed) (r : Int) : List Int := sel fun c => Crit l r c
theorem cut_eqv {l m : List Ed} (h : Eqv l m) (r : Int) : cut l r = cut m r := sel_congr fun v _ => by
  unfold Crit
  rw [dist_eqv h, reach_eqv h, reach_eqv (wout_eqv h [v])]
theorem asc_len : ∀ (t u : List Int), t.Pairwise (· < ·) → u.Pairwise (· < ·) → (∀ x ∈ t, x ∈ u) → t.length ≤ u.length ∧ (t.length = u.length → t = u) := by
  intro t
  induction t with
  | nil => intro u _ _ _; exact ⟨Nat.zero_le _, fun h => (List.eq_nil_of_length_eq_zero h.symm).symm⟩
  | cons a t ih =>
    intro u ht hu h
    obtain ⟨l1, l2⟩ := List.pairwise_cons.1 ht
    -- a stands in u: u is what is before it, and it, and what is behind
    have ha := h a List.mem_cons_self
    have he : (u.erase a).Pairwise (· < ·) := hu.sublist List.erase_sublist
    have hn : u.Nodup := hu.imp fun h e => by omega
    have h2 := ih (u.erase a) l2 he fun x hx => by
      have := l1 x hx
      exact (hn.mem_erase_iff).2 ⟨by omega, h x (List.mem_cons_of_mem _ hx)⟩
    have hl := List.length_erase_of_mem ha
    have hp : 0 < u.length := List.length_pos_of_mem ha
    refine ⟨by rw [List.length_cons]; omega, fun e => asc_one _ _ ht hu fun x => ⟨h x, fun hx => ?_⟩⟩
    rw [List.length_cons] at e
    have e2 := h2.2 (by omega)
    by_cases hxa : x = a
    · rw [hxa]; exact List.mem_cons_self
    · rw [e2]; exact List.mem_cons_of_mem _ ((hn.mem_erase_iff).2 ⟨hxa, hx⟩)
/-- What makes a node critical, in the chapter's words. -/
theorem crit_iff {l : List Ed} {r c : Int} (hc : 0 ≤ dist l r c) (hne : c ≠ r) : (reach (wout l [c]) r).length + 1 < (reach l r).length ↔ ∃ v, v ≠ c ∧ 0 ≤ dist l r v ∧ dist (wout l [c]) r v = -1 := by
  have hr := (dist_node hc).1
  have hcm : c ∈ reach l r := (mem_reach l r c).2 hc
  have hn : (reach l r).Nodup := (sel_asc _).imp fun h e => by omega
  have hcn : dist (wout l [c]) r c = -1 := by
    rcases Int.lt_or_le (dist (wout l [c]) r c) 0 with q | q
    · have := dist_neg (wout l [c]) r c; omega
    · rw [dist_symm] at q
      exact absurd ((wout_alone (List.mem_singleton.2 rfl) (dist_node hc).2 r).1 q).symm hne
  have hsub : ∀ x ∈ reach (wout l [c]) r, x ∈ (reach l r).erase c := fun x hx => by
    have h1 := (mem_reach _ _ _).1 hx
    refine (hn.mem_erase_iff).2 ⟨fun e => ?_, (mem_reach _ _ _).2 ?_⟩
    · rw [e, hcn] at h1; omega
    · rcases wout_dist l [c] r x with q | q
      · omega
      · exact q.1
  have ha := asc_len (reach (wout l [c]) r) ((reach l r).erase c) (sel_asc _) ((sel_asc _).sublist List.erase_sublist) hsub
  have hl := List.length_erase_of_mem hcm
  have hp : 0 < (reach l r).length := List.length_pos_of_mem hcm
  constructor
  · intro h
    refine Classical.byContradiction fun hno => ?_
    have : ∀ x ∈ (reach l r).erase c, x ∈ reach (wout l [c]) r := fun x hx => by
      obtain ⟨h1, h2⟩ := (hn.mem_erase_iff).1 hx
      refine (mem_reach _ _ _).2 ?_
      rcases Int.lt_or_le (dist (wout l [c]) r x) 0 with q | q
      · exact absurd ⟨x, h1, (mem_reach _ _ _).1 h2, by have := dist_neg (wout l [c]) r x; omega⟩ hno
      · exact q
    have := (asc_len ((reach l r).erase c) (reach (wout l [c]) r) ((sel_asc _).sublist List.erase_sublist) (sel_asc _) this).1
    omega
  · rintro ⟨v, h1, h2, h3⟩
    rcases Nat.lt_or_ge ((reach (wout l [c]) r).length + 1) (reach l r).length with q | q
    · exact q
    · have he := ha.2 (by omega)
      have : v ∈ (reach l r).erase c := (hn.mem_erase_iff).2 ⟨h1, (mem_reach _ _ _).2 h2⟩
      rw [← he, mem_reach] at this
      omega

/-! Parents. -/
/-- The first of the nodes from k on with a property, or -1. -/
def Par (l : List Ed) (r n v : Int) : Prop := dist l r v = dist l r n - 1 ∧ Lk l n v
def parU (l : List Ed) (r n : Int) : Nat → Int
  | 0 => -1
  | k + 1 => if Par l r n ((250 - k : Nat) : Int) then ((250 - k : Nat) : Int) else parU l r n k
def parent (l : List Ed) (r n : Int) : Int := if Nd n ∧ 1 ≤ dist l r n then parU l r n 251 else -1
theorem parU_eqv {l m : List Ed} (h : Eqv l m) (r n : Int) : ∀ k, parU l r n k = parU m r n k
  | 0 => rfl
  | k + 1 => by
    have e : Par l r n ((250 - k : Nat) : Int) ↔ Par m r n ((250 - k : Nat) : Int) := by unfold Par; rw [dist_eqv h, dist_eqv h, h]
    unfold parU
    rw [parU_eqv h r n k]
    by_cases c : Par l r n ((250 - k : Nat) : Int)
    · rw [if_pos c, if_pos (e.1 c)]
    · rw [if_neg c, if_neg (fun d => c (e.2 d))]
theorem parent_eqv {l m : List Ed} (h : Eqv l m) (r n : Int) : parent l r n = parent m r n := by unfold parent; rw [dist_eqv h, parU_eqv h]
/-- What makes a node the parent. -/
theorem parU_is (l : List Ed) (r n : Int) : ∀ (k : Nat), k ≤ 251 → (parU l r n k = -1 ∧ ∀ v : Int, 251 - (k : Int) ≤ v → v ≤ 250 → ¬ Par l r n v) ∨
    (Par l r n (parU l r n k) ∧ (251 - (k : Int) ≤ parU l r n k ∧ parU l r n k ≤ 250) ∧ ∀ v : Int, 251 - (k : Int) ≤ v → v < parU l r n k → ¬ Par l r n v)
  | 0, _ => Or.inl ⟨rfl, fun v h1 h2 => by omega⟩
  | k + 1, hk => by
    have e : ((250 - k : Nat) : Int) = 250 - (k : Int) := by omega
    unfold parU
    by_cases h : Par l r n ((250 - k : Nat) : Int)
    · rw [if_pos h]
      exact Or.inr ⟨h, by omega, fun v h1 h2 => by omega⟩
    · rw [if_neg h]
      rw [e] at h
      rcases parU_is l r n k (by omega) with ⟨h1, h2⟩ | ⟨h1, h2, h3⟩
      · refine Or.inl ⟨h1, fun v h3 h4 => ?_⟩
        by_cases ev : v = 250 - (k : Int)
        · rw [ev]; exact h
        · exact h2 v (by omega) h4
      · refine Or.inr ⟨h1, by omega, fun v h4 h5 => ?_⟩
        by_cases ev : v = 250 - (k : Int)
        · rw [ev]; exact h
        · exact h3 v (by omega) h5
theorem parent_par {l : List Ed} {r n : Int} (h : 1 ≤ dist l r n) : Par l r n (parent l r n) ∧ Nd (parent l r n) ∧ ∀ v, 0 ≤ v → v < parent l r n → ¬ Par l r n v := by
  have hn := dist_node (l := l) (a := r) (b := n) (by omega)
  obtain ⟨u, h1, h2⟩ := (dist_isD (l := l) hn.1).down n (by omega)
  have hu := lk_node h1
  unfold parent
  rw [if_pos ⟨hn.2, h⟩]
  rcases parU_is l r n 251 (Nat.le_refl _) with ⟨_, h4⟩ | ⟨h3, h4, h5⟩
  · have hb := hu.1.1
    unfold Nd at hb
    exact absurd ⟨h2, lk_symm h1⟩ (h4 u (by omega) hb.2)
  · exact ⟨h3, ⟨by omega, by omega⟩, fun v h6 h7 => h5 v (by omega) h7⟩
theorem parent_none {l : List Ed} {r n : Int} (h : ¬ 1 ≤ dist l r n) : parent l r n = -1 := by
  unfold parent
  rw [if_neg fun h2 => h h2.2]
/-- The parent is the one node that is that. -/
theorem parent_eq {l : List Ed} {r n p : Int} (h : 1 ≤ dist l r n) (hp : Par l r n p) (hm : ∀ v, 0 ≤ v → v < p → ¬ Par l r n v) : parent l r n = p := by
  obtain ⟨h1, h2, h3⟩ := parent_par h
  have hn := (lk_node hp.2).1.2
  unfold Nd at h2 hn
  rcases Int.lt_trichotomy (parent l r n) p with c | c | c
  · exact absurd h1 (hm _ h2.1 c)
  · exact c
  · exact absurd hp (h3 _ hn.1 c)
end

/-! Check. -/
/-- The error of the edges from here on, those before being given. -/
def chkU (pre : List Ed) : List Ed → Int
  | [] => 0
  | e :: r => if Vd e then (if ∃ x ∈ pre, Sm x e.1 e.2 then 9 else chkU (pre ++ [e]) r) else 2
def chk (l : List Ed) : Int := if 256 < l.length then 3 else chkU [] l
end Go.Proofs.Ytcnmknhjmflinaa.Tpo
