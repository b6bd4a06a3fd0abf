/- Searching a graph breadth first, and what is found without a node; no program in sight. -/
import Derived.Test.YtcnmknhjmflinaaTPlain
set_option linter.unusedVariables false
namespace Go.Proofs.Ytcnmknhjmflinaa.Tpo
open Go.RowKit

/-- What makes numbers the distances from a, along E. -/
structure IsE (E : Int → Int → Prop) (a : Int) (d : Int → Int) : Prop where
  zero : ∀ v, d v = 0 ↔ v = a
  neg : ∀ v, -1 ≤ d v
  down : ∀ v, 0 < d v → ∃ u, E u v ∧ d u = d v - 1
  edge : ∀ u v, E u v → 0 ≤ d u → 0 ≤ d v ∧ d v ≤ d u + 1
theorem isE_D {l : List Ed} {a : Int} {d : Int → Int} {E : Int → Int → Prop} (h : IsE E a d) (hE : ∀ u v, E u v ↔ Lk l u v) : IsD l a d where
  zero := h.zero
  neg := h.neg
  down v hv := by obtain ⟨u, h1, h2⟩ := h.down v hv; exact ⟨u, (hE u v).1 h1, h2⟩
  edge u v hl hu := h.edge u v ((hE u v).2 hl) hu

/-- One number more of a function. -/
def upd (d : Int → Int) (v x : Int) : Int → Int := fun y => if y = v then x else d y
theorem upd_same (d : Int → Int) (v x : Int) : upd d v x v = x := by simp [upd]
theorem upd_other {d : Int → Int} {v x y : Int} (h : y ≠ v) : upd d v x y = d y := by simp [upd, h]

/-- Between two rounds: P is done, Q waits. -/
structure Bf (adj : Int → List Int) (a : Int) (P Q : List Int) (d : Int → Int) : Prop where
  nodup : (P ++ Q).Nodup
  nd : ∀ x ∈ P ++ Q, Nd x
  root : a ∈ P ++ Q
  d0 : d a = 0
  pos : ∀ x ∈ P ++ Q, x ≠ a → 1 ≤ d x ∧ ∃ u ∈ P ++ Q, x ∈ adj u ∧ d u = d x - 1
  asc : Q.Pairwise fun x y => d x ≤ d y
  done : ∀ u ∈ P, ∀ v ∈ adj u, v ∈ P ++ Q ∧ d v ≤ d u + 1
  wide : ∀ x r, Q = x :: r → ∀ y ∈ Q, d y ≤ d x + 1
  old : ∀ u ∈ P, ∀ y ∈ Q, d u ≤ d y
  le : ∀ y ∈ P ++ Q, d y ≤ P.length
/-- In a round: x is at its turn, its neighbors in 'dn' are done. -/
structure Bi (adj : Int → List Int) (a : Int) (P : List Int) (x : Int) (Q dn : List Int) (d : Int → Int) : Prop where
  nodup : (P ++ x :: Q).Nodup
  nd : ∀ y ∈ P ++ x :: Q, Nd y
  root : a ∈ P ++ x :: Q
  d0 : d a = 0
  pos : ∀ y ∈ P ++ x :: Q, y ≠ a → 1 ≤ d y ∧ ∃ u ∈ P ++ x :: Q, y ∈ adj u ∧ d u = d y - 1
  asc : Q.Pairwise fun y z => d y ≤ d z
  low : ∀ y ∈ Q, d x ≤ d y ∧ d y ≤ d x + 1
  done : ∀ u ∈ P, ∀ v ∈ adj u, v ∈ P ++ x :: Q ∧ d v ≤ d u + 1
  doneX : ∀ v ∈ dn, v ∈ P ++ x :: Q ∧ d v ≤ d x + 1
  old : ∀ u ∈ P, d u ≤ d x
  le : ∀ y ∈ P ++ x :: Q, d y ≤ P.length + 1
  leX : d x ≤ P.length
theorem bi_nonneg {adj : Int → List Int} {a : Int} {P : List Int} {x : Int} {Q dn : List Int} {d : Int → Int} (h : Bi adj a P x Q dn d) : 0 ≤ d x := by
  by_cases c : x = a
  · rw [c, h.d0]; omega
  · have := (h.pos x (by simp) c).1; omega
theorem nd_few {S : List Int} (hn : S.Nodup) (hi : ∀ x ∈ S, Nd x) : S.length ≤ 251 := by
  have h1 : (S.map Int.toNat).Nodup := by
    refine List.pairwise_map.2 (hn.imp_of_mem fun {x y} hx hy hne e => hne ?_)
    have := hi x hx
    have := hi y hy
    unfold Nd at *
    omega
  have := few 251 (S.map Int.toNat) h1 fun v hv => by
    obtain ⟨x, hx, rfl⟩ := List.mem_map.1 hv
    have := hi x hx
    unfold Nd at this
    omega
  simpa using this
theorem bf_start (adj : Int → List Int) {a : Int} (h : Nd a) : Bf adj a [] [a] (upd (fun _ => 0) a 0) where
  nodup := by simp
  nd x hx := by simp at hx; rw [hx]; exact h
  root := by simp
  d0 := upd_same _ _ _
  pos x hx hne := by simp at hx; exact absurd hx hne
  asc := by simp
  done u hu := by simp at hu
  wide x r e y hy := by
    simp at e hy
    rw [hy, e.1]; omega
  old u hu := by cases hu
  le y hy := by simp at hy; rw [hy, upd_same]; simp
theorem bf_round {adj : Int → List Int} {a : Int} {P : List Int} {x : Int} {Q : List Int} {d : Int → Int} (h : Bf adj a P (x :: Q) d) : Bi adj a P x Q [] d where
  nodup := h.nodup
  nd := h.nd
  root := h.root
  d0 := h.d0
  pos := h.pos
  asc := (List.pairwise_cons.1 h.asc).2
  low y hy := ⟨(List.pairwise_cons.1 h.asc).1 y hy, h.wide x Q rfl y (List.mem_cons_of_mem _ hy)⟩
  done := h.done
  doneX v hv := by cases hv
  old u hu := h.old u hu x List.mem_cons_self
  le y hy := by have := h.le y hy; omega
  leX := h.le x (by simp)
theorem bi_known {adj : Int → List Int} {a : Int} {P : List Int} {x : Int} {Q dn : List Int} {d : Int → Int} (h : Bi adj a P x Q dn d) {v : Int} (hv : v ∈ P ++ x :: Q) : Bi adj a P x Q (dn ++ [v]) d := {
  h with
  doneX := fun y hy => by
    rcases List.mem_append.1 hy with h1 | h1
    · exact h.doneX y h1
    · rw [List.mem_singleton.1 h1]
      refine ⟨hv, ?_⟩
      rcases List.mem_append.1 hv with h2 | h2
      · have := h.old v h2; omega
      · rcases List.mem_cons.1 h2 with rfl | h2
        · omega
        · exact (h.low v h2).2 }
theorem bi_new {adj : Int → List Int} {a : Int} {P : List Int} {x : Int} {Q dn : List Int} {d : Int → Int} (h : Bi adj a P x Q dn d) {v : Int} (hv : v ∉ P ++ x :: Q) (hn : Nd v) (hx : v ∈ adj x) :
    Bi adj a P x (Q ++ [v]) (dn ++ [v]) (upd d v (d x + 1)) := by
  have h0 := bi_nonneg h
  have e : P ++ x :: (Q ++ [v]) = (P ++ x :: Q) ++ [v] := by simp
  have k : ∀ y ∈ P ++ x :: Q, upd d v (d x + 1) y = d y := fun y hy => upd_other fun e => hv (e ▸ hy)
  have kx := k x (by simp)
  have ks := upd_same d v (d x + 1)
  have mQ : ∀ y ∈ Q, y ∈ P ++ x :: Q := fun y hy => by simp [hy]
  have mP : ∀ y ∈ P, y ∈ P ++ x :: Q := fun y hy => by simp [hy]
  refine ⟨?_, ?_, ?_, ?_, ?_, ?_, ?_, ?_, ?_, ?_, ?_, ?_⟩
  · rw [e]
    refine List.nodup_append.2 ⟨h.nodup, by simp, fun y hy z hz e2 => ?_⟩
    rw [List.mem_singleton.1 hz] at e2
    exact hv (e2 ▸ hy)
  · rw [e]
    intro y hy
    rcases List.mem_append.1 hy with h1 | h1
    · exact h.nd y h1
    · rw [List.mem_singleton.1 h1]; exact hn
  · rw [e]; exact List.mem_append_left _ h.root
  · rw [k a h.root]; exact h.d0
  · rw [e]
    intro y hy hne
    rcases List.mem_append.1 hy with h1 | h1
    · obtain ⟨h2, u, h3, h4, h5⟩ := h.pos y h1 hne
      rw [k y h1]
      exact ⟨h2, u, List.mem_append_left _ h3, h4, by rw [k u h3]; exact h5⟩
    · rw [List.mem_singleton.1 h1, ks]
      exact ⟨by omega, x, by simp, hx, by rw [kx]; omega⟩
  · refine List.pairwise_append.2 ⟨h.asc.imp_of_mem fun {y z} hy hz h1 => by rw [k y (mQ y hy), k z (mQ z hz)]; exact h1, by simp, fun y hy z hz => ?_⟩
    rw [List.mem_singleton.1 hz, ks, k y (mQ y hy)]
    exact (h.low y hy).2
  · intro y hy
    rw [kx]
    rcases List.mem_append.1 hy with h1 | h1
    · rw [k y (mQ y h1)]; exact h.low y h1
    · rw [List.mem_singleton.1 h1, ks]; omega
  · rw [e]
    intro u hu z hz
    obtain ⟨h1, h2⟩ := h.done u hu z hz
    rw [k u (mP u hu), k z h1]
    exact ⟨List.mem_append_left _ h1, h2⟩
  · rw [e, kx]
    intro y hy
    rcases List.mem_append.1 hy with h1 | h1
    · obtain ⟨h2, h3⟩ := h.doneX y h1
      rw [k y h2]
      exact ⟨List.mem_append_left _ h2, h3⟩
    · rw [List.mem_singleton.1 h1, ks]
      exact ⟨by simp, by omega⟩
  · intro u hu
    rw [kx, k u (mP u hu)]; exact h.old u hu
  · rw [e]
    intro y hy
    rcases List.mem_append.1 hy with h1 | h1
    · rw [k y h1]; exact h.le y h1
    · rw [List.mem_singleton.1 h1, ks]; have := h.leX; omega
  · rw [kx]; exact h.leX
theorem bi_end {adj : Int → List Int} {a : Int} {P : List Int} {x : Int} {Q : List Int} {d : Int → Int} (h : Bi adj a P x Q (adj x) d) : Bf adj a (P ++ [x]) Q d := by
  have e : P ++ [x] ++ Q = P ++ x :: Q := by simp
  refine ⟨by rw [e]; exact h.nodup, by rw [e]; exact h.nd, by rw [e]; exact h.root, h.d0, by rw [e]; exact h.pos, h.asc, ?_, ?_, ?_, ?_⟩
  · rw [e]
    intro u hu
    rcases List.mem_append.1 hu with h1 | h1
    · exact h.done u h1
    · rw [List.mem_singleton.1 h1]; exact h.doneX
  · intro z r er y hy
    have h1 := h.low z (by rw [er]; simp)
    have h2 := h.low y hy
    omega
  · intro u hu y hy
    have h2 := (h.low y hy).1
    rcases List.mem_append.1 hu with h1 | h1
    · have := h.old u h1; omega
    · rw [List.mem_singleton.1 h1]; exact h2
  · rw [e, List.length_append]
    intro y hy
    have := h.le y hy
    simp; omega
/-- What a search has found. -/
def fnd (S : List Int) (d : Int → Int) : Int → Option Value := fun v => if v ∈ S then some (.int .i64 (d v)) else none
theorem fnd_congr {S T : List Int} {d e : Int → Int} (h : ∀ v, v ∈ S ↔ v ∈ T) (hd : ∀ v ∈ S, d v = e v) (v : Int) : fnd S d v = fnd T e v := by
  unfold fnd
  by_cases hv : v ∈ S
  · rw [if_pos hv, if_pos ((h v).1 hv), hd v hv]
  · rw [if_neg hv, if_neg (fun h2 => hv ((h v).2 h2))]
theorem fnd_yes {S : List Int} {d : Int → Int} {v : Int} (h : v ∈ S) : fnd S d v = some (.int .i64 (d v)) := if_pos h
theorem fnd_no {S : List Int} {d : Int → Int} {v : Int} (h : v ∉ S) : fnd S d v = none := if_neg h
theorem fnd_put {S : List Int} {d : Int → Int} {v x : Int} (y : Int) : (if y = v then some (.int .i64 x) else fnd S d y) = fnd (S ++ [v]) (upd d v x) y := by
  unfold fnd upd
  by_cases e : y = v
  · simp [e]
  · simp [e]
theorem bf_nonneg {adj : Int → List Int} {a : Int} {P Q : List Int} {d : Int → Int} (h : Bf adj a P Q d) : ∀ x ∈ P ++ Q, 0 ≤ d x := fun x hx => by
  by_cases c : x = a
  · rw [c, h.d0]; omega
  · have := (h.pos x hx c).1; omega
/-- The end of a search. -/
theorem bf_end {adj : Int → List Int} {a : Int} {P : List Int} {d : Int → Int} (h : Bf adj a P [] d) : IsE (fun u v => v ∈ adj u) a (fun v => if v ∈ P then d v else -1) := by
  have e : P ++ [] = P := List.append_nil P
  have hp := h.pos
  have hr := h.root
  have hd := h.done
  rw [e] at hp hr hd
  have key : ∀ v ∈ P, 0 ≤ d v := fun v hv => by
    by_cases c : v = a
    · rw [c, h.d0]; omega
    · have := (hp v hv c).1; omega
  refine ⟨fun v => ?_, fun v => ?_, fun v hv => ?_, fun u v hl hu => ?_⟩
  · by_cases hv : v ∈ P
    · simp only [if_pos hv]
      by_cases c : v = a
      · rw [c, h.d0]; simp
      · have := (hp v hv c).1
        exact ⟨fun e => by omega, fun e => absurd e c⟩
    · simp only [if_neg hv]
      exact ⟨fun e => by omega, fun e => absurd (e ▸ hr) hv⟩
  · by_cases hv : v ∈ P
    · simp only [if_pos hv]; have := key v hv; omega
    · simp only [if_neg hv]; omega
  · by_cases hm : v ∈ P
    · simp only [if_pos hm] at hv ⊢
      have hne : v ≠ a := fun e => by rw [e, h.d0] at hv; omega
      obtain ⟨_, u, h1, h2, h3⟩ := hp v hm hne
      exact ⟨u, h2, by simp only [if_pos h1]; exact h3⟩
    · simp only [if_neg hm] at hv; omega
  · by_cases hm : u ∈ P
    · simp only [if_pos hm]
      obtain ⟨h1, h2⟩ := hd u hm v hl
      simp only [if_pos h1]
      exact ⟨key v h1, h2⟩
    · simp only [if_neg hm] at hu; omega

/-! Without a node. -/
theorem cut_isD {l : List Ed} {r c : Int} {d : Int → Int} (hne : c ≠ r) (h : IsE (fun u v => Lk l u v ∧ u ≠ c) r d) : IsD (wout l [c]) r (fun v => if v = c then -1 else d v) where
  zero v := by
    by_cases e : v = c
    · simp only [if_pos e]; exact ⟨fun h => by omega, fun h => absurd (e ▸ h) hne⟩
    · simp only [if_neg e]; exact h.zero v
  neg v := by
    by_cases e : v = c
    · simp only [if_pos e]; omega
    · simp only [if_neg e]; exact h.neg v
  down v hv := by
    by_cases e : v = c
    · simp only [if_pos e] at hv; omega
    · simp only [if_neg e] at hv ⊢
      obtain ⟨u, ⟨h1, h2⟩, h3⟩ := h.down v hv
      refine ⟨u, (lk_wout l [c] u v).2 ⟨h1, by simpa using h2, by simpa using e⟩, ?_⟩
      simp only [if_neg h2]; exact h3
  edge u v hl hu := by
    obtain ⟨h1, h2, h3⟩ := (lk_wout l [c] u v).1 hl
    have h2 : u ≠ c := by simpa using h2
    have h3 : v ≠ c := by simpa using h3
    simp only [if_neg h2] at hu ⊢
    simp only [if_neg h3]
    exact h.edge u v ⟨h1, h2⟩ hu
theorem cut_node {l : List Ed} {r c : Int} {d : Int → Int} (hc : 0 ≤ dist l r c) (h : IsE (fun u v => Lk l u v ∧ u ≠ c) r d) (hne : c ≠ r) : 0 ≤ d c := by
  have hr := (dist_node hc).1
  have key : ∀ (k : Nat) (v : Int), dist l r v = k → (k : Int) < dist l r c → 0 ≤ d v := fun k => by
    induction k with
    | zero =>
      intro v hv _
      have := (dist_zero (l := l) hr v).1 hv
      rw [(h.zero v).2 this]; omega
    | succ k ih =>
      intro v hv hk
      obtain ⟨u, h1, h2⟩ := (dist_isD (l := l) hr).down v (by omega)
      have hu : dist l r u = k := by omega
      have := ih u hu (by omega)
      exact (h.edge u v ⟨h1, fun e => by rw [e] at hu; omega⟩ this).1
  have hpos : 0 < dist l r c := by
    rcases Int.lt_or_le 0 (dist l r c) with q | q
    · exact q
    · exact absurd ((dist_zero (l := l) hr c).1 (by omega)) hne
  obtain ⟨u, h1, h2⟩ := (dist_isD (l := l) hr).down c hpos
  have := key (dist l r u).toNat u (by omega) (by omega)
  exact (h.edge u c ⟨h1, fun e => by rw [e] at h2; omega⟩ this).1
noncomputable section
open Classical
/-- How many are found without a node that is counted itself. -/
theorem cut_count {l : List Ed} {r c : Int} {d : Int → Int} (hc : 0 ≤ dist l r c) (hne : c ≠ r) (h : IsE (fun u v => Lk l u v ∧ u ≠ c) r d) : (sel fun v => 0 ≤ d v).length = (reach (wout l [c]) r).length + 1 := by
  have hr := (dist_node hc).1
  have hD : ∀ v, dist (wout l [c]) r v = (if v = c then -1 else d v) := dist_eq hr (cut_isD hne h)
  have hcm : c ∈ sel fun v => 0 ≤ d v := (mem_sel _ _).2 ⟨(dist_node hc).2, cut_node hc h hne⟩
  have hn : (sel fun v => 0 ≤ d v).Nodup := (sel_asc _).imp fun h e => by omega
  have he : (sel fun v => 0 ≤ d v).erase c = reach (wout l [c]) r := by
    refine asc_one _ _ ((sel_asc _).sublist List.erase_sublist) (sel_asc _) fun x => ?_
    rw [hn.mem_erase_iff, mem_sel, mem_reach, hD]
    constructor
    · rintro ⟨h1, h2, h3⟩; rw [if_neg h1]; exact h3
    · intro h1
      by_cases e : x = c
      · rw [if_pos e] at h1; omega
      · rw [if_neg e] at h1
        refine ⟨e, ?_, h1⟩
        have : 0 ≤ dist (wout l [c]) r x := by rw [hD, if_neg e]; exact h1
        exact (dist_node this).2
  have h1 := List.length_erase_of_mem hcm
  have h2 := List.length_pos_of_mem hcm
  rw [he] at h1
  omega
theorem sel_reach {l : List Ed} {a : Int} {d : Int → Int} (ha : Nd a) (h : IsD l a d) : (sel fun v => 0 ≤ d v) = reach l a := sel_congr fun v _ => by rw [dist_eq ha h]
end
end Go.Proofs.Ytcnmknhjmflinaa.Tpo
