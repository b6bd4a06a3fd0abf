/- The mathematics of Apart. -/
import Derived.Test.YtljcjflbfjleoaaFgO
set_option linter.unusedVariables false
namespace Go.Proofs.Ytljcjflbfjleoaa.Frg
open Go.RowKit

/-- The pieces below i have arrived. -/
def upto (n i : Nat) : List Bool := List.replicate i true ++ List.replicate (n - i) false
theorem upto_len {n i : Nat} (h : i ≤ n) : (upto n i).length = n := by unfold upto; simp; omega
theorem upto_nT (n i : Nat) : nT (upto n i) = i := by unfold upto nT; rw [List.filter_append, List.filter_replicate, List.filter_replicate]; simp
theorem upto_get {n i : Nat} (h : i < n) : (upto n i).getD i false = false := by
  unfold upto
  rw [List.getD, List.getElem?_append_right (by simp)]
  simp [show 0 < n - i by omega]
theorem upto_set {n i : Nat} (h : i < n) : (upto n i).set i true = upto n (i + 1) := by
  unfold upto
  obtain ⟨m, hm⟩ : ∃ m, n - i = m + 1 := ⟨n - i - 1, by omega⟩
  rw [hm, show n - (i + 1) = m by omega, List.set_append, if_neg (by simp), List.length_replicate, Nat.sub_self, List.replicate_succ, List.set_cons_zero, List.replicate_succ' (n := i), List.append_assoc, List.singleton_append]
theorem upto_zero (n : Nat) : upto n 0 = List.replicate n false := by unfold upto; simp
/-- One message's share of the list when its pieces below i have arrived. -/
def Side (s : ByteArray) (src id : Int) (i : Nat) (a : List Pt) : Prop :=
  (i = 0 ∧ a = []) ∨ (0 < i ∧ i < cnt s.size ∧ ∃ t, 0 ≤ t ∧ t ≤ 1099511627776 ∧ a = [ent s src id t (upto (cnt s.size) i)]) ∨ (cnt s.size ≤ i ∧ a = [])
theorem side_zero (s : ByteArray) (src id : Int) : Side s src id 0 [] := Or.inl ⟨rfl, rfl⟩
theorem side_past {s : ByteArray} {src id : Int} {i : Nat} {a : List Pt} (h : Side s src id i a) (hc : cnt s.size ≤ i) : Side s src id (i + 1) a := by
  rcases h with ⟨_, h⟩ | ⟨_, h, _⟩ | ⟨_, h⟩
  · exact Or.inr (Or.inr ⟨by omega, h⟩)
  · omega
  · exact Or.inr (Or.inr ⟨by omega, h⟩)
theorem side_end {s : ByteArray} {src id : Int} {i : Nat} {a : List Pt} (h : Side s src id i a) (hc : cnt s.size ≤ i) : a = [] := by
  rcases h with ⟨_, h⟩ | ⟨_, h, _⟩ | ⟨_, h⟩
  · exact h
  · omega
  · exact h
theorem side_ok {s : ByteArray} {src id : Int} {i : Nat} {a : List Pt} (hs : s.size ≤ 1000) (hi : 0 ≤ id ∧ id ≤ 255) (h : Side s src id i a) : a.length ≤ 1 ∧ ∀ x ∈ a, Valid x ∧ x.s = src ∧ x.i = id := by
  rcases h with ⟨_, rfl⟩ | ⟨h0, h1, t, t0, t1, rfl⟩ | ⟨_, rfl⟩
  · exact ⟨Nat.zero_le _, fun x hx => by cases hx⟩
  · refine ⟨by simp, fun x hx => ?_⟩
    rw [List.mem_singleton.1 hx]
    exact ⟨ent_valid s src id t _ hs hi ⟨t0, t1⟩ (upto_len (by omega)) (by rw [upto_nT]; omega) (by rw [upto_nT]; omega), rfl, rfl⟩
  · exact ⟨Nat.zero_le _, fun x hx => by cases hx⟩
/-- Two shares beside each other. -/
theorem side_two {s t : ByteArray} {src id src2 id2 : Int} {i j : Nat} {a b : List Pt} (hs : s.size ≤ 1000) (ht : t.size ≤ 1000) (hi : 0 ≤ id ∧ id ≤ 255) (hi2 : 0 ≤ id2 ∧ id2 ≤ 255) (hk : ¬ (src = src2 ∧ id = id2)) (h : Side s src id i a) (h2 : Side t src2 id2 j b) :
    Ok (a ++ b) ∧ has a src2 id2 = false ∧ has b src id = false ∧ a.length ≤ 1 ∧ b.length ≤ 1 := by
  obtain ⟨l1, v1⟩ := side_ok hs hi h
  obtain ⟨l2, v2⟩ := side_ok ht hi2 h2
  have p1 : ∀ {l : List Pt}, l.length ≤ 1 → l.Pairwise fun x y => ¬ (x.s = y.s ∧ x.i = y.i) := fun {l} hl => by
    match l, hl with
    | [], _ => exact List.Pairwise.nil
    | [x], _ => exact List.pairwise_singleton _ _
  refine ⟨⟨fun x hx => ?_, List.pairwise_append.2 ⟨p1 l1, p1 l2, fun x hx y hy => ?_⟩, by rw [List.length_append]; omega⟩, has_false.2 fun x hx => ?_, has_false.2 fun x hx => ?_, l1, l2⟩
  · rcases List.mem_append.1 hx with h | h
    · exact (v1 x h).1
    · exact (v2 x h).1
  · rw [(v1 x hx).2.1, (v1 x hx).2.2, (v2 y hy).2.1, (v2 y hy).2.2]
    exact hk
  · rw [(v1 x hx).2.1, (v1 x hx).2.2]
    exact hk
  · rw [(v2 x hx).2.1, (v2 x hx).2.2]
    exact fun q => hk ⟨q.1.symm, q.2.symm⟩
theorem side_step {s : ByteArray} {src id now : Int} {i : Nat} {X Y a : List Pt} (hs : s.size ≤ 1000) (hi : 0 ≤ id ∧ id ≤ 255) (h : Side s src id i a) (hl : i < cnt s.size) (hO : Ok (X ++ a ++ Y)) (hX : has X src id = false) (h0 : i = 0 → Y = []) (hx : X.length ≤ 7) :
    ∃ a', Side s src id (i + 1) a' ∧ add (X ++ a ++ Y) src now (piece s id i) = (X ++ a' ++ Y, (if i + 1 = cnt s.size then s else eb), decide (i + 1 = cnt s.size), 0) := by
  rcases h with ⟨rfl, rfl⟩ | ⟨p0, _, t, t0, t1, rfl⟩ | ⟨hc, _⟩
  · obtain rfl := h0 rfl
    rw [List.append_nil, List.append_nil] at hO ⊢
    by_cases c1 : cnt s.size = 1
    · refine ⟨[], Or.inr (Or.inr ⟨by omega, rfl⟩), ?_⟩
      rw [add_alone s src id now X hs hi c1 hO hX, if_pos c1.symm, List.append_nil, List.append_nil]
      simp [c1]
    · have ti := tick_in now
      refine ⟨[ent s src id (tick now) (upto (cnt s.size) 1)], Or.inr (Or.inl ⟨by omega, by omega, tick now, ti.1, ti.2, rfl⟩), ?_⟩
      rw [add_first s src id now 0 X hs hi hl (by omega) hO hx hX, if_neg (by omega), ← upto_zero, upto_set hl, List.append_nil]
      simp [Ne.symm c1]
  · have e : ∀ (x : Pt), X ++ [x] ++ Y = X ++ x :: Y := fun x => by simp
    rw [e] at hO ⊢
    rw [add_step s src id t now _ i X Y hs hi (upto_len (by omega)) hl (by omega) hO, if_neg (by rw [upto_get hl]; decide), upto_nT, upto_set hl]
    by_cases q : i + 1 = cnt s.size
    · refine ⟨[], Or.inr (Or.inr ⟨by omega, rfl⟩), ?_⟩
      rw [if_pos q, if_pos q, List.append_nil]
      simp [q]
    · refine ⟨[ent s src id t (upto (cnt s.size) (i + 1))], Or.inr (Or.inl ⟨by omega, by omega, t, t0, t1, rfl⟩), ?_⟩
      rw [if_neg q, if_neg q, e]
      simp [q]
  · omega
theorem side_start {s : ByteArray} {src id : Int} {a : List Pt} (h : Side s src id 0 a) : a = [] := by
  rcases h with ⟨_, h⟩ | ⟨h, _⟩ | ⟨_, h⟩
  · exact h
  · omega
  · exact h
end Go.Proofs.Ytljcjflbfjleoaa.Frg
