/- Package topo: Near: numbers sorted, each once. -/
import Derived.Test.YtcnmknhjmflinaaTW
import Derived.Test.YtcnmknhjmflinaaNShelf
import Derived.Lib.SlicesCompact
import Derived.Lib.SlKeysI
set_option linter.unusedVariables false
namespace Go.Proofs.Ytcnmknhjmflinaa.Tpo
open Go.RowKit

theorem icomp (d : Array Int) (hd : ∀ i j, i ≤ j → j < d.size → d[i]! ≤ d[j]!) : ∀ m, m ≤ d.size →
    (Lib.compactUpTo d m).Pairwise (· < ·) ∧ (∀ x, x ∈ Lib.compactUpTo d m ↔ ∃ j, j < m ∧ d[j]! = x) := by
  intro m
  induction m with
  | zero => intro _; refine ⟨?_, fun x => ?_⟩ <;> simp [Lib.compactUpTo]
  | succ m ih =>
    intro hm
    obtain ⟨h1, h2⟩ := ih (by omega)
    rw [Lib.compactUpTo_succ]
    by_cases hk : Lib.keeps d m = true
    · rw [if_pos hk]
      refine ⟨?_, fun x => ?_⟩
      · refine List.pairwise_append.2 ⟨h1, List.pairwise_singleton _ _, fun a ha b hb => ?_⟩
        obtain rfl := List.mem_singleton.1 hb
        obtain ⟨j, hj, rfl⟩ := (h2 a).1 ha
        have hk2 := of_decide_eq_true hk
        have h3 : d[m - 1]! ≠ d[m]! := by
          rcases hk2 with h | h
          · omega
          · exact Ne.symm h
        have h4 := hd j (m - 1) (by omega) (by omega)
        have h5 := hd (m - 1) m (by omega) (by omega)
        omega
      · rw [List.mem_append, h2, List.mem_singleton]
        constructor
        · rintro (⟨j, hj, e⟩ | e)
          · exact ⟨j, by omega, e⟩
          · exact ⟨m, by omega, e.symm⟩
        · rintro ⟨j, hj, e⟩
          by_cases hjm : j = m
          · subst hjm; exact Or.inr e.symm
          · exact Or.inl ⟨j, by omega, e⟩
    · rw [if_neg hk, List.append_nil]
      refine ⟨h1, fun x => ?_⟩
      rw [h2]
      constructor
      · rintro ⟨j, hj, e⟩; exact ⟨j, by omega, e⟩
      · rintro ⟨j, hj, e⟩
        by_cases hjm : j = m
        · subst hjm
          have hk2 := of_decide_eq_false (Bool.eq_false_iff.2 hk)
          have h0 : 0 < j := by
            rcases Nat.eq_zero_or_pos j with c | c
            · exact absurd (Or.inl c) hk2
            · exact c
          have h3 : d[j]! = d[j - 1]! := by
            rcases Int.lt_trichotomy d[j]! d[j - 1]! with c | c | c
            · exact absurd (Or.inr (by omega)) hk2
            · exact c
            · exact absurd (Or.inr (by omega)) hk2
          exact ⟨j - 1, by omega, by rw [← h3]; exact e⟩
        · exact ⟨j, by omega, e⟩
theorem icompact (l : List Int) : (Lib.compact (l.mergeSort fun x y => decide (x ≤ y))).Pairwise (· < ·) ∧ ∀ x, x ∈ Lib.compact (l.mergeSort fun x y => decide (x ≤ y)) ↔ x ∈ l := by
  have h1 := List.pairwise_mergeSort (le := fun x y : Int => decide (x ≤ y)) (fun a b c h1 h2 => by simp only [decide_eq_true_eq] at *; omega) (fun a b => by simp only [Bool.or_eq_true, decide_eq_true_eq]; omega) l
  have hp : (l.mergeSort fun x y => decide (x ≤ y)).Perm l := List.mergeSort_perm _ _
  generalize (l.mergeSort fun x y => decide (x ≤ y)) = s at *
  have hs : ∀ i j, i ≤ j → j < s.toArray.size → s.toArray[i]! ≤ s.toArray[j]! := fun i j hij hj => by
    have hj' : j < s.length := by simpa using hj
    rw [getElem!_pos s.toArray i (by simp; omega), getElem!_pos s.toArray j hj]
    simp only [List.getElem_toArray]
    by_cases e : i = j
    · subst e; omega
    · have := List.pairwise_iff_getElem.1 h1 i j (by omega) hj' (by omega)
      simpa using this
  obtain ⟨k1, k2⟩ := icomp s.toArray hs s.length (by simp)
  refine ⟨k1, fun x => ?_⟩
  show x ∈ Lib.compactUpTo s.toArray s.length ↔ _
  rw [k2, ← hp.mem_iff]
  constructor
  · rintro ⟨j, hj, e⟩
    rw [getElem!_pos s.toArray j (by simpa using hj)] at e
    simp only [List.getElem_toArray] at e
    rw [← e]; exact List.getElem_mem hj
  · intro h
    obtain ⟨j, hj, e⟩ := List.getElem_of_mem h
    refine ⟨j, hj, ?_⟩
    rw [getElem!_pos s.toArray j (by simpa using hj)]
    simpa using e
theorem compact_len (l : List Int) : (Lib.compact l).length ≤ l.length := by
  show (((List.range l.length).filter (Lib.keeps l.toArray)).map _).length ≤ _
  rw [List.length_map]
  have := List.length_filter_le (Lib.keeps l.toArray) (List.range l.length)
  rw [List.length_range] at this
  exact this
theorem ownsRow_cut {w : World} {B : Nat} {e : TypeId} {g cap n : Nat} {xs : List Value} (h : w.ownsRow B e 1 (.slice (some ⟨g, 0, none⟩) n cap) n xs) (k : Nat) (hk : k ≤ n) :
    w.ownsRow B e 1 (.slice (some ⟨g, 0, none⟩) k cap) k (xs.take k) := by
  obtain ⟨h1, h2⟩ := h
  refine ⟨by rw [List.length_take]; omega, ?_⟩
  rcases h2 with ⟨h0, _⟩ | ⟨g', cap', cur, hv, a, b, c, d, f, t⟩
  · cases h0
  · cases hv
    refine .inr ⟨g, cap, cur, rfl, a, b, by omega, d, f, ?_⟩
    rw [← t, List.take_take]
    congr 1; omega
/-- 'slices.Sort' of a row of the call's own. -/
theorem psort_any {w : World} {B : Nat} {v : Value} {l : List Int} (h : OwnI w B v l) (hl : l.length ≤ 1000000) (hB : B ≤ w.heap.size) : Calls Try.prog 46 #[v] w fun e w' => e = .returned (.tuple #[]) ∧ OwnI w' B v (l.mergeSort fun x y => decide (x ≤ y)) ∧ Below B w w' := by
  have hm : ∀ a ∈ l.mergeSort fun x y => decide (x ≤ y), I64 a := fun a ha => h.2 a ((List.mergeSort_perm l _).mem_iff.1 ha)
  have hlen := List.length_mergeSort (le := fun x y => decide (x ≤ y)) l
  rcases h.1.2 with ⟨hv, h0⟩ | ⟨g, cap, cur, rfl, hg, hh, h1, h2, h3, h4⟩
  · obtain rfl : l = [] := List.eq_nil_of_length_eq_zero h0
    subst hv
    refine (Try.slices_Sort_int_none none 0 w).mono ?_
    rintro e w' ⟨rfl, rfl⟩
    exact ⟨rfl, by simpa using h, Below.refl _ _⟩
  · have hgl : g < w.heap.size := (Array.getElem?_eq_some_iff.1 hh).1
    have h4' : cur.toList.take l.length = l.map encZ := by
      have e : l.length * fI.sz = l.length := by show l.length * 1 = l.length; omega
      rw [e, fI_flat] at h4; exact h4
    refine (Try.slices_Sort_int g 0 cap l w (holds_of_block_i hh h4') hgl (by omega)).mono ?_
    rintro e w' ⟨rfl, n, os, rfl⟩
    refine ⟨rfl, ⟨?_, hm⟩, ?_⟩
    · rw [fI_flat, hlen]
      exact ownsRow_sorted_i (by rw [hlen]) hg hh h1 h2 h3
    · exact (Below.refl B w).grown (grownBy_sorted_i _) hB (fun j hj => by cases hj; exact hg)
/-- 'slices.Compact' of a row of the call's own. -/
theorem pcomp_any {w : World} {B : Nat} {v : Value} {l : List Int} (h : OwnI w B v l) (hl : l.length ≤ 1000000) (hB : B ≤ w.heap.size) : Calls Try.prog 47 #[v] w fun e w' => ∃ v', e = .returned v' ∧ OwnI w' B v' (Lib.compact l) ∧ Below B w w' := by
  rcases h.1.2 with ⟨hv, h0⟩ | ⟨g, cap, cur, rfl, hg, hh, h1, h2, h3, h4⟩
  · obtain rfl : l = [] := List.eq_nil_of_length_eq_zero h0
    subst hv
    refine (Try.slices_Compact_int_empty none 0 w).mono ?_
    rintro e w' ⟨rfl, rfl⟩
    exact ⟨_, rfl, by simpa [Lib.compact, Lib.compactUpTo] using h, Below.refl _ _⟩
  · have hgl : g < w.heap.size := (Array.getElem?_eq_some_iff.1 hh).1
    have h4' : cur.toList.take l.length = l.map encZ := by
      have e : l.length * fI.sz = l.length := by show l.length * 1 = l.length; omega
      rw [e, fI_flat] at h4; exact h4
    have hk := compact_len l
    have hm : ∀ a ∈ Lib.compact l, I64 a := fun a ha => by
      unfold Lib.compact Lib.compactUpTo at ha
      obtain ⟨j, hj, rfl⟩ := List.mem_map.1 ha
      have hjl : j < l.length := List.mem_range.1 (List.mem_filter.1 hj).1
      rw [getElem!_pos l.toArray j (by simpa using hjl)]
      simp only [List.getElem_toArray]
      exact h.2 _ (List.getElem_mem hjl)
    refine (Try.slices_Compact_int g 0 cap l w (holds_of_block_i hh h4') (by omega) h1).mono ?_
    rintro e w' ⟨rfl, q, rfl⟩
    refine ⟨_, rfl, ⟨?_, hm⟩, ?_⟩
    · rw [fI_flat, ← Sort.grow_empty (Sort.putRow (Value.int .i64) (Sort.ahead w q) g 0 _)]
      have hlen : (Lib.compact l ++ List.replicate (l.length - (Lib.compact l).length) 0).length = l.length := by
        rw [List.length_append, List.length_replicate]; omega
      have := ownsRow_cut (ownsRow_sorted_i (ss := l) (os := #[]) (n := q) hlen hg hh h1 h2 h3) (Lib.compact l).length hk
      rw [List.map_append, List.take_left' (by rw [List.length_map])] at this
      exact this
    · rw [← Sort.grow_empty (Sort.putRow (Value.int .i64) (Sort.ahead w q) g 0 _)]
      exact (Below.refl B w).grown (grownBy_sorted_i _) hB (fun j hj => by cases hj; exact hg)

/-- The other ends of a node's links, in order. -/
def nbr (l : List Ed) (n : Int) : List Int := l.flatMap fun e => if Vd e then (if n = e.1 then [e.2] else if n = e.2 then [e.1] else []) else []
theorem nbr_take (l : List Ed) (n : Int) (k : Nat) (h : k < l.length) : nbr (l.take (k + 1)) n = nbr (l.take k) n ++ (if Vd l[k] then (if n = l[k].1 then [l[k].2] else if n = l[k].2 then [l[k].1] else []) else []) := by
  unfold nbr
  rw [List.take_succ_eq_append_getElem h, List.flatMap_append]
  simp
theorem mem_nbr (l : List Ed) (n v : Int) : v ∈ nbr l n ↔ Lk l n v := by
  unfold nbr Lk Sm
  rw [List.mem_flatMap]
  constructor
  · rintro ⟨e, h1, h2⟩
    by_cases hv : Vd e
    · rw [if_pos hv] at h2
      by_cases c1 : n = e.1
      · rw [if_pos c1] at h2
        exact ⟨e, h1, hv, Or.inl ⟨c1.symm, (List.mem_singleton.1 h2).symm⟩⟩
      · rw [if_neg c1] at h2
        by_cases c2 : n = e.2
        · rw [if_pos c2] at h2
          exact ⟨e, h1, hv, Or.inr ⟨(List.mem_singleton.1 h2).symm, c2.symm⟩⟩
        · rw [if_neg c2] at h2; cases h2
    · rw [if_neg hv] at h2; cases h2
  · rintro ⟨e, h1, hv, h2⟩
    refine ⟨e, h1, ?_⟩
    rw [if_pos hv]
    rcases h2 with ⟨rfl, rfl⟩ | ⟨rfl, rfl⟩
    · simp
    · rw [if_neg (fun h => hv.2 h.symm)]; simp
theorem nbr_len (l : List Ed) (n : Int) : (nbr l n).length ≤ l.length := by
  induction l with
  | nil => exact Nat.le_refl _
  | cons e l ih =>
    have e1 : nbr (e :: l) n = (if Vd e then (if n = e.1 then [e.2] else if n = e.2 then [e.1] else []) else []) ++ nbr l n := by unfold nbr; rw [List.flatMap_cons]
    rw [e1, List.length_append, List.length_cons]
    have : (if Vd e then (if n = e.1 then [e.2] else if n = e.2 then [e.1] else []) else []).length ≤ 1 := by
      repeat' split
      all_goals simp
    omega
theorem nbr_near (l : List Ed) (n : Int) : Lib.compact ((nbr l n).mergeSort fun x y => decide (x ≤ y)) = near l n := by
  obtain ⟨h1, h2⟩ := icompact (nbr l n)
  exact sel_is h1 fun v => by rw [h2, mem_nbr]; exact ⟨fun h => ⟨(lk_node h).1.2, h⟩, fun h => h.2⟩

set_option maxRecDepth 100000 in
set_option maxHeartbeats 4000000 in
theorem pnear_any (A : Option Addr) (c : Nat) (l : List Ed) (n : Int) (w : World) (hl : l.length ≤ 100000) (hA : EdAt w w.heap.size A l) :
    Calls Try.prog 27 #[.slice A l.length c, .int .i64 n] w (OutN w (near l n)) := by
  have HA := Lib.hid hA
  have W0 := Lib.hid (show nbr (l.take 0) n = [] from rfl)
  have WA := Lib.hid (show nbr (l.take l.length) n = nbr l n by rw [List.take_length])
  have WT := Lib.hid (fun k h => nbr_take l n k h)
  have WL := Lib.hid (fun k => (show (nbr (l.take k) n).length ≤ l.length from Nat.le_trans (nbr_len _ _) (by rw [List.length_take]; omega)))
  have NN := Lib.hid (nbr_near l n)
  have NL := nbr_len l n
  clear hA
  obtain ⟨G, hG⟩ : ∃ G : Nat → List Int, G = fun k => nbr (l.take k) n := ⟨_, rfl⟩
  have GK : ∀ k, nbr (l.take k) n = G k := fun k => by rw [hG]
  simp only [GK] at W0 WA WT WL
  generalize near l n = R at *
  generalize nbr l n = F at *
  clear hG GK
  go_enter Try.func27, Try.ntmps27
  go_wp2_with fail
  go_loopw [5, 10] (fun vo vk wr => ∃ (k : Nat) (A1 : Option Addr) (c1 : Nat), vk = .int .i64 k ∧ k ≤ l.length ∧ vo = .slice A1 (G k).length c1 ∧ Hid (OwnI wr w.heap.size (.slice A1 (G k).length c1) (G k)) ∧ Below w.heap.size w wr) (fun _ vk _ => l.length - (intOf vk).toNat)
  case atStart => exact ⟨0, none, 0, rfl, Nat.zero_le _, by rw [W0.out]; rfl, Lib.hid (by rw [W0.out]; exact OwnF.nil _ _), Below.refl _ _⟩
  case round =>
    obtain ⟨k, A1, c1, rfl, hk, rfl, O, hb⟩ := hrel
    have B := Lib.hid hb
    have hz := hb.size
    by_cases hlt : k < l.length
    rotate_left
    · have hk' : k = l.length := by omega
      have d0 : ¬ k < l.length := hlt
      have OF := Lib.hid (show OwnI wr w.heap.size (.slice A1 (G k).length c1) F by rw [← WA.out, ← hk']; exact O.out)
      have KS := Lib.hid (psort_any OF.out (by omega) hz)
      clear hb hk' O
      go_wp2_with fail
      refine KS.out.mono ?_
      rintro _ w2 ⟨rfl, ho, hb⟩
      have B2 := Lib.hid (B.out.trans hb)
      have KC := Lib.hid (pcomp_any ho (by rw [List.length_mergeSort]; omega) B2.out.size)
      clear ho hb KS
      go_wp2_with fail
      refine KC.out.mono ?_
      rintro _ w3 ⟨v, rfl, ho, hb⟩
      have O3 := Lib.hid (show OwnI w3 w.heap.size v R by rw [← NN.out]; exact ho)
      have B3 := Lib.hid (B2.out.trans hb)
      clear ho hb KC
      go_wp2_with fail
      go_ret
      exact ⟨_, rfl, O3.out, B3.out⟩
    obtain ⟨bb, p, rfl, hbw, g0, g1, i0, i1⟩ := ed_cell (HA.out.below hb) k hlt
    have WTk := Lib.hid (WT.out k hlt)
    have LG := WL.out k
    clear hb
    obtain ⟨⟨x, y⟩, hx⟩ : ∃ x, l[k] = x := ⟨_, rfl⟩
    rw [hx] at g0 g1 i0 i1 WTk
    simp only at g0 g1 i0 i1
    have m0 : (k : Int) < (l.length : Int) := by omega
    have m1 : (0 : Int) ≤ (k : Int) := by omega
    have KV := Lib.hid (fun w => (show Calls Try.prog 45 #[.agg #[.int .i64 x, .int .i64 y]] w (OutV w (.bool (decide (Vd (x, y))))) from (pvalid_any (x, y) w).mono fun _ _ h => outG_V h))
    unfold OutV at KV
    clear hx W0 WA WT WL NN
    by_cases hv : Vd (x, y)
    rotate_left
    · have N := Lib.hid (show G (k + 1) = G k by rw [WTk.out, if_neg hv, List.append_nil])
      rw [df hv] at KV
      clear hv WTk
      go_wp2_with fail
      refine (KV.out _).mono ?_
      rintro _ w2 ⟨rfl, hb⟩
      have B2 := Lib.hid ((B.out.alloc hz (bxE x y)).trans (hb.mono (by simp; omega)))
      have O2 := Lib.hid ((O.out.alloc (bxE x y)).below hb)
      clear hb
      go_wp2_with fail
      go_roundw
      case rel => exact ⟨k + 1, A1, c1, by go_num, hlt, by rw [N.out], Lib.hid (by rw [N.out]; exact O2.out), B2.out⟩
      case measure => simp [intOf]; omega
    have WV := Lib.hid (WTk.out.trans (by rw [if_pos hv]))
    rw [dt hv] at KV
    clear WTk hv
    go_wp2_with fail
    refine (KV.out _).mono ?_
    rintro _ w2 ⟨rfl, hb⟩
    have B2 := Lib.hid ((B.out.alloc hz (bxE x y)).trans (hb.mono (by simp; omega)))
    have O2 := Lib.hid ((O.out.alloc (bxE x y)).below hb)
    have e0 := box_at hb 0 (v := .int .i64 x) rfl
    have e1 := box_at hb 1 (v := .int .i64 y) rfl
    clear hb KV g0 g1 B O
    by_cases h1 : n = x
    · have N := Lib.hid (show G (k + 1) = G k ++ [y] by rw [WV.out]; simp [h1])
      have q1 : (n == x) = true := by simpa using h1
      obtain ⟨v6, w6, hap, ho6, hb6⟩ := app_int O2.out y i1 (by omega) B2.out.size
      obtain ⟨A6, c6, e6, _⟩ := ho6.form
      subst e6
      have L6 := Lib.hid (show (G k ++ [y]).length = (G (k + 1)).length by rw [N.out])
      have O6 := Lib.hid (show OwnI w6 w.heap.size (.slice A6 (G (k + 1)).length c6) (G (k + 1)) by rw [N.out]; exact ho6)
      have B6 := Lib.hid (B2.out.trans hb6)
      rw [L6.out] at hap
      clear ho6 hb6 h1 WV
      go_wp2_with (at_builtin; refine Lib.wpList_append_run _ rfl _ _ _ _ rfl _ _ rfl rfl _ _ hap ?_)
      go_roundw
      case rel => exact ⟨k + 1, A6, c6, by go_num, hlt, rfl, O6, B6.out⟩
      case measure => simp [intOf]; omega
    have q1 : (n == x) = false := by simpa using h1
    by_cases h2 : n = y
    · have N := Lib.hid (show G (k + 1) = G k ++ [x] by rw [WV.out]; simp only [if_neg h1, if_pos h2])
      have q2 : (n == y) = true := by simpa using h2
      obtain ⟨v6, w6, hap, ho6, hb6⟩ := app_int O2.out x i0 (by omega) B2.out.size
      obtain ⟨A6, c6, e6, _⟩ := ho6.form
      subst e6
      have L6 := Lib.hid (show (G k ++ [x]).length = (G (k + 1)).length by rw [N.out])
      have O6 := Lib.hid (show OwnI w6 w.heap.size (.slice A6 (G (k + 1)).length c6) (G (k + 1)) by rw [N.out]; exact ho6)
      have B6 := Lib.hid (B2.out.trans hb6)
      rw [L6.out] at hap
      clear ho6 hb6 h1 h2 WV
      go_wp2_with (at_builtin; refine Lib.wpList_append_run _ rfl _ _ _ _ rfl _ _ rfl rfl _ _ hap ?_)
      go_roundw
      case rel => exact ⟨k + 1, A6, c6, by go_num, hlt, rfl, O6, B6.out⟩
      case measure => simp [intOf]; omega
    · have N := Lib.hid (show G (k + 1) = G k by rw [WV.out]; simp only [if_neg h1, if_neg h2, List.append_nil])
      have q2 : (n == y) = false := by simpa using h2
      clear h1 h2 WV
      go_wp2_with fail
      go_roundw
      case rel => exact ⟨k + 1, A1, c1, by go_num, hlt, by rw [N.out], Lib.hid (by rw [N.out]; exact O2.out), B2.out⟩
      case measure => simp [intOf]; omega
end Go.Proofs.Ytcnmknhjmflinaa.Tpo
