/- Contract of a round, on the program's side. -/
import Derived.Test.YtjhnilfnnongeaaAdG
set_option linter.unusedVariables false
namespace Go.Proofs.Ytjhnilfnnongeaa.Adr
open Go.RowKit

/-- The claims when the first k have been dealt with. -/
def mix (l : List Clm) (k : Nat) : List Clm := (l.take k).map (stp l) ++ l.drop k
theorem mix_len (l : List Clm) (k : Nat) : (mix l k).length = l.length := by
  unfold mix; rw [List.length_append, List.length_map, List.length_take, List.length_drop]; omega
theorem mix_get (l : List Clm) (k : Nat) (h : k < l.length) : (mix l k)[k]'(by rw [mix_len]; exact h) = l[k] := by
  have e : ((l.take k).map (stp l)).length = k := by simp; omega
  have : (mix l k)[k]? = some l[k] := by
    unfold mix
    rw [List.getElem?_append_right (by omega), e, Nat.sub_self, List.getElem?_drop, Nat.add_zero, List.getElem?_eq_getElem h]
  exact (List.getElem?_eq_some_iff.1 this).2
theorem mix_set (l : List Clm) (k : Nat) (h : k < l.length) : (mix l k).set k (stp l l[k]) = mix l (k + 1) := by
  have e : ((l.take k).map (stp l)).length = k := by simp; omega
  unfold mix
  rw [List.set_append_right _ _ (by omega), e, Nat.sub_self, drop_one l k h, List.set_cons_zero, take_one l k h, List.map_append, List.append_assoc]
  rfl
theorem mix_same (l : List Clm) (k : Nat) (h : k < l.length) (hs : lst l l[k] = true) : mix l (k + 1) = mix l k := by
  rw [← mix_set l k h]
  unfold stp
  rw [if_pos hs]
  apply List.ext_getElem (by simp)
  intro i h1 h2
  by_cases hi : i = k
  · subst hi; rw [List.getElem_set_self, mix_get l i h]
  · rw [List.getElem_set_ne (fun e => hi e.symm)]
theorem mix_zero (l : List Clm) : mix l 0 = l := by unfold mix; simp
theorem mix_all (l : List Clm) : mix l l.length = rnd l := by unfold mix rnd; simp
/-- How many of the first k have changed. -/
def nck (l : List Clm) (k : Nat) : Nat := (l.take k).countP fun c => !lst l c
theorem nck_same (l : List Clm) (k : Nat) (h : k < l.length) (hs : lst l l[k] = true) : nck l (k + 1) = nck l k := by
  unfold nck; rw [take_one l k h, List.countP_append, List.countP_singleton, hs]; rfl
theorem nck_more (l : List Clm) (k : Nat) (h : k < l.length) (hs : lst l l[k] = false) : nck l (k + 1) = nck l k + 1 := by
  unfold nck; rw [take_one l k h, List.countP_append, List.countP_singleton, hs]; rfl
theorem nck_all (l : List Clm) : nck l l.length = nch l := by unfold nck nch; rw [List.take_length]
theorem nck_le (l : List Clm) (k : Nat) : nck l k ≤ l.length := Nat.le_trans List.countP_le_length (by rw [List.length_take]; omega)
section
variable {w : World} {B g cap : Nat} {l : List Clm}
theorem oc0 (h : OwnC w B (.slice (some ⟨g, 0, none⟩) l.length cap) l) (k : Nat) (hk : k < l.length) : w.cell? ⟨g, k * 3, none⟩ = some (.int .u64 l[k].1) := h.cell k hk 0 (by decide)
theorem oc1 (h : OwnC w B (.slice (some ⟨g, 0, none⟩) l.length cap) l) (k : Nat) (hk : k < l.length) : w.cell? ⟨g, k * 3 + 1, none⟩ = some (.int .i64 l[k].2.1) := h.cell k hk 1 (by decide)
theorem oc2 (h : OwnC w B (.slice (some ⟨g, 0, none⟩) l.length cap) l) (k : Nat) (hk : k < l.length) : w.cell? ⟨g, k * 3 + 2, none⟩ = some (.int .i64 l[k].2.2) := h.cell k hk 2 (by decide)
theorem op1 (h : OwnC w B (.slice (some ⟨g, 0, none⟩) l.length cap) l) (k : Nat) (hk : k < l.length) (a : Int) (ha : I64 a) : OwnC (w.setCell ⟨g, k * 3 + 1, none⟩ (.int .i64 a)) B (.slice (some ⟨g, 0, none⟩) l.length cap) (l.set k (l[k].1, a, l[k].2.2)) :=
  h.put k hk 1 (by decide) _ _ rfl ⟨(h.2 _ (List.getElem_mem hk)).1, ha, (h.2 _ (List.getElem_mem hk)).2.2⟩
theorem op2 (h : OwnC w B (.slice (some ⟨g, 0, none⟩) l.length cap) l) (k : Nat) (hk : k < l.length) (t : Int) (ht : I64 t) : OwnC (w.setCell ⟨g, k * 3 + 2, none⟩ (.int .i64 t)) B (.slice (some ⟨g, 0, none⟩) l.length cap) (l.set k (l[k].1, l[k].2.1, t)) :=
  h.put k hk 2 (by decide) _ _ rfl ⟨(h.2 _ (List.getElem_mem hk)).1, (h.2 _ (List.getElem_mem hk)).2.1, ht⟩
end
/-- What a round hands back. -/
def OutRd (w : World) (l : List Clm) (e : Ending) (w' : World) : Prop := ∃ v, e = .returned (.tuple #[v, .int .i64 (nch l : Nat)]) ∧ OwnC w' w.heap.size v (rnd l) ∧ Below w.heap.size w w'

set_option maxRecDepth 100000 in
set_option maxHeartbeats 4000000 in
theorem advance_any (A : Option Addr) (c : Nat) (l : List Clm) (w : World) (hl : l.length ≤ 100000) (hT : ∀ c ∈ l, 0 ≤ c.2.2 ∧ c.2.2 ≤ 1000000) (hA : ClAt w w.heap.size A l) :
    Calls Try.prog 29 #[.slice A l.length c] w (OutRd w l) := by
  have HA := Lib.hid hA
  have HT := Lib.hid hT
  clear hA hT
  go_enter Try.func29, Try.ntmps29
  go_wp2_with fail
  refine (owners_any A c l _ hl HA.out).mono ?_
  rintro _ w1 ⟨f, rfl, hm, ho, hb⟩
  have B1 := Lib.hid hb
  have hz1 := hb.size
  have M1 := Lib.hid hm
  have F := Lib.hid ho
  have hm1 := hm.lt
  clear hb hm ho
  go_wp2_with fail
  refine (clone_any A c l _ (by omega) (HA.out.next B1.out)).mono ?_
  rintro _ w2 ⟨v, rfl, hv, hb⟩
  have B2 := Lib.hid (B1.out.trans (hb.mono hz1))
  have M2 := Lib.hid (M1.out.below hb)
  have O2 := Lib.hid hv
  have hz2 := hb.size
  clear hb hv
  go_wp2_with fail
  go_loopw [6, 15] (fun n i wr => ∃ k : Nat, i = .int .i64 k ∧ n = .int .i64 (nck l k : Nat) ∧ k ≤ l.length ∧ OwnC wr w1.heap.size v (mix l k) ∧ IU wr w.heap.size l.length f ∧ Below w.heap.size w wr ∧ w1.heap.size ≤ wr.heap.size) (fun _ i _ => l.length - (intOf i).toNat)
  case atStart => exact ⟨0, rfl, rfl, Nat.zero_le _, by rw [mix_zero]; exact O2.out, M2.out, B2.out, hz2⟩
  case round =>
    obtain ⟨k, rfl, rfl, hk, ho, hm, hb, hz3⟩ := hrel
    have B := Lib.hid hb
    have hz := hb.size
    have M := Lib.hid hm
    have O := Lib.hid ho
    by_cases hlt : k < l.length
    · obtain ⟨b, p, rfl, hbw, g0, g1, g2, g3, g4, g5⟩ := cl_cell (HA.out.below hb) k hlt
      obtain ⟨t0, t1⟩ := HT.out l[k] (List.getElem_mem _)
      obtain ⟨g, cap, rfl, hg1, hg2⟩ := ho.at (fun e => by have := mix_len l k; rw [e] at this; simp at this; omega)
      obtain ⟨o, ho1, ho2, ho3⟩ := isOwn_get F.out (List.getElem_mem hlt)
      have ML1 : (mix l k).length ≤ l.length := Nat.le_of_eq (mix_len l k)
      have ML2 : l.length ≤ (mix l k).length := Nat.le_of_eq (mix_len l k).symm
      have MG := Lib.hid (mix_get l k hlt)
      have MS := Lib.hid (mix_set l k hlt)
      have MM := Lib.hid (mix_same l k hlt)
      have NS := Lib.hid (nck_same l k hlt)
      have NM := Lib.hid (nck_more l k hlt)
      have NL := nck_le l k
      have SP := Lib.hid (show lst l l[k] = false → stp l l[k] = (l[k].1, pk l[k].1 (l[k].2.2 + 1), l[k].2.2 + 1) from fun h => by unfold stp; rw [if_neg (by rw [h]; decide)])
      have e0 : l[k] = (l[k].1, l[k].2.1, l[k].2.2) := rfl
      have O1 := Lib.hid (O.out.alloc (bxC l[k].1 l[k].2.1 l[k].2.2))
      have M1' := Lib.hid (M.out.alloc (bxC l[k].1 l[k].2.1 l[k].2.2))
      have B1' := Lib.hid (B.out.alloc hz (bxC l[k].1 l[k].2.1 l[k].2.2))
      have hget := iu_get M1'.out l[k].2.1 g4
      rw [ho1, show (some (Value.int .u64 o)).getD (.int .u64 0) = .int .u64 o from rfl] at hget
      cases hs : lst l l[k] with
      | true =>
        have heq := ho3.2 hs
        have E1 := Lib.hid (MM.out hs)
        have E2 := Lib.hid (NS.out hs)
        have R1 := Lib.hid (show OwnC (wr.alloc (bxC l[k].1 l[k].2.1 l[k].2.2)) w1.heap.size (.slice (some ⟨g, 0, none⟩) (mix l k).length cap) (mix l (k + 1)) by rw [E1.out]; exact O1.out)
        clear hb hm ho e0 ho1 ho3 hs MS MM NS NM SP MG
        generalize l[k].1 = e at *
        generalize l[k].2.1 = a at *
        generalize l[k].2.2 = t at *
        subst heq
        go_wp2_with fail
        go_roundw
        case rel => exact ⟨k + 1, by go_num, by rw [E2.out], hlt, R1.out, M1'.out, B1'.out, Nat.le_trans hz3 (by simp)⟩
        case measure => simp [intOf]; omega
      | false =>
        have hne : l[k].1 ≠ o := fun h => by have := ho3.1 h; rw [hs] at this; cases this
        have E2 := Lib.hid (NM.out hs)
        have SP := Lib.hid (SP.out hs)
        rw [SP.out] at MS
        have hkm : k < (mix l k).length := by omega
        have r1 : wr.cell? ⟨g, k * 3 + 2, none⟩ = some (.int .i64 l[k].2.2) := by rw [oc2 O.out k hkm, MG.out]
        have r1f := O.out.fr (k * 3 + 2)
        have r2 : (wr.alloc (bxC l[k].1 l[k].2.1 l[k].2.2)).cell? ⟨g, k * 3 + 2, none⟩ = some (.int .i64 l[k].2.2) := by rw [oc2 O1.out k hkm, MG.out]
        have r2f := O1.out.fr (k * 3 + 2)
        have O3 := Lib.hid (show OwnC ((wr.setCell ⟨g, k * 3 + 2, none⟩ (.int .i64 (l[k].2.2 + 1))).alloc (bxC l[k].1 l[k].2.1 l[k].2.2)) w1.heap.size (.slice (some ⟨g, 0, none⟩) (mix l k).length cap) ((mix l k).set k (l[k].1, l[k].2.1, l[k].2.2 + 1)) from
          by have := (op2 O.out k hkm (l[k].2.2 + 1) (by unfold I64; omega)).alloc (bxC l[k].1 l[k].2.1 l[k].2.2); rw [MG.out] at this; exact this)
        have M3 := Lib.hid (show IU ((wr.setCell ⟨g, k * 3 + 2, none⟩ (.int .i64 (l[k].2.2 + 1))).alloc (bxC l[k].1 l[k].2.1 l[k].2.2)) w.heap.size l.length f from (M.out.setCell (by show w.heap.size ≠ g; omega) _).alloc _)
        have B3 := Lib.hid (show Below w.heap.size w ((wr.setCell ⟨g, k * 3 + 2, none⟩ (.int .i64 (l[k].2.2 + 1))).alloc (bxC l[k].1 l[k].2.1 l[k].2.2)) from (B.out.setCell (by show w.heap.size ≤ g; omega) _).alloc (by simp; omega) _)
        have BX : ((wr.setCell ⟨g, k * 3 + 2, none⟩ (.int .i64 (l[k].2.2 + 1))).alloc (bxC l[k].1 l[k].2.1 l[k].2.2)).heap[wr.heap.size]? = some (bxC l[k].1 l[k].2.1 l[k].2.2) := by simpa using blk_new (wr.setCell ⟨g, k * 3 + 2, none⟩ (.int .i64 (l[k].2.2 + 1))) (bxC l[k].1 l[k].2.1 l[k].2.2)
        obtain ⟨w3, hw3⟩ : ∃ w3, w3 = (wr.setCell ⟨g, k * 3 + 2, none⟩ (.int .i64 (l[k].2.2 + 1))).alloc (bxC l[k].1 l[k].2.1 l[k].2.2) := ⟨_, rfl⟩
        have W3 := Lib.hid hw3.symm
        rw [← hw3] at O3 M3 B3 BX
        have hz4 := B3.out.size
        have hz5 : w1.heap.size ≤ w3.heap.size := by rw [hw3]; simp; omega
        have hgw : g < w3.heap.size := by rw [hw3]; simp; omega
        clear hw3
        obtain ⟨l3, hl3⟩ : ∃ l3, l3 = (mix l k).set k (l[k].1, l[k].2.1, l[k].2.2 + 1) := ⟨_, rfl⟩
        have hl3n : l3.length = (mix l k).length := by rw [hl3, List.length_set]
        have hkm3 : k < l3.length := by omega
        have hl3k : l3[k] = (l[k].1, l[k].2.1, l[k].2.2 + 1) := by
          have : l3[k]? = some (l[k].1, l[k].2.1, l[k].2.2 + 1) := by rw [hl3, List.getElem?_set_self hkm]
          exact (List.getElem?_eq_some_iff.1 this).2
        have L3 := Lib.hid (show l3.set k (l[k].1, pk l[k].1 (l[k].2.2 + 1), l[k].2.2 + 1) = mix l (k + 1) by rw [hl3, List.set_set]; exact MS.out)
        rw [← hl3, ← hl3n] at O3
        have L3K := Lib.hid hl3k
        have PK := Lib.hid (fun w => apick_any l[k].1 (l[k].2.2 + 1) w g3 (by unfold I64; omega))
        have PR := pk_range l[k].1 (l[k].2.2 + 1)
        have CS := Lib.hid (fun w' (h : Below w3.heap.size w3 w') => And.intro (blk_cell (blk_below BX h (blk_lt BX)) 0 (v := .int .u64 l[k].1) rfl) (show w'.cell? ⟨g, k * 3 + 2, none⟩ = some (.int .i64 (l[k].2.2 + 1)) by
          rw [oc2 (O3.out.below h) k hkm3, L3K.out]))
        have CT := Lib.hid (fun w' (h : Below w3.heap.size w3 w') (q : Int) => (show (w'.setCell ⟨g, k * 3 + 1, none⟩ (.int .i64 q)).cell? ⟨wr.heap.size, 0, none⟩ = some (.int .u64 l[k].1) ∧ (w'.setCell ⟨g, k * 3 + 1, none⟩ (.int .i64 q)).cell? ⟨g, k * 3 + 2, none⟩ = some (.int .i64 (l[k].2.2 + 1)) from by
          obtain ⟨h1, h2⟩ := CS.out w' h
          constructor
          · rw [World.cell?_setCell_other _ _ _ _ (by simp only [ne_eq, Addr.mk.injEq, not_and]; intro h; omega)]; exact h1
          · rw [World.cell?_setCell_other _ _ _ _ (by simp)]; exact h2))
        have C1 := Lib.hid (fun w' (h : Below w3.heap.size w3 w') => And.intro (show w'.cell? ⟨g, k * 3 + 1, none⟩ = some (.int .i64 l[k].2.1) by
          rw [oc1 (O3.out.below h) k hkm3, L3K.out]) ((O3.out.below h).fr (k * 3 + 1)))
        have O4 := Lib.hid (fun w' (h : Below w3.heap.size w3 w') => (show OwnC (w'.setCell ⟨g, k * 3 + 1, none⟩ (.int .i64 (pk l[k].1 (l[k].2.2 + 1)))) w1.heap.size (.slice (some ⟨g, 0, none⟩) l3.length cap) (mix l (k + 1)) by
          have h2 := op1 (O3.out.below h) k hkm3 (pk l[k].1 (l[k].2.2 + 1)) (by unfold I64; omega)
          rw [L3K.out, L3.out] at h2
          exact h2))
        clear hb hm ho e0 ho1 ho3 hs MM NS NM SP MG MS hl3 hl3k BX O1 L3 L3K
        generalize l[k].1 = e at *
        generalize l[k].2.1 = a at *
        generalize l[k].2.2 = t at *
        generalize pk e (t + 1) = q at *
        have n1 : (e != o) = true := by simpa using hne
        have n2 : (e == o) = false := by simpa using hne
        have n3 : decide (e = o) = false := df hne
        clear hne
        have HN := Lib.hid hl3n
        clear hl3n
        go_wp2_with fail
        rw [W3.out]
        have Z0 : Below w3.heap.size w3 w3.drew := (Below.refl _ _).drew
        go_region_held3 (fun w' => w'.cell? ⟨wr.heap.size, 0, none⟩ = some (.int .u64 e) ∧ w'.cell? ⟨g, k * 3 + 2, none⟩ = some (.int .i64 (t + 1)))
          (first | exact CS.out _ Z1 | exact CS.out _ Z0 | exact CT.out _ Z1 _ | fail)
          (first
          | (go_at_call 13; refine (PK.out _).mono ?_; rintro _ wa ⟨rfl, hb⟩; have Z1 := Z0.trans (hb.mono Z0.size); clear hb; have k1 := (C1.out _ Z1).1; have k1f := (C1.out _ Z1).2) | fail)
        all_goals
          go_wp2_with fail
          go_roundw
        case rel => exact ⟨k + 1, by go_num, by rw [E2.out]; go_num, hlt, (by rw [← HN.out]; exact O4.out _ Z1), (M3.out.below Z1).setCell (by show w.heap.size ≠ g; omega) _, (B3.out.trans (Z1.mono hz4)).setCell (by show w.heap.size ≤ g; omega) _, by have := Z1.size; simp; omega⟩
        case measure => simp [intOf]; omega
    · obtain rfl : k = l.length := by omega
      rw [mix_all] at O
      clear hb hm ho
      go_wp2_with fail
      go_ret2
      exact ⟨_, by rw [nck_all]; rfl, O.out.down (by omega), B.out⟩
end Go.Proofs.Ytjhnilfnnongeaa.Adr
