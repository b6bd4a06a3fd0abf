/- Contracts of slices.Chunk and of Resample of series. -/
import Derived.RangeFuncNested
import Derived.RangeFuncBound
import Derived.RangeFuncCalls
import Derived.RangeFuncLeaves
import Derived.RangeFuncBox
import Derived.Shelf.Abstract
import Derived.Shelf.RegionOpen
import Derived.OwnWalkIn
import Derived.TacticsInMore
import Derived.LoopNIn
import Derived.LoopIn
import Derived.Test.YtekcknpgpfeijaaEG
set_option linter.unusedVariables false
namespace Go.Proofs.Ytekcknpgpfeijaa.Series
open Go.RowKit Go.Shelf

attribute [local go_sem] Oper.semAt_some

/-- A group: where it begins, how long it is. -/
def Gp (L : Nat) : Type := { x : Nat × Nat // x.1 + x.2 ≤ L }
def gpN (L k i : Nat) : Gp L := ⟨(min (i * k) L, min k (L - i * k)), by show min (i * k) L + min k (L - i * k) ≤ L; omega⟩
def gpV {L : Nat} (b p : Nat) (x : Gp L) : Value := .slice (some ⟨b, p + x.1.1, none⟩) x.1.2 x.1.2
def gps (L k j : Nat) : List (Gp L) := (List.range j).map (gpN L k)
theorem gps_len (L k j : Nat) : (gps L k j).length = j := by simp [gps]
theorem gps_succ (L k j : Nat) : gps L k (j + 1) = gps L k j ++ [gpN L k j] := range_snoc _ _
/-- All that lies below n₀ is as it was, but for block B. -/
structure KB (n₀ B : Nat) (W W' : World) : Prop where
  size : W.heap.size ≤ W'.heap.size
  block : ∀ i, i < n₀ → i ≠ B → W'.heap[i]? = W.heap[i]?
theorem KB.refl (n₀ B : Nat) (W : World) : KB n₀ B W W := ⟨Nat.le_refl _, fun _ _ _ => rfl⟩
theorem KB.trans {n₀ B : Nat} {X Y Z : World} (h : KB n₀ B X Y) (k : KB n₀ B Y Z) : KB n₀ B X Z := ⟨Nat.le_trans h.size k.size, fun i h1 h2 => (k.block i h1 h2).trans (h.block i h1 h2)⟩
theorem KB.cell {n₀ B : Nat} {W W' : World} (h : KB n₀ B W W') {p : Addr} (h1 : p.block < n₀) (h2 : p.block ≠ B) : W'.cell? p = W.cell? p := World.cell?_of_block (w := W) (h.block _ h1 h2)
theorem KB.drewN {n₀ B : Nat} {W W' : World} (h : KB n₀ B W W') (m : Nat) : KB n₀ B W (W'.drewN m) := ⟨h.size, h.block⟩
theorem KB.drew {n₀ B : Nat} {W W' : World} (h : KB n₀ B W W') : KB n₀ B W W'.drew := ⟨h.size, h.block⟩

set_option maxHeartbeats 1000000 in
theorem chunk_in (n : Nat) (A : Option Addr) (L c k : Nat) (w : World) (hk : 1 ≤ k) :
    CallsIn Fence.wide n Try.prog 43 #[.slice A L c, .int .i64 (k : Int)] w fun e w' => e = .returned (.func (.func 49) #[] #[.pointer (some ⟨w.heap.size, 0, none⟩), .pointer (some ⟨w.heap.size + 1, 0, none⟩)]) ∧ w' = (w.alloc (.cells #[.slice A L c] 22)).alloc (.cells #[.int .i64 (k : Int)] 3) := by
  have d1 := df (show ¬ (k : Int) < 1 by omega)
  refine callsIn_of_wp Try.func43 rfl trivial ?_ rfl
  simp only [Try.ntmps43, List.size_toArray, List.length_cons, List.length_nil, Nat.reduceAdd, Nat.reduceSub, Array.replicate_succ, Array.replicate_zero, List.push_toArray, List.append_toArray, List.nil_append, List.cons_append]
  gi_wp2
  go_ret
  exact ⟨rfl, rfl⟩

set_option maxRecDepth 100000 in
set_option maxHeartbeats 2000000 in
theorem chunk1_in (n : Nat) (hn : 1 ≤ n) (l Bs B n₀ b p L c k : Nat) (A : Option Addr) (hk : 1 ≤ k) (hkb : (k : Int) ≤ 9223372036854775807) (hL : L ≤ 96) (hc : L ≤ c) (hA : 0 < L → A = some ⟨b, p, none⟩) (hB1 : Bs + 1 < n₀) (hB : B < Bs) (J Jx : List (Gp L) → World → Prop) (W : World) (hJa : AbidesFrom W.heap.size J)
    (hY : ∀ pre x W, J pre W → pre.length < 1000 * L → YieldAt Fence.wide (n - 1) Try.prog l #[gpV b p x] W fun e W' =>
      (e = .returned (.bool true) ∧ J (pre ++ [x]) W' ∧ KB n₀ B W W') ∨ (e = .returned (.bool false) ∧ Jx (pre ++ [x]) W'))
    (h1 : W.cell? ⟨Bs, 0, none⟩ = some (.slice A L c)) (h2 : W.cell? ⟨Bs + 1, 0, none⟩ = some (.int .i64 (k : Int))) (h0 : J [] W) :
    CallsIn Fence.wide n Try.prog 49 #[.func (.yield l) #[] #[], .pointer (some ⟨Bs, 0, none⟩), .pointer (some ⟨Bs + 1, 0, none⟩)] W fun e W' => (∃ v, e = .returned v) ∧
      ((∃ ys, ys = gps L k (gct L k) ∧ J ys W') ∨ (∃ pre, True ∧ Jx pre W')) := by
  have HY := Lib.hid hY
  have H1 := Lib.hid h1
  have H2 := Lib.hid h2
  have H0 := Lib.hid h0
  have HA := Lib.hid hA
  clear hY h1 h2 h0 hA
  refine callsIn_of_wp Try.func49 rfl trivial ?_ rfl
  simp only [Try.ntmps49, List.size_toArray, List.length_cons, List.length_nil, Nat.reduceAdd, Nat.reduceSub, Array.replicate_succ, Array.replicate_zero, List.push_toArray, List.append_toArray, List.nil_append, List.cons_append]
  gi_wp2
  gi_loopw [4] (fun i wr => ∃ j t : Nat, t = j * k ∧ i = .int .i64 (t : Int) ∧ j ≤ t ∧ (∀ q, q + 1 = j → q * k < L) ∧ J (gps L k j) wr ∧ KB n₀ B W wr) (fun i _ => L - (intOf i).toNat)
  case atStart => exact ⟨0, 0, by omega, rfl, Nat.le_refl _, fun q hq => by omega, H0.out, KB.refl _ _ _⟩
  case round =>
    obtain ⟨j, t, htj, rfl, hjt, hlast, hJ, hK⟩ := hrel
    have c1 := (hK.cell (p := ⟨Bs, 0, none⟩) (by show Bs < n₀; omega) (by show Bs ≠ B; omega)).trans H1.out
    have c2 := (hK.cell (p := ⟨Bs + 1, 0, none⟩) (by show Bs + 1 < n₀; omega) (by show Bs + 1 ≠ B; omega)).trans H2.out
    have HJ := Lib.hid hJ
    have HK := Lib.hid hK
    have LA := Lib.hid hlast
    have TJ := Lib.hid htj
    clear hJ hK hlast
    by_cases hlt : t < L
    · obtain rfl := HA.out (by omega)
      have hov : (t : Int) + (k : Int) ≤ 9223372036854775807 := by
        by_cases e : j = 0
        · subst e; omega
        · have : k ≤ j * k := Nat.le_mul_of_pos_left k (by omega)
          omega
      obtain ⟨e, he⟩ : ∃ e, e = min k (L - t) := ⟨_, rfl⟩
      have GV := Lib.hid (show gpV b p (gpN L k j) = .slice (some ⟨b, p + t, none⟩) e e by unfold gpV gpN; simp only [← htj, ← he, Nat.min_eq_left (Nat.le_of_lt hlt)])
      clear htj
      gi_wp2
      gi_region
      gi_wp2
      have EV : ((t : Int) + min (k : Int) ((L - t : Nat) : Int)).toNat - t = e := by omega
      rw [EV]
      obtain ⟨fn, tmps, assign, body, hy, hR⟩ := HY.out _ (gpN L k j) wr.drew (hJa _ wr wr.drew none HJ.out ⟨rfl, rfl, rfl, Nat.le_refl _, fun _ _ _ => rfl⟩ (fun r h => by cases h)) (by rw [gps_len]; omega)
      rw [GV.out] at hy
      have HR := Lib.hid hR
      clear hR EV c1
      rw [hy]
      gi_wp2
      refine HR.out.mono ?_
      rintro e3 W3 (⟨rfl, hJ3, hk3⟩ | ⟨rfl, hJx3⟩)
      · have J3 := Lib.hid hJ3
        have K3 := Lib.hid (HK.out.drew.trans hk3)
        have c3 := (hk3.cell (p := ⟨Bs + 1, 0, none⟩) (by show Bs + 1 < n₀; omega) (by show Bs + 1 ≠ B; omega)).trans c2
        clear hJ3 hk3 hy c2
        gi_wp2
        go_roundw
        case rel => exact ⟨j + 1, t + k, by rw [TJ.out, Nat.succ_mul], by go_num, by omega, fun q hq => by
          obtain rfl : q = j := by omega
          rw [← TJ.out]; exact hlt, by rw [gps_succ]; exact J3.out, K3.out⟩
        case measure => simp [intOf]; omega
      · gi_wp2
        refine bodyPost_ret (results_none rfl _ _ _) rfl ?_
        exact ⟨⟨_, rfl⟩, .inr ⟨_, trivial, hJx3⟩⟩
    · have G := Lib.hid (show gct L k = j from gct_eq hk (by rw [← htj]; omega) LA.out)
      gi_wp2
      go_end0
      exact ⟨⟨_, rfl⟩, .inl ⟨_, by rw [G.out], HJ.out⟩⟩
end Go.Proofs.Ytekcknpgpfeijaa.Series
