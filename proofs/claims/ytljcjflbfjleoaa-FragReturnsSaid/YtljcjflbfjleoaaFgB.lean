/- The reference's Check, Valid, Find, Whole. -/
import Derived.Test.YtljcjflbfjleoaaFgA
import Derived.BigQuiet
set_option linter.unusedVariables false
namespace Go.Proofs.Ytljcjflbfjleoaa.Frg
open Go.RowKit

theorem bt_at (p : ByteArray) (i : Nat) (h : i < p.size) : ((p[i]'h).toNat : Int) = bt p i := by unfold bt; rw [byte_at p i h]
set_option maxRecDepth 100000 in
set_option maxHeartbeats 2000000 in
theorem rcheck_any (p : ByteArray) (w : World) (hp : p.size ≤ 9223372036854775807) : Calls Try.prog 16 #[.string p] w (OutI w (chk p)) := by
  by_cases h3 : p.size < 3
  · have R := Lib.hid (show chk p = 5 from if_pos h3)
    have d0 := dt (show (p.size : Int) < 3 by omega)
    go_enter Try.func16, Try.ntmps16
    go_wp2_with fail
    go_ret
    exact outI R.out.symm (Below.refl _ _)
  have d0 := df (show ¬ (p.size : Int) < 3 by omega)
  have p1 : 1 < p.size := by omega
  have p2 : 2 < p.size := by omega
  have q1 : (1 : Int) < (p.size : Int) := by omega
  have q2 : (2 : Int) < (p.size : Int) := by omega
  have l1 := (p[1]'p1).toNat_lt
  have l2 := (p[2]'p2).toNat_lt
  have F := Lib.hid (show chk p = if ((1 : Int) ≤ ((p[2]'p2).toNat : Int) ∧ ((p[2]'p2).toNat : Int) ≤ 16) ∧ ((p[1]'p1).toNat : Int) < ((p[2]'p2).toNat : Int) ∧ Sz ((p[1]'p1).toNat : Int) ((p[2]'p2).toNat : Int) ((p.size : Int) - 3) then 0 else 4 by
    unfold chk Form
    rw [if_neg h3, bt_at p 1 p1, bt_at p 2 p2])
  have z3 : IntKind.i64.wrap ((p.size : Int) - 3) = (p.size : Int) - 3 := by rw [IntKind.wrap_i64]; omega
  have KZ := Lib.hid (fun w => rsize_any ((p[1]'p1).toNat : Int) ((p[2]'p2).toNat : Int) ((p.size : Int) - 3) w (by unfold I64; omega))
  generalize chk p = C at *
  by_cases c1 : ((p[2]'p2).toNat : Int) < (1 : Int)
  · have R := Lib.hid (F.out.trans (if_neg fun h => by omega))
    have d1 := dt c1
    clear F KZ c1 z3
    go_enter Try.func16, Try.ntmps16
    go_wp2_with fail
    go_quiet (fail)
    go_wp2_with fail
    go_ret
    exact outI R.out.symm (below_drewN (Below.refl _ _) _)
  have d1 := df c1
  by_cases c2 : (16 : Int) < ((p[2]'p2).toNat : Int)
  · have R := Lib.hid (F.out.trans (if_neg fun h => by omega))
    have d2 := dt c2
    clear F KZ c1 c2 z3
    go_enter Try.func16, Try.ntmps16
    go_wp2_with fail
    go_quiet (fail)
    go_wp2_with fail
    go_ret
    exact outI R.out.symm (below_drewN (Below.refl _ _) _)
  have d2 := df c2
  by_cases c3 : (p[2]'p2).toNat ≤ (p[1]'p1).toNat
  · have R := Lib.hid (F.out.trans (if_neg fun h => by omega))
    have d3 := dt c3
    clear F KZ c1 c2 c3 z3
    go_enter Try.func16, Try.ntmps16
    go_wp2_with fail
    go_quiet (fail)
    go_wp2_with fail
    go_ret
    exact outI R.out.symm (below_drewN (Below.refl _ _) _)
  have d3 := df c3
  by_cases c4 : Sz ((p[1]'p1).toNat : Int) ((p[2]'p2).toNat : Int) ((p.size : Int) - 3)
  · have R := Lib.hid (F.out.trans (if_pos ⟨by omega, by omega, c4⟩))
    have d4 := decide_eq_true c4
    rw [d4] at KZ
    clear F c1 c2 c3 c4 d4
    go_enter Try.func16, Try.ntmps16
    go_wp2_with fail
    go_quiet (fail)
    go_wp2_with fail
    refine (KZ.out _).mono ?_
    rintro _ _ ⟨rfl, rfl⟩
    go_wp2_with fail
    go_ret
    exact outI R.out.symm (below_drewN (Below.refl _ _) _)
  · have R := Lib.hid (F.out.trans (if_neg fun h => c4 h.2.2))
    have d4 := decide_eq_false c4
    rw [d4] at KZ
    clear F c1 c2 c3 c4 d4
    go_enter Try.func16, Try.ntmps16
    go_wp2_with fail
    go_quiet (fail)
    go_wp2_with fail
    refine (KZ.out _).mono ?_
    rintro _ _ ⟨rfl, rfl⟩
    go_wp2_with fail
    go_ret
    exact outI R.out.symm (below_drewN (Below.refl _ _) _)

/-- What Find returns. -/
def fnI (l : List Pt) (s i : Int) : Int := if fi l s i < l.length then (fi l s i : Nat) else -1
theorem fi_hit (l : List Pt) (s i : Int) (k : Nat) (hk : k < l.length) (h : l[k].s = s ∧ l[k].i = i) (hn : ∀ j (hj : j < l.length), j < k → ¬ (l[j].s = s ∧ l[j].i = i)) : fi l s i = k :=
  (List.findIdx_eq hk).2 ⟨key_iff.2 h, fun j hj => by
    have := hn j (by omega) hj
    rw [← key_iff] at this
    simpa using this⟩
theorem fi_miss (l : List Pt) (s i : Int) (hn : ∀ j (hj : j < l.length), ¬ (l[j].s = s ∧ l[j].i = i)) : fi l s i = l.length := fi_none (has_false.2 fun x hx => by
  obtain ⟨j, hj, rfl⟩ := List.getElem_of_mem hx
  exact hn j hj)
abbrev xs (l : List Hp) : List Pt := l.map (·.x)
theorem xs_at (l : List Hp) (k : Nat) (hk : k < (xs l).length) : (xs l)[k] = (l[k]'(by simpa using hk)).x := by simp [xs]
set_option maxRecDepth 100000 in
set_option maxHeartbeats 2000000 in
theorem rfind_any (A : Option Addr) (c : Nat) (l : List Hp) (s i : Int) (w : World) (hl : l.length ≤ 9223372036854775807) (hA : FlAt fP w w.heap.size A l) :
    Calls Try.prog 39 #[.slice A l.length c, .int .i64 s, .int .i64 i] w fun e w' => e = .returned (.int .i64 (fnI (xs l) s i)) ∧ w = w' := by
  have HM := Lib.hid hA
  have KH := Lib.hid (fun (k : Nat) (hk : k < l.length) (h : l[k].x.s = s ∧ l[k].x.i = i) (hn : ∀ j (hj : j < l.length), j < k → ¬ (l[j].x.s = s ∧ l[j].x.i = i)) => (show fnI (xs l) s i = k from by
    have e := fi_hit (xs l) s i k (by simpa using hk) (by rw [xs_at]; exact h) (fun j hj hjk => by rw [xs_at]; exact hn j (by simpa using hj) hjk)
    unfold fnI
    rw [e, if_pos (by simpa using hk)]))
  have KM := Lib.hid (fun (hn : ∀ j (hj : j < l.length), ¬ (l[j].x.s = s ∧ l[j].x.i = i)) => (show fnI (xs l) s i = -1 from by
    have e := fi_miss (xs l) s i (fun j hj => by rw [xs_at]; exact hn j (by simpa using hj))
    unfold fnI
    rw [e, if_neg (Nat.lt_irrefl _)]))
  clear hA
  generalize fnI (xs l) s i = F at *
  go_enter Try.func39, Try.ntmps39
  go_wp2_with fail
  go_loop [10] (fun vi => ∃ n : Nat, n ≤ l.length ∧ vi = .int .i64 (n : Int) ∧ Hid (∀ j (hj : j < l.length), j < n → ¬ (l[j].x.s = s ∧ l[j].x.i = i))) (fun vi => l.length - (intOf vi).toNat)
  case atStart => exact ⟨0, Nat.zero_le _, rfl, Lib.hid fun j hj h => by omega⟩
  case round =>
    obtain ⟨n, hn, rfl, HN⟩ := hrel
    by_cases hlt : n < l.length
    · obtain ⟨b, p, rfl, _, hc, _⟩ := hp_cell HM.out n hlt
      have Y := Lib.hid (fun h => KH.out n hlt h HN.out)
      have N := Lib.hid (show ¬ (l[n].x.s = s ∧ l[n].x.i = i) → ∀ j (hj : j < l.length), j < n + 1 → ¬ (l[j].x.s = s ∧ l[j].x.i = i) from fun h j hj hjn => by
        by_cases e : j = n
        · subst e; exact h
        · exact HN.out j hj (by omega))
      obtain ⟨g0, g1, _⟩ := hc
      clear KH KM HN
      have q0 : (n : Int) < (l.length : Int) := by omega
      have q1 : (0 : Int) ≤ (n : Int) := by omega
      obtain ⟨a, ha⟩ : ∃ a, l[n].x.s = a := ⟨_, rfl⟩
      obtain ⟨a', ha'⟩ : ∃ a, l[n].x.i = a := ⟨_, rfl⟩
      rw [ha, ha'] at Y N
      rw [ha] at g0
      rw [ha'] at g1
      clear ha ha'
      by_cases e1 : a = s
      · have d1 : (a == s) = true := by simpa using e1
        by_cases e2 : a' = i
        · have d2 : (a' == i) = true := by simpa using e2
          have E := Lib.hid (Y.out ⟨e1, e2⟩)
          clear Y N e1 e2
          go_wp2_with fail
          go_ret
          exact ⟨ret_int E.out.symm, rfl⟩
        · have d2 : (a' == i) = false := by simpa using e2
          have E := Lib.hid (N.out fun h => e2 h.2)
          clear Y N e1 e2
          go_wp2_with fail
          go_round
          case rel => exact ⟨n + 1, hlt, by go_num, E⟩
          case measure => simp [intOf]; omega
      · have d1 : (a == s) = false := by simpa using e1
        have E := Lib.hid (N.out fun h => e1 h.1)
        clear Y N e1
        go_wp2_with fail
        go_round
        case rel => exact ⟨n + 1, hlt, by go_num, E⟩
        case measure => simp [intOf]; omega
    · obtain rfl : n = l.length := by omega
      have E := Lib.hid (KM.out fun j hj => HN.out j hj hj)
      clear KH KM HN
      go_wp2_with fail
      go_ret
      exact ⟨ret_int E.out.symm, rfl⟩

set_option maxRecDepth 100000 in
set_option maxHeartbeats 2000000 in
theorem rwhole_any (y : Hp) (w : World) (hl : y.x.h.length ≤ 9223372036854775807) (hn : SlS fBo w y.hA y.hc y.x.h) : Calls Try.prog 42 #[hpV y] w (OutB w (full y.x)) := by
  obtain ⟨⟨s, i, c, t, h, d⟩, A1, c1, D1, e1⟩ := y
  have HH := Lib.hid (hn.next (alloc_below w (bxP ⟨⟨s, i, c, t, h, d⟩, A1, c1, D1, e1⟩)))
  have KY := Lib.hid (fun (hb : ∀ j (hj : j < h.length), h[j] = true) => (show full ⟨s, i, c, t, h, d⟩ = true from by
    unfold full
    rw [List.all_eq_true]
    intro b hb'
    obtain ⟨j, hj, rfl⟩ := List.getElem_of_mem hb'
    exact hb j hj))
  have KN := Lib.hid (fun (j : Nat) (hj : j < h.length) (hb : h[j] = false) => (show full ⟨s, i, c, t, h, d⟩ = false from by
    unfold full
    rw [List.all_eq_false]
    exact ⟨_, List.getElem_mem hj, by simp [hb]⟩))
  simp only at hl hn ⊢
  generalize full ⟨s, i, c, t, h, d⟩ = F at *
  have X1 := blk_new w (bxP ⟨⟨s, i, c, t, h, d⟩, A1, c1, D1, e1⟩)
  have B0 := Lib.hid (alloc_below w (bxP ⟨⟨s, i, c, t, h, d⟩, A1, c1, D1, e1⟩))
  obtain ⟨f0, f1, f2, f3, f4, f5⟩ := hp_block X1
  simp only [Nat.zero_add] at f0 f1 f2 f3 f4 f5
  clear hn X1
  go_enter Try.func42, Try.ntmps42
  go_wp2_with fail
  obtain ⟨W, hW⟩ : ∃ W, w.alloc (bxP ⟨⟨s, i, c, t, h, d⟩, A1, c1, D1, e1⟩) = W := ⟨_, rfl⟩
  simp only [hW] at HH B0 f0 f1 f2 f3 f4 f5 ⊢
  clear hW
  go_loop [7] (fun vi => ∃ k : Nat, vi = .int .i64 k ∧ k ≤ h.length ∧ Hid (∀ j (hj : j < h.length), j < k → h[j] = true)) (fun vi => h.length - (intOf vi).toNat)
  case atStart => exact ⟨0, rfl, Nat.zero_le _, Lib.hid fun j hj h => by omega⟩
  case round =>
    obtain ⟨k, rfl, hk, HN⟩ := hrel
    by_cases hlt : k < h.length
    · obtain ⟨b, p, rfl, _, hc⟩ := bo_cell HH.out k hlt
      have Y := Lib.hid (KN.out k hlt)
      have N := Lib.hid (show h[k] = true → ∀ j (hj : j < h.length), j < k + 1 → h[j] = true from fun hh j hj hjn => by
        by_cases e : j = k
        · subst e; exact hh
        · exact HN.out j hj (by omega))
      clear KY KN HN
      obtain ⟨x, hx⟩ : ∃ x, h[k] = x := ⟨_, rfl⟩
      rw [hx] at hc Y N
      clear hx
      have q0 : (k : Int) < (h.length : Int) := by omega
      have q1 : (0 : Int) ≤ (k : Int) := by omega
      cases x with
      | false =>
        have E := Lib.hid (Y.out rfl)
        clear Y N
        go_wp2_with fail
        go_ret
        exact outB E.out.symm B0.out
      | true =>
        have E := Lib.hid (N.out rfl)
        clear Y N
        go_wp2_with fail
        go_round
        case rel => exact ⟨k + 1, by go_num, hlt, E⟩
        case measure => simp [intOf]; omega
    · obtain rfl : k = h.length := by omega
      have E := Lib.hid (KY.out fun j hj => HN.out j hj hj)
      clear KY KN HN
      go_wp2_with fail
      go_ret
      exact outB E.out.symm B0.out

theorem nT_take (h : List Bool) (k : Nat) (hk : k < h.length) : nT (h.take (k + 1)) = nT (h.take k) + if h[k] = true then 1 else 0 := by
  unfold nT
  rw [List.take_succ_eq_append_getElem hk, List.filter_append, List.length_append]
  cases h[k] <;> rfl
set_option maxRecDepth 100000 in
set_option maxHeartbeats 4000000 in
theorem rvalid_any (y : Hp) (w : World) (hl : y.x.h.length ≤ 9223372036854775807 ∧ y.x.d.length ≤ 9223372036854775807) (hn : Nest w y) : Calls Try.prog 55 #[hpV y] w (OutB w (decide (Valid y.x))) := by
  obtain ⟨⟨s, i, c, t, h, d⟩, A1, c1, D1, e1⟩ := y
  simp only at hl hn ⊢
  have b0 := alloc_below w (bxP ⟨⟨s, i, c, t, h, d⟩, A1, c1, D1, e1⟩)
  have HH := Lib.hid (hn.1.next b0)
  have HD := Lib.hid (hn.2.next b0)
  have V1 := Lib.hid (fun (hr : ¬ Rngs ⟨s, i, c, t, h, d⟩) => (show decide (Valid ⟨s, i, c, t, h, d⟩) = false from decide_eq_false fun v => hr ((valid_iff _).1 v).1))
  have V2 := Lib.hid (fun (k : Nat) (hk : k < h.length) (hs : ¬ Slot c h d k) => (show decide (Valid ⟨s, i, c, t, h, d⟩) = false from decide_eq_false fun v => hs (v.sl k hk)))
  have V3 := Lib.hid (fun (hr : Rngs ⟨s, i, c, t, h, d⟩) (hs : ∀ k, k < h.length → Slot c h d k) => (show decide (Valid ⟨s, i, c, t, h, d⟩) = decide (0 < nT h ∧ (nT h : Int) < c) from decide_eq_decide.2 ⟨fun v => ⟨v.lo, v.hi⟩, fun q => (valid_iff _).2 ⟨hr, hs, q.1, q.2⟩⟩))
  generalize decide (Valid ⟨s, i, c, t, h, d⟩) = F at *
  have X1 := blk_new w (bxP ⟨⟨s, i, c, t, h, d⟩, A1, c1, D1, e1⟩)
  have B0 := Lib.hid b0
  have G := Lib.hid (hp_block X1)
  have hz : w.heap.size < (w.alloc (bxP ⟨⟨s, i, c, t, h, d⟩, A1, c1, D1, e1⟩)).heap.size := by simp
  obtain ⟨f0, f1, f2, f3, f4, f5⟩ := hp_block X1
  simp only [Nat.zero_add] at f0 f1 f2 f3 f4 f5
  clear hn X1 b0
  by_cases k1 : i < 0
  · have E := Lib.hid (V1.out fun r => by obtain ⟨r1, r2, r3, r4, r5⟩ := r; simp only at r1 r2 r3 r4 r5; omega)
    have d1 := dt k1
    clear V1 V2 V3 k1
    go_enter Try.func55, Try.ntmps55
    go_wp2_with fail
    go_ret
    exact outB E.out.symm B0.out
  have d1 := df k1
  by_cases k2 : 255 < i
  · have E := Lib.hid (V1.out fun r => by obtain ⟨r1, r2, r3, r4, r5⟩ := r; simp only at r1 r2 r3 r4 r5; omega)
    have d2 := dt k2
    clear V1 V2 V3 k1 k2
    go_enter Try.func55, Try.ntmps55
    go_wp2_with fail
    go_ret
    exact outB E.out.symm B0.out
  have d2 := df k2
  by_cases k3 : c < 2
  · have E := Lib.hid (V1.out fun r => by obtain ⟨r1, r2, r3, r4, r5⟩ := r; simp only at r1 r2 r3 r4 r5; omega)
    have d3 := dt k3
    clear V1 V2 V3 k1 k2 k3
    go_enter Try.func55, Try.ntmps55
    go_wp2_with fail
    go_ret
    exact outB E.out.symm B0.out
  have d3 := df k3
  by_cases k4 : 16 < c
  · have E := Lib.hid (V1.out fun r => by obtain ⟨r1, r2, r3, r4, r5⟩ := r; simp only at r1 r2 r3 r4 r5; omega)
    have d4 := dt k4
    clear V1 V2 V3 k1 k2 k3 k4
    go_enter Try.func55, Try.ntmps55
    go_wp2_with fail
    go_ret
    exact outB E.out.symm B0.out
  have d4 := df k4
  by_cases k5 : t < 0
  · have E := Lib.hid (V1.out fun r => by obtain ⟨r1, r2, r3, r4, r5⟩ := r; simp only at r1 r2 r3 r4 r5; omega)
    have d5 := dt k5
    clear V1 V2 V3 k1 k2 k3 k4 k5
    go_enter Try.func55, Try.ntmps55
    go_wp2_with fail
    go_ret
    exact outB E.out.symm B0.out
  have d5 := df k5
  by_cases k6 : 1099511627776 < t
  · have E := Lib.hid (V1.out fun r => by obtain ⟨r1, r2, r3, r4, r5⟩ := r; simp only at r1 r2 r3 r4 r5; omega)
    have d6 := dt k6
    clear V1 V2 V3 k1 k2 k3 k4 k5 k6
    go_enter Try.func55, Try.ntmps55
    go_wp2_with fail
    go_ret
    exact outB E.out.symm B0.out
  have d6 := df k6
  by_cases k7 : (h.length : Int) ≠ c
  · have E := Lib.hid (V1.out fun r => by obtain ⟨r1, r2, r3, r4, r5⟩ := r; simp only at r1 r2 r3 r4 r5; omega)
    have d7 : ((h.length : Int) != c) = true := by simpa using k7
    clear V1 V2 V3 k1 k2 k3 k4 k5 k6 k7
    go_enter Try.func55, Try.ntmps55
    go_wp2_with fail
    go_ret
    exact outB E.out.symm B0.out
  have d7 : ((h.length : Int) != c) = false := by simpa using k7
  by_cases k8 : (d.length : Int) ≠ c
  · have E := Lib.hid (V1.out fun r => by obtain ⟨r1, r2, r3, r4, r5⟩ := r; simp only at r1 r2 r3 r4 r5; omega)
    have d8 : ((d.length : Int) != c) = true := by simpa using k8
    clear V1 V2 V3 k1 k2 k3 k4 k5 k6 k7 k8
    go_enter Try.func55, Try.ntmps55
    go_wp2_with fail
    go_ret
    exact outB E.out.symm B0.out
  have d8 : ((d.length : Int) != c) = false := by simpa using k8
  have HR : Rngs ⟨s, i, c, t, h, d⟩ := ⟨by simp only; omega, by simp only; omega, by simp only; omega, by simp only; omega, by simp only; omega⟩
  have V3 := Lib.hid (V3.out HR)
  have hdl : h.length ≤ d.length := by omega
  have h16 : h.length ≤ 16 := by omega
  have HC := Lib.hid (show I64 c ∧ -9223372036854775808 < c by unfold I64; omega)
  clear V1 k1 k2 k3 k4 k5 k6 k7 k8 HR
  have KZ := Lib.hid (fun (k : Nat) (n : Int) w => rsize_any (k : Int) c n w HC.out)
  have GN := Lib.hid (fun (k : Nat) (hk : k < h.length) => nT_take h k hk)
  have G0 := Lib.hid (show nT (h.take 0) = 0 from rfl)
  have GE := Lib.hid (show nT (h.take h.length) = nT h by rw [List.take_length])
  have GL := Lib.hid (fun k : Nat => (show nT (h.take k) ≤ h.length from Nat.le_trans (nT_le _) (by rw [List.length_take]; omega)))
  have SL := Lib.hid (fun (k : Nat) (hk : k < h.length) (hk2 : k < d.length) => (show Slot c h d k ↔ if h[k] = true then Sz k c (d[k].size : Int) else (d[k].size : Int) = 0 from by
    unfold Slot dat
    rw [List.getD_eq_getElem?_getD, List.getElem?_eq_getElem hk, List.getD_eq_getElem?_getD, List.getElem?_eq_getElem hk2, Option.getD_some, Option.getD_some]
    split
    · exact Iff.rfl
    · constructor <;> intro q <;> omega))
  generalize hS : Slot c h d = SS at *
  clear hS
  obtain ⟨T, hT⟩ : ∃ T : Nat → Nat, ∀ k, nT (h.take k) = T k := ⟨_, fun _ => rfl⟩
  simp only [hT] at GN G0 GE GL
  clear hT
  go_enter Try.func55, Try.ntmps55
  go_wp2_with fail
  obtain ⟨W, hW⟩ : ∃ W, w.alloc (bxP ⟨⟨s, i, c, t, h, d⟩, A1, c1, D1, e1⟩) = W := ⟨_, rfl⟩
  simp only [hW] at HH HD B0 G hz ⊢
  clear hW f0 f1 f2 f3 f4 f5
  go_loopw [3, 52] (fun vn vi wr => ∃ k : Nat, vi = .int .i64 k ∧ k ≤ h.length ∧ vn = .int .i64 (T k) ∧ Hid (∀ j, j < k → SS j) ∧ Below W.heap.size W wr) (fun _ vi _ => h.length - (intOf vi).toNat)
  case atStart => exact ⟨0, rfl, Nat.zero_le _, by rw [G0.out]; rfl, Lib.hid fun j h => by omega, Below.refl _ _⟩
  case round =>
    obtain ⟨k, rfl, hk, rfl, HN, hb⟩ := hrel
    have B := Lib.hid hb
    have LG := GL.out k
    obtain ⟨f0, f1, f2, f3, f4, f5⟩ := G.out.below hb hz
    simp only [Nat.zero_add] at f0 f1 f2 f3 f4 f5
    by_cases hlt : k < h.length
    · obtain ⟨b, p, rfl, _, hc⟩ := bo_cell (HH.out.next hb) k hlt
      obtain ⟨b', p', rfl, _, hc', hsz⟩ := st_cell (HD.out.next hb) k (by omega)
      have Y := Lib.hid (V2.out k hlt)
      have N := Lib.hid (show SS k → ∀ j, j < k + 1 → SS j from fun hh j hjn => by
        by_cases e : j = k
        · subst e; exact hh
        · exact HN.out j (by omega))
      have SK := Lib.hid (SL.out k hlt (by omega))
      have NK := Lib.hid (GN.out k hlt)
      have KZ := Lib.hid (KZ.out k)
      have BB := Lib.hid (fun n => below_drewN B.out n)
      have B00 := Lib.hid (fun n => (show Below w.heap.size w (wr.drewN n) from B0.out.trans ((below_drewN B.out n).mono B0.out.size)))
      clear V2 V3 HN SL GN GE GL G0 hb
      obtain ⟨x, hx⟩ : ∃ x, h[k] = x := ⟨_, rfl⟩
      rw [hx] at hc SK NK
      obtain ⟨z, hzz⟩ : ∃ z, d[k]'(by omega) = z := ⟨_, rfl⟩
      rw [hzz] at hc' SK hsz
      clear hx hzz
      have q0 : (k : Int) < (h.length : Int) := by omega
      have q1 : (0 : Int) ≤ (k : Int) := by omega
      have q2 : (k : Int) < (d.length : Int) := by omega
      generalize SS k = P at *
      cases x with
      | false =>
        have NK := Lib.hid (NK.out.trans (by rw [if_neg (by decide), Nat.add_zero]))
        by_cases e : z.size = 0
        · have E := Lib.hid (N.out (SK.out.2 (by rw [if_neg (by decide)]; omega)))
          have d9 : z = ⟨#[]⟩ := ByteArray.ext (by have : z.data.size = 0 := e; exact Array.eq_empty_of_size_eq_zero this)
          subst d9
          clear SK Y N hsz
          go_wp2_with fail
          go_roundw
          case rel => exact ⟨k + 1, by go_num, hlt, by rw [NK.out], E, B.out⟩
          case measure => simp [intOf]; omega
        · have E := Lib.hid (Y.out fun q => e (by have := SK.out.1 q; rw [if_neg (by decide)] at this; omega))
          have d9 : z.toList ≠ [] := fun q => e (by rw [Lib.toList_data] at q; have := congrArg List.length q; rw [bytes_len] at this; simpa using this)
          have d10 : z.toList.isEmpty = false := by simpa using d9
          have BR := BB.out 0
          clear SK Y N
          go_wp2_with fail
          go_ret
          exact outB E.out.symm (B00.out 0)
      | true =>
        have NK := Lib.hid (NK.out.trans (by rw [if_pos rfl]))
        have KZ := Lib.hid (fun w => KZ.out (z.size : Int) w)
        by_cases e : Sz k c (z.size : Int)
        · have E := Lib.hid (N.out (SK.out.2 (by rw [if_pos rfl]; exact e)))
          rw [show decide (Sz k c (z.size : Int)) = true from decide_eq_true e] at KZ
          clear SK Y N e
          go_wp2_with fail
          go_quiet ((go_at_call 28; exact quiet_same (KZ.out _)))
          go_wp2_with fail
          go_roundw
          case rel => exact ⟨k + 1, by go_num, hlt, by rw [NK.out]; go_num, E, BB.out _⟩
          case measure => simp [intOf]; omega
        · have E := Lib.hid (Y.out fun q => e (by have := SK.out.1 q; rw [if_pos rfl] at this; exact this))
          rw [show decide (Sz k c (z.size : Int)) = false from decide_eq_false e] at KZ
          clear SK Y N e
          go_wp2_with fail
          go_quiet ((go_at_call 28; exact quiet_same (KZ.out _)))
          go_wp2_with fail
          go_ret
          exact outB E.out.symm (B00.out _)
    · obtain rfl : k = h.length := by omega
      have E := Lib.hid (V3.out fun j hj => HN.out j hj)
      have GE := GE.out
      have BE := Lib.hid (B0.out.trans (hb.mono B0.out.size))
      clear V2 V3 HN SL GN GL G0 hb
      rw [GE]
      clear GE LG
      generalize nT h = m at *
      by_cases e0 : 0 < m
      · have d9 : decide ((0 : Int) < (m : Int)) = true := dt (by omega)
        have d10 : decide (0 < m) = true := dt e0
        have E := Lib.hid (E.out.trans (show decide (0 < m ∧ (m : Int) < c) = decide ((m : Int) < c) by simp [e0]))
        clear e0
        go_wp2_with fail
        rw [E.out]
        go_ret
        exact outB rfl BE.out
      · have d9 : decide ((0 : Int) < (m : Int)) = false := df (by omega)
        have d10 : decide (0 < m) = false := df e0
        have E := Lib.hid (E.out.trans (show decide (0 < m ∧ (m : Int) < c) = false by simp [e0]))
        clear e0
        go_wp2_with fail
        go_ret
        exact outB E.out.symm BE.out
end Go.Proofs.Ytljcjflbfjleoaa.Frg
