/- Decode, of package route and of the reference. -/
import Derived.Test.YtcfnkfkdhcejeaaRS
set_option linter.unusedVariables false
namespace Go.Proofs.Ytcfnkfkdhcejeaa.Rte
open Go.RowKit

theorem rts_get : ∀ (k : Nat) (l : List UInt8), 4 * k + 3 < l.length → (rts l)[k]? = some (rd4 (l.getD (4 * k) 0) (l.getD (4 * k + 1) 0) (l.getD (4 * k + 2) 0) (l.getD (4 * k + 3) 0))
  | 0, a :: b :: c :: e :: r, _ => rfl
  | k + 1, a :: b :: c :: e :: r, h => by
    have := rts_get k r (by simp at h; omega)
    rw [show rts (a :: b :: c :: e :: r) = rd4 a b c e :: rts r from rfl, List.getElem?_cons_succ, this]
    rfl
  | 0, [], h => absurd h (by simp)
  | 0, [_], h => absurd h (by simp)
  | 0, [_, _], h => absurd h (by simp)
  | 0, [_, _, _], h => absurd h (by simp)
  | k + 1, [], h => absurd h (by simp)
  | k + 1, [_], h => absurd h (by simp)
  | k + 1, [_, _], h => absurd h (by simp)
  | k + 1, [_, _, _], h => absurd h (by simp)
theorem rts_one {l : List UInt8} {m k : Nat} (h : l.length = 4 * m) (hk : k < m) (h2 : k < (rts l).length) : (rts l)[k] = rd4 (l.getD (4 * k) 0) (l.getD (4 * k + 1) 0) (l.getD (4 * k + 2) 0) (l.getD (4 * k + 3) 0) := by
  have := rts_get k l (by omega)
  rw [List.getElem?_eq_getElem h2] at this
  exact Option.some.inj this
theorem rd4_ok (a b c e : UInt8) : fR.ok (rd4 a b c e) := by
  have ha := a.toNat_lt
  have hb := b.toNat_lt
  have hc := c.toNat_lt
  have he := e.toNat_lt
  refine ⟨?_, ?_, ?_, ?_⟩ <;> (unfold I64 rd4; (try dsimp only); omega)
/-- Routes and an error are handed back. -/
def OutD (w : World) (p : List Rt × Int) (e : Ending) (w' : World) : Prop := ∃ v, e = .returned (.tuple #[v, .int .i64 p.2]) ∧ OwnR w' w.heap.size v p.1 ∧ Below w.heap.size w w'
theorem dec_4 {l : List UInt8} (h : l.length % 4 ≠ 0) : dec l = ([], 5) := if_pos h
theorem dec_96 {l : List UInt8} (h : ¬ l.length % 4 ≠ 0) (h2 : 96 < l.length) : dec l = ([], 3) := (if_neg h).trans (if_pos h2)
theorem dec_0 {l : List UInt8} (h : ¬ l.length % 4 ≠ 0) (h2 : ¬ 96 < l.length) : dec l = if chkD (-1) (rts l) = 0 then (rts l, 0) else ([], chkD (-1) (rts l)) := (if_neg h).trans (if_neg h2)
theorem us_dest (x : Rt) (h : (fun x : Rt => decide (Us1 x)) x = true) : 0 ≤ x.1 := (of_decide_eq_true h : Us1 x).1.1.1
theorem byte_wrap (c : UInt8) : wrap64 (c.toNat : Int) = (c.toNat : Int) ∧ IntKind.i64.wrap (c.toNat : Int) = (c.toNat : Int) := by
  have := c.toNat_lt
  refine ⟨by unfold wrap64; omega, by rw [IntKind.wrap_i64]; omega⟩
theorem byte_wrap256 (c : UInt8) : wrap64 ((c.toNat : Int) * (256 : Int)) = ((c.toNat : Int) * (256 : Int)) ∧ IntKind.i64.wrap ((c.toNat : Int) * (256 : Int)) = ((c.toNat : Int) * (256 : Int)) := by
  have := c.toNat_lt
  refine ⟨by unfold wrap64; omega, by rw [IntKind.wrap_i64]; omega⟩
theorem byte_wrap2 (c d : UInt8) : wrap64 ((c.toNat : Int) * (256 : Int) + (d.toNat : Int)) = ((c.toNat : Int) * (256 : Int) + (d.toNat : Int)) ∧ IntKind.i64.wrap ((c.toNat : Int) * (256 : Int) + (d.toNat : Int)) = ((c.toNat : Int) * (256 : Int) + (d.toNat : Int)) := by
  have := c.toNat_lt
  have := d.toNat_lt
  refine ⟨by unfold wrap64; omega, by rw [IntKind.wrap_i64]; omega⟩
theorem enUsable : ∀ args w, (callFunc 43 args).run Try.prog w = .ok (.enter 43 args) w := enters_of Try.func43 (by kernel_rfl) rfl
theorem outG_B {w : World} {b : Bool} {e : Ending} {w' : World} (h : OutG w (.bool b) e w') : OutB w b e w' := by
  obtain ⟨rfl, q, os, rfl⟩ := h
  exact outB rfl (grown_below _ _ _)
/-- One route more. -/
theorem app_route {w : World} {B : Nat} {v : Value} {l : List Rt} (h : OwnR w B v l) (x : Rt) (hx : fR.ok x) (hl : l.length ≤ 1000) (hB : B ≤ w.heap.size) :
    ∃ v' w', (Builtin.append_ #[22, 22] 22 #[v, .slice (some ⟨w.heap.size, 0, none⟩) 1 1]).run Try.prog (w.alloc (bxR x.1 x.2.1 x.2.2.1 x.2.2.2)) = .ok v' w' ∧ OwnR w' B v' (l ++ [x]) ∧ Below B w w' :=
  h.one eRt 22 x #[.int .i64 x.1, .int .i64 x.2.1, .int .i64 x.2.2.1, .int .i64 x.2.2.2] rfl hx (by omega) hB

set_option maxRecDepth 100000 in
set_option maxHeartbeats 1000000 in
theorem pdec_any (s : ByteArray) (w : World) (hs : s.size ≤ 1000000) :
    Calls Try.prog 24 #[.string s] w (OutD w (dec s.data.toList)) := by
  have hl := bytes_len s
  obtain ⟨L, hL⟩ : ∃ L, L = s.data.toList := ⟨_, rfl⟩
  rw [← hL] at hl ⊢
  have HL := Lib.hid hL
  clear hL
  have m0 : (s.size : Int).tmod 4 = ((s.size % 4 : Nat) : Int) := by rw [Int.tmod_eq_emod_of_nonneg (by omega)]; omega
  by_cases h4 : L.length % 4 ≠ 0
  · have R := Lib.hid (dec_4 h4)
    have d1 : (((s.size % 4 : Nat) : Int) != 0) = true := by rw [bne_iff_ne]; omega
    generalize dec L = D at *
    obtain ⟨D1, D2⟩ := D
    obtain ⟨rfl, rfl⟩ : D1 = [] ∧ D2 = 5 := by have := R.out; simpa using this
    clear h4
    generalize s.size % 4 = r at *
    go_enter Try.func24, Try.ntmps24
    go_wp2_with fail
    go_ret2
    exact ⟨_, rfl, OwnF.nil _ _, Below.refl _ _⟩
  by_cases h96 : 96 < L.length
  · have R := Lib.hid (dec_96 h4 h96)
    have d1 : (((s.size % 4 : Nat) : Int) != 0) = false := by rw [← Bool.not_eq_true, bne_iff_ne]; omega
    have d2 : decide (96 < (s.size : Int)) = true := dt (by omega)
    generalize dec L = D at *
    obtain ⟨D1, D2⟩ := D
    obtain ⟨rfl, rfl⟩ : D1 = [] ∧ D2 = 3 := by have := R.out; simpa using this
    clear h4 h96
    generalize s.size % 4 = r at *
    go_enter Try.func24, Try.ntmps24
    go_wp2_with fail
    go_ret2
    exact ⟨_, rfl, OwnF.nil _ _, Below.refl _ _⟩
  have R := Lib.hid (dec_0 h4 h96)
  have d1 : (((s.size % 4 : Nat) : Int) != 0) = false := by rw [← Bool.not_eq_true, bne_iff_ne]; omega
  have d2 : decide (96 < (s.size : Int)) = false := df (by omega)
  obtain ⟨m, hm⟩ : ∃ m, L.length = 4 * m := ⟨L.length / 4, by omega⟩
  have hm24 : m ≤ 24 := by omega
  have RL := Lib.hid (rts_back m L hm).2
  have RO := Lib.hid (fun k hk h2 => rts_one (k := k) hm hk h2)
  generalize dec L = D at *
  obtain ⟨D1, D2⟩ := D
  clear h4 h96
  go_enter Try.func24, Try.ntmps24
  generalize s.size % 4 = r at *
  go_wp2_with fail
  clear d1 d2 m0
  go_loopw [0, 4] (fun vs vv wr => ∃ (k : Nat) (t : ByteArray) (A1 : Option Addr) (c1 : Nat), vs = .string t ∧ Hid (t.data.toList = L.drop (4 * k)) ∧ t.size + 4 * k = 4 * m ∧ vv = .slice A1 k c1 ∧ Hid (OwnR wr w.heap.size (.slice A1 k c1) ((rts L).take k)) ∧ Below w.heap.size w wr) (fun vs _ _ => match vs with | .string t => t.size | _ => 0)
  case atStart => exact ⟨0, s, none, 0, rfl, Lib.hid HL.out.symm, by omega, rfl, Lib.hid (OwnF.nil _ _), Below.refl _ _⟩
  case round =>
    obtain ⟨k, t, A1, c1, rfl, HT, ht, rfl, O, hb⟩ := hrel
    have B := Lib.hid hb
    have hz := hb.size
    clear hb
    by_cases hlt : k < m
    · have h0 : t.toList.isEmpty = false := by
        rw [Lib.toList_data]
        have := bytes_len t
        cases h : t.data.toList with
        | nil => rw [h] at this; simp at this; omega
        | cons a r => rfl
      have p0 : 0 < t.size := by omega
      have p1 : 1 < t.size := by omega
      have p2 : 2 < t.size := by omega
      have p3 : 3 < t.size := by omega
      have q0 : (0 : Int) < (t.size : Int) := by omega
      have q1 : (1 : Int) < (t.size : Int) := by omega
      have q2 : (2 : Int) < (t.size : Int) := by omega
      have q3 : (3 : Int) < (t.size : Int) := by omega
      have q4 : (4 : Int) ≤ (t.size : Int) := by omega
      have e0 := (byte_wrap (t[0]'p0)).1
      have i0 := (byte_wrap (t[0]'p0)).2
      have e1 := (byte_wrap (t[1]'p1)).1
      have i1 := (byte_wrap (t[1]'p1)).2
      have e2 := (byte_wrap (t[2]'p2)).1
      have i2 := (byte_wrap (t[2]'p2)).2
      have e3 := (byte_wrap (t[3]'p3)).1
      have i3 := (byte_wrap (t[3]'p3)).2
      have e4 := (byte_wrap256 (t[1]'p1)).1
      have i4 := (byte_wrap256 (t[1]'p1)).2
      have e5 := (byte_wrap2 (t[1]'p1) (t[2]'p2)).1
      have i5 := (byte_wrap2 (t[1]'p1) (t[2]'p2)).2
      have X := Lib.hid (show (rts L).take (k + 1) = (rts L).take k ++ [rd4 (t[0]'p0) (t[1]'p1) (t[2]'p2) (t[3]'p3)] by
        have h2 : k < (rts L).length := by rw [RL.out]; exact hlt
        rw [List.take_succ_eq_append_getElem h2, RO.out k hlt h2, byte_at t 0 p0, byte_at t 1 p1, byte_at t 2 p2, byte_at t 3 p3, HT.out]
        simp [List.getD, List.getElem?_drop])
      have LK := Lib.hid (show ((rts L).take k).length = k by rw [List.length_take, RL.out]; omega)
      have HT2 := Lib.hid (show (bs (t.data.toList.drop 4)).data.toList = L.drop (4 * (k + 1)) by rw [bs_data, HT.out, List.drop_drop, show 4 * k + 4 = 4 * (k + 1) by omega])
      have HZ2 := Lib.hid (show (bs (t.data.toList.drop 4)).size + 4 * (k + 1) = 4 * m by rw [bs_size, List.length_drop, bytes_len]; omega)
      have XT := Lib.hid (ext_drop t 4)
      have RK := Lib.hid (rd4_ok (t[0]'p0) (t[1]'p1) (t[2]'p2) (t[3]'p3))
      go_wp2_with fail
      go_quiet (fail)
      obtain ⟨wq, hwq⟩ : ∃ wq, wq = wr.drewN nq := ⟨_, rfl⟩
      rw [← hwq]
      have B4 := Lib.hid (show Below w.heap.size w wq by rw [hwq]; exact below_drewN B.out nq)
      have O4 := Lib.hid (show OwnR wq w.heap.size (.slice A1 k c1) ((rts L).take k) by rw [hwq]; exact O.out.drew nq)
      clear hwq
      go_wp2_with fail
      obtain ⟨y0, hy0⟩ : ∃ y : UInt8, y = t[0]'p0 := ⟨_, rfl⟩
      have HC := Lib.hid (fun (wz : World) (h : Below w.heap.size w wz) => trivial)
      have Z0 : Below w.heap.size w wq.drew := B4.out.drew
      obtain ⟨v6, w6, hap, ho6, hb6⟩ := app_route (O4.out.drew 1) (rd4 (t[0]'p0) (t[1]'p1) (t[2]'p2) (t[3]'p3)) RK.out (by rw [LK.out]; omega) Z0.size
      have Z1 : Below w.heap.size w (wq.drew.alloc (bxR ((t[0]'p0).toNat : Int) (((t[1]'p1).toNat : Int) * (256 : Int) + ((t[2]'p2).toNat : Int)) ((t[3]'p3).toNat : Int) 255)) := Z0.alloc Z0.size _
      have Z2 := Z0.trans hb6
      obtain ⟨A6, c6, e6, _⟩ := ho6.form
      subst e6
      have O6 := Lib.hid (show OwnR w6 w.heap.size (.slice A6 (k + 1) c6) ((rts L).take (k + 1)) by rw [X.out]; have := ho6; rw [List.length_append, LK.out] at this; exact this)
      rw [List.length_append, LK.out] at hap
      have hap : (Builtin.append_ #[22, 22] 22 #[.slice A1 k c1, .slice (some ⟨wq.heap.size, 0, none⟩) 1 1]).run Try.prog (wq.drew.alloc (bxR ((t[0]'p0).toNat : Int) (((t[1]'p1).toNat : Int) * (256 : Int) + ((t[2]'p2).toNat : Int)) ((t[3]'p3).toNat : Int) 255)) = .ok (.slice A6 (k + 1) c6) w6 := hap
      clear ho6 hb6 hy0
      refine wp_region_held_drew (S := (fun _ : World => True)) (by kernel_rfl) (HC.out _ Z0) (fun hHeld => ?_)
      refine wpAnyH_take (i := 0) (v := (.slice A1 k c1)) at_zero (by kernel_rfl) (by kernel_rfl) (by kernel_rfl) (fun _ _ _ h => h) (Or.inl ⟨by kernel_rfl, fun wy hSw => ?_⟩) (by assumption) ?_
      · (try dsimp only at hSw); go_simp
      try simp only [Act.put, List.setIfInBounds_toArray, List.set_cons_zero, List.set_cons_succ]
      refine wpAnyH_take (i := 1) (v := (.string t)) (at_succ at_zero) (by kernel_rfl) (by kernel_rfl) (by kernel_rfl) (fun _ _ _ h => h) (Or.inl ⟨by kernel_rfl, fun wy hSw => ?_⟩) (by assumption) ?_
      · (try dsimp only at hSw); go_simp
      try simp only [Act.put, List.setIfInBounds_toArray, List.set_cons_zero, List.set_cons_succ]
      refine wpAnyH_take (i := 2) (v := (.int .u8 ((t[0]'p0).toNat : Int))) (at_succ (at_succ at_zero)) (by kernel_rfl) (by kernel_rfl) (by kernel_rfl) (fun _ _ _ h => h) (Or.inl ⟨by kernel_rfl, fun wy hSw => ?_⟩) (by assumption) ?_
      · (try dsimp only at hSw); go_simp
      try simp only [Act.put, List.setIfInBounds_toArray, List.set_cons_zero, List.set_cons_succ]
      refine wpAnyH_take (i := 3) (v := (.int .i64 ((t[0]'p0).toNat : Int))) (at_succ (at_succ (at_succ at_zero))) (by kernel_rfl) (by kernel_rfl) (by kernel_rfl) (fun _ _ _ h => h) (Or.inl ⟨by kernel_rfl, fun wy hSw => ?_⟩) (by assumption) ?_
      · (try dsimp only at hSw); go_simp
      try simp only [Act.put, List.setIfInBounds_toArray, List.set_cons_zero, List.set_cons_succ]
      refine wpAnyH_take (i := 4) (v := (.int .i64 (((t[1]'p1).toNat : Int) * (256 : Int) + ((t[2]'p2).toNat : Int)))) (at_succ (at_succ (at_succ (at_succ at_zero)))) (by kernel_rfl) (by kernel_rfl) (by kernel_rfl) (fun _ _ _ h => h) (Or.inl ⟨by kernel_rfl, fun wy hSw => ?_⟩) (by assumption) ?_
      · (try dsimp only at hSw); go_simp
      try simp only [Act.put, List.setIfInBounds_toArray, List.set_cons_zero, List.set_cons_succ]
      refine wpAnyH_take (i := 5) (v := (.string t)) (at_succ (at_succ (at_succ (at_succ (at_succ at_zero))))) (by kernel_rfl) (by kernel_rfl) (by kernel_rfl) (fun _ _ _ h => h) (Or.inl ⟨by kernel_rfl, fun wy hSw => ?_⟩) (by assumption) ?_
      · (try dsimp only at hSw); go_simp
      try simp only [Act.put, List.setIfInBounds_toArray, List.set_cons_zero, List.set_cons_succ]
      refine wpAnyH_take (i := 6) (v := (.int .u8 ((t[3]'p3).toNat : Int))) (at_succ (at_succ (at_succ (at_succ (at_succ (at_succ at_zero)))))) (by kernel_rfl) (by kernel_rfl) (by kernel_rfl) (fun _ _ _ h => h) (Or.inl ⟨by kernel_rfl, fun wy hSw => ?_⟩) (by assumption) ?_
      · (try dsimp only at hSw); go_simp
      try simp only [Act.put, List.setIfInBounds_toArray, List.set_cons_zero, List.set_cons_succ]
      refine wpAnyH_take (i := 7) (v := (.int .i64 ((t[3]'p3).toNat : Int))) (at_succ (at_succ (at_succ (at_succ (at_succ (at_succ (at_succ at_zero))))))) (by kernel_rfl) (by kernel_rfl) (by kernel_rfl) (fun _ _ _ h => h) (Or.inl ⟨by kernel_rfl, fun wy hSw => ?_⟩) (by assumption) ?_
      · (try dsimp only at hSw); go_simp
      try simp only [Act.put, List.setIfInBounds_toArray, List.set_cons_zero, List.set_cons_succ]
      refine wpAnyH_take (i := 8) (v := (.agg #[(.int .i64 ((t[0]'p0).toNat : Int)), (.int .i64 (((t[1]'p1).toNat : Int) * (256 : Int) + ((t[2]'p2).toNat : Int))), (.int .i64 ((t[3]'p3).toNat : Int)), .int .i64 255])) (at_succ (at_succ (at_succ (at_succ (at_succ (at_succ (at_succ (at_succ at_zero)))))))) (by kernel_rfl) (by kernel_rfl) (by kernel_rfl) (fun _ _ _ h => h) (Or.inl ⟨by kernel_rfl, fun wy hSw => ?_⟩) (by assumption) ?_
      · (try dsimp only at hSw); go_simp
      try simp only [Act.put, List.setIfInBounds_toArray, List.set_cons_zero, List.set_cons_succ]
      refine wpAnyH_ready (rs := [9]) (by kernel_rfl) (by simp) ?_
      refine AllReadyH.cons (at_succ (at_succ (at_succ (at_succ (at_succ (at_succ (at_succ (at_succ (at_succ at_zero))))))))) (fun K hK => ?_) AllReadyH.nil
      rw [if_pos (by kernel_rfl)]
      go_simp
      refine hK.out _ _ (HC.out _ Z1) (fun hHeld => ?_)
      clear hK K
      try simp only [Act.put, List.setIfInBounds_toArray, List.set_cons_zero, List.set_cons_succ]
      refine wpAnyH_ready (rs := [10]) (by kernel_rfl) (by simp) ?_
      refine AllReadyH.cons (at_succ (at_succ (at_succ (at_succ (at_succ (at_succ (at_succ (at_succ (at_succ (at_succ at_zero)))))))))) (fun K hK => ?_) AllReadyH.nil
      rw [if_pos (by kernel_rfl)]
      refine Lib.wp_append_run _ _ _ _ _ rfl _ _ rfl rfl _ _ hap ?_
      refine hK.out _ _ (HC.out _ Z2) (fun hHeld => ?_)
      clear hK K hap
      try simp only [Act.put, List.setIfInBounds_toArray, List.set_cons_zero, List.set_cons_succ]
      refine wpAnyH_take (i := 11) (v := (.slice A6 (k + 1) c6)) (at_succ (at_succ (at_succ (at_succ (at_succ (at_succ (at_succ (at_succ (at_succ (at_succ (at_succ at_zero))))))))))) (by kernel_rfl) (by kernel_rfl) (by kernel_rfl) (fun _ _ _ h => h) (Or.inl ⟨by kernel_rfl, fun wy hSw => ?_⟩) (by assumption) ?_
      · (try dsimp only at hSw); go_simp
      try simp only [Act.put, List.setIfInBounds_toArray, List.set_cons_zero, List.set_cons_succ]
      refine wpAnyH_done (by kernel_rfl) ?_ _
      go_wp2_with fail
      go_roundw
      case rel => exact ⟨k + 1, bs (t.data.toList.drop 4), A6, c6, by first | rw [XT.out] | rfl, HT2, HZ2.out, rfl, O6, Z2⟩
      case measure => simp; omega
    · have h0 : t.toList.isEmpty = true := by
        rw [Lib.toList_data]
        have := bytes_len t
        cases h : t.data.toList with
        | nil => rfl
        | cons a r => rw [h] at this; simp at this; omega
      obtain rfl : k = m := by omega
      have TA := Lib.hid (show (rts L).take k = rts L from List.take_of_length_le (by rw [RL.out]; exact Nat.le_refl _))
      have O2 := Lib.hid (show OwnR wr w.heap.size (.slice A1 k c1) (rts L) by rw [← TA.out]; exact O.out)
      obtain ⟨A2, c2, hv, hA2, _, _⟩ := O2.out.read
      rw [RL.out] at hv
      simp only [Value.slice.injEq, true_and] at hv
      obtain ⟨rfl, rfl⟩ := hv
      have KC := Lib.hid (show Calls Try.prog 34 #[.slice A1 k c1, .func (.func 43) #[] #[]] wr (OutI wr (chkD (-1) (rts L))) by
        have := checkRoutes_any 43 (fun x => decide (Us1 x)) us_dest enUsable (fun x w => (isUsable_any x w).mono fun _ _ h => outG_B h) A1 c1 (rts L) wr (by rw [RL.out]; omega) hA2
        rw [chkP_D, RL.out] at this
        exact this)
      clear hA2
      generalize chkD (-1) (rts L) = q at *
      by_cases hq : q = 0
      · have R2 := Lib.hid (R.out.trans (if_pos hq))
        obtain ⟨rfl, rfl⟩ : D1 = rts L ∧ D2 = 0 := by have := R2.out; simpa using this
        have d3 : (q != 0) = false := by simpa using hq
        clear hq R R2
        go_wp2_with fail
        refine KC.out.mono ?_
        rintro _ w5 ⟨rfl, hb⟩
        have B5 := Lib.hid (B.out.trans (hb.mono hz))
        have O5 := Lib.hid (O2.out.below hb)
        clear hb
        go_wp2_with fail
        go_ret2
        exact ⟨_, rfl, O5.out, B5.out⟩
      · have R2 := Lib.hid (R.out.trans (if_neg hq))
        have d3 : (q != 0) = true := by simpa using hq
        clear hq R
        obtain ⟨rfl, rfl⟩ : D1 = [] ∧ D2 = q := by have := R2.out; simpa using this
        clear R2
        go_wp2_with fail
        refine KC.out.mono ?_
        rintro _ w5 ⟨rfl, hb⟩
        have B5 := Lib.hid (B.out.trans (hb.mono hz))
        clear hb
        go_wp2_with fail
        go_ret2
        exact ⟨_, rfl, OwnF.nil _ _, B5.out⟩
end Go.Proofs.Ytcfnkfkdhcejeaa.Rte
