/- Encode, of package route and of the reference. -/
import Derived.Test.YtcfnkfkdhcejeaaRR
import Derived.Test.YtcfnkfkdhcejeaaBr
import Derived.Deep.RegionHeld3
set_option linter.unusedVariables false
namespace Go.Proofs.Ytcfnkfkdhcejeaa.Rte
open Go.RowKit

theorem enc_zero (t : List Rt) : enc (t.take 0) = [] := by rw [List.take_zero]; rfl
theorem u8_wrap (n : Int) : IntKind.u8.wrap n = ((u8 (n % 256)).toNat : Int) := by
  rw [u8_nat _ (by omega)]
  show n % 256 = _
  rfl
theorem u8_id {n : Int} (h : 0 ≤ n ∧ n < 256) : IntKind.u8.wrap n = ((u8 n).toNat : Int) := by
  rw [u8_nat _ h]
  show n % 256 = _
  omega
/-- A string is handed back. -/
def OutS (w : World) (l : List UInt8) (e : Ending) (w' : World) : Prop := e = .returned (.string (bs l)) ∧ Below w.heap.size w w'
/-- Four bytes more. -/
theorem app_four {w : World} {B : Nat} {v : Value} {l : List UInt8} (h : OwnB w B v l) (a b c d : UInt8) (hl : l.length ≤ 1000) (hB : B ≤ w.heap.size) :
    ∃ v' w', (Builtin.append_ #[65, 65] 65 #[v, .slice (some ⟨w.heap.size, 0, none⟩) 4 4]).run Try.prog (w.alloc (.cells #[u8v a, u8v b, u8v c, u8v d] 5)) = .ok v' w' ∧ OwnB w' B v' (l ++ [a, b, c, d]) ∧ Below B w w' := by
  obtain ⟨v', w', h1, h2, h3, _⟩ := (h.alloc (.cells #[u8v a, u8v b, u8v c, u8v d] 5)).app eU8 (c := 4) 65 (FlAt.lit (F := fB) w [a, b, c, d] #[u8v a, u8v b, u8v c, u8v d] 5 (by unfold maxLen; simp) rfl (fun _ _ => trivial)) (by simp; omega) (Nat.le_trans hB (by simp))
  exact ⟨v', w', h1, h2, ((Below.refl B w).alloc hB _).trans h3⟩

set_option maxRecDepth 100000 in
set_option maxHeartbeats 1000000 in
theorem penc_any (A : Option Addr) (c : Nat) (l : List Rt) (w : World) (hl : l.length ≤ 9223372036854775807) (hA : RtAt w w.heap.size A l) :
    Calls Try.prog 26 #[.slice A l.length c] w (OutS w (enc l)) := by
  have HA := Lib.hid hA
  have E0 := Lib.hid (enc_zero l)
  have EF := Lib.hid (show enc (l.take l.length) = enc l by rw [List.take_length])
  have EL := Lib.hid (fun k => enc_len_le (l.take k))
  have EY := Lib.hid (fun k h hu hl => enc_yes l k h hu hl)
  have EN := Lib.hid (fun k h hu => enc_no l k h hu)
  have EX := Lib.hid (fun k h hu => enc_full l k h hu)
  clear hA
  obtain ⟨G, hG⟩ : ∃ G : Nat → List UInt8, G = fun k => enc (l.take k) := ⟨_, rfl⟩
  have GK : ∀ k, enc (l.take k) = G k := fun k => by rw [hG]
  simp only [GK] at E0 EF EL EY EN EX
  generalize enc l = F at *
  clear hG GK
  go_enter Try.func26, Try.ntmps26
  go_wp2_with fail
  go_loopw [3, 8] (fun vv i wr => ∃ (k : Nat) (A1 : Option Addr) (c1 : Nat), i = .int .i64 k ∧ vv = .slice A1 (G k).length c1 ∧ k ≤ l.length ∧ Hid (OwnB wr w.heap.size (.slice A1 (G k).length c1) (G k)) ∧ Below w.heap.size w wr) (fun _ i _ => l.length - (intOf i).toNat)
  case atStart => exact ⟨0, none, 0, rfl, by rw [E0.out]; rfl, Nat.zero_le _, Lib.hid (by rw [E0.out]; exact OwnF.nil _ _), Below.refl _ _⟩
  case round =>
    obtain ⟨k, A1, c1, rfl, rfl, hk, O, hb⟩ := hrel
    have B := Lib.hid hb
    have hz := hb.size
    by_cases hlt : k < l.length
    · obtain ⟨b, p, rfl, hbw, g0, g1, g2, g3, _⟩ := rt_cell (HA.out.below hb) k hlt
      have LE := EL.out k
      have EYk := Lib.hid (EY.out k hlt)
      have ENk := Lib.hid (EN.out k hlt)
      have EXk := Lib.hid (EX.out k hlt)
      obtain ⟨⟨x0, x1, x2, x3⟩, hx⟩ : ∃ x, l[k] = x := ⟨_, rfl⟩
      have HX := Lib.hid hx
      rw [hx] at g0 g1 g2 g3 EYk ENk
      simp only at g0 g1 g2 g3
      have KU := Lib.hid (fun w => (show Calls Try.prog 43 #[.agg #[.int .i64 x0, .int .i64 x1, .int .i64 x2, .int .i64 x3]] w (OutV w (.bool (decide (Us1 (x0, x1, x2, x3))))) from (isUsable_any (x0, x1, x2, x3) w).mono fun _ _ h => outG_V h))
      unfold OutV at KU
      clear hx hb EY EN EX E0 EL
      have q1 : (k : Int) < (l.length : Int) := by omega
      have q2 : (0 : Int) ≤ (k : Int) := by omega
      by_cases hu : Us1 (x0, x1, x2, x3)
      · rw [dt hu] at KU
        by_cases h96 : (G k).length < 96
        · have N := Lib.hid (EYk.out hu h96)
          have hur := hu.1
          have huc := us_cost hu
          simp only at hur huc
          have d1 : decide (((G k).length : Int) < 96) = true := dt (by omega)
          have w0 := u8_id (show 0 ≤ x0 ∧ x0 < 256 by omega)
          have w1 := u8_id (show 0 ≤ x1 / 256 ∧ x1 / 256 < 256 by omega)
          have w2 := u8_wrap x1
          have w3 := u8_id (show 0 ≤ x2 ∧ x2 < 256 by omega)
          clear hu h96 EYk ENk EXk
          go_wp2_with fail
          refine (KU.out _).mono ?_
          rintro _ w4 ⟨rfl, hb⟩
          have B4 := Lib.hid ((B.out.alloc hz _).trans (hb.mono (Nat.le_trans hz (by simp))))
          have O4 := Lib.hid ((O.out.alloc (bxR x0 x1 x2 x3)).below hb)
          have hz4 := B4.out.size
          obtain ⟨c0, c1', c2, c3⟩ := box4 hb
          clear hb KU hur huc
          obtain ⟨v6, w6, hap, ho6, hb6⟩ := app_four O4.out (u8 x0) (u8 (x1 / 256)) (u8 (x1 % 256)) (u8 x2) (by omega) hz4
          have B6 := Lib.hid (B4.out.trans hb6)
          obtain ⟨A6, c6, e6, _⟩ := ho6.form
          subst e6
          have O6 := Lib.hid (show OwnB w6 w.heap.size (.slice A6 (G (k + 1)).length c6) (G (k + 1)) by rw [N.out]; exact ho6)
          have L6 := Lib.hid (show (G k ++ [u8 x0, u8 (x1 / 256), u8 (x1 % 256), u8 x2]).length = (G (k + 1)).length by rw [N.out]; rfl)
          rw [L6.out] at hap
          clear ho6 hb6
          go_wp2_with (at_builtin; refine Lib.wpList_append_run _ rfl _ _ _ _ rfl _ _ rfl rfl _ _ hap ?_)
          go_roundw
          case rel => exact ⟨k + 1, A6, c6, by go_num, rfl, hlt, O6, B6.out⟩
          case measure => simp [intOf]; omega
        · have N := Lib.hid (EXk.out h96)
          have d1 : decide (((G k).length : Int) < 96) = false := df (by omega)
          clear hu h96 EYk ENk EXk
          go_wp2_with fail
          refine (KU.out _).mono ?_
          rintro _ w4 ⟨rfl, hb⟩
          have B4 := Lib.hid ((B.out.alloc hz _).trans (hb.mono (Nat.le_trans hz (by simp))))
          have O4 := Lib.hid ((O.out.alloc (bxR x0 x1 x2 x3)).below hb)
          have hz4 := B4.out.size
          clear hb KU
          go_wp2_with fail
          go_roundw
          case rel => exact ⟨k + 1, A1, c1, by go_num, by rw [N.out], hlt, Lib.hid (by rw [N.out]; exact O4.out), B4.out⟩
          case measure => simp [intOf]; omega
      · rw [df hu] at KU
        have N := Lib.hid (ENk.out hu)
        clear hu EYk ENk EXk
        go_wp2_with fail
        refine (KU.out _).mono ?_
        rintro _ w4 ⟨rfl, hb⟩
        have B4 := Lib.hid ((B.out.alloc hz _).trans (hb.mono (Nat.le_trans hz (by simp))))
        have O4 := Lib.hid ((O.out.alloc (bxR x0 x1 x2 x3)).below hb)
        have hz4 := B4.out.size
        clear hb KU
        go_wp2_with fail
        go_roundw
        case rel => exact ⟨k + 1, A1, c1, by go_num, by rw [N.out], hlt, Lib.hid (by rw [N.out]; exact O4.out), B4.out⟩
        case measure => simp [intOf]; omega
    · obtain rfl : k = l.length := by omega
      have hcv := conv_fb O.out
      rw [EF.out] at hcv O ⊢
      clear hb EY EN EX E0 EL HA
      go_wp2_with fail
      go_ret
      exact ⟨rfl, B.out⟩

set_option maxRecDepth 100000 in
set_option maxHeartbeats 1000000 in
theorem renc_any (A : Option Addr) (c : Nat) (l : List Rt) (w : World) (hl : l.length ≤ 9223372036854775807) (hA : RtAt w w.heap.size A l) :
    Calls Try.prog 27 #[.slice A l.length c] w (OutS w (enc l)) := by
  have HA := Lib.hid hA
  have E0 := Lib.hid (enc_zero l)
  have EF := Lib.hid (show enc (l.take l.length) = enc l by rw [List.take_length])
  have EL := Lib.hid (fun k => enc_len_le (l.take k))
  have EY := Lib.hid (fun k h hu hl => enc_yes l k h hu hl)
  have EN := Lib.hid (fun k h hu => enc_no l k h hu)
  have EX := Lib.hid (fun k h hu => enc_full l k h hu)
  clear hA
  obtain ⟨G, hG⟩ : ∃ G : Nat → List UInt8, G = fun k => enc (l.take k) := ⟨_, rfl⟩
  have GK : ∀ k, enc (l.take k) = G k := fun k => by rw [hG]
  simp only [GK] at E0 EF EL EY EN EX
  generalize enc l = F at *
  clear hG GK
  go_enter Try.func27, Try.ntmps27
  go_wp2_with fail
  go_loopw [3, 4] (fun vv i wr => ∃ (k : Nat) (A1 : Option Addr) (c1 : Nat), i = .int .i64 k ∧ vv = .slice A1 (G k).length c1 ∧ k ≤ l.length ∧ Hid (OwnB wr w.heap.size (.slice A1 (G k).length c1) (G k)) ∧ Below w.heap.size w wr) (fun _ i _ => l.length - (intOf i).toNat)
  case atStart => exact ⟨0, none, 0, rfl, by rw [E0.out]; rfl, Nat.zero_le _, Lib.hid (by rw [E0.out]; exact OwnF.nil _ _), Below.refl _ _⟩
  case round =>
    obtain ⟨k, A1, c1, rfl, rfl, hk, O, hb⟩ := hrel
    have B := Lib.hid hb
    have hz := hb.size
    by_cases hlt : k < l.length
    · obtain ⟨b, p, rfl, hbw, g0, g1, g2, g3, _⟩ := rt_cell (HA.out.below hb) k hlt
      have LE := EL.out k
      have EYk := Lib.hid (EY.out k hlt)
      have ENk := Lib.hid (EN.out k hlt)
      have EXk := Lib.hid (EX.out k hlt)
      obtain ⟨⟨x0, x1, x2, x3⟩, hx⟩ : ∃ x, l[k] = x := ⟨_, rfl⟩
      have HX := Lib.hid hx
      rw [hx] at g0 g1 g2 g3 EYk ENk
      simp only at g0 g1 g2 g3
      have KU := Lib.hid (fun w => (show Calls Try.prog 38 #[.agg #[.int .i64 x0, .int .i64 x1, .int .i64 x2, .int .i64 x3]] w (OutV w (.bool (decide (Us1 (x0, x1, x2, x3))))) from (rusable_any (x0, x1, x2, x3) w).mono fun _ _ h => outG_V h))
      unfold OutV at KU
      clear hx hb EY EN EX E0 EL
      have q1 : (k : Int) < (l.length : Int) := by omega
      have q2 : (0 : Int) ≤ (k : Int) := by omega
      by_cases hu : Us1 (x0, x1, x2, x3)
      · rw [dt hu] at KU
        by_cases h96 : (G k).length < 96
        · have N := Lib.hid (EYk.out hu h96)
          have hur := hu.1
          have huc := us_cost hu
          simp only at hur huc
          have d1 : decide (((G k).length : Int) < 96) = true := dt (by omega)
          have w0 := u8_id (show 0 ≤ x0 ∧ x0 < 256 by omega)
          have w1 := u8_id (show 0 ≤ x1 / 256 ∧ x1 / 256 < 256 by omega)
          have w2 := u8_id (show 0 ≤ x1 % 256 ∧ x1 % 256 < 256 by omega)
          have m1 : x1.tdiv 256 = x1 / 256 := Int.tdiv_eq_ediv_of_nonneg hur.2.1
          have m2 : x1.tmod 256 = x1 % 256 := Int.tmod_eq_emod_of_nonneg hur.2.1
          have w5 : IntKind.i64.wrap (x1 / 256) = x1 / 256 := by rw [IntKind.wrap_i64]; omega
          have w3 := u8_id (show 0 ≤ x2 ∧ x2 < 256 by omega)
          clear hu h96 EYk ENk EXk
          go_wp2_with fail
          refine (KU.out _).mono ?_
          rintro _ w4 ⟨rfl, hb⟩
          have B4 := Lib.hid (B.out.trans (hb.mono hz))
          have O4 := Lib.hid (O.out.below hb)
          have hz4 := B4.out.size
          clear hb KU hur huc g0 g1 g2 g3
          have HC := Lib.hid (fun wz (h : Below w.heap.size w wz) => (show wz.cell? ⟨b, p + k * 4, none⟩ = some (.int .i64 x0) ∧ wz.cell? ⟨b, p + k * 4 + 1, none⟩ = some (.int .i64 x1) ∧ wz.cell? ⟨b, p + k * 4 + 2, none⟩ = some (.int .i64 x2) by
            have rr := rt_cell (HA.out.below h) k hlt
            rw [HX.out] at rr
            obtain ⟨b', p', e', _, g0, g1, g2, _⟩ := rr
            simp only [Option.some.injEq, Addr.mk.injEq, and_true] at e'
            obtain ⟨rfl, rfl⟩ := e'
            exact ⟨g0, g1, g2⟩))
          have Z0 : Below w.heap.size w w4.drew := B4.out.drew
          have Z1 : Below w.heap.size w (w4.drew.alloc (.cells #[u8v (Rte.u8 x0), u8v (Rte.u8 (x1 / 256)), u8v (Rte.u8 (x1 % 256)), u8v (Rte.u8 x2)] 5)) := Z0.alloc Z0.size _
          obtain ⟨v6, w6, hap, ho6, hb6⟩ := app_four (O4.out.drew 1) (Rte.u8 x0) (Rte.u8 (x1 / 256)) (Rte.u8 (x1 % 256)) (Rte.u8 x2) (by omega) Z0.size
          have Z2 := Z0.trans hb6
          obtain ⟨A6, c6, e6, _⟩ := ho6.form
          subst e6
          have O6 := Lib.hid (show OwnB w6 w.heap.size (.slice A6 (G (k + 1)).length c6) (G (k + 1)) by rw [N.out]; exact ho6)
          have L6 := Lib.hid (show (G k ++ [Rte.u8 x0, Rte.u8 (x1 / 256), Rte.u8 (x1 % 256), Rte.u8 x2]).length = (G (k + 1)).length by rw [N.out]; rfl)
          rw [L6.out] at hap
          clear ho6 hb6
          go_wp2_with fail
          refine wp_region_held_drew (S := (fun w' : World => w'.cell? ⟨b, p + k * 4, none⟩ = some (.int .i64 x0) ∧ w'.cell? ⟨b, p + k * 4 + 1, none⟩ = some (.int .i64 x1) ∧ w'.cell? ⟨b, p + k * 4 + 2, none⟩ = some (.int .i64 x2))) (by kernel_rfl) (HC.out _ Z0) (fun hHeld => ?_)
          refine wpAnyH_take (i := 0) (v := (.slice A1 (G k).length c1)) at_zero (by kernel_rfl) (by kernel_rfl) (by kernel_rfl) (fun _ _ _ h => h) (Or.inl ⟨by kernel_rfl, fun wy hSw => ?_⟩) (by assumption) ?_
          · (try dsimp only at hSw); go_simp
          try simp only [Act.put, List.setIfInBounds_toArray, List.set_cons_zero, List.set_cons_succ]
          refine wpAnyH_take (i := 1) (v := (.slice (some ⟨b, p, none⟩) l.length c)) (at_succ at_zero) (by kernel_rfl) (by kernel_rfl) (by kernel_rfl) (fun _ _ _ h => h) (Or.inl ⟨by kernel_rfl, fun wy hSw => ?_⟩) (by assumption) ?_
          · (try dsimp only at hSw); go_simp
          try simp only [Act.put, List.setIfInBounds_toArray, List.set_cons_zero, List.set_cons_succ]
          refine wpAnyH_take (i := 2) (v := (.int .i64 (k : Int))) (at_succ (at_succ at_zero)) (by kernel_rfl) (by kernel_rfl) (by kernel_rfl) (fun _ _ _ h => h) (Or.inl ⟨by kernel_rfl, fun wy hSw => ?_⟩) (by assumption) ?_
          · (try dsimp only at hSw); go_simp
          try simp only [Act.put, List.setIfInBounds_toArray, List.set_cons_zero, List.set_cons_succ]
          refine wpAnyH_take (i := 3) (v := (.pointer (some ⟨b, p + k * 4, none⟩))) (at_succ (at_succ (at_succ at_zero))) (by kernel_rfl) (by kernel_rfl) (by kernel_rfl) (fun _ _ _ h => h) (Or.inl ⟨by kernel_rfl, fun wy hSw => ?_⟩) (by assumption) ?_
          · (try dsimp only at hSw); go_simp
          try simp only [Act.put, List.setIfInBounds_toArray, List.set_cons_zero, List.set_cons_succ]
          refine wpAnyH_take (i := 4) (v := (.pointer (some ⟨b, p + k * 4, none⟩))) (at_succ (at_succ (at_succ (at_succ at_zero)))) (by kernel_rfl) (by kernel_rfl) (by kernel_rfl) (fun _ _ _ h => h) (Or.inl ⟨by kernel_rfl, fun wy hSw => ?_⟩) (by assumption) ?_
          · (try dsimp only at hSw); go_simp
          try simp only [Act.put, List.setIfInBounds_toArray, List.set_cons_zero, List.set_cons_succ]
          refine wpAnyH_take (i := 5) (v := (.int .i64 x0)) (at_succ (at_succ (at_succ (at_succ (at_succ at_zero))))) (by kernel_rfl) (by kernel_rfl) (by kernel_rfl) (fun _ _ _ h => h) (Or.inl ⟨by kernel_rfl, fun wy hSw => ?_⟩) (by assumption) ?_
          · (try dsimp only at hSw); go_simp
          try simp only [Act.put, List.setIfInBounds_toArray, List.set_cons_zero, List.set_cons_succ]
          refine wpAnyH_take (i := 6) (v := (.int .u8 ((Rte.u8 x0).toNat : Int))) (at_succ (at_succ (at_succ (at_succ (at_succ (at_succ at_zero)))))) (by kernel_rfl) (by kernel_rfl) (by kernel_rfl) (fun _ _ _ h => h) (Or.inl ⟨by kernel_rfl, fun wy hSw => ?_⟩) (by assumption) ?_
          · (try dsimp only at hSw); go_simp
          try simp only [Act.put, List.setIfInBounds_toArray, List.set_cons_zero, List.set_cons_succ]
          refine wpAnyH_take (i := 7) (v := (.slice (some ⟨b, p, none⟩) l.length c)) (at_succ (at_succ (at_succ (at_succ (at_succ (at_succ (at_succ at_zero))))))) (by kernel_rfl) (by kernel_rfl) (by kernel_rfl) (fun _ _ _ h => h) (Or.inl ⟨by kernel_rfl, fun wy hSw => ?_⟩) (by assumption) ?_
          · (try dsimp only at hSw); go_simp
          try simp only [Act.put, List.setIfInBounds_toArray, List.set_cons_zero, List.set_cons_succ]
          refine wpAnyH_take (i := 8) (v := (.int .i64 (k : Int))) (at_succ (at_succ (at_succ (at_succ (at_succ (at_succ (at_succ (at_succ at_zero)))))))) (by kernel_rfl) (by kernel_rfl) (by kernel_rfl) (fun _ _ _ h => h) (Or.inl ⟨by kernel_rfl, fun wy hSw => ?_⟩) (by assumption) ?_
          · (try dsimp only at hSw); go_simp
          try simp only [Act.put, List.setIfInBounds_toArray, List.set_cons_zero, List.set_cons_succ]
          refine wpAnyH_take (i := 9) (v := (.pointer (some ⟨b, p + k * 4, none⟩))) (at_succ (at_succ (at_succ (at_succ (at_succ (at_succ (at_succ (at_succ (at_succ at_zero))))))))) (by kernel_rfl) (by kernel_rfl) (by kernel_rfl) (fun _ _ _ h => h) (Or.inl ⟨by kernel_rfl, fun wy hSw => ?_⟩) (by assumption) ?_
          · (try dsimp only at hSw); go_simp
          try simp only [Act.put, List.setIfInBounds_toArray, List.set_cons_zero, List.set_cons_succ]
          refine wpAnyH_take (i := 10) (v := (.pointer (some ⟨b, p + k * 4 + 1, none⟩))) (at_succ (at_succ (at_succ (at_succ (at_succ (at_succ (at_succ (at_succ (at_succ (at_succ at_zero)))))))))) (by kernel_rfl) (by kernel_rfl) (by kernel_rfl) (fun _ _ _ h => h) (Or.inl ⟨by kernel_rfl, fun wy hSw => ?_⟩) (by assumption) ?_
          · (try dsimp only at hSw); go_simp
          try simp only [Act.put, List.setIfInBounds_toArray, List.set_cons_zero, List.set_cons_succ]
          refine wpAnyH_take (i := 11) (v := (.int .i64 x1)) (at_succ (at_succ (at_succ (at_succ (at_succ (at_succ (at_succ (at_succ (at_succ (at_succ (at_succ at_zero))))))))))) (by kernel_rfl) (by kernel_rfl) (by kernel_rfl) (fun _ _ _ h => h) (Or.inl ⟨by kernel_rfl, fun wy hSw => ?_⟩) (by assumption) ?_
          · (try dsimp only at hSw); go_simp
          try simp only [Act.put, List.setIfInBounds_toArray, List.set_cons_zero, List.set_cons_succ]
          refine wpAnyH_take (i := 12) (v := (.int .i64 (x1 / 256))) (at_succ (at_succ (at_succ (at_succ (at_succ (at_succ (at_succ (at_succ (at_succ (at_succ (at_succ (at_succ at_zero)))))))))))) (by kernel_rfl) (by kernel_rfl) (by kernel_rfl) (fun _ _ _ h => h) (Or.inl ⟨by kernel_rfl, fun wy hSw => ?_⟩) (by assumption) ?_
          · (try dsimp only at hSw); go_simp
          try simp only [Act.put, List.setIfInBounds_toArray, List.set_cons_zero, List.set_cons_succ]
          refine wpAnyH_take (i := 13) (v := (.int .u8 ((Rte.u8 (x1 / 256)).toNat : Int))) (at_succ (at_succ (at_succ (at_succ (at_succ (at_succ (at_succ (at_succ (at_succ (at_succ (at_succ (at_succ (at_succ at_zero))))))))))))) (by kernel_rfl) (by kernel_rfl) (by kernel_rfl) (fun _ _ _ h => h) (Or.inl ⟨by kernel_rfl, fun wy hSw => ?_⟩) (by assumption) ?_
          · (try dsimp only at hSw); go_simp
          try simp only [Act.put, List.setIfInBounds_toArray, List.set_cons_zero, List.set_cons_succ]
          refine wpAnyH_take (i := 14) (v := (.slice (some ⟨b, p, none⟩) l.length c)) (at_succ (at_succ (at_succ (at_succ (at_succ (at_succ (at_succ (at_succ (at_succ (at_succ (at_succ (at_succ (at_succ (at_succ at_zero)))))))))))))) (by kernel_rfl) (by kernel_rfl) (by kernel_rfl) (fun _ _ _ h => h) (Or.inl ⟨by kernel_rfl, fun wy hSw => ?_⟩) (by assumption) ?_
          · (try dsimp only at hSw); go_simp
          try simp only [Act.put, List.setIfInBounds_toArray, List.set_cons_zero, List.set_cons_succ]
          refine wpAnyH_take (i := 15) (v := (.int .i64 (k : Int))) (at_succ (at_succ (at_succ (at_succ (at_succ (at_succ (at_succ (at_succ (at_succ (at_succ (at_succ (at_succ (at_succ (at_succ (at_succ at_zero))))))))))))))) (by kernel_rfl) (by kernel_rfl) (by kernel_rfl) (fun _ _ _ h => h) (Or.inl ⟨by kernel_rfl, fun wy hSw => ?_⟩) (by assumption) ?_
          · (try dsimp only at hSw); go_simp
          try simp only [Act.put, List.setIfInBounds_toArray, List.set_cons_zero, List.set_cons_succ]
          refine wpAnyH_take (i := 16) (v := (.pointer (some ⟨b, p + k * 4, none⟩))) (at_succ (at_succ (at_succ (at_succ (at_succ (at_succ (at_succ (at_succ (at_succ (at_succ (at_succ (at_succ (at_succ (at_succ (at_succ (at_succ at_zero)))))))))))))))) (by kernel_rfl) (by kernel_rfl) (by kernel_rfl) (fun _ _ _ h => h) (Or.inl ⟨by kernel_rfl, fun wy hSw => ?_⟩) (by assumption) ?_
          · (try dsimp only at hSw); go_simp
          try simp only [Act.put, List.setIfInBounds_toArray, List.set_cons_zero, List.set_cons_succ]
          refine wpAnyH_take (i := 17) (v := (.pointer (some ⟨b, p + k * 4 + 1, none⟩))) (at_succ (at_succ (at_succ (at_succ (at_succ (at_succ (at_succ (at_succ (at_succ (at_succ (at_succ (at_succ (at_succ (at_succ (at_succ (at_succ (at_succ at_zero))))))))))))))))) (by kernel_rfl) (by kernel_rfl) (by kernel_rfl) (fun _ _ _ h => h) (Or.inl ⟨by kernel_rfl, fun wy hSw => ?_⟩) (by assumption) ?_
          · (try dsimp only at hSw); go_simp
          try simp only [Act.put, List.setIfInBounds_toArray, List.set_cons_zero, List.set_cons_succ]
          refine wpAnyH_take (i := 18) (v := (.int .i64 x1)) (at_succ (at_succ (at_succ (at_succ (at_succ (at_succ (at_succ (at_succ (at_succ (at_succ (at_succ (at_succ (at_succ (at_succ (at_succ (at_succ (at_succ (at_succ at_zero)))))))))))))))))) (by kernel_rfl) (by kernel_rfl) (by kernel_rfl) (fun _ _ _ h => h) (Or.inl ⟨by kernel_rfl, fun wy hSw => ?_⟩) (by assumption) ?_
          · (try dsimp only at hSw); go_simp
          try simp only [Act.put, List.setIfInBounds_toArray, List.set_cons_zero, List.set_cons_succ]
          refine wpAnyH_take (i := 19) (v := (.int .i64 (x1 % 256))) (at_succ (at_succ (at_succ (at_succ (at_succ (at_succ (at_succ (at_succ (at_succ (at_succ (at_succ (at_succ (at_succ (at_succ (at_succ (at_succ (at_succ (at_succ (at_succ at_zero))))))))))))))))))) (by kernel_rfl) (by kernel_rfl) (by kernel_rfl) (fun _ _ _ h => h) (Or.inl ⟨by kernel_rfl, fun wy hSw => ?_⟩) (by assumption) ?_
          · (try dsimp only at hSw); go_simp
          try simp only [Act.put, List.setIfInBounds_toArray, List.set_cons_zero, List.set_cons_succ]
          refine wpAnyH_take (i := 20) (v := (.int .u8 ((Rte.u8 (x1 % 256)).toNat : Int))) (at_succ (at_succ (at_succ (at_succ (at_succ (at_succ (at_succ (at_succ (at_succ (at_succ (at_succ (at_succ (at_succ (at_succ (at_succ (at_succ (at_succ (at_succ (at_succ (at_succ at_zero)))))))))))))))))))) (by kernel_rfl) (by kernel_rfl) (by kernel_rfl) (fun _ _ _ h => h) (Or.inl ⟨by kernel_rfl, fun wy hSw => ?_⟩) (by assumption) ?_
          · (try dsimp only at hSw); go_simp
          try simp only [Act.put, List.setIfInBounds_toArray, List.set_cons_zero, List.set_cons_succ]
          refine wpAnyH_take (i := 21) (v := (.slice (some ⟨b, p, none⟩) l.length c)) (at_succ (at_succ (at_succ (at_succ (at_succ (at_succ (at_succ (at_succ (at_succ (at_succ (at_succ (at_succ (at_succ (at_succ (at_succ (at_succ (at_succ (at_succ (at_succ (at_succ (at_succ at_zero))))))))))))))))))))) (by kernel_rfl) (by kernel_rfl) (by kernel_rfl) (fun _ _ _ h => h) (Or.inl ⟨by kernel_rfl, fun wy hSw => ?_⟩) (by assumption) ?_
          · (try dsimp only at hSw); go_simp
          try simp only [Act.put, List.setIfInBounds_toArray, List.set_cons_zero, List.set_cons_succ]
          refine wpAnyH_take (i := 22) (v := (.int .i64 (k : Int))) (at_succ (at_succ (at_succ (at_succ (at_succ (at_succ (at_succ (at_succ (at_succ (at_succ (at_succ (at_succ (at_succ (at_succ (at_succ (at_succ (at_succ (at_succ (at_succ (at_succ (at_succ (at_succ at_zero)))))))))))))))))))))) (by kernel_rfl) (by kernel_rfl) (by kernel_rfl) (fun _ _ _ h => h) (Or.inl ⟨by kernel_rfl, fun wy hSw => ?_⟩) (by assumption) ?_
          · (try dsimp only at hSw); go_simp
          try simp only [Act.put, List.setIfInBounds_toArray, List.set_cons_zero, List.set_cons_succ]
          refine wpAnyH_take (i := 23) (v := (.pointer (some ⟨b, p + k * 4, none⟩))) (at_succ (at_succ (at_succ (at_succ (at_succ (at_succ (at_succ (at_succ (at_succ (at_succ (at_succ (at_succ (at_succ (at_succ (at_succ (at_succ (at_succ (at_succ (at_succ (at_succ (at_succ (at_succ (at_succ at_zero))))))))))))))))))))))) (by kernel_rfl) (by kernel_rfl) (by kernel_rfl) (fun _ _ _ h => h) (Or.inl ⟨by kernel_rfl, fun wy hSw => ?_⟩) (by assumption) ?_
          · (try dsimp only at hSw); go_simp
          try simp only [Act.put, List.setIfInBounds_toArray, List.set_cons_zero, List.set_cons_succ]
          refine wpAnyH_take (i := 24) (v := (.pointer (some ⟨b, p + k * 4 + 2, none⟩))) (at_succ (at_succ (at_succ (at_succ (at_succ (at_succ (at_succ (at_succ (at_succ (at_succ (at_succ (at_succ (at_succ (at_succ (at_succ (at_succ (at_succ (at_succ (at_succ (at_succ (at_succ (at_succ (at_succ (at_succ at_zero)))))))))))))))))))))))) (by kernel_rfl) (by kernel_rfl) (by kernel_rfl) (fun _ _ _ h => h) (Or.inl ⟨by kernel_rfl, fun wy hSw => ?_⟩) (by assumption) ?_
          · (try dsimp only at hSw); go_simp
          try simp only [Act.put, List.setIfInBounds_toArray, List.set_cons_zero, List.set_cons_succ]
          refine wpAnyH_take (i := 25) (v := (.int .i64 x2)) (at_succ (at_succ (at_succ (at_succ (at_succ (at_succ (at_succ (at_succ (at_succ (at_succ (at_succ (at_succ (at_succ (at_succ (at_succ (at_succ (at_succ (at_succ (at_succ (at_succ (at_succ (at_succ (at_succ (at_succ (at_succ at_zero))))))))))))))))))))))))) (by kernel_rfl) (by kernel_rfl) (by kernel_rfl) (fun _ _ _ h => h) (Or.inl ⟨by kernel_rfl, fun wy hSw => ?_⟩) (by assumption) ?_
          · (try dsimp only at hSw); go_simp
          try simp only [Act.put, List.setIfInBounds_toArray, List.set_cons_zero, List.set_cons_succ]
          refine wpAnyH_take (i := 26) (v := (.int .u8 ((Rte.u8 x2).toNat : Int))) (at_succ (at_succ (at_succ (at_succ (at_succ (at_succ (at_succ (at_succ (at_succ (at_succ (at_succ (at_succ (at_succ (at_succ (at_succ (at_succ (at_succ (at_succ (at_succ (at_succ (at_succ (at_succ (at_succ (at_succ (at_succ (at_succ at_zero)))))))))))))))))))))))))) (by kernel_rfl) (by kernel_rfl) (by kernel_rfl) (fun _ _ _ h => h) (Or.inl ⟨by kernel_rfl, fun wy hSw => ?_⟩) (by assumption) ?_
          · (try dsimp only at hSw); go_simp
          try simp only [Act.put, List.setIfInBounds_toArray, List.set_cons_zero, List.set_cons_succ]
          refine wpAnyH_ready (rs := [27]) (by kernel_rfl) (by simp) ?_
          refine AllReadyH.cons (at_succ (at_succ (at_succ (at_succ (at_succ (at_succ (at_succ (at_succ (at_succ (at_succ (at_succ (at_succ (at_succ (at_succ (at_succ (at_succ (at_succ (at_succ (at_succ (at_succ (at_succ (at_succ (at_succ (at_succ (at_succ (at_succ (at_succ at_zero))))))))))))))))))))))))))) (fun K hK => ?_) AllReadyH.nil
          rw [if_pos (by kernel_rfl)]
          go_simp
          refine hK.out _ _ (HC.out _ Z1) (fun hHeld => ?_)
          clear hK K
          try simp only [Act.put, List.setIfInBounds_toArray, List.set_cons_zero, List.set_cons_succ]
          refine wpAnyH_ready (rs := [28]) (by kernel_rfl) (by simp) ?_
          refine AllReadyH.cons (at_succ (at_succ (at_succ (at_succ (at_succ (at_succ (at_succ (at_succ (at_succ (at_succ (at_succ (at_succ (at_succ (at_succ (at_succ (at_succ (at_succ (at_succ (at_succ (at_succ (at_succ (at_succ (at_succ (at_succ (at_succ (at_succ (at_succ (at_succ at_zero)))))))))))))))))))))))))))) (fun K hK => ?_) AllReadyH.nil
          rw [if_pos (by kernel_rfl)]
          refine Lib.wp_append_run _ _ _ _ _ rfl _ _ rfl rfl _ _ hap ?_
          refine hK.out _ _ (HC.out _ Z2) (fun hHeld => ?_)
          clear hK K hap
          try simp only [Act.put, List.setIfInBounds_toArray, List.set_cons_zero, List.set_cons_succ]
          refine wpAnyH_take (i := 29) (v := (.slice A6 (G (k + 1)).length c6)) (at_succ (at_succ (at_succ (at_succ (at_succ (at_succ (at_succ (at_succ (at_succ (at_succ (at_succ (at_succ (at_succ (at_succ (at_succ (at_succ (at_succ (at_succ (at_succ (at_succ (at_succ (at_succ (at_succ (at_succ (at_succ (at_succ (at_succ (at_succ (at_succ at_zero))))))))))))))))))))))))))))) (by kernel_rfl) (by kernel_rfl) (by kernel_rfl) (fun _ _ _ h => h) (Or.inl ⟨by kernel_rfl, fun wy hSw => ?_⟩) (by assumption) ?_
          · (try dsimp only at hSw); go_simp
          try simp only [Act.put, List.setIfInBounds_toArray, List.set_cons_zero, List.set_cons_succ]
          refine wpAnyH_done (by kernel_rfl) ?_ _
          go_wp2_with fail
          go_roundw
          case rel => exact ⟨k + 1, A6, c6, by go_num, rfl, hlt, O6, Z2⟩
          case measure => simp [intOf]; omega
        · have N := Lib.hid (EXk.out h96)
          have d1 : decide (((G k).length : Int) < 96) = false := df (by omega)
          clear hu h96 EYk ENk EXk
          go_wp2_with fail
          refine (KU.out _).mono ?_
          rintro _ w4 ⟨rfl, hb⟩
          have B4 := Lib.hid (B.out.trans (hb.mono hz))
          have O4 := Lib.hid (O.out.below hb)
          have hz4 := B4.out.size
          clear hb KU
          go_wp2_with fail
          go_roundw
          case rel => exact ⟨k + 1, A1, c1, by go_num, by rw [N.out], hlt, Lib.hid (by rw [N.out]; exact O4.out), B4.out⟩
          case measure => simp [intOf]; omega
      · rw [df hu] at KU
        have N := Lib.hid (ENk.out hu)
        clear hu EYk ENk EXk
        go_wp2_with fail
        refine (KU.out _).mono ?_
        rintro _ w4 ⟨rfl, hb⟩
        have B4 := Lib.hid (B.out.trans (hb.mono hz))
        have O4 := Lib.hid (O.out.below hb)
        have hz4 := B4.out.size
        clear hb KU
        go_wp2_with fail
        go_roundw
        case rel => exact ⟨k + 1, A1, c1, by go_num, by rw [N.out], hlt, Lib.hid (by rw [N.out]; exact O4.out), B4.out⟩
        case measure => simp [intOf]; omega
    · obtain rfl : k = l.length := by omega
      have hcv := conv_fb O.out
      rw [EF.out] at hcv O ⊢
      clear hb EY EN EX E0 EL HA
      go_wp2_with fail
      go_ret
      exact ⟨rfl, B.out⟩

end Go.Proofs.Ytcfnkfkdhcejeaa.Rte
