/- The reference's first, without, Same, SamePairs. -/
import Derived.Test.YtpfmfnogckeneaaMcA
set_option linter.unusedVariables false
namespace Go.Proofs.Ytpfmfnogckeneaa.Mcq
open Go.RowKit
open Mbx (Fm zf fmC fmV FOk fF)

abbrev bxS (x : Sd) : Obj := .cells #[.int .i64 x.1.k, .int .i64 x.1.f, .int .i64 x.1.t, .int .i64 x.1.s, .int .i64 x.1.g, .int .i64 x.1.q, .int .i64 x.1.h, .bool x.1.u, .string x.1.d, .int .i64 x.2.1, .int .i64 x.2.2] 42
theorem app_send {w : World} {B : Nat} {v : Value} {l : List Sd} (h : OwnS w B v l) (x : Sd) (hx : fS.ok x) (hl : l.length ≤ 1000000) (hB : B ≤ w.heap.size) :
    ∃ v' w', (Builtin.append_ #[22, 22] 22 #[v, .slice (some ⟨w.heap.size, 0, none⟩) 1 1]).run Try.prog (w.alloc (bxS x)) = .ok v' w' ∧ OwnS w' B v' (l ++ [x]) ∧ Below B w w' :=
  h.one eSd 22 x #[.int .i64 x.1.k, .int .i64 x.1.f, .int .i64 x.1.t, .int .i64 x.1.s, .int .i64 x.1.g, .int .i64 x.1.q, .int .i64 x.1.h, .bool x.1.u, .string x.1.d, .int .i64 x.2.1, .int .i64 x.2.2] rfl hx (by omega) hB
theorem take_one (l : List Sd) (k : Nat) (h : k < l.length) : l.take (k + 1) = l.take k ++ [l[k]] := List.take_succ_eq_append_getElem h

set_option maxRecDepth 100000 in
set_option maxHeartbeats 2000000 in
theorem rfirst_any (A : Option Addr) (c : Nat) (l : List Sd) (w : World) (hl : l.length ≤ 9223372036854775807) (hA : SdAt w w.heap.size A l) :
    Calls Try.prog 27 #[.slice A l.length c] w (OutS w (l.take 16)) := by
  have HA := Lib.hid hA
  have G0 := Lib.hid (show l.take 0 = [] from rfl)
  have GN := Lib.hid (fun (k : Nat) (h : k < l.length) => take_one l k h)
  have GL := Lib.hid (fun k : Nat => (show (l.take k).length ≤ k by rw [List.length_take]; omega))
  have GE := Lib.hid (fun (k : Nat) (h : k ≤ 16) (h2 : ¬ (k < l.length ∧ k < 16)) => (show l.take k = l.take 16 from by
    by_cases e : k = 16
    · rw [e]
    · rw [List.take_of_length_le (by omega), List.take_of_length_le (by omega)]))
  clear hA
  generalize l.take 16 = F at *
  generalize (fun k : Nat => l.take k) = G at *
  obtain ⟨G, hG⟩ : ∃ G : Nat → List Sd, ∀ k, l.take k = G k := ⟨fun k => l.take k, fun _ => rfl⟩
  simp only [hG] at G0 GN GL GE
  clear hG
  go_enter Try.func27, Try.ntmps27
  go_wp2_with fail
  go_loopw [3, 4] (fun vo vk wr => ∃ (k : Nat) (A1 : Option Addr) (c1 : Nat), vk = .int .i64 k ∧ k ≤ 16 ∧ vo = .slice A1 (G k).length c1 ∧ Hid (OwnS wr w.heap.size (.slice A1 (G k).length c1) (G k)) ∧ Below w.heap.size w wr) (fun _ vk _ => 16 - (intOf vk).toNat)
  case atStart => exact ⟨0, none, 0, rfl, by omega, by rw [G0.out]; rfl, Lib.hid (by rw [G0.out]; exact OwnF.nil _ _), Below.refl _ _⟩
  case round =>
    obtain ⟨k, A1, c1, rfl, hk, rfl, O, hb⟩ := hrel
    have B := Lib.hid hb
    have HK := Lib.hid (HA.out.below hb)
    clear hb
    by_cases hlt : k < l.length
    · by_cases h16 : k < 16
      · have d1 : decide ((k : Int) < 16) = true := dt (by omega)
        have N := Lib.hid (GN.out k hlt)
        have LG := GL.out k
        obtain ⟨bb, p, rfl, hbw, hc, hok⟩ := sd_cell HK.out k hlt
        have OK := Lib.hid hok
        clear HK GN GL GE hok
        obtain ⟨x, hx⟩ : ∃ x, l[k] = x := ⟨_, rfl⟩
        rw [hx] at hc OK N
        clear hx
        obtain ⟨⟨x0, x1, x2, x3, x4, x5, x6, x7, x8⟩, x9, x10⟩ := x
        obtain ⟨g0, g1, g2, g3, g4, g5, g6, g7, g8, g9, g10⟩ := hc
        simp only at g0 g1 g2 g3 g4 g5 g6 g7 g8 g9 g10
        obtain ⟨v6, w6, hap, ho6, hb6⟩ := app_send O.out _ OK.out (by omega) B.out.size
        obtain ⟨A6, c6, e6, _⟩ := ho6.form
        subst e6
        have L6 := Lib.hid (congrArg List.length N.out.symm)
        have O6 := Lib.hid (show OwnS w6 w.heap.size (.slice A6 (G (k + 1)).length c6) (G (k + 1)) by rw [N.out]; exact ho6)
        have B6 := Lib.hid (B.out.trans hb6)
        rw [L6.out] at hap
        clear ho6 hb6 O LG N OK
        go_wp2_with (at_builtin; refine Lib.wpList_append_run _ rfl _ _ _ _ rfl _ _ rfl rfl _ _ hap ?_)
        go_roundw
        case rel => exact ⟨k + 1, A6, c6, by go_num, h16, rfl, O6, B6.out⟩
        case measure => simp [intOf]; omega
      · have d1 : decide ((k : Int) < 16) = false := df (by omega)
        have E := Lib.hid (GE.out k hk fun h => h16 h.2)
        clear HK GN GL GE
        go_wp2_with fail
        go_ret
        exact ⟨_, rfl, by rw [← E.out]; exact O.out, B.out⟩
    · have E := Lib.hid (GE.out k hk fun h => hlt h.1)
      clear HK GN GL GE
      go_wp2_with fail
      go_ret
      exact ⟨_, rfl, by rw [← E.out]; exact O.out, B.out⟩

/-- A list without the one at an index (any int): the first k looked at. -/
def woU (l : List Sd) (i : Int) (k : Nat) : List Sd := ((l.take k).zipIdx.filter fun y => decide ((y.2 : Int) ≠ i)).map (·.1)
theorem woU_zero (l : List Sd) (i : Int) : woU l i 0 = [] := rfl
theorem woU_yes (l : List Sd) (i : Int) (k : Nat) (h : k < l.length) (e : (k : Int) ≠ i) : woU l i (k + 1) = woU l i k ++ [l[k]] := by
  unfold woU
  rw [take_one l k h, List.zipIdx_append, List.filter_append, List.map_append]
  congr 1
  rw [List.length_take, Nat.min_eq_left (by omega)]
  simp [e]
theorem woU_no (l : List Sd) (i : Int) (k : Nat) (h : k < l.length) (e : (k : Int) = i) : woU l i (k + 1) = woU l i k := by
  unfold woU
  rw [take_one l k h, List.zipIdx_append, List.filter_append, List.map_append]
  rw [List.length_take, Nat.min_eq_left (by omega)]
  simp [e]
theorem woU_len (l : List Sd) (i : Int) (k : Nat) : (woU l i k).length ≤ k := by
  unfold woU
  have h := List.length_filter_le (fun y : Sd × Nat => decide ((y.2 : Int) ≠ i)) (l.take k).zipIdx
  rw [List.length_zipIdx, List.length_take] at h
  rw [List.length_map]
  omega
theorem woU_all (l : List Sd) (i : Nat) (hi : i < l.length) : ∀ k, k ≤ l.length → woU l i k = if k ≤ i then l.take k else (l.take k).eraseIdx i
  | 0, _ => by rw [if_pos (Nat.zero_le _)]; rfl
  | k + 1, h => by
    have ih := woU_all l i hi k (by omega)
    by_cases e : k = i
    · rw [woU_no l i k (by omega) (by omega), ih, if_pos (by omega), if_neg (by omega), take_one l k (by omega)]
      subst e
      rw [List.eraseIdx_append_of_length_le (by rw [List.length_take]; omega)]
      rw [List.length_take, Nat.min_eq_left (by omega), Nat.sub_self]
      simp
    · rw [woU_yes l i k (by omega) (by omega), ih]
      by_cases h1 : k + 1 ≤ i
      · rw [if_pos (by omega), if_pos h1, take_one l k (by omega)]
      · rw [if_neg (by omega), if_neg h1, take_one l k (by omega), List.eraseIdx_append_of_lt_length (by rw [List.length_take]; omega)]
theorem woU_end (l : List Sd) (i : Nat) (hi : i < l.length) : woU l i l.length = l.eraseIdx i := by
  rw [woU_all l i hi _ (Nat.le_refl _), if_neg (by omega), List.take_length]

set_option maxRecDepth 100000 in
set_option maxHeartbeats 2000000 in
theorem rwithout_any (A : Option Addr) (c : Nat) (l : List Sd) (i : Nat) (w : World) (hl : l.length ≤ 1000) (hi : i < l.length) (hA : SdAt w w.heap.size A l) :
    Calls Try.prog 28 #[.slice A l.length c, .int .i64 i] w (OutS w (l.eraseIdx i)) := by
  have HA := Lib.hid hA
  have G0 := Lib.hid (woU_zero l i)
  have GY := Lib.hid (fun (k : Nat) (h : k < l.length) (e : (k : Int) ≠ (i : Int)) => woU_yes l i k h e)
  have GZ := Lib.hid (fun (k : Nat) (h : k < l.length) (e : (k : Int) = (i : Int)) => woU_no l i k h e)
  have GL := Lib.hid (fun k : Nat => woU_len l i k)
  have GE := Lib.hid (woU_end l i hi)
  clear hA
  generalize l.eraseIdx i = F at *
  generalize woU l i = G at *
  go_enter Try.func28, Try.ntmps28
  go_wp2_with fail
  go_loopw [5, 6] (fun vo vk wr => ∃ (k : Nat) (A1 : Option Addr) (c1 : Nat), vk = .int .i64 k ∧ k ≤ l.length ∧ vo = .slice A1 (G k).length c1 ∧ Hid (OwnS wr w.heap.size (.slice A1 (G k).length c1) (G k)) ∧ Below w.heap.size w wr) (fun _ vk _ => l.length - (intOf vk).toNat)
  case atStart => exact ⟨0, none, 0, rfl, by omega, by rw [G0.out]; rfl, Lib.hid (by rw [G0.out]; exact OwnF.nil _ _), Below.refl _ _⟩
  case round =>
    obtain ⟨k, A1, c1, rfl, hk, rfl, O, hb⟩ := hrel
    have B := Lib.hid hb
    have HK := Lib.hid (HA.out.below hb)
    clear hb
    by_cases hlt : k < l.length
    · by_cases hki : k = i
      · have N := Lib.hid (GZ.out k hlt (by omega))
        have d1 : ((k : Int) != (i : Int)) = false := by simp [hki]
        subst hki
        clear HK GY GZ GL
        go_wp2_with fail
        go_roundw
        case rel => exact ⟨k + 1, A1, c1, by go_num, hlt, by rw [N.out], Lib.hid (by rw [N.out]; exact O.out), B.out⟩
        case measure => simp [intOf]; omega
      · have d1 : ((k : Int) != (i : Int)) = true := by simp; omega
        have N := Lib.hid (GY.out k hlt (by omega))
        have LG := GL.out k
        obtain ⟨bb, p, rfl, hbw, hc, hok⟩ := sd_cell HK.out k hlt
        have OK := Lib.hid hok
        clear HK GY GZ GL GE hok
        obtain ⟨x, hx⟩ : ∃ x, l[k] = x := ⟨_, rfl⟩
        rw [hx] at hc OK N
        clear hx
        obtain ⟨⟨x0, x1, x2, x3, x4, x5, x6, x7, x8⟩, x9, x10⟩ := x
        obtain ⟨g0, g1, g2, g3, g4, g5, g6, g7, g8, g9, g10⟩ := hc
        simp only at g0 g1 g2 g3 g4 g5 g6 g7 g8 g9 g10
        obtain ⟨v6, w6, hap, ho6, hb6⟩ := app_send O.out _ OK.out (by omega) B.out.size
        obtain ⟨A6, c6, e6, _⟩ := ho6.form
        subst e6
        have L6 := Lib.hid (congrArg List.length N.out.symm)
        have O6 := Lib.hid (show OwnS w6 w.heap.size (.slice A6 (G (k + 1)).length c6) (G (k + 1)) by rw [N.out]; exact ho6)
        have B6 := Lib.hid (B.out.trans hb6)
        rw [L6.out] at hap
        clear ho6 hb6 O LG N OK
        go_wp2_with (at_builtin; refine Lib.wpList_append_run _ rfl _ _ _ _ rfl _ _ rfl rfl _ _ hap ?_)
        go_roundw
        case rel => exact ⟨k + 1, A6, c6, by go_num, hlt, rfl, O6, B6.out⟩
        case measure => simp [intOf]; omega
    · have E := Lib.hid GE.out
      have e : k = l.length := by omega
      subst e
      clear HK GY GZ GL GE
      go_wp2_with fail
      go_ret
      exact ⟨_, rfl, by rw [← E.out]; exact O.out, B.out⟩

set_option maxRecDepth 100000 in
set_option maxHeartbeats 2000000 in
theorem rsame_any (A1 A2 : Option Addr) (c1 c2 : Nat) (l : List Sd) (w : World) (hl : l.length ≤ 1000000) (h1 : SdAt w w.heap.size A1 l) (h2 : SdAt w w.heap.size A2 l) : Calls Try.prog 12 #[.slice A1 l.length c1, .slice A2 l.length c2] w (OutB w true) := by
  have H1 := Lib.hid h1
  have H2 := Lib.hid h2
  clear h1 h2
  go_enter Try.func12, Try.ntmps12
  go_wp2_with fail
  go_loopw [5] (fun i wr => ∃ k : Nat, i = .int .i64 k ∧ k ≤ l.length ∧ Below w.heap.size w wr) (fun i _ => l.length - (intOf i).toNat)
  case atStart => exact ⟨0, rfl, Nat.zero_le _, Below.refl _ _⟩
  case round =>
    obtain ⟨k, rfl, hk, hb⟩ := hrel
    have B := Lib.hid hb
    by_cases hlt : k < l.length
    · obtain ⟨b, p, rfl, _, hc, _⟩ := sd_cell (H1.out.below hb) k hlt
      obtain ⟨b', p', rfl, _, hc', _⟩ := sd_cell (H2.out.below hb) k hlt
      clear hb
      obtain ⟨x, hx⟩ : ∃ x, l[k] = x := ⟨_, rfl⟩
      rw [hx] at hc hc'
      clear hx
      obtain ⟨⟨x0, x1, x2, x3, x4, x5, x6, x7, x8⟩, x9, x10⟩ := x
      obtain ⟨g0, g1, g2, g3, g4, g5, g6, g7, g8, g9, g10⟩ := hc
      obtain ⟨f0, f1, f2, f3, f4, f5, f6, f7, f8, f9, f10⟩ := hc'
      simp only at g0 g1 g2 g3 g4 g5 g6 g7 g8 g9 g10 f0 f1 f2 f3 f4 f5 f6 f7 f8 f9 f10
      go_wp2_with fail
      go_quiet (fail)
      go_wp2_with fail
      go_roundw
      case rel => exact ⟨k + 1, by go_num, hlt, below_drewN B.out _⟩
      case measure => simp [intOf]; omega
    · clear hb
      go_wp2_with fail
      go_ret
      exact outB rfl B.out

set_option maxRecDepth 100000 in
set_option maxHeartbeats 2000000 in
theorem rpairs_any (A1 A2 : Option Addr) (c1 c2 : Nat) (l : List Pr) (w : World) (hl : l.length ≤ 1000000) (h1 : PrS w A1 c1 l) (h2 : PrS w A2 c2 l) : Calls Try.prog 21 #[.slice A1 l.length c1, .slice A2 l.length c2] w (OutB w true) := by
  have H1 := Lib.hid h1.1
  have H2 := Lib.hid h2.1
  clear h1 h2
  go_enter Try.func21, Try.ntmps21
  go_wp2_with fail
  go_loopw [5] (fun i wr => ∃ k : Nat, i = .int .i64 k ∧ k ≤ l.length ∧ Below w.heap.size w wr) (fun i _ => l.length - (intOf i).toNat)
  case atStart => exact ⟨0, rfl, Nat.zero_le _, Below.refl _ _⟩
  case round =>
    obtain ⟨k, rfl, hk, hb⟩ := hrel
    have B := Lib.hid hb
    by_cases hlt : k < l.length
    · obtain ⟨b, p, rfl, _, g0, g1, _⟩ := pr_cell (H1.out.below hb) k hlt
      obtain ⟨b', p', rfl, _, f0, f1, _⟩ := pr_cell (H2.out.below hb) k hlt
      clear hb
      generalize l[k].1 = x0 at *
      generalize l[k].2 = x1 at *
      go_wp2_with fail
      go_quiet (fail)
      go_wp2_with fail
      go_roundw
      case rel => exact ⟨k + 1, by go_num, hlt, below_drewN B.out _⟩
      case measure => simp [intOf]; omega
    · clear hb
      go_wp2_with fail
      go_ret
      exact outB rfl B.out
end Go.Proofs.Ytpfmfnogckeneaa.Mcq
