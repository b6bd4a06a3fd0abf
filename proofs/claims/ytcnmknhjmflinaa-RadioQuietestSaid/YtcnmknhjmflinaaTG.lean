/- The reference: Check. -/
import Derived.Test.YtcnmknhjmflinaaTF
set_option linter.unusedVariables false
namespace Go.Proofs.Ytcnmknhjmflinaa.Tpo
open Go.RowKit

theorem chkU_cons (pre : List Ed) (e : Ed) (r : List Ed) : chkU pre (e :: r) = if Vd e then (if ∃ x ∈ pre, Sm x e.1 e.2 then 9 else chkU (pre ++ [e]) r) else 2 := rfl
theorem chkU_at (l : List Ed) (k : Nat) (h : k < l.length) : chkU (l.take k) (l.drop k) = if Vd l[k] then (if ∃ x ∈ l.take k, Sm x l[k].1 l[k].2 then 9 else chkU (l.take (k + 1)) (l.drop (k + 1))) else 2 := by
  rw [List.drop_eq_getElem_cons h, chkU_cons, List.take_succ_eq_append_getElem h]
set_option maxRecDepth 100000 in
set_option maxHeartbeats 4000000 in
theorem rcheck_any (A : Option Addr) (c : Nat) (l : List Ed) (w : World) (hl : l.length ≤ 9223372036854775807) (hA : EdAt w w.heap.size A l) :
    Calls Try.prog 32 #[.slice A l.length c] w (OutI w (chk l)) := by
  have HA := Lib.hid hA
  clear hA
  by_cases h256 : 256 < l.length
  · have R := Lib.hid (show chk l = 3 from if_pos h256)
    have d0 : decide ((256 : Int) < (l.length : Int)) = true := dt (by omega)
    go_enter Try.func32, Try.ntmps32
    go_wp2_with fail
    go_ret
    exact outI R.out.symm (Below.refl _ _)
  have R := Lib.hid (show chk l = chkU (l.take 0) (l.drop 0) from if_neg h256)
  have d0 : decide ((256 : Int) < (l.length : Int)) = false := df (by omega)
  have CS := Lib.hid (fun k h => chkU_at l k h)
  have CE := Lib.hid (fun (k : Nat) (h : k = l.length) => (show chkU (l.take k) (l.drop k) = 0 by rw [h, List.drop_length]; rfl))
  generalize chk l = F at *
  go_enter Try.func32, Try.ntmps32
  go_wp2_with fail
  clear d0
  go_loopw [10] (fun vk wr => ∃ k : Nat, vk = .int .i64 k ∧ k ≤ l.length ∧ Hid (F = chkU (l.take k) (l.drop k)) ∧ Below w.heap.size w wr) (fun vk _ => l.length - (intOf vk).toNat)
  case atStart => exact ⟨0, rfl, Nat.zero_le _, R, Below.refl _ _⟩
  case round =>
    clear R
    obtain ⟨k, rfl, hk, R, hb⟩ := hrel
    have B := Lib.hid hb
    have hz := hb.size
    by_cases hlt : k < l.length
    rotate_left
    · have d0 : ¬ k < l.length := hlt
      have FIN := Lib.hid (R.out.trans (CE.out k (by omega)))
      clear hb R
      go_wp2_with fail
      go_ret
      exact outI FIN.out.symm B.out
    have RS := Lib.hid (R.out.trans (CS.out k hlt))
    obtain ⟨bb, p, rfl, hbw, g0, g1, _⟩ := ed_cell (HA.out.below hb) k hlt
    clear hb R CS CE
    obtain ⟨⟨x, y⟩, hx⟩ : ∃ x, l[k] = x := ⟨_, rfl⟩
    rw [hx] at g0 g1 RS
    simp only at g0 g1
    have HX := Lib.hid hx
    have m0 : (k : Int) < (l.length : Int) := by omega
    have m1 : (0 : Int) ≤ (k : Int) := by omega
    have KV := Lib.hid (fun w => (show Calls Try.prog 52 #[.agg #[.int .i64 x, .int .i64 y]] w (OutV w (.bool (decide (Vd (x, y))))) from (rvalid_any (x, y) w).mono fun _ _ h => outG_V h))
    unfold OutV at KV
    clear hx
    by_cases hv : Vd (x, y)
    rotate_left
    · have N := Lib.hid (RS.out.trans (if_neg hv))
      rw [df hv] at KV
      clear hv RS
      go_wp2_with fail
      refine (KV.out _).mono ?_
      rintro _ w2 ⟨rfl, hb⟩
      have B2 := Lib.hid (B.out.trans (hb.mono hz))
      clear hb
      go_wp2_with fail
      go_ret
      exact outI N.out.symm B2.out
    have RV := Lib.hid (RS.out.trans (if_pos hv))
    rw [dt hv] at KV
    clear hv RS
    go_wp2_with fail
    refine (KV.out _).mono ?_
    rintro _ w2 ⟨rfl, hb⟩
    have B2 := Lib.hid (B.out.trans (hb.mono hz))
    clear hb KV g0 g1 B
    go_wp2_with fail
    go_loopw [4] (fun vj wr => ∃ j : Nat, vj = .int .i64 j ∧ j ≤ k ∧ Hid (∀ i (hi : i < l.length), i < j → ¬ Sm l[i] x y) ∧ Below w.heap.size w wr) (fun vj _ => k - (intOf vj).toNat)
    case atStart => exact ⟨0, rfl, Nat.zero_le _, Lib.hid (fun i hi h => by omega), B2.out⟩
    case round =>
      clear B2
      obtain ⟨j, rfl, hj, HN, hb⟩ := hrel
      have B := Lib.hid hb
      have hz := hb.size
      by_cases hjk : j < k
      rotate_left
      · have d1 : ¬ j < k := hjk
        have d1' : decide ((j : Int) < (k : Int)) = false := df (by omega)
        have N := Lib.hid (RV.out.trans (if_neg (by
          rintro ⟨z, hz1, hz2⟩
          obtain ⟨i, hi, rfl⟩ := List.getElem_of_mem hz1
          have hil : i < k := by rw [List.length_take] at hi; omega
          rw [List.getElem_take] at hz2
          exact HN.out i (by omega) (by omega) hz2)))
        clear hb HN
        go_wp2_with fail
        go_roundw
        case rel => exact ⟨k + 1, by go_num, hlt, N, B.out⟩
        case measure => simp [intOf]; omega
      have n0 : (j : Int) < (l.length : Int) := by omega
      have n1 : (0 : Int) ≤ (j : Int) := by omega
      have n2 : decide ((j : Int) < (k : Int)) = true := dt (by omega)
      have hjl : j < l.length := by omega
      obtain ⟨b1, p1, e1, hbw1, f0, f1, _⟩ := ed_cell (HA.out.below hb) j hjl
      obtain ⟨b2, p2, e2, hbw2, h0, h1, _⟩ := ed_cell (HA.out.below hb) k hlt
      simp only [Option.some.injEq, Addr.mk.injEq, and_true] at e1 e2
      obtain ⟨rfl, rfl⟩ := e1
      obtain ⟨rfl, rfl⟩ := e2
      rw [HX.out] at h0 h1
      simp only at h0 h1
      have HJ := Lib.hid (fun (h : ¬ Sm l[j] x y) => (show ∀ i (hi : i < l.length), i < j + 1 → ¬ Sm l[i] x y from fun i hi hij => by
        by_cases e : i = j
        · subst e; exact h
        · exact HN.out i hi (by omega)))
      have HY := Lib.hid (fun (h : Sm l[j] x y) => (show ∃ z ∈ l.take k, Sm z x y from ⟨l[j], by
        have : j < (l.take k).length := by rw [List.length_take]; omega
        have e : (l.take k)[j] = l[j] := List.getElem_take
        rw [← e]; exact List.getElem_mem this, h⟩))
      obtain ⟨⟨u, v⟩, hu⟩ : ∃ z, l[j] = z := ⟨_, rfl⟩
      rw [hu] at f0 f1 HJ HY
      simp only at f0 f1
      have hbr : bb < wr.heap.size := World.block_lt_of_cell? wr _ f0
      have f0 := fun n os => cell_grown (w := wr) (a := ⟨bb, p + j * 2, none⟩) hbr f0 n os
      have f1 := fun n os => cell_grown (w := wr) (a := ⟨bb, p + j * 2 + 1, none⟩) hbr f1 n os
      have h0 := fun n os => cell_grown (w := wr) (a := ⟨bb, p + k * 2, none⟩) hbr h0 n os
      have h1 := fun n os => cell_grown (w := wr) (a := ⟨bb, p + k * 2 + 1, none⟩) hbr h1 n os
      have KS := Lib.hid (fun w => (show Calls Try.prog 53 #[.agg #[.int .i64 u, .int .i64 v], .agg #[.int .i64 x, .int .i64 y]] w (OutG w (.bool (decide (Sm (u, v) x y)))) from rsmlink_any (u, v) (x, y) w))
      clear hu HN hb
      by_cases hs : Sm (u, v) x y
      · have N := Lib.hid (RV.out.trans (if_pos (HY.out hs)))
        rw [dt hs] at KS
        clear hs HJ HY
        go_wp2_with fail
        have mixed := mixedB
        go_quiet_grown (first | (go_at_call 53; exact grown_out (KS.out _)) | fail)
        clear mixed
        dsimp only
        obtain ⟨wq, hwq⟩ : ∃ wq, wq = Go.Sort.grow (wr.drewN nq) osq := ⟨_, rfl⟩
        rw [← hwq]
        have B4 := Lib.hid (show Below w.heap.size w wq by rw [hwq]; exact B.out.trans ((grown_below _ _ _).mono hz))
        clear hwq f0 f1 h0 h1
        go_wp2_with fail
        go_ret
        exact outI N.out.symm B4.out
      · have N := Lib.hid (HJ.out hs)
        rw [df hs] at KS
        clear hs HJ HY
        go_wp2_with fail
        have mixed := mixedB
        go_quiet_grown (first | (go_at_call 53; exact grown_out (KS.out _)) | fail)
        clear mixed
        dsimp only
        obtain ⟨wq, hwq⟩ : ∃ wq, wq = Go.Sort.grow (wr.drewN nq) osq := ⟨_, rfl⟩
        rw [← hwq]
        have B4 := Lib.hid (show Below w.heap.size w wq by rw [hwq]; exact B.out.trans ((grown_below _ _ _).mono hz))
        clear hwq f0 f1 h0 h1
        go_wp2_with fail
        go_roundw
        case rel => exact ⟨j + 1, by go_num, hjk, N, B4.out⟩
        case measure => simp [intOf]; omega
end Go.Proofs.Ytcnmknhjmflinaa.Tpo
