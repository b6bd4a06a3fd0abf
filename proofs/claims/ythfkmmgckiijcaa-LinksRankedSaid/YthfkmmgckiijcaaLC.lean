/- Contracts of the reference's power and Check. -/
import Derived.Test.YthfkmmgckiijcaaLB
set_option linter.unusedVariables false
namespace Go.Proofs.Ythfkmmgckiijcaa.Lnk
open Go.RowKit

set_option maxHeartbeats 400000 in
theorem rpower_any (n : Nat) (hn : n ≤ 16) (w : World) : Calls Try.prog 25 #[.int .i64 n] w fun e w' => e = .returned (.int .i64 ((2 ^ n : Nat) : Int)) ∧ w = w' := by
  obtain ⟨Q, hQ⟩ : ∃ Q : Int, Q = ((2 ^ n : Nat) : Int) := ⟨_, rfl⟩
  rw [← hQ]
  have HQ := Lib.hid hQ
  clear hQ
  go_enter Try.func25, Try.ntmps25
  go_wp2_with fail
  go_loop [3, 4] (fun p i => ∃ k : Nat, i = .int .i64 k ∧ k ≤ n ∧ p = .int .i64 ((2 ^ k : Nat) : Int)) (fun _ i => n - (intOf i).toNat)
  case atStart => exact ⟨0, rfl, Nat.zero_le _, rfl⟩
  case round =>
    obtain ⟨k, rfl, hk, rfl⟩ := hrel
    have hp : (2 : Nat) ^ k ≤ 65536 := Nat.pow_le_pow_right (n := 2) (by omega) (by omega : k ≤ 16)
    have PS := Lib.hid (Nat.pow_succ' (m := 2) (n := k))
    by_cases hlt : k < n
    · have hp2 : (2 : Nat) ^ k ≤ 32768 := Nat.pow_le_pow_right (n := 2) (by omega) (by omega : k ≤ 15)
      generalize (2 : Nat) ^ k = q at *
      go_wp2_with fail
      go_round
      case rel => exact ⟨k + 1, by go_num, hlt, val_int (by rw [PS.out]; omega)⟩
      case measure => simp [intOf]; omega
    · have R := Lib.hid (show ((2 ^ k : Nat) : Int) = Q by rw [HQ.out, show k = n by omega])
      generalize (2 : Nat) ^ k = q at *
      go_wp2_with fail
      go_ret
      exact ⟨ret_int R.out, rfl⟩

/-- What the reference asks of an entry. -/
theorem ok1_iff {n b c : Int} : Ok1 (n, b, c) ↔ 0 ≤ n ∧ n ≤ 250 ∧ 0 ≤ c ∧ c ≤ 16 ∧ 0 ≤ b ∧ b < 2 ^ c.toNat := ⟨fun h => ⟨h.1.1, h.1.2, h.2.1.1, h.2.1.2, h.2.2.1, h.2.2.2⟩, fun ⟨h1, h2, h3, h4, h5, h6⟩ => ⟨⟨h1, h2⟩, ⟨h3, h4⟩, h5, h6⟩⟩

set_option maxRecDepth 100000 in
set_option maxHeartbeats 4000000 in
theorem rcheck_any (A : Option Addr) (c : Nat) (l : List Lk) (w : World) (hl : l.length ≤ 9223372036854775807) (hA : LkAt w w.heap.size A l) :
    Calls Try.prog 10 #[.slice A l.length c] w (OutI w (chk l)) := by
  have HA := Lib.hid hA
  clear hA
  by_cases h24 : 24 < l.length
  · have R := Lib.hid (show chk l = 3 from if_pos h24)
    go_enter Try.func10, Try.ntmps10
    go_wp2_with fail
    go_ret
    exact outI R.out.symm (Below.refl _ _)
  have CK := Lib.hid (show chk l = chkG (-1) l from if_neg h24)
  go_enter Try.func10, Try.ntmps10
  go_wp2_with fail
  go_loopw [3] (fun i wr => ∃ k : Nat, i = .int .i64 k ∧ k ≤ l.length ∧ chk l = chkG (prv l k) (l.drop k) ∧ Below w.heap.size w wr) (fun i _ => l.length - (intOf i).toNat)
  case atStart => exact ⟨0, rfl, Nat.zero_le _, by rw [CK.out, prv_zero]; rfl, Below.refl _ _⟩
  case round =>
    obtain ⟨k, rfl, hk, hal, hb⟩ := hrel
    have B := Lib.hid hb
    have hz := hb.size
    by_cases hlt : k < l.length
    · obtain ⟨b, p, rfl, hbw, g0, g1, g2, g3, g4, g5⟩ := lk_cell (HA.out.below hb) k hlt
      rw [drop_one l k hlt, chkG_cons] at hal
      have AL := Lib.hid hal
      have PS := Lib.hid (prv_succ l k hlt)
      have OI := Lib.hid (show Ok1 l[k] ↔ _ from ok1_iff (n := l[k].1) (b := l[k].2.1) (c := l[k].2.2))
      clear hal
      have BB := Lib.hid (B.out.alloc hz (bxL l[k].1 l[k].2.1 l[k].2.2))
      by_cases t1 : l[k].1 < 0
      · have R := Lib.hid (show chk l = 2 by rw [AL.out, if_neg (fun h => by have := OI.out.1 h; omega)])
        have d1 := dt t1
        clear AL PS OI hb
        generalize l[k].1 = n at *
        generalize l[k].2.1 = bt at *
        generalize l[k].2.2 = ct at *
        go_wp2_with fail
        go_quiet (fail)
        go_wp2_with fail
        go_ret
        first | exact outI R.out.symm (below_drewN BB.out _) | exact outI R.out.symm (below_drewN (below_drewN BB.out _) _)
      have d1 := df t1
      by_cases t2 : 250 < l[k].1
      · have R := Lib.hid (show chk l = 2 by rw [AL.out, if_neg (fun h => by have := OI.out.1 h; omega)])
        have d2 := dt t2
        clear AL PS OI hb
        generalize l[k].1 = n at *
        generalize l[k].2.1 = bt at *
        generalize l[k].2.2 = ct at *
        go_wp2_with fail
        go_quiet (fail)
        go_wp2_with fail
        go_ret
        first | exact outI R.out.symm (below_drewN BB.out _) | exact outI R.out.symm (below_drewN (below_drewN BB.out _) _)
      have d2 := df t2
      by_cases t3 : l[k].2.2 < 0
      · have R := Lib.hid (show chk l = 2 by rw [AL.out, if_neg (fun h => by have := OI.out.1 h; omega)])
        have d3 := dt t3
        clear AL PS OI hb
        generalize l[k].1 = n at *
        generalize l[k].2.1 = bt at *
        generalize l[k].2.2 = ct at *
        go_wp2_with fail
        go_quiet (fail)
        go_wp2_with fail
        go_ret
        first | exact outI R.out.symm (below_drewN BB.out _) | exact outI R.out.symm (below_drewN (below_drewN BB.out _) _)
      have d3 := df t3
      by_cases t4 : 16 < l[k].2.2
      · have R := Lib.hid (show chk l = 2 by rw [AL.out, if_neg (fun h => by have := OI.out.1 h; omega)])
        have d4 := dt t4
        clear AL PS OI hb
        generalize l[k].1 = n at *
        generalize l[k].2.1 = bt at *
        generalize l[k].2.2 = ct at *
        go_wp2_with fail
        go_quiet (fail)
        go_wp2_with fail
        go_ret
        first | exact outI R.out.symm (below_drewN BB.out _) | exact outI R.out.symm (below_drewN (below_drewN BB.out _) _)
      have d4 := df t4
      by_cases t5 : l[k].2.1 < 0
      · have R := Lib.hid (show chk l = 2 by rw [AL.out, if_neg (fun h => by have := OI.out.1 h; omega)])
        have d5 := dt t5
        clear AL PS OI hb
        generalize l[k].1 = n at *
        generalize l[k].2.1 = bt at *
        generalize l[k].2.2 = ct at *
        go_wp2_with fail
        go_quiet (fail)
        go_wp2_with fail
        go_ret
        first | exact outI R.out.symm (below_drewN BB.out _) | exact outI R.out.symm (below_drewN (below_drewN BB.out _) _)
      have d5 := df t5
      obtain ⟨cn, hcn⟩ : ∃ cn : Nat, l[k].2.2 = (cn : Int) := ⟨l[k].2.2.toNat, by omega⟩
      have hcn16 : cn ≤ 16 := by omega
      have PW := Lib.hid (fun w => rpower_any cn hcn16 w)
      have OI := Lib.hid (show Ok1 l[k] ↔ l[k].2.1 < ((2 ^ cn : Nat) : Int) from by rw [OI.out, pow_of hcn]; constructor; exact (fun h => h.2.2.2.2.2); exact (fun h => ⟨by omega, by omega, by omega, by omega, by omega, h⟩))
      rw [hcn] at g2 g5 BB
      clear hcn d3 d4 t3 t4
      generalize (2 : Nat) ^ cn = q at *
      by_cases t6 : (q : Int) ≤ l[k].2.1
      · have R := Lib.hid (show chk l = 2 by rw [AL.out, if_neg (fun h => by have := OI.out.1 h; omega)])
        have d6 := dt t6
        clear AL PS OI hb
        generalize l[k].1 = n at *
        generalize l[k].2.1 = bt at *
        have d3 := df (show ¬ (cn : Int) < 0 by omega)
        have d4 := df (show ¬ (16 : Int) < (cn : Int) by omega)
        go_wp2_with fail
        go_quiet ((go_at_call 25; exact quiet_same (PW.out _)))
        go_wp2_with fail
        go_ret
        first | exact outI R.out.symm (below_drewN BB.out _) | exact outI R.out.symm (below_drewN (below_drewN BB.out _) _)
      have d6 := df t6
      have AL2 := Lib.hid (show chk l = if l[k].1 ≤ prv l k then 14 else chkG l[k].1 (l.drop (k + 1)) by rw [AL.out, if_pos (OI.out.2 (by omega))])
      have d3 := df (show ¬ (cn : Int) < 0 by omega)
      have d4 := df (show ¬ (16 : Int) < (cn : Int) by omega)
      by_cases hk0 : 0 < k
      · obtain ⟨m, hkm⟩ : ∃ m, k = m + 1 := ⟨k - 1, by omega⟩
        have hm : m < l.length := by omega
        have AL3 := Lib.hid (show chk l = if l[k].1 ≤ l[m].1 then 14 else chkG l[k].1 (l.drop (k + 1)) by rw [AL2.out, show prv l k = l[m].1 by rw [hkm]; exact prv_succ l m hm])
        have z1 : (k : Int) - 1 = (m : Int) := by omega
        have z2 : IntKind.i64.wrap (m : Int) = (m : Int) := by rw [IntKind.wrap_i64]; omega
        have z3 : (0 : Int) ≤ (m : Int) := by omega
        have z4 : (m : Int) < (l.length : Int) := by omega
        obtain ⟨b', p', e', hbw', q0, _⟩ := lk_cell (HA.out.below B.out) m hm
        simp only [Option.some.injEq, Addr.mk.injEq, and_true] at e'
        obtain ⟨rfl, rfl⟩ := e'
        have q2 := Lib.hid (fun o => ((alloc_below wr o).cell (p := ⟨b, p + m * 3, none⟩) (Nat.lt_of_lt_of_le hbw hz)).trans q0)
        have KM := Lib.hid hkm
        clear AL AL2 OI hkm hb q0
        generalize l[k].1 = n at *
        generalize l[k].2.1 = bt at *
        generalize l[m].1 = n' at *
        have q3 := q2.out (bxL n bt cn)
        by_cases hle : n ≤ n'
        · have R := Lib.hid (show chk l = 14 by rw [AL3.out, if_pos hle])
          have d7 := dt hle
          clear AL3 PS
          go_wp2_with fail
          go_quiet ((go_at_call 25; exact quiet_same (PW.out _)))
          go_wp2_with fail
          go_quiet (fail)
          go_wp2_with fail
          go_ret
          first | exact outI R.out.symm (below_drewN BB.out _) | exact outI R.out.symm (below_drewN (below_drewN BB.out _) _)
        · have R := Lib.hid (show chk l = chkG (prv l (k + 1)) (l.drop (k + 1)) by rw [AL3.out, if_neg hle, PS.out])
          have d7 := df hle
          clear AL3 PS
          go_wp2_with fail
          go_quiet ((go_at_call 25; exact quiet_same (PW.out _)))
          go_wp2_with fail
          go_quiet (fail)
          go_wp2_with fail
          go_roundw
          case rel => exact ⟨k + 1, by go_num, hlt, R.out, by first | exact below_drewN BB.out _ | exact below_drewN (below_drewN BB.out _) _⟩
          case measure => simp [intOf]; omega
      · have R := Lib.hid (show chk l = chkG (prv l (k + 1)) (l.drop (k + 1)) by
          rw [AL2.out, show prv l k = -1 by rw [show k = 0 by omega]; exact prv_zero l, if_neg (by omega), PS.out])
        have d0 := df hk0
        clear AL AL2 PS OI hb
        generalize l[k].1 = n at *
        generalize l[k].2.1 = bt at *
        go_wp2_with fail
        go_quiet ((go_at_call 25; exact quiet_same (PW.out _)))
        go_wp2_with fail
        go_quiet (fail)
        go_wp2_with fail
        go_roundw
        case rel => exact ⟨k + 1, by go_num, hlt, R.out, by first | exact below_drewN BB.out _ | exact below_drewN (below_drewN BB.out _) _⟩
        case measure => simp [intOf]; omega
    · rw [List.drop_eq_nil_of_le (by omega)] at hal
      have R := Lib.hid (show chk l = 0 by rw [hal]; rfl)
      clear hal hb
      go_wp2_with fail
      go_ret
      exact outI R.out.symm B.out
end Go.Proofs.Ythfkmmgckiijcaa.Lnk
