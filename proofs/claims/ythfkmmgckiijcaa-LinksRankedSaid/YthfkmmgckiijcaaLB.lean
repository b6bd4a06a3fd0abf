/- Contracts of Check and of the table that counts, on both sides. -/
import Derived.Test.YthfkmmgckiijcaaLA
import Derived.Deep.RegionHeld3
set_option linter.unusedVariables false
namespace Go.Proofs.Ythfkmmgckiijcaa.Lnk
open Go.RowKit

/-- The node of the entry before. -/
def prv (l : List Lk) (k : Nat) : Int := if h : 0 < k ∧ k ≤ l.length then (l[k - 1]'(by omega)).1 else -1
theorem prv_zero (l : List Lk) : prv l 0 = -1 := by unfold prv; rw [dif_neg (by omega)]
theorem prv_succ (l : List Lk) (m : Nat) (h : m < l.length) : prv l (m + 1) = l[m].1 := by unfold prv; rw [dif_pos ⟨by omega, by omega⟩]; rfl
theorem chkG_cons (p : Int) (x : Lk) (r : List Lk) : chkG p (x :: r) = if Ok1 x then (if x.1 ≤ p then 14 else chkG x.1 r) else 2 := rfl

set_option maxRecDepth 100000 in
set_option maxHeartbeats 4000000 in
theorem lcheck_any (A : Option Addr) (c : Nat) (l : List Lk) (w : World) (hl : l.length ≤ 9223372036854775807) (hA : LkAt w w.heap.size A l) :
    Calls Try.prog 9 #[.slice A l.length c] w (OutI w (chk l)) := by
  have HA := Lib.hid hA
  clear hA
  by_cases h24 : 24 < l.length
  · have R := Lib.hid (show chk l = 3 from if_pos h24)
    go_enter Try.func9, Try.ntmps9
    go_wp2_with fail
    go_ret
    exact outI R.out.symm (Below.refl _ _)
  have CK := Lib.hid (show chk l = chkG (-1) l from if_neg h24)
  go_enter Try.func9, Try.ntmps9
  go_wp2_with fail
  go_loopw [10] (fun i wr => ∃ k : Nat, i = .int .i64 k ∧ k ≤ l.length ∧ chk l = chkG (prv l k) (l.drop k) ∧ Below w.heap.size w wr) (fun i _ => l.length - (intOf i).toNat)
  case atStart => exact ⟨0, rfl, Nat.zero_le _, by rw [CK.out, prv_zero]; rfl, Below.refl _ _⟩
  case round =>
    obtain ⟨k, rfl, hk, hal, hb⟩ := hrel
    have B := Lib.hid hb
    have hz := hb.size
    by_cases hlt : k < l.length
    · obtain ⟨b, p, rfl, hbw, g0, g1, g2, g3, g4, g5⟩ := lk_cell (HA.out.below hb) k hlt
      rw [drop_one l k hlt, chkG_cons] at hal
      have AL := Lib.hid hal
      have PS := Lib.hid (prv_succ l k hlt)
      have KB := Lib.hid (fun w => (show Calls Try.prog 24 #[.agg #[.int .i64 l[k].1, .int .i64 l[k].2.1, .int .i64 l[k].2.2]] w (OutB w (decide (Ok1 l[k]))) from inRange_any l[k] w))
      have KO : Hid (Ok1 l[k] → 0 ≤ l[k].1) := Lib.hid fun h => h.1.1
      clear hal hb
      by_cases hok : Ok1 l[k]
      · rw [dt hok] at KB
        have AL := Lib.hid (show chk l = if l[k].1 ≤ prv l k then 14 else chkG l[k].1 (l.drop (k + 1)) by rw [AL.out, if_pos hok])
        have hn0 := KO.out hok
        clear hok KO
        by_cases hk0 : 0 < k
        · obtain ⟨m, hkm⟩ : ∃ m, k = m + 1 := ⟨k - 1, by omega⟩
          have hm : m < l.length := by omega
          have AL2 := Lib.hid (show chk l = if l[k].1 ≤ l[m].1 then 14 else chkG l[k].1 (l.drop (k + 1)) by rw [AL.out, show prv l k = l[m].1 by rw [hkm]; exact prv_succ l m hm])
          have z1 : (k : Int) - 1 = (m : Int) := by omega
          have z2 : IntKind.i64.wrap (m : Int) = (m : Int) := by rw [IntKind.wrap_i64]; omega
          have z3 : (0 : Int) ≤ (m : Int) := by omega
          have z4 : (m : Int) < (l.length : Int) := by omega
          obtain ⟨b', p', e', hbw', q0, _⟩ := lk_cell (HA.out.below B.out) m hm
          simp only [Option.some.injEq, Addr.mk.injEq, and_true] at e'
          obtain ⟨rfl, rfl⟩ := e'
          have Q0 := Lib.hid (fun w' (h : Below w.heap.size wr w') => (h.cell (p := ⟨b, p + m * 3, none⟩) hbw).trans q0)
          have KM := Lib.hid hkm
          clear AL q0 hkm
          generalize l[k].1 = n at *
          generalize l[k].2.1 = bt at *
          generalize l[k].2.2 = ct at *
          generalize l[m].1 = n' at *
          by_cases hle : n ≤ n'
          · have R := Lib.hid (show chk l = 14 by rw [AL2.out, if_pos hle])
            have d1 := dt hle
            clear AL2
            go_wp2_with fail
            refine (KB.out _).mono ?_
            rintro _ w2 ⟨rfl, hb⟩
            have B2 := Lib.hid (B.out.trans ((box_below hb).mono hz))
            have c0 := box_at hb 0 (v := .int .i64 n) rfl
            have c1 := Q0.out _ ((box_below hb).mono hz)
            clear hb
            go_wp2_with fail
            go_quiet (fail)
            go_wp2_with fail
            go_ret
            exact outI R.out.symm (below_drewN B2.out _)
          · have R := Lib.hid (show chk l = chkG (prv l (k + 1)) (l.drop (k + 1)) by rw [AL2.out, if_neg hle, PS.out])
            have d1 := df hle
            clear AL2
            go_wp2_with fail
            refine (KB.out _).mono ?_
            rintro _ w2 ⟨rfl, hb⟩
            have B2 := Lib.hid (B.out.trans ((box_below hb).mono hz))
            have c0 := box_at hb 0 (v := .int .i64 n) rfl
            have c1 := Q0.out _ ((box_below hb).mono hz)
            clear hb
            go_wp2_with fail
            go_quiet (fail)
            go_wp2_with fail
            go_roundw
            case rel => exact ⟨k + 1, by go_num, hlt, R.out, below_drewN B2.out _⟩
            case measure => simp [intOf]; omega
        · have R := Lib.hid (show chk l = chkG (prv l (k + 1)) (l.drop (k + 1)) by
            rw [AL.out, show prv l k = -1 by rw [show k = 0 by omega]; exact prv_zero l, if_neg (by omega), PS.out])
          have d0 := df hk0
          clear AL PS
          generalize l[k].1 = n at *
          generalize l[k].2.1 = bt at *
          generalize l[k].2.2 = ct at *
          go_wp2_with fail
          refine (KB.out _).mono ?_
          rintro _ w2 ⟨rfl, hb⟩
          have B2 := Lib.hid (B.out.trans ((box_below hb).mono hz))
          have c0 := box_at hb 0 (v := .int .i64 n) rfl
          clear hb
          go_wp2_with fail
          go_quiet (fail)
          go_wp2_with fail
          go_roundw
          case rel => exact ⟨k + 1, by go_num, hlt, R.out, below_drewN B2.out _⟩
          case measure => simp [intOf]; omega
      · rw [df hok] at KB
        have R := Lib.hid (show chk l = 2 by rw [AL.out, if_neg hok])
        clear hok KO AL PS
        generalize l[k].1 = n at *
        generalize l[k].2.1 = bt at *
        generalize l[k].2.2 = ct at *
        go_wp2_with fail
        refine (KB.out _).mono ?_
        rintro _ w2 ⟨rfl, hb⟩
        have B2 := Lib.hid (B.out.trans ((box_below hb).mono hz))
        clear hb
        go_wp2_with fail
        go_ret
        exact outI R.out.symm B2.out
    · rw [List.drop_eq_nil_of_le (by omega)] at hal
      have R := Lib.hid (show chk l = 0 by rw [hal]; rfl)
      clear hal hb
      go_wp2_with fail
      go_ret
      exact outI R.out.symm B.out
end Go.Proofs.Ythfkmmgckiijcaa.Lnk
