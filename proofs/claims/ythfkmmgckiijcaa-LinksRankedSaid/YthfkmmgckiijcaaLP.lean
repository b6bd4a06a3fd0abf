/- The reference: valid, at, successes, Cost, Quality, Forget. -/
import Derived.Test.YthfkmmgckiijcaaLO
set_option linter.unusedVariables false
namespace Go.Proofs.Ythfkmmgckiijcaa.Lnk
open Go.RowKit

theorem vl_vl (l : List Lk) : vl (vl l) = vl l := vl_id _ (vl_val l)
section
variable (A : Option Addr) (c : Nat) (l : List Lk) (n : Int) (w : World) (hl : l.length ≤ 9223372036854775807) (hA : LkAt w w.heap.size A l)
include hl hA

set_option maxRecDepth 100000 in
set_option maxHeartbeats 1000000 in
theorem rvalid_any : Calls Try.prog 33 #[.slice A l.length c] w (OutF fL w (vl l)) := by
  have K := Lib.hid (rcheck_any A c l w hl hA)
  have HA := Lib.hid hA
  clear hA
  by_cases h : chk l = 0
  · have R := Lib.hid (show vl l = l from if_pos h)
    have L24 := ((chk_zero l).1 h).1
    rw [h] at K
    clear h
    go_enter Try.func33, Try.ntmps33
    go_wp2_with fail
    refine K.out.mono ?_
    rintro _ w1 ⟨rfl, hb⟩
    have B1 := Lib.hid hb
    have hz1 := hb.size
    obtain ⟨v', w', hap, ho, hb2, _⟩ := (OwnF.lit (F := fL) (T := 38) w1 w.heap.size [] #[] hz1 (by unfold maxLen; simp) rfl (by simp)).app eLk (c := c) 22 ((HA.out.next hb).below (alloc_below _ _)) (by simp; omega) (Nat.le_trans hz1 (by simp))
    have O := Lib.hid (show OwnL w' w.heap.size v' l from ho)
    have B2 := Lib.hid ((B1.out.alloc hz1 (.cells #[] 38)).trans hb2)
    simp only [List.length_nil] at hap
    clear hb ho hb2
    go_wp2_with (at_builtin; refine Lib.wpList_append_run _ rfl _ _ _ _ rfl _ _ rfl rfl _ _ hap ?_)
    go_ret
    exact outF_own R.out O.out B2.out
  · have R := Lib.hid (show vl l = [] from if_neg h)
    have h2 : (chk l != 0) = true := by simpa using h
    generalize chk l = q at *
    clear h
    go_enter Try.func33, Try.ntmps33
    go_wp2_with fail
    refine K.out.mono ?_
    rintro _ w1 ⟨rfl, hb⟩
    have B1 := Lib.hid hb
    clear hb
    go_wp2_with fail
    go_ret
    exact outF_nil R.out B1.out

/-- What at hands back. -/
def OutA (w : World) (o : Option Lk) (e : Ending) (w' : World) : Prop := e = .returned (.tuple #[lkV (o.getD (0, 0, 0)), .bool o.isSome]) ∧ Below w.heap.size w w'
omit hl hA in
theorem ent_cons (x : Lk) (r : List Lk) : ent (x :: r) n = if x.1 = n then some x else ent r n := by
  unfold ent
  by_cases h : x.1 = n
  · rw [if_pos h, List.find?_cons_of_pos (by simpa using h)]
  · rw [if_neg h, List.find?_cons_of_neg (by simpa using h)]
set_option maxRecDepth 100000 in
set_option maxHeartbeats 1000000 in
theorem rat_any : Calls Try.prog 34 #[.slice A l.length c, .int .i64 n] w (OutA w (ent (vl l) n)) := by
  have K := Lib.hid (fun o => rvalid_any A c l (w.alloc o) hl (hA.next (alloc_below w o)))
  have V24 := vl_len l
  have EC := Lib.hid (fun x r => ent_cons n x r)
  clear hA
  generalize vl l = v at *
  go_enter Try.func34, Try.ntmps34
  go_wp2_with fail
  refine (K.out _).mono ?_
  rintro _ w1 ⟨A1, c1, rfl, hA1, _, _, hb⟩
  have B1 := Lib.hid (box_below hb)
  have HA1 := Lib.hid hA1
  have hz1 := B1.out.size
  have ZZ := Lib.hid (blk_below (blk_new w (.cells #[.int .i64 0, .int .i64 0, .int .i64 0] 38)) hb (by simp))
  clear hb hA1 K
  go_wp2_with fail
  go_loopw [7] (fun i wr => ∃ k : Nat, i = .int .i64 k ∧ k ≤ v.length ∧ Hid (ent v n = ent (v.drop k) n) ∧ wr = w1) (fun i _ => v.length - (intOf i).toNat)
  case atStart => exact ⟨0, rfl, Nat.zero_le _, Lib.hid rfl, rfl⟩
  case round =>
    obtain ⟨k, rfl, hk, HE, rfl⟩ := hrel
    have Z := ZZ.out
    by_cases hlt : k < v.length
    · obtain ⟨b, p, rfl, hbw, g0, g1, g2, g3, g4, g5⟩ := lk_cell HA1.out k hlt
      have HE := Lib.hid (HE.out.trans (by rw [drop_one v k hlt, EC.out]))
      obtain ⟨⟨x0, x1, x2⟩, hx⟩ : ∃ x, v[k] = x := ⟨_, rfl⟩
      rw [hx] at g0 g1 g2 HE
      simp only at g0 g1 g2 HE
      clear hx g3 g4 g5
      by_cases hq : x0 = n
      · have R := Lib.hid (show ent v n = some (x0, x1, x2) by rw [HE.out, if_pos hq])
        have d1 : (x0 == n) = true := by simpa using hq
        have c0 := blk_cell Z 0 (v := .int .i64 0) rfl
        have c1 := blk_cell Z 1 (v := .int .i64 0) rfl
        have c2 := blk_cell Z 2 (v := .int .i64 0) rfl
        have f0 := blk_fr Z 0
        have f1 := blk_fr Z 1
        have f2 := blk_fr Z 2
        clear hq Z HE
        go_wp2_with fail
        refine bodyPost_ret (v := .tuple #[lkV (x0, x1, x2), .bool true]) (by simp [results, Try.results34, go_sem, c0, c1, c2]) rfl ⟨by rw [R.out]; rfl, ((B1.out.setCell (Nat.le_refl _) _).setCell (Nat.le_refl _) _).setCell (Nat.le_refl _) _⟩
      · have HE := Lib.hid (show ent v n = ent (v.drop (k + 1)) n by rw [HE.out, if_neg hq])
        have d1 : (x0 == n) = false := by simpa using hq
        clear hq Z
        go_wp2_with fail
        go_roundw
        case rel => exact ⟨k + 1, by go_num, hlt, HE, by first | rfl | trivial⟩
        case measure => simp [intOf]; omega
    · have R := Lib.hid (show ent v n = none by rw [HE.out, List.drop_eq_nil_of_le (by omega)]; rfl)
      have c0 := blk_cell Z 0 (v := .int .i64 0) rfl
      have c1 := blk_cell Z 1 (v := .int .i64 0) rfl
      have c2 := blk_cell Z 2 (v := .int .i64 0) rfl
      have f0 := blk_fr Z 0
      have f1 := blk_fr Z 1
      have f2 := blk_fr Z 2
      clear Z HE
      go_wp2_with fail
      refine bodyPost_ret (v := .tuple #[lkV (0, 0, 0), .bool false]) (by simp [results, Try.results34, go_sem, c0, c1, c2]) rfl ⟨by rw [R.out]; rfl, ((B1.out.setCell (Nat.le_refl _) _).setCell (Nat.le_refl _) _).setCell (Nat.le_refl _) _⟩
end

set_option maxHeartbeats 1000000 in
theorem rsucc_any (x : Lk) (hx : Ok2 x) (w : World) : Calls Try.prog 36 #[lkV x] w (OutG w (.int .i64 (scc x))) := by
  obtain ⟨n, b, c⟩ := x
  have hb1 : 0 ≤ b := hx.b0
  have hb2 : b < 65536 := hx.b1
  obtain ⟨bn, hbn⟩ : ∃ bn : Nat, b = (bn : Int) := ⟨b.toNat, by omega⟩
  subst hbn
  have hbn2 : bn < 65536 := by omega
  have R := Lib.hid (show scc (n, (bn : Int), c) = (ones 16 bn : Nat) from rfl)
  have OS := Lib.hid (fun (y : Nat) (hy : y < 65536) => (show ones 16 y = y % 2 + ones 16 (y / 2) by
    have e : ones 16 (y / 2) = ones 15 (y / 2) := ones_small 15 16 (y / 2) (by show y / 2 < 32768; omega) (by omega)
    rw [e]; rfl))
  have O0 := Lib.hid (ones_zero 16)
  have OL := Lib.hid (ones_le 16)
  clear hx
  rw [R.out]
  generalize hr : ones 16 bn = r at *
  have HR := Lib.hid hr
  clear hr hb1 hb2
  go_enter Try.func36, Try.ntmps36
  go_wp2_with fail
  go_loopw [3, 4] (fun s b wr => ∃ (k y : Nat), s = .int .i64 k ∧ b = .int .i64 y ∧ y < 65536 ∧ k ≤ 16 ∧ Hid (k + ones 16 y = r) ∧ wr = w.alloc (bxL n bn c)) (fun _ b _ => (intOf b).toNat)
  case atStart => exact ⟨0, bn, rfl, rfl, hbn2, by omega, Lib.hid (by rw [HR.out]; omega), rfl⟩
  case round =>
    obtain ⟨k, y, rfl, rfl, hy, hk, HK, rfl⟩ := hrel
    by_cases h0 : 0 < y
    · have HK2 := Lib.hid (show k + y % 2 + ones 16 (y / 2) = r by have := HK.out; have := OS.out y hy; omega)
      have hk2 : k + y % 2 ≤ 16 := by have := HK2.out; have := OL.out bn; have := HR.out; omega
      have d0 := dt h0
      clear HK
      go_wp2_with fail
      go_roundw
      case rel => exact ⟨k + y % 2, y / 2, by first | rfl | go_num, by first | rfl | go_num, by omega, hk2, HK2, by first | rfl | trivial⟩
      case measure => simp [intOf]; omega
    · have HZ := Lib.hid (show k = r by have := HK.out; rw [show y = 0 by omega, O0.out] at this; omega)
      have d0 := df h0
      clear HK
      go_wp2_with fail
      go_ret
      exact outG_alloc _ (by rw [HZ.out]; rfl)
end Go.Proofs.Ythfkmmgckiijcaa.Lnk
