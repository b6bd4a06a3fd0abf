/- The reference: Cost, Quality, Forget, Best. -/
import Derived.Test.YthfkmmgckiijcaaLP
set_option linter.unusedVariables false
namespace Go.Proofs.Ythfkmmgckiijcaa.Lnk
open Go.RowKit

theorem ent_ok2 {l : List Lk} (hl : Val l) {n : Int} {x : Lk} (h : ent l n = some x) : Ok2 x := by
  have := entd_ok2 hl n
  unfold entd at this
  rw [h] at this
  exact this
section
variable (A : Option Addr) (c : Nat) (l : List Lk) (n : Int) (w : World) (hl : l.length ≤ 9223372036854775807) (hA : LkAt w w.heap.size A l)
include hl hA

set_option maxRecDepth 100000 in
set_option maxHeartbeats 2000000 in
theorem rcost_any : Calls Try.prog 18 #[.slice A l.length c, .int .i64 n] w (OutI w (cost l n)) := by
  have K := Lib.hid (rat_any A c l n w hl hA)
  have HB := Lib.hid (below_drewN (Below.refl w.heap.size w) 0)
  cases he : ent (vl l) n with
  | none =>
    have R := Lib.hid (show cost l n = 255 by unfold cost; rw [he])
    rw [he] at K
    clear he hA
    go_enter Try.func18, Try.ntmps18
    go_wp2_with fail
    refine K.out.mono ?_
    rintro _ w1 ⟨rfl, hb⟩
    have B1 := Lib.hid hb
    have hz := hb.size
    clear hb
    go_wp2_with fail
    go_ret
    exact outI R.out.symm (B1.out.alloc hz _)
  | some x =>
    have EO := Lib.hid (ent_ok2 (vl_val l) he)
    have CE := Lib.hid (show cost l n = cst x by unfold cost; rw [he])
    rw [he] at K
    clear he hA
    obtain ⟨x0, x1, x2⟩ := x
    have KS := Lib.hid (fun w => (show Calls Try.prog 36 #[.agg #[.int .i64 x0, .int .i64 x1, .int .i64 x2]] w (OutG w (.int .i64 (scc (x0, x1, x2)))) from rsucc_any (x0, x1, x2) EO.out w))
    have s0 : 0 ≤ scc (x0, x1, x2) := EO.out.s0
    have s1 : scc (x0, x1, x2) ≤ x2 := EO.out.s1
    have s2 : 0 ≤ x2 := EO.out.c0
    have s3 : x2 ≤ 16 := EO.out.c1
    have C0 := Lib.hid (fun h => (show cost l n = 255 by rw [CE.out]; exact if_pos h))
    have C1 := Lib.hid (fun (h : scc (x0, x1, x2) ≠ 0) => (show -flo (-(10 * x2)) (scc (x0, x1, x2)) = cost l n by rw [CE.out, cst_pos h, flo_plain _ _ (by omega) (by omega) (by omega) (by omega)]))
    clear EO CE
    generalize scc (x0, x1, x2) = s at *
    generalize cost l n = q at *
    by_cases h0 : s = 0
    · have R := Lib.hid (C0.out h0)
      have d1 : (s == 0) = true := by simpa using h0
      clear C0 C1 h0
      go_enter Try.func18, Try.ntmps18
      go_wp2_with fail
      refine K.out.mono ?_
      rintro _ w1 ⟨rfl, hb⟩
      have B1 := Lib.hid hb
      have hz := hb.size
      clear hb
      go_wp2_with fail
      refine (KS.out _).mono ?_
      rintro _ w2 ⟨rfl, q1, os, hw⟩
      have B2 := Lib.hid (show Below w.heap.size w w2 by rw [hw]; exact (B1.out.alloc hz _).trans ((grown_below _ _ _).mono (by simp; omega)))
      clear hw
      go_wp2_with fail
      go_ret
      exact outI R.out.symm B2.out
    · have R := Lib.hid (C1.out h0)
      have d1 : (s == 0) = false := by simpa using h0
      have z1 : IntKind.i64.wrap (10 * x2) = 10 * x2 := by rw [IntKind.wrap_i64]; omega
      have KC := Lib.hid (fun w => rceil_any (10 * x2) s w)
      rw [R.out] at KC
      clear C0 C1 h0
      go_enter Try.func18, Try.ntmps18
      go_wp2_with fail
      refine K.out.mono ?_
      rintro _ w1 ⟨rfl, hb⟩
      have B1 := Lib.hid hb
      have hz := hb.size
      clear hb
      go_wp2_with fail
      refine (KS.out _).mono ?_
      rintro _ w2 ⟨rfl, q1, os, hw⟩
      have B2 := Lib.hid (show Below w.heap.size w w2 by rw [hw]; exact (B1.out.alloc hz _).trans ((grown_below _ _ _).mono (by simp; omega)))
      have c0 := box_grown hw 0 (v := .int .i64 x0) rfl
      have c1 := box_grown hw 1 (v := .int .i64 x1) rfl
      have c2 := box_grown hw 2 (v := .int .i64 x2) rfl
      clear hw
      go_wp2_with fail
      have mixed := mixedB
      go_quiet_grown (first | (go_at_call 36; exact grown_out (KS.out _)) | (go_at_call 37; exact grown_same (KC.out _)) | fail)
      go_wp2_with fail
      go_ret
      exact outI rfl (B2.out.trans ((grown_below _ _ _).mono B2.out.size))

set_option maxRecDepth 100000 in
set_option maxHeartbeats 2000000 in
theorem rquality_any : Calls Try.prog 20 #[.slice A l.length c, .int .i64 n] w (OutI w (quality l n)) := by
  have K := Lib.hid (rat_any A c l n w hl hA)
  cases he : ent (vl l) n with
  | none =>
    have R := Lib.hid (show quality l n = 0 by unfold quality; rw [he])
    rw [he] at K
    clear he hA
    go_enter Try.func20, Try.ntmps20
    go_wp2_with fail
    refine K.out.mono ?_
    rintro _ w1 ⟨rfl, hb⟩
    have B1 := Lib.hid hb
    have hz := hb.size
    clear hb
    go_wp2_with fail
    go_ret
    exact outI R.out.symm (B1.out.alloc hz _)
  | some x =>
    have EO := Lib.hid (ent_ok2 (vl_val l) he)
    have CE := Lib.hid (show quality l n = qlt x by unfold quality; rw [he])
    rw [he] at K
    clear he hA
    obtain ⟨x0, x1, x2⟩ := x
    have KS := Lib.hid (fun w => (show Calls Try.prog 36 #[.agg #[.int .i64 x0, .int .i64 x1, .int .i64 x2]] w (OutG w (.int .i64 (scc (x0, x1, x2)))) from rsucc_any (x0, x1, x2) EO.out w))
    have s0 : 0 ≤ scc (x0, x1, x2) := EO.out.s0
    have s1 : scc (x0, x1, x2) ≤ x2 := EO.out.s1
    have s2 : 0 ≤ x2 := EO.out.c0
    have s3 : x2 ≤ 16 := EO.out.c1
    have CE := Lib.hid (show flo (100 * scc (x0, x1, x2)) x2 = quality l n by
      rw [CE.out]
      unfold qlt
      by_cases h : x2 = 0
      · rw [if_pos h, h]; rfl
      · rw [if_neg h, flo_plain _ _ (by omega) (by omega) (by omega) (by omega)])
    have z1 : IntKind.i64.wrap (100 * scc (x0, x1, x2)) = 100 * scc (x0, x1, x2) := by rw [IntKind.wrap_i64]; omega
    clear EO
    generalize scc (x0, x1, x2) = s at *
    generalize quality l n = q at *
    have KF := Lib.hid (fun w => rfloor_any (100 * s) x2 w)
    rw [CE.out] at KF
    go_enter Try.func20, Try.ntmps20
    go_wp2_with fail
    refine K.out.mono ?_
    rintro _ w1 ⟨rfl, hb⟩
    have B1 := Lib.hid hb
    have hz := hb.size
    clear hb
    go_wp2_with fail
    obtain ⟨W, hW⟩ : ∃ W, W = w1.alloc (bxL x0 x1 x2) := ⟨_, rfl⟩
    have B3 := Lib.hid (show Below w.heap.size w W by rw [hW]; exact B1.out.alloc hz _)
    have b1 : W.heap[w1.heap.size]? = some (bxL x0 x1 x2) := by rw [hW]; exact blk_new _ _
    have c0 := fun n os => cell_grown (w := W) (a := ⟨w1.heap.size, 0, none⟩) (blk_lt b1) (blk_cell b1 0 (v := .int .i64 x0) rfl) n os
    have c1 := fun n os => cell_grown (w := W) (a := ⟨w1.heap.size, 1, none⟩) (blk_lt b1) (blk_cell b1 1 (v := .int .i64 x1) rfl) n os
    have c2 := fun n os => cell_grown (w := W) (a := ⟨w1.heap.size, 2, none⟩) (blk_lt b1) (blk_cell b1 2 (v := .int .i64 x2) rfl) n os
    rw [← hW]
    clear hW b1
    have mixed := mixedB
    go_quiet_grown (first | (go_at_call 36; exact grown_out (KS.out _)) | (go_at_call 40; exact grown_same (KF.out _)) | fail)
    go_wp2_with fail
    go_ret
    exact outI rfl (B3.out.trans ((grown_below _ _ _).mono B3.out.size))

/-- Those entries that are not the neighbor's. -/
def oth (n : Int) (l : List Lk) : List Lk := l.filter fun x => decide (x.1 ≠ n)
omit hl hA in
theorem oth_yes (k : Nat) (h : k < l.length) (hn : l[k].1 ≠ n) : oth n (l.take (k + 1)) = oth n (l.take k) ++ [l[k]] := by
  unfold oth; rw [take_one l k h, List.filter_append]; simp [hn]
omit hl hA in
theorem oth_no (k : Nat) (h : k < l.length) (hn : l[k].1 = n) : oth n (l.take (k + 1)) = oth n (l.take k) := by
  unfold oth; rw [take_one l k h, List.filter_append]; simp [hn]
omit hl hA in
theorem oth_len : (oth n l).length ≤ l.length := List.length_filter_le _ _
set_option maxRecDepth 100000 in
set_option maxHeartbeats 2000000 in
theorem rforget_any : Calls Try.prog 16 #[.slice A l.length c, .int .i64 n] w (OutF fL w (fgt l n)) := by
  have K := Lib.hid (rvalid_any A c l w hl hA)
  have V24 := vl_len l
  have FE := Lib.hid (show fgt l n = oth n (vl l) from rfl)
  clear hA
  generalize vl l = v at *
  generalize fgt l n = F at *
  have OL := Lib.hid (fun k => (show (oth n (v.take k)).length ≤ 24 by have := oth_len (v.take k) n; rw [List.length_take] at this; omega))
  go_enter Try.func16, Try.ntmps16
  go_wp2_with fail
  refine K.out.mono ?_
  rintro _ w1 ⟨A1, c1, rfl, hA1, _, _, hb⟩
  have B1 := Lib.hid hb
  have HA1 := Lib.hid hA1
  have hz1 := hb.size
  clear hb hA1 K
  go_wp2_with fail
  go_loopw [6, 7] (fun o i wr => ∃ k : Nat, i = .int .i64 k ∧ k ≤ v.length ∧ OwnL wr w1.heap.size o (oth n (v.take k)) ∧ Below w1.heap.size w1 wr) (fun _ i _ => v.length - (intOf i).toNat)
  case atStart => exact ⟨0, rfl, Nat.zero_le _, OwnF.nil _ _, Below.refl _ _⟩
  case round =>
    obtain ⟨k, rfl, hk, ho, hb⟩ := hrel
    have B := Lib.hid hb
    have hz := hb.size
    have O := Lib.hid ho
    by_cases hlt : k < v.length
    · obtain ⟨b, p, rfl, hbw, g0, g1, g2, g3, g4, g5⟩ := lk_cell (HA1.out.below hb) k hlt
      have NY := Lib.hid (oth_yes v n k hlt)
      have NN := Lib.hid (oth_no v n k hlt)
      clear hb ho
      obtain ⟨⟨x0, x1, x2⟩, hx⟩ : ∃ x, v[k] = x := ⟨_, rfl⟩
      rw [hx] at g0 g1 g2 g3 g4 g5 NY NN
      simp only at g0 g1 g2 g3 g4 g5 NY NN
      clear hx
      by_cases hq : x0 = n
      · have R := Lib.hid (NN.out hq)
        have d1 : (x0 != n) = false := by simpa using hq
        have O2 := Lib.hid (show OwnL wr w1.heap.size _ (oth n (v.take (k + 1))) by rw [R.out]; exact O.out)
        clear hq NY NN
        go_wp2_with fail
        go_roundw
        case rel => exact ⟨k + 1, by go_num, hlt, O2.out, B.out⟩
        case measure => simp [intOf]; omega
      · have R := Lib.hid (NY.out hq)
        have d1 : (x0 != n) = true := by simpa using hq
        obtain ⟨v', w', hap, ho', hbb⟩ := O.out.one eLk 22 (x0, x1, x2) #[.int .i64 x0, .int .i64 x1, .int .i64 x2] rfl ⟨g3, g4, g5⟩ (by have := OL.out k; omega) hz
        have O2 := Lib.hid (show OwnL w' w1.heap.size v' (oth n (v.take (k + 1))) by rw [R.out]; exact ho')
        have B2 := Lib.hid (B.out.trans hbb)
        clear hq NY NN ho' hbb
        go_wp2_with (at_builtin; refine Lib.wpList_append_run _ rfl _ _ _ _ rfl _ _ rfl rfl _ _ hap ?_)
        go_roundw
        case rel => exact ⟨k + 1, by go_num, hlt, O2.out, B2.out⟩
        case measure => simp [intOf]; omega
    · have R := Lib.hid (show F = oth n (v.take k) by rw [FE.out, show k = v.length by omega, List.take_length])
      clear hb ho
      go_wp2_with fail
      go_ret
      exact outF_own R.out O.out (B1.out.trans (B.out.mono hz1))
end
end Go.Proofs.Ythfkmmgckiijcaa.Lnk
