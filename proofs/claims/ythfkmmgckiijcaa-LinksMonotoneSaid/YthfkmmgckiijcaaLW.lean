/- LinksMonotone walked. -/
import Derived.Test.YthfkmmgckiijcaaLT
set_option linter.unusedVariables false
namespace Go.Proofs.Ythfkmmgckiijcaa.Lnk
open Go.RowKit

set_option maxRecDepth 100000 in
set_option maxHeartbeats 4000000 in
theorem law_monotone (w : World) (A : Option Addr) (c : Nat) (l : List Lk) (n m : Int) (hl : l.length ≤ 9223372036854775807) (hc : l.length ≤ c) (hc0 : A = none → c = 0) (hA : LkAt w w.heap.size A l) :
    Calls Try.prog 6 #[.slice A l.length c, .int .i64 n, .int .i64 m] w (OutB w true) := by
  have HA := Lib.hid hA
  have K0 := Lib.hid (fun w hA => rcheck_any A c l w hl hA)
  clear hA
  by_cases h300 : chk l ≠ 0
  · have d1 : (chk l != 0) = true := by simpa using h300
    clear hc0
    generalize chk l = q at *
    clear h300
    go_enter Try.func6, Try.ntmps6
    go_wp2_with fail
    refine (K0.out _ HA.out).mono ?_
    rintro _ w1 ⟨rfl, hb⟩
    have B1 := Lib.hid hb
    clear hb
    go_wp2_with fail
    refine (awake_any _).mono ?_
    rintro _ w2 ⟨rfl, hb⟩
    have B2 := Lib.hid (B1.out.trans (hb.mono B1.out.size))
    clear hb
    go_wp2_with fail
    go_ret
    exact outB rfl B2.out
  have h0 : chk l = 0 := by omega
  rw [h0] at K0
  clear h300 h0
  have v1 := sen_val l n 1 (Or.inr rfl)
  have v2 := sen_val l n 0 (Or.inl rfl)
  have v3 := fgt_val l n
  have K1 := Lib.hid (show ∀ w, LkAt w w.heap.size A l → Calls Try.prog 13 #[.slice A l.length c, .int .i64 n, .bool true] w (OutF fL w (sen l n 1)) from fun w hA => lseen_any A c l n w hl hc hc0 hA true)
  have K2 := Lib.hid (show ∀ w, LkAt w w.heap.size A l → Calls Try.prog 13 #[.slice A l.length c, .int .i64 n, .bool false] w (OutF fL w (sen l n 0)) from fun w hA => lseen_any A c l n w hl hc hc0 hA false)
  have K3 := Lib.hid (fun x w hA => lcost_any A c l x w hl hc hc0 hA)
  have KF := Lib.hid (fun w hA => lforget_any A c l n w hl hc hc0 hA)
  have C1 := Lib.hid (show ∀ A1 c1 w, LkAt w w.heap.size A1 (sen l n 1) → Calls Try.prog 9 #[.slice A1 (sen l n 1).length c1] w (OutI w 0) from fun A1 c1 w h => by
    have := lcheck_any A1 c1 (sen l n 1) w (by have := v1.1; omega) h
    rw [(chk_zero _).2 v1] at this
    exact this)
  have C2 := Lib.hid (show ∀ A1 c1 w, LkAt w w.heap.size A1 (sen l n 0) → Calls Try.prog 9 #[.slice A1 (sen l n 0).length c1] w (OutI w 0) from fun A1 c1 w h => by
    have := lcheck_any A1 c1 (sen l n 0) w (by have := v2.1; omega) h
    rw [(chk_zero _).2 v2] at this
    exact this)
  have C3 := Lib.hid (show ∀ A1 c1 w, LkAt w w.heap.size A1 (fgt l n) → Calls Try.prog 9 #[.slice A1 (fgt l n).length c1] w (OutI w 0) from fun A1 c1 w h => by
    have := lcheck_any A1 c1 (fgt l n) w (by have := v3.1; omega) h
    rw [(chk_zero _).2 v3] at this
    exact this)
  have G1 := Lib.hid (show ∀ x A1 c1 w, (sen l n 1).length ≤ c1 → (A1 = none → c1 = 0) → LkAt w w.heap.size A1 (sen l n 1) → Calls Try.prog 17 #[.slice A1 (sen l n 1).length c1, .int .i64 x] w (OutI w (cost (sen l n 1) x)) from fun x A1 c1 w h1 h2 h3 => lcost_any A1 c1 _ x w (by have := v1.1; omega) h1 h2 h3)
  have G2 := Lib.hid (show ∀ x A1 c1 w, (sen l n 0).length ≤ c1 → (A1 = none → c1 = 0) → LkAt w w.heap.size A1 (sen l n 0) → Calls Try.prog 17 #[.slice A1 (sen l n 0).length c1, .int .i64 x] w (OutI w (cost (sen l n 0) x)) from fun x A1 c1 w h1 h2 h3 => lcost_any A1 c1 _ x w (by have := v2.1; omega) h1 h2 h3)
  have G3 := Lib.hid (show ∀ x A1 c1 w, (fgt l n).length ≤ c1 → (A1 = none → c1 = 0) → LkAt w w.heap.size A1 (fgt l n) → Calls Try.prog 17 #[.slice A1 (fgt l n).length c1, .int .i64 x] w (OutI w (cost (fgt l n) x)) from fun x A1 c1 w h1 h2 h3 => lcost_any A1 c1 _ x w (by have := v3.1; omega) h1 h2 h3)
  have M1 := cost_good l n
  have M2 := cost_bad l n
  have M3 := Lib.hid (cost_fgt_same l n)
  have e1 := df (show ¬ cost l n < cost (sen l n 1) n by omega)
  have e2 := df (show ¬ cost (sen l n 0) n < cost l n by omega)
  have O1 := Lib.hid (fun h : n ≠ m => cost_sen_other l n 1 m (Or.inr rfl) h)
  have O2 := Lib.hid (fun h : n ≠ m => cost_sen_other l n 0 m (Or.inl rfl) h)
  have O3 := Lib.hid (fun h : n ≠ m => cost_fgt_other l n m h)
  have G3n := Lib.hid (G3.out n)
  rw [M3.out] at G3n
  have G1n := Lib.hid (G1.out n)
  have G2n := Lib.hid (G2.out n)
  have K3n := Lib.hid (K3.out n)
  have K3m := Lib.hid (K3.out m)
  have G1m := Lib.hid (G1.out m)
  have G2m := Lib.hid (G2.out m)
  have G3m := Lib.hid (G3.out m)
  clear v1 v2 v3 M1 M2 M3 hc0 G1 G2 G3 K3
  by_cases hnm : m = n
  · have t1 : (m == n) = true := by simpa using hnm
    clear O1 O2 O3 hnm G1m G2m G3m
    generalize cost l n = a1 at *
    generalize cost l m = a2 at *
    generalize cost (sen l n 1) n = a3 at *
    generalize cost (sen l n 0) n = a4 at *
    generalize sen l n 1 = f1 at *
    generalize sen l n 0 = f2 at *
    generalize fgt l n = f3 at *
    go_enter Try.func6, Try.ntmps6
    go_wp2_with fail
    refine (K0.out _ HA.out).mono ?_
    rintro _ w1 ⟨rfl, hb⟩
    have B1 := Lib.hid hb
    have HA := Lib.hid (HA.out.next hb)
    clear hb
    go_wp2_with fail
    refine (K1.out _ HA.out).mono ?_
    rintro _ w2 ⟨X1_A, X1_c, rfl, hs, X1_h, hn, hb⟩
    have B2 := Lib.hid (B1.out.trans (hb.mono B1.out.size))
    have HA := Lib.hid (HA.out.next hb)
    have X1 := Lib.hid hs
    have X1_n := Lib.hid hn
    clear hs hn
    clear hb
    go_wp2_with fail
    refine (K2.out _ HA.out).mono ?_
    rintro _ w3 ⟨X2_A, X2_c, rfl, hs, X2_h, hn, hb⟩
    have B3 := Lib.hid (B2.out.trans (hb.mono B2.out.size))
    have HA := Lib.hid (HA.out.next hb)
    have X1 := Lib.hid (X1.out.next hb)
    have X2 := Lib.hid hs
    have X2_n := Lib.hid hn
    clear hs hn
    clear hb
    go_wp2_with fail
    refine (K3n.out _ HA.out).mono ?_
    rintro _ w4 ⟨rfl, hb⟩
    have B4 := Lib.hid (B3.out.trans (hb.mono B3.out.size))
    have HA := Lib.hid (HA.out.next hb)
    have X1 := Lib.hid (X1.out.next hb)
    have X2 := Lib.hid (X2.out.next hb)
    clear hb
    go_wp2_with fail
    refine (C1.out _ _ _ X1.out).mono ?_
    rintro _ w5 ⟨rfl, hb⟩
    have B5 := Lib.hid (B4.out.trans (hb.mono B4.out.size))
    have HA := Lib.hid (HA.out.next hb)
    have X1 := Lib.hid (X1.out.next hb)
    have X2 := Lib.hid (X2.out.next hb)
    clear hb
    go_wp2_with fail
    refine (C2.out _ _ _ X2.out).mono ?_
    rintro _ w6 ⟨rfl, hb⟩
    have B6 := Lib.hid (B5.out.trans (hb.mono B5.out.size))
    have HA := Lib.hid (HA.out.next hb)
    have X1 := Lib.hid (X1.out.next hb)
    have X2 := Lib.hid (X2.out.next hb)
    clear hb
    go_wp2_with fail
    refine (KF.out _ HA.out).mono ?_
    rintro _ w7 ⟨X3_A, X3_c, rfl, hs, X3_h, hn, hb⟩
    have B7 := Lib.hid (B6.out.trans (hb.mono B6.out.size))
    have HA := Lib.hid (HA.out.next hb)
    have X1 := Lib.hid (X1.out.next hb)
    have X2 := Lib.hid (X2.out.next hb)
    have X3 := Lib.hid hs
    have X3_n := Lib.hid hn
    clear hs hn
    clear hb
    go_wp2_with fail
    refine (C3.out _ _ _ X3.out).mono ?_
    rintro _ w8 ⟨rfl, hb⟩
    have B8 := Lib.hid (B7.out.trans (hb.mono B7.out.size))
    have HA := Lib.hid (HA.out.next hb)
    have X1 := Lib.hid (X1.out.next hb)
    have X2 := Lib.hid (X2.out.next hb)
    have X3 := Lib.hid (X3.out.next hb)
    clear hb
    clear X3
    go_wp2_with fail
    refine (G1n.out _ _ _ X1_h X1_n.out X1.out).mono ?_
    rintro _ w9 ⟨rfl, hb⟩
    have B9 := Lib.hid (B8.out.trans (hb.mono B8.out.size))
    have HA := Lib.hid (HA.out.next hb)
    have X1 := Lib.hid (X1.out.next hb)
    have X2 := Lib.hid (X2.out.next hb)
    clear hb
    go_wp2_with fail
    refine (G2n.out _ _ _ X2_h X2_n.out X2.out).mono ?_
    rintro _ w10 ⟨rfl, hb⟩
    have B10 := Lib.hid (B9.out.trans (hb.mono B9.out.size))
    have HA := Lib.hid (HA.out.next hb)
    have X1 := Lib.hid (X1.out.next hb)
    have X2 := Lib.hid (X2.out.next hb)
    clear hb
    go_wp2_with fail
    refine (K3m.out _ HA.out).mono ?_
    rintro _ w11 ⟨rfl, hb⟩
    have B11 := Lib.hid (B10.out.trans (hb.mono B10.out.size))
    have HA := Lib.hid (HA.out.next hb)
    have X1 := Lib.hid (X1.out.next hb)
    have X2 := Lib.hid (X2.out.next hb)
    clear hb
    go_wp2_with fail
    refine (KF.out _ HA.out).mono ?_
    rintro _ w12 ⟨X5_A, X5_c, rfl, hs, X5_h, hn, hb⟩
    have B12 := Lib.hid (B11.out.trans (hb.mono B11.out.size))
    have HA := Lib.hid (HA.out.next hb)
    have X5 := Lib.hid hs
    have X5_n := Lib.hid hn
    clear hs hn
    clear hb
    go_wp2_with fail
    refine (G3n.out _ _ _ X5_h X5_n.out X5.out).mono ?_
    rintro _ w13 ⟨rfl, hb⟩
    have B13 := Lib.hid (B12.out.trans (hb.mono B12.out.size))
    have HA := Lib.hid (HA.out.next hb)
    have X5 := Lib.hid (X5.out.next hb)
    clear hb
    go_wp2_with fail
    refine (awake_any _).mono ?_
    rintro _ w14 ⟨rfl, hb⟩
    have B14 := Lib.hid (B13.out.trans (hb.mono B13.out.size))
    clear hb
    go_wp2_with fail
    go_ret
    exact outB rfl B14.out
  · have t1 : (m == n) = false := by simpa using hnm
    rw [O1.out (fun h => hnm h.symm)] at G1m
    rw [O2.out (fun h => hnm h.symm)] at G2m
    rw [O3.out (fun h => hnm h.symm)] at G3m
    clear O1 O2 O3 hnm
    generalize cost l n = a1 at *
    generalize cost l m = a2 at *
    generalize cost (sen l n 1) n = a3 at *
    generalize cost (sen l n 0) n = a4 at *
    generalize sen l n 1 = f1 at *
    generalize sen l n 0 = f2 at *
    generalize fgt l n = f3 at *
    go_enter Try.func6, Try.ntmps6
    go_wp2_with fail
    refine (K0.out _ HA.out).mono ?_
    rintro _ w1 ⟨rfl, hb⟩
    have B1 := Lib.hid hb
    have HA := Lib.hid (HA.out.next hb)
    clear hb
    go_wp2_with fail
    refine (K1.out _ HA.out).mono ?_
    rintro _ w2 ⟨X1_A, X1_c, rfl, hs, X1_h, hn, hb⟩
    have B2 := Lib.hid (B1.out.trans (hb.mono B1.out.size))
    have HA := Lib.hid (HA.out.next hb)
    have X1 := Lib.hid hs
    have X1_n := Lib.hid hn
    clear hs hn
    clear hb
    go_wp2_with fail
    refine (K2.out _ HA.out).mono ?_
    rintro _ w3 ⟨X2_A, X2_c, rfl, hs, X2_h, hn, hb⟩
    have B3 := Lib.hid (B2.out.trans (hb.mono B2.out.size))
    have HA := Lib.hid (HA.out.next hb)
    have X1 := Lib.hid (X1.out.next hb)
    have X2 := Lib.hid hs
    have X2_n := Lib.hid hn
    clear hs hn
    clear hb
    go_wp2_with fail
    refine (K3n.out _ HA.out).mono ?_
    rintro _ w4 ⟨rfl, hb⟩
    have B4 := Lib.hid (B3.out.trans (hb.mono B3.out.size))
    have HA := Lib.hid (HA.out.next hb)
    have X1 := Lib.hid (X1.out.next hb)
    have X2 := Lib.hid (X2.out.next hb)
    clear hb
    go_wp2_with fail
    refine (C1.out _ _ _ X1.out).mono ?_
    rintro _ w5 ⟨rfl, hb⟩
    have B5 := Lib.hid (B4.out.trans (hb.mono B4.out.size))
    have HA := Lib.hid (HA.out.next hb)
    have X1 := Lib.hid (X1.out.next hb)
    have X2 := Lib.hid (X2.out.next hb)
    clear hb
    go_wp2_with fail
    refine (C2.out _ _ _ X2.out).mono ?_
    rintro _ w6 ⟨rfl, hb⟩
    have B6 := Lib.hid (B5.out.trans (hb.mono B5.out.size))
    have HA := Lib.hid (HA.out.next hb)
    have X1 := Lib.hid (X1.out.next hb)
    have X2 := Lib.hid (X2.out.next hb)
    clear hb
    go_wp2_with fail
    refine (KF.out _ HA.out).mono ?_
    rintro _ w7 ⟨X3_A, X3_c, rfl, hs, X3_h, hn, hb⟩
    have B7 := Lib.hid (B6.out.trans (hb.mono B6.out.size))
    have HA := Lib.hid (HA.out.next hb)
    have X1 := Lib.hid (X1.out.next hb)
    have X2 := Lib.hid (X2.out.next hb)
    have X3 := Lib.hid hs
    have X3_n := Lib.hid hn
    clear hs hn
    clear hb
    go_wp2_with fail
    refine (C3.out _ _ _ X3.out).mono ?_
    rintro _ w8 ⟨rfl, hb⟩
    have B8 := Lib.hid (B7.out.trans (hb.mono B7.out.size))
    have HA := Lib.hid (HA.out.next hb)
    have X1 := Lib.hid (X1.out.next hb)
    have X2 := Lib.hid (X2.out.next hb)
    have X3 := Lib.hid (X3.out.next hb)
    clear hb
    clear X3
    go_wp2_with fail
    refine (G1n.out _ _ _ X1_h X1_n.out X1.out).mono ?_
    rintro _ w9 ⟨rfl, hb⟩
    have B9 := Lib.hid (B8.out.trans (hb.mono B8.out.size))
    have HA := Lib.hid (HA.out.next hb)
    have X1 := Lib.hid (X1.out.next hb)
    have X2 := Lib.hid (X2.out.next hb)
    clear hb
    go_wp2_with fail
    refine (G2n.out _ _ _ X2_h X2_n.out X2.out).mono ?_
    rintro _ w10 ⟨rfl, hb⟩
    have B10 := Lib.hid (B9.out.trans (hb.mono B9.out.size))
    have HA := Lib.hid (HA.out.next hb)
    have X1 := Lib.hid (X1.out.next hb)
    have X2 := Lib.hid (X2.out.next hb)
    clear hb
    go_wp2_with fail
    refine (K3m.out _ HA.out).mono ?_
    rintro _ w11 ⟨rfl, hb⟩
    have B11 := Lib.hid (B10.out.trans (hb.mono B10.out.size))
    have HA := Lib.hid (HA.out.next hb)
    have X1 := Lib.hid (X1.out.next hb)
    have X2 := Lib.hid (X2.out.next hb)
    clear hb
    go_wp2_with fail
    refine (G1m.out _ _ _ X1_h X1_n.out X1.out).mono ?_
    rintro _ w12 ⟨rfl, hb⟩
    have B12 := Lib.hid (B11.out.trans (hb.mono B11.out.size))
    have HA := Lib.hid (HA.out.next hb)
    have X1 := Lib.hid (X1.out.next hb)
    have X2 := Lib.hid (X2.out.next hb)
    clear hb
    go_wp2_with fail
    refine (G2m.out _ _ _ X2_h X2_n.out X2.out).mono ?_
    rintro _ w13 ⟨rfl, hb⟩
    have B13 := Lib.hid (B12.out.trans (hb.mono B12.out.size))
    have HA := Lib.hid (HA.out.next hb)
    have X1 := Lib.hid (X1.out.next hb)
    have X2 := Lib.hid (X2.out.next hb)
    clear hb
    go_wp2_with fail
    refine (KF.out _ HA.out).mono ?_
    rintro _ w14 ⟨X4_A, X4_c, rfl, hs, X4_h, hn, hb⟩
    have B14 := Lib.hid (B13.out.trans (hb.mono B13.out.size))
    have HA := Lib.hid (HA.out.next hb)
    have X1 := Lib.hid (X1.out.next hb)
    have X2 := Lib.hid (X2.out.next hb)
    have X4 := Lib.hid hs
    have X4_n := Lib.hid hn
    clear hs hn
    clear hb
    go_wp2_with fail
    refine (G3m.out _ _ _ X4_h X4_n.out X4.out).mono ?_
    rintro _ w15 ⟨rfl, hb⟩
    have B15 := Lib.hid (B14.out.trans (hb.mono B14.out.size))
    have HA := Lib.hid (HA.out.next hb)
    have X1 := Lib.hid (X1.out.next hb)
    have X2 := Lib.hid (X2.out.next hb)
    have X4 := Lib.hid (X4.out.next hb)
    clear hb
    clear X4
    go_wp2_with fail
    refine (KF.out _ HA.out).mono ?_
    rintro _ w16 ⟨X5_A, X5_c, rfl, hs, X5_h, hn, hb⟩
    have B16 := Lib.hid (B15.out.trans (hb.mono B15.out.size))
    have HA := Lib.hid (HA.out.next hb)
    have X5 := Lib.hid hs
    have X5_n := Lib.hid hn
    clear hs hn
    clear hb
    go_wp2_with fail
    refine (G3n.out _ _ _ X5_h X5_n.out X5.out).mono ?_
    rintro _ w17 ⟨rfl, hb⟩
    have B17 := Lib.hid (B16.out.trans (hb.mono B16.out.size))
    have HA := Lib.hid (HA.out.next hb)
    have X5 := Lib.hid (X5.out.next hb)
    clear hb
    go_wp2_with fail
    refine (awake_any _).mono ?_
    rintro _ w18 ⟨rfl, hb⟩
    have B18 := Lib.hid (B17.out.trans (hb.mono B17.out.size))
    clear hb
    go_wp2_with fail
    go_ret
    exact outB rfl B18.out
end Go.Proofs.Ythfkmmgckiijcaa.Lnk
