/- LinksSixteen walked. -/
import Derived.Test.YthfkmmgckiijcaaLT
set_option linter.unusedVariables false
namespace Go.Proofs.Ythfkmmgckiijcaa.Lnk
open Go.RowKit

set_option maxRecDepth 100000 in
set_option maxHeartbeats 4000000 in
theorem law_sixteen (w : World) (A : Option Addr) (c : Nat) (l : List Lk) (n : Int) (hl : l.length ≤ 9223372036854775807) (hc : l.length ≤ c) (hc0 : A = none → c = 0) (hA : LkAt w w.heap.size A l) :
    Calls Try.prog 7 #[.slice A l.length c, .int .i64 n] w (OutB w true) := by
  have HA := Lib.hid hA
  have HC := Lib.hid hc0
  have K0 := Lib.hid (fun w hA => rcheck_any A c l w hl hA)
  clear hA
  by_cases h300 : chk l ≠ 0
  · have d1 : (chk l != 0) = true := by simpa using h300
    generalize chk l = q at *
    clear h300
    clear hc0 HC
    go_enter Try.func7, Try.ntmps7
    go_wp2_with fail
    refine (K0.out _ HA.out).mono ?_
    rintro _ w1 ⟨rfl, hb⟩
    have B1 := Lib.hid hb
    clear hb
    go_wp2_with fail
    refine (awake_any _).mono ?_
    rintro _ w2 ⟨rfl, hb⟩
    have B2 := Lib.hid (B1.out.trans (hb.mono B1.out.size))
    clear hb
    go_wp2_with fail
    go_ret
    exact outB rfl B2.out
  have h0 : chk l = 0 := by omega
  have HV := Lib.hid ((chk_zero l).1 h0)
  rw [h0] at K0
  clear h300 h0
  by_cases h23 : 23 < l.length
  · have d2 := dt h23
    clear hc0 HC
    go_enter Try.func7, Try.ntmps7
    go_wp2_with fail
    refine (K0.out _ HA.out).mono ?_
    rintro _ w1 ⟨rfl, hb⟩
    have B1 := Lib.hid hb
    clear hb
    go_wp2_with fail
    refine (awake_any _).mono ?_
    rintro _ w2 ⟨rfl, hb⟩
    have B2 := Lib.hid (B1.out.trans (hb.mono B1.out.size))
    clear hb
    go_wp2_with fail
    go_ret
    exact outB rfl B2.out
  have d2 := df h23
  by_cases h1 : n < 0
  · have d3 := dt h1
    clear hc0 HC
    go_enter Try.func7, Try.ntmps7
    go_wp2_with fail
    refine (K0.out _ HA.out).mono ?_
    rintro _ w1 ⟨rfl, hb⟩
    have B1 := Lib.hid hb
    clear hb
    go_wp2_with fail
    refine (awake_any _).mono ?_
    rintro _ w2 ⟨rfl, hb⟩
    have B2 := Lib.hid (B1.out.trans (hb.mono B1.out.size))
    clear hb
    go_wp2_with fail
    go_ret
    exact outB rfl B2.out
  have d3 := df h1
  by_cases h2 : 250 < n
  · have d4 := dt h2
    clear hc0 HC
    go_enter Try.func7, Try.ntmps7
    go_wp2_with fail
    refine (K0.out _ HA.out).mono ?_
    rintro _ w1 ⟨rfl, hb⟩
    have B1 := Lib.hid hb
    clear hb
    go_wp2_with fail
    refine (awake_any _).mono ?_
    rintro _ w2 ⟨rfl, hb⟩
    have B2 := Lib.hid (B1.out.trans (hb.mono B1.out.size))
    clear hb
    go_wp2_with fail
    go_ret
    exact outB rfl B2.out
  have d4 := df h2
  have RM : Hid (Room l n) := Lib.hid ⟨⟨by omega, by omega⟩, Or.inr (by omega)⟩
  have SG := Lib.hid (sixteen_good l HV.out n RM.out)
  have SB := Lib.hid (sixteen_bad l HV.out n RM.out)
  have LN := Lib.hid (fun (t : Int) (ht : t = 0 ∨ t = 1) k => (sens_val l HV.out n t ht k).1)
  have KT := Lib.hid (show ∀ k A1 c1 w, (sens l n 1 k).length ≤ c1 → (A1 = none → c1 = 0) → LkAt w w.heap.size A1 (sens l n 1 k) → Calls Try.prog 13 #[.slice A1 (sens l n 1 k).length c1, .int .i64 n, .bool true] w (OutF fL w (sens l n 1 (k + 1))) from fun k A1 c1 w h1 h2 h3 => lseen_any A1 c1 _ n w (by have := LN.out 1 (Or.inr rfl) k; omega) h1 h2 h3 true)
  have KB := Lib.hid (show ∀ k A1 c1 w, (sens l n 0 k).length ≤ c1 → (A1 = none → c1 = 0) → LkAt w w.heap.size A1 (sens l n 0 k) → Calls Try.prog 13 #[.slice A1 (sens l n 0 k).length c1, .int .i64 n, .bool false] w (OutF fL w (sens l n 0 (k + 1))) from fun k A1 c1 w h1 h2 h3 => lseen_any A1 c1 _ n w (by have := LN.out 0 (Or.inl rfl) k; omega) h1 h2 h3 false)
  have Q1 := Lib.hid (show ∀ A1 c1 w, (sens l n 1 16).length ≤ c1 → (A1 = none → c1 = 0) → LkAt w w.heap.size A1 (sens l n 1 16) → Calls Try.prog 19 #[.slice A1 (sens l n 1 16).length c1, .int .i64 n] w (OutI w 100) from fun A1 c1 w h1 h2 h3 => by
    have := lquality_any A1 c1 _ n w (by have := LN.out 1 (Or.inr rfl) 16; omega) h1 h2 h3; rw [SG.out.1] at this; exact this)
  have Q2 := Lib.hid (show ∀ A1 c1 w, (sens l n 1 16).length ≤ c1 → (A1 = none → c1 = 0) → LkAt w w.heap.size A1 (sens l n 1 16) → Calls Try.prog 17 #[.slice A1 (sens l n 1 16).length c1, .int .i64 n] w (OutI w 10) from fun A1 c1 w h1 h2 h3 => by
    have := lcost_any A1 c1 _ n w (by have := LN.out 1 (Or.inr rfl) 16; omega) h1 h2 h3; rw [SG.out.2] at this; exact this)
  have Q3 := Lib.hid (show ∀ A1 c1 w, (sens l n 0 16).length ≤ c1 → (A1 = none → c1 = 0) → LkAt w w.heap.size A1 (sens l n 0 16) → Calls Try.prog 19 #[.slice A1 (sens l n 0 16).length c1, .int .i64 n] w (OutI w 0) from fun A1 c1 w h1 h2 h3 => by
    have := lquality_any A1 c1 _ n w (by have := LN.out 0 (Or.inl rfl) 16; omega) h1 h2 h3; rw [SB.out.1] at this; exact this)
  have Q4 := Lib.hid (show ∀ A1 c1 w, (sens l n 0 16).length ≤ c1 → (A1 = none → c1 = 0) → LkAt w w.heap.size A1 (sens l n 0 16) → Calls Try.prog 17 #[.slice A1 (sens l n 0 16).length c1, .int .i64 n] w (OutI w 255) from fun A1 c1 w h1 h2 h3 => by
    have := lcost_any A1 c1 _ n w (by have := LN.out 0 (Or.inl rfl) 16; omega) h1 h2 h3; rw [SB.out.2] at this; exact this)
  have Z1 := Lib.hid (show sens l n 1 0 = l from rfl)
  have Z2 := Lib.hid (show sens l n 0 0 = l from rfl)
  clear hc0 SG SB LN RM HV
  generalize sens l n 1 = s1 at *
  generalize sens l n 0 = s2 at *
  go_enter Try.func7, Try.ntmps7
  go_wp2_with fail
  refine (K0.out _ HA.out).mono ?_
  rintro _ w1 ⟨rfl, hb⟩
  have B1 := Lib.hid hb
  have HA := Lib.hid (HA.out.next hb)
  clear hb K0
  go_wp2_with fail
  go_loopw [5, 6, 7] (fun g b i wr => ∃ (k : Nat) (A1 A2 : Option Addr) (c1 c2 : Nat), i = .int .i64 k ∧ k ≤ 16 ∧ g = .slice A1 (s1 k).length c1 ∧ b = .slice A2 (s2 k).length c2 ∧ (s1 k).length ≤ c1 ∧ (s2 k).length ≤ c2 ∧ Hid ((A1 = none → c1 = 0) ∧ (A2 = none → c2 = 0)) ∧ LkAt wr wr.heap.size A1 (s1 k) ∧ LkAt wr wr.heap.size A2 (s2 k) ∧ Below w.heap.size w wr) (fun _ _ i _ => 16 - (intOf i).toNat)
  case atStart => exact ⟨0, A, A, c, c, rfl, by omega, by rw [Z1.out], by rw [Z2.out], by rw [Z1.out]; exact hc, by rw [Z2.out]; exact hc, Lib.hid ⟨HC.out, HC.out⟩, by rw [Z1.out]; exact HA.out, by rw [Z2.out]; exact HA.out, B1.out⟩
  case round =>
    obtain ⟨k, A1, A2, c1, c2, rfl, hk, rfl, rfl, hc1, hc2, HN, h1, h2, hb⟩ := hrel
    have X1 := Lib.hid h1
    have X2 := Lib.hid h2
    have B := Lib.hid hb
    clear h1 h2 hb
    by_cases hlt : k < 16
    · have HN1 := Lib.hid HN.out.1
      have HN2 := Lib.hid HN.out.2
      go_wp2_with fail
      refine (KT.out k _ _ _ hc1 HN1.out X1.out).mono ?_
      rintro _ w1 ⟨Y1_A, Y1_c, rfl, hs, Y1_h, hn, hb⟩
      have B1 := Lib.hid (B.out.trans (hb.mono B.out.size))
      have X1 := Lib.hid (X1.out.next hb)
      have X2 := Lib.hid (X2.out.next hb)
      have Y1 := Lib.hid hs
      have Y1_n := Lib.hid hn
      clear hs hn
      clear hb
      go_wp2_with fail
      refine (KB.out k _ _ _ hc2 HN2.out X2.out).mono ?_
      rintro _ w2 ⟨Y2_A, Y2_c, rfl, hs, Y2_h, hn, hb⟩
      have B2 := Lib.hid (B1.out.trans (hb.mono B1.out.size))
      have X1 := Lib.hid (X1.out.next hb)
      have X2 := Lib.hid (X2.out.next hb)
      have Y1 := Lib.hid (Y1.out.next hb)
      have Y2 := Lib.hid hs
      have Y2_n := Lib.hid hn
      clear hs hn
      clear hb
      go_wp2_with fail
      go_roundw
      case rel => exact ⟨k + 1, Y1_A, Y2_A, Y1_c, Y2_c, by go_num, hlt, rfl, rfl, Y1_h, Y2_h, Lib.hid ⟨Y1_n.out, Y2_n.out⟩, Y1.out, Y2.out, B2.out⟩
      case measure => simp [intOf]; omega
    · obtain rfl : k = 16 := by omega
      have HN1 := Lib.hid HN.out.1
      have HN2 := Lib.hid HN.out.2
      go_wp2_with fail
      refine (Q1.out _ _ _ hc1 HN1.out X1.out).mono ?_
      rintro _ w1 ⟨rfl, hb⟩
      have B1 := Lib.hid (B.out.trans (hb.mono B.out.size))
      have X1 := Lib.hid (X1.out.next hb)
      have X2 := Lib.hid (X2.out.next hb)
      clear hb
      go_wp2_with fail
      refine (Q2.out _ _ _ hc1 HN1.out X1.out).mono ?_
      rintro _ w2 ⟨rfl, hb⟩
      have B2 := Lib.hid (B1.out.trans (hb.mono B1.out.size))
      have X1 := Lib.hid (X1.out.next hb)
      have X2 := Lib.hid (X2.out.next hb)
      clear hb
      go_wp2_with fail
      refine (Q3.out _ _ _ hc2 HN2.out X2.out).mono ?_
      rintro _ w3 ⟨rfl, hb⟩
      have B3 := Lib.hid (B2.out.trans (hb.mono B2.out.size))
      have X1 := Lib.hid (X1.out.next hb)
      have X2 := Lib.hid (X2.out.next hb)
      clear hb
      go_wp2_with fail
      refine (Q4.out _ _ _ hc2 HN2.out X2.out).mono ?_
      rintro _ w4 ⟨rfl, hb⟩
      have B4 := Lib.hid (B3.out.trans (hb.mono B3.out.size))
      have X1 := Lib.hid (X1.out.next hb)
      have X2 := Lib.hid (X2.out.next hb)
      clear hb
      go_wp2_with fail
      refine (awake_any _).mono ?_
      rintro _ w5 ⟨rfl, hb⟩
      have B5 := Lib.hid (B4.out.trans (hb.mono B4.out.size))
      clear hb
      go_wp2_with fail
      go_ret
      exact outB rfl B5.out
end Go.Proofs.Ythfkmmgckiijcaa.Lnk
