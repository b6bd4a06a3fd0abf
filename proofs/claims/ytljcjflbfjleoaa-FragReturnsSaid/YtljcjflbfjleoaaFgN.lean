/- The law Forms. -/
import Derived.Test.YtljcjflbfjleoaaFgM
set_option linter.unusedVariables false
namespace Go.Proofs.Ytljcjflbfjleoaa.Frg
open Go.RowKit

/-- The first k parts, joined. -/
def jU (s : ByteArray) (k : Nat) : ByteArray := bs (s.data.toList.take (64 * k))
theorem jU_next (s : ByteArray) (id : Int) (k : Nat) : jU s (k + 1) = jU s k ++ dta (piece s id k) := by
  apply of_data
  rw [app_data, piece_dta]
  unfold jU part
  rw [bs_data, bs_data, bs_data, show 64 * (k + 1) = 64 * k + 64 by omega, List.take_add]
theorem jU_end (s : ByteArray) : jU s (cnt s.size) = s := by
  unfold jU
  rw [List.take_of_length_le (by rw [bytes_len]; exact cnt_all _), bs_self]
theorem jU_size (s : ByteArray) (k : Nat) : (jU s k).size ≤ s.size := by unfold jU; rw [bs_size, List.length_take, bytes_len]; omega
set_option maxRecDepth 100000 in
set_option maxHeartbeats 8000000 in
theorem law_forms (w : World) (s : ByteArray) (id : Int) (hs : s.size ≤ 9223372036854775807) : Calls Try.prog 7 #[.string s, .int .i64 id] w (OutB w true) := by
  have KW := Lib.hid (fun w => awake_any w)
  unfold OutB at KW
  have B0 := Lib.hid (Below.refl w.heap.size w)
  by_cases h1 : 1000 < s.size
  · have d0 := dt (show (1000 : Int) < (s.size : Int) by omega)
    go_enter Try.func7, Try.ntmps7
    go_wp2_with fail
    refine (KW.out _).mono ?_
    rintro _ wz ⟨rfl, hb⟩
    have BZ := Lib.hid (B0.out.trans (hb.mono B0.out.size))
    clear hb
    go_wp2_with fail
    go_ret
    exact outB rfl BZ.out
  have d0 := df (show ¬ (1000 : Int) < (s.size : Int) by omega)
  by_cases h2 : id < 0
  · have d1 := dt h2
    go_enter Try.func7, Try.ntmps7
    go_wp2_with fail
    refine (KW.out _).mono ?_
    rintro _ wz ⟨rfl, hb⟩
    have BZ := Lib.hid (B0.out.trans (hb.mono B0.out.size))
    clear hb
    go_wp2_with fail
    go_ret
    exact outB rfl BZ.out
  have d1 := df h2
  by_cases h3 : 255 < id
  · have d2 := dt h3
    go_enter Try.func7, Try.ntmps7
    go_wp2_with fail
    refine (KW.out _).mono ?_
    rintro _ wz ⟨rfl, hb⟩
    have BZ := Lib.hid (B0.out.trans (hb.mono B0.out.size))
    clear hb
    go_wp2_with fail
    go_ret
    exact outB rfl BZ.out
  have d2 := df h3
  have K1 := Lib.hid (show ∀ w, Calls Try.prog 12 #[.string s, .int .i64 id] w (SplitR w (pcs s id, 0)) from fun w => by
    have := psplit_any s id w hs
    rw [show split s id = (pcs s id, 0) by unfold split; rw [if_neg h1, if_neg (by omega)]] at this
    exact this)
  have LP := pcs_len s id
  have PC := Lib.hid (fun (k : Nat) (h : k < (pcs s id).length) => (show (pcs s id)[k] = piece s id k from pcs_at s id k h))
  have CP := cnt_pos s.size
  have CL := cnt_le (show s.size ≤ 1000 by omega)
  have PF := Lib.hid (fun (k : Nat) (h : k < cnt s.size) => (show 3 ≤ (piece s id k).size ∧ (piece s id k).size ≤ 67 ∧ bt (piece s id k) 0 = id ∧ bt (piece s id k) 1 = k ∧ bt (piece s id k) 2 = (cnt s.size : Nat) ∧ chk (piece s id k) = 0 from
    ⟨by rw [piece_size]; omega, by rw [piece_size, part_len]; omega, piece_0 s id k (by omega), piece_1 s id k (by omega), piece_2 s id k (by omega), piece_chk s id k (by omega) h⟩))
  have GJ := Lib.hid (fun k => jU_next s id k)
  have GE := Lib.hid (jU_end s)
  have GS := Lib.hid (fun k => jU_size s k)
  have G0 := Lib.hid (show jU s 0 = ⟨#[]⟩ from rfl)
  unfold SplitR at K1
  simp only at K1
  generalize pcs s id = L at *
  obtain ⟨pk, hpk⟩ : ∃ pk, piece s id = pk := ⟨_, rfl⟩
  simp only [hpk] at PC PF GJ
  clear hpk
  obtain ⟨J, hJ⟩ : ∃ J, jU s = J := ⟨_, rfl⟩
  simp only [hJ] at GJ GE GS G0
  clear hJ
  obtain ⟨n, hn⟩ : ∃ n, cnt s.size = n := ⟨_, rfl⟩
  simp only [hn] at LP CP CL PF GE
  have HL := Lib.hid LP
  have e1 := df (show ¬ (L.length : Int) < 1 by omega)
  have e2 := df (show ¬ (16 : Int) < (L.length : Int) by omega)
  have n1 : L.length ≤ n := by omega
  have n2 : n ≤ L.length := by omega
  have hs2 : s.size ≤ 1000 := by omega
  clear hn LP h1 h2 h3
  go_enter Try.func7, Try.ntmps7
  go_wp2_with fail
  refine (K1.out _).mono ?_
  rintro _ w1 ⟨A1, c1, rfl, h1, hb⟩
  have B1 := Lib.hid hb
  have H1 := Lib.hid h1
  clear hb h1 K1
  go_wp2_with fail
  go_loopw [7, 42] (fun vt vi wr => ∃ k : Nat, vi = .int .i64 k ∧ k ≤ L.length ∧ vt = .string (J k) ∧ Below w1.heap.size w1 wr) (fun _ vi _ => L.length - (intOf vi).toNat)
  case atStart => exact ⟨0, rfl, Nat.zero_le _, by rw [G0.out], Below.refl _ _⟩
  case round =>
    obtain ⟨k, rfl, hk, rfl, hb⟩ := hrel
    have B := Lib.hid hb
    by_cases hlt : k < L.length
    · obtain ⟨b, o, rfl, _, hc, _⟩ := st_cell (H1.out.next hb) k hlt
      have e := PC.out k hlt
      rw [e] at hc
      obtain ⟨f1, f2, f3, f4, f5, f6⟩ := PF.out k (by omega)
      have N := Lib.hid (GJ.out k)
      have S1 := GS.out k
      clear e GJ GE GS G0 PC PF H1 hb
      generalize pk k = x at *
      have p0 : 0 < x.size := by omega
      have p1 : 1 < x.size := by omega
      have p2 : 2 < x.size := by omega
      have i0 : (0 : Int) < (x.size : Int) := by omega
      have i1 : (1 : Int) < (x.size : Int) := by omega
      have i2 : (2 : Int) < (x.size : Int) := by omega
      have i3 : (3 : Int) ≤ (x.size : Int) := by omega
      have l0 := (x[0]'p0).toNat_lt
      have l1 := (x[1]'p1).toNat_lt
      have l2 := (x[2]'p2).toNat_lt
      rw [← bt_at x 0 p0] at f3
      rw [← bt_at x 1 p1] at f4
      rw [← bt_at x 2 p2] at f5
      have g1 := df (show ¬ (x.size : Int) < 3 by omega)
      have g2 := df (show ¬ (67 : Int) < (x.size : Int) by omega)
      have g3 : (((x[0]'p0).toNat : Int) != id) = false := by simp; omega
      have g4 : (((x[1]'p1).toNat : Int) != (k : Int)) = false := by simp; omega
      have g4' : ((x[1]'p1).toNat != k) = false := by simp; omega
      have g5 : (((x[2]'p2).toNat : Int) != (L.length : Int)) = false := by simp; omega
      have g5' : ((x[2]'p2).toNat != L.length) = false := by simp; omega
      have KC := Lib.hid (pcheck_any x wr (by omega))
      rw [f6] at KC
      unfold OutI at KC
      have E3 : x.extract 3 x.size = dta x := ext_drop x 3
      have E4 := dta_size x
      have t2 : ¬ 9223372036854775807 < (J k).size + (dta x).size := by omega
      have t3 : (J k).size + (dta x).size ≤ 9223372036854775807 := by omega
      have t4 : ¬ 9223372036854775807 < (J k).size + (x.size - 3) := by omega
      clear f1 f2 f3 f4 f5 f6 E4 S1
      go_wp2_with fail
      refine KC.out.mono ?_
      rintro _ w3 ⟨rfl, hb⟩
      have B3 := Lib.hid (B.out.trans (hb.mono B.out.size))
      clear hb KC
      go_wp2_with fail
      go_roundw
      case rel => exact ⟨k + 1, by go_num, hlt, by rw [N.out], B3.out⟩
      case measure => simp [intOf]; omega
    · obtain rfl : k = L.length := by omega
      have E := GE.out
      have BE := Lib.hid (B1.out.trans (hb.mono B1.out.size))
      rw [← HL.out] at E
      rw [E]
      have ss : (s.toList == s.toList) = true := by simp
      clear GJ GE GS G0 PC PF H1 hb E
      go_wp2_with fail
      refine (KW.out _).mono ?_
      rintro _ wz ⟨rfl, hb⟩
      have BZ := Lib.hid (BE.out.trans (hb.mono BE.out.size))
      clear hb
      go_wp2_with fail
      go_ret
      exact outB rfl BZ.out
end Go.Proofs.Ytljcjflbfjleoaa.Frg
