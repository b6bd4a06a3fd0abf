/- TopoParents walked. -/
import Derived.Test.YtdmakcjcocghhaaTJ
set_option linter.unusedVariables false
namespace Go.Proofs.Ytdmakcjcocghhaa.Tpo
open Go.RowKit

set_option maxRecDepth 100000 in
set_option maxHeartbeats 4000000 in
theorem law_parents (w : World) (A : Option Addr) (c : Nat) (l : List Ed) (r n : Int) (inn : I64 n) (hl : l.length ≤ 9223372036854775807) (hA : EdAt w w.heap.size A l) :
    Calls Try.prog 8 #[.slice A l.length c, .int .i64 r, .int .i64 n] w (OutB w true) := by
  have HA := Lib.hid hA
  have HB := Lib.hid hA
  clear hA
  by_cases h60 : 60 < l.length
  · have d : decide ((60 : Int) < (l.length : Int)) = true := dt (by omega)
    go_enter Try.func8, Try.ntmps8
    go_wp2_with fail
    refine (awake_any _).mono ?_
    rintro _ w1 ⟨rfl, hb⟩
    have B1 := Lib.hid hb
    clear hb
    go_wp2_with fail
    go_ret
    exact outB rfl B1.out
  have d : decide ((60 : Int) < (l.length : Int)) = false := df (by omega)
  have K1 := Lib.hid (fun n w hA => pparent_any A c l r n w (by omega) hA)
  have K2 := Lib.hid (fun n w hA => pnear_any A c l n w (by omega) hA)
  have K3 := Lib.hid (fun b w ib hA => phops_any A c l r b w (by omega) ib hA)
  have K4 := Lib.hid (fun n p A1 c1 w h1 => ramong_any A1 c1 (near l n) p w (by have := near_len l n; omega) h1)
  by_cases hk : 0 ≤ dist l r n
  rotate_left
  · have e1 : dist l r n = -1 := by have := dist_neg l r n; omega
    have H1 := Lib.hid (fun w hA => (by have := K3.out n w inn hA; rw [e1] at this; exact this : Calls Try.prog 19 #[.slice A l.length c, .int .i64 r, .int .i64 n] w (OutI w (-1))))
    have H2 := Lib.hid (fun w hA => (by have := K1.out n w hA; rw [parent_none (by omega)] at this; exact this : Calls Try.prog 25 #[.slice A l.length c, .int .i64 r, .int .i64 n] w (OutI w (-1))))
    clear K1 K2 K3 K4 e1 hk
    go_enter Try.func8, Try.ntmps8
    go_wp2_with fail
    refine (H1.out _ HA.out).mono ?_
    rintro _ w1 ⟨rfl, hb⟩
    have B1 := Lib.hid hb
    have HA := Lib.hid (HA.out.next hb)
    clear hb
    go_wp2_with fail
    refine (H2.out _ HA.out).mono ?_
    rintro _ w2 ⟨rfl, hb⟩
    have B2 := Lib.hid (B1.out.trans (hb.mono B1.out.size))
    have HA := Lib.hid (HA.out.next hb)
    clear hb
    go_wp2_with fail
    refine (awake_any _).mono ?_
    rintro _ w3 ⟨rfl, hb⟩
    have B3 := Lib.hid (B2.out.trans (hb.mono B2.out.size))
    clear hb
    go_wp2_with fail
    go_ret
    exact outB rfl B3.out
  obtain ⟨k0, hk0⟩ : ∃ k : Nat, dist l r n = k := ⟨(dist l r n).toNat, by omega⟩
  have b0 : k0 ≤ 250 := by have := dist_max l r n; omega
  have H1 := Lib.hid (fun w hA => (by have := K3.out n w inn hA; rw [hk0] at this; exact this : Calls Try.prog 19 #[.slice A l.length c, .int .i64 r, .int .i64 n] w (OutI w k0)))
  have d1 : decide ((k0 : Int) < 0) = false := df (by omega)
  have d2 : decide ((250 : Int) < (k0 : Int)) = false := df (by omega)
  have NR := Lib.hid (dist_node hk).1
  have HD := Lib.hid hk0
  clear hk hk0
  go_enter Try.func8, Try.ntmps8
  go_wp2_with fail
  refine (H1.out _ HA.out).mono ?_
  rintro _ w1 ⟨rfl, hb⟩
  have B1 := Lib.hid hb
  have HA := Lib.hid (HA.out.next hb)
  clear hb
  clear H1
  clear d1 d2
  go_wp2_with fail
  go_loopw [2, 7] (fun vn vk wr => ∃ (k : Nat) (m : Int), vn = .int .i64 m ∧ vk = .int .i64 k ∧ k ≤ 250 ∧ Hid (dist l r m = k) ∧ Below w.heap.size w wr) (fun _ vk _ => (intOf vk).toNat)
  case atStart => exact ⟨k0, n, rfl, rfl, b0, HD, B1.out⟩
  case round =>
    clear HA B1
    obtain ⟨k, m, rfl, rfl, hk, HM, hb⟩ := hrel
    have B0 := Lib.hid hb
    have HA := Lib.hid (HB.out.next hb)
    clear hb
    by_cases h0 : 0 < k
    · have P := Lib.hid (parent_par (l := l) (r := r) (n := m) (by rw [HM.out]; omega))
      have C1 := Lib.hid (K1.out m)
      have C2 := Lib.hid (K2.out m)
      have C3 := Lib.hid (fun w hA => (by have := K3.out (parent l r m) w (nd_i64 P.out.2.1) hA; rw [P.out.1.1, HM.out] at this; exact this : Calls Try.prog 19 #[.slice A l.length c, .int .i64 r, .int .i64 (parent l r m)] w (OutI w ((k : Int) - 1))))
      have C4 := Lib.hid (fun A1 c1 w h1 => (by have := K4.out m (parent l r m) A1 c1 w h1; rw [dt ((mem_near _ _ _).2 P.out.1.2)] at this; exact this : Calls Try.prog 30 #[.slice A1 (near l m).length c1, .int .i64 (parent l r m)] w fun e w' => e = .returned (.bool true) ∧ w = w'))
      have N := Lib.hid (show dist l r (parent l r m) = ((k - 1 : Nat) : Int) from by rw [P.out.1.1, HM.out]; omega)
      have d0 : decide ((0 : Int) < (k : Int)) = true := dt (by omega)
      have d1 : decide (parent l r m < 0) = false := df (by have := P.out.2.1.1; omega)
      have z1 : IntKind.i64.wrap ((k : Int) - 1) = (k : Int) - 1 := by rw [IntKind.wrap_i64]; omega
      have z2 : (k : Int) - 1 = ((k - 1 : Nat) : Int) := by omega
      rw [z2] at C3
      clear P K1 K2 K3 K4 HM
      generalize parent l r m = p at *
      generalize near l m = F at *
      go_wp2_with fail
      refine (C1.out _ HA.out).mono ?_
      rintro _ w1 ⟨rfl, hb⟩
      have B1 := Lib.hid (B0.out.trans (hb.mono B0.out.size))
      have HA := Lib.hid (HA.out.next hb)
      clear hb
      go_wp2_with fail
      refine (C2.out _ HA.out).mono ?_
      rintro _ w2 ⟨v, rfl, ho, hb⟩
      obtain ⟨X1_A, X1_c, rfl, hs, X1_h, X1_n⟩ := ho.read
      have B2 := Lib.hid (B1.out.trans (hb.mono B1.out.size))
      have HA := Lib.hid (HA.out.next hb)
      have X1 := Lib.hid hs
      clear hs ho X1_n
      clear hb
      go_wp2_with fail
      refine (C4.out _ _ _ X1.out).mono ?_
      rintro _ _ ⟨rfl, rfl⟩
      clear X1
      go_wp2_with fail
      refine (C3.out _ HA.out).mono ?_
      rintro _ w3 ⟨rfl, hb⟩
      have B3 := Lib.hid (B2.out.trans (hb.mono B2.out.size))
      have HA := Lib.hid (HA.out.next hb)
      clear hb
      go_wp2_with fail
      go_roundw
      case rel => exact ⟨k - 1, p, rfl, by rw [← z2], by omega, N, B3.out⟩
      case measure => simp [intOf]; omega
    · obtain rfl : k = 0 := by omega
      obtain rfl : m = r := (dist_zero NR.out m).1 (by rw [HM.out]; rfl)
      have C1 := Lib.hid (fun w hA => (by have := K1.out m w hA; rw [parent_none (by rw [HM.out]; decide)] at this; exact this : Calls Try.prog 25 #[.slice A l.length c, .int .i64 m, .int .i64 m] w (OutI w (-1))))
      clear K1 K2 K3 K4 HM HD
      go_wp2_with fail
      refine (C1.out _ HA.out).mono ?_
      rintro _ w1 ⟨rfl, hb⟩
      have B1 := Lib.hid (B0.out.trans (hb.mono B0.out.size))
      have HA := Lib.hid (HA.out.next hb)
      clear hb
      go_wp2_with fail
      refine (awake_any _).mono ?_
      rintro _ w2 ⟨rfl, hb⟩
      have B2 := Lib.hid (B1.out.trans (hb.mono B1.out.size))
      clear hb
      go_wp2_with fail
      go_ret
      exact outB rfl B2.out
end Go.Proofs.Ytdmakcjcocghhaa.Tpo
