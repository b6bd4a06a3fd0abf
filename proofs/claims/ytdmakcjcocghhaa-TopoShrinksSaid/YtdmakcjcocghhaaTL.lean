/- TopoShrinks walked. -/
import Derived.Test.YtdmakcjcocghhaaTJ
set_option linter.unusedVariables false
namespace Go.Proofs.Ytdmakcjcocghhaa.Tpo
open Go.RowKit

set_option maxRecDepth 100000 in
set_option maxHeartbeats 4000000 in
theorem law_shrinks (w : World) (A : Option Addr) (c : Nat) (l : List Ed) (A2 : Option Addr) (c2 : Nat) (off : List Int) (a b : Int) (ib : I64 b) (hl : l.length ≤ 9223372036854775807) (hA : EdAt w w.heap.size A l) (hl2 : off.length ≤ 9223372036854775807) (hA2 : FlAt fI w w.heap.size A2 off) :
    Calls Try.prog 9 #[.slice A l.length c, .slice A2 off.length c2, .int .i64 a, .int .i64 b] w (OutB w true) := by
  have HB := Lib.hid hA2
  clear hA2
  have HA := Lib.hid hA
  clear hA
  by_cases h60 : 60 < l.length
  · have d : decide ((60 : Int) < (l.length : Int)) = true := dt (by omega)
    go_enter Try.func9, Try.ntmps9
    go_wp2_with fail
    refine (awake_any _).mono ?_
    rintro _ w1 ⟨rfl, hb⟩
    have B1 := Lib.hid hb
    clear hb
    go_wp2_with fail
    go_ret
    exact outB rfl B1.out
  have d : decide ((60 : Int) < (l.length : Int)) = false := df (by omega)
  by_cases h20 : 20 < off.length
  · have d2 : decide ((20 : Int) < (off.length : Int)) = true := dt (by omega)
    go_enter Try.func9, Try.ntmps9
    go_wp2_with fail
    refine (awake_any _).mono ?_
    rintro _ w1 ⟨rfl, hb⟩
    have B1 := Lib.hid hb
    clear hb
    go_wp2_with fail
    go_ret
    exact outB rfl B1.out
  have d2 : decide ((20 : Int) < (off.length : Int)) = false := df (by omega)
  have ll := wout_len l off
  have K1 := Lib.hid (fun w hA hB => pwout_any A c l A2 c2 off w (by omega) hA hl2 hB)
  have K2 := Lib.hid (fun w hA => phops_any A c l a b w (by omega) ib hA)
  have K3 := Lib.hid (fun A1 c1 w hA => phops_any A1 c1 (wout l off) a b w (by omega) ib hA)
  have K4 := Lib.hid (fun A1 c1 n w hA => preach_any A1 c1 (wout l off) n w (by omega) hA)
  have KD := Lib.hid (wout_dist l off a b)
  have RA := Lib.hid (fun (n : Int) (h : n ∈ off) (hn : Nd n) => reach_alone (l := l) h hn)
  have d3 : decide (l.length < (wout l off).length) = false := df (by omega)
  have hr : (wout l off).length ≤ 1000 := by omega
  clear ll
  have key : Hid (dist (wout l off) a b = -1 ∨ ((dist (wout l off) a b != -1) = true ∧ decide (dist l a b < 0) = false ∧ decide (dist (wout l off) a b < dist l a b) = false)) := Lib.hid (by
    rcases KD.out with h | ⟨h1, h2⟩
    · exact Or.inl h
    · exact Or.inr ⟨by simp; omega, df (by omega), df (by omega)⟩)
  clear KD
  generalize wout l off = R at *
  generalize dist l a b = x at *
  generalize dist R a b = y at *
  rcases key.out with hy | ⟨e1, e2, e3⟩
  · skip
    clear key
    subst hy
    go_enter Try.func9, Try.ntmps9
    go_wp2_with fail
    refine (K1.out _ HA.out HB.out).mono ?_
    rintro _ w1 ⟨v, rfl, ho, hb⟩
    obtain ⟨X1_A, X1_c, rfl, hs, X1_h, X1_n⟩ := ho.read
    have B1 := Lib.hid hb
    have HA := Lib.hid (HA.out.next hb)
    have HB := Lib.hid (HB.out.next hb)
    have X1 := Lib.hid hs
    clear hs ho X1_n
    clear hb
    go_wp2_with fail
    refine (K2.out _ HA.out).mono ?_
    rintro _ w2 ⟨rfl, hb⟩
    have B2 := Lib.hid (B1.out.trans (hb.mono B1.out.size))
    have HA := Lib.hid (HA.out.next hb)
    have HB := Lib.hid (HB.out.next hb)
    have X1 := Lib.hid (X1.out.next hb)
    clear hb
    go_wp2_with fail
    refine (K3.out _ _ _ X1.out).mono ?_
    rintro _ w3 ⟨rfl, hb⟩
    have B3 := Lib.hid (B2.out.trans (hb.mono B2.out.size))
    have HA := Lib.hid (HA.out.next hb)
    have HB := Lib.hid (HB.out.next hb)
    have X1 := Lib.hid (X1.out.next hb)
    clear hb
    have HX := Lib.hid X1.out
    have HO := Lib.hid HB.out
    clear HA HB X1
    go_wp2_with fail
    go_loopw [52] (fun vi wr => ∃ k : Nat, vi = .int .i64 k ∧ k ≤ off.length ∧ Below w3.heap.size w3 wr) (fun vi _ => off.length - (intOf vi).toNat)
    case atStart => exact ⟨0, rfl, Nat.zero_le _, Below.refl _ _⟩
    case round =>
      obtain ⟨k, rfl, hk, hb⟩ := hrel
      have B := Lib.hid (B3.out.trans (hb.mono B3.out.size))
      have HW := Lib.hid hb
      have HR := Lib.hid (HX.out.next hb)
      have HF := Lib.hid (HO.out.next hb)
      clear hb
      by_cases hlt : k < off.length
      · obtain ⟨bb, p, rfl, _, g0, hi⟩ := fI_cell HF.out k hlt
        have RAk := Lib.hid (RA.out off[k] (List.getElem_mem hlt))
        have I := Lib.hid hi
        clear HF RA hi
        generalize off[k] = n at *
        have KN := Lib.hid (fun w => rnode_any n w)
        by_cases hn : Nd n
        · have e := RAk.out hn
          rw [dt hn] at KN
          have C4 := Lib.hid (fun w hA => (by have := K4.out X1_A X1_c n w hA; rw [e] at this; exact this : Calls Try.prog 17 #[.slice X1_A R.length X1_c, .int .i64 n] w (OutN w [n])))
          have S := Lib.hid (fun A c w (h : FlAt fI w w.heap.size A [n]) => (show Calls Try.prog 14 #[.slice A 1 c, .slice (some ⟨w.heap.size, 0, none⟩) 1 1] (w.alloc (.cells #[.int .i64 n] 3)) (OutB (w.alloc (.cells #[.int .i64 n] 3)) true) from
            rsamen_any A (some ⟨w.heap.size, 0, none⟩) c 1 [n] (w.alloc (.cells #[.int .i64 n] 3)) (by simp) (h.next (alloc_below _ _)) (FlAt.lit (F := fI) w [n] #[.int .i64 n] 3 (by unfold maxLen; simp) rfl fun x hx => by rw [List.mem_singleton.1 hx]; exact I.out)))
          clear hn e RAk K4 I
          go_wp2_with fail
          refine (KN.out _).mono ?_
          rintro _ _ ⟨rfl, rfl⟩
          go_wp2_with fail
          refine (C4.out _ HR.out).mono ?_
          rintro _ w4 ⟨v, rfl, ho, hb⟩
          obtain ⟨Y_A, Y_c, rfl, hs, _, _⟩ := ho.read
          rw [show [n].length = 1 from rfl]
          have B4 := Lib.hid (hb.mono (Nat.le_refl _))
          have Y := Lib.hid hs
          clear hb hs ho
          go_wp2_with fail
          refine (S.out _ Y_c _ Y.out).mono ?_
          rintro _ w5 ⟨rfl, hb⟩
          have B5 := Lib.hid (Below.trans ((Below.refl _ _).alloc (Nat.le_refl _) _) (hb.mono (by simp)))
          clear hb
          go_wp2_with fail
          go_roundw
          case rel => exact ⟨k + 1, by go_num, hlt, by
            have h1 : Below w3.heap.size w3 wr := HW.out
            have h2 := h1.trans (B4.out.mono h1.size)
            exact h2.trans (B5.out.mono h2.size)⟩
          case measure => simp [intOf]; omega
        · rw [df hn] at KN
          clear hn RAk K4 I
          go_wp2_with fail
          refine (KN.out _).mono ?_
          rintro _ _ ⟨rfl, rfl⟩
          go_wp2_with fail
          go_roundw
          case rel => exact ⟨k + 1, by go_num, hlt, HW.out⟩
          case measure => simp [intOf]; omega
      · clear HR HF RA K1 K2 K3 K4
        go_wp2_with fail
        refine (awake_any _).mono ?_
        rintro _ w4 ⟨rfl, hb⟩
        have B4 := Lib.hid (B.out.trans (hb.mono B.out.size))
        clear hb
        go_wp2_with fail
        go_ret
        exact outB rfl B4.out
  · skip
    clear key
    go_enter Try.func9, Try.ntmps9
    go_wp2_with fail
    refine (K1.out _ HA.out HB.out).mono ?_
    rintro _ w1 ⟨v, rfl, ho, hb⟩
    obtain ⟨X1_A, X1_c, rfl, hs, X1_h, X1_n⟩ := ho.read
    have B1 := Lib.hid hb
    have HA := Lib.hid (HA.out.next hb)
    have HB := Lib.hid (HB.out.next hb)
    have X1 := Lib.hid hs
    clear hs ho X1_n
    clear hb
    go_wp2_with fail
    refine (K2.out _ HA.out).mono ?_
    rintro _ w2 ⟨rfl, hb⟩
    have B2 := Lib.hid (B1.out.trans (hb.mono B1.out.size))
    have HA := Lib.hid (HA.out.next hb)
    have HB := Lib.hid (HB.out.next hb)
    have X1 := Lib.hid (X1.out.next hb)
    clear hb
    go_wp2_with fail
    refine (K3.out _ _ _ X1.out).mono ?_
    rintro _ w3 ⟨rfl, hb⟩
    have B3 := Lib.hid (B2.out.trans (hb.mono B2.out.size))
    have HA := Lib.hid (HA.out.next hb)
    have HB := Lib.hid (HB.out.next hb)
    have X1 := Lib.hid (X1.out.next hb)
    clear hb
    have HX := Lib.hid X1.out
    have HO := Lib.hid HB.out
    clear HA HB X1
    go_wp2_with fail
    go_loopw [52] (fun vi wr => ∃ k : Nat, vi = .int .i64 k ∧ k ≤ off.length ∧ Below w3.heap.size w3 wr) (fun vi _ => off.length - (intOf vi).toNat)
    case atStart => exact ⟨0, rfl, Nat.zero_le _, Below.refl _ _⟩
    case round =>
      obtain ⟨k, rfl, hk, hb⟩ := hrel
      have B := Lib.hid (B3.out.trans (hb.mono B3.out.size))
      have HW := Lib.hid hb
      have HR := Lib.hid (HX.out.next hb)
      have HF := Lib.hid (HO.out.next hb)
      clear hb
      by_cases hlt : k < off.length
      · obtain ⟨bb, p, rfl, _, g0, hi⟩ := fI_cell HF.out k hlt
        have RAk := Lib.hid (RA.out off[k] (List.getElem_mem hlt))
        have I := Lib.hid hi
        clear HF RA hi
        generalize off[k] = n at *
        have KN := Lib.hid (fun w => rnode_any n w)
        by_cases hn : Nd n
        · have e := RAk.out hn
          rw [dt hn] at KN
          have C4 := Lib.hid (fun w hA => (by have := K4.out X1_A X1_c n w hA; rw [e] at this; exact this : Calls Try.prog 17 #[.slice X1_A R.length X1_c, .int .i64 n] w (OutN w [n])))
          have S := Lib.hid (fun A c w (h : FlAt fI w w.heap.size A [n]) => (show Calls Try.prog 14 #[.slice A 1 c, .slice (some ⟨w.heap.size, 0, none⟩) 1 1] (w.alloc (.cells #[.int .i64 n] 3)) (OutB (w.alloc (.cells #[.int .i64 n] 3)) true) from
            rsamen_any A (some ⟨w.heap.size, 0, none⟩) c 1 [n] (w.alloc (.cells #[.int .i64 n] 3)) (by simp) (h.next (alloc_below _ _)) (FlAt.lit (F := fI) w [n] #[.int .i64 n] 3 (by unfold maxLen; simp) rfl fun x hx => by rw [List.mem_singleton.1 hx]; exact I.out)))
          clear hn e RAk K4 I
          go_wp2_with fail
          refine (KN.out _).mono ?_
          rintro _ _ ⟨rfl, rfl⟩
          go_wp2_with fail
          refine (C4.out _ HR.out).mono ?_
          rintro _ w4 ⟨v, rfl, ho, hb⟩
          obtain ⟨Y_A, Y_c, rfl, hs, _, _⟩ := ho.read
          rw [show [n].length = 1 from rfl]
          have B4 := Lib.hid (hb.mono (Nat.le_refl _))
          have Y := Lib.hid hs
          clear hb hs ho
          go_wp2_with fail
          refine (S.out _ Y_c _ Y.out).mono ?_
          rintro _ w5 ⟨rfl, hb⟩
          have B5 := Lib.hid (Below.trans ((Below.refl _ _).alloc (Nat.le_refl _) _) (hb.mono (by simp)))
          clear hb
          go_wp2_with fail
          go_roundw
          case rel => exact ⟨k + 1, by go_num, hlt, by
            have h1 : Below w3.heap.size w3 wr := HW.out
            have h2 := h1.trans (B4.out.mono h1.size)
            exact h2.trans (B5.out.mono h2.size)⟩
          case measure => simp [intOf]; omega
        · rw [df hn] at KN
          clear hn RAk K4 I
          go_wp2_with fail
          refine (KN.out _).mono ?_
          rintro _ _ ⟨rfl, rfl⟩
          go_wp2_with fail
          go_roundw
          case rel => exact ⟨k + 1, by go_num, hlt, HW.out⟩
          case measure => simp [intOf]; omega
      · clear HR HF RA K1 K2 K3 K4
        go_wp2_with fail
        refine (awake_any _).mono ?_
        rintro _ w4 ⟨rfl, hb⟩
        have B4 := Lib.hid (B.out.trans (hb.mono B.out.size))
        clear hb
        go_wp2_with fail
        go_ret
        exact outB rfl B4.out
end Go.Proofs.Ytdmakcjcocghhaa.Tpo
