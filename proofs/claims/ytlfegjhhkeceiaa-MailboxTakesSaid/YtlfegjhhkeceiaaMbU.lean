/- The law Urgent. -/
import Derived.Test.YtlfegjhhkeceiaaMbT
set_option linter.unusedVariables false
namespace Go.Proofs.Ytlfegjhhkeceiaa.Mbx
open Go.RowKit

theorem cu_next (l : List Ml) (k : Nat) (h : k < l.length) : cu (l.take (k + 1)) = cu (l.take k) + (if l[k].1.u = true then 1 else 0) := by
  rw [take_one l k h]
  unfold cu
  rw [List.filter_append, List.length_append]
  congr 1
  by_cases e : l[k].1.u = true
  · simp [e]
  · simp [e]
theorem cu_take (l : List Ml) (k : Nat) : cu (l.take k) ≤ k := Nat.le_trans (cu_le _) (by rw [List.length_take]; omega)
set_option maxRecDepth 100000 in
set_option maxHeartbeats 4000000 in
theorem law_urgent (w : World) (A : Option Addr) (c : Nat) (l : List Ml) (f : Fm) (now : Int) (hl : l.length ≤ 9223372036854775807) (hA : MlS w A c l) (hf : FOk f) :
    Calls Try.prog 6 #[.slice A l.length c, fmV f, .int .i64 now] w (OutB w true) := by
  have HA := Lib.hid hA
  have HF := Lib.hid (show FOk { f with u := true } from hf)
  have KL := Lib.hid (fun w => lives_any w)
  unfold OutB at KL
  clear hA hf
  by_cases h16 : 16 < l.length
  · have d0 : decide ((16 : Int) < (l.length : Int)) = true := dt (by omega)
    obtain ⟨y0, y1, y2, y3, y4, y5, y6, y7, y8⟩ := f
    go_enter Try.func6, Try.ntmps6
    go_wp2_with fail
    refine (KL.out _).mono ?_
    rintro _ w1 ⟨rfl, hb⟩
    have B1 := Lib.hid (box_below hb)
    clear hb
    go_wp2_with fail
    go_ret
    exact outB rfl B1.out
  have d0 : decide ((16 : Int) < (l.length : Int)) = false := df (by omega)
  have KP := Lib.hid (fun w hA => pput_any A c l { f with u := true } now w (by omega) HF.out hA)
  have PU := put_urgent l { f with u := true } now (by omega) rfl
  have PL := put_len l { f with u := true } now
  have KS := Lib.hid (fun (P : List Ml) (h : P.length ≤ 16) A1 A2 c1 c2 w h1 h2 => rsame_R A1 A2 c1 c2 P w (by omega) h1 h2)
  have LL : l.length ≤ 16 := by omega
  clear hl h16
  generalize put l { f with u := true } now = R at *
  obtain ⟨P, b⟩ := R
  unfold PutR at KP
  unfold OutB at KS
  simp only at KP PL PU
  obtain ⟨y0, y1, y2, y3, y4, y5, y6, y7, y8⟩ := f
  simp only at KP HF
  go_enter Try.func6, Try.ntmps6
  go_wp2_with fail
  have B0 : Below w.heap.size w (w.alloc (bxF ⟨y0, y1, y2, y3, y4, y5, y6, true, y8⟩)) := alloc_below w _
  refine (KP.out _ (HA.out.next B0)).mono ?_
  rintro _ w1 ⟨A1, c1, rfl, h1, hb⟩
  have B1 := Lib.hid (B0.trans (hb.mono B0.size))
  have H1 := Lib.hid h1
  have M1 := Lib.hid (HA.out.next B1.out)
  clear hb h1 KP B0 HA HF
  obtain ⟨G, hG⟩ : ∃ G : Nat → Nat, ∀ k, cu (l.take k) = G k := ⟨fun k => cu (l.take k), fun _ => rfl⟩
  have GN := Lib.hid (fun (k : Nat) (h : k < l.length) => (hG (k + 1)) ▸ (hG k) ▸ cu_next l k h)
  have GL := Lib.hid (fun k : Nat => (hG k) ▸ cu_take l k)
  have G0 := Lib.hid (show G 0 = 0 by rw [← hG]; rfl)
  have GE := Lib.hid (show G l.length = cu l by rw [← hG, List.take_length])
  clear hG
  go_wp2_with fail
  go_loop [9, 10] (fun vn vk => ∃ k : Nat, vk = .int .i64 k ∧ k ≤ l.length ∧ vn = .int .i64 (G k)) (fun _ vk => l.length - (intOf vk).toNat)
  case atStart => exact ⟨0, rfl, Nat.zero_le _, by rw [G0.out]; rfl⟩
  case round =>
    obtain ⟨k, rfl, hk, rfl⟩ := hrel
    have LG := GL.out k
    by_cases hlt : k < l.length
    · obtain ⟨bb, p, rfl, hbw, hc, _⟩ := ms_cell M1.out k hlt
      have g7 := hc.2.2.2.2.2.2.2.1
      have N := Lib.hid (GN.out k hlt)
      clear hc GN GL GE PU
      generalize l[k].1.u = z at *
      cases z with
      | true =>
        have N := Lib.hid (N.out.trans (by rw [if_pos rfl]))
        go_wp2_with fail
        go_round
        case rel => exact ⟨k + 1, by go_num, hlt, by rw [N.out]; go_num⟩
        case measure => simp [intOf]; omega
      | false =>
        have N := Lib.hid (N.out.trans (by rw [if_neg (by decide), Nat.add_zero]))
        go_wp2_with fail
        go_round
        case rel => exact ⟨k + 1, by go_num, hlt, by rw [N.out]⟩
        case measure => simp [intOf]; omega
    · obtain rfl : k = l.length := by omega
      have E := GE.out
      clear GN GL GE hk hlt
      generalize G l.length = n at *
      rw [← E] at PU
      clear E G0
      by_cases h16 : n = 16
      · obtain ⟨rfl, rfl⟩ := Prod.mk.inj (PU.1 h16)
        have D1 : ((n : Int) == 16) = true := by simp; omega
        have KS := Lib.hid (KS.out P PL A1 A c1 c w1 H1.out M1.out)
        clear PU h16 H1 M1
        go_wp2_with fail
        refine KS.out.mono ?_
        rintro _ w2 ⟨rfl, hb⟩
        have B2 := Lib.hid (B1.out.trans (hb.mono B1.out.size))
        clear hb KS B1
        go_wp2_with fail
        refine (KL.out _).mono ?_
        rintro _ w3 ⟨rfl, hb⟩
        have B3 := Lib.hid (B2.out.trans (hb.mono B2.out.size))
        clear hb
        go_wp2_with fail
        go_ret
        exact outB rfl B3.out
      · obtain ⟨rfl, E⟩ := PU.2 h16
        have D1 : ((n : Int) == 16) = false := by simp; omega
        obtain ⟨G, hG⟩ : ∃ G : Nat → Nat, ∀ k, cu (P.take k) = G k := ⟨fun k => cu (P.take k), fun _ => rfl⟩
        have GN := Lib.hid (fun (k : Nat) (h : k < P.length) => (hG (k + 1)) ▸ (hG k) ▸ cu_next P k h)
        have GL := Lib.hid (fun k : Nat => (hG k) ▸ cu_take P k)
        have G0 := Lib.hid (show G 0 = 0 by rw [← hG]; rfl)
        have GE := Lib.hid (show G P.length = n + 1 by rw [← hG, List.take_length]; exact E)
        have hn : n ≤ 16 := by omega
        clear hG PU h16 E KS M1
        go_wp2_with fail
        go_loop [11, 12] (fun vn vk => ∃ k : Nat, vk = .int .i64 k ∧ k ≤ P.length ∧ vn = .int .i64 (G k)) (fun _ vk => P.length - (intOf vk).toNat)
        case atStart => exact ⟨0, rfl, Nat.zero_le _, by rw [G0.out]; rfl⟩
        case round =>
          obtain ⟨k, rfl, hk, rfl⟩ := hrel
          have LG := GL.out k
          by_cases hlt : k < P.length
          · obtain ⟨bb, p, rfl, hbw, hc, _⟩ := ms_cell H1.out k hlt
            have g7 := hc.2.2.2.2.2.2.2.1
            have N := Lib.hid (GN.out k hlt)
            clear hc GN GL GE
            generalize P[k].1.u = z at *
            cases z with
            | true =>
              have N := Lib.hid (N.out.trans (by rw [if_pos rfl]))
              go_wp2_with fail
              go_round
              case rel => exact ⟨k + 1, by go_num, hlt, by rw [N.out]; go_num⟩
              case measure => simp [intOf]; omega
            | false =>
              have N := Lib.hid (N.out.trans (by rw [if_neg (by decide), Nat.add_zero]))
              go_wp2_with fail
              go_round
              case rel => exact ⟨k + 1, by go_num, hlt, by rw [N.out]⟩
              case measure => simp [intOf]; omega
          · obtain rfl : k = P.length := by omega
            have E := GE.out
            clear GN GL GE hk hlt G0
            generalize G P.length = m at *
            subst E
            have D2 : (((n + 1 : Nat) : Int) == (n : Int) + 1) = true := by simp
            have D3 : IntKind.i64.wrap ((n : Int) + 1) = (n : Int) + 1 := by rw [IntKind.wrap_i64]; omega
            go_wp2_with fail
            refine (KL.out _).mono ?_
            rintro _ w3 ⟨rfl, hb⟩
            have B3 := Lib.hid (B1.out.trans (hb.mono B1.out.size))
            clear hb
            go_wp2_with fail
            go_ret
            exact outB rfl B3.out
end Go.Proofs.Ytlfegjhhkeceiaa.Mbx
