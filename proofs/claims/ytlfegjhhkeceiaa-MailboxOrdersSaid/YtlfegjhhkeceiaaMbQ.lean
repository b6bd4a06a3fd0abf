/- The law Drains. -/
import Derived.Test.YtlfegjhhkeceiaaMbO
set_option linter.unusedVariables false
namespace Go.Proofs.Ytlfegjhhkeceiaa.Mbx
open Go.RowKit

theorem box_next (to : Int) (l : List Fm) (k : Nat) (h : k < l.length) (hl : l.length ≤ 16) : put (box to 3 (l.take k)) { l[k] with t := to } 3 = (box to 3 (l.take (k + 1)), true) := by
  rw [List.take_succ_eq_append_getElem h]
  exact box_put to 3 (l.take k) l[k] (by rw [List.length_take]; omega) (by decide) (by decide)
theorem drains_plain (l : List Fm) (to : Int) (hl : l.length ≤ 16) : ∃ (G : Nat → List Ml) (L : Bool → Nat → List Ml) (S : Nat → List Ml),
    (∀ k (h : k < l.length), put (G k) { l[k] with t := to } 3 = (G (k + 1), true)) ∧ G 0 = [] ∧ (∀ k, (G k).length ≤ 16) ∧ G l.length = S 0 ∧
    (∀ k, k < 2 → S k = L (decide (k = 0)) 0) ∧ (∀ k, k < 2 → L (decide (k = 0)) l.length = S (k + 1)) ∧ S 2 = [] ∧
    (∀ b i, (L b i).length ≤ 16) ∧ (∀ b i (h : i < l.length), l[i].u ≠ b → L b (i + 1) = L b i) ∧
    ∀ b i (h : i < l.length), l[i].u = b → take (L b i) to 3 0 = ({ l[i] with t := to }, L b (i + 1), true) := by
  refine ⟨fun k => box to 3 (l.take k), fun b i => left to 3 l b i, fun k => if k = 0 then left to 3 l true 0 else if k = 1 then left to 3 l false 0 else [], fun k h => box_next to l k h hl, rfl, fun k => ?_, ?_, ?_, ?_, rfl, fun b i => ?_, fun b i h e => left_skip to 3 l b i h e, fun b i h e => left_take to 3 l b i h hl e⟩
  · rw [box_len, List.length_take]; omega
  · show box to 3 (l.take l.length) = _
    rw [List.take_length]
    rfl
  · intro k hk
    match k, hk with
    | 0, _ => rfl
    | 1, _ => rfl
  · intro k hk
    match k, hk with
    | 0, _ => exact left_mid to 3 l
    | 1, _ => exact left_end to 3 l
  · exact Nat.le_trans (left_len to 3 l b i) hl
set_option maxRecDepth 100000 in
set_option maxHeartbeats 8000000 in
theorem law_drains (w : World) (A : Option Addr) (c : Nat) (l : List Fm) (to : Int) (hl : l.length ≤ 9223372036854775807) (ht : I64 to) (hA : FmAt w w.heap.size A l) :
    Calls Try.prog 7 #[.slice A l.length c, .int .i64 to] w (OutB w true) := by
  have HA := Lib.hid hA
  have HT := Lib.hid ht
  have KL := Lib.hid (fun w => lives_any w)
  unfold OutB at KL
  clear hA ht
  by_cases h16 : 16 < l.length
  · have d0 : decide ((16 : Int) < (l.length : Int)) = true := dt (by omega)
    go_enter Try.func7, Try.ntmps7
    go_wp2_with fail
    refine (KL.out _).mono ?_
    rintro _ w1 ⟨rfl, hb⟩
    have B1 := Lib.hid hb
    clear hb
    go_wp2_with fail
    go_ret
    exact outB rfl B1.out
  have d0 : decide ((16 : Int) < (l.length : Int)) = false := df (by omega)
  have KP := Lib.hid (fun A c (m : List Ml) (h : m.length ≤ 16) f w hf hA => pput_any A c m f 3 w (by omega) hf hA)
  have KT := Lib.hid (fun A c (m : List Ml) (h : m.length ≤ 16) w hA => ptake_any A c m to 3 0 w (by omega) hA)
  have ll : l.length ≤ 16 := by omega
  obtain ⟨G, L, S, g1, g2, g3, g4, g5, g6, g7, g8, g9, g10⟩ := drains_plain l to ll
  have GP := Lib.hid g1
  have G0 := Lib.hid g2
  have GL := Lib.hid g3
  have GE := Lib.hid g4
  have SL := Lib.hid g5
  have LS := Lib.hid g6
  have S2 := Lib.hid g7
  have LL := Lib.hid g8
  have LN := Lib.hid g9
  have LT := Lib.hid g10
  clear hl h16 g1 g2 g3 g4 g5 g6 g7 g8 g9 g10
  go_enter Try.func7, Try.ntmps7
  go_wp2_with fail
  go_loopw [5, 6] (fun vm vk wr => ∃ (k : Nat) (A1 : Option Addr) (c1 : Nat), vk = .int .i64 k ∧ k ≤ l.length ∧ vm = .slice A1 (G k).length c1 ∧ Hid (MlS wr A1 c1 (G k)) ∧ Below w.heap.size w wr) (fun _ vk _ => l.length - (intOf vk).toNat)
  case atStart => exact ⟨0, none, 0, rfl, Nat.zero_le _, by rw [G0.out]; rfl, Lib.hid (by rw [G0.out]; exact SlS.nil _), Below.refl _ _⟩
  case round =>
    obtain ⟨k, A1, c1, rfl, hk, rfl, HM, hb⟩ := hrel
    have B := Lib.hid hb
    have HK := Lib.hid (HA.out.next hb)
    clear hb
    by_cases hlt : k < l.length
    · obtain ⟨b, p, rfl, hbw, hc, hok⟩ := fr_cell HK.out k hlt
      have OK := Lib.hid (show FOk { l[k] with t := to } from ⟨hok.1, hok.2.1, HT.out, hok.2.2.2.1, hok.2.2.2.2.1, hok.2.2.2.2.2.1, hok.2.2.2.2.2.2.1, hok.2.2.2.2.2.2.2⟩)
      have K1 := KP.out A1 c1 (G k) (GL.out k) { l[k] with t := to } (wr.alloc (bxF { l[k] with t := to })) OK.out (HM.out.next (alloc_below _ _))
      rw [GP.out k hlt] at K1
      unfold PutR at K1
      have K1 := Lib.hid K1
      clear hok KP HK HM KL OK KT GP G0 GL GE SL LS S2 LL LN LT
      generalize l[k] = x at *
      obtain ⟨x0, x1, x2, x3, x4, x5, x6, x7, x8⟩ := x
      unfold FmC at hc
      simp only at hc K1
      obtain ⟨g0, g1, g2, g3, g4, g5, g6, g7, g8⟩ := hc
      go_wp2_with fail
      refine K1.out.mono ?_
      rintro _ w1 ⟨A2, c2, rfl, h2, hb⟩
      have B1 := Lib.hid (B.out.trans ((box_below hb).mono B.out.size))
      have H2 := Lib.hid h2
      clear hb h2 K1 B g0 g1 g2 g3 g4 g5 g6 g7 g8
      go_wp2_with fail
      go_round
      case rel => exact ⟨k + 1, A2, c2, by go_num, hlt, rfl, H2, B1.out⟩
      case measure => simp [intOf]; omega
    obtain rfl : k = l.length := by omega
    clear KP hk hlt GP G0 GL HK
    go_wp2_with fail
    go_loopw [5, 10] (fun vm vk wr => ∃ (k : Nat) (M : List Ml) (A1 : Option Addr) (c1 : Nat), vk = .int .i64 k ∧ k ≤ 2 ∧ vm = .slice A1 M.length c1 ∧ Hid (MlS wr A1 c1 M) ∧ Hid (M = S k) ∧ Below w.heap.size w wr) (fun _ vk _ => 2 - (intOf vk).toNat)
    case atStart => exact ⟨0, G l.length, A1, c1, rfl, by omega, rfl, HM, GE, B.out⟩
    case round =>
      obtain ⟨k, M, A1, c1, rfl, hk, rfl, HM, HE, hb⟩ := hrel
      have B := Lib.hid hb
      clear hb
      by_cases hlt : k < 2
      · have D1 : decide ((k : Int) < 2) = true := dt (by omega)
        have E1 := HE.out.trans (SL.out k hlt)
        have E2 := Lib.hid (LS.out k hlt)
        have D2 : ((k : Int) == 0) = decide (k = 0) := by by_cases e : k = 0 <;> simp [e]
        subst E1
        clear HE S2 GE SL LS
        generalize decide (k = 0) = b at *
        go_wp2_with fail
        go_loopw [5, 11] (fun vm vk wr => ∃ (i : Nat) (A1 : Option Addr) (c1 : Nat), vk = .int .i64 i ∧ i ≤ l.length ∧ vm = .slice A1 (L b i).length c1 ∧ Hid (MlS wr A1 c1 (L b i)) ∧ Below w.heap.size w wr) (fun _ vk _ => l.length - (intOf vk).toNat)
        case atStart => exact ⟨0, A1, c1, rfl, Nat.zero_le _, rfl, HM, B.out⟩
        case round =>
          obtain ⟨i, A1, c1, rfl, hi, rfl, HM, hb⟩ := hrel
          have B := Lib.hid hb
          have HK := Lib.hid (HA.out.next hb)
          clear hb
          by_cases hil : i < l.length
          · obtain ⟨bb, p, rfl, hbw, hc, hok⟩ := fr_cell HK.out i hil
            have K1 := KT.out A1 c1 (L b i) (LL.out b i) (wr.alloc (bxF { l[i] with t := to })) (HM.out.next (alloc_below _ _))
            have LN1 := Lib.hid (LN.out b i hil)
            have LT1 := Lib.hid (LT.out b i hil)
            unfold TakeR at K1
            have K1 := Lib.hid K1
            clear hok HK KT KL E2 LN LT LL
            generalize l[i] = x at *
            obtain ⟨x0, x1, x2, x3, x4, x5, x6, x7, x8⟩ := x
            unfold FmC at hc
            simp only at hc K1 LN1 LT1
            obtain ⟨g0, g1, g2, g3, g4, g5, g6, g7, g8⟩ := hc
            by_cases hu : x7 = b
            · subst hu
              have K1 := K1.out
              rw [LT1.out rfl] at K1
              have K1 := Lib.hid K1
              clear LN1 LT1
              go_wp2_with fail
              refine K1.out.mono ?_
              rintro _ w1 ⟨A2, c2, rfl, h2, hb, _⟩
              have X1 := Lib.hid (show w1.heap[wr.heap.size]? = some (bxF ⟨x0, x1, to, x3, x4, x5, x6, x7, x8⟩) from (hb.block wr.heap.size (by simp)).trans (blk_new wr _))
              have B1 := Lib.hid (B.out.trans ((box_below hb).mono B.out.size))
              have H2 := Lib.hid h2
              have hz := hb.size
              clear hb h2 K1 B g0 g1 g2 g3 g4 g5 g6 g7 g8 HM
              have e0 := fun o => blk_cell (blk_alloc X1.out o) 0 (v := .int .i64 x0) rfl
              have e1 := fun o => blk_cell (blk_alloc X1.out o) 1 (v := .int .i64 x1) rfl
              have e2 := fun o => blk_cell (blk_alloc X1.out o) 2 (v := .int .i64 to) rfl
              have e3 := fun o => blk_cell (blk_alloc X1.out o) 3 (v := .int .i64 x3) rfl
              have e4 := fun o => blk_cell (blk_alloc X1.out o) 4 (v := .int .i64 x4) rfl
              have e5 := fun o => blk_cell (blk_alloc X1.out o) 5 (v := .int .i64 x5) rfl
              have e6 := fun o => blk_cell (blk_alloc X1.out o) 6 (v := .int .i64 x6) rfl
              have e7 := fun o => blk_cell (blk_alloc X1.out o) 7 (v := .bool x7) rfl
              have e8 := fun o => blk_cell (blk_alloc X1.out o) 8 (v := .string x8) rfl
              go_wp2_with fail
              go_round
              case rel => exact ⟨i + 1, A2, c2, by go_num, hil, rfl, Lib.hid (H2.out.next (alloc_below _ _)), B1.out.alloc B1.out.size _⟩
              case measure => simp [intOf]; omega
            · have D3 : (x7 == b) = false := by simpa using hu
              have D4 : (x7 != b) = true := by simpa using hu
              have L1 := Lib.hid (LN1.out hu)
              clear LN1 LT1 K1 hu
              go_wp2_with fail
              go_round
              case rel => exact ⟨i + 1, A1, c1, by go_num, hil, by rw [L1.out], Lib.hid (by rw [L1.out]; exact HM.out.next (alloc_below _ _)), B.out.alloc B.out.size _⟩
              case measure => simp [intOf]; omega
          obtain rfl : i = l.length := by omega
          clear hil hi HK KT KL LN LT LL
          go_wp2_with fail
          go_round
          case rel => exact ⟨k + 1, L b l.length, A1, c1, by go_num, by omega, rfl, HM, E2, B.out⟩
          case measure => simp [intOf]; omega
      obtain rfl : k = 2 := by omega
      have E := HE.out.trans S2.out
      subst E
      clear hk hlt HE S2 GE SL LS LN LT LL KT
      go_wp2_with fail
      refine (KL.out _).mono ?_
      rintro _ w3 ⟨rfl, hb⟩
      have B3 := Lib.hid (B.out.trans (hb.mono B.out.size))
      clear hb
      go_wp2_with fail
      go_ret
      exact outB rfl B3.out
end Go.Proofs.Ytlfegjhhkeceiaa.Mbx
