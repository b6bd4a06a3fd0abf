/- The reference: Reach, Hops, Depth, Without. -/
import Derived.Test.YtcnmknhjmflinaaTD
set_option linter.unusedVariables false
namespace Go.Proofs.Ytcnmknhjmflinaa.Tpo
open Go.RowKit

theorem wout_take (l : List Ed) (off : List Int) (k : Nat) (h : k < l.length) : wout (l.take (k + 1)) off = if Vd l[k] ∧ ¬ (l[k].1 ∈ off ∨ l[k].2 ∈ off) then wout (l.take k) off ++ [l[k]] else wout (l.take k) off := by
  unfold wout
  rw [List.take_succ_eq_append_getElem h, List.filter_append]
  by_cases c : Vd l[k] ∧ ¬ (l[k].1 ∈ off ∨ l[k].2 ∈ off)
  · have e : ([l[k]].filter fun e => decide (Vd e ∧ ¬ (e.1 ∈ off ∨ e.2 ∈ off))) = [l[k]] := List.filter_cons_of_pos (p := fun e : Ed => decide (Vd e ∧ ¬ (e.1 ∈ off ∨ e.2 ∈ off))) (a := l[k]) (l := []) (decide_eq_true c)
    rw [if_pos c, e]
  · have e : ([l[k]].filter fun e => decide (Vd e ∧ ¬ (e.1 ∈ off ∨ e.2 ∈ off))) = [] := List.filter_cons_of_neg (p := fun e : Ed => decide (Vd e ∧ ¬ (e.1 ∈ off ∨ e.2 ∈ off))) (a := l[k]) (l := []) (fun h => c (of_decide_eq_true h))
    rw [if_neg c, e, List.append_nil]
set_option maxRecDepth 100000 in
set_option maxHeartbeats 2000000 in
theorem rwout_any (A : Option Addr) (c : Nat) (l : List Ed) (A2 : Option Addr) (c2 : Nat) (off : List Int) (w : World) (hl : l.length ≤ 100000) (hA : EdAt w w.heap.size A l) (hl2 : off.length ≤ 9223372036854775807) (hA2 : FlAt fI w w.heap.size A2 off) :
    Calls Try.prog 44 #[.slice A l.length c, .slice A2 off.length c2] w (OutL w (wout l off)) := by
  have HA := Lib.hid hA
  have KA := Lib.hid (fun n w (h : FlAt fI w w.heap.size A2 off) => ramong_any A2 c2 off n w hl2 h)
  have HO := Lib.hid hA2
  have W0 := Lib.hid (show wout (l.take 0) off = [] from rfl)
  have WA := Lib.hid (show wout (l.take l.length) off = wout l off by rw [List.take_length])
  have WT := Lib.hid (fun k h => wout_take l off k h)
  have WL := Lib.hid (fun k => (show (wout (l.take k) off).length ≤ l.length from Nat.le_trans (wout_len _ _) (by rw [List.length_take]; omega)))
  clear hA hA2
  obtain ⟨G, hG⟩ : ∃ G : Nat → List Ed, G = fun k => wout (l.take k) off := ⟨_, rfl⟩
  have GK : ∀ k, wout (l.take k) off = G k := fun k => by rw [hG]
  simp only [GK] at W0 WA WT WL
  generalize wout l off = F at *
  clear hG GK
  go_enter Try.func44, Try.ntmps44
  go_wp2_with fail
  go_loopw [5, 9] (fun vo vk wr => ∃ (k : Nat) (A1 : Option Addr) (c1 : Nat), vk = .int .i64 k ∧ k ≤ l.length ∧ vo = .slice A1 (G k).length c1 ∧ Hid (OwnE wr w.heap.size (.slice A1 (G k).length c1) (G k)) ∧ Below w.heap.size w wr) (fun _ vk _ => l.length - (intOf vk).toNat)
  case atStart => exact ⟨0, none, 0, rfl, Nat.zero_le _, by rw [W0.out]; rfl, Lib.hid (by rw [W0.out]; exact OwnF.nil _ _), Below.refl _ _⟩
  case round =>
    obtain ⟨k, A1, c1, rfl, hk, rfl, O, hb⟩ := hrel
    have B := Lib.hid hb
    have hz := hb.size
    by_cases hlt : k < l.length
    · obtain ⟨bb, p, rfl, hbw, g0, g1, i0, i1⟩ := ed_cell (HA.out.below hb) k hlt
      have WTk := Lib.hid (WT.out k hlt)
      have LG := WL.out k
      clear hb
      obtain ⟨⟨x, y⟩, hx⟩ : ∃ x, l[k] = x := ⟨_, rfl⟩
      rw [hx] at g0 g1 i0 i1 WTk
      simp only at g0 g1 i0 i1
      have m0 : (k : Int) < (l.length : Int) := by omega
      have m1 : (0 : Int) ≤ (k : Int) := by omega
      have KV := Lib.hid (fun w => (show Calls Try.prog 52 #[.agg #[.int .i64 x, .int .i64 y]] w (OutV w (.bool (decide (Vd (x, y))))) from (rvalid_any (x, y) w).mono fun _ _ h => outG_V h))
      unfold OutV at KV
      have K1 := Lib.hid (fun w h => KA.out x w h)
      have K2 := Lib.hid (fun w h => KA.out y w h)
      clear hx W0 WA WT WL
      by_cases hv : Vd (x, y)
      rotate_left
      · have N := Lib.hid (WTk.out.trans (if_neg fun h => hv h.1))
        rw [df hv] at KV
        clear hv WTk
        go_wp2_with fail
        refine (KV.out _).mono ?_
        rintro _ w2 ⟨rfl, hb⟩
        have B2 := Lib.hid (B.out.trans (hb.mono hz))
        have O2 := Lib.hid (O.out.below hb)
        clear hb
        go_wp2_with fail
        go_roundw
        case rel => exact ⟨k + 1, A1, c1, by go_num, hlt, by rw [N.out], Lib.hid (by rw [N.out]; exact O2.out), B2.out⟩
        case measure => simp [intOf]; omega
      rw [dt hv] at KV
      by_cases h1 : x ∈ off
      · have N := Lib.hid (WTk.out.trans (if_neg fun h => h.2 (Or.inl h1)))
        rw [dt h1] at K1
        clear hv h1 WTk
        go_wp2_with fail
        refine (KV.out _).mono ?_
        rintro _ w2 ⟨rfl, hb⟩
        have B2 := Lib.hid (B.out.trans (hb.mono hz))
        have O2 := Lib.hid (O.out.below hb)
        have g0 := (hb.cell (p := ⟨bb, p + k * 2, none⟩) (Nat.lt_of_lt_of_le hbw hz)).trans g0
        have g1 := (hb.cell (p := ⟨bb, p + k * 2 + 1, none⟩) (Nat.lt_of_lt_of_le hbw hz)).trans g1
        clear hb
        go_wp2_with fail
        refine (K1.out _ (HO.out.next B2.out)).mono ?_
        rintro _ w3 ⟨rfl, rfl⟩
        go_wp2_with fail
        go_roundw
        case rel => exact ⟨k + 1, A1, c1, by go_num, hlt, by rw [N.out], Lib.hid (by rw [N.out]; exact O2.out), B2.out⟩
        case measure => simp [intOf]; omega
      rw [df h1] at K1
      by_cases h2 : y ∈ off
      · have N := Lib.hid (WTk.out.trans (if_neg fun h => h.2 (Or.inr h2)))
        rw [dt h2] at K2
        clear hv h1 h2 WTk
        go_wp2_with fail
        refine (KV.out _).mono ?_
        rintro _ w2 ⟨rfl, hb⟩
        have B2 := Lib.hid (B.out.trans (hb.mono hz))
        have O2 := Lib.hid (O.out.below hb)
        have g0 := (hb.cell (p := ⟨bb, p + k * 2, none⟩) (Nat.lt_of_lt_of_le hbw hz)).trans g0
        have g1 := (hb.cell (p := ⟨bb, p + k * 2 + 1, none⟩) (Nat.lt_of_lt_of_le hbw hz)).trans g1
        clear hb
        go_wp2_with fail
        refine (K1.out _ (HO.out.next B2.out)).mono ?_
        rintro _ w3 ⟨rfl, rfl⟩
        go_wp2_with fail
        refine (K2.out _ (HO.out.next B2.out)).mono ?_
        rintro _ w4 ⟨rfl, rfl⟩
        go_wp2_with fail
        go_roundw
        case rel => exact ⟨k + 1, A1, c1, by go_num, hlt, by rw [N.out], Lib.hid (by rw [N.out]; exact O2.out), B2.out⟩
        case measure => simp [intOf]; omega
      · have N := Lib.hid (WTk.out.trans (if_pos ⟨hv, fun h => h.elim h1 h2⟩))
        rw [df h2] at K2
        clear hv h1 h2 WTk
        go_wp2_with fail
        refine (KV.out _).mono ?_
        rintro _ w2 ⟨rfl, hb⟩
        have B2 := Lib.hid (B.out.trans (hb.mono hz))
        have O2 := Lib.hid (O.out.below hb)
        have g0 := (hb.cell (p := ⟨bb, p + k * 2, none⟩) (Nat.lt_of_lt_of_le hbw hz)).trans g0
        have g1 := (hb.cell (p := ⟨bb, p + k * 2 + 1, none⟩) (Nat.lt_of_lt_of_le hbw hz)).trans g1
        clear hb
        obtain ⟨v6, w6, hap, ho6, hb6⟩ := app_edge O2.out (x, y) ⟨i0, i1⟩ (by omega) B2.out.size
        obtain ⟨A6, c6, e6, _⟩ := ho6.form
        subst e6
        have L6 := Lib.hid (show (G k ++ [(x, y)]).length = (G (k + 1)).length by rw [N.out])
        have O6 := Lib.hid (show OwnE w6 w.heap.size (.slice A6 (G (k + 1)).length c6) (G (k + 1)) by rw [N.out]; exact ho6)
        have B6 := Lib.hid (B2.out.trans hb6)
        rw [L6.out] at hap
        clear ho6 hb6
        go_wp2_with fail
        refine (K1.out _ (HO.out.next B2.out)).mono ?_
        rintro _ w3 ⟨rfl, rfl⟩
        go_wp2_with fail
        refine (K2.out _ (HO.out.next B2.out)).mono ?_
        rintro _ w4 ⟨rfl, rfl⟩
        go_wp2_with (at_builtin; refine Lib.wpList_append_run _ rfl _ _ _ _ rfl _ _ rfl rfl _ _ hap ?_)
        go_roundw
        case rel => exact ⟨k + 1, A6, c6, by go_num, hlt, rfl, O6, B6.out⟩
        case measure => simp [intOf]; omega
    · have hk' : k = l.length := by omega
      have d0 : ¬ k < l.length := hlt
      have FIN := Lib.hid (show OwnE wr w.heap.size (.slice A1 (G k).length c1) F by rw [← WA.out, ← hk']; exact O.out)
      clear hb hk'
      go_wp2_with fail
      go_ret
      exact ⟨_, rfl, FIN.out, B.out⟩
end Go.Proofs.Ytcnmknhjmflinaa.Tpo
