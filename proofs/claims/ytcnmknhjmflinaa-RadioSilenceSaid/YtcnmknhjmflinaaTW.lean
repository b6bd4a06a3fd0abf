/- Package topo: Without. -/
import Derived.Test.YtcnmknhjmflinaaTV
set_option linter.unusedVariables false
namespace Go.Proofs.Ytcnmknhjmflinaa.Tpo
open Go.RowKit

/-- The nodes seen. -/
def sno (s : List Int) : Int → Option Value := fun a => if a ∈ s then some (.bool true) else none
theorem sno_snoc (s : List Int) (x a : Int) : (if a = x then some (Value.bool true) else sno s a) = sno (s ++ [x]) a := by
  unfold sno
  by_cases e : a = x
  · subst e; simp
  · rw [if_neg e]; simp [e]
theorem sno_yes {s : List Int} {x : Int} (h : x ∈ s) : sno s x = some (.bool true) := if_pos h
theorem sno_no {s : List Int} {x : Int} (h : x ∉ s) : sno s x = none := if_neg h
abbrev OnAt (w : World) (b n : Nat) (f : Int → Option Value) : Prop := MvAt MO Try.prog w b n f
theorem on_get {w : World} {b n : Nat} {f : Int → Option Value} (h : OnAt w b n f) (x : Int) (hx : I64 x) : (Instr.lookup 69 (.map (some b)) (.int .i64 x) false).run Try.prog w = .ok ((f x).getD (.bool false)) w := h.get mo_of x hx
theorem on_put {w : World} {b n : Nat} {f : Int → Option Value} (h : OnAt w b n f) (x : Int) (hx : I64 x) (hn : n < maxLen) :
    ∃ w', (Instr.mapUpdate 69 (.map (some b)) (.int .i64 x) (.bool true)).run Try.prog w = .ok () w' ∧ OnAt w' b (n + 1) (fun z => if z = x then some (.bool true) else f z) ∧ w.grownBy w' (some b) := h.put mo_of x (.bool true) hx hn

set_option maxRecDepth 100000 in
set_option maxHeartbeats 4000000 in
theorem pwout_any (A : Option Addr) (c : Nat) (l : List Ed) (A2 : Option Addr) (c2 : Nat) (off : List Int) (w : World) (hl : l.length ≤ 100000) (hA : EdAt w w.heap.size A l) (hl2 : off.length ≤ 9223372036854775807) (hA2 : FlAt fI w w.heap.size A2 off) :
    Calls Try.prog 43 #[.slice A l.length c, .slice A2 off.length c2] w (OutL w (wout l off)) := by
  have HA := Lib.hid hA
  have HO := Lib.hid hA2
  have W0 := Lib.hid (show wout (l.take 0) off = [] from rfl)
  have WA := Lib.hid (show wout (l.take l.length) off = wout l off by rw [List.take_length])
  have WT := Lib.hid (fun k h => wout_take l off k h)
  have WL := Lib.hid (fun k => (show (wout (l.take k) off).length ≤ l.length from Nat.le_trans (wout_len _ _) (by rw [List.length_take]; omega)))
  clear hA hA2
  obtain ⟨G, hG⟩ : ∃ G : Nat → List Ed, G = fun k => wout (l.take k) off := ⟨_, rfl⟩
  have GK : ∀ k, wout (l.take k) off = G k := fun k => by rw [hG]
  simp only [GK] at W0 WA WT WL
  generalize wout l off = F at *
  clear hG GK
  have hmm := @run_makeMap Try.prog
  have M0 := Lib.hid (show OnAt (w.alloc (.map #[] 0)) w.heap.size 0 (sno (off.take 0)) from (MvAt.made w).same fun x => by simp [sno])
  have TK := Lib.hid (fun (k : Nat) (h : k < off.length) => (List.take_succ_eq_append_getElem h))
  have TA := Lib.hid (show off.take off.length = off from List.take_length)
  go_enter Try.func43, Try.ntmps43
  go_wp2_with fail
  clear hmm
  go_loopw [14] (fun vk wr => ∃ k : Nat, vk = .int .i64 k ∧ k ≤ off.length ∧ Hid (OnAt wr w.heap.size k (sno (off.take k))) ∧ Below w.heap.size w wr) (fun vk _ => off.length - (intOf vk).toNat)
  case atStart => exact ⟨0, rfl, Nat.zero_le _, M0, alloc_below _ _⟩
  case round =>
    clear M0
    obtain ⟨k, rfl, hk, M, hb⟩ := hrel
    have B := Lib.hid hb
    have hz := hb.size
    by_cases hlt : k < off.length
    · obtain ⟨b, p, rfl, _, g0, i0⟩ := fI_cell (HO.out.below hb) k hlt
      have TKk := Lib.hid (TK.out k hlt)
      clear hb TK TA
      generalize off[k] = x at *
      obtain ⟨w2, hput, hm2, hg2⟩ := on_put M.out x i0 (by unfold maxLen; omega)
      have M2 := Lib.hid (show OnAt w2 w.heap.size (k + 1) (sno (off.take (k + 1))) from hm2.same fun a => by rw [sno_snoc, TKk.out])
      have B2 := Lib.hid (B.out.grown hg2 hz (fun j hj => by cases hj; exact Nat.le_refl _))
      clear hm2 hg2
      go_wp2_with fail
      go_roundw
      case rel => exact ⟨k + 1, by go_num, hlt, M2, B2.out⟩
      case measure => simp [intOf]; omega
    have d0 : ¬ k < off.length := hlt
    have ME := Lib.hid (show OnAt wr w.heap.size off.length (sno off) by
      have hk' : k = off.length := by omega
      have := M.out
      rw [hk', TA.out] at this; exact this)
    clear hb M TK TA
    go_wp2_with fail
    go_loopw [8, 23] (fun vo vk wr => ∃ (k : Nat) (A1 : Option Addr) (c1 : Nat), vk = .int .i64 k ∧ k ≤ l.length ∧ vo = .slice A1 (G k).length c1 ∧ Hid (OwnE wr (w.heap.size + 1) (.slice A1 (G k).length c1) (G k)) ∧ Hid (OnAt wr w.heap.size off.length (sno off)) ∧ Below w.heap.size w wr) (fun _ vk _ => l.length - (intOf vk).toNat)
    case atStart => exact ⟨0, none, 0, rfl, Nat.zero_le _, by rw [W0.out]; rfl, Lib.hid (by rw [W0.out]; exact OwnF.nil _ _), ME, B.out⟩
    case round =>
      clear ME B
      obtain ⟨k, A1, c1, rfl, hk, rfl, O, M, hb⟩ := hrel
      have B := Lib.hid hb
      have hz := hb.size
      by_cases hlt : k < l.length
      rotate_left
      · have hk' : k = l.length := by omega
        have d0 : ¬ k < l.length := hlt
        have FIN := Lib.hid (show OwnE wr w.heap.size (.slice A1 (G k).length c1) F by rw [← WA.out, ← hk']; exact O.out.down (Nat.le_succ _))
        clear hb hk'
        go_wp2_with fail
        go_ret
        exact ⟨_, rfl, FIN.out, B.out⟩
      obtain ⟨bb, p, rfl, hbw, g0, g1, i0, i1⟩ := ed_cell (HA.out.below hb) k hlt
      have WTk := Lib.hid (WT.out k hlt)
      have LG := WL.out k
      clear hb
      obtain ⟨⟨x, y⟩, hx⟩ : ∃ x, l[k] = x := ⟨_, rfl⟩
      rw [hx] at g0 g1 i0 i1 WTk
      simp only at g0 g1 i0 i1
      have m0 : (k : Int) < (l.length : Int) := by omega
      have m1 : (0 : Int) ≤ (k : Int) := by omega
      have KV := Lib.hid (fun w => (show Calls Try.prog 45 #[.agg #[.int .i64 x, .int .i64 y]] w (OutV w (.bool (decide (Vd (x, y))))) from (pvalid_any (x, y) w).mono fun _ _ h => outG_V h))
      unfold OutV at KV
      clear hx W0 WA WT WL
      by_cases hv : Vd (x, y)
      rotate_left
      · have N := Lib.hid (WTk.out.trans (if_neg fun h => hv h.1))
        rw [df hv] at KV
        clear hv WTk
        go_wp2_with fail
        refine (KV.out _).mono ?_
        rintro _ w2 ⟨rfl, hb⟩
        have B2 := Lib.hid ((B.out.alloc hz (bxE x y)).trans (hb.mono (by simp; omega)))
        have O2 := Lib.hid ((O.out.alloc (bxE x y)).below hb)
        have M2 := Lib.hid ((M.out.alloc (bxE x y)).below hb)
        clear hb
        go_wp2_with fail
        go_roundw
        case rel => exact ⟨k + 1, A1, c1, by go_num, hlt, by rw [N.out], Lib.hid (by rw [N.out]; exact O2.out), M2, B2.out⟩
        case measure => simp [intOf]; omega
      rw [dt hv] at KV
      go_wp2_with fail
      refine (KV.out _).mono ?_
      rintro _ w2 ⟨rfl, hb⟩
      have B2 := Lib.hid ((B.out.alloc hz (bxE x y)).trans (hb.mono (by simp; omega)))
      have O2 := Lib.hid ((O.out.alloc (bxE x y)).below hb)
      have M2 := Lib.hid ((M.out.alloc (bxE x y)).below hb)
      have e0 := box_at hb 0 (v := .int .i64 x) rfl
      have e1 := box_at hb 1 (v := .int .i64 y) rfl
      have ht1 := on_get M2.out x i0
      have ht2 := on_get M2.out y i1
      clear hb KV g0 g1 B O M
      by_cases h1 : x ∈ off
      · have N := Lib.hid (WTk.out.trans (if_neg fun h => h.2 (Or.inl h1)))
        rw [sno_yes h1, show (some (Value.bool true)).getD (.bool false) = .bool true from rfl] at ht1
        clear hv h1 WTk ht2
        go_wp2_with fail
        go_roundw
        case rel => exact ⟨k + 1, A1, c1, by go_num, hlt, by rw [N.out], Lib.hid (by rw [N.out]; exact O2.out), M2, B2.out⟩
        case measure => simp [intOf]; omega
      rw [sno_no h1, show (none : Option Value).getD (.bool false) = .bool false from rfl] at ht1
      by_cases h2 : y ∈ off
      · have N := Lib.hid (WTk.out.trans (if_neg fun h => h.2 (Or.inr h2)))
        rw [sno_yes h2, show (some (Value.bool true)).getD (.bool false) = .bool true from rfl] at ht2
        clear hv h1 h2 WTk
        go_wp2_with fail
        go_roundw
        case rel => exact ⟨k + 1, A1, c1, by go_num, hlt, by rw [N.out], Lib.hid (by rw [N.out]; exact O2.out), M2, B2.out⟩
        case measure => simp [intOf]; omega
      · have N := Lib.hid (WTk.out.trans (if_pos ⟨hv, fun h => h.elim h1 h2⟩))
        rw [sno_no h2, show (none : Option Value).getD (.bool false) = .bool false from rfl] at ht2
        clear hv h1 h2 WTk
        obtain ⟨v6, w6, hap, ho6, hb6⟩ := app_edge O2.out (x, y) ⟨i0, i1⟩ (by omega) M2.out.lt
        obtain ⟨A6, c6, e6, _⟩ := ho6.form
        subst e6
        have L6 := Lib.hid (show (G k ++ [(x, y)]).length = (G (k + 1)).length by rw [N.out])
        have O6 := Lib.hid (show OwnE w6 (w.heap.size + 1) (.slice A6 (G (k + 1)).length c6) (G (k + 1)) by rw [N.out]; exact ho6)
        have B6 := Lib.hid (B2.out.trans (hb6.mono (Nat.le_succ _)))
        have M6 := Lib.hid (M2.out.belowB hb6 (Nat.lt_succ_self _))
        rw [L6.out] at hap
        clear ho6 hb6
        go_wp2_with (at_builtin; refine Lib.wpList_append_run _ rfl _ _ _ _ rfl _ _ rfl rfl _ _ hap ?_)
        go_roundw
        case rel => exact ⟨k + 1, A6, c6, by go_num, hlt, rfl, O6, M6, B6.out⟩
        case measure => simp [intOf]; omega
end Go.Proofs.Ytcnmknhjmflinaa.Tpo
