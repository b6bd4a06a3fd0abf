/- Package topo: Check, Without. -/
import Derived.Test.YtcnmknhjmflinaaTM
set_option linter.unusedVariables false
namespace Go.Proofs.Ytcnmknhjmflinaa.Tpo
open Go.RowKit

noncomputable section
open Classical
/-- The links seen. -/
def sne (s : List Ed) : Ed → Option Value := fun x => if ∃ y ∈ s, lnk y = x then some (.bool true) else none
theorem sne_nil (x : Ed) : sne [] x = none := by unfold sne; simp
theorem sne_snoc (s : List Ed) (x a : Ed) : (if a = lnk x then some (Value.bool true) else sne s a) = sne (s ++ [x]) a := by
  unfold sne
  by_cases e : a = lnk x
  · subst e
    rw [if_pos rfl, if_pos ⟨x, by simp, rfl⟩]
  · rw [if_neg e]
    have : (∃ y ∈ s ++ [x], lnk y = a) ↔ ∃ y ∈ s, lnk y = a := by
      constructor
      · rintro ⟨y, h1, h2⟩
        rcases List.mem_append.1 h1 with h | h
        · exact ⟨y, h, h2⟩
        · rw [List.mem_singleton.1 h] at h2; exact absurd h2.symm e
      · rintro ⟨y, h1, h2⟩; exact ⟨y, List.mem_append_left _ h1, h2⟩
    by_cases h : ∃ y ∈ s, lnk y = a
    · rw [if_pos h, if_pos (this.2 h)]
    · rw [if_neg h, if_neg (fun g => h (this.1 g))]
theorem sne_iff (s : List Ed) (x : Ed) : (∃ y ∈ s, lnk y = lnk x) ↔ ∃ y ∈ s, Sm y x.1 x.2 :=
  ⟨fun ⟨y, h1, h2⟩ => ⟨y, h1, (lnk_sm y x).1 h2⟩, fun ⟨y, h1, h2⟩ => ⟨y, h1, (lnk_sm y x).2 h2⟩⟩
theorem sne_yes {s : List Ed} {x : Ed} (h : ∃ y ∈ s, Sm y x.1 x.2) : sne s (lnk x) = some (.bool true) := if_pos ((sne_iff s x).2 h)
theorem sne_no {s : List Ed} {x : Ed} (h : ¬ ∃ y ∈ s, Sm y x.1 x.2) : sne s (lnk x) = none := if_neg fun g => h ((sne_iff s x).1 g)
end
theorem lnk_i64 {x : Ed} (h : I64 x.1 ∧ I64 x.2) : I64 (lnk x).1 ∧ I64 (lnk x).2 := by unfold lnk; split; exact h; exact ⟨h.2, h.1⟩
/-- The map of links seen. -/
abbrev SnAt (w : World) (b n : Nat) (f : Ed → Option Value) : Prop := MvAt MS Try.prog w b n f
theorem sn_get {w : World} {b n : Nat} {f : Ed → Option Value} (h : SnAt w b n f) (x y : Int) (hx : I64 x ∧ I64 y) : (Instr.lookup 60 (.map (some b)) (.agg #[.int .i64 x, .int .i64 y]) false).run Try.prog w = .ok ((f (x, y)).getD (.bool false)) w := h.get ms_of (x, y) hx
theorem sn_put {w : World} {b n : Nat} {f : Ed → Option Value} (h : SnAt w b n f) (x y : Int) (hx : I64 x ∧ I64 y) (hn : n ≤ 1000000000) :
    ∃ w', (Instr.mapUpdate 60 (.map (some b)) (.agg #[.int .i64 x, .int .i64 y]) (.bool true)).run Try.prog w = .ok () w' ∧ SnAt w' b (n + 1) (fun z => if z = (x, y) then some (.bool true) else f z) ∧ w.grownBy w' (some b) := h.put ms_of (x, y) (.bool true) hx (by unfold maxLen; omega)

set_option maxRecDepth 100000 in
set_option maxHeartbeats 4000000 in
theorem pcheck_any (A : Option Addr) (c : Nat) (l : List Ed) (w : World) (hl : l.length ≤ 9223372036854775807) (hA : EdAt w w.heap.size A l) :
    Calls Try.prog 30 #[.slice A l.length c] w (OutI w (chk l)) := by
  have HA := Lib.hid hA
  clear hA
  by_cases h256 : 256 < l.length
  · have R := Lib.hid (show chk l = 3 from if_pos h256)
    have d0 : decide ((256 : Int) < (l.length : Int)) = true := dt (by omega)
    go_enter Try.func30, Try.ntmps30
    go_wp2_with fail
    go_ret
    exact outI R.out.symm (Below.refl _ _)
  have R := Lib.hid (show chk l = chkU (l.take 0) (l.drop 0) from if_neg h256)
  have d0 : decide ((256 : Int) < (l.length : Int)) = false := df (by omega)
  have CS := Lib.hid (fun k h => chkU_at l k h)
  have CE := Lib.hid (fun (k : Nat) (h : k = l.length) => (show chkU (l.take k) (l.drop k) = 0 by rw [h, List.drop_length]; rfl))
  have TK := Lib.hid (fun (k : Nat) (h : k < l.length) => (List.take_succ_eq_append_getElem h))
  have hmm := @run_makeMap Try.prog
  have M0 := Lib.hid (show SnAt (w.alloc (.map #[] 0)) w.heap.size 0 (sne (l.take 0)) from (MvAt.made w).same fun x => (sne_nil x).symm)
  generalize chk l = F at *
  go_enter Try.func30, Try.ntmps30
  go_wp2_with fail
  clear d0 hmm
  go_loopw [13] (fun vk wr => ∃ k : Nat, vk = .int .i64 k ∧ k ≤ l.length ∧ Hid (F = chkU (l.take k) (l.drop k)) ∧ Hid (SnAt wr w.heap.size k (sne (l.take k))) ∧ Below w.heap.size w wr) (fun vk _ => l.length - (intOf vk).toNat)
  case atStart => exact ⟨0, rfl, Nat.zero_le _, R, M0, alloc_below _ _⟩
  case round =>
    clear R M0
    obtain ⟨k, rfl, hk, R, M, hb⟩ := hrel
    have B := Lib.hid hb
    have hz := hb.size
    by_cases hlt : k < l.length
    rotate_left
    · have d0 : ¬ k < l.length := hlt
      have FIN := Lib.hid (R.out.trans (CE.out k (by omega)))
      clear hb R
      go_wp2_with fail
      go_ret
      exact outI FIN.out.symm B.out
    have RS := Lib.hid (R.out.trans (CS.out k hlt))
    have TKk := Lib.hid (TK.out k hlt)
    obtain ⟨bb, p, rfl, hbw, g0, g1, i0, i1⟩ := ed_cell (HA.out.below hb) k hlt
    clear hb R CS CE TK
    obtain ⟨⟨x, y⟩, hx⟩ : ∃ x, l[k] = x := ⟨_, rfl⟩
    rw [hx] at g0 g1 RS TKk i0 i1
    simp only at g0 g1 i0 i1
    have m0 : (k : Int) < (l.length : Int) := by omega
    have m1 : (0 : Int) ≤ (k : Int) := by omega
    have IX := Lib.hid (lnk_i64 (x := (x, y)) ⟨i0, i1⟩)
    have KV := Lib.hid (fun w => (show Calls Try.prog 45 #[.agg #[.int .i64 x, .int .i64 y]] w (OutV w (.bool (decide (Vd (x, y))))) from (pvalid_any (x, y) w).mono fun _ _ h => outG_V h))
    have KL := Lib.hid (fun w => (show Calls Try.prog 48 #[.agg #[.int .i64 x, .int .i64 y]] w (OutV w (.agg #[.int .i64 (lnk (x, y)).1, .int .i64 (lnk (x, y)).2])) from plink_any (x, y) w))
    unfold OutV at KV KL
    have SY := Lib.hid (fun h => sne_yes (s := l.take k) (x := (x, y)) h)
    have SN := Lib.hid (fun h => sne_no (s := l.take k) (x := (x, y)) h)
    have SS := Lib.hid (fun a => sne_snoc (l.take k) (x, y) a)
    clear hx
    obtain ⟨⟨u, v⟩, hu⟩ : ∃ z, lnk (x, y) = z := ⟨_, rfl⟩
    rw [hu] at KL IX SY SN SS
    simp only at KL
    clear hu
    by_cases hv : Vd (x, y)
    rotate_left
    · have N := Lib.hid (RS.out.trans (if_neg hv))
      rw [df hv] at KV
      clear hv RS
      go_wp2_with fail
      refine (KV.out _).mono ?_
      rintro _ w2 ⟨rfl, hb⟩
      have B2 := Lib.hid ((B.out.alloc hz (bxE x y)).trans (hb.mono (by simp; omega)))
      clear hb
      go_wp2_with fail
      go_ret
      exact outI N.out.symm B2.out
    have RV := Lib.hid (RS.out.trans (if_pos hv))
    rw [dt hv] at KV
    clear hv RS
    go_wp2_with fail
    refine (KV.out _).mono ?_
    rintro _ w2 ⟨rfl, hb⟩
    have B2 := Lib.hid ((B.out.alloc hz (bxE x y)).trans (hb.mono (by simp; omega)))
    have M2 := Lib.hid ((M.out.alloc (bxE x y)).below hb)
    have e0 := box_at hb 0 (v := .int .i64 x) rfl
    have e1 := box_at hb 1 (v := .int .i64 y) rfl
    clear hb KV g0 g1 B M
    go_wp2_with fail
    refine (KL.out _).mono ?_
    rintro _ w3 ⟨rfl, hb⟩
    have B3 := Lib.hid (B2.out.trans (hb.mono B2.out.size))
    have M3 := Lib.hid (M2.out.below hb)
    clear hb KL e0 e1 B2 M2
    have M4 := Lib.hid (M3.out.alloc (bxE u v))
    have hget := sn_get M4.out u v IX.out
    have hlt0 := M3.out.lt
    have B4 := Lib.hid (B3.out.alloc B3.out.size (bxE u v))
    by_cases hs : ∃ z ∈ l.take k, Sm z x y
    · have N := Lib.hid (RV.out.trans (if_pos hs))
      rw [SY.out hs, show (some (Value.bool true)).getD (.bool false) = .bool true from rfl] at hget
      clear hs SY SN SS
      go_wp2_with fail
      go_ret
      exact outI N.out.symm B4.out
    · have N := Lib.hid (RV.out.trans (if_neg hs))
      rw [SN.out hs, show (none : Option Value).getD (.bool false) = .bool false from rfl] at hget
      obtain ⟨w5, hput, hm5, hg5⟩ := sn_put M4.out u v IX.out (by omega)
      have M5 := Lib.hid (show SnAt w5 w.heap.size (k + 1) (sne (l.take (k + 1))) from hm5.same fun a => by rw [SS.out a, TKk.out])
      have B5 := Lib.hid (B4.out.grown hg5 B4.out.size (fun j hj => by cases hj; exact Nat.le_refl _))
      clear hs SY SN SS hm5 hg5
      go_wp2_with fail
      go_roundw
      case rel => exact ⟨k + 1, by go_num, hlt, N, M5, B5.out⟩
      case measure => simp [intOf]; omega
end Go.Proofs.Ytcnmknhjmflinaa.Tpo
