/- The reference's Deliver. -/
import Derived.Test.YtcnmknhjmflinaaRdC
import Derived.Deep.RegionHeld3
set_option linter.unusedVariables false
namespace Go.Proofs.Ytcnmknhjmflinaa.Rdo
open Go.RowKit
open Tpo (fE EdAt OwnE OwnI OutN OutL rnode_any ramong_any rsamen_any rsamee_any rnear_any rwout_any app_int near)

theorem at_zero {o : Oper} {r : List Oper} : (o :: r).toArray[0]? = some o := rfl
theorem at_succ {x o : Oper} {r : List Oper} {n : Nat} (h : r.toArray[n]? = some o) : (x :: r).toArray[n + 1]? = some o := by simpa using h
abbrev frmV (fk ff ft fs fg fq fh : Int) (fu : Bool) (fd : ByteArray) : Value := .agg #[.int .i64 fk, .int .i64 ff, .int .i64 ft, .int .i64 fs, .int .i64 fg, .int .i64 fq, .int .i64 fh, .bool fu, .string fd]
/-- Deliver's result. -/
def DelR (w : World) (r : List Int × Bool) (e : Ending) (w' : World) : Prop := ∃ A c, e = .returned (.tuple #[.slice A r.1.length c, .bool r.2]) ∧ SlS fI w' A c r.1 ∧ Below w.heap.size w w'
def rcU (s : Ar) (to : Int) (L : List Int) (k : Nat) : List Int := (L.take k).filter fun v => decide (Rcv s to v)
theorem rcU_yes {s : Ar} {to : Int} {L : List Int} {k : Nat} (hk : k < L.length) (h : Rcv s to L[k]) : rcU s to L (k + 1) = rcU s to L k ++ [L[k]] := by
  unfold rcU; rw [List.take_succ_eq_append_getElem hk, List.filter_append, List.filter_cons_of_pos (by simpa using h)]; rfl
theorem rcU_no {s : Ar} {to : Int} {L : List Int} {k : Nat} (hk : k < L.length) (h : ¬ Rcv s to L[k]) : rcU s to L (k + 1) = rcU s to L k := by
  unfold rcU; rw [List.take_succ_eq_append_getElem hk, List.filter_append, List.filter_cons_of_neg (by simpa using h)]; simp
theorem rcU_len (s : Ar) (to : Int) (L : List Int) (k : Nat) : (rcU s to L k).length ≤ L.length := by
  unfold rcU
  have := List.length_filter_le (fun v => decide (Rcv s to v)) (L.take k)
  rw [List.length_take] at this
  omega
def delS (s : Ar) (F : List Int) (f t : Int) : List Int × Bool := if f ∈ s.o then ([], false) else if t = 255 then (F, true) else (F, decide (F.length = 1) && !decide (f ∈ s.n))
theorem del_eq (a : Ar) (f t : Int) : del a f t = delS (sane a) (rcU (sane a) t (near (sane a).e f) (near (sane a).e f).length) f t := by
  unfold rcU; rw [List.take_length]; rfl
theorem rcU_zero (s : Ar) (to : Int) (L : List Int) : rcU s to L 0 = [] := rfl
theorem near_len (l : List Tpo.Ed) (f : Int) : (near l f).length ≤ 251 := Tpo.sel_len _
theorem near_i64 {l : List Int} {A : Option Addr} {w : World} {B : Nat} (h : FlAt fI w B A l) {k : Nat} (hk : k < l.length) : I64 l[k] := h.ok _ (List.getElem_mem hk)

set_option maxRecDepth 100000 in
set_option maxHeartbeats 4000000 in
theorem rdel_any (x : Hd) (a : Ar) (fk ff ft fs fg fq fh : Int) (fu : Bool) (fd : ByteArray) (w : World) (hl : Fit a) (h : AirS w x a) :
    Calls Try.prog 15 #[airV x a, frmV fk ff ft fs fg fq fh fu fd] w (DelR w (del a ff ft)) := by
  rw [del_eq]
  have LL := near_len (sane a).e ff
  have G0 := Lib.hid (rcU_zero (sane a) ft (near (sane a).e ff))
  have GL := Lib.hid (rcU_len (sane a) ft (near (sane a).e ff))
  have GN := Lib.hid (fun k hk h => rcU_no (s := sane a) (to := ft) (L := near (sane a).e ff) (k := k) hk h)
  have GY := Lib.hid (fun k hk h => rcU_yes (s := sane a) (to := ft) (L := near (sane a).e ff) (k := k) hk h)
  have KO := Lib.hid (fun w => ramong_any (saneH x a).A2 (saneH x a).c2 (sane a).o ff w (by have := (sane_fit hl).2.1; omega))
  have K3 := Lib.hid (fun w => ramong_any (saneH x a).A3 (saneH x a).c3 (sane a).n ff w (by have := (sane_fit hl).2.2; omega))
  have KN := Lib.hid (fun w => rnear_any (saneH x a).A1 (saneH x a).c1 (sane a).e ff w (by have := (sane_fit hl).1; omega))
  have KH := Lib.hid (fun (v : Int) w => rhears_any (saneH x a) (sane a) v w (sane_fit hl))
  unfold OutN at KN
  unfold OutB at KH
  generalize hG : rcU (sane a) ft (near (sane a).e ff) = G at *
  clear hG
  generalize near (sane a).e ff = L at *
  have KS := Lib.hid (fun w (h : AirS w x a) => rsane_any x a w hl h)
  unfold SaneR at KS
  have FS := sane_fit hl
  have HS := Lib.hid h.sane
  have HB := Lib.hid (fun w' (hb : Below w.heap.size w w') => h.next hb)
  clear h hl
  generalize saneH x a = y at *
  generalize sane a = s at *
  obtain ⟨A1, c1, A2, c2, A3, c3⟩ := x
  obtain ⟨E0, O0, N0⟩ := a
  obtain ⟨D1, e1, D2, e2, D3, e3⟩ := y
  obtain ⟨E, O, N⟩ := s
  obtain ⟨l1, l2, l3⟩ := FS
  simp only at l1 l2 l3
  dsimp only [airV] at KS ⊢
  have b0 : Below w.heap.size w ((w.alloc (.cells #[.slice A1 E0.length c1, .slice A2 O0.length c2, .slice A3 N0.length c3] 25)).alloc (.cells #[.int .i64 fk, .int .i64 ff, .int .i64 ft, .int .i64 fs, .int .i64 fg, .int .i64 fq, .int .i64 fh, .bool fu, .string fd] 31)) := (alloc_below w (.cells #[.slice A1 E0.length c1, .slice A2 O0.length c2, .slice A3 N0.length c3] 25)).trans ((alloc_below (w.alloc (.cells #[.slice A1 E0.length c1, .slice A2 O0.length c2, .slice A3 N0.length c3] 25)) (.cells #[.int .i64 fk, .int .i64 ff, .int .i64 ft, .int .i64 fs, .int .i64 fg, .int .i64 fq, .int .i64 fh, .bool fu, .string fd] 31)).mono (by simp))
  have hz1 : w.heap.size + 2 ≤ ((w.alloc (.cells #[.slice A1 E0.length c1, .slice A2 O0.length c2, .slice A3 N0.length c3] 25)).alloc (.cells #[.int .i64 fk, .int .i64 ff, .int .i64 ft, .int .i64 fs, .int .i64 fg, .int .i64 fq, .int .i64 fh, .bool fu, .string fd] 31)).heap.size := by simp
  have X1 : ((w.alloc (.cells #[.slice A1 E0.length c1, .slice A2 O0.length c2, .slice A3 N0.length c3] 25)).alloc (.cells #[.int .i64 fk, .int .i64 ff, .int .i64 ft, .int .i64 fs, .int .i64 fg, .int .i64 fq, .int .i64 fh, .bool fu, .string fd] 31)).heap[w.heap.size]? = some (.cells #[.slice A1 E0.length c1, .slice A2 O0.length c2, .slice A3 N0.length c3] 25) := blk_alloc (blk_new w (.cells #[.slice A1 E0.length c1, .slice A2 O0.length c2, .slice A3 N0.length c3] 25)) (.cells #[.int .i64 fk, .int .i64 ff, .int .i64 ft, .int .i64 fs, .int .i64 fg, .int .i64 fq, .int .i64 fh, .bool fu, .string fd] 31)
  have R1 : ((w.alloc (.cells #[.slice A1 E0.length c1, .slice A2 O0.length c2, .slice A3 N0.length c3] 25)).alloc (.cells #[.int .i64 fk, .int .i64 ff, .int .i64 ft, .int .i64 fs, .int .i64 fg, .int .i64 fq, .int .i64 fh, .bool fu, .string fd] 31)).heap[w.heap.size + 1]? = some (.cells #[.int .i64 fk, .int .i64 ff, .int .i64 ft, .int .i64 fs, .int .i64 fg, .int .i64 fq, .int .i64 fh, .bool fu, .string fd] 31) := by have := blk_new (w.alloc (.cells #[.slice A1 E0.length c1, .slice A2 O0.length c2, .slice A3 N0.length c3] 25)) (.cells #[.int .i64 fk, .int .i64 ff, .int .i64 ft, .int .i64 fs, .int .i64 fg, .int .i64 fq, .int .i64 fh, .bool fu, .string fd] 31); simpa using this
  have HB1 := Lib.hid (HB.out _ b0)
  go_enter Try.func15, Try.ntmps15
  go_wp2_with fail
  refine (KS.out _ HB1.out).mono ?_
  rintro _ w2 ⟨rfl, hb⟩
  have X2 := blk_below X1 hb (by omega)
  have R2 := blk_below R1 hb (by omega)
  have B2 := b0.trans (hb.mono (by omega))
  have hz2 : w.heap.size + 2 ≤ w2.heap.size := Nat.le_trans hz1 hb.size
  obtain ⟨z0, z1, z2⟩ := air_block X2
  have fr := fun j => blk_fr X2 j
  have V1 := Lib.hid (put3_blk X2 (.slice D1 E.length e1) (.slice D2 O.length e2) (.slice D3 N.length e3))
  have V2 := Lib.hid (put3_below B2 (Nat.le_refl w.heap.size) (.slice D1 E.length e1) (.slice D2 O.length e2) (.slice D3 N.length e3))
  have V3 := Lib.hid (HS.out.next V2.out)
  have V4 := put3_size w2 w.heap.size (.slice D1 E.length e1) (.slice D2 O.length e2) (.slice D3 N.length e3)
  have VR := Lib.hid (put3_other R2 (by omega : w.heap.size + 1 ≠ w.heap.size) (.slice D1 E.length e1) (.slice D2 O.length e2) (.slice D3 N.length e3))
  obtain ⟨q0, q1, q2⟩ := air_block V1.out
  have fq := fun j => blk_fr V1.out j
  unfold put3 at q0 q1 q2 fq
  clear X1 X2 B2 hb hz1 KS HB HB1 b0 R1 R2
  dsimp only at KO K3 KN ⊢
  dsimp only [airV] at KH
  have f1 := blk_cell VR.out 1 (v := .int .i64 ff) rfl
  unfold put3 at f1
  go_wp2_with fail
  obtain ⟨V, hV⟩ : ∃ V, V = put3 w2 w.heap.size (.slice D1 E.length e1) (.slice D2 O.length e2) (.slice D3 N.length e3) := ⟨_, rfl⟩
  rw [← hV] at V1 V2 V3 V4 VR
  unfold put3 at hV
  rw [← hV]
  clear hV z0 z1 z2 fr q0 q1 q2 fq f1
  have hzV : w.heap.size + 2 ≤ V.heap.size := by rw [V4]; exact hz2
  by_cases hf : ff ∈ O
  · rw [dt hf] at KO
    have R := Lib.hid (show delS ⟨E, O, N⟩ (G L.length) ff ft = ([], false) from if_pos hf)
    refine (KO.out _ V3.out.2.1.1).mono ?_
    rintro _ _ ⟨rfl, rfl⟩
    go_wp2_with fail
    go_ret2
    exact ⟨none, 0, by rw [R.out]; rfl, by rw [R.out]; exact SlS.nil _, V2.out⟩
  rw [df hf] at KO
  refine (KO.out _ V3.out.2.1.1).mono ?_
  rintro _ _ ⟨rfl, rfl⟩
  obtain ⟨q0, _, _⟩ := air_block V1.out
  have f1 := blk_cell VR.out 1 (v := .int .i64 ff) rfl
  go_wp2_with fail
  refine (KN.out _ V3.out.1.1).mono ?_
  rintro _ w3 ⟨v4, rfl, ho, hb⟩
  obtain ⟨A4, c4, rfl, hr⟩ := ho.slS
  have B3 := Lib.hid hb
  have R4 := Lib.hid hr
  have hz3 : V.heap.size ≤ w3.heap.size := hb.size
  clear hb hr ho q0 f1 KN KO
  go_wp2_with fail
  go_loopw [6, 23] (fun vo vk wr => ∃ (k : Nat) (A5 : Option Addr) (c5 : Nat), vk = .int .i64 k ∧ k ≤ L.length ∧ vo = .slice A5 (G k).length c5 ∧ Hid (OwnI wr w3.heap.size (.slice A5 (G k).length c5) (G k)) ∧ Below w3.heap.size w3 wr) (fun _ vk _ => L.length - (intOf vk).toNat)
  case atStart => exact ⟨0, none, 0, rfl, Nat.zero_le _, by rw [G0.out]; rfl, Lib.hid (by rw [G0.out]; exact OwnF.nil _ _), Below.refl _ _⟩
  case round =>
    obtain ⟨k, A5, c5, rfl, hk, rfl, O5, hb⟩ := hrel
    have B := Lib.hid hb
    have hzr := hb.size
    have VW := Lib.hid (B3.out.trans (hb.mono hz3))
    have VB := Lib.hid (blk_below V1.out VW.out (by omega))
    have VF := Lib.hid (blk_below VR.out VW.out (by omega))
    have HR := Lib.hid (V3.out.next VW.out)
    have LR := Lib.hid (R4.out.next hb)
    have LG := GL.out k
    clear hb
    by_cases hlt : k < L.length
    · obtain ⟨nb, np, rfl, hnb, g0, hI⟩ := fI_cell LR.out.1 k hlt
      have GYk := Lib.hid (GY.out k hlt)
      have GNk := Lib.hid (GN.out k hlt)
      generalize L[k] = x0 at *
      have KHk := Lib.hid (KH.out x0)
      have HC := Lib.hid (show ∀ wy, Below wr.heap.size wr wy → wy.cell? ⟨w.heap.size, 0, none⟩ = some (.slice D1 E.length e1) ∧ wy.cell? ⟨w.heap.size, 1, none⟩ = some (.slice D2 O.length e2) ∧ wy.cell? ⟨w.heap.size, 2, none⟩ = some (.slice D3 N.length e3) ∧ wy.cell? ⟨w.heap.size + 1, 1, none⟩ = some (.int .i64 ff) ∧ wy.cell? ⟨w.heap.size + 1, 2, none⟩ = some (.int .i64 ft) ∧ wy.cell? ⟨nb, np + k, none⟩ = some (.int .i64 x0) from fun wy hb => by
        have a0 := blk_below VB.out hb (by omega)
        have a1 := blk_below VF.out hb (by omega)
        obtain ⟨a2, a3, a4⟩ := air_block a0
        exact ⟨a2, a3, a4, blk_cell a1 1 rfl, blk_cell a1 2 rfl, (hb.cell (p := ⟨nb, np + k, none⟩) hnb).trans g0⟩)
      have Z0 : Below wr.heap.size wr wr.drew := below_drewN (Below.refl _ _) 1
      clear g0 VB VF GY GN KH K3
      by_cases hh : Hrs ⟨E, O, N⟩ x0
      · rw [dt hh] at KHk
        by_cases h255 : ft = 255
        · have N' := Lib.hid (GYk.out ⟨hh, Or.inl h255⟩)
          have d1 : (ft == 255) = true := by simpa using h255
          clear GYk GNk hh h255
          go_wp2_with fail
          refine wp_region_held_drew (S := (fun wy : World => wy.cell? ⟨w.heap.size, 0, none⟩ = some (.slice D1 E.length e1) ∧ wy.cell? ⟨w.heap.size, 1, none⟩ = some (.slice D2 O.length e2) ∧ wy.cell? ⟨w.heap.size, 2, none⟩ = some (.slice D3 N.length e3) ∧ wy.cell? ⟨w.heap.size + 1, 1, none⟩ = some (.int .i64 ff) ∧ wy.cell? ⟨w.heap.size + 1, 2, none⟩ = some (.int .i64 ft) ∧ wy.cell? ⟨nb, np + k, none⟩ = some (.int .i64 x0))) (by kernel_rfl) (HC.out _ Z0) (fun hHeld => ?_)
          refine wpAnyH_take (i := 0) (v := (.agg #[.slice D1 E.length e1, .slice D2 O.length e2, .slice D3 N.length e3])) at_zero (by kernel_rfl) (by kernel_rfl) (by kernel_rfl) (fun _ _ _ h => h) (Or.inl ⟨by kernel_rfl, fun wy hSw => ?_⟩) (by assumption) ?_
          · (try dsimp only at hSw); go_simp
          try simp only [Act.put, List.setIfInBounds_toArray, List.set_cons_zero, List.set_cons_succ]
          refine wpAnyH_take (i := 1) (v := (.slice (some ⟨nb, np, none⟩) L.length c4)) (at_succ at_zero) (by kernel_rfl) (by kernel_rfl) (by kernel_rfl) (fun _ _ _ h => h) (Or.inl ⟨by kernel_rfl, fun wy hSw => ?_⟩) (by assumption) ?_
          · (try dsimp only at hSw); go_simp
          try simp only [Act.put, List.setIfInBounds_toArray, List.set_cons_zero, List.set_cons_succ]
          refine wpAnyH_take (i := 2) (v := (.int .i64 k)) (at_succ (at_succ at_zero)) (by kernel_rfl) (by kernel_rfl) (by kernel_rfl) (fun _ _ _ h => h) (Or.inl ⟨by kernel_rfl, fun wy hSw => ?_⟩) (by assumption) ?_
          · (try dsimp only at hSw); go_simp
          try simp only [Act.put, List.setIfInBounds_toArray, List.set_cons_zero, List.set_cons_succ]
          refine wpAnyH_take (i := 3) (v := (.pointer (some ⟨nb, np + k, none⟩))) (at_succ (at_succ (at_succ at_zero))) (by kernel_rfl) (by kernel_rfl) (by kernel_rfl) (fun _ _ _ h => h) (Or.inl ⟨by kernel_rfl, fun wy hSw => ?_⟩) (by assumption) ?_
          · (try dsimp only at hSw); go_simp
          try simp only [Act.put, List.setIfInBounds_toArray, List.set_cons_zero, List.set_cons_succ]
          refine wpAnyH_take (i := 4) (v := (.int .i64 x0)) (at_succ (at_succ (at_succ (at_succ at_zero)))) (by kernel_rfl) (by kernel_rfl) (by kernel_rfl) (fun _ _ _ h => h) (Or.inl ⟨by kernel_rfl, fun wy hSw => ?_⟩) (by assumption) ?_
          · (try dsimp only at hSw); go_simp
          try simp only [Act.put, List.setIfInBounds_toArray, List.set_cons_zero, List.set_cons_succ]
          refine wpAnyH_ready (rs := [5]) (by kernel_rfl) (by simp) ?_
          refine AllReadyH.cons (at_succ (at_succ (at_succ (at_succ (at_succ at_zero))))) (fun K hK => ?_) AllReadyH.nil
          rw [if_pos (by kernel_rfl)]
          go_simp
          refine (KHk.out _ (HR.out.next Z0)).mono ?_
          rintro _ wz ⟨rfl, hb⟩
          have Z1 := Z0.trans (hb.mono Z0.size)
          clear hb hHeld
          go_wp2_with fail
          refine hK.out _ _ (HC.out _ Z1) (fun hHeld => ?_)
          clear hK K
          try simp only [Act.put, List.setIfInBounds_toArray, List.set_cons_zero, List.set_cons_succ]
          refine wpAnyH_take (i := 6) (v := (.bool true)) (at_succ (at_succ (at_succ (at_succ (at_succ (at_succ at_zero)))))) (by kernel_rfl) (by kernel_rfl) (by kernel_rfl) (fun _ _ _ h => h) (Or.inl ⟨by kernel_rfl, fun wy hSw => ?_⟩) (by assumption) ?_
          · (try dsimp only at hSw); go_simp
          try simp only [Act.put, List.setIfInBounds_toArray, List.set_cons_zero, List.set_cons_succ]
          refine wpAnyH_take (i := 7) (v := (.pointer (some ⟨w.heap.size + 1, 2, none⟩))) (at_succ (at_succ (at_succ (at_succ (at_succ (at_succ (at_succ at_zero))))))) (by kernel_rfl) (by kernel_rfl) (by kernel_rfl) (fun _ _ _ h => h) (Or.inl ⟨by kernel_rfl, fun wy hSw => ?_⟩) (by assumption) ?_
          · (try dsimp only at hSw); go_simp
          try simp only [Act.put, List.setIfInBounds_toArray, List.set_cons_zero, List.set_cons_succ]
          refine wpAnyH_take (i := 8) (v := (.int .i64 ft)) (at_succ (at_succ (at_succ (at_succ (at_succ (at_succ (at_succ (at_succ at_zero)))))))) (by kernel_rfl) (by kernel_rfl) (by kernel_rfl) (fun _ _ _ h => h) (Or.inl ⟨by kernel_rfl, fun wy hSw => ?_⟩) (by assumption) ?_
          · (try dsimp only at hSw); go_simp
          try simp only [Act.put, List.setIfInBounds_toArray, List.set_cons_zero, List.set_cons_succ]
          refine wpAnyH_take (i := 9) (v := (.bool true)) (at_succ (at_succ (at_succ (at_succ (at_succ (at_succ (at_succ (at_succ (at_succ at_zero))))))))) (by kernel_rfl) (by kernel_rfl) (by kernel_rfl) (fun _ _ _ h => h) (Or.inl ⟨by kernel_rfl, fun wy hSw => ?_⟩) (by assumption) ?_
          · (try dsimp only at hSw); go_simp
          try simp only [Act.put, List.setIfInBounds_toArray, List.set_cons_zero, List.set_cons_succ]
          refine wpAnyH_take (i := 10) (v := (.bool true)) (at_succ (at_succ (at_succ (at_succ (at_succ (at_succ (at_succ (at_succ (at_succ (at_succ at_zero)))))))))) (by kernel_rfl) (by kernel_rfl) (by kernel_rfl) (fun _ _ _ h => h) (Or.inl ⟨by kernel_rfl, fun wy hSw => ?_⟩) (by assumption) ?_
          · (try dsimp only at hSw); go_simp
          try simp only [Act.put, List.setIfInBounds_toArray, List.set_cons_zero, List.set_cons_succ]
          refine wpAnyH_take (i := 11) (v := undef) (at_succ (at_succ (at_succ (at_succ (at_succ (at_succ (at_succ (at_succ (at_succ (at_succ (at_succ at_zero))))))))))) (by kernel_rfl) (by kernel_rfl) (by kernel_rfl) (fun _ _ _ h => h) (Or.inr ⟨by kernel_rfl, rfl⟩) (by assumption) ?_
          try simp only [Act.put, List.setIfInBounds_toArray, List.set_cons_zero, List.set_cons_succ]
          refine wpAnyH_take (i := 12) (v := undef) (at_succ (at_succ (at_succ (at_succ (at_succ (at_succ (at_succ (at_succ (at_succ (at_succ (at_succ (at_succ at_zero)))))))))))) (by kernel_rfl) (by kernel_rfl) (by kernel_rfl) (fun _ _ _ h => h) (Or.inr ⟨by kernel_rfl, rfl⟩) (by assumption) ?_
          try simp only [Act.put, List.setIfInBounds_toArray, List.set_cons_zero, List.set_cons_succ]
          refine wpAnyH_take (i := 13) (v := undef) (at_succ (at_succ (at_succ (at_succ (at_succ (at_succ (at_succ (at_succ (at_succ (at_succ (at_succ (at_succ (at_succ at_zero))))))))))))) (by kernel_rfl) (by kernel_rfl) (by kernel_rfl) (fun _ _ _ h => h) (Or.inr ⟨by kernel_rfl, rfl⟩) (by assumption) ?_
          try simp only [Act.put, List.setIfInBounds_toArray, List.set_cons_zero, List.set_cons_succ]
          refine wpAnyH_take (i := 14) (v := undef) (at_succ (at_succ (at_succ (at_succ (at_succ (at_succ (at_succ (at_succ (at_succ (at_succ (at_succ (at_succ (at_succ (at_succ at_zero)))))))))))))) (by kernel_rfl) (by kernel_rfl) (by kernel_rfl) (fun _ _ _ h => h) (Or.inr ⟨by kernel_rfl, rfl⟩) (by assumption) ?_
          try simp only [Act.put, List.setIfInBounds_toArray, List.set_cons_zero, List.set_cons_succ]
          refine wpAnyH_take (i := 15) (v := undef) (at_succ (at_succ (at_succ (at_succ (at_succ (at_succ (at_succ (at_succ (at_succ (at_succ (at_succ (at_succ (at_succ (at_succ (at_succ at_zero))))))))))))))) (by kernel_rfl) (by kernel_rfl) (by kernel_rfl) (fun _ _ _ h => h) (Or.inr ⟨by kernel_rfl, rfl⟩) (by assumption) ?_
          try simp only [Act.put, List.setIfInBounds_toArray, List.set_cons_zero, List.set_cons_succ]
          refine wpAnyH_take (i := 16) (v := undef) (at_succ (at_succ (at_succ (at_succ (at_succ (at_succ (at_succ (at_succ (at_succ (at_succ (at_succ (at_succ (at_succ (at_succ (at_succ (at_succ at_zero)))))))))))))))) (by kernel_rfl) (by kernel_rfl) (by kernel_rfl) (fun _ _ _ h => h) (Or.inr ⟨by kernel_rfl, rfl⟩) (by assumption) ?_
          try simp only [Act.put, List.setIfInBounds_toArray, List.set_cons_zero, List.set_cons_succ]
          refine wpAnyH_take (i := 17) (v := undef) (at_succ (at_succ (at_succ (at_succ (at_succ (at_succ (at_succ (at_succ (at_succ (at_succ (at_succ (at_succ (at_succ (at_succ (at_succ (at_succ (at_succ at_zero))))))))))))))))) (by kernel_rfl) (by kernel_rfl) (by kernel_rfl) (fun _ _ _ h => h) (Or.inr ⟨by kernel_rfl, rfl⟩) (by assumption) ?_
          try simp only [Act.put, List.setIfInBounds_toArray, List.set_cons_zero, List.set_cons_succ]
          refine wpAnyH_take (i := 18) (v := (.bool true)) (at_succ (at_succ (at_succ (at_succ (at_succ (at_succ (at_succ (at_succ (at_succ (at_succ (at_succ (at_succ (at_succ (at_succ (at_succ (at_succ (at_succ (at_succ at_zero)))))))))))))))))) (by kernel_rfl) (by kernel_rfl) (by kernel_rfl) (fun _ _ _ h => h) (Or.inl ⟨by kernel_rfl, fun wy hSw => ?_⟩) (by assumption) ?_
          · (try dsimp only at hSw); go_simp
          try simp only [Act.put, List.setIfInBounds_toArray, List.set_cons_zero, List.set_cons_succ]
          refine wpAnyH_take (i := 19) (v := (.bool true)) (at_succ (at_succ (at_succ (at_succ (at_succ (at_succ (at_succ (at_succ (at_succ (at_succ (at_succ (at_succ (at_succ (at_succ (at_succ (at_succ (at_succ (at_succ (at_succ at_zero))))))))))))))))))) (by kernel_rfl) (by kernel_rfl) (by kernel_rfl) (fun _ _ _ h => h) (Or.inl ⟨by kernel_rfl, fun wy hSw => ?_⟩) (by assumption) ?_
          · (try dsimp only at hSw); go_simp
          try simp only [Act.put, List.setIfInBounds_toArray, List.set_cons_zero, List.set_cons_succ]
          refine wpAnyH_done (by kernel_rfl) ?_ _
          have BZ := Lib.hid (B.out.trans (Z1.mono hzr))
          have g0 := (HC.out _ Z1).2.2.2.2.2
          obtain ⟨v6, w6, hap, ho6, hb6⟩ := app_int (O5.out.below Z1) x0 hI (by omega) BZ.out.size
          obtain ⟨A6, c6, e6, _⟩ := ho6.form
          subst e6
          have L6 := Lib.hid (show (G k ++ [x0]).length = (G (k + 1)).length by rw [N'.out])
          have O6 := Lib.hid (show OwnI w6 w3.heap.size (.slice A6 (G (k + 1)).length c6) (G (k + 1)) by rw [N'.out]; exact ho6)
          have B6 := Lib.hid (BZ.out.trans hb6)
          rw [L6.out] at hap
          clear ho6 hb6
          go_wp2_with (at_builtin; refine Lib.wpList_append_run _ rfl _ _ _ _ rfl _ _ rfl rfl _ _ hap ?_)
          go_roundw
          case rel => exact ⟨k + 1, A6, c6, by go_num, hlt, rfl, O6, B6.out⟩
          case measure => simp [intOf]; omega
        by_cases hto : ft = x0
        · have N' := Lib.hid (GYk.out ⟨hh, Or.inr hto⟩)
          have d1 : (ft == 255) = false := by simpa using h255
          have d2 : (ft == x0) = true := by simpa using hto
          clear GYk GNk hh h255 hto
          go_wp2_with fail
          refine wp_region_held_drew (S := (fun wy : World => wy.cell? ⟨w.heap.size, 0, none⟩ = some (.slice D1 E.length e1) ∧ wy.cell? ⟨w.heap.size, 1, none⟩ = some (.slice D2 O.length e2) ∧ wy.cell? ⟨w.heap.size, 2, none⟩ = some (.slice D3 N.length e3) ∧ wy.cell? ⟨w.heap.size + 1, 1, none⟩ = some (.int .i64 ff) ∧ wy.cell? ⟨w.heap.size + 1, 2, none⟩ = some (.int .i64 ft) ∧ wy.cell? ⟨nb, np + k, none⟩ = some (.int .i64 x0))) (by kernel_rfl) (HC.out _ Z0) (fun hHeld => ?_)
          refine wpAnyH_take (i := 0) (v := (.agg #[.slice D1 E.length e1, .slice D2 O.length e2, .slice D3 N.length e3])) at_zero (by kernel_rfl) (by kernel_rfl) (by kernel_rfl) (fun _ _ _ h => h) (Or.inl ⟨by kernel_rfl, fun wy hSw => ?_⟩) (by assumption) ?_
          · (try dsimp only at hSw); go_simp
          try simp only [Act.put, List.setIfInBounds_toArray, List.set_cons_zero, List.set_cons_succ]
          refine wpAnyH_take (i := 1) (v := (.slice (some ⟨nb, np, none⟩) L.length c4)) (at_succ at_zero) (by kernel_rfl) (by kernel_rfl) (by kernel_rfl) (fun _ _ _ h => h) (Or.inl ⟨by kernel_rfl, fun wy hSw => ?_⟩) (by assumption) ?_
          · (try dsimp only at hSw); go_simp
          try simp only [Act.put, List.setIfInBounds_toArray, List.set_cons_zero, List.set_cons_succ]
          refine wpAnyH_take (i := 2) (v := (.int .i64 k)) (at_succ (at_succ at_zero)) (by kernel_rfl) (by kernel_rfl) (by kernel_rfl) (fun _ _ _ h => h) (Or.inl ⟨by kernel_rfl, fun wy hSw => ?_⟩) (by assumption) ?_
          · (try dsimp only at hSw); go_simp
          try simp only [Act.put, List.setIfInBounds_toArray, List.set_cons_zero, List.set_cons_succ]
          refine wpAnyH_take (i := 3) (v := (.pointer (some ⟨nb, np + k, none⟩))) (at_succ (at_succ (at_succ at_zero))) (by kernel_rfl) (by kernel_rfl) (by kernel_rfl) (fun _ _ _ h => h) (Or.inl ⟨by kernel_rfl, fun wy hSw => ?_⟩) (by assumption) ?_
          · (try dsimp only at hSw); go_simp
          try simp only [Act.put, List.setIfInBounds_toArray, List.set_cons_zero, List.set_cons_succ]
          refine wpAnyH_take (i := 4) (v := (.int .i64 x0)) (at_succ (at_succ (at_succ (at_succ at_zero)))) (by kernel_rfl) (by kernel_rfl) (by kernel_rfl) (fun _ _ _ h => h) (Or.inl ⟨by kernel_rfl, fun wy hSw => ?_⟩) (by assumption) ?_
          · (try dsimp only at hSw); go_simp
          try simp only [Act.put, List.setIfInBounds_toArray, List.set_cons_zero, List.set_cons_succ]
          refine wpAnyH_ready (rs := [5]) (by kernel_rfl) (by simp) ?_
          refine AllReadyH.cons (at_succ (at_succ (at_succ (at_succ (at_succ at_zero))))) (fun K hK => ?_) AllReadyH.nil
          rw [if_pos (by kernel_rfl)]
          go_simp
          refine (KHk.out _ (HR.out.next Z0)).mono ?_
          rintro _ wz ⟨rfl, hb⟩
          have Z1 := Z0.trans (hb.mono Z0.size)
          clear hb hHeld
          go_wp2_with fail
          refine hK.out _ _ (HC.out _ Z1) (fun hHeld => ?_)
          clear hK K
          try simp only [Act.put, List.setIfInBounds_toArray, List.set_cons_zero, List.set_cons_succ]
          refine wpAnyH_take (i := 6) (v := (.bool true)) (at_succ (at_succ (at_succ (at_succ (at_succ (at_succ at_zero)))))) (by kernel_rfl) (by kernel_rfl) (by kernel_rfl) (fun _ _ _ h => h) (Or.inl ⟨by kernel_rfl, fun wy hSw => ?_⟩) (by assumption) ?_
          · (try dsimp only at hSw); go_simp
          try simp only [Act.put, List.setIfInBounds_toArray, List.set_cons_zero, List.set_cons_succ]
          refine wpAnyH_take (i := 7) (v := (.pointer (some ⟨w.heap.size + 1, 2, none⟩))) (at_succ (at_succ (at_succ (at_succ (at_succ (at_succ (at_succ at_zero))))))) (by kernel_rfl) (by kernel_rfl) (by kernel_rfl) (fun _ _ _ h => h) (Or.inl ⟨by kernel_rfl, fun wy hSw => ?_⟩) (by assumption) ?_
          · (try dsimp only at hSw); go_simp
          try simp only [Act.put, List.setIfInBounds_toArray, List.set_cons_zero, List.set_cons_succ]
          refine wpAnyH_take (i := 8) (v := (.int .i64 ft)) (at_succ (at_succ (at_succ (at_succ (at_succ (at_succ (at_succ (at_succ at_zero)))))))) (by kernel_rfl) (by kernel_rfl) (by kernel_rfl) (fun _ _ _ h => h) (Or.inl ⟨by kernel_rfl, fun wy hSw => ?_⟩) (by assumption) ?_
          · (try dsimp only at hSw); go_simp
          try simp only [Act.put, List.setIfInBounds_toArray, List.set_cons_zero, List.set_cons_succ]
          refine wpAnyH_take (i := 9) (v := (.bool false)) (at_succ (at_succ (at_succ (at_succ (at_succ (at_succ (at_succ (at_succ (at_succ at_zero))))))))) (by kernel_rfl) (by kernel_rfl) (by kernel_rfl) (fun _ _ _ h => h) (Or.inl ⟨by kernel_rfl, fun wy hSw => ?_⟩) (by assumption) ?_
          · (try dsimp only at hSw); go_simp
          try simp only [Act.put, List.setIfInBounds_toArray, List.set_cons_zero, List.set_cons_succ]
          refine wpAnyH_take (i := 10) (v := (.bool false)) (at_succ (at_succ (at_succ (at_succ (at_succ (at_succ (at_succ (at_succ (at_succ (at_succ at_zero)))))))))) (by kernel_rfl) (by kernel_rfl) (by kernel_rfl) (fun _ _ _ h => h) (Or.inl ⟨by kernel_rfl, fun wy hSw => ?_⟩) (by assumption) ?_
          · (try dsimp only at hSw); go_simp
          try simp only [Act.put, List.setIfInBounds_toArray, List.set_cons_zero, List.set_cons_succ]
          refine wpAnyH_take (i := 11) (v := (.pointer (some ⟨w.heap.size + 1, 2, none⟩))) (at_succ (at_succ (at_succ (at_succ (at_succ (at_succ (at_succ (at_succ (at_succ (at_succ (at_succ at_zero))))))))))) (by kernel_rfl) (by kernel_rfl) (by kernel_rfl) (fun _ _ _ h => h) (Or.inl ⟨by kernel_rfl, fun wy hSw => ?_⟩) (by assumption) ?_
          · (try dsimp only at hSw); go_simp
          try simp only [Act.put, List.setIfInBounds_toArray, List.set_cons_zero, List.set_cons_succ]
          refine wpAnyH_take (i := 12) (v := (.int .i64 ft)) (at_succ (at_succ (at_succ (at_succ (at_succ (at_succ (at_succ (at_succ (at_succ (at_succ (at_succ (at_succ at_zero)))))))))))) (by kernel_rfl) (by kernel_rfl) (by kernel_rfl) (fun _ _ _ h => h) (Or.inl ⟨by kernel_rfl, fun wy hSw => ?_⟩) (by assumption) ?_
          · (try dsimp only at hSw); go_simp
          try simp only [Act.put, List.setIfInBounds_toArray, List.set_cons_zero, List.set_cons_succ]
          refine wpAnyH_take (i := 13) (v := (.slice (some ⟨nb, np, none⟩) L.length c4)) (at_succ (at_succ (at_succ (at_succ (at_succ (at_succ (at_succ (at_succ (at_succ (at_succ (at_succ (at_succ (at_succ at_zero))))))))))))) (by kernel_rfl) (by kernel_rfl) (by kernel_rfl) (fun _ _ _ h => h) (Or.inl ⟨by kernel_rfl, fun wy hSw => ?_⟩) (by assumption) ?_
          · (try dsimp only at hSw); go_simp
          try simp only [Act.put, List.setIfInBounds_toArray, List.set_cons_zero, List.set_cons_succ]
          refine wpAnyH_take (i := 14) (v := (.int .i64 k)) (at_succ (at_succ (at_succ (at_succ (at_succ (at_succ (at_succ (at_succ (at_succ (at_succ (at_succ (at_succ (at_succ (at_succ at_zero)))))))))))))) (by kernel_rfl) (by kernel_rfl) (by kernel_rfl) (fun _ _ _ h => h) (Or.inl ⟨by kernel_rfl, fun wy hSw => ?_⟩) (by assumption) ?_
          · (try dsimp only at hSw); go_simp
          try simp only [Act.put, List.setIfInBounds_toArray, List.set_cons_zero, List.set_cons_succ]
          refine wpAnyH_take (i := 15) (v := (.pointer (some ⟨nb, np + k, none⟩))) (at_succ (at_succ (at_succ (at_succ (at_succ (at_succ (at_succ (at_succ (at_succ (at_succ (at_succ (at_succ (at_succ (at_succ (at_succ at_zero))))))))))))))) (by kernel_rfl) (by kernel_rfl) (by kernel_rfl) (fun _ _ _ h => h) (Or.inl ⟨by kernel_rfl, fun wy hSw => ?_⟩) (by assumption) ?_
          · (try dsimp only at hSw); go_simp
          try simp only [Act.put, List.setIfInBounds_toArray, List.set_cons_zero, List.set_cons_succ]
          refine wpAnyH_take (i := 16) (v := (.int .i64 x0)) (at_succ (at_succ (at_succ (at_succ (at_succ (at_succ (at_succ (at_succ (at_succ (at_succ (at_succ (at_succ (at_succ (at_succ (at_succ (at_succ at_zero)))))))))))))))) (by kernel_rfl) (by kernel_rfl) (by kernel_rfl) (fun _ _ _ h => h) (Or.inl ⟨by kernel_rfl, fun wy hSw => ?_⟩) (by assumption) ?_
          · (try dsimp only at hSw); go_simp
          try simp only [Act.put, List.setIfInBounds_toArray, List.set_cons_zero, List.set_cons_succ]
          refine wpAnyH_take (i := 17) (v := (.bool true)) (at_succ (at_succ (at_succ (at_succ (at_succ (at_succ (at_succ (at_succ (at_succ (at_succ (at_succ (at_succ (at_succ (at_succ (at_succ (at_succ (at_succ at_zero))))))))))))))))) (by kernel_rfl) (by kernel_rfl) (by kernel_rfl) (fun _ _ _ h => h) (Or.inl ⟨by kernel_rfl, fun wy hSw => ?_⟩) (by assumption) ?_
          · (try dsimp only at hSw); go_simp
          try simp only [Act.put, List.setIfInBounds_toArray, List.set_cons_zero, List.set_cons_succ]
          refine wpAnyH_take (i := 18) (v := (.bool true)) (at_succ (at_succ (at_succ (at_succ (at_succ (at_succ (at_succ (at_succ (at_succ (at_succ (at_succ (at_succ (at_succ (at_succ (at_succ (at_succ (at_succ (at_succ at_zero)))))))))))))))))) (by kernel_rfl) (by kernel_rfl) (by kernel_rfl) (fun _ _ _ h => h) (Or.inl ⟨by kernel_rfl, fun wy hSw => ?_⟩) (by assumption) ?_
          · (try dsimp only at hSw); go_simp
          try simp only [Act.put, List.setIfInBounds_toArray, List.set_cons_zero, List.set_cons_succ]
          refine wpAnyH_take (i := 19) (v := (.bool true)) (at_succ (at_succ (at_succ (at_succ (at_succ (at_succ (at_succ (at_succ (at_succ (at_succ (at_succ (at_succ (at_succ (at_succ (at_succ (at_succ (at_succ (at_succ (at_succ at_zero))))))))))))))))))) (by kernel_rfl) (by kernel_rfl) (by kernel_rfl) (fun _ _ _ h => h) (Or.inl ⟨by kernel_rfl, fun wy hSw => ?_⟩) (by assumption) ?_
          · (try dsimp only at hSw); go_simp
          try simp only [Act.put, List.setIfInBounds_toArray, List.set_cons_zero, List.set_cons_succ]
          refine wpAnyH_done (by kernel_rfl) ?_ _
          have BZ := Lib.hid (B.out.trans (Z1.mono hzr))
          have g0 := (HC.out _ Z1).2.2.2.2.2
          obtain ⟨v6, w6, hap, ho6, hb6⟩ := app_int (O5.out.below Z1) x0 hI (by omega) BZ.out.size
          obtain ⟨A6, c6, e6, _⟩ := ho6.form
          subst e6
          have L6 := Lib.hid (show (G k ++ [x0]).length = (G (k + 1)).length by rw [N'.out])
          have O6 := Lib.hid (show OwnI w6 w3.heap.size (.slice A6 (G (k + 1)).length c6) (G (k + 1)) by rw [N'.out]; exact ho6)
          have B6 := Lib.hid (BZ.out.trans hb6)
          rw [L6.out] at hap
          clear ho6 hb6
          go_wp2_with (at_builtin; refine Lib.wpList_append_run _ rfl _ _ _ _ rfl _ _ rfl rfl _ _ hap ?_)
          go_roundw
          case rel => exact ⟨k + 1, A6, c6, by go_num, hlt, rfl, O6, B6.out⟩
          case measure => simp [intOf]; omega
        · have N' := Lib.hid (GNk.out fun q => q.2.elim h255 hto)
          have d1 : (ft == 255) = false := by simpa using h255
          have d2 : (ft == x0) = false := by simpa using hto
          clear GYk GNk hh h255 hto
          go_wp2_with fail
          refine wp_region_held_drew (S := (fun wy : World => wy.cell? ⟨w.heap.size, 0, none⟩ = some (.slice D1 E.length e1) ∧ wy.cell? ⟨w.heap.size, 1, none⟩ = some (.slice D2 O.length e2) ∧ wy.cell? ⟨w.heap.size, 2, none⟩ = some (.slice D3 N.length e3) ∧ wy.cell? ⟨w.heap.size + 1, 1, none⟩ = some (.int .i64 ff) ∧ wy.cell? ⟨w.heap.size + 1, 2, none⟩ = some (.int .i64 ft) ∧ wy.cell? ⟨nb, np + k, none⟩ = some (.int .i64 x0))) (by kernel_rfl) (HC.out _ Z0) (fun hHeld => ?_)
          refine wpAnyH_take (i := 0) (v := (.agg #[.slice D1 E.length e1, .slice D2 O.length e2, .slice D3 N.length e3])) at_zero (by kernel_rfl) (by kernel_rfl) (by kernel_rfl) (fun _ _ _ h => h) (Or.inl ⟨by kernel_rfl, fun wy hSw => ?_⟩) (by assumption) ?_
          · (try dsimp only at hSw); go_simp
          try simp only [Act.put, List.setIfInBounds_toArray, List.set_cons_zero, List.set_cons_succ]
          refine wpAnyH_take (i := 1) (v := (.slice (some ⟨nb, np, none⟩) L.length c4)) (at_succ at_zero) (by kernel_rfl) (by kernel_rfl) (by kernel_rfl) (fun _ _ _ h => h) (Or.inl ⟨by kernel_rfl, fun wy hSw => ?_⟩) (by assumption) ?_
          · (try dsimp only at hSw); go_simp
          try simp only [Act.put, List.setIfInBounds_toArray, List.set_cons_zero, List.set_cons_succ]
          refine wpAnyH_take (i := 2) (v := (.int .i64 k)) (at_succ (at_succ at_zero)) (by kernel_rfl) (by kernel_rfl) (by kernel_rfl) (fun _ _ _ h => h) (Or.inl ⟨by kernel_rfl, fun wy hSw => ?_⟩) (by assumption) ?_
          · (try dsimp only at hSw); go_simp
          try simp only [Act.put, List.setIfInBounds_toArray, List.set_cons_zero, List.set_cons_succ]
          refine wpAnyH_take (i := 3) (v := (.pointer (some ⟨nb, np + k, none⟩))) (at_succ (at_succ (at_succ at_zero))) (by kernel_rfl) (by kernel_rfl) (by kernel_rfl) (fun _ _ _ h => h) (Or.inl ⟨by kernel_rfl, fun wy hSw => ?_⟩) (by assumption) ?_
          · (try dsimp only at hSw); go_simp
          try simp only [Act.put, List.setIfInBounds_toArray, List.set_cons_zero, List.set_cons_succ]
          refine wpAnyH_take (i := 4) (v := (.int .i64 x0)) (at_succ (at_succ (at_succ (at_succ at_zero)))) (by kernel_rfl) (by kernel_rfl) (by kernel_rfl) (fun _ _ _ h => h) (Or.inl ⟨by kernel_rfl, fun wy hSw => ?_⟩) (by assumption) ?_
          · (try dsimp only at hSw); go_simp
          try simp only [Act.put, List.setIfInBounds_toArray, List.set_cons_zero, List.set_cons_succ]
          refine wpAnyH_ready (rs := [5]) (by kernel_rfl) (by simp) ?_
          refine AllReadyH.cons (at_succ (at_succ (at_succ (at_succ (at_succ at_zero))))) (fun K hK => ?_) AllReadyH.nil
          rw [if_pos (by kernel_rfl)]
          go_simp
          refine (KHk.out _ (HR.out.next Z0)).mono ?_
          rintro _ wz ⟨rfl, hb⟩
          have Z1 := Z0.trans (hb.mono Z0.size)
          clear hb hHeld
          go_wp2_with fail
          refine hK.out _ _ (HC.out _ Z1) (fun hHeld => ?_)
          clear hK K
          try simp only [Act.put, List.setIfInBounds_toArray, List.set_cons_zero, List.set_cons_succ]
          refine wpAnyH_take (i := 6) (v := (.bool true)) (at_succ (at_succ (at_succ (at_succ (at_succ (at_succ at_zero)))))) (by kernel_rfl) (by kernel_rfl) (by kernel_rfl) (fun _ _ _ h => h) (Or.inl ⟨by kernel_rfl, fun wy hSw => ?_⟩) (by assumption) ?_
          · (try dsimp only at hSw); go_simp
          try simp only [Act.put, List.setIfInBounds_toArray, List.set_cons_zero, List.set_cons_succ]
          refine wpAnyH_take (i := 7) (v := (.pointer (some ⟨w.heap.size + 1, 2, none⟩))) (at_succ (at_succ (at_succ (at_succ (at_succ (at_succ (at_succ at_zero))))))) (by kernel_rfl) (by kernel_rfl) (by kernel_rfl) (fun _ _ _ h => h) (Or.inl ⟨by kernel_rfl, fun wy hSw => ?_⟩) (by assumption) ?_
          · (try dsimp only at hSw); go_simp
          try simp only [Act.put, List.setIfInBounds_toArray, List.set_cons_zero, List.set_cons_succ]
          refine wpAnyH_take (i := 8) (v := (.int .i64 ft)) (at_succ (at_succ (at_succ (at_succ (at_succ (at_succ (at_succ (at_succ at_zero)))))))) (by kernel_rfl) (by kernel_rfl) (by kernel_rfl) (fun _ _ _ h => h) (Or.inl ⟨by kernel_rfl, fun wy hSw => ?_⟩) (by assumption) ?_
          · (try dsimp only at hSw); go_simp
          try simp only [Act.put, List.setIfInBounds_toArray, List.set_cons_zero, List.set_cons_succ]
          refine wpAnyH_take (i := 9) (v := (.bool false)) (at_succ (at_succ (at_succ (at_succ (at_succ (at_succ (at_succ (at_succ (at_succ at_zero))))))))) (by kernel_rfl) (by kernel_rfl) (by kernel_rfl) (fun _ _ _ h => h) (Or.inl ⟨by kernel_rfl, fun wy hSw => ?_⟩) (by assumption) ?_
          · (try dsimp only at hSw); go_simp
          try simp only [Act.put, List.setIfInBounds_toArray, List.set_cons_zero, List.set_cons_succ]
          refine wpAnyH_take (i := 10) (v := (.bool false)) (at_succ (at_succ (at_succ (at_succ (at_succ (at_succ (at_succ (at_succ (at_succ (at_succ at_zero)))))))))) (by kernel_rfl) (by kernel_rfl) (by kernel_rfl) (fun _ _ _ h => h) (Or.inl ⟨by kernel_rfl, fun wy hSw => ?_⟩) (by assumption) ?_
          · (try dsimp only at hSw); go_simp
          try simp only [Act.put, List.setIfInBounds_toArray, List.set_cons_zero, List.set_cons_succ]
          refine wpAnyH_take (i := 11) (v := (.pointer (some ⟨w.heap.size + 1, 2, none⟩))) (at_succ (at_succ (at_succ (at_succ (at_succ (at_succ (at_succ (at_succ (at_succ (at_succ (at_succ at_zero))))))))))) (by kernel_rfl) (by kernel_rfl) (by kernel_rfl) (fun _ _ _ h => h) (Or.inl ⟨by kernel_rfl, fun wy hSw => ?_⟩) (by assumption) ?_
          · (try dsimp only at hSw); go_simp
          try simp only [Act.put, List.setIfInBounds_toArray, List.set_cons_zero, List.set_cons_succ]
          refine wpAnyH_take (i := 12) (v := (.int .i64 ft)) (at_succ (at_succ (at_succ (at_succ (at_succ (at_succ (at_succ (at_succ (at_succ (at_succ (at_succ (at_succ at_zero)))))))))))) (by kernel_rfl) (by kernel_rfl) (by kernel_rfl) (fun _ _ _ h => h) (Or.inl ⟨by kernel_rfl, fun wy hSw => ?_⟩) (by assumption) ?_
          · (try dsimp only at hSw); go_simp
          try simp only [Act.put, List.setIfInBounds_toArray, List.set_cons_zero, List.set_cons_succ]
          refine wpAnyH_take (i := 13) (v := (.slice (some ⟨nb, np, none⟩) L.length c4)) (at_succ (at_succ (at_succ (at_succ (at_succ (at_succ (at_succ (at_succ (at_succ (at_succ (at_succ (at_succ (at_succ at_zero))))))))))))) (by kernel_rfl) (by kernel_rfl) (by kernel_rfl) (fun _ _ _ h => h) (Or.inl ⟨by kernel_rfl, fun wy hSw => ?_⟩) (by assumption) ?_
          · (try dsimp only at hSw); go_simp
          try simp only [Act.put, List.setIfInBounds_toArray, List.set_cons_zero, List.set_cons_succ]
          refine wpAnyH_take (i := 14) (v := (.int .i64 k)) (at_succ (at_succ (at_succ (at_succ (at_succ (at_succ (at_succ (at_succ (at_succ (at_succ (at_succ (at_succ (at_succ (at_succ at_zero)))))))))))))) (by kernel_rfl) (by kernel_rfl) (by kernel_rfl) (fun _ _ _ h => h) (Or.inl ⟨by kernel_rfl, fun wy hSw => ?_⟩) (by assumption) ?_
          · (try dsimp only at hSw); go_simp
          try simp only [Act.put, List.setIfInBounds_toArray, List.set_cons_zero, List.set_cons_succ]
          refine wpAnyH_take (i := 15) (v := (.pointer (some ⟨nb, np + k, none⟩))) (at_succ (at_succ (at_succ (at_succ (at_succ (at_succ (at_succ (at_succ (at_succ (at_succ (at_succ (at_succ (at_succ (at_succ (at_succ at_zero))))))))))))))) (by kernel_rfl) (by kernel_rfl) (by kernel_rfl) (fun _ _ _ h => h) (Or.inl ⟨by kernel_rfl, fun wy hSw => ?_⟩) (by assumption) ?_
          · (try dsimp only at hSw); go_simp
          try simp only [Act.put, List.setIfInBounds_toArray, List.set_cons_zero, List.set_cons_succ]
          refine wpAnyH_take (i := 16) (v := (.int .i64 x0)) (at_succ (at_succ (at_succ (at_succ (at_succ (at_succ (at_succ (at_succ (at_succ (at_succ (at_succ (at_succ (at_succ (at_succ (at_succ (at_succ at_zero)))))))))))))))) (by kernel_rfl) (by kernel_rfl) (by kernel_rfl) (fun _ _ _ h => h) (Or.inl ⟨by kernel_rfl, fun wy hSw => ?_⟩) (by assumption) ?_
          · (try dsimp only at hSw); go_simp
          try simp only [Act.put, List.setIfInBounds_toArray, List.set_cons_zero, List.set_cons_succ]
          refine wpAnyH_take (i := 17) (v := (.bool false)) (at_succ (at_succ (at_succ (at_succ (at_succ (at_succ (at_succ (at_succ (at_succ (at_succ (at_succ (at_succ (at_succ (at_succ (at_succ (at_succ (at_succ at_zero))))))))))))))))) (by kernel_rfl) (by kernel_rfl) (by kernel_rfl) (fun _ _ _ h => h) (Or.inl ⟨by kernel_rfl, fun wy hSw => ?_⟩) (by assumption) ?_
          · (try dsimp only at hSw); go_simp
          try simp only [Act.put, List.setIfInBounds_toArray, List.set_cons_zero, List.set_cons_succ]
          refine wpAnyH_take (i := 18) (v := (.bool false)) (at_succ (at_succ (at_succ (at_succ (at_succ (at_succ (at_succ (at_succ (at_succ (at_succ (at_succ (at_succ (at_succ (at_succ (at_succ (at_succ (at_succ (at_succ at_zero)))))))))))))))))) (by kernel_rfl) (by kernel_rfl) (by kernel_rfl) (fun _ _ _ h => h) (Or.inl ⟨by kernel_rfl, fun wy hSw => ?_⟩) (by assumption) ?_
          · (try dsimp only at hSw); go_simp
          try simp only [Act.put, List.setIfInBounds_toArray, List.set_cons_zero, List.set_cons_succ]
          refine wpAnyH_take (i := 19) (v := (.bool false)) (at_succ (at_succ (at_succ (at_succ (at_succ (at_succ (at_succ (at_succ (at_succ (at_succ (at_succ (at_succ (at_succ (at_succ (at_succ (at_succ (at_succ (at_succ (at_succ at_zero))))))))))))))))))) (by kernel_rfl) (by kernel_rfl) (by kernel_rfl) (fun _ _ _ h => h) (Or.inl ⟨by kernel_rfl, fun wy hSw => ?_⟩) (by assumption) ?_
          · (try dsimp only at hSw); go_simp
          try simp only [Act.put, List.setIfInBounds_toArray, List.set_cons_zero, List.set_cons_succ]
          refine wpAnyH_done (by kernel_rfl) ?_ _
          have BZ := Lib.hid (B.out.trans (Z1.mono hzr))
          have OZ := Lib.hid (O5.out.below Z1)
          go_wp2_with fail
          go_roundw
          case rel => exact ⟨k + 1, A5, c5, by go_num, hlt, by rw [N'.out], Lib.hid (by rw [N'.out]; exact OZ.out), BZ.out⟩
          case measure => simp [intOf]; omega
      · have N' := Lib.hid (GNk.out fun q => hh q.1)
        rw [df hh] at KHk
        clear GYk GNk hh
        go_wp2_with fail
        refine wp_region_held_drew (S := (fun wy : World => wy.cell? ⟨w.heap.size, 0, none⟩ = some (.slice D1 E.length e1) ∧ wy.cell? ⟨w.heap.size, 1, none⟩ = some (.slice D2 O.length e2) ∧ wy.cell? ⟨w.heap.size, 2, none⟩ = some (.slice D3 N.length e3) ∧ wy.cell? ⟨w.heap.size + 1, 1, none⟩ = some (.int .i64 ff) ∧ wy.cell? ⟨w.heap.size + 1, 2, none⟩ = some (.int .i64 ft) ∧ wy.cell? ⟨nb, np + k, none⟩ = some (.int .i64 x0))) (by kernel_rfl) (HC.out _ Z0) (fun hHeld => ?_)
        refine wpAnyH_take (i := 0) (v := (.agg #[.slice D1 E.length e1, .slice D2 O.length e2, .slice D3 N.length e3])) at_zero (by kernel_rfl) (by kernel_rfl) (by kernel_rfl) (fun _ _ _ h => h) (Or.inl ⟨by kernel_rfl, fun wy hSw => ?_⟩) (by assumption) ?_
        · (try dsimp only at hSw); go_simp
        try simp only [Act.put, List.setIfInBounds_toArray, List.set_cons_zero, List.set_cons_succ]
        refine wpAnyH_take (i := 1) (v := (.slice (some ⟨nb, np, none⟩) L.length c4)) (at_succ at_zero) (by kernel_rfl) (by kernel_rfl) (by kernel_rfl) (fun _ _ _ h => h) (Or.inl ⟨by kernel_rfl, fun wy hSw => ?_⟩) (by assumption) ?_
        · (try dsimp only at hSw); go_simp
        try simp only [Act.put, List.setIfInBounds_toArray, List.set_cons_zero, List.set_cons_succ]
        refine wpAnyH_take (i := 2) (v := (.int .i64 k)) (at_succ (at_succ at_zero)) (by kernel_rfl) (by kernel_rfl) (by kernel_rfl) (fun _ _ _ h => h) (Or.inl ⟨by kernel_rfl, fun wy hSw => ?_⟩) (by assumption) ?_
        · (try dsimp only at hSw); go_simp
        try simp only [Act.put, List.setIfInBounds_toArray, List.set_cons_zero, List.set_cons_succ]
        refine wpAnyH_take (i := 3) (v := (.pointer (some ⟨nb, np + k, none⟩))) (at_succ (at_succ (at_succ at_zero))) (by kernel_rfl) (by kernel_rfl) (by kernel_rfl) (fun _ _ _ h => h) (Or.inl ⟨by kernel_rfl, fun wy hSw => ?_⟩) (by assumption) ?_
        · (try dsimp only at hSw); go_simp
        try simp only [Act.put, List.setIfInBounds_toArray, List.set_cons_zero, List.set_cons_succ]
        refine wpAnyH_take (i := 4) (v := (.int .i64 x0)) (at_succ (at_succ (at_succ (at_succ at_zero)))) (by kernel_rfl) (by kernel_rfl) (by kernel_rfl) (fun _ _ _ h => h) (Or.inl ⟨by kernel_rfl, fun wy hSw => ?_⟩) (by assumption) ?_
        · (try dsimp only at hSw); go_simp
        try simp only [Act.put, List.setIfInBounds_toArray, List.set_cons_zero, List.set_cons_succ]
        refine wpAnyH_ready (rs := [5]) (by kernel_rfl) (by simp) ?_
        refine AllReadyH.cons (at_succ (at_succ (at_succ (at_succ (at_succ at_zero))))) (fun K hK => ?_) AllReadyH.nil
        rw [if_pos (by kernel_rfl)]
        go_simp
        refine (KHk.out _ (HR.out.next Z0)).mono ?_
        rintro _ wz ⟨rfl, hb⟩
        have Z1 := Z0.trans (hb.mono Z0.size)
        clear hb hHeld
        go_wp2_with fail
        refine hK.out _ _ (HC.out _ Z1) (fun hHeld => ?_)
        clear hK K
        try simp only [Act.put, List.setIfInBounds_toArray, List.set_cons_zero, List.set_cons_succ]
        refine wpAnyH_take (i := 6) (v := (.bool false)) (at_succ (at_succ (at_succ (at_succ (at_succ (at_succ at_zero)))))) (by kernel_rfl) (by kernel_rfl) (by kernel_rfl) (fun _ _ _ h => h) (Or.inl ⟨by kernel_rfl, fun wy hSw => ?_⟩) (by assumption) ?_
        · (try dsimp only at hSw); go_simp
        try simp only [Act.put, List.setIfInBounds_toArray, List.set_cons_zero, List.set_cons_succ]
        refine wpAnyH_take (i := 7) (v := undef) (at_succ (at_succ (at_succ (at_succ (at_succ (at_succ (at_succ at_zero))))))) (by kernel_rfl) (by kernel_rfl) (by kernel_rfl) (fun _ _ _ h => h) (Or.inr ⟨by kernel_rfl, rfl⟩) (by assumption) ?_
        try simp only [Act.put, List.setIfInBounds_toArray, List.set_cons_zero, List.set_cons_succ]
        refine wpAnyH_take (i := 8) (v := undef) (at_succ (at_succ (at_succ (at_succ (at_succ (at_succ (at_succ (at_succ at_zero)))))))) (by kernel_rfl) (by kernel_rfl) (by kernel_rfl) (fun _ _ _ h => h) (Or.inr ⟨by kernel_rfl, rfl⟩) (by assumption) ?_
        try simp only [Act.put, List.setIfInBounds_toArray, List.set_cons_zero, List.set_cons_succ]
        refine wpAnyH_take (i := 9) (v := undef) (at_succ (at_succ (at_succ (at_succ (at_succ (at_succ (at_succ (at_succ (at_succ at_zero))))))))) (by kernel_rfl) (by kernel_rfl) (by kernel_rfl) (fun _ _ _ h => h) (Or.inr ⟨by kernel_rfl, rfl⟩) (by assumption) ?_
        try simp only [Act.put, List.setIfInBounds_toArray, List.set_cons_zero, List.set_cons_succ]
        refine wpAnyH_take (i := 10) (v := undef) (at_succ (at_succ (at_succ (at_succ (at_succ (at_succ (at_succ (at_succ (at_succ (at_succ at_zero)))))))))) (by kernel_rfl) (by kernel_rfl) (by kernel_rfl) (fun _ _ _ h => h) (Or.inr ⟨by kernel_rfl, rfl⟩) (by assumption) ?_
        try simp only [Act.put, List.setIfInBounds_toArray, List.set_cons_zero, List.set_cons_succ]
        refine wpAnyH_take (i := 11) (v := undef) (at_succ (at_succ (at_succ (at_succ (at_succ (at_succ (at_succ (at_succ (at_succ (at_succ (at_succ at_zero))))))))))) (by kernel_rfl) (by kernel_rfl) (by kernel_rfl) (fun _ _ _ h => h) (Or.inr ⟨by kernel_rfl, rfl⟩) (by assumption) ?_
        try simp only [Act.put, List.setIfInBounds_toArray, List.set_cons_zero, List.set_cons_succ]
        refine wpAnyH_take (i := 12) (v := undef) (at_succ (at_succ (at_succ (at_succ (at_succ (at_succ (at_succ (at_succ (at_succ (at_succ (at_succ (at_succ at_zero)))))))))))) (by kernel_rfl) (by kernel_rfl) (by kernel_rfl) (fun _ _ _ h => h) (Or.inr ⟨by kernel_rfl, rfl⟩) (by assumption) ?_
        try simp only [Act.put, List.setIfInBounds_toArray, List.set_cons_zero, List.set_cons_succ]
        refine wpAnyH_take (i := 13) (v := undef) (at_succ (at_succ (at_succ (at_succ (at_succ (at_succ (at_succ (at_succ (at_succ (at_succ (at_succ (at_succ (at_succ at_zero))))))))))))) (by kernel_rfl) (by kernel_rfl) (by kernel_rfl) (fun _ _ _ h => h) (Or.inr ⟨by kernel_rfl, rfl⟩) (by assumption) ?_
        try simp only [Act.put, List.setIfInBounds_toArray, List.set_cons_zero, List.set_cons_succ]
        refine wpAnyH_take (i := 14) (v := undef) (at_succ (at_succ (at_succ (at_succ (at_succ (at_succ (at_succ (at_succ (at_succ (at_succ (at_succ (at_succ (at_succ (at_succ at_zero)))))))))))))) (by kernel_rfl) (by kernel_rfl) (by kernel_rfl) (fun _ _ _ h => h) (Or.inr ⟨by kernel_rfl, rfl⟩) (by assumption) ?_
        try simp only [Act.put, List.setIfInBounds_toArray, List.set_cons_zero, List.set_cons_succ]
        refine wpAnyH_take (i := 15) (v := undef) (at_succ (at_succ (at_succ (at_succ (at_succ (at_succ (at_succ (at_succ (at_succ (at_succ (at_succ (at_succ (at_succ (at_succ (at_succ at_zero))))))))))))))) (by kernel_rfl) (by kernel_rfl) (by kernel_rfl) (fun _ _ _ h => h) (Or.inr ⟨by kernel_rfl, rfl⟩) (by assumption) ?_
        try simp only [Act.put, List.setIfInBounds_toArray, List.set_cons_zero, List.set_cons_succ]
        refine wpAnyH_take (i := 16) (v := undef) (at_succ (at_succ (at_succ (at_succ (at_succ (at_succ (at_succ (at_succ (at_succ (at_succ (at_succ (at_succ (at_succ (at_succ (at_succ (at_succ at_zero)))))))))))))))) (by kernel_rfl) (by kernel_rfl) (by kernel_rfl) (fun _ _ _ h => h) (Or.inr ⟨by kernel_rfl, rfl⟩) (by assumption) ?_
        try simp only [Act.put, List.setIfInBounds_toArray, List.set_cons_zero, List.set_cons_succ]
        refine wpAnyH_take (i := 17) (v := undef) (at_succ (at_succ (at_succ (at_succ (at_succ (at_succ (at_succ (at_succ (at_succ (at_succ (at_succ (at_succ (at_succ (at_succ (at_succ (at_succ (at_succ at_zero))))))))))))))))) (by kernel_rfl) (by kernel_rfl) (by kernel_rfl) (fun _ _ _ h => h) (Or.inr ⟨by kernel_rfl, rfl⟩) (by assumption) ?_
        try simp only [Act.put, List.setIfInBounds_toArray, List.set_cons_zero, List.set_cons_succ]
        refine wpAnyH_take (i := 18) (v := undef) (at_succ (at_succ (at_succ (at_succ (at_succ (at_succ (at_succ (at_succ (at_succ (at_succ (at_succ (at_succ (at_succ (at_succ (at_succ (at_succ (at_succ (at_succ at_zero)))))))))))))))))) (by kernel_rfl) (by kernel_rfl) (by kernel_rfl) (fun _ _ _ h => h) (Or.inr ⟨by kernel_rfl, rfl⟩) (by assumption) ?_
        try simp only [Act.put, List.setIfInBounds_toArray, List.set_cons_zero, List.set_cons_succ]
        refine wpAnyH_take (i := 19) (v := (.bool false)) (at_succ (at_succ (at_succ (at_succ (at_succ (at_succ (at_succ (at_succ (at_succ (at_succ (at_succ (at_succ (at_succ (at_succ (at_succ (at_succ (at_succ (at_succ (at_succ at_zero))))))))))))))))))) (by kernel_rfl) (by kernel_rfl) (by kernel_rfl) (fun _ _ _ h => h) (Or.inl ⟨by kernel_rfl, fun wy hSw => ?_⟩) (by assumption) ?_
        · (try dsimp only at hSw); go_simp
        try simp only [Act.put, List.setIfInBounds_toArray, List.set_cons_zero, List.set_cons_succ]
        refine wpAnyH_done (by kernel_rfl) ?_ _
        have BZ := Lib.hid (B.out.trans (Z1.mono hzr))
        have OZ := Lib.hid (O5.out.below Z1)
        go_wp2_with fail
        go_roundw
        case rel => exact ⟨k + 1, A5, c5, by go_num, hlt, by rw [N'.out], Lib.hid (by rw [N'.out]; exact OZ.out), BZ.out⟩
        case measure => simp [intOf]; omega
    · obtain rfl : k = L.length := by omega
      obtain ⟨_, _, g2⟩ := air_block VB.out
      have f1 := blk_cell VF.out 1 (v := .int .i64 ff) rfl
      have f2 := blk_cell VF.out 2 (v := .int .i64 ft) rfl
      have SO := Lib.hid (own_slS O5.out).2
      have BE := Lib.hid (V2.out.trans (VW.out.mono V2.out.size))
      generalize G L.length = F at *
      clear VB VF GY GN GL G0 KH O5
      by_cases h255 : ft = 255
      · have d1 : (ft == 255) = true := by simpa using h255
        have R := Lib.hid (show delS ⟨E, O, N⟩ F ff ft = (F, true) from by unfold delS; rw [if_neg hf, if_pos h255])
        clear h255 hf
        go_wp2_with fail
        go_ret2
        exact ⟨A5, c5, by rw [R.out]; rfl, by rw [R.out]; exact SO.out, BE.out⟩
      have d1 : (ft == 255) = false := by simpa using h255
      have R := Lib.hid (show delS ⟨E, O, N⟩ F ff ft = (F, decide (F.length = 1) && !decide (ff ∈ N)) from by unfold delS; rw [if_neg hf, if_neg h255])
      clear h255 hf
      have K3r := Lib.hid (K3.out wr HR.out.2.2.1)
      clear K3
      by_cases h1 : F.length = 1
      · rw [dt h1] at R
        have d2 : ((F.length : Int) == 1) = true := by rw [h1]; rfl
        have d3 : (F.length == 1) = true := by rw [h1]; rfl
        clear h1
        by_cases h2 : ff ∈ N
        · rw [dt h2] at R K3r
          clear h2
          go_wp2_with fail
          refine K3r.out.mono ?_
          rintro _ _ ⟨rfl, rfl⟩
          go_wp2_with fail
          go_ret2
          exact ⟨A5, c5, by rw [R.out]; rfl, by rw [R.out]; exact SO.out, BE.out⟩
        · rw [df h2] at R K3r
          clear h2
          go_wp2_with fail
          refine K3r.out.mono ?_
          rintro _ _ ⟨rfl, rfl⟩
          go_wp2_with fail
          go_ret2
          exact ⟨A5, c5, by rw [R.out]; rfl, by rw [R.out]; exact SO.out, BE.out⟩
      · rw [df h1] at R
        have d2 : ((F.length : Int) == 1) = false := by simp; omega
        have d3 : (F.length == 1) = false := by simpa using h1
        clear h1
        go_wp2_with fail
        go_ret2
        exact ⟨A5, c5, by rw [R.out]; rfl, by rw [R.out]; exact SO.out, BE.out⟩
end Go.Proofs.Ytcnmknhjmflinaa.Rdo
