/- The reference: Cut, Parent, Check. -/
import Derived.Test.YtdmakcjcocghhaaTE
set_option linter.unusedVariables false
namespace Go.Proofs.Ytdmakcjcocghhaa.Tpo
open Go.RowKit

noncomputable section
open Classical
/-- The critical ones among the first k of those that are reached. -/
def cutU (l : List Ed) (r : Int) (k : Nat) : List Int := ((reach l r).take k).filter fun c => decide (Crit l r c)
theorem cutU_all (l : List Ed) (r : Int) : cutU l r (reach l r).length = cut l r := by
  unfold cutU
  rw [List.take_length]
  refine sel_is ((sel_asc _).filter _) fun v => ?_
  rw [List.mem_filter, mem_reach]
  simp only [decide_eq_true_eq]
  exact ⟨fun h => ⟨(dist_node h.1).2, h.2⟩, fun h => ⟨h.2.1.1, h.2⟩⟩
theorem cutU_yes {l : List Ed} {r : Int} {k : Nat} (hk : k < (reach l r).length) (h : Crit l r (reach l r)[k]) : cutU l r (k + 1) = cutU l r k ++ [(reach l r)[k]] := by
  unfold cutU
  have e : ([(reach l r)[k]].filter fun c => decide (Crit l r c)) = [(reach l r)[k]] := List.filter_cons_of_pos (p := fun c => decide (Crit l r c)) (a := (reach l r)[k]) (l := []) (decide_eq_true h)
  rw [List.take_succ_eq_append_getElem hk, List.filter_append, e]
theorem cutU_no {l : List Ed} {r : Int} {k : Nat} (hk : k < (reach l r).length) (h : ¬ Crit l r (reach l r)[k]) : cutU l r (k + 1) = cutU l r k := by
  unfold cutU
  have e : ([(reach l r)[k]].filter fun c => decide (Crit l r c)) = [] := List.filter_cons_of_neg (p := fun c => decide (Crit l r c)) (a := (reach l r)[k]) (l := []) (fun h2 => h (of_decide_eq_true h2))
  rw [List.take_succ_eq_append_getElem hk, List.filter_append, e, List.append_nil]
theorem cutU_len (l : List Ed) (r : Int) (k : Nat) : (cutU l r k).length ≤ 251 := by
  unfold cutU
  have h1 := List.length_filter_le (fun c => decide (Crit l r c)) ((reach l r).take k)
  have h2 : ((reach l r).take k).length ≤ (reach l r).length := by rw [List.length_take]; omega
  have h3 := sel_len fun v => 0 ≤ dist l r v
  unfold reach at *
  omega
end

set_option maxRecDepth 100000 in
set_option maxHeartbeats 4000000 in
theorem rcut_any (A : Option Addr) (c : Nat) (l : List Ed) (r : Int) (w : World) (hl : l.length ≤ 100000) (hA : EdAt w w.heap.size A l) :
    Calls Try.prog 24 #[.slice A l.length c, .int .i64 r] w (OutN w (cut l r)) := by
  have HA := Lib.hid hA
  have KR := Lib.hid (rreach_any A c l r w (by omega) hA)
  have KW := Lib.hid (fun A2 c2 (x : Int) w hA h2 => rwout_any A c l A2 c2 [x] w hl hA (by simp) h2)
  have KS := Lib.hid (fun (m : List Ed) (hm : m.length ≤ 100000) A c w h => rreach_any A c m r w (by omega) h)
  have WL := Lib.hid (fun x => wout_len l [x])
  have RL := Lib.hid (show (reach l r).length ≤ 251 from sel_len _)
  have RN := Lib.hid (fun k (h : k < (reach l r).length) => (show 0 ≤ dist l r (reach l r)[k] from (mem_reach l r _).1 (List.getElem_mem h)))
  have CA := Lib.hid (cutU_all l r)
  have CY := Lib.hid (fun k hk h => cutU_yes (l := l) (r := r) (k := k) hk h)
  have CN := Lib.hid (fun k hk h => cutU_no (l := l) (r := r) (k := k) hk h)
  have CL := Lib.hid (fun k => cutU_len l r k)
  have C0 : Hid (cutU l r 0 = []) := Lib.hid rfl
  have CR := Lib.hid (fun x => (show Crit l r x ↔ (0 ≤ dist l r x ∧ x ≠ r) ∧ (reach (wout l [x]) r).length + 1 < (reach l r).length from Iff.rfl))
  clear hA
  generalize cut l r = F at *
  generalize cutU l r = G at *
  generalize reach l r = L at *
  go_enter Try.func24, Try.ntmps24
  go_wp2_with fail
  refine KR.out.mono ?_
  rintro _ w3 ⟨v3, rfl, ho3, hb3⟩
  obtain ⟨A3, c3, rfl, h3, _, _⟩ := ho3.read
  have B3 := Lib.hid hb3
  have H3 := Lib.hid h3
  have hz3 := hb3.size
  clear hb3 ho3 h3
  go_wp2_with fail
  go_loopw [5, 14] (fun vo vk wr => ∃ (k : Nat) (A1 : Option Addr) (c1 : Nat), vk = .int .i64 k ∧ k ≤ L.length ∧ vo = .slice A1 (G k).length c1 ∧ Hid (OwnI wr w3.heap.size (.slice A1 (G k).length c1) (G k)) ∧ Below w3.heap.size w3 wr) (fun _ vk _ => L.length - (intOf vk).toNat)
  case atStart => exact ⟨0, none, 0, rfl, Nat.zero_le _, by rw [C0.out]; rfl, Lib.hid (by rw [C0.out]; exact OwnF.nil _ _), Below.refl _ _⟩
  case round =>
    obtain ⟨k, A1, c1, rfl, hk, rfl, O, hb⟩ := hrel
    have B := Lib.hid hb
    have hz := hb.size
    have HL := Lib.hid (H3.out.next hb)
    have HE := Lib.hid ((HA.out.next B3.out).next hb)
    clear hb
    by_cases hlt : k < L.length
    rotate_left
    · have d0 : ¬ k < L.length := hlt
      have hk' : k = L.length := by omega
      have FIN := Lib.hid (show OwnI wr w3.heap.size (.slice A1 (G k).length c1) F by rw [← CA.out, ← hk']; exact O.out)
      clear hk'
      go_wp2_with fail
      go_ret
      exact ⟨_, rfl, FIN.out.down hz3, B3.out.trans (B.out.mono hz3)⟩
    have m0 : (k : Int) < (L.length : Int) := by omega
    have m1 : (0 : Int) ≤ (k : Int) := by omega
    obtain ⟨bb, p, rfl, hbw, g0, i0⟩ := fI_cell HL.out k hlt
    have CYk := Lib.hid (CY.out k hlt)
    have CNk := Lib.hid (CN.out k hlt)
    have RNk := Lib.hid (RN.out k hlt)
    have LG := CL.out k
    have LB := RL.out
    have HX := Lib.hid (show ∃ x, x = L[k] from ⟨_, rfl⟩)
    obtain ⟨x, hx⟩ := HX.out
    have HXX := Lib.hid hx
    simp only [← hx] at g0 i0 CYk CNk RNk
    have CRx := Lib.hid (CR.out x)
    clear hx HX CY CN RN CR CA C0
    by_cases hxr : x = r
    · have N := Lib.hid (CNk.out fun h => (CRx.out.1 h).1.2 hxr)
      have t1 : (x == r) = true := by simpa using hxr
      clear hxr CYk CNk CRx
      go_wp2_with fail
      go_roundw
      case rel => exact ⟨k + 1, A1, c1, by go_num, hlt, by rw [N.out], Lib.hid (by rw [N.out]; exact O.out), B.out⟩
      case measure => simp [intOf]; omega
    have t1 : (x == r) = false := by simpa using hxr
    have BX := Lib.hid (B.out.alloc hz (.cells #[.int .i64 x] 3))
    have OX := Lib.hid (O.out.alloc (.cells #[.int .i64 x] 3))
    have K1 := Lib.hid (show Calls Try.prog 29 #[.slice A l.length c, .slice (some ⟨wr.heap.size, 0, none⟩) 1 1] (wr.alloc (.cells #[.int .i64 x] 3)) (OutL (wr.alloc (.cells #[.int .i64 x] 3)) (wout l [x])) from KW.out _ 1 x _ (HE.out.next (alloc_below _ _)) (FlAt.lit (F := fI) wr [x] #[.int .i64 x] 3 (by unfold maxLen; simp) rfl (fun a ha => by rw [List.mem_singleton.1 ha]; exact i0)))
    have WLx := WL.out x
    have RS := Lib.hid (show (reach (wout l [x]) r).length ≤ 251 from sel_len _)
    have KSx := Lib.hid (fun A c w h => KS.out (wout l [x]) (by omega) A c w h)
    generalize reach (wout l [x]) r = M at *
    generalize wout l [x] = W at *
    go_wp2_with fail
    refine K1.out.mono ?_
    rintro _ w5 ⟨v5, rfl, ho5, hb5⟩
    obtain ⟨A5, c5, rfl, h5, _, _⟩ := ho5.read
    have B5 := Lib.hid (BX.out.trans (hb5.mono BX.out.size))
    have O5 := Lib.hid (OX.out.below hb5)
    have H5 := Lib.hid h5
    have g0 := (hb5.cell (p := ⟨bb, p + k, none⟩) (Nat.lt_trans hbw (by simp))).trans ((alloc_below wr (.cells #[.int .i64 x] 3)).cell (p := ⟨bb, p + k, none⟩) hbw |>.trans g0)
    have hbw5 : bb < w5.heap.size := World.block_lt_of_cell? w5 _ g0
    clear hb5 ho5 h5 K1 BX OX
    go_wp2_with fail
    refine (KSx.out _ _ _ H5.out).mono ?_
    rintro _ w6 ⟨v6, rfl, ho6, hb6⟩
    obtain ⟨A6, c6, rfl, _, _, _⟩ := ho6.read
    have B6 := Lib.hid (B5.out.trans (hb6.mono B5.out.size))
    have O6 := Lib.hid (O5.out.below hb6)
    have g0 := (hb6.cell (p := ⟨bb, p + k, none⟩) hbw5).trans g0
    clear hb6 ho6
    have z1 : IntKind.i64.wrap ((L.length : Int) - 1) = (L.length : Int) - 1 := by rw [IntKind.wrap_i64]; omega
    by_cases hm : M.length + 1 < L.length
    · have N := Lib.hid (CYk.out (CRx.out.2 ⟨⟨RNk.out, hxr⟩, hm⟩))
      have t2 : decide ((M.length : Int) < (L.length : Int) - 1) = true := dt (by omega)
      clear CYk CNk CRx hxr hm
      obtain ⟨v8, w8, hap, ho8, hb8⟩ := app_int O6.out x i0 (by omega) B6.out.size
      obtain ⟨A8, c8, e8, _⟩ := ho8.form
      subst e8
      have L8 := Lib.hid (show (G k ++ [x]).length = (G (k + 1)).length by rw [N.out])
      have O8 := Lib.hid (show OwnI w8 w3.heap.size (.slice A8 (G (k + 1)).length c8) (G (k + 1)) by rw [N.out]; exact ho8)
      have B8 := Lib.hid (B6.out.trans hb8)
      rw [L8.out] at hap
      clear ho8 hb8
      go_wp2_with (at_builtin; refine Lib.wpList_append_run _ rfl _ _ _ _ rfl _ _ rfl rfl _ _ hap ?_)
      go_roundw
      case rel => exact ⟨k + 1, A8, c8, by go_num, hlt, rfl, O8, B8.out⟩
      case measure => simp [intOf]; omega
    · have N := Lib.hid (CNk.out fun h => hm (CRx.out.1 h).2)
      have t2 : decide ((M.length : Int) < (L.length : Int) - 1) = false := df (by omega)
      clear CYk CNk CRx hxr hm
      go_wp2_with fail
      go_roundw
      case rel => exact ⟨k + 1, A1, c1, by go_num, hlt, by rw [N.out], Lib.hid (by rw [N.out]; exact O6.out), B6.out⟩
      case measure => simp [intOf]; omega

theorem parU_hit {l : List Ed} {r n : Int} {k : Nat} (hk : k < 251) (h : Par l r n (k : Int)) : parU l r n (251 - k) = (k : Int) := by
  obtain ⟨j, hj⟩ : ∃ j, 251 - k = j + 1 := ⟨250 - k, by omega⟩
  have e : ((250 - j : Nat) : Int) = (k : Int) := by omega
  rw [hj]
  unfold parU
  rw [e, if_pos h]
theorem parU_miss {l : List Ed} {r n : Int} {k : Nat} (hk : k < 251) (h : ¬ Par l r n (k : Int)) : parU l r n (251 - k) = parU l r n (251 - (k + 1)) := by
  obtain ⟨j, hj⟩ : ∃ j, 251 - k = j + 1 := ⟨250 - k, by omega⟩
  have e : ((250 - j : Nat) : Int) = (k : Int) := by omega
  rw [hj, show 251 - (k + 1) = j by omega]
  conv => lhs; unfold parU
  rw [e, if_neg h]
set_option maxRecDepth 100000 in
set_option maxHeartbeats 4000000 in
theorem rparent_any (A : Option Addr) (c : Nat) (l : List Ed) (r n : Int) (w : World) (hl : l.length ≤ 9223372036854775807) (hA : EdAt w w.heap.size A l) :
    Calls Try.prog 26 #[.slice A l.length c, .int .i64 r, .int .i64 n] w (OutI w (parent l r n)) := by
  have HA := Lib.hid hA
  have KN := Lib.hid (fun w => rnode_any n w)
  have KD := Lib.hid (rdist_any A c l r w hl hA)
  have KL := Lib.hid (fun k w hA => rlinked_any A c l n k w hl hA)
  have P0 := Lib.hid (fun h => parent_none (l := l) (r := r) (n := n) h)
  have F0 := Lib.hid (fun h => dist_far (l := l) (a := r) (b := n) h)
  have PY := Lib.hid (fun (h : Nd n ∧ 1 ≤ dist l r n) => (show parent l r n = parU l r n 251 by unfold parent; rw [if_pos h]))
  have PU := Lib.hid (fun (k : Nat) (hk : k < 251) (h : Par l r n (k : Int)) => parU_hit hk h)
  have PM := Lib.hid (fun (k : Nat) (hk : k < 251) (h : ¬ Par l r n (k : Int)) => parU_miss hk h)
  have PZ := Lib.hid (show parU l r n 0 = -1 from rfl)
  have DM := Lib.hid (fun b => dist_max l r b)
  have DN := Lib.hid (fun b => dist_neg l r b)
  clear hA
  by_cases hn : Nd n
  rotate_left
  · have R := Lib.hid (P0.out (by rw [F0.out fun h => hn h.2]; omega))
    rw [df hn] at KN
    clear hn P0 F0 PY PU PM
    go_enter Try.func26, Try.ntmps26
    go_wp2_with fail
    refine (KN.out _).mono ?_
    rintro _ w2 ⟨rfl, rfl⟩
    go_wp2_with fail
    go_ret
    exact outI R.out.symm (Below.refl _ _)
  rw [dt hn] at KN
  obtain ⟨nn, rfl⟩ : ∃ nn : Nat, n = (nn : Int) := ⟨n.toNat, by unfold Nd at hn; omega⟩
  have hnn : nn < 251 := by unfold Nd at hn; omega
  have e0 : (nn : Int) < 251 := by omega
  have e1 : (0 : Int) ≤ (nn : Int) := by omega
  unfold OutD at KD
  have HPar := Lib.hid (fun k => (show Par l r (nn : Int) k ↔ dist l r k = dist l r (nn : Int) - 1 ∧ Lk l (nn : Int) k from Iff.rfl))
  generalize parent l r (nn : Int) = F at *
  generalize parU l r (nn : Int) = U at *
  generalize dist l r = f at *
  by_cases h1 : 1 ≤ f (nn : Int)
  rotate_left
  · have R := Lib.hid (P0.out h1)
    have t1 : decide (f (nn : Int) < 1) = true := dt (by omega)
    clear hn P0 F0 PY PU PM h1
    go_enter Try.func26, Try.ntmps26
    go_wp2_with fail
    refine (KN.out _).mono ?_
    rintro _ w2 ⟨rfl, rfl⟩
    go_wp2_with fail
    refine KD.out.mono ?_
    rintro _ w3 ⟨g, rfl, hg, hr, hbl⟩
    have B3 := Lib.hid hbl
    have q0 := World.rowIs.cell hr hnn
    clear hbl hr
    go_wp2_with fail
    go_ret
    exact outI R.out.symm B3.out
  have R := Lib.hid (PY.out ⟨hn, h1⟩)
  have t1 : decide (f (nn : Int) < 1) = false := df (by omega)
  have hmx := DM.out (nn : Int)
  have z1 : IntKind.i64.wrap (f (nn : Int) - 1) = f (nn : Int) - 1 := by rw [IntKind.wrap_i64]; omega
  clear hn P0 F0 PY h1
  go_enter Try.func26, Try.ntmps26
  go_wp2_with fail
  refine (KN.out _).mono ?_
  rintro _ w2 ⟨rfl, rfl⟩
  go_wp2_with fail
  refine KD.out.mono ?_
  rintro _ w3 ⟨g, rfl, hg, hr, hbl⟩
  have B3 := Lib.hid hbl
  have R3 := Lib.hid hr
  have hz3 := hbl.size
  have hgl := World.rowIs.lt hr
  have q0 := World.rowIs.cell hr hnn
  clear hbl hr KN KD
  go_wp2_with fail
  clear q0 t1
  go_loopw [8] (fun vk wr => ∃ k : Nat, vk = .int .i64 k ∧ k ≤ 251 ∧ Hid (F = U (251 - k)) ∧ Below w3.heap.size w3 wr) (fun vk _ => 251 - (intOf vk).toNat)
  case atStart => exact ⟨0, rfl, by omega, Lib.hid R.out, Below.refl _ _⟩
  case round =>
    clear R
    obtain ⟨k, rfl, hk, R, hb⟩ := hrel
    have B := Lib.hid hb
    have hz := hb.size
    have HK := Lib.hid ((HA.out.next B3.out).next hb)
    have RK := Lib.hid (R3.out.below hb hgl)
    clear hb
    by_cases hlt : k < 251
    rotate_left
    · have c0 : decide ((k : Int) ≤ 250) = false := df (by omega)
      have FIN := Lib.hid (show F = -1 by rw [R.out, show 251 - k = 0 by omega, PZ.out])
      have BB := Lib.hid (B3.out.trans (B.out.mono hz3))
      clear R
      go_wp2_with fail
      go_ret
      exact outI FIN.out.symm BB.out
    have c0 : decide ((k : Int) ≤ 250) = true := dt (by omega)
    have d0 : (k : Int) < 251 := by omega
    have d1 : (0 : Int) ≤ (k : Int) := by omega
    have RY := Lib.hid (fun h => R.out.trans (PU.out k hlt h))
    have RN := Lib.hid (fun h => R.out.trans (PM.out k hlt h))
    have q0 : ∀ n os, (Go.Sort.grow (wr.drewN n) os).cell? ⟨g, k, none⟩ = some (.int .i64 (f (k : Int))) := fun n os => cell_grown (w := wr) (a := ⟨g, k, none⟩) (World.rowIs.lt RK.out) (World.rowIs.cell RK.out hlt) n os
    have q1 : ∀ n os, (Go.Sort.grow (wr.drewN n) os).cell? ⟨g, nn, none⟩ = some (.int .i64 (f (nn : Int))) := fun n os => cell_grown (w := wr) (a := ⟨g, nn, none⟩) (World.rowIs.lt RK.out) (World.rowIs.cell RK.out hnn) n os
    have HPk := Lib.hid (HPar.out (k : Int))
    have KX := Lib.hid (fun nq os => (show Calls Try.prog 38 #[.slice A l.length c, .int .i64 (nn : Int), .int .i64 (k : Int)] (Go.Sort.grow (wr.drewN nq) os) (OutG (Go.Sort.grow (wr.drewN nq) os) (.bool (decide (Lk l (nn : Int) (k : Int))))) from KL.out (k : Int) _ (HK.out.next (grown_below _ _ _))))
    clear R PU PM HPar KL
    by_cases u1 : f (k : Int) = f (nn : Int) - 1
    rotate_left
    · have t1 : (f (k : Int) == f (nn : Int) - 1) = false := by simpa using u1
      have N := Lib.hid (RN.out fun h => u1 (HPk.out.1 h).1)
      clear u1 RY RN HPk
      go_wp2_with fail
      have mixed := mixedB
      refine wp_region_quiet_grown (by assumption) (by kernel_rfl) ?_
      refine QH.out ?_
      repeat (
        refine qh_step (fun K hK => ?_)
        go_simp
        first
          | (refine hK _ ?_; clear hK K)
          | (apply Exists.intro
             refine ⟨fun _ => ?_, hK _ ?_⟩
             (go_at_call 38; exact grown_out (KX.out _ _))
             clear hK K))
      refine qh_nil ?_
      intro _ hwx
      obtain ⟨⟨nq, osq⟩, hwy⟩ := hwx
      subst hwy
      dsimp only
      obtain ⟨wq, hwq⟩ : ∃ wq, wq = Go.Sort.grow (wr.drewN nq) osq := ⟨_, rfl⟩
      rw [← hwq]
      have B4 := Lib.hid (show Below w3.heap.size w3 wq by rw [hwq]; exact B.out.trans ((grown_below _ _ _).mono hz))
      clear hwq mixed q0 q1
      go_wp2_with fail
      go_roundw
      case rel => exact ⟨k + 1, by go_num, hlt, N, B4.out⟩
      case measure => simp [intOf]; omega
    have t1 : (f (k : Int) == f (nn : Int) - 1) = true := by simpa using u1
    by_cases u2 : Lk l (nn : Int) (k : Int)
    · have N := Lib.hid (RY.out (HPk.out.2 ⟨u1, u2⟩))
      rw [dt u2] at KX
      clear u1 u2 RY RN HPk
      go_wp2_with fail
      have mixed := mixedB
      refine wp_region_quiet_grown (by assumption) (by kernel_rfl) ?_
      refine QH.out ?_
      repeat (
        refine qh_step (fun K hK => ?_)
        go_simp
        first
          | (refine hK _ ?_; clear hK K)
          | (apply Exists.intro
             refine ⟨fun _ => ?_, hK _ ?_⟩
             (go_at_call 38; exact grown_out (KX.out _ _))
             clear hK K))
      refine qh_nil ?_
      intro _ hwx
      obtain ⟨⟨nq, osq⟩, hwy⟩ := hwx
      subst hwy
      dsimp only
      obtain ⟨wq, hwq⟩ : ∃ wq, wq = Go.Sort.grow (wr.drewN nq) osq := ⟨_, rfl⟩
      rw [← hwq]
      have B4 := Lib.hid (show Below w3.heap.size w3 wq by rw [hwq]; exact B.out.trans ((grown_below _ _ _).mono hz))
      have BB := Lib.hid (B3.out.trans (B4.out.mono hz3))
      clear hwq mixed q0 q1
      go_wp2_with fail
      go_ret
      exact outI N.out.symm BB.out
    · have N := Lib.hid (RN.out fun h => u2 (HPk.out.1 h).2)
      rw [df u2] at KX
      clear u1 u2 RY RN HPk
      go_wp2_with fail
      have mixed := mixedB
      refine wp_region_quiet_grown (by assumption) (by kernel_rfl) ?_
      refine QH.out ?_
      repeat (
        refine qh_step (fun K hK => ?_)
        go_simp
        first
          | (refine hK _ ?_; clear hK K)
          | (apply Exists.intro
             refine ⟨fun _ => ?_, hK _ ?_⟩
             (go_at_call 38; exact grown_out (KX.out _ _))
             clear hK K))
      refine qh_nil ?_
      intro _ hwx
      obtain ⟨⟨nq, osq⟩, hwy⟩ := hwx
      subst hwy
      dsimp only
      obtain ⟨wq, hwq⟩ : ∃ wq, wq = Go.Sort.grow (wr.drewN nq) osq := ⟨_, rfl⟩
      rw [← hwq]
      have B4 := Lib.hid (show Below w3.heap.size w3 wq by rw [hwq]; exact B.out.trans ((grown_below _ _ _).mono hz))
      clear hwq mixed q0 q1
      go_wp2_with fail
      go_roundw
      case rel => exact ⟨k + 1, by go_num, hlt, N, B4.out⟩
      case measure => simp [intOf]; omega
end Go.Proofs.Ytdmakcjcocghhaa.Tpo
