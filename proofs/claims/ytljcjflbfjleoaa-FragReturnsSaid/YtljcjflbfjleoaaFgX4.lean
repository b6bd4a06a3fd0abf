/- Package frag: hasValidData, isValid. -/
import Derived.Test.YtljcjflbfjleoaaFgX3
set_option linter.unusedVariables false
namespace Go.Proofs.Ytljcjflbfjleoaa.Frg
open Go.RowKit

theorem siz_zero {x : ByteArray} (h : x.size = 0) : x = ⟨#[]⟩ := by
  have e : x.data.size = 0 := h
  obtain ⟨a⟩ := x
  rw [show a = #[] from Array.size_eq_zero_iff.1 e]
theorem siz_pos {x : ByteArray} (h : ¬ x.size = 0) : x.toList ≠ [] ∧ x.toList.isEmpty = false := by
  have e : x.toList.length = x.size := by rw [ByteArray.toList_eq, bytes_len]
  have h1 : x.toList ≠ [] := fun q => by rw [q] at e; simp at e; omega
  exact ⟨h1, by cases q : x.toList with | nil => exact absurd q h1 | cons _ _ => rfl⟩
set_option maxRecDepth 100000 in
set_option maxHeartbeats 4000000 in
theorem pvdata_any (y : Hp) (w : World) (hc : (y.x.h.length : Int) = y.x.c ∧ (y.x.d.length : Int) = y.x.c ∧ y.x.c ≤ 16) (hn : Nest w y) : Calls Try.prog 57 #[hpV y] w (OutG w (.bool (decide (∀ k, k < y.x.h.length → Slot y.x.c y.x.h y.x.d k)))) := by
  obtain ⟨⟨s, i, c, t, h, d⟩, A1, c1, D1, e1⟩ := y
  simp only at hc hn ⊢
  obtain ⟨rfl, hd, hm⟩ := hc
  have hd1 : d.length ≤ h.length := by omega
  have hd2 : h.length ≤ d.length := by omega
  replace hm : h.length ≤ 16 := by omega
  clear hd
  have b0 := alloc_below w (bxP ⟨⟨s, i, (h.length : Int), t, h, d⟩, A1, c1, D1, e1⟩)
  have HH := Lib.hid (hn.1.next b0)
  have HD := Lib.hid (hn.2.next b0)
  have V2 := Lib.hid (fun (k : Nat) (hk : k < h.length) (hs : ¬ Slot h.length h d k) => (show decide (∀ k, k < h.length → Slot h.length h d k) = false from decide_eq_false fun v => hs (v k hk)))
  have V3 := Lib.hid (fun (hs : ∀ k, k < h.length → Slot h.length h d k) => (show decide (∀ k, k < h.length → Slot h.length h d k) = true from decide_eq_true hs))
  have SL := Lib.hid (fun (k : Nat) (hk : k < h.length) => (show Slot h.length h d k ↔ if h[k] = true then Sz k h.length ((d[k]'(by omega)).size) else (d[k]'(by omega)).size = 0 from by
    unfold Slot dat
    simp [List.getD, hk, show k < d.length by omega]))
  generalize decide (∀ k, k < h.length → Slot h.length h d k) = F at *
  have G := Lib.hid (hp_block (blk_new w (bxP ⟨⟨s, i, (h.length : Int), t, h, d⟩, A1, c1, D1, e1⟩)))
  have OG := Lib.hid (grown_alloc w (bxP ⟨⟨s, i, (h.length : Int), t, h, d⟩, A1, c1, D1, e1⟩))
  obtain ⟨f0, f1, f2, f3, f4, f5⟩ := G.out
  simp only [Nat.zero_add] at f0 f1 f2 f3 f4 f5
  clear hn b0
  go_enter Try.func57, Try.ntmps57
  go_wp2_with fail
  obtain ⟨W, hW⟩ : ∃ W, w.alloc (bxP ⟨⟨s, i, (h.length : Int), t, h, d⟩, A1, c1, D1, e1⟩) = W := ⟨_, rfl⟩
  simp only [hW] at HH HD OG f0 f1 f2 f3 f4 f5 ⊢
  clear hW G
  go_loop [8] (fun vk => ∃ k : Nat, vk = .int .i64 k ∧ k ≤ d.length ∧ Hid (∀ j, j < k → Slot h.length h d j)) (fun vk => d.length - (intOf vk).toNat)
  case atStart => exact ⟨0, rfl, Nat.zero_le _, Lib.hid fun j hj => by omega⟩
  case round =>
    obtain ⟨k, rfl, hk, HN⟩ := hrel
    by_cases hlt : k < d.length
    rotate_left
    · have E := Lib.hid (V3.out fun j hj => HN.out j (by omega))
      clear V2 V3 SL HN
      go_wp2_with fail
      go_ret
      exact outG_on OG.out (outG_same (q := 0) (os := #[]) (by first | rfl | simp [Go.Sort.grow]) (congrArg Value.bool E.out.symm))
    have hkh : k < h.length := by omega
    obtain ⟨b, p, rfl, _, hc⟩ := bo_cell HH.out k hkh
    obtain ⟨b', p', rfl, _, hc', hs⟩ := st_cell HD.out k hlt
    have S2 := Lib.hid (SL.out k hkh)
    have V2 := Lib.hid (fun hs => V2.out k hkh hs)
    have N := Lib.hid (fun (hs : Slot h.length h d k) => (show ∀ j, j < k + 1 → Slot h.length h d j from fun j hj => by
      by_cases e : j = k
      · subst e; exact hs
      · exact HN.out j (by omega)))
    have KZ := Lib.hid (fun w => pfits_any d[k] (k : Int) (h.length : Int) w hs (by omega))
    clear SL HN V3
    generalize Slot h.length h d k = Q at *
    obtain ⟨x, hx⟩ : ∃ x, d[k] = x := ⟨_, rfl⟩
    rw [hx] at hc' S2 KZ
    obtain ⟨z, hz⟩ : ∃ z, h[k] = z := ⟨_, rfl⟩
    rw [hz] at hc S2
    clear hx hz hs
    have q0 : (k : Int) < (h.length : Int) := by omega
    have q1 : (0 : Int) ≤ (k : Int) := by omega
    have q2 : (k : Int) < (d.length : Int) := by omega
    cases z with
    | true =>
      by_cases hz : Sz (k : Int) (h.length : Int) (x.size : Int)
      · have E := Lib.hid (N.out (S2.out.2 (by rw [if_pos rfl]; exact hz)))
        rw [decide_eq_true hz] at KZ
        clear N V2 S2 hz
        go_wp2_with fail
        refine (KZ.out _).mono ?_
        rintro _ _ ⟨rfl, rfl⟩
        go_wp2_with fail
        go_round
        case rel => exact ⟨k + 1, by go_num, hlt, E⟩
        case measure => simp [intOf]; omega
      · have E := Lib.hid (V2.out (fun q => hz (by have := S2.out.1 q; rw [if_pos rfl] at this; exact this)))
        rw [decide_eq_false hz] at KZ
        clear N V2 S2 hz
        go_wp2_with fail
        refine (KZ.out _).mono ?_
        rintro _ _ ⟨rfl, rfl⟩
        go_wp2_with fail
        go_ret
        exact outG_on OG.out (outG_same (q := 0) (os := #[]) (by first | rfl | simp [Go.Sort.grow]) (congrArg Value.bool E.out.symm))
    | false =>
      clear KZ
      by_cases hz : x.size = 0
      · have E := Lib.hid (N.out (S2.out.2 (by rw [if_neg (by simp)]; exact hz)))
        obtain rfl := siz_zero hz
        clear N V2 S2 hz
        go_wp2_with fail
        go_round
        case rel => exact ⟨k + 1, by go_num, hlt, E⟩
        case measure => simp [intOf]; omega
      · have E := Lib.hid (V2.out (fun q => hz (by have := S2.out.1 q; rw [if_neg (by simp)] at this; exact this)))
        obtain ⟨s1, s2⟩ := siz_pos hz
        clear N V2 S2 hz
        go_wp2_with fail
        go_ret
        exact outG_on OG.out (outG_same (q := 0) (os := #[]) (by first | rfl | simp [Go.Sort.grow]) (congrArg Value.bool E.out.symm))

theorem con_nT (h : List Bool) : h.contains true = true ↔ 0 < nT h := by
  unfold nT
  rw [List.contains_iff_mem, List.length_pos_iff_exists_mem]
  simp
theorem con_nF (h : List Bool) : h.contains false = true ↔ nT h < h.length := by
  have h1 := nT_le h
  have h2 := nT_all (h := h)
  rw [List.contains_iff_mem]
  constructor
  · intro hm
    rcases Nat.lt_or_ge (nT h) h.length with q | q
    · exact q
    · have := h2.1 (by omega) false hm
      cases this
  · intro hlt
    apply Classical.byContradiction
    intro hm
    have := h2.2 (fun b hb => by
      cases b with
      | false => exact absurd hb hm
      | true => rfl)
    omega

set_option maxRecDepth 100000 in
set_option maxHeartbeats 8000000 in
theorem pvalid_any (y : Hp) (w : World) (hl : y.x.h.length ≤ 9223372036854775807 ∧ y.x.d.length ≤ 9223372036854775807) (hn : Nest w y) : Calls Try.prog 46 #[hpV y] w (OutB w (decide (Valid y.x))) := by
  obtain ⟨⟨s, i, c, t, h, d⟩, A1, c1, D1, e1⟩ := y
  simp only at hl hn ⊢
  have b0 := alloc_below w (bxP ⟨⟨s, i, c, t, h, d⟩, A1, c1, D1, e1⟩)
  have KI := Lib.hid (fun w => pid_any i w)
  have KL := Lib.hid (fun w => plim_any t w)
  have KT := Lib.hid (fun (q : h.length ≤ 1000000) n os => pcon_any A1 c1 h true (Go.Sort.grow ((w.alloc (bxP ⟨⟨s, i, c, t, h, d⟩, A1, c1, D1, e1⟩)).drewN n) os) q ((hn.1.next b0).next (grown_below _ n os)))
  have KF := Lib.hid (fun (q : h.length ≤ 1000000) n os => pcon_any A1 c1 h false (Go.Sort.grow ((w.alloc (bxP ⟨⟨s, i, c, t, h, d⟩, A1, c1, D1, e1⟩)).drewN n) os) q ((hn.1.next b0).next (grown_below _ n os)))
  have KV := Lib.hid (fun hc n os => pvdata_any ⟨⟨s, i, c, t, h, d⟩, A1, c1, D1, e1⟩ (Go.Sort.grow ((w.alloc (bxP ⟨⟨s, i, c, t, h, d⟩, A1, c1, D1, e1⟩)).drewN n) os) hc ((hn.next b0).next (grown_below _ n os)))
  have V1 := Lib.hid (fun (hr : ¬ Valid ⟨s, i, c, t, h, d⟩) => decide_eq_false hr)
  have VI := Lib.hid (valid_iff ⟨s, i, c, t, h, d⟩)
  have TI := Lib.hid (fun a b => tick_id (n := t) a b)
  have TT := Lib.hid (tick_in t)
  have CT := Lib.hid (con_nT h)
  have CF := Lib.hid (con_nF h)
  have B0 := Lib.hid b0
  have X1 := blk_new w (bxP ⟨⟨s, i, c, t, h, d⟩, A1, c1, D1, e1⟩)
  have hlx := (Array.getElem?_eq_some_iff.1 X1).1
  obtain ⟨f0, f1, f2, f3, f4, f5⟩ := hp_block X1
  simp only [Nat.zero_add] at f0 f1 f2 f3 f4 f5
  replace f0 := fun n os => cell_grown hlx f0 n os
  replace f1 := fun n os => cell_grown hlx f1 n os
  replace f2 := fun n os => cell_grown hlx f2 n os
  replace f3 := fun n os => cell_grown hlx f3 n os
  replace f4 := fun n os => cell_grown hlx f4 n os
  replace f5 := fun n os => cell_grown hlx f5 n os
  have V3 := Lib.hid (fun (Z : Bool) (e : Z = true ↔ Valid ⟨s, i, c, t, h, d⟩) => (show decide (Valid ⟨s, i, c, t, h, d⟩) = Z from Bool.eq_iff_iff.2 (decide_eq_true_iff.trans e.symm)))
  generalize decide (Valid ⟨s, i, c, t, h, d⟩) = F at *
  clear hn X1 b0 hlx
  simp only at KV VI
  unfold Rngs at VI
  simp only at VI
  by_cases k1 : 0 ≤ i ∧ i ≤ 255
  rotate_left
  · have E := Lib.hid (V1.out fun r => k1 (VI.out.1 r).1.1)
    rw [decide_eq_false k1] at KI
    clear k1 KL KT KF KV VI TI TT CT CF
    clear V1 V3
    have mixed := mixedB
    go_enter Try.func46, Try.ntmps46
    go_wp2_with fail
    refine wp_region_quiet_grown (by assumption) (by kernel_rfl) ?_
    refine QH.out ?_
    repeat (
      refine qh_step (fun K hK => ?_)
      go_simp
      first
        | (refine hK _ ?_; clear hK K)
        | (apply Exists.intro
           refine ⟨fun _ => ?_, hK _ ?_⟩
           (first | (go_at_call 23; exact grown_same (KI.out _)) | fail)
           clear hK K))
    refine qh_nil ?_
    intro _ hw'
    obtain ⟨⟨nq, osq⟩, hw''⟩ := hw'
    subst hw''
    go_wp2_with fail
    go_ret
    exact outB E.out.symm (B0.out.trans ((grown_below _ _ _).mono (by simp)))
  rw [decide_eq_true k1] at KI
  by_cases k2 : 2 ≤ c
  rotate_left
  · have E := Lib.hid (V1.out fun r => k2 (VI.out.1 r).1.2.1.1)
    have d2 := df k2
    clear k1 k2 KL KT KF KV VI TI TT CT CF
    clear V1 V3
    have mixed := mixedB
    go_enter Try.func46, Try.ntmps46
    go_wp2_with fail
    refine wp_region_quiet_grown (by assumption) (by kernel_rfl) ?_
    refine QH.out ?_
    repeat (
      refine qh_step (fun K hK => ?_)
      go_simp
      first
        | (refine hK _ ?_; clear hK K)
        | (apply Exists.intro
           refine ⟨fun _ => ?_, hK _ ?_⟩
           (first | (go_at_call 23; exact grown_same (KI.out _)) | fail)
           clear hK K))
    refine qh_nil ?_
    intro _ hw'
    obtain ⟨⟨nq, osq⟩, hw''⟩ := hw'
    subst hw''
    go_wp2_with fail
    go_ret
    exact outB E.out.symm (B0.out.trans ((grown_below _ _ _).mono (by simp)))
  have d2 := dt k2
  by_cases k3 : c ≤ 16
  rotate_left
  · have E := Lib.hid (V1.out fun r => k3 (VI.out.1 r).1.2.1.2)
    have d3 := df k3
    clear k1 k2 k3 KL KT KF KV VI TI TT CT CF
    clear V1 V3
    have mixed := mixedB
    go_enter Try.func46, Try.ntmps46
    go_wp2_with fail
    refine wp_region_quiet_grown (by assumption) (by kernel_rfl) ?_
    refine QH.out ?_
    repeat (
      refine qh_step (fun K hK => ?_)
      go_simp
      first
        | (refine hK _ ?_; clear hK K)
        | (apply Exists.intro
           refine ⟨fun _ => ?_, hK _ ?_⟩
           (first | (go_at_call 23; exact grown_same (KI.out _)) | fail)
           clear hK K))
    refine qh_nil ?_
    intro _ hw'
    obtain ⟨⟨nq, osq⟩, hw''⟩ := hw'
    subst hw''
    go_wp2_with fail
    go_ret
    exact outB E.out.symm (B0.out.trans ((grown_below _ _ _).mono (by simp)))
  have d3 := dt k3
  by_cases k4 : t = tick t
  rotate_left
  · have E := Lib.hid (V1.out fun r => k4 (TI.out (VI.out.1 r).1.2.2.1.1 (VI.out.1 r).1.2.2.1.2).symm)
    generalize tick t = T at *
    have d4 : (t == T) = false := by simpa using k4
    clear k1 k2 k3 k4 KT KF KV VI TI TT CT CF
    clear V1 V3
    have mixed := mixedB
    go_enter Try.func46, Try.ntmps46
    go_wp2_with fail
    refine wp_region_quiet_grown (by assumption) (by kernel_rfl) ?_
    refine QH.out ?_
    repeat (
      refine qh_step (fun K hK => ?_)
      go_simp
      first
        | (refine hK _ ?_; clear hK K)
        | (apply Exists.intro
           refine ⟨fun _ => ?_, hK _ ?_⟩
           (first | (go_at_call 23; exact grown_same (KI.out _)) | (go_at_call 32; exact grown_same (KL.out _)) | fail)
           clear hK K))
    refine qh_nil ?_
    intro _ hw'
    obtain ⟨⟨nq, osq⟩, hw''⟩ := hw'
    subst hw''
    go_wp2_with fail
    go_ret
    exact outB E.out.symm (B0.out.trans ((grown_below _ _ _).mono (by simp)))
  have kt : 0 ≤ t ∧ t ≤ 1099511627776 := by have := TT.out; rw [← k4] at this; exact this
  have d4 : (t == tick t) = true := by simpa using k4
  rw [← k4] at KL d4
  clear k4 TI TT
  by_cases k5 : (h.length : Int) = c
  rotate_left
  · have E := Lib.hid (V1.out fun r => k5 (VI.out.1 r).1.2.2.2.1)
    have d5 : ((h.length : Int) == c) = false := by simpa using k5
    clear k1 k2 k3 k5 kt KT KF KV VI CT CF
    clear V1 V3
    have mixed := mixedB
    go_enter Try.func46, Try.ntmps46
    go_wp2_with fail
    refine wp_region_quiet_grown (by assumption) (by kernel_rfl) ?_
    refine QH.out ?_
    repeat (
      refine qh_step (fun K hK => ?_)
      go_simp
      first
        | (refine hK _ ?_; clear hK K)
        | (apply Exists.intro
           refine ⟨fun _ => ?_, hK _ ?_⟩
           (first | (go_at_call 23; exact grown_same (KI.out _)) | (go_at_call 32; exact grown_same (KL.out _)) | fail)
           clear hK K))
    refine qh_nil ?_
    intro _ hw'
    obtain ⟨⟨nq, osq⟩, hw''⟩ := hw'
    subst hw''
    go_wp2_with fail
    go_ret
    exact outB E.out.symm (B0.out.trans ((grown_below _ _ _).mono (by simp)))
  have d5 : ((h.length : Int) == c) = true := by simpa using k5
  by_cases k6 : (d.length : Int) = c
  rotate_left
  · have E := Lib.hid (V1.out fun r => k6 (VI.out.1 r).1.2.2.2.2)
    have d6 : ((d.length : Int) == c) = false := by simpa using k6
    clear k1 k2 k3 k5 k6 kt KT KF KV VI CT CF
    clear V1 V3
    have mixed := mixedB
    go_enter Try.func46, Try.ntmps46
    go_wp2_with fail
    refine wp_region_quiet_grown (by assumption) (by kernel_rfl) ?_
    refine QH.out ?_
    repeat (
      refine qh_step (fun K hK => ?_)
      go_simp
      first
        | (refine hK _ ?_; clear hK K)
        | (apply Exists.intro
           refine ⟨fun _ => ?_, hK _ ?_⟩
           (first | (go_at_call 23; exact grown_same (KI.out _)) | (go_at_call 32; exact grown_same (KL.out _)) | fail)
           clear hK K))
    refine qh_nil ?_
    intro _ hw'
    obtain ⟨⟨nq, osq⟩, hw''⟩ := hw'
    subst hw''
    go_wp2_with fail
    go_ret
    exact outB E.out.symm (B0.out.trans ((grown_below _ _ _).mono (by simp)))
  have d6 : ((d.length : Int) == c) = true := by simpa using k6
  have KT := Lib.hid (KT.out (by omega))
  have KF := Lib.hid (KF.out (by omega))
  have KV := Lib.hid (KV.out ⟨k5, k6, k3⟩)
  by_cases k7 : h.contains true = true
  rotate_left
  · have E := Lib.hid (V1.out fun r => k7 (CT.out.2 (VI.out.1 r).2.2.1))
    rw [show h.contains true = false by simpa using k7] at KT
    clear k1 k2 k3 k5 k6 k7 kt KF KV VI CT CF
    clear V1 V3
    have mixed := mixedB
    go_enter Try.func46, Try.ntmps46
    go_wp2_with fail
    refine wp_region_quiet_grown (by assumption) (by kernel_rfl) ?_
    refine QH.out ?_
    repeat (
      refine qh_step (fun K hK => ?_)
      go_simp
      first
        | (refine hK _ ?_; clear hK K)
        | (apply Exists.intro
           refine ⟨fun _ => ?_, hK _ ?_⟩
           (first | (go_at_call 23; exact grown_same (KI.out _)) | (go_at_call 32; exact grown_same (KL.out _)) | (go_at_call 36; first | exact grown_same (KT.out _ _) | exact grown_same (KF.out _ _) | fail) | fail)
           clear hK K))
    refine qh_nil ?_
    intro _ hw'
    obtain ⟨⟨nq, osq⟩, hw''⟩ := hw'
    subst hw''
    go_wp2_with fail
    go_ret
    exact outB E.out.symm (B0.out.trans ((grown_below _ _ _).mono (by simp)))
  rw [k7] at KT
  by_cases k8 : h.contains false = true
  rotate_left
  · have E := Lib.hid (V1.out fun r => k8 (CF.out.2 (by have := (VI.out.1 r).2.2.2; omega)))
    rw [show h.contains false = false by simpa using k8] at KF
    clear k1 k2 k3 k5 k6 k7 k8 kt KV VI CT CF
    clear V1 V3
    have mixed := mixedB
    go_enter Try.func46, Try.ntmps46
    go_wp2_with fail
    refine wp_region_quiet_grown (by assumption) (by kernel_rfl) ?_
    refine QH.out ?_
    repeat (
      refine qh_step (fun K hK => ?_)
      go_simp
      first
        | (refine hK _ ?_; clear hK K)
        | (apply Exists.intro
           refine ⟨fun _ => ?_, hK _ ?_⟩
           (first | (go_at_call 23; exact grown_same (KI.out _)) | (go_at_call 32; exact grown_same (KL.out _)) | (go_at_call 36; first | exact grown_same (KT.out _ _) | exact grown_same (KF.out _ _) | fail) | fail)
           clear hK K))
    refine qh_nil ?_
    intro _ hw'
    obtain ⟨⟨nq, osq⟩, hw''⟩ := hw'
    subst hw''
    go_wp2_with fail
    go_ret
    exact outB E.out.symm (B0.out.trans ((grown_below _ _ _).mono (by simp)))
  rw [k8] at KF
  have E := Lib.hid (show F = decide (∀ k, k < h.length → Slot c h d k) from V3.out _ (by
    rw [VI.out, decide_eq_true_iff]
    exact ⟨fun q => ⟨⟨k1, ⟨k2, k3⟩, kt, k5, k6⟩, q, CT.out.1 k7, by have := CF.out.1 k8; omega⟩, fun q => q.2.1⟩))
  generalize decide (∀ k, k < h.length → Slot c h d k) = Z at *
  clear k1 k2 k3 k5 k6 k7 k8 kt VI CT CF
  clear V1 V3
  have mixed := mixedB
  go_enter Try.func46, Try.ntmps46
  go_wp2_with fail
  refine wp_region_quiet_grown (by assumption) (by kernel_rfl) ?_
  refine QH.out ?_
  repeat (
    refine qh_step (fun K hK => ?_)
    go_simp
    first
      | (refine hK _ ?_; clear hK K)
      | (apply Exists.intro
         refine ⟨fun _ => ?_, hK _ ?_⟩
         (first | (go_at_call 23; exact grown_same (KI.out _)) | (go_at_call 32; exact grown_same (KL.out _)) | (go_at_call 36; first | exact grown_same (KT.out _ _) | exact grown_same (KF.out _ _) | fail) | (go_at_call 57; exact grown_out (KV.out _ _)) | fail)
         clear hK K))
  refine qh_nil ?_
  intro _ hw'
  obtain ⟨⟨nq, osq⟩, hw''⟩ := hw'
  subst hw''
  go_wp2_with fail
  go_ret
  exact outB E.out.symm (B0.out.trans ((grown_below _ _ _).mono (by simp)))
end Go.Proofs.Ytljcjflbfjleoaa.Frg
