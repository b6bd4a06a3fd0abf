/- Package radio: slices.Index, Contains, Clone; Up, Channel. -/
import Derived.Test.YtcnmknhjmflinaaRdX1
set_option linter.unusedVariables false
namespace Go.Proofs.Ytcnmknhjmflinaa.Rdo
open Go.RowKit
open Tpo (fE EdAt OwnE OwnI OutN OutL near wout sel eInt eEd)

set_option maxRecDepth 100000 in
set_option maxHeartbeats 1000000 in
theorem pix_any (A : Option Addr) (c : Nat) (h : List Int) (v : Int) (w : World) (hl : h.length ≤ 1000000) (hA : FlAt fI w w.heap.size A h) : Calls Try.prog 54 #[.slice A h.length c, .int .i64 v] w fun e w' => (∃ n : Int, e = .returned (.int .i64 n) ∧ decide (0 ≤ n) = decide (v ∈ h)) ∧ w = w' := by
  have HM := Lib.hid hA
  have KH := Lib.hid (fun (k : Nat) (hk : k < h.length) (e : h[k] = v) => (show decide (v ∈ h) = true from dt (by rw [← e]; exact List.getElem_mem hk)))
  have KM := Lib.hid (fun (hn : ∀ j (hj : j < h.length), h[j] ≠ v) => (show decide (v ∈ h) = false from df (fun e => by
    obtain ⟨j, hj, e⟩ := List.getElem_of_mem e
    exact hn j hj e)))
  clear hA
  generalize decide (v ∈ h) = F at *
  go_enter Try.func54, Try.ntmps54
  go_wp2_with fail
  go_loop [8] (fun vi => ∃ n : Nat, n ≤ h.length ∧ vi = .int .i64 (n : Int) ∧ Hid (∀ j (hj : j < h.length), j < n → h[j] ≠ v)) (fun vi => h.length - (intOf vi).toNat)
  case atStart => exact ⟨0, Nat.zero_le _, rfl, Lib.hid fun j hj h => by omega⟩
  case round =>
    obtain ⟨n, hn, rfl, HN⟩ := hrel
    by_cases hlt : n < h.length
    · obtain ⟨b, p, rfl, _, g0, _⟩ := fI_cell HM.out n hlt
      have Y := Lib.hid (fun e => KH.out n hlt e)
      have N := Lib.hid (show h[n] ≠ v → ∀ j (hj : j < h.length), j < n + 1 → h[j] ≠ v from fun e j hj hjn => by
        by_cases q : j = n
        · subst q; exact e
        · exact HN.out j hj (by omega))
      clear KH KM HN
      generalize h[n] = x at *
      have q1 : (0 : Int) ≤ (n : Int) := by omega
      by_cases e1 : x = v
      · have E := Lib.hid (Y.out e1)
        have d1 : (v == x) = true := by rw [e1]; simp
        have d2 : (x == v) = true := by rw [e1]; simp
        clear Y N e1
        go_wp2_with fail
        go_ret
        exact ⟨⟨_, rfl, by rw [E.out]; exact dt q1⟩, rfl⟩
      · have E := Lib.hid (N.out e1)
        have d1 : (v == x) = false := by rw [beq_eq_false_iff_ne]; exact fun q => e1 q.symm
        have d2 : (x == v) = false := by rw [beq_eq_false_iff_ne]; exact e1
        clear Y N e1
        go_wp2_with fail
        go_round
        case rel => exact ⟨n + 1, hlt, by go_num, E⟩
        case measure => simp [intOf]; omega
    · obtain rfl : n = h.length := by omega
      have E := Lib.hid (KM.out fun j hj => HN.out j hj hj)
      clear KH KM HN
      go_wp2_with fail
      go_ret
      exact ⟨⟨-1, rfl, by rw [E.out]; rfl⟩, rfl⟩
theorem pcon_any (A : Option Addr) (c : Nat) (h : List Int) (v : Int) (w : World) (hl : h.length ≤ 1000000) (hA : FlAt fI w w.heap.size A h) : Calls Try.prog 35 #[.slice A h.length c, .int .i64 v] w fun e w' => e = .returned (.bool (decide (v ∈ h))) ∧ w = w' := by
  have K := Lib.hid (pix_any A c h v w hl hA)
  clear hA
  generalize decide (v ∈ h) = F at *
  go_enter Try.func35, Try.ntmps35
  go_wp2_with fail
  refine K.out.mono ?_
  rintro _ _ ⟨⟨n, rfl, hn⟩, rfl⟩
  have R := Lib.hid hn
  clear hn
  go_wp2_with fail
  go_ret
  exact ⟨ret_bool R.out, rfl⟩

set_option maxHeartbeats 2000000 in
theorem pclonee_any (A : Option Addr) (c : Nat) (l : List Tpo.Ed) (w : World) (hl : l.length ≤ 1000000) (hA : SlS fE w A c l) :
    Calls Try.prog 41 #[.slice A l.length c] w (OutL w l) := by
  cases A with
  | none =>
    obtain rfl := hA.1.none rfl
    have hnil := fun w => Lib.run_eql_slice_nil (P := Try.prog) w 22 _ none 0 c 0 0 Try.underlying22
    simp only [Option.isNone] at hnil
    go_enter Try.func41, Try.ntmps41
    go_wp2_with fail
    go_ret
    exact ⟨_, rfl, OwnF.nil _ _, Below.refl _ _⟩
  | some ad =>
    obtain ⟨v', w', hap, ho, hb, _⟩ := (OwnF.lit (F := fE) (T := 49) w w.heap.size [] #[] (Nat.le_refl _) (by unfold maxLen; simp) rfl (by simp)).app eEd (c := c) 22 ((hA.1.below (alloc_below _ _))) (by simp; omega) (by simp)
    have O := Lib.hid (show OwnE w' w.heap.size v' l from ho)
    have B := Lib.hid ((alloc_below w (.cells #[] 49)).trans hb)
    clear ho hb hA
    simp only [List.length_nil] at hap
    have hnil := fun w => Lib.run_eql_slice_nil (P := Try.prog) w 22 _ (some ad) l.length c 0 0 Try.underlying22
    simp only [Option.isNone] at hnil
    go_enter Try.func41, Try.ntmps41
    go_wp2_with (at_builtin; refine Lib.wpList_append_run _ rfl _ _ _ _ rfl _ _ rfl rfl _ _ hap ?_)
    go_ret
    exact ⟨_, rfl, O.out, B.out⟩

set_option maxHeartbeats 2000000 in
theorem pclonei_any (A : Option Addr) (c : Nat) (l : List Int) (w : World) (hl : l.length ≤ 1000000) (hA : SlS fI w A c l) :
    Calls Try.prog 42 #[.slice A l.length c] w (OutN w l) := by
  cases A with
  | none =>
    obtain rfl := hA.1.none rfl
    have hnil := fun w => Lib.run_eql_slice_nil (P := Try.prog) w 23 _ none 0 c 0 0 Try.underlying23
    simp only [Option.isNone] at hnil
    go_enter Try.func42, Try.ntmps42
    go_wp2_with fail
    go_ret
    exact ⟨_, rfl, OwnF.nil _ _, Below.refl _ _⟩
  | some ad =>
    obtain ⟨v', w', hap, ho, hb, _⟩ := (OwnF.lit (F := fI) (T := 3) w w.heap.size [] #[] (Nat.le_refl _) (by unfold maxLen; simp) rfl (by simp)).app eInt (c := c) 23 ((hA.1.below (alloc_below _ _))) (by simp; omega) (by simp)
    have O := Lib.hid (show OwnI w' w.heap.size v' l from ho)
    have B := Lib.hid ((alloc_below w (.cells #[] 3)).trans hb)
    clear ho hb hA
    simp only [List.length_nil] at hap
    have hnil := fun w => Lib.run_eql_slice_nil (P := Try.prog) w 23 _ (some ad) l.length c 0 0 Try.underlying23
    simp only [Option.isNone] at hnil
    go_enter Try.func42, Try.ntmps42
    go_wp2_with (at_builtin; refine Lib.wpList_append_run _ rfl _ _ _ _ rfl _ _ rfl rfl _ _ hap ?_)
    go_ret
    exact ⟨_, rfl, O.out, B.out⟩
set_option maxRecDepth 100000 in
set_option maxHeartbeats 2000000 in
theorem pup_any (x : Hd) (a : Ar) (w : World) (hl : Fit a) (h : AirS w x a) : Calls Try.prog 25 #[airV x a] w (EdR w (up a)) := by
  rw [show up a = wout (sane a).e (sane a).o from rfl]
  have KS := Lib.hid (fun w (h : AirS w x a) => psane_any x a w hl h)
  unfold SaneR at KS
  have FS := sane_fit hl
  have HS := Lib.hid h.sane
  have HB := Lib.hid (fun w' (hb : Below w.heap.size w w') => h.next hb)
  clear h hl
  generalize saneH x a = y at *
  generalize sane a = s at *
  obtain ⟨A1, c1, A2, c2, A3, c3⟩ := x
  obtain ⟨E0, O0, N0⟩ := a
  obtain ⟨D1, e1, D2, e2, D3, e3⟩ := y
  obtain ⟨E, O, N⟩ := s
  obtain ⟨l1, l2, l3⟩ := FS
  simp only at l1 l2 l3
  dsimp only [airV] at KS ⊢
  have b0 : Below w.heap.size w (w.alloc (.cells #[.slice A1 E0.length c1, .slice A2 O0.length c2, .slice A3 N0.length c3] 25)) := alloc_below w (.cells #[.slice A1 E0.length c1, .slice A2 O0.length c2, .slice A3 N0.length c3] 25)
  have hz1 : w.heap.size + 1 ≤ (w.alloc (.cells #[.slice A1 E0.length c1, .slice A2 O0.length c2, .slice A3 N0.length c3] 25)).heap.size := by simp
  have X1 : (w.alloc (.cells #[.slice A1 E0.length c1, .slice A2 O0.length c2, .slice A3 N0.length c3] 25)).heap[w.heap.size]? = some (.cells #[.slice A1 E0.length c1, .slice A2 O0.length c2, .slice A3 N0.length c3] 25) := blk_new w (.cells #[.slice A1 E0.length c1, .slice A2 O0.length c2, .slice A3 N0.length c3] 25)
  have HB1 := Lib.hid (HB.out _ b0)
  go_enter Try.func25, Try.ntmps25
  go_wp2_with fail
  refine (KS.out _ HB1.out).mono ?_
  rintro _ w2 ⟨rfl, hb⟩
  have X2 := blk_below X1 hb (by omega)
  have B2 := b0.trans (hb.mono (by omega))
  have hz2 : w.heap.size + 1 ≤ w2.heap.size := Nat.le_trans hz1 hb.size
  obtain ⟨z0, z1, z2⟩ := air_block X2
  have fr := fun j => blk_fr X2 j
  have V1 := Lib.hid (put3_blk X2 (.slice D1 E.length e1) (.slice D2 O.length e2) (.slice D3 N.length e3))
  have V2 := Lib.hid (put3_below B2 (Nat.le_refl w.heap.size) (.slice D1 E.length e1) (.slice D2 O.length e2) (.slice D3 N.length e3))
  have V3 := Lib.hid (HS.out.next V2.out)
  have V4 := put3_size w2 w.heap.size (.slice D1 E.length e1) (.slice D2 O.length e2) (.slice D3 N.length e3)
  obtain ⟨q0, q1, q2⟩ := air_block V1.out
  have fq := fun j => blk_fr V1.out j
  unfold put3 at q0 q1 q2 fq
  clear X1 X2 B2 hb hz1 KS HB HB1 b0
  go_wp2_with fail
  obtain ⟨V, hV⟩ : ∃ V, V = put3 w2 w.heap.size (.slice D1 E.length e1) (.slice D2 O.length e2) (.slice D3 N.length e3) := ⟨_, rfl⟩
  rw [← hV] at V1 V2 V3 V4
  unfold put3 at hV
  rw [← hV]
  clear hV z0 z1 z2 fr q0 q1 q2 fq
  have KW := Lib.hid (Tpo.pwout_any D1 e1 E D2 e2 O V (by omega) V3.out.1.1 (by omega) V3.out.2.1.1)
  unfold OutL at KW
  refine KW.out.mono ?_
  rintro _ w3 ⟨v, rfl, ho, hb⟩
  obtain ⟨A4, c4, rfl, hr⟩ := ho.slS
  have B3 := Lib.hid (V2.out.trans (hb.mono V2.out.size))
  clear hb ho KW
  go_wp2_with fail
  go_ret
  exact ⟨A4, c4, rfl, hr, B3.out⟩

set_option maxRecDepth 100000 in
set_option maxHeartbeats 2000000 in
theorem pchan_any (A : Option Addr) (c : Nat) (l : List Int) (now limit : Int) (w : World) (hl : l.length ≤ 1000000) (hA : FlAt fI w w.heap.size A l) :
    Calls Try.prog 17 #[.slice A l.length c, .int .i64 now, .int .i64 limit] w (OutI w (chan l now limit)) := by
  have HA := Lib.hid hA
  clear hA
  by_cases hF : Fine l now limit
  · have R := Lib.hid (show chan l now limit = now from if_pos hF)
    obtain ⟨⟨h1, h2⟩, h3⟩ := hF
    obtain ⟨n, rfl⟩ : ∃ n : Nat, now = n := ⟨now.toNat, by omega⟩
    have hn : n < l.length := by omega
    obtain ⟨b, p, rfl, _, g0, _⟩ := fI_cell HA.out n hn
    rw [Int.toNat_natCast, List.getD_eq_getElem?_getD, List.getElem?_eq_getElem hn] at h3
    simp only [Option.getD_some] at h3
    generalize chan l n limit = r at *
    generalize l[n] = x0 at *
    have d1 := dt h3
    clear h3
    go_enter Try.func17, Try.ntmps17
    go_wp2_with fail
    go_ret
    exact outI R.out.symm (Below.refl _ _)
  · have R := Lib.hid (show bst l l.length = chan l now limit from (if_neg hF).symm)
    generalize chan l now limit = r at *
    have LOOP : (now < 0 ∨ (0 ≤ now ∧ (l.length : Int) ≤ now) ∨ ∃ (n : Nat) (h : n < l.length), now = n ∧ limit < l[n]) := by
      unfold Fine at hF
      by_cases h1 : 0 ≤ now
      · by_cases h2 : now < l.length
        · refine Or.inr (Or.inr ⟨now.toNat, by omega, by omega, ?_⟩)
          have : ¬ l.getD now.toNat 0 ≤ limit := fun q => hF ⟨⟨h1, h2⟩, q⟩
          rw [List.getD_eq_getElem?_getD, List.getElem?_eq_getElem (by omega)] at this
          simp only [Option.getD_some] at this
          omega
        · exact Or.inr (Or.inl ⟨h1, by omega⟩)
      · exact Or.inl (by omega)
    have BI := Lib.hid (bst_is l)
    have BS := Lib.hid (fun k => (show bst l (k + 1) = if bst l k < 0 ∨ l.getD k 0 < l.getD (bst l k).toNat 0 then (k : Int) else bst l k from rfl))
    have B0 := Lib.hid (show bst l 0 = -1 from rfl)
    clear hF
    rcases LOOP with h1 | ⟨h1, h2⟩ | ⟨n, hn, rfl, h3⟩
    rotate_left 2
    obtain ⟨b0, p0, e0, _, m0, _⟩ := fI_cell HA.out n hn
    generalize l[n] = x0 at *
    have d1 := df (show ¬ x0 ≤ limit by omega)
    subst e0
    clear h3
    rotate_left 1
    have d1 := df (show ¬ 0 ≤ now by omega)
    rotate_left 1
    have d1 := dt h1
    have d2 := df (show ¬ now < (l.length : Int) by omega)
    all_goals (
      go_enter Try.func17, Try.ntmps17
      go_wp2_with fail
      clear d1
      try clear d2
      try clear m0
      go_loopw [7, 29] (fun vb vk wr => ∃ (k : Nat) (bi : Int), vk = .int .i64 k ∧ k ≤ l.length ∧ vb = .int .i64 bi ∧ Hid (bi = bst l k) ∧ Below w.heap.size w wr) (fun _ vk _ => l.length - (intOf vk).toNat)
      case atStart => exact ⟨0, -1, rfl, Nat.zero_le _, rfl, Lib.hid B0.out.symm, Below.refl _ _⟩
      case round =>
        obtain ⟨k, bi, rfl, hk, rfl, HK, hb⟩ := hrel
        have B := Lib.hid hb
        by_cases hlt : k < l.length
        · obtain ⟨b, p, e1, _, g0, _⟩ := fI_cell (HA.out.below hb) k hlt
          have ek : l.getD k 0 = l[k] := by rw [List.getD_eq_getElem?_getD, List.getElem?_eq_getElem hlt]; rfl
          have S := BS.out k
          rw [ek] at S
          rcases BI.out k hk with ⟨rfl, hbk⟩ | ⟨i, hi, hbk, _⟩
          · have e2 := HK.out.trans hbk
            subst e2
            first | subst e1 | (simp only [Option.some.injEq, Addr.mk.injEq, and_true] at e1; obtain ⟨rfl, rfl⟩ := e1)
            have S := Lib.hid (S.trans (by first | (rw [hbk]; done) | (rw [hbk]; rfl)))
            clear hbk ek hb BI BS B0 HK
            rw [Nat.add_zero] at g0
            generalize l[0] = x1 at *
            go_wp2_with fail
            go_roundw
            case rel => exact ⟨1, 0, by go_num, hlt, rfl, Lib.hid S.out.symm, B.out⟩
            case measure => simp [intOf]; omega
          · have e2 := HK.out.trans hbk
            subst e2
            have hil : i < l.length := by omega
            obtain ⟨b', p', e3, _, g1, _⟩ := fI_cell (HA.out.below hb) i hil
            first | subst e1 | (simp only [Option.some.injEq, Addr.mk.injEq, and_true] at e1; obtain ⟨rfl, rfl⟩ := e1)
            simp only [Option.some.injEq, Addr.mk.injEq, and_true] at e3
            obtain ⟨rfl, rfl⟩ := e3
            have ei : l.getD (bst l k).toNat 0 = l[i] := by rw [hbk, Int.toNat_natCast, List.getD_eq_getElem?_getD, List.getElem?_eq_getElem hil]; rfl
            rw [ei, hbk] at S
            clear hbk ek ei hb BI BS B0 HK
            generalize l[k] = x1 at *
            generalize l[i] = x2 at *
            have d4 : ((i : Int) == -1) = false := beq_false_of_ne (by omega)
            by_cases hx : x1 < x2
            · have S := Lib.hid (S.trans (if_pos (Or.inr hx)))
              have d3 := dt hx
              clear hx
              go_wp2_with fail
              go_roundw
              case rel => exact ⟨k + 1, k, by go_num, hlt, rfl, Lib.hid S.out.symm, B.out⟩
              case measure => simp [intOf]; omega
            · have S := Lib.hid (S.trans (if_neg (by omega)))
              have d3 := df hx
              clear hx
              go_wp2_with fail
              go_roundw
              case rel => exact ⟨k + 1, i, by go_num, hlt, rfl, Lib.hid S.out.symm, B.out⟩
              case measure => simp [intOf]; omega
        · obtain rfl : k = l.length := by omega
          have E := HK.out.trans R.out
          clear HK hb
          go_wp2_with fail
          go_ret
          exact outI E B.out)

end Go.Proofs.Ytcnmknhjmflinaa.Rdo
