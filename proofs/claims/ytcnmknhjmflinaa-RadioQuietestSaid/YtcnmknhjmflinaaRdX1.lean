/- Package radio: isNode, areNodes (slices.IndexFunc, ContainsFunc at ints), Check, accepted. -/
import Derived.Test.YtcnmknhjmflinaaRdD
import Derived.Test.YtcnmknhjmflinaaTW
import Derived.Deep.RegionHeld3
set_option linter.unusedVariables false
namespace Go.Proofs.Ytcnmknhjmflinaa.Rdo
open Go.RowKit
open Tpo (fE EdAt OwnE OwnI OutN OutL near wout sel)

theorem pnode_any (n : Int) (w : World) : Calls Try.prog 51 #[.int .i64 n] w fun e w' => e = .returned (.bool (decide (Tpo.Nd n))) ∧ w = w' := by
  by_cases c1 : 0 ≤ n
  · have R := Lib.hid (show decide (Tpo.Nd n) = decide (n ≤ 250) from decide_eq_decide.2 ⟨fun h => h.2, fun h => ⟨c1, h⟩⟩)
    have d1 := dt c1
    go_enter Try.func51, Try.ntmps51
    go_wp2_with fail
    go_ret
    exact ⟨ret_bool R.out.symm, rfl⟩
  · have R := Lib.hid (show decide (Tpo.Nd n) = false from df (fun h => c1 h.1))
    have d1 := df c1
    go_enter Try.func51, Try.ntmps51
    go_wp2_with fail
    go_ret
    exact ⟨ret_bool R.out.symm, rfl⟩
theorem pno_any (n : Int) (w : World) : Calls Try.prog 50 (#[.int .i64 n] ++ #[]) w fun e w' => e = .returned (.bool (!decide (Tpo.Nd n))) ∧ w = w' := by
  have K := Lib.hid (fun w => pnode_any n w)
  generalize decide (Tpo.Nd n) = F at *
  go_enter Try.func50, Try.ntmps50
  go_wp2_with fail
  refine (K.out _).mono ?_
  rintro _ _ ⟨rfl, rfl⟩
  go_wp2_with fail
  go_ret
  exact ⟨rfl, rfl⟩

/-- The index of the first one of which p holds, or -1. -/
def ixU (p : Int → Bool) (l : List Int) : Int := match l.findIdx? p with
  | some i => i
  | none => -1
theorem ixU_hit (p : Int → Bool) (l : List Int) (k : Nat) (hk : k < l.length) (h : p l[k] = true) (hn : ∀ j (hj : j < l.length), j < k → p l[j] = false) : ixU p l = k := by
  unfold ixU
  have : l.findIdx? p = some k := List.findIdx?_eq_some_iff_getElem.2 ⟨hk, h, fun j hj => by rw [hn j (by omega) hj]; simp⟩
  rw [this]
theorem ixU_miss (p : Int → Bool) (l : List Int) (hn : ∀ j (hj : j < l.length), p l[j] = false) : ixU p l = -1 := by
  unfold ixU
  have : l.findIdx? p = none := List.findIdx?_eq_none_iff.2 fun x hx => by
    obtain ⟨j, hj, rfl⟩ := List.getElem_of_mem hx
    exact hn j hj
  rw [this]
theorem ixU_is (p : Int → Bool) (l : List Int) : (ixU p l = -1 ∧ ∀ j (hj : j < l.length), p l[j] = false) ∨ ∃ (i : Nat) (hi : i < l.length), ixU p l = i ∧ p l[i] = true ∧ ∀ j (hj : j < l.length), j < i → p l[j] = false := by
  unfold ixU
  cases h : l.findIdx? p with
  | none => exact Or.inl ⟨rfl, fun j hj => List.findIdx?_eq_none_iff.1 h _ (List.getElem_mem hj)⟩
  | some i =>
    obtain ⟨hi, h1, h2⟩ := List.findIdx?_eq_some_iff_getElem.1 h
    exact Or.inr ⟨i, hi, rfl, h1, fun j hj hji => by have := h2 j hji; simpa using this⟩
set_option maxRecDepth 100000 in
set_option maxHeartbeats 2000000 in
theorem pindex_any (g : FuncId) (caps : Array Value) (p : Int → Bool) (A : Option Addr) (c : Nat) (m : List Int) (w : World) (hl : m.length ≤ 1000000) (hA : FlAt fI w w.heap.size A m)
    (eg : ∀ args w, (callFunc g args).run Try.prog w = .ok (.enter g args) w) (hp : ∀ x, Calls Try.prog g (#[.int .i64 x] ++ caps) w fun e w' => e = .returned (.bool (p x)) ∧ w = w') :
    Calls Try.prog 61 #[.slice A m.length c, .func (.func g) #[] caps] w fun e w' => e = .returned (.int .i64 (ixU p m)) ∧ w = w' := by
  have HM := Lib.hid hA
  have HP := Lib.hid hp
  have KH := Lib.hid (fun (k : Nat) (hk : k < m.length) h hn => ixU_hit p m k hk h hn)
  have KM := Lib.hid (fun hn => ixU_miss p m hn)
  clear hA hp
  generalize ixU p m = F at *
  go_enter Try.func61, Try.ntmps61
  go_wp2_with fail
  go_loop [8] (fun vi => ∃ n : Nat, n ≤ m.length ∧ vi = .int .i64 (n : Int) ∧ Hid (∀ j (hj : j < m.length), j < n → p m[j] = false)) (fun vi => m.length - (intOf vi).toNat)
  case atStart => exact ⟨0, Nat.zero_le _, rfl, Lib.hid fun j hj h => by omega⟩
  case round =>
    obtain ⟨n, hn, rfl, HN⟩ := hrel
    by_cases hlt : n < m.length
    · obtain ⟨bb, q, rfl, _, g0, _⟩ := fI_cell HM.out n hlt
      have KP := Lib.hid (HP.out m[n])
      have Y := Lib.hid (fun h => KH.out n hlt h HN.out)
      have N := Lib.hid (show p m[n] = false → ∀ j (hj : j < m.length), j < n + 1 → p m[j] = false from fun h j hj hjn => by
        by_cases e : j = n
        · subst e; exact h
        · exact HN.out j hj (by omega))
      clear KH KM HN HP
      generalize p m[n] = z at KP Y N
      generalize m[n] = x at *
      go_wp2_with fail
      refine KP.out.mono ?_
      rintro _ _ ⟨rfl, rfl⟩
      clear KP
      cases z with
      | false =>
        have E := Lib.hid (N.out rfl)
        clear Y N
        go_wp2_with fail
        go_round
        case rel => exact ⟨n + 1, hlt, by go_num, E⟩
        case measure => simp [intOf]; omega
      | true =>
        have E := Lib.hid (Y.out rfl)
        clear Y N
        go_wp2_with fail
        go_ret
        exact ⟨ret_int E.out.symm, rfl⟩
    · obtain rfl : n = m.length := by omega
      have E := Lib.hid (KM.out fun j hj => HN.out j hj hj)
      clear KH KM HN HP
      go_wp2_with fail
      go_ret
      exact ⟨ret_int E.out.symm, rfl⟩
theorem ixU_any (p : Int → Bool) (l : List Int) : decide (0 ≤ ixU p l) = l.any p := by
  rcases ixU_is p l with ⟨h1, h2⟩ | ⟨i, hi, h1, h2, _⟩
  · rw [h1]
    symm
    rw [show decide ((0 : Int) ≤ -1) = false from rfl, List.any_eq_false]
    intro x hx
    obtain ⟨j, hj, rfl⟩ := List.getElem_of_mem hx
    rw [h2 j hj]; simp
  · rw [h1, decide_eq_true (by omega)]
    symm
    rw [List.any_eq_true]
    exact ⟨_, List.getElem_mem hi, h2⟩
theorem pcontf_any (g : FuncId) (caps : Array Value) (p : Int → Bool) (A : Option Addr) (c : Nat) (m : List Int) (w : World) (hl : m.length ≤ 1000000) (hA : FlAt fI w w.heap.size A m)
    (eg : ∀ args w, (callFunc g args).run Try.prog w = .ok (.enter g args) w) (hp : ∀ x, Calls Try.prog g (#[.int .i64 x] ++ caps) w fun e w' => e = .returned (.bool (p x)) ∧ w = w') :
    Calls Try.prog 49 #[.slice A m.length c, .func (.func g) #[] caps] w fun e w' => e = .returned (.bool (m.any p)) ∧ w = w' := by
  have K := Lib.hid (pindex_any g caps p A c m w hl hA eg hp)
  have R := Lib.hid (ixU_any p m)
  clear hA hp eg
  generalize m.any p = F at *
  generalize ixU p m = n at *
  go_enter Try.func49, Try.ntmps49
  go_wp2_with fail
  refine K.out.mono ?_
  rintro _ _ ⟨rfl, rfl⟩
  clear K
  go_wp2_with fail
  go_ret
  exact ⟨ret_bool R.out, rfl⟩
theorem pnodes_any (A : Option Addr) (c : Nat) (l : List Int) (w : World) (hl : l.length ≤ 1000000) (hA : FlAt fI w w.heap.size A l) :
    Calls Try.prog 31 #[.slice A l.length c] w fun e w' => e = .returned (.bool (decide (AllN l))) ∧ w = w' := by
  have eg : ∀ args w, (callFunc 50 args).run Try.prog w = .ok (.enter 50 args) w := enters_of Try.func50 (by kernel_rfl) rfl
  have K := Lib.hid (pcontf_any 50 #[] (fun n => !decide (Tpo.Nd n)) A c l w hl hA eg (fun x => pno_any x w))
  have R := Lib.hid (show (!(l.any fun n => !decide (Tpo.Nd n))) = decide (AllN l) by
    rw [List.not_any_eq_all_not]
    by_cases h : AllN l
    · rw [decide_eq_true h, List.all_eq_true]
      intro x hx
      simp [h x hx]
    · rw [decide_eq_false h, List.all_eq_false]
      unfold AllN at h
      simp only [Classical.not_forall] at h
      obtain ⟨x, hx, hn⟩ := h
      exact ⟨x, hx, by simp [hn]⟩)
  clear hA eg
  generalize (l.any fun n => !decide (Tpo.Nd n)) = b at *
  generalize decide (AllN l) = F at *
  go_enter Try.func31, Try.ntmps31
  go_wp2_with fail
  refine K.out.mono ?_
  rintro _ _ ⟨rfl, rfl⟩
  clear K
  go_wp2_with fail
  go_ret
  exact ⟨ret_bool R.out, rfl⟩
set_option maxRecDepth 100000 in
set_option maxHeartbeats 2000000 in
theorem pcheck_any (x : Hd) (a : Ar) (w : World) (hl : Fit a) (h : AirS w x a) : Calls Try.prog 11 #[airV x a] w (OutI w (achk a)) := by
  obtain ⟨A1, c1, A2, c2, A3, c3⟩ := x
  obtain ⟨E, O, N⟩ := a
  have HA := Lib.hid h
  obtain ⟨l1, l2, l3⟩ := hl
  simp only at l1 l2 l3
  clear h
  dsimp only [airV]
  have KC := Lib.hid (fun w (h : AirS w ⟨A1, c1, A2, c2, A3, c3⟩ ⟨E, O, N⟩) => Tpo.pcheck_any A1 c1 E w (by omega) h.1.1)
  have K2 := Lib.hid (fun w (h : AirS w ⟨A1, c1, A2, c2, A3, c3⟩ ⟨E, O, N⟩) => pnodes_any A2 c2 O w (by omega) h.2.1.1)
  have K3 := Lib.hid (fun w (h : AirS w ⟨A1, c1, A2, c2, A3, c3⟩ ⟨E, O, N⟩) => pnodes_any A3 c3 N w (by omega) h.2.2.1)
  unfold OutI at KC
  have HB := Lib.hid (HA.out.next (alloc_below w (.cells #[.slice A1 E.length c1, .slice A2 O.length c2, .slice A3 N.length c3] 25)))
  by_cases h1 : Tpo.chk E = 0
  rotate_left
  · have R := Lib.hid (show achk ⟨E, O, N⟩ = Tpo.chk E from if_pos h1)
    have d1 : (Tpo.chk E != 0) = true := by simpa using h1
    clear K2 K3 h1
    generalize Tpo.chk E = r at *
    go_enter Try.func11, Try.ntmps11
    go_wp2_with fail
    refine (KC.out _ HB.out).mono ?_
    rintro _ w2 ⟨rfl, hb⟩
    have g0 := box_at hb 0 rfl
    have B2 := Lib.hid (box_below hb)
    clear hb
    go_wp2_with fail
    go_ret
    exact outI R.out.symm B2.out
  rw [h1] at KC
  by_cases h2 : AllN O
  rotate_left
  · have R := Lib.hid (show achk ⟨E, O, N⟩ = 2 from by unfold achk; rw [if_neg (by simpa using h1), if_pos (fun q => h2 q.1)])
    rw [df h2] at K2
    clear K3 h1 h2
    go_enter Try.func11, Try.ntmps11
    go_wp2_with fail
    refine (KC.out _ HB.out).mono ?_
    rintro _ w2 ⟨rfl, hb⟩
    have g0 := box_at hb 1 rfl
    have B2 := Lib.hid (box_below hb)
    have H2 := Lib.hid (HB.out.next hb)
    clear hb
    go_wp2_with fail
    refine (K2.out _ H2.out).mono ?_
    rintro _ _ ⟨rfl, rfl⟩
    go_wp2_with fail
    go_ret
    exact outI R.out.symm B2.out
  rw [dt h2] at K2
  have tail : ∀ (b3 : Bool) (n : Int), decide (AllN N) = b3 → achk ⟨E, O, N⟩ = n → (b3 = false ∧ n = 2 ∨ b3 = true ∧ (24 < O.length ∧ n = 3 ∨ ¬ 24 < O.length ∧ (24 < N.length ∧ n = 3 ∨ ¬ 24 < N.length ∧ n = 0))) → Calls Try.prog 11 #[.agg #[.slice A1 E.length c1, .slice A2 O.length c2, .slice A3 N.length c3]] w (OutI w (achk ⟨E, O, N⟩)) := by
    intro b3 n hb3 hn hw
    rw [hb3] at K3
    rw [hn]
    clear h1 h2 hb3 hn
    rcases hw with ⟨rfl, rfl⟩ | ⟨rfl, hw⟩
    · go_enter Try.func11, Try.ntmps11
      go_wp2_with fail
      refine (KC.out _ HB.out).mono ?_
      rintro _ w2 ⟨rfl, hb⟩
      have g0 := box_at hb 1 rfl
      have g1 := box_at hb 2 rfl
      have B2 := Lib.hid (box_below hb)
      have H2 := Lib.hid (HB.out.next hb)
      clear hb
      go_wp2_with fail
      refine (K2.out _ H2.out).mono ?_
      rintro _ _ ⟨rfl, rfl⟩
      go_wp2_with fail
      refine (K3.out _ H2.out).mono ?_
      rintro _ _ ⟨rfl, rfl⟩
      go_wp2_with fail
      go_ret
      exact outI rfl B2.out
    · rcases hw with ⟨q1, rfl⟩ | ⟨q1, ⟨q2, rfl⟩ | ⟨q2, rfl⟩⟩
      · have d1 := dt (show (24 : Int) < (O.length : Int) by omega)
        clear q1
        go_enter Try.func11, Try.ntmps11
        go_wp2_with fail
        refine (KC.out _ HB.out).mono ?_
        rintro _ w2 ⟨rfl, hb⟩
        have g0 := box_at hb 1 rfl
        have g1 := box_at hb 2 rfl
        have B2 := Lib.hid (box_below hb)
        have H2 := Lib.hid (HB.out.next hb)
        clear hb
        go_wp2_with fail
        refine (K2.out _ H2.out).mono ?_
        rintro _ _ ⟨rfl, rfl⟩
        go_wp2_with fail
        refine (K3.out _ H2.out).mono ?_
        rintro _ _ ⟨rfl, rfl⟩
        go_wp2_with fail
        go_ret
        exact outI rfl B2.out
      · have d1 := df (show ¬ (24 : Int) < (O.length : Int) by omega)
        have d2 := dt (show (24 : Int) < (N.length : Int) by omega)
        clear q1 q2
        go_enter Try.func11, Try.ntmps11
        go_wp2_with fail
        refine (KC.out _ HB.out).mono ?_
        rintro _ w2 ⟨rfl, hb⟩
        have g0 := box_at hb 1 rfl
        have g1 := box_at hb 2 rfl
        have B2 := Lib.hid (box_below hb)
        have H2 := Lib.hid (HB.out.next hb)
        clear hb
        go_wp2_with fail
        refine (K2.out _ H2.out).mono ?_
        rintro _ _ ⟨rfl, rfl⟩
        go_wp2_with fail
        refine (K3.out _ H2.out).mono ?_
        rintro _ _ ⟨rfl, rfl⟩
        go_wp2_with fail
        go_ret
        exact outI rfl B2.out
      · have d1 := df (show ¬ (24 : Int) < (O.length : Int) by omega)
        have d2 := df (show ¬ (24 : Int) < (N.length : Int) by omega)
        clear q1 q2
        go_enter Try.func11, Try.ntmps11
        go_wp2_with fail
        refine (KC.out _ HB.out).mono ?_
        rintro _ w2 ⟨rfl, hb⟩
        have g0 := box_at hb 1 rfl
        have g1 := box_at hb 2 rfl
        have B2 := Lib.hid (box_below hb)
        have H2 := Lib.hid (HB.out.next hb)
        clear hb
        go_wp2_with fail
        refine (K2.out _ H2.out).mono ?_
        rintro _ _ ⟨rfl, rfl⟩
        go_wp2_with fail
        refine (K3.out _ H2.out).mono ?_
        rintro _ _ ⟨rfl, rfl⟩
        go_wp2_with fail
        go_ret
        exact outI rfl B2.out
  have e0 : achk ⟨E, O, N⟩ = if ¬ AllN N then 2 else if 24 < O.length ∨ 24 < N.length then 3 else 0 := by
    unfold achk
    rw [if_neg (by simpa using h1)]
    simp [h2]
  by_cases h3 : AllN N
  · rw [if_neg (by simpa using h3)] at e0
    by_cases q1 : 24 < O.length
    · exact tail true 3 (dt h3) (by rw [e0, if_pos (Or.inl q1)]) (Or.inr ⟨rfl, Or.inl ⟨q1, rfl⟩⟩)
    · by_cases q2 : 24 < N.length
      · exact tail true 3 (dt h3) (by rw [e0, if_pos (Or.inr q2)]) (Or.inr ⟨rfl, Or.inr ⟨q1, Or.inl ⟨q2, rfl⟩⟩⟩)
      · exact tail true 0 (dt h3) (by rw [e0, if_neg (by omega)]) (Or.inr ⟨rfl, Or.inr ⟨q1, Or.inr ⟨q2, rfl⟩⟩⟩)
  · exact tail false 2 (df h3) (by rw [e0, if_pos h3]) (Or.inl ⟨rfl, rfl⟩)
set_option maxRecDepth 100000 in
set_option maxHeartbeats 2000000 in
theorem psane_any (x : Hd) (a : Ar) (w : World) (hl : Fit a) (h : AirS w x a) : Calls Try.prog 34 #[airV x a] w (SaneR w x a) := by
  unfold SaneR
  have KC := Lib.hid (fun w (h : AirS w x a) => pcheck_any x a w hl h)
  unfold OutI at KC
  by_cases hc : achk a = 0
  · rw [sane_ok hc, saneH_ok hc]
    rw [hc] at KC
    clear hc hl
    obtain ⟨A1, c1, A2, c2, A3, c3⟩ := x
    obtain ⟨E, O, N⟩ := a
    dsimp only [airV] at KC ⊢
    have b0 : Below w.heap.size w ((w.alloc (.cells #[.slice A1 E.length c1, .slice A2 O.length c2, .slice A3 N.length c3] 25)).alloc (.cells #[.slice none 0 0, .slice none 0 0, .slice none 0 0] 25)) := (alloc_below w (.cells #[.slice A1 E.length c1, .slice A2 O.length c2, .slice A3 N.length c3] 25)).trans ((alloc_below (w.alloc (.cells #[.slice A1 E.length c1, .slice A2 O.length c2, .slice A3 N.length c3] 25)) (.cells #[.slice none 0 0, .slice none 0 0, .slice none 0 0] 25)).mono (by simp))
    have HB := Lib.hid (h.next b0)
    have X1 := blk_alloc (blk_new w (.cells #[.slice A1 E.length c1, .slice A2 O.length c2, .slice A3 N.length c3] 25)) (.cells #[.slice none 0 0, .slice none 0 0, .slice none 0 0] 25)
    have R1 : ((w.alloc (.cells #[.slice A1 E.length c1, .slice A2 O.length c2, .slice A3 N.length c3] 25)).alloc (.cells #[.slice none 0 0, .slice none 0 0, .slice none 0 0] 25)).heap[w.heap.size + 1]? = some (.cells #[.slice none 0 0, .slice none 0 0, .slice none 0 0] 25) := by have := blk_new (w.alloc (.cells #[.slice A1 E.length c1, .slice A2 O.length c2, .slice A3 N.length c3] 25)) (.cells #[.slice none 0 0, .slice none 0 0, .slice none 0 0] 25); simpa using this
    have hz1 : ((w.alloc (.cells #[.slice A1 E.length c1, .slice A2 O.length c2, .slice A3 N.length c3] 25)).alloc (.cells #[.slice none 0 0, .slice none 0 0, .slice none 0 0] 25)).heap.size = w.heap.size + 2 := by simp
    go_enter Try.func34, Try.ntmps34
    clear h
    go_wp2_with fail
    refine (KC.out _ HB.out).mono ?_
    rintro _ w2 ⟨rfl, hb⟩
    have X2 := blk_below X1 hb (by omega)
    have R2 := blk_below R1 hb (by omega)
    have B2 := b0.trans (hb.mono (by omega))
    obtain ⟨g0, g1, g2⟩ := air_block X2
    obtain ⟨z0, z1, z2⟩ := air_block R2
    have fr := fun j => blk_fr R2 j
    have V1 := Lib.hid (put3_blk R2 (.slice A1 E.length c1) (.slice A2 O.length c2) (.slice A3 N.length c3))
    have V2 := Lib.hid (put3_below B2 (Nat.le_succ w.heap.size) (.slice A1 E.length c1) (.slice A2 O.length c2) (.slice A3 N.length c3))
    clear X1 R1 X2 R2 B2 hb hz1 KC HB b0
    go_wp2_with fail
    clear g0 g1 g2 fr z0 z1 z2
    obtain ⟨V, hV⟩ : ∃ V, V = put3 w2 (w.heap.size + 1) (.slice A1 E.length c1) (.slice A2 O.length c2) (.slice A3 N.length c3) := ⟨_, rfl⟩
    rw [← hV] at V1 V2
    obtain ⟨r0, r1, r2⟩ := air_block V1.out
    unfold put3 at hV
    rw [← hV]
    clear hV
    exact bodyPost_ret (v := airV ⟨A1, c1, A2, c2, A3, c3⟩ ⟨E, O, N⟩) (by simp [results, Try.results34, go_sem, r0, r1, r2]) rfl ⟨rfl, V2.out⟩
  · rw [sane_no hc, saneH_no hc]
    have d1 : (achk a != 0) = true := by simpa using hc
    generalize achk a = r at *
    clear hc hl
    obtain ⟨A1, c1, A2, c2, A3, c3⟩ := x
    obtain ⟨E, O, N⟩ := a
    dsimp only [airV] at KC ⊢
    have b0 : Below w.heap.size w ((w.alloc (.cells #[.slice A1 E.length c1, .slice A2 O.length c2, .slice A3 N.length c3] 25)).alloc (.cells #[.slice none 0 0, .slice none 0 0, .slice none 0 0] 25)) := (alloc_below w (.cells #[.slice A1 E.length c1, .slice A2 O.length c2, .slice A3 N.length c3] 25)).trans ((alloc_below (w.alloc (.cells #[.slice A1 E.length c1, .slice A2 O.length c2, .slice A3 N.length c3] 25)) (.cells #[.slice none 0 0, .slice none 0 0, .slice none 0 0] 25)).mono (by simp))
    have HB := Lib.hid (h.next b0)
    have R1 : ((w.alloc (.cells #[.slice A1 E.length c1, .slice A2 O.length c2, .slice A3 N.length c3] 25)).alloc (.cells #[.slice none 0 0, .slice none 0 0, .slice none 0 0] 25)).heap[w.heap.size + 1]? = some (.cells #[.slice none 0 0, .slice none 0 0, .slice none 0 0] 25) := by have := blk_new (w.alloc (.cells #[.slice A1 E.length c1, .slice A2 O.length c2, .slice A3 N.length c3] 25)) (.cells #[.slice none 0 0, .slice none 0 0, .slice none 0 0] 25); simpa using this
    have hz1 : ((w.alloc (.cells #[.slice A1 E.length c1, .slice A2 O.length c2, .slice A3 N.length c3] 25)).alloc (.cells #[.slice none 0 0, .slice none 0 0, .slice none 0 0] 25)).heap.size = w.heap.size + 2 := by simp
    go_enter Try.func34, Try.ntmps34
    clear h
    go_wp2_with fail
    refine (KC.out _ HB.out).mono ?_
    rintro _ w2 ⟨rfl, hb⟩
    have R2 := blk_below R1 hb (by omega)
    have B2 := b0.trans (hb.mono (by omega))
    have fr := fun j => blk_fr R2 j
    obtain ⟨z0, z1, z2⟩ := air_block R2
    have V1 := Lib.hid (put3_blk R2 (.slice none 0 0) (.slice none 0 0) (.slice none 0 0))
    have V2 := Lib.hid (put3_below B2 (Nat.le_succ w.heap.size) (.slice none 0 0) (.slice none 0 0) (.slice none 0 0))
    clear R1 R2 B2 hb hz1 KC HB b0
    go_wp2_with fail
    clear fr z0 z1 z2
    obtain ⟨V, hV⟩ : ∃ V, V = put3 w2 (w.heap.size + 1) (.slice none 0 0) (.slice none 0 0) (.slice none 0 0) := ⟨_, rfl⟩
    rw [← hV] at V1 V2
    obtain ⟨r0, r1, r2⟩ := air_block V1.out
    unfold put3 at hV
    rw [← hV]
    clear hV
    exact bodyPost_ret (v := airV hd0 ar0) (by simp [results, Try.results34, go_sem, r0, r1, r2, hd0]) rfl ⟨rfl, V2.out⟩
end Go.Proofs.Ytcnmknhjmflinaa.Rdo
