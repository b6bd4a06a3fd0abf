/- Package mailbox: limited, isOrdinary, cut, lastOrdinary, slices.Clone, slices.IndexFunc, without, with, place. -/
import Derived.Test.YtlfegjhhkeceiaaMbR
set_option linter.unusedVariables false
namespace Go.Proofs.Ytlfegjhhkeceiaa.Mbx
open Go.RowKit

theorem plimited_any (n : Int) (w : World) : Calls Try.prog 27 #[.int .i64 n] w fun e w' => e = .returned (.int .i64 (lim n)) ∧ w = w' := by
  have R := Lib.hid (show min (max n 0) 1099511627776 = lim n by unfold lim; split <;> (try split) <;> omega)
  go_enter Try.func27, Try.ntmps27
  go_wp2_with fail
  go_ret
  exact ⟨ret_int R.out, rfl⟩

theorem pord_any (x : Ml) (w : World) : Calls Try.prog 34 #[mlV x] w (OutB w (!x.1.u)) := by
  obtain ⟨⟨x0, x1, x2, x3, x4, x5, x6, x7, x8⟩, x9⟩ := x
  go_enter Try.func34, Try.ntmps34
  go_wp2_with fail
  go_ret
  exact outB rfl (alloc_below _ _)

theorem utM : Try.prog.underlying 22 = some (.slice (Try.prog.elem 22)) := by kernel_rfl
theorem szM (W : World) : (sizeOf (Try.prog.elem 22)).run Try.prog W = .ok fM.sz W := by show _ = Result.ok 10 W; kernel_rfl

set_option maxHeartbeats 1000000 in
theorem pcut_any (A : Option Addr) (c : Nat) (l : List Ml) (w : World) (hl : l.length ≤ 9223372036854775807) (hA : MlS w A c l) :
    Calls Try.prog 21 #[.slice A l.length c] w fun e w' => ∃ A1, e = .returned (.slice A1 (l.take 16).length (l.take 16).length) ∧ MlS w A1 (l.take 16).length (l.take 16) ∧ w = w' := by
  obtain ⟨k, hk⟩ : ∃ k, k = (l.take 16).length := ⟨_, rfl⟩
  have hk2 : k ≤ l.length := by rw [hk, List.length_take]; omega
  have hm : min (l.length : Int) 16 = (k : Int) := by rw [hk, List.length_take]; omega
  obtain ⟨A1, e1, h1⟩ := hA.cut utM szM k hk2
  have ek : l.take k = l.take 16 := by
    rw [hk, List.length_take]
    by_cases h : 16 ≤ l.length
    · rw [Nat.min_eq_left h]
    · rw [Nat.min_eq_right (by omega), List.take_of_length_le (Nat.le_refl _), List.take_of_length_le (by omega)]
  rw [ek] at h1
  rw [← hk]
  have H1 := Lib.hid h1
  clear hA hk h1 ek
  go_enter Try.func21, Try.ntmps21
  go_wp2_with fail
  go_ret
  exact ⟨A1, rfl, H1.out, rfl⟩

set_option maxHeartbeats 2000000 in
theorem pclone_any (A : Option Addr) (c : Nat) (l : List Ml) (w : World) (hl : l.length ≤ 1000000) (hA : MlS w A c l) :
    Calls Try.prog 23 #[.slice A l.length c] w (OutM w l) := by
  cases A with
  | none =>
    obtain rfl := hA.1.none rfl
    have hnil := fun w => Lib.run_eql_slice_nil (P := Try.prog) w 22 _ none 0 c 0 0 Try.underlying22
    simp only [Option.isNone] at hnil
    go_enter Try.func23, Try.ntmps23
    go_wp2_with fail
    go_ret
    exact ⟨_, rfl, OwnF.nil _ _, Below.refl _ _⟩
  | some ad =>
    obtain ⟨v', w', hap, ho, hb, _⟩ := (OwnF.lit (F := fM) (T := 39) w w.heap.size [] #[] (Nat.le_refl _) (by unfold maxLen; simp) rfl (by simp)).app eMl (c := c) 22 ((hA.1.below (alloc_below _ _))) (by simp; omega) (by simp)
    have O := Lib.hid (show OwnM w' w.heap.size v' l from ho)
    have B := Lib.hid ((alloc_below w (.cells #[] 39)).trans hb)
    clear ho hb hA
    simp only [List.length_nil] at hap
    have hnil := fun w => Lib.run_eql_slice_nil (P := Try.prog) w 22 _ (some ad) l.length c 0 0 Try.underlying22
    simp only [Option.isNone] at hnil
    go_enter Try.func23, Try.ntmps23
    go_wp2_with (at_builtin; refine Lib.wpList_append_run _ rfl _ _ _ _ rfl _ _ rfl rfl _ _ hap ?_)
    go_ret
    exact ⟨_, rfl, O.out, B.out⟩

set_option maxRecDepth 100000 in
set_option maxHeartbeats 2000000 in
theorem plast_any (A : Option Addr) (c : Nat) (m : List Ml) (w : World) (hl : m.length ≤ 1000000) (hA : MlS w A c m) :
    Calls Try.prog 22 #[.slice A m.length c] w (OutI w (lsU m m.length)) := by
  have HM := Lib.hid hA
  have HY := Lib.hid (fun (n : Nat) (h : n < m.length) (e : m[n].1.u = false) => lsU_yes m n h e)
  have HN := Lib.hid (fun (n : Nat) (h : n < m.length) (e : m[n].1.u = true) => lsU_no m n h e)
  have H0 := Lib.hid (show lsU m 0 = -1 from rfl)
  clear hA
  obtain ⟨G, hG⟩ : ∃ G : Nat → Int, ∀ n, lsU m n = G n := ⟨_, fun _ => rfl⟩
  simp only [hG] at HY HN H0 ⊢
  clear hG
  go_enter Try.func22, Try.ntmps22
  go_wp2_with fail
  go_loopw [3, 8] (fun va vi wr => ∃ n : Nat, n ≤ m.length ∧ vi = .int .i64 (n : Int) ∧ va = .int .i64 (G n) ∧ Below w.heap.size w wr) (fun _ vi _ => m.length - (intOf vi).toNat)
  case atStart => exact ⟨0, Nat.zero_le _, rfl, by rw [H0.out], Below.refl _ _⟩
  case round =>
    obtain ⟨n, hn, rfl, rfl, hb⟩ := hrel
    have B := Lib.hid hb
    by_cases hlt : n < m.length
    · obtain ⟨bb, p, rfl, _, hc, _⟩ := ms_cell (HM.out.next hb) n hlt
      have Y := Lib.hid (HY.out n hlt)
      have N := Lib.hid (HN.out n hlt)
      clear HY HN hb
      obtain ⟨x, hx⟩ : ∃ x, m[n] = x := ⟨_, rfl⟩
      rw [hx] at hc Y N
      clear hx
      obtain ⟨⟨x0, x1, x2, x3, x4, x5, x6, x7, x8⟩, x9⟩ := x
      obtain ⟨g0, g1, g2, g3, g4, g5, g6, g7, g8, g9⟩ := hc
      simp only at g0 g1 g2 g3 g4 g5 g6 g7 g8 g9 Y N
      have KO := Lib.hid (fun w => pord_any (⟨x0, x1, x2, x3, x4, x5, x6, x7, x8⟩, x9) w)
      unfold OutB at KO
      simp only at KO
      cases x7 with
      | false =>
        have E := Lib.hid (Y.out rfl)
        clear Y N
        go_wp2_with fail
        refine (KO.out _).mono ?_
        rintro _ w1 ⟨rfl, hb⟩
        have B1 := Lib.hid (B.out.trans (((alloc_below wr (bxM (⟨x0, x1, x2, x3, x4, x5, x6, false, x8⟩, x9))).trans (hb.mono (by simp))).mono B.out.size))
        clear hb
        go_wp2_with fail
        go_roundw
        case rel => exact ⟨n + 1, hlt, by go_num, by rw [E.out], B1.out⟩
        case measure => simp [intOf]; omega
      | true =>
        have E := Lib.hid (N.out rfl)
        clear Y N
        go_wp2_with fail
        refine (KO.out _).mono ?_
        rintro _ w1 ⟨rfl, hb⟩
        have B1 := Lib.hid (B.out.trans (((alloc_below wr (bxM (⟨x0, x1, x2, x3, x4, x5, x6, true, x8⟩, x9))).trans (hb.mono (by simp))).mono B.out.size))
        clear hb
        go_wp2_with fail
        go_roundw
        case rel => exact ⟨n + 1, hlt, by go_num, by rw [E.out], B1.out⟩
        case measure => simp [intOf]; omega
    · obtain rfl : n = m.length := by omega
      clear hb HY HN
      go_wp2_with fail
      go_ret
      exact outI rfl B.out

/-- The index of the first one of which p holds, or -1. -/
def ixU (p : Ml → Bool) (l : List Ml) : Int := match l.findIdx? p with
  | some i => i
  | none => -1
theorem ixU_hit (p : Ml → Bool) (l : List Ml) (k : Nat) (hk : k < l.length) (h : p l[k] = true) (hn : ∀ j (hj : j < l.length), j < k → p l[j] = false) : ixU p l = k := by
  unfold ixU
  have : l.findIdx? p = some k := List.findIdx?_eq_some_iff_getElem.2 ⟨hk, h, fun j hj => by rw [hn j (by omega) hj]; simp⟩
  rw [this]
theorem ixU_miss (p : Ml → Bool) (l : List Ml) (hn : ∀ j (hj : j < l.length), p l[j] = false) : ixU p l = -1 := by
  unfold ixU
  have : l.findIdx? p = none := List.findIdx?_eq_none_iff.2 fun x hx => by
    obtain ⟨j, hj, rfl⟩ := List.getElem_of_mem hx
    exact hn j hj
  rw [this]
theorem ixU_is (p : Ml → Bool) (l : List Ml) : (ixU p l = -1 ∧ ∀ j (hj : j < l.length), p l[j] = false) ∨ ∃ (i : Nat) (hi : i < l.length), ixU p l = i ∧ p l[i] = true ∧ ∀ j (hj : j < l.length), j < i → p l[j] = false := by
  unfold ixU
  cases h : l.findIdx? p with
  | none => exact Or.inl ⟨rfl, fun j hj => List.findIdx?_eq_none_iff.1 h _ (List.getElem_mem hj)⟩
  | some i =>
    obtain ⟨hi, h1, h2⟩ := List.findIdx?_eq_some_iff_getElem.1 h
    exact Or.inr ⟨i, hi, rfl, h1, fun j hj hji => by have := h2 j hji; simpa using this⟩
set_option maxRecDepth 100000 in
set_option maxHeartbeats 2000000 in
theorem pindex_any (g : FuncId) (caps : Array Value) (p : Ml → Bool) (A : Option Addr) (c : Nat) (m : List Ml) (w : World) (hl : m.length ≤ 1000000) (hA : MlS w A c m)
    (eg : ∀ args w, (callFunc g args).run Try.prog w = .ok (.enter g args) w) (hp : ∀ x wr, Below w.heap.size w wr → Calls Try.prog g (#[mlV x] ++ caps) wr (OutB wr (p x))) :
    Calls Try.prog 31 #[.slice A m.length c, .func (.func g) #[] caps] w (OutI w (ixU p m)) := by
  have HM := Lib.hid hA
  have HP := Lib.hid hp
  have KH := Lib.hid (fun (k : Nat) (hk : k < m.length) h hn => ixU_hit p m k hk h hn)
  have KM := Lib.hid (fun hn => ixU_miss p m hn)
  clear hA hp
  generalize ixU p m = F at *
  unfold OutB at HP
  go_enter Try.func31, Try.ntmps31
  go_wp2_with fail
  go_loopw [8] (fun vi wr => ∃ n : Nat, n ≤ m.length ∧ vi = .int .i64 (n : Int) ∧ Hid (∀ j (hj : j < m.length), j < n → p m[j] = false) ∧ Below w.heap.size w wr) (fun vi _ => m.length - (intOf vi).toNat)
  case atStart => exact ⟨0, Nat.zero_le _, rfl, Lib.hid fun j hj h => by omega, Below.refl _ _⟩
  case round =>
    obtain ⟨n, hn, rfl, HN, hb⟩ := hrel
    have B := Lib.hid hb
    by_cases hlt : n < m.length
    · obtain ⟨bb, q, rfl, _, hc, _⟩ := ms_cell (HM.out.next hb) n hlt
      have KP := Lib.hid (HP.out m[n] wr hb)
      have Y := Lib.hid (fun h => KH.out n hlt h HN.out)
      have N := Lib.hid (show p m[n] = false → ∀ j (hj : j < m.length), j < n + 1 → p m[j] = false from fun h j hj hjn => by
        by_cases e : j = n
        · subst e; exact h
        · exact HN.out j hj (by omega))
      clear KH KM HN hb HP
      generalize p m[n] = z at KP Y N
      obtain ⟨x, hx⟩ : ∃ x, m[n] = x := ⟨_, rfl⟩
      rw [hx] at hc KP
      clear hx
      obtain ⟨⟨x0, x1, x2, x3, x4, x5, x6, x7, x8⟩, x9⟩ := x
      obtain ⟨g0, g1, g2, g3, g4, g5, g6, g7, g8, g9⟩ := hc
      simp only at g0 g1 g2 g3 g4 g5 g6 g7 g8 g9
      go_wp2_with fail
      refine KP.out.mono ?_
      rintro _ w1 ⟨rfl, hb⟩
      have B1 := Lib.hid (B.out.trans (hb.mono B.out.size))
      clear hb KP
      cases z with
      | false =>
        have E := Lib.hid (N.out rfl)
        clear Y N
        go_wp2_with fail
        go_roundw
        case rel => exact ⟨n + 1, hlt, by go_num, E, B1.out⟩
        case measure => simp [intOf]; omega
      | true =>
        have E := Lib.hid (Y.out rfl)
        clear Y N
        go_wp2_with fail
        go_ret
        exact outI E.out.symm B1.out
    · obtain rfl : n = m.length := by omega
      have E := Lib.hid (KM.out fun j hj => HN.out j hj hj)
      clear hb KH KM HN
      go_wp2_with fail
      go_ret
      exact outI E.out.symm B.out
end Go.Proofs.Ytlfegjhhkeceiaa.Mbx
