/- Package mac: cut, copied, slices.Clone, slices.IndexFunc, Next, lastOf. -/
import Derived.Test.YtpfmfnogckeneaaMcB
set_option linter.unusedVariables false
namespace Go.Proofs.Ytpfmfnogckeneaa.Mcq
open Go.RowKit
open Mbx (Fm zf fmC fmV FOk fF)

section
variable {α : Type} {F : Flat α}
/-- 's[:k]'. -/
theorem sl_to {P : Program} {t : TypeId} {w : World} {A : Option Addr} {c : Nat} {l : List α} (h : SlS F w A c l) (ut : P.underlying t = some (.slice (P.elem t))) (sz : ∀ W : World, (sizeOf (P.elem t)).run P W = .ok F.sz W) (k : Nat) (hk : k ≤ l.length) :
    ∃ A1, (∀ W : World, (Instr.sliceAt t (.slice A l.length c) none (some (.int .i64 (k : Int))) none).run P W = .ok (.slice A1 k c) W) ∧ SlS F w A1 c (l.take k) := by
  have hkc : k ≤ c := Nat.le_trans hk h.2.1
  have e1 : ∀ W : World, (Instr.sliceAt t (.slice A l.length c) none (some (.int .i64 (k : Int))) none).run P W = .ok (sliced A 0 k c F.sz) W := fun W => by
    rw [run_sliceAt_slice W _ _ _ _ _ ut, run_slice_h W _ A l.length c ut .i64 k (by omega) (by omega), sz]
    rfl
  have hl : (l.take k).length ≤ c := by rw [List.length_take]; omega
  cases A with
  | none =>
    obtain rfl := h.1.none rfl
    refine ⟨none, fun W => (e1 W).trans ?_, by simpa using h.1, hl, h.2.2⟩
    have := h.2.2 rfl
    subst this
    unfold sliced; simp
  | some ad =>
    by_cases hM : l = []
    · subst hM
      obtain rfl : k = 0 := by simpa using hk
      refine ⟨if c = 0 then some ad else some (ad.add 0), fun W => (e1 W).trans ?_, FlAt.nil _ _ _, by simp, fun e => by split at e <;> cases e⟩
      unfold sliced
      simp
    · obtain ⟨b, p, e3, _⟩ := h.1 0 (List.length_pos_iff.2 hM)
      simp only [Option.some.injEq] at e3
      subst e3
      have hadd : ∀ j, (⟨b, p, none⟩ : Addr).add j = ⟨b, p + j, none⟩ := fun j => by unfold Addr.add; split <;> simp_all
      refine ⟨some ⟨b, p, none⟩, fun W => (e1 W).trans ?_, flS_take h.1 k, hl, fun e => by cases e⟩
      unfold sliced
      simp [hadd]
end
theorem utS : Try.prog.underlying 22 = some (.slice (Try.prog.elem 22)) := by kernel_rfl
theorem szS (W : World) : (sizeOf (Try.prog.elem 22)).run Try.prog W = .ok fS.sz W := by show _ = Result.ok 11 W; kernel_rfl

set_option maxHeartbeats 1000000 in
theorem pcut_any (A : Option Addr) (c : Nat) (l : List Sd) (w : World) (hl : l.length ≤ 1000000) (hA : SdS w A c l) :
    Calls Try.prog 31 #[.slice A l.length c] w fun e w' => ∃ A1, e = .returned (.slice A1 (l.take 16).length c) ∧ SdS w A1 c (l.take 16) ∧ w = w' := by
  obtain ⟨k, hk⟩ : ∃ k, k = (l.take 16).length := ⟨_, rfl⟩
  have hk2 : k ≤ l.length := by rw [hk, List.length_take]; omega
  have hm : min (l.length : Int) 16 = (k : Int) := by rw [hk, List.length_take]; omega
  obtain ⟨A1, e1, h1⟩ := sl_to hA utS szS k hk2
  have ek : l.take k = l.take 16 := by
    rw [hk, List.length_take]
    by_cases h : 16 ≤ l.length
    · rw [Nat.min_eq_left h]
    · rw [Nat.min_eq_right (by omega), List.take_of_length_le (Nat.le_refl _), List.take_of_length_le (by omega)]
  rw [ek] at h1
  rw [← hk]
  have H1 := Lib.hid h1
  clear hA hk h1 ek
  go_enter Try.func31, Try.ntmps31
  go_wp2_with fail
  go_ret
  exact ⟨A1, rfl, H1.out, rfl⟩

set_option maxHeartbeats 2000000 in
theorem pclone_any (A : Option Addr) (c : Nat) (l : List Sd) (w : World) (hl : l.length ≤ 1000000) (hA : SdS w A c l) :
    Calls Try.prog 35 #[.slice A l.length c] w (OutS w l) := by
  cases A with
  | none =>
    obtain rfl := hA.1.none rfl
    have hnil := fun w => Lib.run_eql_slice_nil (P := Try.prog) w 22 _ none 0 c 0 0 Try.underlying22
    simp only [Option.isNone] at hnil
    go_enter Try.func35, Try.ntmps35
    go_wp2_with fail
    go_ret
    exact ⟨_, rfl, OwnF.nil _ _, Below.refl _ _⟩
  | some ad =>
    obtain ⟨v', w', hap, ho, hb, _⟩ := (OwnF.lit (F := fS) (T := 42) w w.heap.size [] #[] (Nat.le_refl _) (by unfold maxLen; simp) rfl (by simp)).app eSd (c := c) 22 ((hA.1.below (alloc_below _ _))) (by simp; omega) (by simp)
    have O := Lib.hid (show OwnS w' w.heap.size v' l from ho)
    have B := Lib.hid ((alloc_below w (.cells #[] 42)).trans hb)
    clear ho hb hA
    simp only [List.length_nil] at hap
    have hnil := fun w => Lib.run_eql_slice_nil (P := Try.prog) w 22 _ (some ad) l.length c 0 0 Try.underlying22
    simp only [Option.isNone] at hnil
    go_enter Try.func35, Try.ntmps35
    go_wp2_with (at_builtin; refine Lib.wpList_append_run _ rfl _ _ _ _ rfl _ _ rfl rfl _ _ hap ?_)
    go_ret
    exact ⟨_, rfl, O.out, B.out⟩

theorem pcopied_any (A : Option Addr) (c : Nat) (l : List Sd) (w : World) (hl : l.length ≤ 1000000) (hA : SdS w A c l) :
    Calls Try.prog 22 #[.slice A l.length c] w (OutS w (l.take 16)) := by
  have K1 := Lib.hid (pcut_any A c l w hl hA)
  have K2 := Lib.hid (fun A1 c1 (h : SdS w A1 c1 (l.take 16)) => pclone_any A1 c1 (l.take 16) w (by have := take_len l; omega) h)
  unfold OutS at K2
  clear hA
  generalize l.take 16 = m at *
  go_enter Try.func22, Try.ntmps22
  go_wp2_with fail
  refine K1.out.mono ?_
  rintro _ w1 ⟨A1, rfl, hs, hw⟩
  subst hw
  have K3 := Lib.hid (K2.out A1 c hs)
  clear hs K1 K2
  go_wp2_with fail
  refine K3.out.mono ?_
  rintro _ w2 ⟨v, rfl, ho, hb⟩
  have O := Lib.hid ho
  have B := Lib.hid hb
  clear ho hb K3
  go_wp2_with fail
  go_ret
  exact ⟨_, rfl, O.out, B.out⟩

/-- The index of the first one of which p holds, or -1. -/
def ixU (p : Sd → Bool) (l : List Sd) : Int := match l.findIdx? p with
  | some i => i
  | none => -1
theorem ixU_hit (p : Sd → Bool) (l : List Sd) (k : Nat) (hk : k < l.length) (h : p l[k] = true) (hn : ∀ j (hj : j < l.length), j < k → p l[j] = false) : ixU p l = k := by
  unfold ixU
  have : l.findIdx? p = some k := List.findIdx?_eq_some_iff_getElem.2 ⟨hk, h, fun j hj => by rw [hn j (by omega) hj]; simp⟩
  rw [this]
theorem ixU_miss (p : Sd → Bool) (l : List Sd) (hn : ∀ j (hj : j < l.length), p l[j] = false) : ixU p l = -1 := by
  unfold ixU
  have : l.findIdx? p = none := List.findIdx?_eq_none_iff.2 fun x hx => by
    obtain ⟨j, hj, rfl⟩ := List.getElem_of_mem hx
    exact hn j hj
  rw [this]
theorem ixU_is (p : Sd → Bool) (l : List Sd) : (ixU p l = -1 ∧ ∀ j (hj : j < l.length), p l[j] = false) ∨ ∃ (i : Nat) (hi : i < l.length), ixU p l = i ∧ p l[i] = true ∧ ∀ j (hj : j < l.length), j < i → p l[j] = false := by
  unfold ixU
  cases h : l.findIdx? p with
  | none => exact Or.inl ⟨rfl, fun j hj => List.findIdx?_eq_none_iff.1 h _ (List.getElem_mem hj)⟩
  | some i =>
    obtain ⟨hi, h1, h2⟩ := List.findIdx?_eq_some_iff_getElem.1 h
    exact Or.inr ⟨i, hi, rfl, h1, fun j hj hji => by have := h2 j hji; simpa using this⟩
set_option maxRecDepth 100000 in
set_option maxHeartbeats 2000000 in
theorem pindex_any (g : FuncId) (caps : Array Value) (p : Sd → Bool) (A : Option Addr) (c : Nat) (m : List Sd) (w : World) (hl : m.length ≤ 1000000) (hA : SdS w A c m)
    (eg : ∀ args w, (callFunc g args).run Try.prog w = .ok (.enter g args) w) (hp : ∀ x wr, Below w.heap.size w wr → Calls Try.prog g (#[sdV x] ++ caps) wr (OutB wr (p x))) :
    Calls Try.prog 30 #[.slice A m.length c, .func (.func g) #[] caps] w (OutI w (ixU p m)) := by
  have HM := Lib.hid hA
  have HP := Lib.hid hp
  have KH := Lib.hid (fun (k : Nat) (hk : k < m.length) h hn => ixU_hit p m k hk h hn)
  have KM := Lib.hid (fun hn => ixU_miss p m hn)
  clear hA hp
  generalize ixU p m = F at *
  unfold OutB at HP
  go_enter Try.func30, Try.ntmps30
  go_wp2_with fail
  go_loopw [8] (fun vi wr => ∃ n : Nat, n ≤ m.length ∧ vi = .int .i64 (n : Int) ∧ Hid (∀ j (hj : j < m.length), j < n → p m[j] = false) ∧ Below w.heap.size w wr) (fun vi _ => m.length - (intOf vi).toNat)
  case atStart => exact ⟨0, Nat.zero_le _, rfl, Lib.hid fun j hj h => by omega, Below.refl _ _⟩
  case round =>
    obtain ⟨n, hn, rfl, HN, hb⟩ := hrel
    have B := Lib.hid hb
    by_cases hlt : n < m.length
    · obtain ⟨bb, q, rfl, _, hc, _⟩ := sd_cell (HM.out.next hb).1 n hlt
      have KP := Lib.hid (HP.out m[n] wr hb)
      have Y := Lib.hid (fun h => KH.out n hlt h HN.out)
      have N := Lib.hid (show p m[n] = false → ∀ j (hj : j < m.length), j < n + 1 → p m[j] = false from fun h j hj hjn => by
        by_cases e : j = n
        · subst e; exact h
        · exact HN.out j hj (by omega))
      clear KH KM HN hb HP
      generalize p m[n] = z at KP Y N
      obtain ⟨x, hx⟩ : ∃ x, m[n] = x := ⟨_, rfl⟩
      rw [hx] at hc KP
      clear hx
      obtain ⟨⟨x0, x1, x2, x3, x4, x5, x6, x7, x8⟩, x9, x10⟩ := x
      obtain ⟨g0, g1, g2, g3, g4, g5, g6, g7, g8, g9, g10⟩ := hc
      simp only at g0 g1 g2 g3 g4 g5 g6 g7 g8 g9 g10
      go_wp2_with fail
      refine KP.out.mono ?_
      rintro _ w1 ⟨rfl, hb⟩
      have B1 := Lib.hid (B.out.trans (hb.mono B.out.size))
      clear hb KP
      cases z with
      | false =>
        have E := Lib.hid (N.out rfl)
        clear Y N
        go_wp2_with fail
        go_roundw
        case rel => exact ⟨n + 1, hlt, by go_num, E, B1.out⟩
        case measure => simp [intOf]; omega
      | true =>
        have E := Lib.hid (Y.out rfl)
        clear Y N
        go_wp2_with fail
        go_ret
        exact outI E.out.symm B1.out
    · obtain rfl : n = m.length := by omega
      have E := Lib.hid (KM.out fun j hj => HN.out j hj hj)
      clear hb KH KM HN
      go_wp2_with fail
      go_ret
      exact outI E.out.symm B.out
theorem ix_nx (m : List Sd) : ixU rdy m = nx m := by
  unfold nx
  rcases ixU_is rdy m with ⟨h1, h2⟩ | ⟨i, hi, h1, h2, h3⟩
  · rw [h1]
    have : m.findIdx rdy = m.length := List.findIdx_eq_length_of_false fun x hx => by
      obtain ⟨j, hj, rfl⟩ := List.getElem_of_mem hx
      rw [h2 j hj]
    rw [this, if_neg (Nat.lt_irrefl _)]
  · have : m.findIdx rdy = i := (List.findIdx_eq hi).2 ⟨h2, fun j hji => h3 j (by omega) hji⟩
    rw [h1, this, if_pos hi]
theorem pnext1_any (x : Sd) (w : World) (hx : True) : Calls Try.prog 32 #[sdV x] w (OutB w (rdy x)) := by
  unfold rdy
  obtain ⟨⟨x0, x1, x2, x3, x4, x5, x6, x7, x8⟩, x9, x10⟩ := x
  dsimp only
  go_enter Try.func32, Try.ntmps32
  go_wp2_with fail
  go_ret
  exact outB rfl (alloc_below _ _)
theorem pnext_own (A : Option Addr) (c : Nat) (l : List Sd) (w : World) (hl : l.length ≤ 1000000) (hA : SdS w A c l) :
    Calls Try.prog 15 #[.slice A l.length c] w (OutI w (next l)) := by
  have eg : ∀ args w, (callFunc 32 args).run Try.prog w = .ok (.enter 32 args) w := enters_of Try.func32 (by kernel_rfl) rfl
  have K1 := Lib.hid (pcut_any A c l w hl hA)
  have K2 := Lib.hid (fun A1 c1 (h : SdS w A1 c1 (l.take 16)) => pindex_any 32 #[] rdy A1 c1 (l.take 16) w (by have := take_len l; omega) h eg (fun x wr _ => pnext1_any x wr trivial))
  unfold OutI at K2
  have E : ixU rdy (l.take 16) = next l := ix_nx _
  rw [E] at K2
  clear hA E eg
  generalize next l = F at *
  generalize l.take 16 = m at *
  go_enter Try.func15, Try.ntmps15
  go_wp2_with fail
  refine K1.out.mono ?_
  rintro _ w1 ⟨A1, rfl, hs, hw⟩
  subst hw
  have K3 := Lib.hid (K2.out A1 c hs)
  clear hs K1 K2
  go_wp2_with fail
  refine K3.out.mono ?_
  rintro _ w2 ⟨rfl, hb⟩
  have B := Lib.hid hb
  clear hb K3
  go_wp2_with fail
  go_ret
  exact outI rfl B.out

def OutP (w : World) (l : List Pr) (e : Ending) (w' : World) : Prop := ∃ v, e = .returned v ∧ OwnF fQ 36 w' w.heap.size v l ∧ Below w.heap.size w w'
set_option maxHeartbeats 2000000 in
theorem pclonep_any (A : Option Addr) (c : Nat) (l : List Pr) (w : World) (hl : l.length ≤ 1000000) (hA : PrS w A c l) :
    Calls Try.prog 39 #[.slice A l.length c] w (OutP w l) := by
  cases A with
  | none =>
    obtain rfl := hA.1.none rfl
    have hnil := fun w => Lib.run_eql_slice_nil (P := Try.prog) w 34 _ none 0 c 0 0 Try.underlying34
    simp only [Option.isNone] at hnil
    go_enter Try.func39, Try.ntmps39
    go_wp2_with fail
    go_ret
    exact ⟨_, rfl, OwnF.nil _ _, Below.refl _ _⟩
  | some ad =>
    obtain ⟨v', w', hap, ho, hb, _⟩ := (OwnF.lit (F := fQ) (T := 36) w w.heap.size [] #[] (Nat.le_refl _) (by unfold maxLen; simp) rfl (by simp)).app ePr (c := c) 34 ((hA.1.below (alloc_below _ _))) (by simp; omega) (by simp)
    have O := Lib.hid (show OwnF fQ 36 w' w.heap.size v' l from ho)
    have B := Lib.hid ((alloc_below w (.cells #[] 36)).trans hb)
    clear ho hb hA
    simp only [List.length_nil] at hap
    have hnil := fun w => Lib.run_eql_slice_nil (P := Try.prog) w 34 _ (some ad) l.length c 0 0 Try.underlying34
    simp only [Option.isNone] at hnil
    go_enter Try.func39, Try.ntmps39
    go_wp2_with (at_builtin; refine Lib.wpList_append_run _ rfl _ _ _ _ rfl _ _ rfl rfl _ _ hap ?_)
    go_ret
    exact ⟨_, rfl, O.out, B.out⟩

end Go.Proofs.Ytpfmfnogckeneaa.Mcq
