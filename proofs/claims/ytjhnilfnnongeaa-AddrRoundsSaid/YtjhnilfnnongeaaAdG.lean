/- Contracts of slices.Clone at claims, of ownersOf and of advance. -/
import Derived.Test.YtjhnilfnnongeaaAdD
set_option linter.unusedVariables false
namespace Go.Proofs.Ytjhnilfnnongeaa.Adr
open Go.RowKit

theorem eClm : Elems Try.prog 29 40 fC.sz := Elems.mk' Try.underlying29 (z := .agg #[.int .u64 0, .int .i64 0, .int .i64 0]) (m := 24) (by kernel_rfl) (by decide) rfl
abbrev OwnC (w : World) (B : Nat) (v : Value) (l : List Clm) : Prop := OwnF fC 40 w B v l
/-- A row of the call's own is handed back. -/
def OutC (w : World) (l : List Clm) (e : Ending) (w' : World) : Prop := ∃ v, e = .returned v ∧ OwnC w' w.heap.size v l ∧ Below w.heap.size w w'

set_option maxRecDepth 100000 in
set_option maxHeartbeats 2000000 in
theorem clone_any (A : Option Addr) (c : Nat) (l : List Clm) (w : World) (hl : l.length ≤ 100000000) (hA : ClAt w w.heap.size A l) :
    Calls Try.prog 32 #[.slice A l.length c] w (OutC w l) := by
  cases A with
  | none =>
    obtain rfl := hA.none rfl
    have hnil := fun w => Lib.run_eql_slice_nil (P := Try.prog) w 29 _ none 0 c 0 0 Try.underlying29
    simp only [Option.isNone] at hnil
    go_enter Try.func32, Try.ntmps32
    go_wp2_with fail
    go_ret
    exact ⟨_, rfl, OwnF.nil _ _, Below.refl _ _⟩
  | some ad =>
    obtain ⟨v', w', hap, ho, hb, _⟩ := (OwnF.lit (F := fC) (T := 40) w w.heap.size [] #[] (Nat.le_refl _) (by unfold maxLen; simp) rfl (by simp)).app eClm (c := c) 29 ((hA.below (alloc_below _ _))) (by simpa using hl) (by simp)
    have O := Lib.hid (show OwnC w' w.heap.size v' l from ho)
    have B := Lib.hid ((alloc_below w (.cells #[] 40)).trans hb)
    clear ho hb hA
    simp only [List.length_nil] at hap
    have hnil := fun w => Lib.run_eql_slice_nil (P := Try.prog) w 29 _ (some ad) l.length c 0 0 Try.underlying29
    simp only [Option.isNone] at hnil
    go_enter Try.func32, Try.ntmps32
    go_wp2_with (at_builtin; refine Lib.wpList_append_run _ rfl _ _ _ _ rfl _ _ rfl rfl _ _ hap ?_)
    go_ret
    exact ⟨_, rfl, O.out, B.out⟩

/-- Maps from ints to identifiers. -/
abbrev mIU : MapTy Int := ⟨54, 3, 22, fun x => .int .i64 x, fun x => (Lit.int .i64 x).wf = true, okI .u64, .int .u64 0⟩
theorem oIU : mIU.Of Try.prog := int_map Try.underlying54 Try.underlying3 (okI_of Try.underlying22) ⟨0, rfl, by decide⟩ (fun w => by kernel_rfl)
abbrev IU (w : World) (b n : Nat) (f : Int → Option Value) : Prop := MpAt mIU Try.prog w b n f
theorem iu_get {w : World} {b n : Nat} {f : Int → Option Value} (h : IU w b n f) (a : Int) (ha : I64 a) : (Instr.lookup 54 (.map (some b)) (.int .i64 a) false).run Try.prog w = .ok ((f a).getD (.int .u64 0)) w := h.get oIU a (i64_wf ha)
theorem iu_get2 {w : World} {b n : Nat} {f : Int → Option Value} (h : IU w b n f) (a : Int) (ha : I64 a) : (Instr.lookup 54 (.map (some b)) (.int .i64 a) true).run Try.prog w = .ok (.tuple #[(f a).getD (.int .u64 0), .bool (f a).isSome]) w := h.get2 oIU a (i64_wf ha)
theorem iu_put {w : World} {b n : Nat} {f : Int → Option Value} (h : IU w b n f) (a : Int) (ha : I64 a) (x : Int) (hx : 0 ≤ x ∧ x < 18446744073709551616) (hn : n ≤ 1000000000) :
    ∃ w', (Instr.mapUpdate 54 (.map (some b)) (.int .i64 a) (.int .u64 x)).run Try.prog w = .ok () w' ∧ IU w' b (n + 1) (fun y => if y = a then some (.int .u64 x) else f y) ∧ w.grownBy w' (some b) := h.put oIU a (.int .u64 x) (i64_wf ha) ⟨x, rfl, u64_wf hx⟩ (by unfold maxLen; omega)

/-- At each address that is claimed: the least identifier that claims it. -/
def IsOwn (l : List Clm) (f : Int → Option Value) : Prop :=
  ∀ a, (f a = none ∧ ∀ c ∈ l, c.2.1 ≠ a) ∨ ∃ o : Int, f a = some (.int .u64 o) ∧ (0 ≤ o ∧ o < 18446744073709551616) ∧ (∃ c ∈ l, c.2.1 = a ∧ c.1 = o) ∧ ∀ c ∈ l, c.2.1 = a → o ≤ c.1
theorem isOwn_nil : IsOwn [] (fun _ => none) := fun a => Or.inl ⟨rfl, fun c h => by cases h⟩
theorem isOwn_new {l : List Clm} {f : Int → Option Value} (h : IsOwn l f) (e a t : Int) (he : 0 ≤ e ∧ e < 18446744073709551616) (hn : f a = none ∨ ∃ o : Int, f a = some (.int .u64 o) ∧ e < o) :
    IsOwn (l ++ [(e, a, t)]) (fun y => if y = a then some (.int .u64 e) else f y) := by
  intro y
  by_cases hy : y = a
  · subst hy
    refine Or.inr ⟨e, if_pos rfl, he, ⟨(e, y, t), by simp, rfl, rfl⟩, fun c hc hca => ?_⟩
    rcases List.mem_append.1 hc with hc | hc
    · rcases h y with ⟨h1, h2⟩ | ⟨o, h1, _, _, h4⟩
      · exact absurd hca (h2 c hc)
      · have := h4 c hc hca
        rcases hn with hn | ⟨o', hn, hlt⟩
        · rw [h1] at hn; cases hn
        · rw [h1] at hn; simp at hn; omega
    · obtain rfl := List.mem_singleton.1 hc; exact Int.le_refl _
  · simp only [if_neg hy]
    rcases h y with ⟨h1, h2⟩ | ⟨o, h1, h2, ⟨c, hc, h3⟩, h4⟩
    · refine Or.inl ⟨h1, fun c hc => ?_⟩
      rcases List.mem_append.1 hc with hc | hc
      · exact h2 c hc
      · obtain rfl := List.mem_singleton.1 hc; exact fun e => hy e.symm
    · refine Or.inr ⟨o, h1, h2, ⟨c, List.mem_append_left _ hc, h3⟩, fun c hc hca => ?_⟩
      rcases List.mem_append.1 hc with hc | hc
      · exact h4 c hc hca
      · obtain rfl := List.mem_singleton.1 hc; exact absurd hca.symm hy
theorem isOwn_old {l : List Clm} {f : Int → Option Value} (h : IsOwn l f) (e a t : Int) {o : Int} (hn : f a = some (.int .u64 o)) (hlt : ¬ e < o) : IsOwn (l ++ [(e, a, t)]) f := by
  intro y
  rcases h y with ⟨h1, h2⟩ | ⟨o2, h1, h2, ⟨c, hc, h3⟩, h4⟩
  · refine Or.inl ⟨h1, fun c hc => ?_⟩
    rcases List.mem_append.1 hc with hc | hc
    · exact h2 c hc
    · obtain rfl := List.mem_singleton.1 hc
      rintro rfl
      rw [h1] at hn; cases hn
  · refine Or.inr ⟨o2, h1, h2, ⟨c, List.mem_append_left _ hc, h3⟩, fun c hc hca => ?_⟩
    rcases List.mem_append.1 hc with hc | hc
    · exact h4 c hc hca
    · obtain rfl := List.mem_singleton.1 hc
      simp only at hca
      subst hca
      rw [h1] at hn; simp at hn
      simp only
      omega
theorem isOwn_get {l : List Clm} {f : Int → Option Value} (h : IsOwn l f) {c : Clm} (hc : c ∈ l) : ∃ o : Int, f c.2.1 = some (.int .u64 o) ∧ (0 ≤ o ∧ o < 18446744073709551616) ∧ (c.1 = o ↔ lst l c = true) := by
  rcases h c.2.1 with ⟨_, h2⟩ | ⟨o, h1, h2, ⟨d, hd, h3, h5⟩, h4⟩
  · exact absurd rfl (h2 c hc)
  · refine ⟨o, h1, h2, ?_⟩
    rw [lst_iff]
    constructor
    · intro e d hd hda
      rw [e]; exact h4 d hd hda
    · intro g
      have g1 := g d hd h3
      have g2 := h4 c hc rfl
      omega

def OutOwn (w : World) (l : List Clm) (e : Ending) (w' : World) : Prop := ∃ f, e = .returned (.map (some w.heap.size)) ∧ IU w' w.heap.size l.length f ∧ IsOwn l f ∧ Below w.heap.size w w'
/-- The map of owners after k claims. -/
def Ow (wr : World) (b k : Nat) (l : List Clm) : Prop := ∃ f, IU wr b k f ∧ IsOwn l f

set_option maxRecDepth 100000 in
set_option maxHeartbeats 4000000 in
theorem owners_any (A : Option Addr) (c : Nat) (l : List Clm) (w : World) (hl : l.length ≤ 100000) (hA : ClAt w w.heap.size A l) :
    Calls Try.prog 34 #[.slice A l.length c] w (OutOwn w l) := by
  have HA := Lib.hid hA
  clear hA
  have hmm := @run_makeMap Try.prog
  have M0 := Lib.hid (show Ow (w.alloc (.map #[] 0)) w.heap.size 0 (l.take 0) from ⟨_, MpAt.made w, by rw [List.take_zero]; exact isOwn_nil⟩)
  go_enter Try.func34, Try.ntmps34
  go_wp2_with fail
  clear hmm
  go_loopw [11] (fun i wr => ∃ k : Nat, i = .int .i64 k ∧ k ≤ l.length ∧ Ow wr w.heap.size k (l.take k) ∧ Below w.heap.size w wr) (fun i _ => l.length - (intOf i).toNat)
  case atStart => exact ⟨0, rfl, Nat.zero_le _, M0.out, alloc_below _ _⟩
  case round =>
    obtain ⟨k, rfl, hk, ⟨f, hm, ho⟩, hb⟩ := hrel
    have B := Lib.hid hb
    have hz := hb.size
    have M := Lib.hid hm
    have O := Lib.hid ho
    have hlt0 := hm.lt
    by_cases hlt : k < l.length
    · obtain ⟨b, p, rfl, hbw, g0, g1, g2, g3, g4, g5⟩ := cl_cell (HA.out.below hb) k hlt
      have TK := Lib.hid (take_one l k hlt)
      have e0 : l[k] = (l[k].1, l[k].2.1, l[k].2.2) := rfl
      rw [e0] at TK
      clear e0 hb hm ho
      generalize l[k].1 = e at *
      generalize l[k].2.1 = a at *
      generalize l[k].2.2 = t at *
      have M1 := Lib.hid (M.out.alloc (bxC e a t))
      have B1 := Lib.hid (B.out.alloc hz (bxC e a t))
      have hget := iu_get2 M1.out a g4
      obtain ⟨w2, hput, hm', hg⟩ := iu_put M1.out a g4 e g3 (by omega)
      have B2 := Lib.hid (below_put B1.out hg (Nat.le_trans hz (by simp)) (Nat.le_refl _))
      have HM := Lib.hid hm'
      clear hm' hg
      rcases O.out a with ⟨h1, h2⟩ | ⟨o, h1, h2, _, h4⟩
      · have M2 := Lib.hid (show Ow w2 w.heap.size (k + 1) (l.take (k + 1)) from ⟨_, HM.out, by rw [TK.out]; exact isOwn_new O.out e a t g3 (Or.inl h1)⟩)
        rw [h1, show (none : Option Value).getD (.int .u64 0) = .int .u64 0 from rfl, show (none : Option Value).isSome = false from rfl] at hget
        clear h1 h2 O M M1 HM
        go_wp2_with fail
        go_roundw
        case rel => exact ⟨k + 1, by go_num, hlt, M2.out, B2.out⟩
        case measure => simp [intOf]; omega
      · rw [h1, show (some (Value.int .u64 o)).getD (.int .u64 0) = .int .u64 o from rfl, show (some (Value.int .u64 o)).isSome = true from rfl] at hget
        by_cases h5 : e < o
        · have M2 := Lib.hid (show Ow w2 w.heap.size (k + 1) (l.take (k + 1)) from ⟨_, HM.out, by rw [TK.out]; exact isOwn_new O.out e a t g3 (Or.inr ⟨o, h1, h5⟩)⟩)
          have d1 := dt h5
          clear h1 h4 O M M1 HM
          go_wp2_with fail
          go_roundw
          case rel => exact ⟨k + 1, by go_num, hlt, M2.out, B2.out⟩
          case measure => simp [intOf]; omega
        · have M2 := Lib.hid (show Ow (wr.alloc (bxC e a t)) w.heap.size (k + 1) (l.take (k + 1)) from ⟨_, M1.out.mono (Nat.le_succ _), by rw [TK.out]; exact isOwn_old O.out e a t h1 h5⟩)
          have d1 := df h5
          clear h1 h4 O M M1 HM hput
          go_wp2_with fail
          go_roundw
          case rel => exact ⟨k + 1, by go_num, hlt, M2.out, B1.out⟩
          case measure => simp [intOf]; omega
    · obtain rfl : k = l.length := by omega
      rw [List.take_length] at O
      have R := Lib.hid (show OutOwn w l (.returned (.map (some w.heap.size))) wr from ⟨f, rfl, M.out, O.out, B.out⟩)
      clear hb hm ho O M
      go_wp2_with fail
      go_ret
      exact R.out
end Go.Proofs.Ytjhnilfnnongeaa.Adr
