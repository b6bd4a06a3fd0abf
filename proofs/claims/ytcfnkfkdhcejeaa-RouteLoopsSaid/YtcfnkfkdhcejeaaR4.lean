/- RouteLoops walked. -/
import Derived.Test.YtcfnkfkdhcejeaaR3
import Derived.Test.YtcfnkfkdhcejeaaQH
set_option linter.unusedVariables false
namespace Go.Proofs.Ytcfnkfkdhcejeaa.Rte
open Go.RowKit

/-- A step: kind, node, other node, cost, when. -/
abbrev Stp := Int × Int × Int × Int × Int
def fS : Flat Stp := ⟨5, fun c => [.int .i64 c.1, .int .i64 c.2.1, .int .i64 c.2.2.1, .int .i64 c.2.2.2.1, .int .i64 c.2.2.2.2], fun _ => True, by decide, fun _ => rfl, fun _ v h => by simp at h; rcases h with rfl | rfl | rfl | rfl | rfl <;> rfl⟩
theorem st_cell {w : World} {B : Nat} {A : Option Addr} {l : List Stp} (h : FlAt fS w B A l) (i : Nat) (hi : i < l.length) : ∃ b p, A = some ⟨b, p, none⟩ ∧ b < B ∧ w.cell? ⟨b, p + i * 5, none⟩ = some (.int .i64 l[i].1) ∧ w.cell? ⟨b, p + i * 5 + 1, none⟩ = some (.int .i64 l[i].2.1) ∧ w.cell? ⟨b, p + i * 5 + 2, none⟩ = some (.int .i64 l[i].2.2.1) ∧ w.cell? ⟨b, p + i * 5 + 3, none⟩ = some (.int .i64 l[i].2.2.2.1) ∧ w.cell? ⟨b, p + i * 5 + 4, none⟩ = some (.int .i64 l[i].2.2.2.2) := by
  obtain ⟨b, p, h1, h2, h3, _⟩ := h i hi
  exact ⟨b, p, h1, h2, h3 0 _ rfl, h3 1 _ rfl, h3 2 _ rfl, h3 3 _ rfl, h3 4 _ rfl⟩
abbrev bxS (a b c d e : Int) : Obj := .cells #[.int .i64 a, .int .i64 b, .int .i64 c, .int .i64 d, .int .i64 e] 50

section
open Go.ChangeShapes Go.WideShapes
variable {H : Type} {enc : TypeId × Value → H}
theorem steps_at {W : World} {fuel : Nat} {sp : Nat → Bool} {hd : Bool} {A : Option Addr} {n c : Nat} {x : DataW H × List MemPlace} (hf : DataW.trod enc Try.prog W 0 sp hd fuel 46 [.slice A n c] = some x) :
    ∃ l, n = List.length l ∧ FlAt fS W W.heap.size A l ∧ l.length ≤ 9223372036854775807 ∧ l.length ≤ c ∧ (A = none → c = 0) := by
  refine flat_open Try.underlying46 (by kernel_rfl) (fun q cs y hl ht => ?_) hf
  obtain ⟨xs, q, _, _, _, hxl, hfi⟩ := DataW.trod_struct Try.underlying50 ht
  match cs, hl with
  | [c0, c1, c2, c3, c4], _ =>
    have f0 : DataW.trod enc Try.prog W 0 sp hd q 3 [c0] = xs[0]? := hfi 0 _ rfl
    have f1 : DataW.trod enc Try.prog W 0 sp hd q 3 [c1] = xs[1]? := hfi 1 _ rfl
    have f2 : DataW.trod enc Try.prog W 0 sp hd q 3 [c2] = xs[2]? := hfi 2 _ rfl
    have f3 : DataW.trod enc Try.prog W 0 sp hd q 3 [c3] = xs[3]? := hfi 3 _ rfl
    have f4 : DataW.trod enc Try.prog W 0 sp hd q 3 [c4] = xs[4]? := hfi 4 _ rfl
    rw [List.getElem?_eq_getElem (by rw [hxl]; decide)] at f0 f1 f2 f3 f4
    obtain ⟨n0, e0, _, w0⟩ := DataW.trod_int Try.underlying3 f0
    obtain ⟨n1, e1, _, w1⟩ := DataW.trod_int Try.underlying3 f1
    obtain ⟨n2, e2, _, w2⟩ := DataW.trod_int Try.underlying3 f2
    obtain ⟨n3, e3, _, w3⟩ := DataW.trod_int Try.underlying3 f3
    obtain ⟨n4, e4, _, w4⟩ := DataW.trod_int Try.underlying3 f4
    obtain rfl : c0 = .int .i64 n0 := by simpa using e0
    obtain rfl : c1 = .int .i64 n1 := by simpa using e1
    obtain rfl : c2 = .int .i64 n2 := by simpa using e2
    obtain rfl : c3 = .int .i64 n3 := by simpa using e3
    obtain rfl : c4 = .int .i64 n4 := by simpa using e4
    exact ⟨(n0, n1, n2, n3, n4), rfl, trivial⟩
end

theorem net_same {N M : Nat → List Rt} (h : ∀ i, i < 6 → N i = M i) (hM : Net M) : Net N := fun a ha => by
  obtain ⟨h1, h2⟩ := hM a ha
  rw [h a ha]
  refine ⟨h1, fun m x hx hf hm => ?_⟩
  obtain ⟨b, hb, e, y, hy, hyx⟩ := h2 m x hx hf hm
  exact ⟨b, hb, e, y, by rw [h b hb]; exact hy, hyx⟩
theorem tab_own {w : World} {B b : Nat} {v : Value} {l : List Rt} {cs : Array Value} (h : OwnR w B v l) (hb : w.heap[b]? = some (.cells cs 47 (0, 0))) : ∀ g, v.ownBlock = some g → g ≠ b := fun g hg e => by
  subst e
  rcases h.1.2 with ⟨h1, _⟩ | ⟨g', cap, cur, h1, h2, h3, _⟩
  · rw [h1] at hg; cases hg
  · rw [h1] at hg
    obtain rfl : g' = g := by simpa [Value.ownBlock] using hg
    rw [hb] at h3
    simp at h3
theorem e6 : Elems Try.prog 48 47 F6.sz := Elems.mk' Try.underlying48 (z := .agg #[.slice none 0 0, .slice none 0 0, .slice none 0 0, .slice none 0 0, .slice none 0 0, .slice none 0 0]) (m := 144) (by kernel_rfl) (by decide) rfl
theorem row_block {w : World} {B g cap : Nat} {n : Nat} {L : List Sn} (h : OwnF F6 47 w B (.slice (some ⟨g, 0, none⟩) n cap) L) : ∃ cs, w.heap[g]? = some (.cells cs 47 (0, 0)) := by
  rcases h.1.2 with ⟨h1, _⟩ | ⟨g', cap', cur, h1, h2, h3, _⟩
  · cases h1
  · simp only [Value.slice.injEq, Option.some.injEq, Addr.mk.injEq, and_true] at h1
    obtain ⟨rfl, _⟩ := h1
    exact ⟨_, h3⟩
/-- What holds at each step: the present tables, those of before, and what is known of them. -/
def Inv (w : World) (pv : Value) (L : List Sn) (s : Sn) (wr : World) : Prop :=
  wr.heap[w.heap.size]? = some (.cells #[vs s 0, vs s 1, vs s 2, vs s 3, vs s 4, vs s 5] 47 (0, 0)) ∧ OwnF F6 47 wr (w.heap.size + 1) pv L ∧ (TbAt wr s ∧ ∀ P ∈ L, TbAt wr P) ∧ (Net (tbs s) ∧ ∀ P ∈ L, Old (tbs P) (tbs s)) ∧ Below w.heap.size w wr
theorem Inv.next {w wr wz : World} {pv : Value} {L : List Sn} {s : Sn} (h : Inv w pv L s wr) (hb : Below wr.heap.size wr wz) : Inv w pv L s wz := by
  obtain ⟨h1, h2, ⟨h3, h4⟩, h5, h6⟩ := h
  exact ⟨blk_below h1 hb (blk_lt h1), h2.below hb, ⟨h3.below hb, fun P hP => (h4 P hP).below hb⟩, h5, h6.trans (hb.mono h6.size)⟩
theorem Inv.cell {w wr : World} {pv : Value} {L : List Sn} {s : Sn} (h : Inv w pv L s wr) {i : Nat} (hi : i < 6) : wr.cell? ⟨w.heap.size, i, none⟩ = some (vs s i) :=
  blk_cell h.1 i (by have := six_at s hi; simpa [six] using this)
theorem Inv.past {w wr : World} {g cp : Nat} {L : List Sn} {s : Sn} (h : Inv w (.slice (some ⟨g, 0, none⟩) L.length cp) L s wr) {m : Nat} (hm : m < L.length) {i : Nat} (hi : i < 6) : wr.cell? ⟨g, m * 6 + i, none⟩ = some (vs L[m] i) := by
  have := h.2.1.cell m hm i hi
  have e : (F6.enc L[m])[i]? = some (vs L[m] i) := six_at _ hi
  rw [e] at this
  exact this
/-- One table of the present ones is written. -/
theorem Inv.store {w wr : World} {pv : Value} {L : List Sn} {s : Sn} (h : Inv w pv L s wr) {a : Nat} (ha : a < 6) (x : Option Addr × Nat × List Rt) (hx : OwnR wr 0 (.slice x.1 x.2.2.length x.2.1) x.2.2) (hN : Net (setN (tbs s) a x.2.2)) (hK : Kept (tbs s a) x.2.2) :
    Inv w pv L (setS s a x) (wr.setCell ⟨w.heap.size, a, none⟩ (.slice x.1 x.2.2.length x.2.1)) := by
  obtain ⟨h1, h2, ⟨h3, h4⟩, ⟨h5, h7⟩, h6⟩ := h
  refine ⟨?_, ?_, ⟨fun i hi => ?_, fun P hP i hi => row_other (h4 P hP i hi) _ (tab_own (h4 P hP i hi) h1)⟩, ⟨by rw [tbs_set]; exact hN, fun P hP => by rw [tbs_set]; exact old_step (h7 P hP) hK⟩, h6.setCell (Nat.le_refl _) _⟩
  · have := blk_set h1 a (.slice x.1 x.2.2.length x.2.1)
    rw [this]
    have e : (#[vs s 0, vs s 1, vs s 2, vs s 3, vs s 4, vs s 5] : Array Value) = (six s).toArray := rfl
    have e2 : (#[vs (setS s a x) 0, vs (setS s a x) 1, vs (setS s a x) 2, vs (setS s a x) 3, vs (setS s a x) 4, vs (setS s a x) 5] : Array Value) = (six (setS s a x)).toArray := rfl
    rw [e, e2, List.setIfInBounds_toArray, six_set s x ha]
  · refine ⟨⟨h2.1.1, ?_⟩, h2.2⟩
    rcases h2.1.2 with h | ⟨g, cap, cur, e1, e2, e3, e4⟩
    · exact Or.inl h
    · exact Or.inr ⟨g, cap, cur, e1, e2, blk_other e3 (by show g ≠ w.heap.size; omega) _, e4⟩
  · by_cases e : i = a
    · subst e
      unfold vs
      rw [setS_at]
      exact row_other hx _ (tab_own hx h1)
    · unfold vs
      rw [setS_ne s x e]
      exact row_other (h3 i hi) _ (tab_own (h3 i hi) h1)
/-- The present tables are kept with those of before. -/
theorem Inv.push {w wr : World} {g cp : Nat} {L : List Sn} {s : Sn} (h : Inv w (.slice (some ⟨g, 0, none⟩) L.length cp) L s wr) (hL : L.length ≤ 1000) :
    ∃ g' cp' w', (Builtin.append_ #[48, 48] 48 #[.slice (some ⟨g, 0, none⟩) L.length cp, .slice (some ⟨wr.heap.size, 0, none⟩) 1 1]).run Try.prog (wr.alloc (bx6 s)) = .ok (.slice (some ⟨g', 0, none⟩) (L.length + 1) cp') w' ∧ Inv w (.slice (some ⟨g', 0, none⟩) (L ++ [s]).length cp') (L ++ [s]) s w' := by
  obtain ⟨h1, h2, ⟨h3, h4⟩, ⟨h5, h7⟩, h6⟩ := h.next (alloc_below wr (bx6 s))
  obtain ⟨v', w', hr, ho, hb, _, hg⟩ := h2.app e6 (c := 1) 48 (FlAt.lit (F := F6) wr [s] #[vs s 0, vs s 1, vs s 2, vs s 3, vs s 4, vs s 5] 47 (by unfold maxLen; simp) (by simp [F6, six]) (fun _ _ => trivial)) (by simp; omega) (by
    have := h.2.2.2.2.size; have := blk_lt h.1; simp; omega)
  obtain ⟨g', cp', e, _⟩ := ho.at (by simp)
  rw [List.length_append] at e
  subst e
  obtain ⟨cs, hgb⟩ := row_block h2
  have ne : ∀ {v : Value} {l : List Rt} {B : Nat}, OwnR (wr.alloc (bx6 s)) B v l → v.ownBlock = none ∨ v.ownBlock ≠ (Value.slice (some ⟨g, 0, none⟩) L.length cp).ownBlock := fun {v l B} hv => by
    cases hvb : v.ownBlock with
    | none => exact Or.inl rfl
    | some k =>
      refine Or.inr fun e => ?_
      have e' : k = g := by simpa [Value.ownBlock] using e
      exact tab_own hv hgb k hvb e'
  have k3 : TbAt w' s := fun i hi => (h3 i hi).kept hg (ne (h3 i hi))
  have k4 : ∀ P ∈ L, TbAt w' P := fun P hP i hi => (h4 P hP i hi).kept hg (ne (h4 P hP i hi))
  refine ⟨g', cp', w', hr, blk_grown h1 hg ?_, by rw [List.length_append]; exact ho, ⟨k3, fun P hP => ?_⟩, ⟨h5, fun P hP => ?_⟩, h6.trans (hb.mono (Nat.le_succ _))⟩
  · intro e
    have e' : w.heap.size = g := by simpa [Value.ownBlock] using e
    have := (h2.lt g rfl).1
    omega
  · rcases List.mem_append.1 hP with hP | hP
    · exact k4 P hP
    · rw [List.mem_singleton.1 hP]; exact k3
  · rcases List.mem_append.1 hP with hP | hP
    · exact h7 P hP
    · rw [List.mem_singleton.1 hP]; exact net_old h5
end Go.Proofs.Ytcfnkfkdhcejeaa.Rte
