/- Package topo: graphOf: the graph of a list of links, in memory. -/
import Derived.Test.YtdmakcjcocghhaaTDi
import Derived.Deep.RegionHeld3
import Derived.Deep.CutRange
set_option linter.unusedVariables false
namespace Go.Proofs.Ytdmakcjcocghhaa.Tpo
open Go.RowKit

/-- A graph that is being made: each node's row is its own. -/
structure GrB (w : World) (B gb n : Nat) (F : Int → Option Value) (adj : Int → List Int) : Prop where
  mp : MvAt MG Try.prog w gb n F
  no : ∀ x, F x = none → adj x = []
  own : ∀ x v, F x = some v → OwnI w B v (adj x)
  apart : ∀ x y v v', x ≠ y → F x = some v → F y = some v' → v.ownBlock = none ∨ v.ownBlock ≠ v'.ownBlock
theorem GrB.next {w w' : World} {B gb n : Nat} {F : Int → Option Value} {adj : Int → List Int} (h : GrB w B gb n F adj) (hb : Below w.heap.size w w') : GrB w' B gb n F adj :=
  ⟨h.mp.below hb, h.no, fun x v e => (h.own x v e).below hb, h.apart⟩
theorem GrB.gr {w : World} {B gb n : Nat} {F : Int → Option Value} {adj : Int → List Int} (h : GrB w B gb n F adj) : GrAt w gb n adj :=
  ⟨F, h.mp, h.no, fun x v e => by obtain ⟨A, c, h1, h2, _⟩ := (h.own x v e).read; exact ⟨A, c, h1, h2⟩⟩
theorem own_cells {w : World} {B : Nat} {v : Value} {l : List Int} (h : OwnI w B v l) {k : Nat} (hk : v.ownBlock = some k) : ∃ cur, w.heap[k]? = some (.cells cur 3 (0, 0)) := by
  rcases h.1.2 with ⟨rfl, _⟩ | ⟨g, cap, cur, rfl, _, hg, _⟩
  · simp [Value.ownBlock] at hk
  · simp [Value.ownBlock] at hk
    subst hk; exact ⟨cur, hg⟩
/-- What a step leaves alone: all but the map and rows of numbers. -/
def Leaves (w w' : World) (gb : Nat) : Prop := ∀ k, k < w.heap.size → k ≠ gb → (∀ cs fr, w.heap[k]? ≠ some (.cells cs 3 fr)) → w'.heap[k]? = w.heap[k]?
/-- One neighbor more: 'g[u] = append(g[u], v)'. -/
theorem grb_step {w : World} {B0 B gb n : Nat} {F : Int → Option Value} {adj : Int → List Int} (h : GrB w B gb n F adj) (u v : Int) (iu : I64 u) (iv : I64 v) (hl : (adj u).length ≤ 1000000) (hn : n ≤ 1000000000) (hB : B ≤ w.heap.size) (h0 : B0 ≤ gb) (h1 : B0 ≤ B) :
    ∃ A c A' c' w2 w3, (∀ w', Below w.heap.size w w' → (Instr.lookup 54 (.map (some gb)) (.int .i64 u) false).run Try.prog w' = .ok (.slice A (adj u).length c) w') ∧
      (Builtin.append_ #[28, 28] 28 #[.slice A (adj u).length c, .slice (some ⟨w.heap.size, 0, none⟩) 1 1]).run Try.prog (w.alloc (.cells #[.int .i64 v] 3)) = .ok (.slice A' ((adj u).length + 1) c') w2 ∧
      (Instr.mapUpdate 54 (.map (some gb)) (.int .i64 u) (.slice A' ((adj u).length + 1) c')).run Try.prog w2 = .ok () w3 ∧
      GrB w3 B gb (n + 1) (fun y => if y = u then some (.slice A' ((adj u).length + 1) c') else F y) (fun y => if y = u then adj u ++ [v] else adj y) ∧ Below B0 w w3 ∧ Leaves w w3 gb ∧ Leaves w w2 gb := by
  obtain ⟨val, hval⟩ : ∃ val, val = (F u).getD (.slice none 0 0) := ⟨_, rfl⟩
  have ho : OwnI w B val (adj u) := by
    rw [hval]
    cases hf : F u with
    | none => rw [h.no u hf]; exact OwnF.nil _ _
    | some x => exact h.own u x hf
  have hap : ∀ y v', y ≠ u → F y = some v' → v'.ownBlock = none ∨ v'.ownBlock ≠ val.ownBlock := fun y v' hy e => by
    cases hf : F u with
    | none =>
      rw [hf] at hval
      cases hv : v'.ownBlock with
      | none => exact Or.inl rfl
      | some k => right; rw [hval]; simp [Value.ownBlock]
    | some x =>
      have : val = x := by rw [hval, hf]; rfl
      rw [this]
      exact h.apart y u v' x hy e hf
  obtain ⟨A, c, ev, _⟩ := ho.form
  have hlk : ∀ w', Below w.heap.size w w' → (Instr.lookup 54 (.map (some gb)) (.int .i64 u) false).run Try.prog w' = .ok (.slice A (adj u).length c) w' := fun w' hb => by
    have := (h.mp.below hb).get mg_of u iu
    rw [← ev, hval]; exact this
  obtain ⟨i0, q1, q2, q3, q4⟩ := info_get infI
  have hW : w.heap.size ≤ (w.alloc (.cells #[.int .i64 v] 3)).heap.size := by simp
  obtain ⟨v', w2, g1, g2, g3, g4, g5⟩ := run_append_own_at (P := Try.prog) (w.alloc (.cells #[.int .i64 v] 3)) B 28 28 3 i0 (.int .i64 0) 1 8 utI q1 q2 q3 q4 rfl (by omega) val _ _ (ho.alloc _).1 ⟨w.heap.size, 0, none⟩ 1 1 [.int .i64 v] rfl (cell_one_new _ _ _) (by intro z hz; simp at hz; subst hz; rfl) (by unfold maxLen; omega) (by omega) (by omega)
  have ho2 : OwnI w2 B v' (adj u ++ [v]) := ⟨by
    rw [fI_flat, List.length_append, List.map_append]
    rw [fI_flat] at g2
    exact g2, fun a ha => by
    rcases List.mem_append.1 ha with k | k
    · exact ho.2 a k
    · rw [List.mem_singleton.1 k]; exact iv⟩
  obtain ⟨A', c', ev', _⟩ := ho2.form
  have el : (adj u ++ [v]).length = (adj u).length + 1 := by simp
  rw [el] at ev'
  obtain ⟨es, cl, hblk⟩ := h.mp.block
  have hgl := h.mp.lt
  have hb1 : (w.alloc (.cells #[.int .i64 v] 3)).heap[gb]? = some (.map es cl) := (Below.heap_alloc _ _ gb hgl).trans hblk
  have hne : some gb ≠ val.ownBlock := fun e => by
    obtain ⟨cur, hc⟩ := own_cells ho e.symm
    rw [hblk] at hc; cases hc
  have hm2 : MvAt MG Try.prog w2 gb n F := (h.mp.alloc _).kept g3 hne
  obtain ⟨w3, p1, p2, p3⟩ := hm2.put mg_of u v' iu (by unfold maxLen; omega)
  obtain ⟨es2, cl2, hblk2⟩ := hm2.block
  have hgl2 := hm2.lt
  have k3 : ∀ (x : Value) (l : List Int), OwnI w2 B x l → OwnI w3 B x l := fun x l hx => hx.kept p3 (by
    right
    intro e
    obtain ⟨cur, hc⟩ := own_cells hx e
    rw [hblk2] at hc; cases hc)
  have hold : ∀ y x, y ≠ u → F y = some x → OwnI w2 B x (adj y) := fun y x hy e => ((h.own y x e).alloc _).kept g3 (hap y x hy e)
  have hsz : w.heap.size + 1 ≤ w2.heap.size := by have := g3.size; simpa using this
  have hlv2 : ∀ k, k < w.heap.size → (∀ cs fr, w.heap[k]? ≠ some (.cells cs 3 fr)) → w2.heap[k]? = w.heap[k]? := fun k hk hc => (g3.block k (by simp; omega) (fun e => by
      obtain ⟨cur, hcur⟩ := own_cells ho e.symm
      exact hc _ _ hcur)).trans (Below.heap_alloc _ _ k hk)
  have hlow2 : ∀ k, k < B0 → w2.heap[k]? = w.heap[k]? := fun k hk => (g3.block k (by simp; omega) (fun e => by have := (ho.lt k e.symm).1; omega)).trans (Below.heap_alloc _ _ k (by omega))
  subst ev
  subst ev'
  refine ⟨A, c, A', c', w2, w3, hlk, g1, p1, ⟨p2, fun x e => ?_, fun x y e => ?_, fun x y a b hxy ea eb => ?_⟩, ⟨?_, ?_, ?_, ?_, fun k hk => ?_⟩, fun k hk hkg hc => ?_, fun k hk hkg hc => hlv2 k hk hc⟩
  · try simp only at e ⊢
    by_cases hx : x = u
    · rw [if_pos hx] at e; cases e
    · rw [if_neg hx] at e ⊢; exact h.no x e
  · try simp only at e ⊢
    by_cases hx : x = u
    · rw [if_pos hx] at e ⊢
      simp only [Option.some.injEq] at e
      subst e
      exact k3 _ _ ho2
    · rw [if_neg hx] at e ⊢; exact k3 _ _ (hold x y hx e)
  · try simp only at ea eb
    by_cases hx : x = u
    · rw [if_pos hx] at ea
      have hy : y ≠ u := fun e => hxy (by rw [hx, e])
      rw [if_neg hy] at eb
      simp only [Option.some.injEq] at ea
      subst ea
      rcases g5 with e | e
      · rw [e]
        rcases hap y b hy eb with q | q
        · cases hv : Value.ownBlock (.slice A (adj u).length c) with
          | none => exact Or.inl rfl
          | some k => right; rw [q]; simp
        · right; exact fun e => q e.symm
      · rw [e]
        right
        intro e2
        have := ((h.own y b eb).lt _ e2.symm).2
        simp at this
        omega
    · rw [if_neg hx] at ea
      by_cases hy : y = u
      · rw [if_pos hy] at eb
        simp only [Option.some.injEq] at eb
        subst eb
        rcases g5 with e | e
        · rw [e]; exact hap x a hx ea
        · rw [e]
          cases hv : a.ownBlock with
          | none => exact Or.inl rfl
          | some k =>
            right
            intro e2
            have := ((h.own x a ea).lt _ hv).2
            simp at e2
            omega
      · rw [if_neg hy] at eb
        exact h.apart x y a b hxy ea eb
  · exact p3.os.trans g3.os
  · exact p3.tape.trans g3.tape
  · exact p3.output.trans g3.output
  · have := p3.size; omega
  · exact (p3.block k (by omega) (fun e => by cases e; omega)).trans (hlow2 k hk)
  · exact (p3.block k (by omega) (fun e => by cases e; exact hkg rfl)).trans (hlv2 k hk hc)
end Go.Proofs.Ytdmakcjcocghhaa.Tpo
