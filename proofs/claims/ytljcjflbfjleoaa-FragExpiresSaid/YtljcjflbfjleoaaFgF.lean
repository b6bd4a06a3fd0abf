/- Stores into entries of the call's own; a new entry. -/
import Derived.Test.YtljcjflbfjleoaaFgE
import Derived.Deep.OwnRows
set_option linter.unusedVariables false
namespace Go.Proofs.Ytljcjflbfjleoaa.Frg
open Go.RowKit

def setH (y : Hp) (j : Nat) : Hp := { y with x := { y.x with h := y.x.h.set j true } }
def setD (y : Hp) (j : Nat) (b : ByteArray) : Hp := { y with x := { y.x with d := y.x.d.set j b } }
theorem setD_setH (y : Hp) (j : Nat) (b : ByteArray) : (setD (setH y j) j b).x = upd y.x j b := rfl
theorem flat_set_same {α : Type} {F : Flat α} : ∀ (l : List α) (k : Nat) (y : α) (hk : k < l.length), F.enc y = F.enc l[k] → (l.set k y).flatMap F.enc = l.flatMap F.enc
  | a :: l, 0, y, _, e => by rw [List.set_cons_zero, List.flatMap_cons, List.flatMap_cons, e]; rfl
  | a :: l, k + 1, y, hk, e => by
    have ih := flat_set_same (F := F) l k y (by simpa using hk) (by simpa using e)
    rw [List.set_cons_succ, List.flatMap_cons, List.flatMap_cons, ih]
/-- The list reads the same but for what an entry's rows hold. -/
theorem OwnP.over {w w' : World} {B : Nat} {A : Option Addr} {c : Nat} {l : List Hp} (h : OwnP w B A c l) (k : Nat) (hk : k < l.length) (y : Hp) (he : hpC y = hpC l[k]) (ho : PtOk y.x) (ha : y.hA = l[k].hA) (hd : y.dA = l[k].dA)
    {r : Option Nat} (hg : w.grownBy w' r) (hr : ∀ b, r = some b → ∀ cur fz, w.heap[b]? ≠ some (.cells cur 44 fz))
    (hn : OwnN w' B y) (hm : ∀ i (hi : i < l.length), i ≠ k → OwnN w' B l[i]) : OwnP w' B A c (l.set k y) := by
  have hb : ∀ b p, A = some ⟨b, p, none⟩ → w'.heap[b]? = w.heap[b]? := fun b p e => by
    obtain ⟨_, cur, fz, h2⟩ := h.ty b p e
    exact hg.block b (Array.getElem?_eq_some_iff.1 h2).1 fun q => hr b q.symm cur fz h2
  have hlen : (l.set k y).length = l.length := List.length_set
  refine ⟨⟨fun i hi => ?_, by rw [hlen]; exact h.row.2.1, h.row.2.2⟩, fun b p e => ?_, ?_, fun x hx => ?_, ?_⟩
  · rw [hlen] at hi
    obtain ⟨b, p, h1, h2, h3, h4⟩ := h.row.1 i hi
    refine ⟨b, p, h1, Nat.lt_of_lt_of_le h2 hg.size, fun j u hu => ?_, ?_⟩
    · rw [World.cell?_of_block (a := ⟨b, p + i * fP.sz + j, none⟩) (hb b p h1)]
      refine h3 j u ?_
      rw [← hu, List.getElem_set]
      split
      · rename_i e
        subst e
        exact congrArg (fun x : List Value => x[j]?) he.symm
      · rfl
    · rw [List.getElem_set]
      split
      · exact ho
      · exact h4
  · obtain ⟨h1, cur, fz, h2⟩ := h.ty b p e
    exact ⟨h1, cur, fz, (hb b p e).trans h2⟩
  · rw [hlen]
    refine h.own.imp_left fun o => ?_
    have o2 := OwnF.kept o hg (by
      cases e : Value.ownBlock (.slice A l.length c) with
      | none => exact Or.inl rfl
      | some b =>
        refine Or.inr fun q => ?_
        obtain ⟨cur, fz, h2⟩ := row_ty o b e
        exact hr b q.symm cur fz h2)
    refine ⟨?_, fun x hx => ?_⟩
    · have e := flat_set_same (F := fP) l k y hk he
      rw [e, hlen]
      exact o2.1
    · rcases List.mem_or_eq_of_mem_set hx with hx | rfl
      · exact o2.2 x hx
      · exact ho
  · obtain ⟨i, hi, rfl⟩ := List.getElem_of_mem hx
    rw [hlen] at hi
    rw [List.getElem_set]
    split
    · exact hn
    · rename_i e
      exact hm i hi (fun q => e q.symm)
  · rw [List.pairwise_iff_getElem]
    intro i j hi hj hij
    rw [hlen] at hi hj
    have := List.pairwise_iff_getElem.1 h.ap i j hi hj hij
    rw [List.getElem_set, List.getElem_set]
    split
    · rename_i e
      subst e
      rw [if_neg (by omega), ha, hd]
      exact this
    · split
      · rename_i e
        subst e
        rw [ha, hd]
        exact this
      · exact this
theorem OwnF.ne_ty {α : Type} {F : Flat α} {T T' : TypeId} {w : World} {B : Nat} {A : Option Addr} {n c g : Nat} {l : List α} {cur : Array Value} {fz : Nat × Nat} (h : OwnF F T w B (.slice A n c) l) (hA : A ≠ none) (hT : T ≠ T') (hg : w.heap[g]? = some (.cells cur T' fz)) :
    Value.ownBlock (.slice A n c) = none ∨ Value.ownBlock (.slice A n c) ≠ some g := by
  obtain ⟨g', cur', rfl, _, e2⟩ := own_blk h hA
  refine Or.inr fun q => ?_
  simp only [Value.ownBlock, Option.some.injEq] at q
  subst q
  rw [e2] at hg
  simp only [Option.some.injEq, Obj.cells.injEq] at hg
  exact hT hg.2.1
theorem OwnF.ne_at {α : Type} {F : Flat α} {T : TypeId} {w : World} {B : Nat} {A : Option Addr} {n c g : Nat} {l : List α} (h : OwnF F T w B (.slice A n c) l) (hA : A ≠ none) (hg : A ≠ some ⟨g, 0, none⟩) : Value.ownBlock (.slice A n c) = none ∨ Value.ownBlock (.slice A n c) ≠ some g := by
  obtain ⟨g', cur', rfl, _, _⟩ := own_blk h hA
  refine Or.inr fun q => hg ?_
  simp only [Value.ownBlock, Option.some.injEq] at q
  subst q
  rfl
theorem OwnP.storeH {w : World} {B : Nat} {A : Option Addr} {c : Nat} {l : List Hp} (h : OwnP w B A c l) (k : Nat) (hk : k < l.length) (j : Nat) (hj : j < l[k].x.h.length) (g : Nat) (hg : l[k].hA = some ⟨g, 0, none⟩) :
    OwnP (w.setCell ⟨g, j, none⟩ (.bool true)) B A c (l.set k (setH l[k] j)) := by
  have hN := h.nest l[k] (List.getElem_mem hk)
  have hB := hN.bo
  rw [hg] at hB
  obtain ⟨g', cur, e1, hgB, hgt⟩ := own_blk hB (fun q => by cases q)
  simp only [Option.some.injEq, Addr.mk.injEq, and_true] at e1
  subst e1
  have hG := set_grown w ⟨g, j, none⟩ (.bool true)
  have e0 : j * (fBo).sz + 0 = j := by show j * 1 + 0 = j; omega
  refine h.over k hk (setH l[k] j) (by simp [hpC, setH]) (by have := h.row.1.ok _ (List.getElem_mem hk); exact this) rfl rfl (r := some g) hG (fun b e cur' fz q => ?_) ?_ (fun i hi hne => ?_)
  · simp only [Option.some.injEq] at e
    subst e
    rw [hgt] at q
    simp only [Option.some.injEq, Obj.cells.injEq] at q
    exact absurd q.2.1 (by decide)
  · have hP := OwnF.put hB j hj 0 (by decide) (.bool true) true rfl trivial
    rw [e0] at hP
    have hO := OwnF.kept hN.st hG (OwnF.ne_ty hN.st hN.ns (by decide) hgt)
    exact ⟨by have q := hP; rw [← hg] at q; simpa [setH] using q, hO, hN.nb, hN.ns⟩
  · have hN' := h.nest l[i] (List.getElem_mem hi)
    have hap : l[i].hA ≠ l[k].hA ∧ l[i].dA ≠ l[k].dA := by
      rcases Nat.lt_or_ge i k with q | q
      · exact List.pairwise_iff_getElem.1 h.ap i k hi hk q
      · have := List.pairwise_iff_getElem.1 h.ap k i hk hi (by omega)
        exact ⟨fun e => this.1 e.symm, fun e => this.2 e.symm⟩
    have hM := OwnF.kept hN'.bo hG (OwnF.ne_at hN'.bo hN'.nb (by rw [← hg]; exact hap.1))
    have hO := OwnF.kept hN'.st hG (OwnF.ne_ty hN'.st hN'.ns (by decide) hgt)
    exact ⟨hM, hO, hN'.nb, hN'.ns⟩
theorem OwnP.storeD {w : World} {B : Nat} {A : Option Addr} {c : Nat} {l : List Hp} (h : OwnP w B A c l) (k : Nat) (hk : k < l.length) (j : Nat) (hj : j < l[k].x.d.length) (b : ByteArray) (hb : b.size ≤ 9223372036854775807) (g : Nat) (hg : l[k].dA = some ⟨g, 0, none⟩) :
    OwnP (w.setCell ⟨g, j, none⟩ (.string b)) B A c (l.set k (setD l[k] j b)) := by
  have hN := h.nest l[k] (List.getElem_mem hk)
  have hB := hN.st
  rw [hg] at hB
  obtain ⟨g', cur, e1, hgB, hgt⟩ := own_blk hB (fun q => by cases q)
  simp only [Option.some.injEq, Addr.mk.injEq, and_true] at e1
  subst e1
  have hG := set_grown w ⟨g, j, none⟩ (.string b)
  have e0 : j * (fSt).sz + 0 = j := by show j * 1 + 0 = j; omega
  refine h.over k hk (setD l[k] j b) (by simp [hpC, setD]) (by have := h.row.1.ok _ (List.getElem_mem hk); exact this) rfl rfl (r := some g) hG (fun b e cur' fz q => ?_) ?_ (fun i hi hne => ?_)
  · simp only [Option.some.injEq] at e
    subst e
    rw [hgt] at q
    simp only [Option.some.injEq, Obj.cells.injEq] at q
    exact absurd q.2.1 (by decide)
  · have hP := OwnF.put hB j hj 0 (by decide) (.string b) b rfl hb
    rw [e0] at hP
    have hO := OwnF.kept hN.bo hG (OwnF.ne_ty hN.bo hN.nb (by decide) hgt)
    exact ⟨hO, by have q := hP; rw [← hg] at q; simpa [setD] using q, hN.nb, hN.ns⟩
  · have hN' := h.nest l[i] (List.getElem_mem hi)
    have hap : l[i].hA ≠ l[k].hA ∧ l[i].dA ≠ l[k].dA := by
      rcases Nat.lt_or_ge i k with q | q
      · exact List.pairwise_iff_getElem.1 h.ap i k hi hk q
      · have := List.pairwise_iff_getElem.1 h.ap k i hk hi (by omega)
        exact ⟨fun e => this.1 e.symm, fun e => this.2 e.symm⟩
    have hM := OwnF.kept hN'.st hG (OwnF.ne_at hN'.st hN'.ns (by rw [← hg]; exact hap.2))
    have hO := OwnF.kept hN'.bo hG (OwnF.ne_ty hN'.bo hN'.nb (by decide) hgt)
    exact ⟨hO, hM, hN'.nb, hN'.ns⟩

theorem mk_bools (n : Nat) (hn : n ≤ 1000) (w : World) : (Instr.makeSlice 40 (.int .i64 (n : Int)) (.int .i64 (n : Int))).run Try.prog w = .ok (.slice (some ⟨w.heap.size, 0, none⟩) n n) (w.alloc (.cells (madeCells #[.bool false] n) 4)) :=
  run_make_row' 40 4 (.bool false) 1 Try.underlying40 (by kernel_rfl) rfl .i64 .i64 n (by omega) (by omega) w
theorem mk_texts (n : Nat) (hn : n ≤ 1000) (w : World) : (Instr.makeSlice 23 (.int .i64 (n : Int)) (.int .i64 (n : Int))).run Try.prog w = .ok (.slice (some ⟨w.heap.size, 0, none⟩) n n) (w.alloc (.cells (madeCells #[.string ⟨#[]⟩] n) 9)) :=
  run_make_row' 23 9 (.string ⟨#[]⟩) 16 Try.underlying23 (by kernel_rfl) rfl .i64 .i64 n (by omega) (by omega) w
theorem made_bools (w : World) (B n : Nat) (hB : B ≤ w.heap.size) (hn : n ≤ 1000) : OwnF fBo 4 (w.alloc (.cells (madeCells #[.bool false] n) 4)) B (.slice (some ⟨w.heap.size, 0, none⟩) n n) (List.replicate n false) := by
  have := OwnF.lit (F := fBo) (T := 4) w B (List.replicate n false) (madeCells #[.bool false] n) hB (by unfold maxLen; simp; omega) (by
    rw [toList_madeCells_one]
    clear hn
    induction n with
    | zero => rfl
    | succ n ih => rw [List.replicate_succ, List.replicate_succ, List.flatMap_cons, ← ih]; rfl) (fun _ _ => trivial)
  rw [List.length_replicate] at this
  exact this
theorem made_texts (w : World) (B n : Nat) (hB : B ≤ w.heap.size) (hn : n ≤ 1000) : OwnF fSt 9 (w.alloc (.cells (madeCells #[.string ⟨#[]⟩] n) 9)) B (.slice (some ⟨w.heap.size, 0, none⟩) n n) (List.replicate n eb) := by
  have := OwnF.lit (F := fSt) (T := 9) w B (List.replicate n eb) (madeCells #[.string ⟨#[]⟩] n) hB (by unfold maxLen; simp; omega) (by
    rw [toList_madeCells_one]
    clear hn
    induction n with
    | zero => rfl
    | succ n ih => rw [List.replicate_succ, List.replicate_succ, List.flatMap_cons, ← ih]; rfl) (fun a ha => by rw [(List.mem_replicate.1 ha).2]; show (0 : Nat) ≤ _; omega)
  rw [List.length_replicate] at this
  exact this
abbrev newP (s i : Int) (n : Nat) (now : Int) (g g2 : Nat) : Hp := ⟨nw s i (n : Int) now, some ⟨g, 0, none⟩, n, some ⟨g2, 0, none⟩, n⟩
abbrev newB (s i : Int) (n : Nat) (t : Int) (g g2 : Nat) : Obj := .cells #[.int .i64 s, .int .i64 i, .int .i64 (n : Int), .int .i64 t, .slice (some ⟨g, 0, none⟩) n n, .slice (some ⟨g2, 0, none⟩) n n] 44
theorem newB_is (s i : Int) (n : Nat) (now : Int) (g g2 : Nat) : bxP (newP s i n now g g2) = newB s i n (tick now) g g2 := by simp [nw]
/-- A new entry behind the others: its rows lie in W. -/
theorem grow_p {w W : World} {B : Nat} {A : Option Addr} {c : Nat} {l : List Hp} (hB : B ≤ w.heap.size) (ho : OwnF fP 44 w B (.slice A l.length c) l) (hn : ∀ y ∈ l, OwnN w B y) (ha : l.Pairwise fun a b => a.hA ≠ b.hA ∧ a.dA ≠ b.dA) (hl : l.length ≤ 1000)
    (hb : Below w.heap.size w W) (s i : Int) (n : Nat) (now : Int) (g g2 : Nat) (hy : OwnN W w.heap.size (newP s i n now g g2)) (hok : I64 s ∧ I64 i ∧ n ≤ 1000) :
    ∃ A' c' W' l', (Builtin.append_ #[31, 31] 31 #[.slice A l.length c, .slice (some ⟨W.heap.size, 0, none⟩) 1 1]).run Try.prog (W.alloc (newB s i n (tick now) g g2)) = .ok (.slice A' (List.length l') c') W' ∧ OwnP W' B A' c' l' ∧ Below B w W' ∧ xs l' = xs l ++ [nw s i (n : Int) now] := by
  have hbt := tick_in now
  obtain ⟨v', W', h1, h2, h3, h4⟩ := one_p (newP s i n now g g2) ⟨hok.1, hok.2.1, by unfold I64; show _ ≤ (n : Int) ∧ (n : Int) ≤ _; omega, by unfold I64; show _ ≤ tick now ∧ tick now ≤ _; omega⟩ (ho.below hb) (by omega) (Nat.le_trans hB hb.size)
  obtain ⟨n1, n2⟩ := OwnP.push hn ha hb hy hB
  obtain ⟨A', c', rfl, h5⟩ := OwnP.of h2 (fun y hy => h4 B y (n1 y hy)) n2
  rw [newB_is] at h1
  exact ⟨A', c', W', _, h1, h5, (hb.mono hB).trans h3, by unfold xs; rw [List.map_append]; rfl⟩
end Go.Proofs.Ytljcjflbfjleoaa.Frg
