/- Package frag: an entry appended; strings.Join of an entry's data. -/
import Derived.Test.YtljcjflbfjleoaaFgX8
import Derived.Test.YtljcjflbfjleoaaIn2
set_option linter.unusedVariables false
namespace Go.Proofs.Ytljcjflbfjleoaa.Frg
open Go.RowKit

theorem RowV.push {w : World} {B : Nat} {A : Option Addr} {c : Nat} {l : List Hp} (h : RowV w B A c l) (y : Hp) (hok : PtOk y.x) (hl : l.length ≤ 1000) (hB : B ≤ w.heap.size) :
    ∃ A' c' w', (Builtin.append_ #[31, 31] 31 #[.slice A l.length c, .slice (some ⟨w.heap.size, 0, none⟩) 1 1]).run Try.prog (w.alloc (bxP y)) = .ok (.slice A' (l ++ [y]).length c') w' ∧ RowV w' B A' c' (l ++ [y]) ∧ (w.alloc (bxP y)).grownBy w' (Value.ownBlock (.slice A l.length c)) ∧ ∀ (B' : Nat) (z : Hp), OwnN w B' z → OwnN w' B' z := by
  have ha := alloc_below w (bxP y)
  have hm : ∀ (j : Nat) (u : Value), ([y].flatMap fP.enc)[j]? = some u → (w.alloc (bxP y)).cell? ((⟨w.heap.size, 0, none⟩ : Addr).add j) = some u := fun j u hu => by
    have e : ([y].flatMap fP.enc) = hpC y := by simp [fP]
    rw [e] at hu
    rw [add_at, Nat.zero_add]
    exact blk_cell (blk_new w (bxP y)) j (by rw [← Array.getElem?_toList]; exact hu)
  have hoy : ∀ x ∈ [y], fP.ok x := fun x hx => by rw [List.mem_singleton.1 hx]; exact hok
  rcases h with ⟨rfl, rfl, rfl⟩ | h
  · obtain ⟨v', w', h1, h2, h3, _, h5⟩ := (OwnF.nil (F := fP) (T := 44) (w.alloc (bxP y)) B).app eP (c := 1) 31 (FlAt.lit (F := fP) w [y] #[.int .i64 y.x.s, .int .i64 y.x.i, .int .i64 y.x.c, .int .i64 y.x.t, .slice y.hA y.x.h.length y.hc, .slice y.dA y.x.d.length y.dc] 44 (by unfold maxLen; simp) rfl hoy) (by simp) (Nat.le_trans hB ha.size)
    obtain ⟨A', c', rfl, _⟩ := h2.form
    exact ⟨A', c', w', h1, OwnF.rowV h2, h5, fun B' z hz => (hz.below ha).kept h5 (fun g e => by cases e)⟩
  · have h' := h.below ha
    obtain ⟨v', w', h1, h2, h3⟩ := h'.more eP 31 ⟨w.heap.size, 0, none⟩ 1 (m := [y]) hm hoy (by simp; omega) (Nat.le_trans hB ha.size)
    obtain ⟨g, off, cap, cur, rfl, h5⟩ := h2
    refine ⟨_, _, w', h1, Or.inr ⟨g, off, cap, cur, rfl, h5⟩, h3, fun B' z hz => ?_⟩
    obtain ⟨g0, off0, cap0, cur0, e0, k1, k2, _⟩ := h'
    simp only [Value.slice.injEq, true_and] at e0
    obtain ⟨rfl, rfl⟩ := e0
    exact (hz.below ha).keptRow h3 k2

theorem RowV.cut2 {w : World} {B : Nat} {A : Option Addr} {c : Nat} {l : List Hp} (h : RowV w B A c l) (k : Nat) (hk : k ≤ l.length) :
    ∃ A' c', (∀ W : World, (Instr.sliceAt 31 (.slice A l.length c) (some (.int .i64 (k : Int))) none none).run Try.prog W = .ok (.slice A' (l.drop k).length c') W) ∧ RowV w B A' c' (l.drop k) ∧ ∀ g, Value.ownBlock (.slice A' (l.drop k).length c') = some g → Value.ownBlock (.slice A l.length c) = some g := by
  obtain ⟨A', c', h1, h2⟩ := h.cut k hk
  refine ⟨A', c', h1, h2, fun g hg => ?_⟩
  have e5 := h1 w
  rcases h with ⟨rfl, rfl, rfl⟩ | h
  · obtain rfl : k = 0 := by simpa using hk
    have e6 : (Instr.sliceAt 31 (.slice none 0 0) (some (.int .i64 ((0 : Nat) : Int))) none none).run Try.prog w = .ok (.slice none 0 0) w := by
      rw [run_sliceAt_slice w _ _ _ _ _ utP, run_slice_l w _ none 0 0 utP .i64 ((0 : Nat) : Int) (by omega) (by omega), szP]
      unfold sliced
      simp
    have e7 := e6.symm.trans e5
    simp only [Result.ok.injEq, Value.slice.injEq, and_true] at e7
    rw [← e7.1] at hg
    cases hg
  · obtain ⟨g0, off, cap, cur, e, R⟩ := h.ro
    simp only [Value.slice.injEq, true_and] at e
    obtain ⟨rfl, rfl⟩ := e
    have s := RoT.from (F := fP) utP szP g0 off l.length c k hk (k : Int) rfl w
    have e7 := s.symm.trans e5
    simp only [Result.ok.injEq, Value.slice.injEq, and_true] at e7
    rw [← e7.1] at hg
    split at hg <;> exact hg
theorem join_flat : ∀ l : List (List UInt8), Lib.join l [] = l.flatten
  | [] => rfl
  | x :: r => by rw [Lib.join_cons, List.flatten_cons]; unfold Lib.joinTail; simp
theorem pjoin_any (A : Option Addr) (c : Nat) (D : List ByteArray) (w : World) (hA : SlS fSt w A c D) (hn : 0 < D.length ∧ D.length ≤ 16) (hs : ∀ i (hi : i < D.length), D[i].size ≤ 64) :
    Calls Try.prog 37 #[.slice A D.length c, .string eb] w fun e w' => e = .returned (.string (jn D)) ∧ Below w.heap.size w w' := by
  obtain ⟨b, p, rfl, hb, _⟩ := st_cell hA 0 hn.1
  have ej : Lib.join (D.map (·.data.toList)) (eb).data.toList = D.flatMap fun p => p.data.toList := by
    show Lib.join _ [] = _
    rw [join_flat, List.flatMap_def]
  have hlen : (D.flatMap fun p => p.data.toList).length ≤ 64 * 16 := by
    have := jn_size D hs D.length (Nat.le_refl _)
    rw [List.take_length] at this
    unfold jn at this
    rw [bs_size] at this
    omega
  have K := Try.strings_Join b p c D eb w (fun j x hx => by
      obtain ⟨hj, rfl⟩ := List.getElem?_eq_some_iff.1 hx
      obtain ⟨b', p', e, _, h1, _⟩ := st_cell hA j hj
      simp only [Option.some.injEq, Addr.mk.injEq, and_true] at e
      obtain ⟨rfl, rfl⟩ := e
      exact h1) hb (by omega) hA.2.1 (by rw [ej]; omega)
  rw [ej] at K
  exact K
theorem full_con (h : List Bool) : h.contains false = !(h.all id) := by
  induction h with
  | nil => rfl
  | cons b h ih => rw [List.contains_cons, List.all_cons, ih]; cases b <;> simp
end Go.Proofs.Ytljcjflbfjleoaa.Frg
