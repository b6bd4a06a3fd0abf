/- Rows of the call's own of any flat type, written in place at any offset: appended to within their room, an element taken out, cleared, packed; for every seat. -/
import Derived.Test.YtcnmknhjmflinaaQf
import Derived.Test.YtcnmknhjmflinaaWh
import Derived.Lib.SliceRun
set_option linter.unusedVariables false
namespace Go.Proofs.Ytcnmknhjmflinaa
open Go.RowKit

theorem setCell_grown (w : World) (a : Addr) (v : Value) : w.grownBy (w.setCell a v) (some a.block) := ⟨rfl, rfl, rfl, by rw [World.size_setCell]; exact Nat.le_refl _, fun k hk hr => Below.heap_setCell w a v k (fun e => hr (by rw [e]))⟩
theorem gr_trans {a b c : World} {r : Option Nat} (h : a.grownBy b r) (k : b.grownBy c r) : a.grownBy c r :=
  ⟨k.os.trans h.os, k.tape.trans h.tape, k.output.trans h.output, Nat.le_trans h.size k.size, fun i hi hr => (k.block i (Nat.lt_of_lt_of_le hi h.size) hr).trans (h.block i hi hr)⟩
theorem gr_refl (w : World) (r : Option Nat) : w.grownBy w r := ⟨rfl, rfl, rfl, Nat.le_refl _, fun _ _ _ => rfl⟩
theorem gr_drew (w : World) (n : Nat) (r : Option Nat) : w.grownBy (w.drewN n) r := gb_below (below_drewN (Below.refl _ _) n)
theorem gr_below {a b : World} {B : Nat} {r : Option Nat} (h : a.grownBy b r) (hB : ∀ g, r = some g → B ≤ g) (hs : B ≤ a.heap.size) : Below B a b :=
  ⟨h.os, h.tape, h.output, h.size, fun k hk => h.block k (by omega) fun e => by have := hB k e.symm; omega⟩
theorem setCells_grown (g : Nat) : ∀ (vs : List Value) (o : Nat) (w : World), w.grownBy (w.setCells g o vs) (some g)
  | [], _, w => gr_refl w _
  | v :: r, o, w => gr_trans (setCell_grown w ⟨g, o, none⟩ v) (setCells_grown g r (o + 1) _)
theorem setCells_blk {g : Nat} {T : TypeId} : ∀ (vs : List Value) (o : Nat) (w : World) (cur : Array Value), w.heap[g]? = some (.cells cur T (0, 0)) → (w.setCells g o vs).heap[g]? = some (.cells (setAll cur.toList o vs).toArray T (0, 0))
  | [], _, _, cur, h => by unfold World.setCells setAll; simpa using h
  | v :: r, o, w, cur, h => by
    unfold World.setCells setAll
    have := setCells_blk r (o + 1) _ _ (blk_set h o v)
    simpa [Array.toList_setIfInBounds] using this

section
variable {α : Type} {F : Flat α} {T : TypeId}
/-- From place o on the cells are the list's. -/
def HasR (F : Flat α) (cur : List Value) (o : Nat) (l : List α) : Prop := ∀ (j : Nat) (u : Value), (l.flatMap F.enc)[j]? = some u → cur[o + j]? = some u
theorem HasR.nil (cur : List Value) (o : Nat) : HasR F cur o [] := fun j u h => by simp at h
theorem HasR.fst {cur : List Value} {o : Nat} {a b : List α} (h : HasR F cur o (a ++ b)) : HasR F cur o a := fun j u hu => h j u (by
  rw [flat_app, List.getElem?_append_left (List.getElem?_eq_some_iff.1 hu).1]; exact hu)
theorem HasR.snd {cur : List Value} {o : Nat} {a b : List α} (h : HasR F cur o (a ++ b)) : HasR F cur (o + a.length * F.sz) b := fun j u hu => by
  have := h (a.length * F.sz + j) u (by rw [flat_app, List.getElem?_append_right (by rw [flat_len]; omega), flat_len, Nat.add_sub_cancel_left]; exact hu)
  rw [← Nat.add_assoc] at this
  exact this
theorem HasR.two {cur : List Value} {o : Nat} {a b : List α} (h : HasR F cur o a) (h2 : HasR F cur (o + a.length * F.sz) b) : HasR F cur o (a ++ b) := fun j u hu => by
  rw [flat_app] at hu
  rcases Nat.lt_or_ge j (a.length * F.sz) with c | c
  · rw [List.getElem?_append_left (by rw [flat_len]; exact c)] at hu
    exact h j u hu
  · rw [List.getElem?_append_right (by rw [flat_len]; exact c), flat_len] at hu
    have := h2 _ u hu
    rw [show o + a.length * F.sz + (j - a.length * F.sz) = o + j by omega] at this
    exact this
theorem HasR.out {cur : List Value} {o p : Nat} {l : List α} (h : HasR F cur o l) (vs : List Value) (hd : o + l.length * F.sz ≤ p ∨ p + vs.length ≤ o) : HasR F (setAll cur p vs) o l := fun j u hu => by
  have hj : j < l.length * F.sz := by rw [← flat_len (F := F)]; exact (List.getElem?_eq_some_iff.1 hu).1
  rw [setAll_out vs cur p (o + j) (by omega)]
  exact h j u hu
theorem HasR.put {cur : List Value} {o : Nat} (m : List α) (hf : o + m.length * F.sz ≤ cur.length) : HasR F (setAll cur o (m.flatMap F.enc)) o m := fun j u hu => by
  have hj := (List.getElem?_eq_some_iff.1 hu).1
  rw [setAll_in _ cur o j hj (by rw [flat_len]; exact hf)]
  exact hu

/-- A row, by its words. -/
structure RoT (F : Flat α) (T : TypeId) (w : World) (B g off cap : Nat) (cur : Array Value) (l : List α) : Prop where
  base : B ≤ g
  blk : w.heap[g]? = some (.cells cur T (0, 0))
  len : l.length ≤ cap
  room : off + cap * F.sz ≤ cur.size
  has : HasR F cur.toList off l
  ok : ∀ a ∈ l, F.ok a
theorem RoT.own {w : World} {B g off cap : Nat} {cur : Array Value} {l : List α} (h : RoT F T w B g off cap cur l) : OwnT F T w B (.slice (some ⟨g, off, none⟩) l.length cap) l :=
  ⟨g, off, cap, cur, rfl, h.base, h.blk, h.len, h.room, fun j u hu => by have := h.has j u hu; rw [Array.getElem?_toList] at this; exact this, h.ok⟩
theorem OwnT.ro {w : World} {B : Nat} {v : Value} {l : List α} (h : OwnT F T w B v l) : ∃ g off cap cur, v = .slice (some ⟨g, off, none⟩) l.length cap ∧ RoT F T w B g off cap cur l := by
  obtain ⟨g, off, cap, cur, e, h1, h2, h3, h4, h5, h6⟩ := h
  exact ⟨g, off, cap, cur, e, h1, h2, h3, h4, fun j u hu => by rw [Array.getElem?_toList]; exact h5 j u hu, h6⟩
theorem RoT.below {w w' : World} {B g off cap : Nat} {cur : Array Value} {l : List α} (h : RoT F T w B g off cap cur l) (hb : Below w.heap.size w w') : RoT F T w' B g off cap cur l :=
  ⟨h.base, (hb.block g (Array.getElem?_eq_some_iff.1 h.blk).1).trans h.blk, h.len, h.room, h.has, h.ok⟩
theorem RoT.kept {w w' : World} {B g off cap : Nat} {cur : Array Value} {l : List α} {r : Option Nat} (h : RoT F T w B g off cap cur l) (hg : w.grownBy w' r) (hr : some g ≠ r) : RoT F T w' B g off cap cur l :=
  ⟨h.base, (hg.block g (Array.getElem?_eq_some_iff.1 h.blk).1 hr).trans h.blk, h.len, h.room, h.has, h.ok⟩
theorem RoT.lt {w : World} {B g off cap : Nat} {cur : Array Value} {l : List α} (h : RoT F T w B g off cap cur l) : g < w.heap.size := (Array.getElem?_eq_some_iff.1 h.blk).1
theorem RoT.cell {w : World} {B g off cap : Nat} {cur : Array Value} {l : List α} (h : RoT F T w B g off cap cur l) (i : Nat) (hi : i < l.length) (j : Nat) (hj : j < F.sz) : w.cell? ⟨g, off + i * F.sz + j, none⟩ = (F.enc l[i])[j]? := by
  have e := flat_get (F := F) l i hi j hj
  cases hv : (F.enc l[i])[j]? with
  | none => exact absurd (List.getElem?_eq_none_iff.1 hv) (by rw [F.len]; omega)
  | some u =>
    rw [hv] at e
    have := h.has _ u e
    rw [cell_of_row w g _ cur T (0, 0) h.blk, ← Array.getElem?_toList, Nat.add_assoc]
    exact this
theorem RoT.there {w : World} {B g off cap : Nat} {cur : Array Value} {l : List α} (h : RoT F T w B g off cap cur l) (i : Nat) (hi : i < cap) : w.there g (off + i * F.sz) F.sz := fun j hj => by
  have : (i + 1) * F.sz ≤ cap * F.sz := Nat.mul_le_mul_right _ hi
  rw [Nat.add_mul, Nat.one_mul] at this
  have hr := h.room
  refine ⟨?_, blk_fr h.blk _⟩
  rw [cell_of_row w g _ cur T (0, 0) h.blk, Array.getElem?_eq_getElem (by omega)]
  rfl
theorem add_at (g o j : Nat) : (⟨g, o, none⟩ : Addr).add j = ⟨g, o + j, none⟩ := by unfold Addr.add; split <;> simp_all
/-- 'append' within the room. -/
theorem RoT.app {P : Program} {t : TypeId} (E : Elems P t T F.sz) {w : World} {B g off cap : Nat} {cur : Array Value} {a m : List α} (ty : TypeId) (h : RoT F T w B g off cap cur a) (A2 : Addr) (c2 : Nat) (hm : ∀ (j : Nat) (u : Value), (m.flatMap F.enc)[j]? = some u → w.cell? (A2.add j) = some u) (hok : ∀ x ∈ m, F.ok x) (hc : a.length + m.length ≤ cap) :
    ∃ w' cur', (Builtin.append_ #[t, t] ty #[.slice (some ⟨g, off, none⟩) a.length cap, .slice (some A2) m.length c2]).run P w = .ok (.slice (some ⟨g, off, none⟩) (a.length + m.length) cap) w' ∧ RoT F T w' B g off cap cur' (a ++ m) ∧ cur'.size = cur.size ∧ w.grownBy w' (some g) := by
  obtain ⟨i0, z, bts, q1, q2, q3, q4, q5, q6⟩ := E.info
  have hmul : a.length * F.sz + m.length * F.sz ≤ cap * F.sz := by rw [← Nat.add_mul]; exact Nat.mul_le_mul_right _ hc
  have hr := h.room
  have hf := run_firstCells_some (P := P) w i0.size m.length A2 m.length c2 (m.flatMap F.enc) (by rw [q3, flat_len]) hm
  have hst := run_storeCells_cells (P := P) g (off + a.length * F.sz) (m.flatMap F.enc) 0 w (fun j hj => by
      rw [flat_len] at hj
      rw [cell_of_row w g _ cur T (0, 0) h.blk, Array.getElem?_eq_getElem (by omega)]; rfl) (fun j hj => blk_fr h.blk _) (flat_one m)
  rw [Nat.add_zero] at hst
  refine ⟨w.setCells g (off + a.length * F.sz) (m.flatMap F.enc), _, ?_, ⟨h.base, setCells_blk _ _ _ _ h.blk, by rw [List.length_append]; exact hc, ?_, ?_, fun x hx => ?_⟩, ?_, setCells_grown g _ _ _⟩
  · rw [q3] at hf
    simp [Builtin.append_, run_underlying E.ut, sizeOf, typeInfo, q1, q3, Builtin.lenOf, hc, add_at, hf, hst]
  · rw [List.size_toArray, setAll_len, Array.length_toList]; exact hr
  · simp only
    exact (h.has.out _ (Or.inl (Nat.le_refl _))).two (HasR.put m (by rw [Array.length_toList (xs := cur)]; omega))
  · rcases List.mem_append.1 hx with k | k
    · exact h.ok x k
    · exact hok x k
  · rw [List.size_toArray, setAll_len, Array.length_toList]
theorem RoT.take {w : World} {B g off cap : Nat} {cur : Array Value} {l : List α} (h : RoT F T w B g off cap cur l) (k : Nat) : RoT F T w B g off cap cur (l.take k) :=
  ⟨h.base, h.blk, by rw [List.length_take]; have := h.len; omega, h.room, by have q := h.has; rw [← List.take_append_drop k l] at q; exact q.fst, fun a ha => h.ok a (List.mem_of_mem_take ha)⟩
theorem RoT.drop {w : World} {B g off cap : Nat} {cur : Array Value} {l : List α} (h : RoT F T w B g off cap cur l) (k : Nat) (hk : k ≤ l.length) : HasR F cur.toList (off + k * F.sz) (l.drop k) := by
  have q := h.has
  rw [← List.take_append_drop k l] at q
  have := q.snd
  rw [List.length_take, Nat.min_eq_left hk] at this
  exact this
/-- 'clear' of what lies behind. -/
theorem RoT.clear {P : Program} {t : TypeId} (ut : P.underlying t = some (.slice T)) {z : Array Value} (zRun : ∀ w : World, (zeroValue T).run P w = .ok (.agg z) w) (z1 : z.size = F.sz) (z2 : ∀ v ∈ z, v.oneCell' = true) {w : World} {B g off cap : Nat} {cur : Array Value} {l : List α} (ty : TypeId) (h : RoT F T w B g off cap cur l) (o n c3 : Nat) (ho : l.length ≤ o) (hn : o + n ≤ cap) :
    ∃ w' cur', (Builtin.clear_ #[t] ty #[.slice (some ⟨g, off + o * F.sz, none⟩) n c3]).run P w = .ok (.tuple #[]) w' ∧ RoT F T w' B g off cap cur' l ∧ cur'.size = cur.size ∧ w.grownBy w' (some g) := by
  have hmul : o * F.sz + n * F.sz ≤ cap * F.sz := by rw [← Nat.add_mul]; exact Nat.mul_le_mul_right _ hn
  have hmo : l.length * F.sz ≤ o * F.sz := Nat.mul_le_mul_right _ ho
  have hr := h.room
  have hzl : (Builtin.zeroCells z n).toList.length = n * F.sz := by rw [Array.length_toList, size_zeroCells, z1]
  have hz1 : ∀ v ∈ (Builtin.zeroCells z n).toList, v.oneCell' = true := fun v hv => by
    unfold Builtin.zeroCells at hv
    simp only [Array.toList_map, List.mem_map] at hv
    obtain ⟨i, hi, rfl⟩ := hv
    have hz0 : 0 < z.size := by rw [z1]; exact F.pos
    have hlt := Nat.mod_lt i hz0
    rw [getElem!_pos z _ hlt]
    exact z2 _ (Array.getElem_mem hlt)
  have hst := run_storeCells_cells (P := P) g (off + o * F.sz) (Builtin.zeroCells z n).toList 0 w (fun j hj => by
      rw [hzl] at hj
      rw [cell_of_row w g _ cur T (0, 0) h.blk, Array.getElem?_eq_getElem (by omega)]; rfl) (fun j hj => blk_fr h.blk _) hz1
  rw [Nat.add_zero] at hst
  by_cases h0 : n = 0
  · subst h0
    refine ⟨w, cur, ?_, h, rfl, gr_refl _ _⟩
    simp [Builtin.clear_, run_underlying ut]
  · obtain ⟨n', rfl⟩ : ∃ k, n = k + 1 := ⟨n - 1, by omega⟩
    refine ⟨w.setCells g (off + o * F.sz) (Builtin.zeroCells z (n' + 1)).toList, _, ?_, ⟨h.base, setCells_blk _ _ _ _ h.blk, h.len, ?_, ?_, h.ok⟩, ?_, setCells_grown g _ _ _⟩
    · simp [Builtin.clear_, run_underlying ut, zRun, Value.cells, hst]
    · rw [List.size_toArray, setAll_len, Array.length_toList]; exact hr
    · simp only
      exact h.has.out _ (Or.inl (by omega))
    · rw [List.size_toArray, setAll_len, Array.length_toList]
/-- Slices of a row. -/
theorem RoT.to {P : Program} {t : TypeId} (ut : P.underlying t = some (.slice (P.elem t))) (sz : ∀ W : World, (sizeOf (P.elem t)).run P W = .ok F.sz W) (g off n cap k : Nat) (hk : k ≤ cap) :
    ∀ W : World, (Instr.sliceAt t (.slice (some ⟨g, off, none⟩) n cap) none (some (.int .i64 (k : Int))) none).run P W = .ok (.slice (some ⟨g, off, none⟩) k cap) W := fun W => by
  rw [run_sliceAt_slice W _ _ _ _ _ ut, run_slice_h W _ _ n cap ut .i64 k (by omega) (by omega), sz]
  unfold sliced
  simp [add_at]
theorem RoT.from {P : Program} {t : TypeId} (ut : P.underlying t = some (.slice (P.elem t))) (sz : ∀ W : World, (sizeOf (P.elem t)).run P W = .ok F.sz W) (g off n cap k : Nat) (hk : k ≤ n) (i : Int) (hi : i = k) :
    ∀ W : World, (Instr.sliceAt t (.slice (some ⟨g, off, none⟩) n cap) (some (.int .i64 i)) none none).run P W = .ok (.slice (some (if cap = k then ⟨g, off, none⟩ else ⟨g, off + k * F.sz, none⟩)) (n - k) (cap - k)) W := fun W => by
  subst hi
  rw [run_sliceAt_slice W _ _ _ _ _ ut, run_slice_l W _ _ n cap ut .i64 k (by omega) (by omega), sz]
  unfold sliced
  by_cases hc : cap = k
  · simp [hc]
  · simp [hc, add_at]
theorem RoT.part {P : Program} {t : TypeId} (ut : P.underlying t = some (.slice (P.elem t))) (sz : ∀ W : World, (sizeOf (P.elem t)).run P W = .ok F.sz W) (g off n cap k e : Nat) (hk : k ≤ e) (he : e ≤ cap) (i j : Int) (hi : i = k) (hj : j = e) :
    ∀ W : World, (Instr.sliceAt t (.slice (some ⟨g, off, none⟩) n cap) (some (.int .i64 i)) (some (.int .i64 j)) none).run P W = .ok (.slice (some (if cap = k then ⟨g, off, none⟩ else ⟨g, off + k * F.sz, none⟩)) (e - k) (cap - k)) W := fun W => by
  subst hi hj
  rw [run_sliceAt_slice W _ _ _ _ _ ut, run_slice_lh W _ _ n cap ut .i64 .i64 k e (by omega) (by omega) (by omega), sz]
  unfold sliced
  by_cases hc : cap = k
  · simp [hc]
  · simp [hc, add_at]
theorem RoT.part3 {P : Program} {t : TypeId} (ut : P.underlying t = some (.slice (P.elem t))) (sz : ∀ W : World, (sizeOf (P.elem t)).run P W = .ok F.sz W) (g off n cap k e f : Nat) (hk : k ≤ e) (he : e ≤ f) (hf : f ≤ cap) (i j : Int) (hi : i = k) (hj : j = e) :
    ∀ W : World, (Instr.sliceAt t (.slice (some ⟨g, off, none⟩) n cap) (some (.int .i64 i)) (some (.int .i64 j)) (some (.int .i64 (f : Int)))).run P W = .ok (.slice (some (if f = k then ⟨g, off, none⟩ else ⟨g, off + k * F.sz, none⟩)) (e - k) (f - k)) W := fun W => by
  subst hi hj
  rw [run_sliceAt_slice W _ _ _ _ _ ut, run_slice_lhm W _ _ n cap ut .i64 .i64 .i64 k e f (by omega) (by omega) (by omega) (by omega), sz]
  unfold sliced
  by_cases hc : f = k
  · simp [hc]
  · simp [hc, add_at]

/-- A row that is being packed: a has its place, b is still to be looked at, from element m on. -/
structure MidT (F : Flat α) (T : TypeId) (w : World) (B g off cap : Nat) (a : List α) (m : Nat) (b : List α) : Prop where
  base : B ≤ g
  le : a.length ≤ m
  fit : m + b.length ≤ cap
  ex : ∃ cur, w.heap[g]? = some (.cells cur T (0, 0)) ∧ off + cap * F.sz ≤ cur.size ∧ HasR F cur.toList off a ∧ HasR F cur.toList (off + m * F.sz) b
  oka : ∀ x ∈ a, F.ok x
  okb : ∀ x ∈ b, F.ok x
theorem RoT.mid {w : World} {B g off cap : Nat} {cur : Array Value} {l : List α} (h : RoT F T w B g off cap cur l) (k : Nat) (hk : k ≤ l.length) : MidT F T w B g off cap (l.take k) k (l.drop k) :=
  ⟨h.base, by rw [List.length_take]; omega, by rw [List.length_drop]; have := h.len; omega, ⟨cur, h.blk, h.room, (h.take k).has, h.drop k hk⟩, fun x hx => h.ok x (List.mem_of_mem_take hx), fun x hx => h.ok x (List.mem_of_mem_drop hx)⟩
theorem MidT.ro {w : World} {B g off cap m : Nat} {a b : List α} (h : MidT F T w B g off cap a m b) : ∃ cur, RoT F T w B g off cap cur a := by
  obtain ⟨cur, h1, h2, h3, h4⟩ := h.ex
  exact ⟨cur, h.base, h1, by have := h.le; have := h.fit; omega, h2, h3, h.oka⟩
theorem MidT.below {w w' : World} {B g off cap m : Nat} {a b : List α} (h : MidT F T w B g off cap a m b) (hb : Below w.heap.size w w') : MidT F T w' B g off cap a m b := by
  obtain ⟨cur, h1, h2⟩ := h.ex
  exact ⟨h.base, h.le, h.fit, ⟨cur, (hb.block g (Array.getElem?_eq_some_iff.1 h1).1).trans h1, h2⟩, h.oka, h.okb⟩
theorem MidT.lt {w : World} {B g off cap m : Nat} {a b : List α} (h : MidT F T w B g off cap a m b) : g < w.heap.size := by
  obtain ⟨cur, h1, h2⟩ := h.ex
  exact (Array.getElem?_eq_some_iff.1 h1).1
theorem MidT.skip {w : World} {B g off cap m : Nat} {a b : List α} {x : α} (h : MidT F T w B g off cap a m (x :: b)) : MidT F T w B g off cap a (m + 1) b := by
  obtain ⟨cur, h1, h2, h3, h4⟩ := h.ex
  refine ⟨h.base, by have := h.le; omega, by have := h.fit; simp at this; omega, ⟨cur, h1, h2, h3, ?_⟩, h.oka, fun y hy => h.okb y (List.mem_cons_of_mem _ hy)⟩
  have q : HasR F cur.toList (off + m * F.sz) ([x] ++ b) := h4
  have := q.snd
  rw [List.length_singleton, Nat.one_mul, Nat.add_assoc] at this
  rw [Nat.add_mul, Nat.one_mul]
  exact this
theorem MidT.there {w : World} {B g off cap m : Nat} {a b : List α} (h : MidT F T w B g off cap a m b) (i : Nat) (hi : i < cap) : w.there g (off + i * F.sz) F.sz := by
  obtain ⟨cur, h1⟩ := h.ro
  exact h1.there i hi
theorem MidT.cell {w : World} {B g off cap m : Nat} {a b : List α} {x : α} (h : MidT F T w B g off cap a m (x :: b)) (j : Nat) (hj : j < F.sz) : w.cell? ⟨g, off + m * F.sz + j, none⟩ = (F.enc x)[j]? := by
  obtain ⟨cur, h1, h2, h3, h4⟩ := h.ex
  cases hv : (F.enc x)[j]? with
  | none => exact absurd (List.getElem?_eq_none_iff.1 hv) (by rw [F.len]; omega)
  | some u =>
    have := h4 j u (by rw [List.flatMap_cons, List.getElem?_append_left (by rw [F.len]; exact hj)]; exact hv)
    rw [cell_of_row w g _ cur T (0, 0) h1, ← Array.getElem?_toList]
    exact this
/-- Another element takes the next place. -/
theorem MidT.store {w : World} {B g off cap m : Nat} {a b : List α} {x : α} (h : MidT F T w B g off cap a m (x :: b)) (y : α) (hy : F.ok y) : MidT F T (w.setCells g (off + a.length * F.sz) (F.enc y)) B g off cap (a ++ [y]) (m + 1) b := by
  have hs := h.skip
  obtain ⟨cur, h1, h2, h3, h4⟩ := hs.ex
  have hle := h.le
  have hfit := h.fit
  have hm1 : a.length * F.sz + F.sz ≤ (m + 1) * F.sz := by
    have : (a.length + 1) * F.sz ≤ (m + 1) * F.sz := Nat.mul_le_mul_right _ (by omega)
    rw [Nat.add_mul, Nat.one_mul] at this
    exact this
  have hm2 : (m + 1) * F.sz ≤ cap * F.sz := Nat.mul_le_mul_right _ (by simp at hfit; omega)
  have ey : F.enc y = [y].flatMap F.enc := by simp
  refine ⟨h.base, by rw [List.length_append]; simp; omega, hs.fit, ⟨_, setCells_blk _ _ _ _ h1, by rw [List.size_toArray, setAll_len, Array.length_toList]; exact h2, ?_, ?_⟩, fun z hz => ?_, hs.okb⟩
  · simp only
    refine (h3.out _ (Or.inl (Nat.le_refl _))).two ?_
    rw [ey]
    exact HasR.put [y] (by rw [Array.length_toList (xs := cur), List.length_singleton, Nat.one_mul]; omega)
  · simp only
    exact h4.out _ (Or.inr (by rw [F.len]; omega))
  · rcases List.mem_append.1 hz with k | k
    · exact h.oka z k
    · rw [List.mem_singleton.1 k]; exact hy
end
end Go.Proofs.Ytcnmknhjmflinaa
