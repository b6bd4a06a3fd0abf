/- What was read so far, and the middle of a round of WireCanon. -/
import Derived.Test.YtfpkpgfdmidjfaaWU
import Derived.Test.YtfpkpgfdmidjfaaWS
set_option linter.unusedVariables false
namespace Go.Proofs.Ytfpkpgfdmidjfaa
open Go.RowKit

/-- A field that was read, and where its list lies. -/
structure CellF where
  d : FieldD
  A : Option Addr
  c : Nat
def cellsF (q : CellF) : List Value := [.int .i64 q.d.kind, .int .i64 q.d.num, .string q.d.str, .slice q.A q.d.lst.length q.c]
def flatF (qs : List CellF) : List Value := qs.flatMap cellsF
def dsOf (qs : List CellF) : List FieldD := qs.map (·.d)
theorem flat_len (qs : List CellF) : (flatF qs).length = qs.length * 4 := by
  induction qs with
  | nil => rfl
  | cons q qs ih => unfold flatF at *; rw [List.flatMap_cons, List.length_append, ih, List.length_cons]; simp [cellsF]; omega
theorem flat_get (qs : List CellF) : ∀ (i j : Nat) (hi : i < qs.length), j < 4 → (flatF qs)[i * 4 + j]? = (cellsF qs[i])[j]? := by
  induction qs with
  | nil => intro i j hi; simp at hi
  | cons q qs ih =>
    intro i j hi hj
    unfold flatF
    rw [List.flatMap_cons]
    have hl : (cellsF q).length = 4 := rfl
    cases i with
    | zero =>
      rw [List.getElem?_append_left (by omega)]
      simp
    | succ i =>
      rw [List.getElem?_append_right (by omega), show (i + 1) * 4 + j - (cellsF q).length = i * 4 + j by omega]
      have := ih i j (by simpa using hi) hj
      unfold flatF at this
      rw [this]; simp
theorem flat_snoc (qs : List CellF) (q : CellF) : flatF qs ++ cellsF q = flatF (qs ++ [q]) := by unfold flatF; rw [List.flatMap_append]; simp

/-- The list lies in a row of numbers of the call's own. -/
def OwnI (w : World) (q : CellF) : Prop := w.ownsRow 0 3 1 (.slice q.A q.d.lst.length q.c) q.d.lst.length (i64s q.d.lst)
theorem own_block {w : World} {base n size : Nat} {T : TypeId} {v : Value} {xs : List Value} {g : Nat} (h : w.ownsRow base T size v n xs) (hg : v.ownBlock = some g) : ∃ cur, w.heap[g]? = some (.cells cur T (0, 0)) := by
  rcases h.2 with ⟨rfl, _⟩ | ⟨g', cap, cur, rfl, _, hh, _⟩
  · simp [Value.ownBlock] at hg
  · have : g' = g := by simpa [Value.ownBlock] using hg
    subst this
    exact ⟨cur, hh⟩
theorem own_apart {w : World} {base n size g : Nat} {T T' : TypeId} {v : Value} {xs : List Value} {cs : Array Value} (h : w.ownsRow base T size v n xs) (hg : w.heap[g]? = some (.cells cs T' (0, 0))) (hne : T ≠ T') : v.ownBlock ≠ some g := by
  intro he
  obtain ⟨cur, hc⟩ := own_block h he
  rw [hc] at hg
  injection hg with hg
  injection hg with _ ht
  exact hne ht
theorem owns_apart {w : World} {b1 b2 n1 n2 s1 s2 : Nat} {T T' : TypeId} {v1 v2 : Value} {xs ys : List Value} (h : w.ownsRow b1 T s1 v1 n1 xs) (k : w.ownsRow b2 T' s2 v2 n2 ys) (hne : T ≠ T') : v1.ownBlock = none ∨ v1.ownBlock ≠ v2.ownBlock := by
  rcases hob : v2.ownBlock with _ | g
  · rcases hob1 : v1.ownBlock with _ | g1
    · exact Or.inl rfl
    · exact Or.inr (by simp)
  · obtain ⟨cur, hc⟩ := own_block k hob
    exact Or.inr (own_apart h hc hne)

theorem own_base {w : World} {base b' n size : Nat} {T : TypeId} {v : Value} {xs : List Value} (h : w.ownsRow base T size v n xs) (hb : b' ≤ base) : w.ownsRow b' T size v n xs := by
  refine ⟨h.1, ?_⟩
  rcases h.2 with h0 | ⟨g, cap, cur, e, hg, rest⟩
  · exact Or.inl h0
  · exact Or.inr ⟨g, cap, cur, e, by omega, rest⟩

/-- What was read so far. -/
def QSok (w : World) (qs : List CellF) : Prop := ∀ q ∈ qs, OwnI w q ∧ okF 500 q.d = true ∧ I64 q.d.kind ∧ I64 q.d.num ∧ ∀ m ∈ q.d.lst, I64 m
theorem QSok.kept {w w' : World} {qs : List CellF} {r : Option Nat} (h : QSok w qs) (hg : w.grownBy w' r) (hne : ∀ q ∈ qs, (Value.slice q.A q.d.lst.length q.c).ownBlock = none ∨ (Value.slice q.A q.d.lst.length q.c).ownBlock ≠ r) : QSok w' qs := by
  intro q hq
  obtain ⟨h1, h2⟩ := h q hq
  exact ⟨h1.kept hg (hne q hq), h2⟩
theorem ne_none {o : Option Nat} : o = none ∨ o ≠ none := by cases o <;> simp

/-- The middle of a round: block x is the field that is being read. -/
structure St (B : Nat) (w : World) (b : Nat) (t : ByteArray) (e : Int) (qs : List CellF) (v : Value) (x : Nat) (q : CellF) (W : World) : Prop where
  pp : PB W b t e true
  oo : W.ownsRow B 44 4 v qs.length (flatF qs)
  ss : QSok W qs
  blw : Below B w W
  xx : XB W x q.d.kind q.d.num q.d.str (.slice q.A q.d.lst.length q.c)
  li : OwnI W q
  hw : B ≤ w.heap.size
  nb : B ≤ b
  nx : B ≤ x
  xne : x ≠ b
  vx : ∀ g, v.ownBlock = some g → g < x

section
variable {B : Nat} {w : World} {b : Nat} {t t' : ByteArray} {e e' : Int} {qs : List CellF} {v : Value} {x : Nat} {q : CellF} {W W' : World}
theorem St.hB (h : St B w b t e qs v x q W) : B ≤ W.heap.size := Nat.le_trans h.hw h.blw.size
theorem St.start {wr : World} (kd : Int) (hp : PB wr b t e true) (ho : wr.ownsRow B 44 4 v qs.length (flatF qs)) (hs : QSok wr qs) (hb : Below B w wr) (hw : B ≤ w.heap.size) (nb : B ≤ b) :
    St B w b t e qs v wr.heap.size ⟨⟨kd, 0, ByteArray.empty, []⟩, none, 0⟩ (wr.alloc (Obj.cells #[Value.int .i64 kd, Value.int .i64 0, Value.string { data := #[] }, Value.slice none 0 0] 44)) := by
  have g := World.grownBy_alloc wr (Obj.cells #[Value.int .i64 kd, Value.int .i64 0, Value.string { data := #[] }, Value.slice none 0 0] 44) none
  have hsz := hb.size
  exact ⟨hp.kept g (by simp), ho.alloc _, hs.kept g fun _ _ => ne_none, hb.grown g (by omega) (fun k hk => by cases hk), heap_alloc_new wr _, World.ownsRow_nil _ _ _ _, hw, nb, by omega, by have := hp.lt; omega, fun g hg => (ho.lt g hg).2⟩
theorem St.call (h : St B w b t e qs v x q W) (hg : W.grownBy W' (some b)) (hp : PB W' b t' e' true) : St B w b t' e' qs v x q W' := by
  have nr : ∀ q, OwnI W q → (Value.slice q.A q.d.lst.length q.c).ownBlock = none ∨ (Value.slice q.A q.d.lst.length q.c).ownBlock ≠ some b := fun q hq => Or.inr (own_apart hq h.pp (by decide))
  exact ⟨hp, h.oo.kept hg (Or.inr (own_apart h.oo h.pp (by decide))), h.ss.kept hg fun q hq => nr q (h.ss q hq).1, below_gb h.blw hg h.hB h.nb, h.xx.kept hg (fun he => h.xne (Option.some.inj he)), h.li.kept hg (nr q h.li), h.hw, h.nb, h.nx, h.xne, h.vx⟩
theorem St.set_ (h : St B w b t e qs v x q W) (i : Nat) (u : Value) (q' : CellF) (hx : XB (W.setCell ⟨x, i, none⟩ u) x q'.d.kind q'.d.num q'.d.str (.slice q'.A q'.d.lst.length q'.c)) (hl : OwnI W q') :
    St B w b t e qs v x q' (W.setCell ⟨x, i, none⟩ u) := by
  have hg := gb_set W x i u
  have nr : ∀ q, OwnI W q → (Value.slice q.A q.d.lst.length q.c).ownBlock = none ∨ (Value.slice q.A q.d.lst.length q.c).ownBlock ≠ some x := fun q hq => Or.inr (own_apart hq h.xx (by decide))
  exact ⟨h.pp.kept hg (fun he => h.xne (Option.some.inj he).symm), h.oo.kept hg (Or.inr fun he => by have := h.vx x he; omega), h.ss.kept hg fun q hq => nr q (h.ss q hq).1, below_gb h.blw hg h.hB h.nx, hx, hl.kept hg (nr q' hl), h.hw, h.nb, h.nx, h.xne, h.vx⟩
theorem St.fin {T : TypeId} {cs : Array Value} {v' : Value} {w4 : World} (h : St B w b t e qs v x q W) (hok : okF 500 q.d = true ∧ I64 q.d.kind ∧ I64 q.d.num ∧ ∀ m ∈ q.d.lst, I64 m)
    (hown : w4.ownsRow B 44 4 v' (qs.length + 1) (flatF qs ++ cellsF q)) (hgrow : (W.alloc (Obj.cells cs T)).grownBy w4 v.ownBlock) :
    PB w4 b t e true ∧ w4.ownsRow B 44 4 v' (qs ++ [q]).length (flatF (qs ++ [q])) ∧ QSok w4 (qs ++ [q]) ∧ Below B w w4 := by
  have g := World.grownBy_alloc W (Obj.cells cs T) none
  have hz : W.heap.size ≤ (W.alloc (Obj.cells cs T)).heap.size := g.size
  have hp := h.pp.kept g (by simp)
  have ho := h.oo.alloc (Obj.cells cs T)
  have hs := h.ss.kept g fun _ _ => ne_none
  have hl : OwnI (W.alloc (Obj.cells cs T)) q := h.li.alloc (Obj.cells cs T)
  have hb := h.blw.grown g h.hB (fun k hk => by cases hk)
  have nv : ∀ k, v.ownBlock = some k → B ≤ k := fun k hk => (h.oo.lt k hk).1
  refine ⟨hp.kept hgrow ?_, by rw [← flat_snoc, List.length_append]; exact hown, ?_, hb.grown hgrow (Nat.le_trans h.hB hz) nv⟩
  · intro he
    exact own_apart h.oo h.pp (by decide) he.symm
  · intro q1 hq1
    rcases List.mem_append.1 hq1 with hq1 | hq1
    · obtain ⟨k1, k2⟩ := hs q1 hq1
      exact ⟨k1.kept hgrow (owns_apart k1 ho (by decide)), k2⟩
    · obtain rfl : q1 = q := by simpa using hq1
      exact ⟨hl.kept hgrow (owns_apart hl ho (by decide)), hok⟩
end

/-- What there was is what was read, and what is left. -/
def Can (s : ByteArray) (qs : List CellF) (t : ByteArray) (e : Int) : Prop := e = 0 → t.size ≤ 100000 ∧ s.data.toList = enFs (dsOf qs) ++ t.data.toList
theorem can_step {s t t' : ByteArray} {e e' : Int} {qs : List CellF} {q : CellF} (h : Can s qs t e) (hn : Nxt t e t' e') (hc : e = 0 → e' = 0 → t.data.toList = enF q.d ++ t'.data.toList) : Can s (qs ++ [q]) t' e' := by
  intro he'
  have he : e = 0 := by
    by_cases he : e = 0
    · exact he
    · have := hn.1 he; omega
  obtain ⟨h1, h2⟩ := h he
  have h3 := hn.2 he
  refine ⟨by omega, ?_⟩
  rw [h2, hc he he']
  unfold dsOf enFs
  rw [List.map_append, List.flatMap_append, List.append_assoc]
  simp
theorem can_size {s t : ByteArray} {e : Int} {qs : List CellF} (h : Can s qs t e) : e = 0 → t.size ≤ 100000 := fun he => (h he).1

theorem hInt_i64 (t : ByteArray) (e : Int) (hs : e = 0 → t.size ≤ 100000) : I64 (hInt t e).1 := by
  unfold hInt; split
  · exact fInt_64 t (hs (by assumption))
  · unfold I64; omega
theorem hInt_can (t : ByteArray) (e : Int) (hs : e = 0 → t.size ≤ 100000) (he : e = 0) (h : (hInt t e).2.2 = 0) : t.data.toList = enI (hInt t e).1 ++ (hInt t e).2.1.data.toList := by
  unfold hInt at *; rw [if_pos he] at *
  exact (fInt_canon t _ _ (hs he) (by rw [← h])).2
theorem hText_can (m : Int) (t : ByteArray) (e : Int) (hs : e = 0 → t.size ≤ 100000) (he : e = 0) (h : (hText m t e).2.2 = 0) : t.data.toList = enT (hText m t e).1 ++ (hText m t e).2.1.data.toList := by
  unfold hText at *; rw [if_pos he] at *
  exact (fText_canon m t _ _ (hs he) (by rw [← h])).2
theorem hText_small (t : ByteArray) (e : Int) (hs : e = 0 → t.size ≤ 100000) : (hText 200 t e).1.size ≤ 200 := by
  by_cases h : (hText 200 t e).2.2 = 0
  · by_cases he : e = 0
    · unfold hText at *; rw [if_pos he] at *
      have := (fText_canon 200 t _ _ (hs he) (by rw [← h])).1
      omega
    · unfold hText at *; rw [if_neg he] at *; exact absurd h he
  · rw [hText_zero 200 t e h]; decide
theorem hBool_can (t : ByteArray) (e : Int) (he : e = 0) (h : (hBool t e).2.2 = 0) : t.data.toList = enB (hBool t e).1 ++ (hBool t e).2.1.data.toList := by
  unfold hBool at *; rw [if_pos he] at *
  exact fBool_canon _ t _ (by rw [← h])
theorem hInts_can (m : Int) (t : ByteArray) (e : Int) (hs : e = 0 → t.size ≤ 100000) (he : e = 0) (h : (hInts m t e).2.2 = 0) : t.data.toList = enL (hInts m t e).1 ++ (hInts m t e).2.1.data.toList := by
  unfold hInts at *; rw [if_pos he] at *
  exact (fInts_canon m t _ _ (hs he) (by rw [← h])).2.2
theorem hInts_small (t : ByteArray) (e : Int) (hs : e = 0 → t.size ≤ 100000) : (hInts 200 t e).1.length ≤ 200 ∧ ∀ m ∈ (hInts 200 t e).1, I64 m := by
  by_cases h : (hInts 200 t e).2.2 = 0
  · by_cases he : e = 0
    · unfold hInts at *; rw [if_pos he] at *
      have := fInts_canon 200 t _ _ (hs he) (by rw [← h])
      exact ⟨by omega, this.2.1⟩
    · unfold hInts at *; rw [if_neg he] at *; exact absurd h he
  · rw [hInts_zero 200 t e h]; exact ⟨by simp, fun _ h => absurd h List.not_mem_nil⟩
theorem okF_small (d : FieldD) (h1 : d.str.size ≤ 200) (h2 : d.lst.length ≤ 200) : okF 500 d = true := by
  unfold okF; rw [decide_eq_true (by omega), decide_eq_true (by omega)]; rfl

theorem info_field : (Try.prog.info? 44).map (fun i => (i.zero, i.size, i.bytes)) = some (some (.agg #[.int .i64 0, .int .i64 0, .string ByteArray.empty, .slice none 0 0]), 4, 56) := by kernel_rfl
theorem build_field (W : World) (a b c d : Value) :
    (Instr.buildSlice 40 1 #[(0, .agg #[a, b, c, d])]).run Try.prog W = .ok (.slice (some ⟨W.heap.size, 0, none⟩) 1 1) (W.alloc (Obj.cells #[a, b, c, d] 44)) := by
  have hs : (sizeOf 44).run Try.prog W = .ok 4 W := by kernel_rfl
  simp [Instr.buildSlice, go_sem, hs, Instr.fill]
theorem step_build {o : Oper} {a : Act} {K : Act → World → Prop} {Q : Exit → Act → World → Prop} {W : World} {q : Operand} (x y z u : Value)
    (ho : o.op = .buildSlice 40 1 #[(0, q)]) (hq : a.eval q = .agg #[x, y, z, u])
    (h : K (a.put o.dst (.slice (some ⟨W.heap.size, 0, none⟩) 1 1)) (W.alloc (Obj.cells #[x, y, z, u] 44))) : o.wp Try.prog a W K Q := by
  have hb := build_field W x y z u
  unfold Oper.wp execOp
  simp only [ho, Sem.run_bind, Sem.run_pure, Result.andThen_ok, List.map_toArray, List.map_cons, List.map_nil, hq, hb]
  exact h
/-- The cells of a new row of one field. -/
theorem four_cells (w : World) (a b c d : Value) (T : TypeId) : ∀ (j : Nat) (u : Value), [a, b, c, d][j]? = some u → (w.alloc (Obj.cells #[a, b, c, d] T)).cell? ({ block := w.heap.size, off := 0 : Addr }.add j) = some u := by
  intro j u h
  rw [add_off, World.cell?_alloc_new]
  match j, h with
  | 0, h => exact h
  | 1, h => exact h
  | 2, h => exact h
  | 3, h => exact h
  | (j + 4), h => simp at h


/-- The row of fields reads as the fields that were read. -/
theorem fields_of {w : World} {B c : Nat} {A : Option Addr} {qs : List CellF} (ho : w.ownsRow B 44 4 (.slice A qs.length c) qs.length (flatF qs)) (hq : QSok w qs) : FieldsAt w w.heap.size A (dsOf qs) := by
  intro i hi
  have hi' : i < qs.length := by simpa [dsOf] using hi
  rcases ho.2 with ⟨h0, h1⟩ | ⟨g, cap, cur, h0, hg, hh, rest⟩
  · omega
  · have hA : A = some ⟨g, 0, none⟩ := by simpa using (congrArg (fun v => match v with | Value.slice a _ _ => a | _ => none) h0)
    subst hA
    have hlt : g < w.heap.size := (Array.getElem?_eq_some_iff.1 hh).1
    have cell : ∀ j u, j < 4 → (cellsF qs[i])[j]? = some u → w.cell? ⟨g, 0 + i * 4 + j, none⟩ = some u := by
      intro j u hj hu
      have h1 := ho.cells (g := g) rfl (i * 4 + j) u (by rw [flat_get qs i j hi' hj]; exact hu)
      rw [add_off] at h1
      rw [Nat.add_assoc]; exact h1
    obtain ⟨k1, k2, k3, k4, k5⟩ := hq qs[i] (List.getElem_mem hi')
    have hd : (dsOf qs)[i] = qs[i].d := List.getElem_map (fun q : CellF => q.d)
    rw [hd]
    obtain ⟨o1, o2⟩ := okF_out k2
    refine ⟨g, 0, rfl, hlt, by simpa using cell 0 _ (by omega) rfl, cell 1 _ (by omega) rfl, cell 2 _ (by omega) rfl, ⟨qs[i].A, qs[i].c, cell 3 _ (by omega) rfl, ?_⟩, k3, k4, k5, by omega, by omega⟩
    obtain ⟨A', c', e', i'⟩ := own_ints k1 rfl
    have : qs[i].A = A' := by simpa using (congrArg (fun v => match v with | Value.slice a _ _ => a | _ => none) e')
    rw [this]; exact i'
end Go.Proofs.Ytfpkpgfdmidjfaa
