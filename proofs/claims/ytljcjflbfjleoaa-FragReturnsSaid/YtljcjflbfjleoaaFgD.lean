/- The reference's Order. -/
import Derived.Test.YtljcjflbfjleoaaFgC
set_option linter.unusedVariables false
namespace Go.Proofs.Ytljcjflbfjleoaa.Frg
open Go.RowKit

/-- Entries of the call's own are handed back. -/
def OwnR (w : World) (x : List Pt) (e : Ending) (w' : World) : Prop := ∃ A c ys, e = .returned (.slice A (List.length ys) c) ∧ OwnP w' w.heap.size A c ys ∧ xs ys = x ∧ Below w.heap.size w w'
/-- The first k entries, brought into order. -/
def oU (l : List Hp) (k : Nat) : List Pt := (xs (l.take k)).foldl ord1 []
theorem oU_next (l : List Hp) (k : Nat) (h : k < l.length) : oU l (k + 1) = ord1 (oU l k) l[k].x := by
  unfold oU xs
  rw [List.take_succ_eq_append_getElem h, List.map_append, List.foldl_append]
  rfl
theorem oU_len (l : List Hp) : ∀ k, k ≤ l.length → (oU l k).length ≤ k
  | 0, _ => Nat.le_refl _
  | k + 1, h => by
    have ih := oU_len l k (by omega)
    rw [oU_next l k (by omega)]
    unfold ord1
    split
    · rw [List.length_append]; simp; omega
    · omega
theorem xs_drop (l : List Hp) (k : Nat) : xs (l.drop k) = (xs l).drop k := by unfold xs; rw [List.map_drop]
theorem fnI_neg (l : List Pt) (s i : Int) : fnI l s i < 0 ↔ has l s i = false := by
  unfold fnI
  constructor
  · intro h
    cases e : has l s i with
    | false => rfl
    | true => rw [if_pos (fi_has.1 e)] at h; omega
  · intro h
    rw [if_neg (by rw [fi_none h]; exact Nat.lt_irrefl _)]
    omega
theorem utP : Try.prog.underlying 31 = some (.slice (Try.prog.elem 31)) := by kernel_rfl
theorem szP (W : World) : (sizeOf (Try.prog.elem 31)).run Try.prog W = .ok fP.sz W := by show _ = Result.ok 6 W; kernel_rfl
theorem wpList_slice_run3 {P : Program} (w : World) {ops : Array Oper} {rest : List Oper} {o : Oper} {a : Act} {Q : Exit → Act → World → Prop} (hg : o.guard = none) (x : Operand) (lo hi mx : Option Operand) (t : TypeId) (hop : o.op = Op.slice t x lo hi mx)
    (vx v : Value) (vlo vhi vmx : Option Value) (hx : a.eval x = vx) (hlo : lo.map a.eval = vlo) (hhi : hi.map a.eval = vhi) (hmx : mx.map a.eval = vmx) (hr : (Instr.sliceAt t vx vlo vhi vmx).run P w = .ok v w) (h : wpList P ops Q rest (a.put o.dst v) w) : wpList P ops Q (o :: rest) a w := by
  refine wpList_plain hg fun K hK => ?_
  unfold Oper.wp
  simp [execOp, hop, hx, hlo, hhi, hmx, hr, Result.andThen]
  exact hK _ _ h
theorem OwnP.push {w w' : World} {B : Nat} {ys : List Hp} {y : Hp} (hn : ∀ x ∈ ys, OwnN w B x) (ha : ys.Pairwise fun a b => a.hA ≠ b.hA ∧ a.dA ≠ b.dA) (hb : Below w.heap.size w w') (hy : OwnN w' w.heap.size y) (hB : B ≤ w.heap.size) :
    (∀ x ∈ ys ++ [y], OwnN w' B x) ∧ (ys ++ [y]).Pairwise fun a b => a.hA ≠ b.hA ∧ a.dA ≠ b.dA := by
  refine ⟨fun x hx => ?_, ?_⟩
  · rcases List.mem_append.1 hx with hx | hx
    · exact (hn x hx).below hb
    · rw [List.mem_singleton.1 hx]; exact hy.down hB
  · rw [List.pairwise_append]
    refine ⟨ha, List.pairwise_singleton _ _, fun x hx z hz => ?_⟩
    rw [List.mem_singleton.1 hz]
    exact (hn x hx).apart hy (Nat.le_refl _)

/-- A row of entries grows: the entries' own rows stay. -/
theorem OwnF.ne_row {α : Type} {F : Flat α} {T : TypeId} {w : World} {B : Nat} {A : Option Addr} {n c : Nat} {l : List α} (h : OwnF F T w B (.slice A n c) l) (hA : A ≠ none) (hT : T ≠ 44) {r : Option Nat} (hr : ∀ g, r = some g → ∃ cur fz, w.heap[g]? = some (.cells cur 44 fz)) :
    Value.ownBlock (.slice A n c) = none ∨ Value.ownBlock (.slice A n c) ≠ r := by
  obtain ⟨g, cur, rfl, _, e2⟩ := own_blk h hA
  refine Or.inr fun q => ?_
  obtain ⟨cur', fz, e3⟩ := hr g q.symm
  rw [e2] at e3
  simp only [Option.some.injEq, Obj.cells.injEq] at e3
  exact hT e3.2.1
theorem OwnN.kept {w w' : World} {B : Nat} {y : Hp} (h : OwnN w B y) {r : Option Nat} (hg : w.grownBy w' r) (hr : ∀ g, r = some g → ∃ cur fz, w.heap[g]? = some (.cells cur 44 fz)) : OwnN w' B y :=
  ⟨OwnF.kept h.bo hg (OwnF.ne_row h.bo h.nb (by decide) hr), OwnF.kept h.st hg (OwnF.ne_row h.st h.ns (by decide) hr), h.nb, h.ns⟩
theorem row_ty {w : World} {B : Nat} {v : Value} {l : List Hp} (h : OwnF fP 44 w B v l) : ∀ g, v.ownBlock = some g → ∃ cur fz, w.heap[g]? = some (.cells cur 44 fz) := by
  intro g hg
  rcases h.1.2 with ⟨h1, _⟩ | ⟨g', cap, cur, h1, _, h3, _⟩
  · subst h1; cases hg
  · subst h1
    simp only [Value.ownBlock, Option.some.injEq] at hg
    subst hg
    exact ⟨cur, _, h3⟩
/-- One entry more, out of a new block. -/
theorem one_p {w : World} {B : Nat} {v : Value} {a : List Hp} (x : Hp) (hok : PtOk x.x) (hv : OwnF fP 44 w B v a) (hn : a.length ≤ 10000000) (hB : B ≤ w.heap.size) :
    ∃ v' w', (Builtin.append_ #[31, 31] 31 #[v, .slice (some ⟨w.heap.size, 0, none⟩) 1 1]).run Try.prog (w.alloc (bxP x)) = .ok v' w' ∧ OwnF fP 44 w' B v' (a ++ [x]) ∧ Below B w w' ∧ ∀ (B' : Nat) (y : Hp), OwnN w B' y → OwnN w' B' y := by
  have hv1 := hv.alloc (bxP x)
  obtain ⟨v', w', h1, h2, h3, _, h5⟩ := hv1.app eP (c := 1) 31 (FlAt.lit (F := fP) w [x] #[.int .i64 x.x.s, .int .i64 x.x.i, .int .i64 x.x.c, .int .i64 x.x.t, .slice x.hA x.x.h.length x.hc, .slice x.dA x.x.d.length x.dc] 44 (by unfold maxLen; simp) rfl (fun z hz => by rw [List.mem_singleton.1 hz]; exact hok)) (by simp; omega) (Nat.le_trans hB (by simp))
  exact ⟨v', w', h1, h2, ((Below.refl B w).alloc hB _).trans h3, fun B' y hy => (hy.below (alloc_below w _)).kept h5 (row_ty hv1)⟩

set_option maxRecDepth 100000 in
set_option maxHeartbeats 4000000 in
theorem rorder_any (A : Option Addr) (c : Nat) (l : List Hp) (w : World) (hl : l.length ≤ 1000) (hm : ∀ y ∈ l, y.x.h.length ≤ 9223372036854775807 ∧ y.x.d.length ≤ 9223372036854775807) (hA : PsS w A c l) :
    Calls Try.prog 38 #[.slice A l.length c] w (OwnR w (ord (xs l))) := by
  have HA := Lib.hid hA
  have HM := Lib.hid hm
  have GN := Lib.hid (fun (k : Nat) (h : k < l.length) => oU_next l k h)
  have GL := Lib.hid (fun (k : Nat) (h : k ≤ l.length) => oU_len l k h)
  have GE := Lib.hid (show last8 (oU l l.length) = ord (xs l) by unfold oU; rw [List.take_length]; rfl)
  have G0 := Lib.hid (show oU l 0 = [] from rfl)
  clear hA hm
  generalize ord (xs l) = F at *
  generalize oU l = G at *
  go_enter Try.func38, Try.ntmps38
  go_wp2_with fail
  go_loopw [3, 7] (fun vo vk wr => ∃ (k : Nat) (A1 : Option Addr) (c1 : Nat) (ys : List Hp), vk = .int .i64 k ∧ k ≤ l.length ∧ vo = .slice A1 ys.length c1 ∧ Hid (OwnF fP 44 wr w.heap.size (.slice A1 ys.length c1) ys) ∧ Hid (∀ y ∈ ys, OwnN wr w.heap.size y) ∧ Hid (ys.Pairwise fun a b => a.hA ≠ b.hA ∧ a.dA ≠ b.dA) ∧ Hid (xs ys = G k) ∧ Below w.heap.size w wr) (fun _ vk _ => l.length - (intOf vk).toNat)
  case atStart => exact ⟨0, none, 0, [], rfl, by omega, rfl, Lib.hid (OwnF.nil _ _), Lib.hid (fun y hy => by cases hy), Lib.hid List.Pairwise.nil, Lib.hid (by rw [G0.out]; rfl), Below.refl _ _⟩
  case round =>
    obtain ⟨k, A1, c1, ys, rfl, hk, rfl, O, N, P, Q, hb⟩ := hrel
    have B := Lib.hid hb
    have yl : ys.length ≤ k := by have := GL.out k hk; have q := congrArg List.length Q.out; simp at q; omega
    by_cases hlt : k < l.length
    · obtain ⟨b, p, rfl, hbl, hc, hok, hn⟩ := ps_cell (HA.out.next hb) k hlt
      have bd := below_drewN (Below.refl wr.heap.size wr) 1
      have HMk := HM.out _ (List.getElem_mem hlt)
      have KV := Lib.hid (rvalid_any l[k] wr.drew HMk (hn.next bd))
      have NX := Lib.hid (hn.next bd)
      have c0 := hc.below bd hbl
      have GK := Lib.hid (GN.out k hlt)
      have O1 := Lib.hid (show OwnF fP 44 wr.drew w.heap.size (.slice A1 ys.length c1) ys from O.out.below bd)
      have N1 := Lib.hid (show ∀ y ∈ ys, OwnN wr.drew w.heap.size y from fun y hy => (N.out y hy).below bd)
      have B1 := Lib.hid (show Below w.heap.size w wr.drew from below_drewN B.out 1)
      unfold OutB at KV
      clear hb hc hn bd O N B GN GL GE G0 HA HM
      have q0 : (k : Int) < (l.length : Int) := by omega
      have q1 : (0 : Int) ≤ (k : Int) := by omega
      obtain ⟨x, hx⟩ : ∃ x, l[k] = x := ⟨_, rfl⟩
      rw [hx] at KV NX c0 GK hok
      simp only [hx] at HMk
      clear hx
      obtain ⟨⟨s, i, c2, t, h, d⟩, a1, a2, a3, a4⟩ := x
      unfold HpC at c0
      simp only at c0 GK KV HMk
      by_cases hv : Valid ⟨s, i, c2, t, h, d⟩
      rotate_left
      · have GK := Lib.hid (GK.out.trans (show ord1 (G k) ⟨s, i, c2, t, h, d⟩ = G k from if_neg fun q => hv q.1))
        rw [decide_eq_false hv] at KV
        clear hv
        go_wp2_with fail
        refine wp_region_held_drew (S := (fun wy : World => wy.cell? ⟨b, p + k * 6, none⟩ = some (.int .i64 s) ∧ wy.cell? ⟨b, p + k * 6 + 1, none⟩ = some (.int .i64 i) ∧ wy.cell? ⟨b, p + k * 6 + 2, none⟩ = some (.int .i64 c2) ∧ wy.cell? ⟨b, p + k * 6 + 3, none⟩ = some (.int .i64 t) ∧ wy.cell? ⟨b, p + k * 6 + 4, none⟩ = some (.slice a1 h.length a2) ∧ wy.cell? ⟨b, p + k * 6 + 5, none⟩ = some (.slice a3 d.length a4))) (by kernel_rfl) (c0) (fun hHeld => ?_)
        refine wpAnyH_take (i := 0) (v := (.slice (some ⟨b, p, none⟩) l.length c)) at_zero (by kernel_rfl) (by kernel_rfl) (by kernel_rfl) (fun _ _ _ h => h) (Or.inl ⟨by kernel_rfl, fun wy hSw => ?_⟩) (by assumption) ?_
        · (try dsimp only at hSw); go_simp
        try simp only [Act.put, List.setIfInBounds_toArray, List.set_cons_zero, List.set_cons_succ]
        refine wpAnyH_take (i := 1) (v := (.int .i64 (k : Int))) (at_succ at_zero) (by kernel_rfl) (by kernel_rfl) (by kernel_rfl) (fun _ _ _ h => h) (Or.inl ⟨by kernel_rfl, fun wy hSw => ?_⟩) (by assumption) ?_
        · (try dsimp only at hSw); go_simp
        try simp only [Act.put, List.setIfInBounds_toArray, List.set_cons_zero, List.set_cons_succ]
        refine wpAnyH_take (i := 2) (v := (.pointer (some ⟨b, p + k * 6, none⟩))) (at_succ (at_succ at_zero)) (by kernel_rfl) (by kernel_rfl) (by kernel_rfl) (fun _ _ _ h => h) (Or.inl ⟨by kernel_rfl, fun wy hSw => ?_⟩) (by assumption) ?_
        · (try dsimp only at hSw); go_simp
        try simp only [Act.put, List.setIfInBounds_toArray, List.set_cons_zero, List.set_cons_succ]
        refine wpAnyH_take (i := 3) (v := (.agg #[.int .i64 s, .int .i64 i, .int .i64 c2, .int .i64 t, .slice a1 h.length a2, .slice a3 d.length a4])) (at_succ (at_succ (at_succ at_zero))) (by kernel_rfl) (by kernel_rfl) (by kernel_rfl) (fun _ _ _ h => h) (Or.inl ⟨by kernel_rfl, fun wy hSw => ?_⟩) (by assumption) ?_
        · (try dsimp only at hSw); obtain ⟨u0, u1, u2, u3, u4, u5⟩ := hSw; go_simp
        try simp only [Act.put, List.setIfInBounds_toArray, List.set_cons_zero, List.set_cons_succ]
        refine wpAnyH_ready (rs := [4]) (by kernel_rfl) (by simp) ?_
        refine AllReadyH.cons (at_succ (at_succ (at_succ (at_succ at_zero)))) (fun K hK => ?_) AllReadyH.nil
        rw [if_pos (by kernel_rfl)]
        go_simp
        refine KV.out.mono ?_
        rintro _ w5 ⟨rfl, hb⟩
        have c5 := (show HpC wr.drew b (p + k * 6) ⟨⟨s, i, c2, t, h, d⟩, a1, a2, a3, a4⟩ from c0).below hb hbl
        have O5 := Lib.hid (O1.out.below hb)
        have N5 := Lib.hid (fun y hy => (N1.out y hy).below hb)
        have B5 := Lib.hid (B1.out.trans (hb.mono B1.out.size))
        have hbl5 := Nat.lt_of_lt_of_le hbl hb.size
        have NX5 := Lib.hid (NX.out.next hb)
        unfold HpC at c5
        simp only at c5
        clear hb hHeld
        go_wp2_with fail
        refine hK.out _ _ (c5) (fun hHeld => ?_)
        clear hK K
        try simp only [Act.put, List.setIfInBounds_toArray, List.set_cons_zero, List.set_cons_succ]
        refine wpAnyH_take (i := 5) (v := (.bool false)) (at_succ (at_succ (at_succ (at_succ (at_succ at_zero))))) (by kernel_rfl) (by kernel_rfl) (by kernel_rfl) (fun _ _ _ h => h) (Or.inl ⟨by kernel_rfl, fun wy hSw => ?_⟩) (by assumption) ?_
        · (try dsimp only at hSw); go_simp
        try simp only [Act.put, List.setIfInBounds_toArray, List.set_cons_zero, List.set_cons_succ]
        refine wpAnyH_take (i := 6) (v := undef) (at_succ (at_succ (at_succ (at_succ (at_succ (at_succ at_zero)))))) (by kernel_rfl) (by kernel_rfl) (by kernel_rfl) (fun _ _ _ h => h) (Or.inr ⟨by kernel_rfl, rfl⟩) (by assumption) ?_
        try simp only [Act.put, List.setIfInBounds_toArray, List.set_cons_zero, List.set_cons_succ]
        refine wpAnyH_take (i := 7) (v := undef) (at_succ (at_succ (at_succ (at_succ (at_succ (at_succ (at_succ at_zero))))))) (by kernel_rfl) (by kernel_rfl) (by kernel_rfl) (fun _ _ _ h => h) (Or.inr ⟨by kernel_rfl, rfl⟩) (by assumption) ?_
        try simp only [Act.put, List.setIfInBounds_toArray, List.set_cons_zero, List.set_cons_succ]
        refine wpAnyH_take (i := 8) (v := undef) (at_succ (at_succ (at_succ (at_succ (at_succ (at_succ (at_succ (at_succ at_zero)))))))) (by kernel_rfl) (by kernel_rfl) (by kernel_rfl) (fun _ _ _ h => h) (Or.inr ⟨by kernel_rfl, rfl⟩) (by assumption) ?_
        try simp only [Act.put, List.setIfInBounds_toArray, List.set_cons_zero, List.set_cons_succ]
        refine wpAnyH_take (i := 9) (v := undef) (at_succ (at_succ (at_succ (at_succ (at_succ (at_succ (at_succ (at_succ (at_succ at_zero))))))))) (by kernel_rfl) (by kernel_rfl) (by kernel_rfl) (fun _ _ _ h => h) (Or.inr ⟨by kernel_rfl, rfl⟩) (by assumption) ?_
        try simp only [Act.put, List.setIfInBounds_toArray, List.set_cons_zero, List.set_cons_succ]
        refine wpAnyH_take (i := 10) (v := undef) (at_succ (at_succ (at_succ (at_succ (at_succ (at_succ (at_succ (at_succ (at_succ (at_succ at_zero)))))))))) (by kernel_rfl) (by kernel_rfl) (by kernel_rfl) (fun _ _ _ h => h) (Or.inr ⟨by kernel_rfl, rfl⟩) (by assumption) ?_
        try simp only [Act.put, List.setIfInBounds_toArray, List.set_cons_zero, List.set_cons_succ]
        refine wpAnyH_take (i := 11) (v := undef) (at_succ (at_succ (at_succ (at_succ (at_succ (at_succ (at_succ (at_succ (at_succ (at_succ (at_succ at_zero))))))))))) (by kernel_rfl) (by kernel_rfl) (by kernel_rfl) (fun _ _ _ h => h) (Or.inr ⟨by kernel_rfl, rfl⟩) (by assumption) ?_
        try simp only [Act.put, List.setIfInBounds_toArray, List.set_cons_zero, List.set_cons_succ]
        refine wpAnyH_take (i := 12) (v := undef) (at_succ (at_succ (at_succ (at_succ (at_succ (at_succ (at_succ (at_succ (at_succ (at_succ (at_succ (at_succ at_zero)))))))))))) (by kernel_rfl) (by kernel_rfl) (by kernel_rfl) (fun _ _ _ h => h) (Or.inr ⟨by kernel_rfl, rfl⟩) (by assumption) ?_
        try simp only [Act.put, List.setIfInBounds_toArray, List.set_cons_zero, List.set_cons_succ]
        refine wpAnyH_take (i := 13) (v := undef) (at_succ (at_succ (at_succ (at_succ (at_succ (at_succ (at_succ (at_succ (at_succ (at_succ (at_succ (at_succ (at_succ at_zero))))))))))))) (by kernel_rfl) (by kernel_rfl) (by kernel_rfl) (fun _ _ _ h => h) (Or.inr ⟨by kernel_rfl, rfl⟩) (by assumption) ?_
        try simp only [Act.put, List.setIfInBounds_toArray, List.set_cons_zero, List.set_cons_succ]
        refine wpAnyH_take (i := 14) (v := undef) (at_succ (at_succ (at_succ (at_succ (at_succ (at_succ (at_succ (at_succ (at_succ (at_succ (at_succ (at_succ (at_succ (at_succ at_zero)))))))))))))) (by kernel_rfl) (by kernel_rfl) (by kernel_rfl) (fun _ _ _ h => h) (Or.inr ⟨by kernel_rfl, rfl⟩) (by assumption) ?_
        try simp only [Act.put, List.setIfInBounds_toArray, List.set_cons_zero, List.set_cons_succ]
        refine wpAnyH_take (i := 15) (v := undef) (at_succ (at_succ (at_succ (at_succ (at_succ (at_succ (at_succ (at_succ (at_succ (at_succ (at_succ (at_succ (at_succ (at_succ (at_succ at_zero))))))))))))))) (by kernel_rfl) (by kernel_rfl) (by kernel_rfl) (fun _ _ _ h => h) (Or.inr ⟨by kernel_rfl, rfl⟩) (by assumption) ?_
        try simp only [Act.put, List.setIfInBounds_toArray, List.set_cons_zero, List.set_cons_succ]
        refine wpAnyH_take (i := 16) (v := undef) (at_succ (at_succ (at_succ (at_succ (at_succ (at_succ (at_succ (at_succ (at_succ (at_succ (at_succ (at_succ (at_succ (at_succ (at_succ (at_succ at_zero)))))))))))))))) (by kernel_rfl) (by kernel_rfl) (by kernel_rfl) (fun _ _ _ h => h) (Or.inr ⟨by kernel_rfl, rfl⟩) (by assumption) ?_
        try simp only [Act.put, List.setIfInBounds_toArray, List.set_cons_zero, List.set_cons_succ]
        refine wpAnyH_take (i := 17) (v := undef) (at_succ (at_succ (at_succ (at_succ (at_succ (at_succ (at_succ (at_succ (at_succ (at_succ (at_succ (at_succ (at_succ (at_succ (at_succ (at_succ (at_succ at_zero))))))))))))))))) (by kernel_rfl) (by kernel_rfl) (by kernel_rfl) (fun _ _ _ h => h) (Or.inr ⟨by kernel_rfl, rfl⟩) (by assumption) ?_
        try simp only [Act.put, List.setIfInBounds_toArray, List.set_cons_zero, List.set_cons_succ]
        refine wpAnyH_take (i := 18) (v := undef) (at_succ (at_succ (at_succ (at_succ (at_succ (at_succ (at_succ (at_succ (at_succ (at_succ (at_succ (at_succ (at_succ (at_succ (at_succ (at_succ (at_succ (at_succ at_zero)))))))))))))))))) (by kernel_rfl) (by kernel_rfl) (by kernel_rfl) (fun _ _ _ h => h) (Or.inr ⟨by kernel_rfl, rfl⟩) (by assumption) ?_
        try simp only [Act.put, List.setIfInBounds_toArray, List.set_cons_zero, List.set_cons_succ]
        refine wpAnyH_take (i := 19) (v := (.bool false)) (at_succ (at_succ (at_succ (at_succ (at_succ (at_succ (at_succ (at_succ (at_succ (at_succ (at_succ (at_succ (at_succ (at_succ (at_succ (at_succ (at_succ (at_succ (at_succ at_zero))))))))))))))))))) (by kernel_rfl) (by kernel_rfl) (by kernel_rfl) (fun _ _ _ h => h) (Or.inl ⟨by kernel_rfl, fun wy hSw => ?_⟩) (by assumption) ?_
        · (try dsimp only at hSw); go_simp
        try simp only [Act.put, List.setIfInBounds_toArray, List.set_cons_zero, List.set_cons_succ]
        refine wpAnyH_done (by kernel_rfl) ?_ _
        go_wp2_with fail
        go_roundw
        case rel => exact ⟨k + 1, A1, c1, ys, by go_num, hlt, rfl, O5, N5, P, Lib.hid (by rw [GK.out]; exact Q.out), B5.out⟩
        case measure => simp [intOf]; omega
      rw [decide_eq_true hv] at KV
      by_cases hh : has (xs ys) s i = false
      rotate_left
      · have GK := Lib.hid (GK.out.trans (show ord1 (G k) ⟨s, i, c2, t, h, d⟩ = G k from if_neg fun q => hh (by rw [Q.out]; exact q.2)))
        have FI : decide (fnI (xs ys) s i < 0) = false := df (fun q => hh ((fnI_neg _ _ _).1 q))
        clear hv hh
        go_wp2_with fail
        refine wp_region_held_drew (S := (fun wy : World => wy.cell? ⟨b, p + k * 6, none⟩ = some (.int .i64 s) ∧ wy.cell? ⟨b, p + k * 6 + 1, none⟩ = some (.int .i64 i) ∧ wy.cell? ⟨b, p + k * 6 + 2, none⟩ = some (.int .i64 c2) ∧ wy.cell? ⟨b, p + k * 6 + 3, none⟩ = some (.int .i64 t) ∧ wy.cell? ⟨b, p + k * 6 + 4, none⟩ = some (.slice a1 h.length a2) ∧ wy.cell? ⟨b, p + k * 6 + 5, none⟩ = some (.slice a3 d.length a4))) (by kernel_rfl) (c0) (fun hHeld => ?_)
        refine wpAnyH_take (i := 0) (v := (.slice (some ⟨b, p, none⟩) l.length c)) at_zero (by kernel_rfl) (by kernel_rfl) (by kernel_rfl) (fun _ _ _ h => h) (Or.inl ⟨by kernel_rfl, fun wy hSw => ?_⟩) (by assumption) ?_
        · (try dsimp only at hSw); go_simp
        try simp only [Act.put, List.setIfInBounds_toArray, List.set_cons_zero, List.set_cons_succ]
        refine wpAnyH_take (i := 1) (v := (.int .i64 (k : Int))) (at_succ at_zero) (by kernel_rfl) (by kernel_rfl) (by kernel_rfl) (fun _ _ _ h => h) (Or.inl ⟨by kernel_rfl, fun wy hSw => ?_⟩) (by assumption) ?_
        · (try dsimp only at hSw); go_simp
        try simp only [Act.put, List.setIfInBounds_toArray, List.set_cons_zero, List.set_cons_succ]
        refine wpAnyH_take (i := 2) (v := (.pointer (some ⟨b, p + k * 6, none⟩))) (at_succ (at_succ at_zero)) (by kernel_rfl) (by kernel_rfl) (by kernel_rfl) (fun _ _ _ h => h) (Or.inl ⟨by kernel_rfl, fun wy hSw => ?_⟩) (by assumption) ?_
        · (try dsimp only at hSw); go_simp
        try simp only [Act.put, List.setIfInBounds_toArray, List.set_cons_zero, List.set_cons_succ]
        refine wpAnyH_take (i := 3) (v := (.agg #[.int .i64 s, .int .i64 i, .int .i64 c2, .int .i64 t, .slice a1 h.length a2, .slice a3 d.length a4])) (at_succ (at_succ (at_succ at_zero))) (by kernel_rfl) (by kernel_rfl) (by kernel_rfl) (fun _ _ _ h => h) (Or.inl ⟨by kernel_rfl, fun wy hSw => ?_⟩) (by assumption) ?_
        · (try dsimp only at hSw); obtain ⟨u0, u1, u2, u3, u4, u5⟩ := hSw; go_simp
        try simp only [Act.put, List.setIfInBounds_toArray, List.set_cons_zero, List.set_cons_succ]
        refine wpAnyH_ready (rs := [4]) (by kernel_rfl) (by simp) ?_
        refine AllReadyH.cons (at_succ (at_succ (at_succ (at_succ at_zero)))) (fun K hK => ?_) AllReadyH.nil
        rw [if_pos (by kernel_rfl)]
        go_simp
        refine KV.out.mono ?_
        rintro _ w5 ⟨rfl, hb⟩
        have c5 := (show HpC wr.drew b (p + k * 6) ⟨⟨s, i, c2, t, h, d⟩, a1, a2, a3, a4⟩ from c0).below hb hbl
        have O5 := Lib.hid (O1.out.below hb)
        have N5 := Lib.hid (fun y hy => (N1.out y hy).below hb)
        have B5 := Lib.hid (B1.out.trans (hb.mono B1.out.size))
        have hbl5 := Nat.lt_of_lt_of_le hbl hb.size
        have NX5 := Lib.hid (NX.out.next hb)
        unfold HpC at c5
        simp only at c5
        clear hb hHeld
        go_wp2_with fail
        refine hK.out _ _ (c5) (fun hHeld => ?_)
        clear hK K
        try simp only [Act.put, List.setIfInBounds_toArray, List.set_cons_zero, List.set_cons_succ]
        refine wpAnyH_take (i := 5) (v := (.bool true)) (at_succ (at_succ (at_succ (at_succ (at_succ at_zero))))) (by kernel_rfl) (by kernel_rfl) (by kernel_rfl) (fun _ _ _ h => h) (Or.inl ⟨by kernel_rfl, fun wy hSw => ?_⟩) (by assumption) ?_
        · (try dsimp only at hSw); go_simp
        try simp only [Act.put, List.setIfInBounds_toArray, List.set_cons_zero, List.set_cons_succ]
        refine wpAnyH_take (i := 6) (v := (.slice A1 ys.length c1)) (at_succ (at_succ (at_succ (at_succ (at_succ (at_succ at_zero)))))) (by kernel_rfl) (by kernel_rfl) (by kernel_rfl) (fun _ _ _ h => h) (Or.inl ⟨by kernel_rfl, fun wy hSw => ?_⟩) (by assumption) ?_
        · (try dsimp only at hSw); go_simp
        try simp only [Act.put, List.setIfInBounds_toArray, List.set_cons_zero, List.set_cons_succ]
        refine wpAnyH_take (i := 7) (v := (.slice (some ⟨b, p, none⟩) l.length c)) (at_succ (at_succ (at_succ (at_succ (at_succ (at_succ (at_succ at_zero))))))) (by kernel_rfl) (by kernel_rfl) (by kernel_rfl) (fun _ _ _ h => h) (Or.inl ⟨by kernel_rfl, fun wy hSw => ?_⟩) (by assumption) ?_
        · (try dsimp only at hSw); go_simp
        try simp only [Act.put, List.setIfInBounds_toArray, List.set_cons_zero, List.set_cons_succ]
        refine wpAnyH_take (i := 8) (v := (.int .i64 (k : Int))) (at_succ (at_succ (at_succ (at_succ (at_succ (at_succ (at_succ (at_succ at_zero)))))))) (by kernel_rfl) (by kernel_rfl) (by kernel_rfl) (fun _ _ _ h => h) (Or.inl ⟨by kernel_rfl, fun wy hSw => ?_⟩) (by assumption) ?_
        · (try dsimp only at hSw); go_simp
        try simp only [Act.put, List.setIfInBounds_toArray, List.set_cons_zero, List.set_cons_succ]
        refine wpAnyH_take (i := 9) (v := (.pointer (some ⟨b, p + k * 6, none⟩))) (at_succ (at_succ (at_succ (at_succ (at_succ (at_succ (at_succ (at_succ (at_succ at_zero))))))))) (by kernel_rfl) (by kernel_rfl) (by kernel_rfl) (fun _ _ _ h => h) (Or.inl ⟨by kernel_rfl, fun wy hSw => ?_⟩) (by assumption) ?_
        · (try dsimp only at hSw); go_simp
        try simp only [Act.put, List.setIfInBounds_toArray, List.set_cons_zero, List.set_cons_succ]
        refine wpAnyH_take (i := 10) (v := (.pointer (some ⟨b, p + k * 6, none⟩))) (at_succ (at_succ (at_succ (at_succ (at_succ (at_succ (at_succ (at_succ (at_succ (at_succ at_zero)))))))))) (by kernel_rfl) (by kernel_rfl) (by kernel_rfl) (fun _ _ _ h => h) (Or.inl ⟨by kernel_rfl, fun wy hSw => ?_⟩) (by assumption) ?_
        · (try dsimp only at hSw); go_simp
        try simp only [Act.put, List.setIfInBounds_toArray, List.set_cons_zero, List.set_cons_succ]
        refine wpAnyH_take (i := 11) (v := (.int .i64 s)) (at_succ (at_succ (at_succ (at_succ (at_succ (at_succ (at_succ (at_succ (at_succ (at_succ (at_succ at_zero))))))))))) (by kernel_rfl) (by kernel_rfl) (by kernel_rfl) (fun _ _ _ h => h) (Or.inl ⟨by kernel_rfl, fun wy hSw => ?_⟩) (by assumption) ?_
        · (try dsimp only at hSw); obtain ⟨u0, u1, u2, u3, u4, u5⟩ := hSw; go_simp
        try simp only [Act.put, List.setIfInBounds_toArray, List.set_cons_zero, List.set_cons_succ]
        refine wpAnyH_take (i := 12) (v := (.slice (some ⟨b, p, none⟩) l.length c)) (at_succ (at_succ (at_succ (at_succ (at_succ (at_succ (at_succ (at_succ (at_succ (at_succ (at_succ (at_succ at_zero)))))))))))) (by kernel_rfl) (by kernel_rfl) (by kernel_rfl) (fun _ _ _ h => h) (Or.inl ⟨by kernel_rfl, fun wy hSw => ?_⟩) (by assumption) ?_
        · (try dsimp only at hSw); go_simp
        try simp only [Act.put, List.setIfInBounds_toArray, List.set_cons_zero, List.set_cons_succ]
        refine wpAnyH_take (i := 13) (v := (.int .i64 (k : Int))) (at_succ (at_succ (at_succ (at_succ (at_succ (at_succ (at_succ (at_succ (at_succ (at_succ (at_succ (at_succ (at_succ at_zero))))))))))))) (by kernel_rfl) (by kernel_rfl) (by kernel_rfl) (fun _ _ _ h => h) (Or.inl ⟨by kernel_rfl, fun wy hSw => ?_⟩) (by assumption) ?_
        · (try dsimp only at hSw); go_simp
        try simp only [Act.put, List.setIfInBounds_toArray, List.set_cons_zero, List.set_cons_succ]
        refine wpAnyH_take (i := 14) (v := (.pointer (some ⟨b, p + k * 6, none⟩))) (at_succ (at_succ (at_succ (at_succ (at_succ (at_succ (at_succ (at_succ (at_succ (at_succ (at_succ (at_succ (at_succ (at_succ at_zero)))))))))))))) (by kernel_rfl) (by kernel_rfl) (by kernel_rfl) (fun _ _ _ h => h) (Or.inl ⟨by kernel_rfl, fun wy hSw => ?_⟩) (by assumption) ?_
        · (try dsimp only at hSw); go_simp
        try simp only [Act.put, List.setIfInBounds_toArray, List.set_cons_zero, List.set_cons_succ]
        refine wpAnyH_take (i := 15) (v := (.pointer (some ⟨b, p + k * 6 + 1, none⟩))) (at_succ (at_succ (at_succ (at_succ (at_succ (at_succ (at_succ (at_succ (at_succ (at_succ (at_succ (at_succ (at_succ (at_succ (at_succ at_zero))))))))))))))) (by kernel_rfl) (by kernel_rfl) (by kernel_rfl) (fun _ _ _ h => h) (Or.inl ⟨by kernel_rfl, fun wy hSw => ?_⟩) (by assumption) ?_
        · (try dsimp only at hSw); go_simp
        try simp only [Act.put, List.setIfInBounds_toArray, List.set_cons_zero, List.set_cons_succ]
        refine wpAnyH_take (i := 16) (v := (.int .i64 i)) (at_succ (at_succ (at_succ (at_succ (at_succ (at_succ (at_succ (at_succ (at_succ (at_succ (at_succ (at_succ (at_succ (at_succ (at_succ (at_succ at_zero)))))))))))))))) (by kernel_rfl) (by kernel_rfl) (by kernel_rfl) (fun _ _ _ h => h) (Or.inl ⟨by kernel_rfl, fun wy hSw => ?_⟩) (by assumption) ?_
        · (try dsimp only at hSw); obtain ⟨u0, u1, u2, u3, u4, u5⟩ := hSw; go_simp
        try simp only [Act.put, List.setIfInBounds_toArray, List.set_cons_zero, List.set_cons_succ]
        refine wpAnyH_ready (rs := [17]) (by kernel_rfl) (by simp) ?_
        refine AllReadyH.cons (at_succ (at_succ (at_succ (at_succ (at_succ (at_succ (at_succ (at_succ (at_succ (at_succ (at_succ (at_succ (at_succ (at_succ (at_succ (at_succ (at_succ at_zero))))))))))))))))) (fun K hK => ?_) AllReadyH.nil
        rw [if_pos (by kernel_rfl)]
        go_simp
        refine (rfind_any A1 c1 ys s i w5 (by omega) (own_sls O5.out).1).mono ?_
        rintro _ _ ⟨rfl, rfl⟩
        go_wp2_with fail
        refine hK.out _ _ (c5) (fun hHeld => ?_)
        clear hK K
        try simp only [Act.put, List.setIfInBounds_toArray, List.set_cons_zero, List.set_cons_succ]
        refine wpAnyH_take (i := 18) (v := (.bool false)) (at_succ (at_succ (at_succ (at_succ (at_succ (at_succ (at_succ (at_succ (at_succ (at_succ (at_succ (at_succ (at_succ (at_succ (at_succ (at_succ (at_succ (at_succ at_zero)))))))))))))))))) (by kernel_rfl) (by kernel_rfl) (by kernel_rfl) (fun _ _ _ h => h) (Or.inl ⟨by kernel_rfl, fun wy hSw => ?_⟩) (by assumption) ?_
        · go_simp; try rw [FI]
        try simp only [Act.put, List.setIfInBounds_toArray, List.set_cons_zero, List.set_cons_succ]
        refine wpAnyH_take (i := 19) (v := (.bool false)) (at_succ (at_succ (at_succ (at_succ (at_succ (at_succ (at_succ (at_succ (at_succ (at_succ (at_succ (at_succ (at_succ (at_succ (at_succ (at_succ (at_succ (at_succ (at_succ at_zero))))))))))))))))))) (by kernel_rfl) (by kernel_rfl) (by kernel_rfl) (fun _ _ _ h => h) (Or.inl ⟨by kernel_rfl, fun wy hSw => ?_⟩) (by assumption) ?_
        · (try dsimp only at hSw); go_simp
        try simp only [Act.put, List.setIfInBounds_toArray, List.set_cons_zero, List.set_cons_succ]
        refine wpAnyH_done (by kernel_rfl) ?_ _
        go_wp2_with fail
        go_roundw
        case rel => exact ⟨k + 1, A1, c1, ys, by go_num, hlt, rfl, O5, N5, P, Lib.hid (by rw [GK.out]; exact Q.out), B5.out⟩
        case measure => simp [intOf]; omega
      · have GK := Lib.hid (GK.out.trans (show ord1 (G k) ⟨s, i, c2, t, h, d⟩ = G k ++ [⟨s, i, c2, t, h, d⟩] from if_pos ⟨hv, by rw [← Q.out]; exact hh⟩))
        have FI : decide (fnI (xs ys) s i < 0) = true := dt ((fnI_neg _ _ _).2 hh)
        have HL := Lib.hid (show h.length ≤ 1000 ∧ d.length ≤ 1000 from by have a := hv.hl; have b := hv.dl; have e := hv.ct; simp only at a b e; omega)
        clear hv hh
        go_wp2_with fail
        refine wp_region_held_drew (S := (fun wy : World => wy.cell? ⟨b, p + k * 6, none⟩ = some (.int .i64 s) ∧ wy.cell? ⟨b, p + k * 6 + 1, none⟩ = some (.int .i64 i) ∧ wy.cell? ⟨b, p + k * 6 + 2, none⟩ = some (.int .i64 c2) ∧ wy.cell? ⟨b, p + k * 6 + 3, none⟩ = some (.int .i64 t) ∧ wy.cell? ⟨b, p + k * 6 + 4, none⟩ = some (.slice a1 h.length a2) ∧ wy.cell? ⟨b, p + k * 6 + 5, none⟩ = some (.slice a3 d.length a4))) (by kernel_rfl) (c0) (fun hHeld => ?_)
        refine wpAnyH_take (i := 0) (v := (.slice (some ⟨b, p, none⟩) l.length c)) at_zero (by kernel_rfl) (by kernel_rfl) (by kernel_rfl) (fun _ _ _ h => h) (Or.inl ⟨by kernel_rfl, fun wy hSw => ?_⟩) (by assumption) ?_
        · (try dsimp only at hSw); go_simp
        try simp only [Act.put, List.setIfInBounds_toArray, List.set_cons_zero, List.set_cons_succ]
        refine wpAnyH_take (i := 1) (v := (.int .i64 (k : Int))) (at_succ at_zero) (by kernel_rfl) (by kernel_rfl) (by kernel_rfl) (fun _ _ _ h => h) (Or.inl ⟨by kernel_rfl, fun wy hSw => ?_⟩) (by assumption) ?_
        · (try dsimp only at hSw); go_simp
        try simp only [Act.put, List.setIfInBounds_toArray, List.set_cons_zero, List.set_cons_succ]
        refine wpAnyH_take (i := 2) (v := (.pointer (some ⟨b, p + k * 6, none⟩))) (at_succ (at_succ at_zero)) (by kernel_rfl) (by kernel_rfl) (by kernel_rfl) (fun _ _ _ h => h) (Or.inl ⟨by kernel_rfl, fun wy hSw => ?_⟩) (by assumption) ?_
        · (try dsimp only at hSw); go_simp
        try simp only [Act.put, List.setIfInBounds_toArray, List.set_cons_zero, List.set_cons_succ]
        refine wpAnyH_take (i := 3) (v := (.agg #[.int .i64 s, .int .i64 i, .int .i64 c2, .int .i64 t, .slice a1 h.length a2, .slice a3 d.length a4])) (at_succ (at_succ (at_succ at_zero))) (by kernel_rfl) (by kernel_rfl) (by kernel_rfl) (fun _ _ _ h => h) (Or.inl ⟨by kernel_rfl, fun wy hSw => ?_⟩) (by assumption) ?_
        · (try dsimp only at hSw); obtain ⟨u0, u1, u2, u3, u4, u5⟩ := hSw; go_simp
        try simp only [Act.put, List.setIfInBounds_toArray, List.set_cons_zero, List.set_cons_succ]
        refine wpAnyH_ready (rs := [4]) (by kernel_rfl) (by simp) ?_
        refine AllReadyH.cons (at_succ (at_succ (at_succ (at_succ at_zero)))) (fun K hK => ?_) AllReadyH.nil
        rw [if_pos (by kernel_rfl)]
        go_simp
        refine KV.out.mono ?_
        rintro _ w5 ⟨rfl, hb⟩
        have c5 := (show HpC wr.drew b (p + k * 6) ⟨⟨s, i, c2, t, h, d⟩, a1, a2, a3, a4⟩ from c0).below hb hbl
        have O5 := Lib.hid (O1.out.below hb)
        have N5 := Lib.hid (fun y hy => (N1.out y hy).below hb)
        have B5 := Lib.hid (B1.out.trans (hb.mono B1.out.size))
        have hbl5 := Nat.lt_of_lt_of_le hbl hb.size
        have NX5 := Lib.hid (NX.out.next hb)
        unfold HpC at c5
        simp only at c5
        clear hb hHeld
        go_wp2_with fail
        refine hK.out _ _ (c5) (fun hHeld => ?_)
        clear hK K
        try simp only [Act.put, List.setIfInBounds_toArray, List.set_cons_zero, List.set_cons_succ]
        refine wpAnyH_take (i := 5) (v := (.bool true)) (at_succ (at_succ (at_succ (at_succ (at_succ at_zero))))) (by kernel_rfl) (by kernel_rfl) (by kernel_rfl) (fun _ _ _ h => h) (Or.inl ⟨by kernel_rfl, fun wy hSw => ?_⟩) (by assumption) ?_
        · (try dsimp only at hSw); go_simp
        try simp only [Act.put, List.setIfInBounds_toArray, List.set_cons_zero, List.set_cons_succ]
        refine wpAnyH_take (i := 6) (v := (.slice A1 ys.length c1)) (at_succ (at_succ (at_succ (at_succ (at_succ (at_succ at_zero)))))) (by kernel_rfl) (by kernel_rfl) (by kernel_rfl) (fun _ _ _ h => h) (Or.inl ⟨by kernel_rfl, fun wy hSw => ?_⟩) (by assumption) ?_
        · (try dsimp only at hSw); go_simp
        try simp only [Act.put, List.setIfInBounds_toArray, List.set_cons_zero, List.set_cons_succ]
        refine wpAnyH_take (i := 7) (v := (.slice (some ⟨b, p, none⟩) l.length c)) (at_succ (at_succ (at_succ (at_succ (at_succ (at_succ (at_succ at_zero))))))) (by kernel_rfl) (by kernel_rfl) (by kernel_rfl) (fun _ _ _ h => h) (Or.inl ⟨by kernel_rfl, fun wy hSw => ?_⟩) (by assumption) ?_
        · (try dsimp only at hSw); go_simp
        try simp only [Act.put, List.setIfInBounds_toArray, List.set_cons_zero, List.set_cons_succ]
        refine wpAnyH_take (i := 8) (v := (.int .i64 (k : Int))) (at_succ (at_succ (at_succ (at_succ (at_succ (at_succ (at_succ (at_succ at_zero)))))))) (by kernel_rfl) (by kernel_rfl) (by kernel_rfl) (fun _ _ _ h => h) (Or.inl ⟨by kernel_rfl, fun wy hSw => ?_⟩) (by assumption) ?_
        · (try dsimp only at hSw); go_simp
        try simp only [Act.put, List.setIfInBounds_toArray, List.set_cons_zero, List.set_cons_succ]
        refine wpAnyH_take (i := 9) (v := (.pointer (some ⟨b, p + k * 6, none⟩))) (at_succ (at_succ (at_succ (at_succ (at_succ (at_succ (at_succ (at_succ (at_succ at_zero))))))))) (by kernel_rfl) (by kernel_rfl) (by kernel_rfl) (fun _ _ _ h => h) (Or.inl ⟨by kernel_rfl, fun wy hSw => ?_⟩) (by assumption) ?_
        · (try dsimp only at hSw); go_simp
        try simp only [Act.put, List.setIfInBounds_toArray, List.set_cons_zero, List.set_cons_succ]
        refine wpAnyH_take (i := 10) (v := (.pointer (some ⟨b, p + k * 6, none⟩))) (at_succ (at_succ (at_succ (at_succ (at_succ (at_succ (at_succ (at_succ (at_succ (at_succ at_zero)))))))))) (by kernel_rfl) (by kernel_rfl) (by kernel_rfl) (fun _ _ _ h => h) (Or.inl ⟨by kernel_rfl, fun wy hSw => ?_⟩) (by assumption) ?_
        · (try dsimp only at hSw); go_simp
        try simp only [Act.put, List.setIfInBounds_toArray, List.set_cons_zero, List.set_cons_succ]
        refine wpAnyH_take (i := 11) (v := (.int .i64 s)) (at_succ (at_succ (at_succ (at_succ (at_succ (at_succ (at_succ (at_succ (at_succ (at_succ (at_succ at_zero))))))))))) (by kernel_rfl) (by kernel_rfl) (by kernel_rfl) (fun _ _ _ h => h) (Or.inl ⟨by kernel_rfl, fun wy hSw => ?_⟩) (by assumption) ?_
        · (try dsimp only at hSw); obtain ⟨u0, u1, u2, u3, u4, u5⟩ := hSw; go_simp
        try simp only [Act.put, List.setIfInBounds_toArray, List.set_cons_zero, List.set_cons_succ]
        refine wpAnyH_take (i := 12) (v := (.slice (some ⟨b, p, none⟩) l.length c)) (at_succ (at_succ (at_succ (at_succ (at_succ (at_succ (at_succ (at_succ (at_succ (at_succ (at_succ (at_succ at_zero)))))))))))) (by kernel_rfl) (by kernel_rfl) (by kernel_rfl) (fun _ _ _ h => h) (Or.inl ⟨by kernel_rfl, fun wy hSw => ?_⟩) (by assumption) ?_
        · (try dsimp only at hSw); go_simp
        try simp only [Act.put, List.setIfInBounds_toArray, List.set_cons_zero, List.set_cons_succ]
        refine wpAnyH_take (i := 13) (v := (.int .i64 (k : Int))) (at_succ (at_succ (at_succ (at_succ (at_succ (at_succ (at_succ (at_succ (at_succ (at_succ (at_succ (at_succ (at_succ at_zero))))))))))))) (by kernel_rfl) (by kernel_rfl) (by kernel_rfl) (fun _ _ _ h => h) (Or.inl ⟨by kernel_rfl, fun wy hSw => ?_⟩) (by assumption) ?_
        · (try dsimp only at hSw); go_simp
        try simp only [Act.put, List.setIfInBounds_toArray, List.set_cons_zero, List.set_cons_succ]
        refine wpAnyH_take (i := 14) (v := (.pointer (some ⟨b, p + k * 6, none⟩))) (at_succ (at_succ (at_succ (at_succ (at_succ (at_succ (at_succ (at_succ (at_succ (at_succ (at_succ (at_succ (at_succ (at_succ at_zero)))))))))))))) (by kernel_rfl) (by kernel_rfl) (by kernel_rfl) (fun _ _ _ h => h) (Or.inl ⟨by kernel_rfl, fun wy hSw => ?_⟩) (by assumption) ?_
        · (try dsimp only at hSw); go_simp
        try simp only [Act.put, List.setIfInBounds_toArray, List.set_cons_zero, List.set_cons_succ]
        refine wpAnyH_take (i := 15) (v := (.pointer (some ⟨b, p + k * 6 + 1, none⟩))) (at_succ (at_succ (at_succ (at_succ (at_succ (at_succ (at_succ (at_succ (at_succ (at_succ (at_succ (at_succ (at_succ (at_succ (at_succ at_zero))))))))))))))) (by kernel_rfl) (by kernel_rfl) (by kernel_rfl) (fun _ _ _ h => h) (Or.inl ⟨by kernel_rfl, fun wy hSw => ?_⟩) (by assumption) ?_
        · (try dsimp only at hSw); go_simp
        try simp only [Act.put, List.setIfInBounds_toArray, List.set_cons_zero, List.set_cons_succ]
        refine wpAnyH_take (i := 16) (v := (.int .i64 i)) (at_succ (at_succ (at_succ (at_succ (at_succ (at_succ (at_succ (at_succ (at_succ (at_succ (at_succ (at_succ (at_succ (at_succ (at_succ (at_succ at_zero)))))))))))))))) (by kernel_rfl) (by kernel_rfl) (by kernel_rfl) (fun _ _ _ h => h) (Or.inl ⟨by kernel_rfl, fun wy hSw => ?_⟩) (by assumption) ?_
        · (try dsimp only at hSw); obtain ⟨u0, u1, u2, u3, u4, u5⟩ := hSw; go_simp
        try simp only [Act.put, List.setIfInBounds_toArray, List.set_cons_zero, List.set_cons_succ]
        refine wpAnyH_ready (rs := [17]) (by kernel_rfl) (by simp) ?_
        refine AllReadyH.cons (at_succ (at_succ (at_succ (at_succ (at_succ (at_succ (at_succ (at_succ (at_succ (at_succ (at_succ (at_succ (at_succ (at_succ (at_succ (at_succ (at_succ at_zero))))))))))))))))) (fun K hK => ?_) AllReadyH.nil
        rw [if_pos (by kernel_rfl)]
        go_simp
        refine (rfind_any A1 c1 ys s i w5 (by omega) (own_sls O5.out).1).mono ?_
        rintro _ _ ⟨rfl, rfl⟩
        go_wp2_with fail
        refine hK.out _ _ (c5) (fun hHeld => ?_)
        clear hK K
        try simp only [Act.put, List.setIfInBounds_toArray, List.set_cons_zero, List.set_cons_succ]
        refine wpAnyH_take (i := 18) (v := (.bool true)) (at_succ (at_succ (at_succ (at_succ (at_succ (at_succ (at_succ (at_succ (at_succ (at_succ (at_succ (at_succ (at_succ (at_succ (at_succ (at_succ (at_succ (at_succ at_zero)))))))))))))))))) (by kernel_rfl) (by kernel_rfl) (by kernel_rfl) (fun _ _ _ h => h) (Or.inl ⟨by kernel_rfl, fun wy hSw => ?_⟩) (by assumption) ?_
        · go_simp; try rw [FI]
        try simp only [Act.put, List.setIfInBounds_toArray, List.set_cons_zero, List.set_cons_succ]
        refine wpAnyH_take (i := 19) (v := (.bool true)) (at_succ (at_succ (at_succ (at_succ (at_succ (at_succ (at_succ (at_succ (at_succ (at_succ (at_succ (at_succ (at_succ (at_succ (at_succ (at_succ (at_succ (at_succ (at_succ at_zero))))))))))))))))))) (by kernel_rfl) (by kernel_rfl) (by kernel_rfl) (fun _ _ _ h => h) (Or.inl ⟨by kernel_rfl, fun wy hSw => ?_⟩) (by assumption) ?_
        · (try dsimp only at hSw); go_simp
        try simp only [Act.put, List.setIfInBounds_toArray, List.set_cons_zero, List.set_cons_succ]
        refine wpAnyH_done (by kernel_rfl) ?_ _
        have KC := Lib.hid (rcopy_any ⟨⟨s, i, c2, t, h, d⟩, a1, a2, a3, a4⟩ w5 HL.out NX5.out)
        unfold CopyR at KC
        obtain ⟨u0, u1, u2, u3, u4, u5⟩ := c5
        go_wp2_with fail
        refine KC.out.mono ?_
        rintro _ w6 ⟨y, rfl, hyx, hyn, hb⟩
        have OP := OwnP.push N5.out P.out hb hyn B5.out.size
        have O6 := O5.out.below hb
        have B6 := Lib.hid (B5.out.trans (hb.mono B5.out.size))
        have N6 := Lib.hid OP.1
        have P6 := Lib.hid OP.2
        have Q6 := Lib.hid (show xs (ys ++ [y]) = G (k + 1) by rw [GK.out, ← Q.out]; unfold xs; rw [List.map_append, List.map_singleton, hyx])
        obtain ⟨v7, w7, hap, ho7, hb7, hk7⟩ := one_p y (by rw [show y.x = _ from hyx]; exact hok) O6 (by omega) B6.out.size
        obtain ⟨A7, c7, e7, _⟩ := ho7.form
        subst e7
        have ly : (ys ++ [y]).length = ys.length + 1 := by simp
        have B7 := Lib.hid (B6.out.trans hb7)
        have O7 := Lib.hid ho7
        have N7 := Lib.hid (fun x hx => hk7 _ x (N6.out x hx))
        obtain ⟨zs, hzs⟩ : ∃ zs, ys ++ [y] = zs := ⟨_, rfl⟩
        rw [hzs] at hap O7 N7 P6 Q6
        clear OP hyx hyn hb KC GK Q P O6 O5 N5 B5 ho7 hb7 hk7 N6 B6 ly hzs
        obtain ⟨⟨s', i', c', t', h', d'⟩, a1', a2', a3', a4'⟩ := y
        simp only [bxP] at hap
        go_wp2_with (at_builtin; refine Lib.wpList_append_run _ rfl _ _ _ _ rfl _ _ rfl rfl _ _ hap ?_)
        go_roundw
        case rel => exact ⟨k + 1, A7, c7, zs, by go_num, hlt, rfl, O7, N7, P6, Q6, B7.out⟩
        case measure => simp [intOf]; omega
    · obtain rfl : k = l.length := by omega
      have ql : (xs ys).length = ys.length := by simp
      have E := GE.out
      rw [← Q.out] at E
      clear GN GL G0 GE HA HM hb Q
      by_cases h8 : 8 < ys.length
      · have d1 := dt (show (8 : Int) < (ys.length : Int) by omega)
        have w8 : IntKind.i64.wrap ((ys.length : Int) - 8) = (ys.length : Int) - 8 := by rw [IntKind.wrap_i64]; omega
        obtain ⟨A8, sl, hs, hA8⟩ := (own_sls O.out).rest2 utP szP (ys.length - 8) (by omega)
        have ln : ys.length - (ys.length - 8) = 8 := by omega
        replace sl : ∀ W : World, (Instr.sliceAt 31 (.slice A1 ys.length c1) (some (.int .i64 ((ys.length : Int) - 8))) none none).run Try.prog W = .ok (.slice A8 8 (c1 - (ys.length - 8))) W := fun W => by
          have := sl W
          rw [ln, show (((ys.length - 8 : Nat)) : Int) = (ys.length : Int) - 8 by omega] at this
          exact this
        have RS : OwnP wr w.heap.size A8 (c1 - (ys.length - 8)) (ys.drop (ys.length - 8)) := by
          refine ⟨hs, fun b p e => ?_, Or.inr (by rw [List.length_drop, ln]), fun y hy => N.out y (List.mem_of_mem_drop hy), P.out.sublist (List.drop_sublist _ _)⟩
          obtain ⟨p', e'⟩ := hA8 (fun q => by rw [q] at h8; simp at h8) b p e
          obtain ⟨g, cur, e1, e2, e3⟩ := own_blk O.out (by rw [e']; exact fun q => by cases q)
          rw [e'] at e1
          simp only [Option.some.injEq, Addr.mk.injEq, and_true] at e1
          obtain ⟨rfl, rfl⟩ := e1
          exact ⟨e2, cur, _, e3⟩
        have RX : OwnR w F (.returned (.slice A8 8 (c1 - (ys.length - 8)))) wr := ⟨A8, _, ys.drop (ys.length - 8), by rw [List.length_drop, ln], RS, by rw [xs_drop, ← E]; unfold last8; rw [ql], B.out⟩
        have RX := Lib.hid RX
        clear RS hs hA8 ln h8 E ql
        go_wp2_with (first | (refine wpList_slice_run3 _ rfl _ _ _ _ _ rfl _ _ _ _ _ rfl rfl rfl rfl (sl _) ?_) | fail)
        go_ret
        exact RX.out
      · have d1 := df (show ¬ (8 : Int) < (ys.length : Int) by omega)
        obtain ⟨A8, c8, e8, RS⟩ := OwnP.of O.out N.out P.out
        simp only [Value.slice.injEq, true_and] at e8
        obtain ⟨rfl, rfl⟩ := e8
        have RX : OwnR w F (.returned (.slice A1 ys.length c1)) wr := ⟨A1, c1, ys, rfl, RS, by rw [← E]; unfold last8; rw [ql, show ys.length - 8 = 0 by omega]; rfl, B.out⟩
        have RX := Lib.hid RX
        clear RS h8 E ql
        go_wp2_with fail
        go_ret
        exact RX.out
end Go.Proofs.Ytljcjflbfjleoaa.Frg
