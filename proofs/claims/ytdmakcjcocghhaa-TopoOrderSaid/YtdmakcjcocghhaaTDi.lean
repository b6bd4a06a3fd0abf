/- Package topo: distances: what a breadth-first search finds in a graph in memory. -/
import Derived.Test.YtdmakcjcocghhaaTW
import Derived.Deep.LoopGhost
set_option linter.unusedVariables false
namespace Go.Proofs.Ytdmakcjcocghhaa.Tpo
open Go.RowKit

/-- The graph in block gb: the neighbors of each node, as adj says. -/
def GrAt (w : World) (gb n : Nat) (adj : Int → List Int) : Prop := ∃ F, MvAt MG Try.prog w gb n F ∧ (∀ x, F x = none → adj x = []) ∧ ∀ x v, F x = some v → ∃ A c, v = .slice A (adj x).length c ∧ FlAt fI w w.heap.size A (adj x)
theorem GrAt.next {w w' : World} {gb n : Nat} {adj : Int → List Int} (h : GrAt w gb n adj) (hb : Below w.heap.size w w') : GrAt w' gb n adj := by
  obtain ⟨F, h1, h2, h3⟩ := h
  refine ⟨F, h1.below hb, h2, fun x v e => ?_⟩
  obtain ⟨A, c, rfl, h4⟩ := h3 x v e
  exact ⟨A, c, rfl, h4.next hb⟩
theorem GrAt.get {w : World} {gb n : Nat} {adj : Int → List Int} (h : GrAt w gb n adj) (x : Int) (hx : I64 x) : ∃ A c, (∀ w', Below w.heap.size w w' → (Instr.lookup 54 (.map (some gb)) (.int .i64 x) false).run Try.prog w' = .ok (.slice A (adj x).length c) w') ∧ FlAt fI w w.heap.size A (adj x) := by
  obtain ⟨F, h1, h2, h3⟩ := h
  have hr : ∀ w', Below w.heap.size w w' → (Instr.lookup 54 (.map (some gb)) (.int .i64 x) false).run Try.prog w' = .ok ((F x).getD (.slice none 0 0)) w' := fun w' hb => (h1.below hb).get mg_of x hx
  cases hf : F x with
  | none =>
    rw [hf] at hr
    rw [h2 x hf]
    exact ⟨none, 0, hr, FlAt.nil _ _ _⟩
  | some v =>
    rw [hf] at hr
    obtain ⟨A, c, rfl, h4⟩ := h3 x v hf
    exact ⟨A, c, hr, h4⟩
theorem ds_get {w : World} {b n : Nat} {f : Int → Option Value} (h : MvAt MD Try.prog w b n f) (x : Int) (hx : I64 x) : (Instr.lookup 52 (.map (some b)) (.int .i64 x) false).run Try.prog w = .ok ((f x).getD (.int .i64 0)) w := h.get md_of x hx
theorem ds_get2 {w : World} {b n : Nat} {f : Int → Option Value} (h : MvAt MD Try.prog w b n f) (x : Int) (hx : I64 x) : (Instr.lookup 52 (.map (some b)) (.int .i64 x) true).run Try.prog w = .ok (.tuple #[(f x).getD (.int .i64 0), .bool (f x).isSome]) w := h.get2 md_of x hx
theorem ds_put {w : World} {b n : Nat} {f : Int → Option Value} (h : MvAt MD Try.prog w b n f) (x y : Int) (hx : I64 x) (hn : n ≤ 1000000000) :
    ∃ w', (Instr.mapUpdate 52 (.map (some b)) (.int .i64 x) (.int .i64 y)).run Try.prog w = .ok () w' ∧ MvAt MD Try.prog w' b (n + 1) (fun z => if z = x then some (.int .i64 y) else f z) ∧ w.grownBy w' (some b) := h.put md_of x (.int .i64 y) hx (by unfold maxLen; omega)
/-- What a search from a along E hands back. -/
def OutDs (w : World) (E : Int → Int → Prop) (a : Int) (e : Ending) (w' : World) : Prop := ∃ (b n : Nat) (S : List Int) (d : Int → Int), e = .returned (.map (some b)) ∧ w.heap.size ≤ b ∧ MvAt MD Try.prog w' b n (fnd S d) ∧ (S.Nodup ∧ (∀ x ∈ S, Nd x) ∧ ∀ x ∈ S, 0 ≤ d x) ∧ (Nd a → IsE E a fun v => if v ∈ S then d v else -1) ∧ (¬ Nd a → S = []) ∧ Below w.heap.size w w'
theorem utI : Try.prog.underlying 28 = some (.slice 3) := Try.underlying28
theorem infI : (Try.prog.info? 3).map (fun i => (i.zero, i.size, i.bytes)) = some (some (.int .i64 0), 1, 8) := by kernel_rfl

set_option maxRecDepth 100000 in
set_option maxHeartbeats 4000000 in
theorem pdist_any (gb n : Nat) (adj : Int → List Int) (a : Int) (w : World) (hG : GrAt w gb n adj) (hN : ∀ u v, v ∈ adj u → Nd v) (hL : ∀ u, (adj u).length ≤ 1000000) :
    Calls Try.prog 42 #[.map (some gb), .int .i64 a] w (OutDs w (fun u v => v ∈ adj u) a) := by
  have HG := Lib.hid hG
  have HN := Lib.hid hN
  have HL := Lib.hid hL
  have KN := Lib.hid (fun w => pnode_any a w)
  have hmm := @run_makeMap Try.prog
  have M0 := Lib.hid (show MvAt MD Try.prog (w.alloc (.map #[] 0)) w.heap.size 0 (fun _ => none) from MvAt.made w)
  clear hG hN hL
  by_cases ha : Nd a
  rotate_left
  · rw [df ha] at KN
    have HA := Lib.hid ha
    clear ha
    go_enter Try.func42, Try.ntmps42
    go_wp2_with fail
    refine (KN.out _).mono ?_
    rintro _ w1 ⟨rfl, rfl⟩
    go_wp2_with fail
    go_ret
    exact ⟨_, 0, [], fun _ => 0, rfl, Nat.le_refl _, M0.out.same fun x => by simp [fnd], ⟨List.nodup_nil, (fun x hx => by cases hx), fun x hx => by cases hx⟩, fun h => absurd h HA.out, fun _ => rfl, alloc_below _ _⟩
  have HA := Lib.hid ha
  have ia := nd_i64 ha
  rw [dt ha] at KN
  obtain ⟨w2, hput, hm2, hg2⟩ := ds_put M0.out a 0 ia (by omega)
  have B2 := Lib.hid ((alloc_below w (.map #[] 0)).grown hg2 (by simp) (fun j hj => by cases hj; exact Nat.le_refl _))
  have hz2 : w.heap.size + 1 ≤ w2.heap.size := by have := hg2.size; simpa using this
  have M3 := Lib.hid (show MvAt MD Try.prog (w2.alloc (.cells #[.int .i64 a] 3)) w.heap.size 1 (fnd ([] ++ [a]) (upd (fun _ => 0) a 0)) from (hm2.same fun y => by rw [← fnd_put]; simp [fnd]).alloc _)
  have O3 := Lib.hid (show OwnQ (w2.alloc (.cells #[.int .i64 a] 3)) (w.heap.size + 1) (.slice (some ⟨w2.heap.size, 0, none⟩) [a].length 1) [a] from OwnQ.of_own (OwnF.lit (F := fI) (T := 3) w2 (w.heap.size + 1) [a] #[.int .i64 a] hz2 (by unfold maxLen; simp) rfl (fun x hx => by simp at hx; rw [hx]; exact ia)) (by simp))
  have B3 := Lib.hid (B2.out.alloc B2.out.size (.cells #[.int .i64 a] 3))
  have F0 := Lib.hid (bf_start adj ha)
  clear ha hm2 hg2
  go_enter Try.func42, Try.ntmps42
  go_wp2_with fail
  refine (KN.out _).mono ?_
  rintro _ w1 ⟨rfl, rfl⟩
  go_wp2_with fail
  clear hmm hput
  go_loopg [6] 251 (fun gk vq wr => ∃ (P Q : List Int) (d : Int → Int) (g off cap : Nat), gk + P.length = 251 ∧ vq = .slice (some ⟨g, off, none⟩) Q.length cap ∧ Hid (OwnQ wr (w.heap.size + 1) (.slice (some ⟨g, off, none⟩) Q.length cap) Q) ∧ Hid (MvAt MD Try.prog wr w.heap.size (P ++ Q).length (fnd (P ++ Q) d)) ∧ Hid (Bf adj a P Q d) ∧ Below w.heap.size w wr)
  case atStart => exact ⟨[], [a], _, w2.heap.size, 0, 1, rfl, rfl, O3, M3, F0, B3.out⟩
  case round =>
    clear M0 M3 O3 F0 B3 B2 KN
    obtain ⟨P, Q, d, g, off, cap, hgk, rfl, O, M, F, hb⟩ := hrel
    have B := Lib.hid hb
    have hz := hb.size
    have GH := Lib.hid (HG.out.next hb)
    clear hb
    cases Q with
    | nil =>
      have FIN := Lib.hid (show OutDs w (fun u v => v ∈ adj u) a (.returned (.map (some w.heap.size))) wr from ⟨_, _, P ++ [], d, rfl, Nat.le_refl _, M.out, ⟨F.out.nodup, F.out.nd, bf_nonneg F.out⟩, fun _ => by
        have := bf_end F.out
        simpa using this, fun h => absurd HA.out h, B.out⟩)
      have d0 : ((0 : Int) < (([] : List Int).length : Int)) ↔ False := by simp
      go_wp2_with fail
      go_ret
      exact FIN.out
    | cons x Q =>
      have I0 := Lib.hid (show Bi adj a P x Q ((adj x).take 0) d from bf_round F.out)
      have hx64 : I64 x := nd_i64 (F.out.nd x (by simp))
      have gx : wr.cell? ⟨g, off, none⟩ = some (.int .i64 x) := O.out.cell 0 (by simp)
      obtain ⟨A, c, hlk0, hAt⟩ := HG.out.get x hx64
      have hlk := hlk0 wr B.out
      have HAt := Lib.hid hAt
      have LN := HL.out x
      have NX := Lib.hid (HN.out x)
      have PL : P.length ≤ 251 := by omega
      have O0 := Lib.hid (show OwnQ wr (w.heap.size + 1) (.slice (some ⟨g, off, none⟩) (Q.length + 1) cap) (x :: Q) from O.out)
      have d0 : (0 : Int) < (Q.length : Int) + 1 := by omega
      have TK := Lib.hid (fun (k : Nat) (h : k < (adj x).length) => (List.take_succ_eq_append_getElem h))
      have TE := Lib.hid (show ∀ k, k = (adj x).length → ∀ Q d, Bi adj a P x Q ((adj x).take k) d → Bf adj a (P ++ [x]) Q d from fun k hk Q d h => bi_end (by rw [hk, List.take_length] at h; exact h))
      have MX := Lib.hid (fun (k : Nat) (h : k < (adj x).length) => (List.getElem_mem h))
      clear hAt hlk0 O F GH
      obtain ⟨L, hL⟩ : ∃ L, adj x = L := ⟨_, rfl⟩
      have LX := Lib.hid hL
      rw [hL] at hlk HAt LN NX TK TE MX I0
      clear hL
      rw [show (x :: Q).length = Q.length + 1 from rfl]
      go_wp2_with fail
      go_loopw [6, 33] (fun vq vk wr => ∃ (k : Nat) (Q : List Int) (d : Int → Int) (g off cap : Nat), vk = .int .i64 k ∧ k ≤ L.length ∧ vq = .slice (some ⟨g, off, none⟩) (Q.length + 1) cap ∧ Hid (OwnQ wr (w.heap.size + 1) (.slice (some ⟨g, off, none⟩) (Q.length + 1) cap) (x :: Q)) ∧ Hid (MvAt MD Try.prog wr w.heap.size (P ++ x :: Q).length (fnd (P ++ x :: Q) d)) ∧ Hid (Bi adj a P x Q (L.take k) d) ∧ Below w.heap.size w wr) (fun _ vk _ => L.length - (intOf vk).toNat)
      case atStart => exact ⟨0, Q, d, g, off, cap, rfl, Nat.zero_le _, rfl, O0, M, I0, B.out⟩
      case round =>
        clear O0 M I0 gx hlk d0 hz B
        obtain ⟨k, Q, d, g, off, cap, rfl, hk, rfl, O, M, I, hb⟩ := hrel
        have B := Lib.hid hb
        have hz := hb.size
        by_cases hlt : k < L.length
        · obtain ⟨b, p, rfl, _, g0, i0⟩ := fI_cell (HAt.out.next hb) k hlt
          have TKk := Lib.hid (TK.out k hlt)
          have MXk := Lib.hid (MX.out k hlt)
          clear hb TK TE MX
          obtain ⟨v, hv⟩ : ∃ v, L[k] = v := ⟨_, rfl⟩
          rw [hv] at g0 i0 TKk MXk
          clear hv
          have m0 : (k : Int) < (L.length : Int) := by omega
          have m1 : (0 : Int) ≤ (k : Int) := by omega
          have QL := nd_few I.out.nodup I.out.nd
          have QL2 : Q.length ≤ 251 := by rw [List.length_append, List.length_cons] at QL; omega
          have SL : (P ++ x :: Q).length ≤ 251 := QL
          clear QL
          by_cases hm : v ∈ P ++ x :: Q
          · have hget2 : (Instr.lookup 52 (.map (some w.heap.size)) (.int .i64 v) true).run Try.prog wr = .ok (.tuple #[.int .i64 (d v), .bool true]) wr := by
              have := ds_get2 M.out v i0
              rw [fnd_yes hm] at this; exact this
            have I2 := Lib.hid (show Bi adj a P x Q (L.take (k + 1)) d by rw [TKk.out]; exact bi_known I.out hm)
            clear hm
            generalize d v = dv at *
            go_wp2_with fail
            go_roundw
            case rel => exact ⟨k + 1, Q, d, g, off, cap, by go_num, hlt, rfl, O, M, I2, B.out⟩
            case measure => simp [intOf]; omega
          · have hget2 : (Instr.lookup 52 (.map (some w.heap.size)) (.int .i64 v) true).run Try.prog wr = .ok (.tuple #[.int .i64 0, .bool false]) wr := by
              have := ds_get2 M.out v i0
              rw [fnd_no hm] at this; exact this
            have hget : (Instr.lookup 52 (.map (some w.heap.size)) (.int .i64 x) false).run Try.prog wr = .ok (.int .i64 (d x)) wr := by
              have := ds_get M.out x hx64
              rw [fnd_yes (by simp)] at this; exact this
            have dx0 := bi_nonneg I.out
            have dx1 : d x ≤ 251 := by have := I.out.leX; omega
            have I2 := Lib.hid (show Bi adj a P x (Q ++ [v]) (L.take (k + 1)) (upd d v (d x + 1)) by rw [TKk.out]; exact bi_new I.out hm (NX.out v MXk.out) (by rw [LX.out]; exact MXk.out))
            obtain ⟨w2, hput, hm2, hg2⟩ := ds_put M.out v (d x + 1) i0 (by omega)
            have O2 := Lib.hid (O.out.kept hg2 (by simp [Value.ownBlock]; have := (O.out.lt g rfl).1; omega))
            have B2 := Lib.hid (B.out.grown hg2 hz (fun j hj => by cases hj; exact Nat.le_refl _))
            have hgl := (O.out.lt g rfl).1
            have hgl2 := (O2.out.lt g rfl).2
            have M2 := Lib.hid (show MvAt MD Try.prog w2 w.heap.size (P ++ x :: (Q ++ [v])).length (fnd (P ++ x :: (Q ++ [v])) (upd d v (d x + 1))) by
              have e : P ++ x :: (Q ++ [v]) = (P ++ x :: Q) ++ [v] := by simp
              rw [e, List.length_append]
              exact hm2.same fun y => fnd_put y)
            clear hm2 hg2 hm
            obtain ⟨v3, w3, hap, ho3, hg3, _⟩ := app_queue O2.out v i0 (by simp; omega) (by omega) utI infI
            obtain ⟨g3, off3, cap3, e3, _⟩ := ho3.form
            subst e3
            have M3 := Lib.hid (M2.out.kept hg3 (by simp [Value.ownBlock]; omega))
            have O3 := Lib.hid (show OwnQ w3 (w.heap.size + 1) (.slice (some ⟨g3, off3, none⟩) ((Q ++ [v]).length + 1) cap3) (x :: (Q ++ [v])) from ho3)
            have B3 := Lib.hid (B2.out.grown hg3 B2.out.size (fun j hj => by simp [Value.ownBlock] at hj; omega))
            have e4 : (x :: Q ++ [v]).length = (Q ++ [v]).length + 1 := rfl
            rw [e4] at hap
            obtain ⟨ql, hql⟩ : ∃ ql, ql = (Q ++ [v]).length := ⟨_, rfl⟩
            have HQ := Lib.hid hql
            rw [← hql] at hap
            clear hql
            clear ho3 hg3 hgl hgl2 e4
            generalize d x = dx at *
            go_wp2_with (at_builtin; refine Lib.wpList_append_run _ rfl _ _ _ _ rfl _ _ rfl rfl _ _ hap ?_)
            go_roundw
            case rel => exact ⟨k + 1, Q ++ [v], _, g3, off3, cap3, by go_num, hlt, by rw [HQ.out], O3, M3, I2, B3.out⟩
            case measure => simp [intOf]; omega
        · have F2 := Lib.hid (TE.out k (by omega) Q d I.out)
          have d0 : ¬ k < L.length := hlt
          obtain ⟨T1, T2⟩ := OwnQ.tail O.out
          have hc := O.out.form
          have hc1 : 1 ≤ cap := by
            obtain ⟨_, _, _, e, h⟩ := hc
            simp only [Value.slice.injEq] at e
            rw [← e.2.2, List.length_cons] at h
            omega
          have S2 : P ++ x :: Q = (P ++ [x]) ++ Q := by simp
          have M2 := Lib.hid (show MvAt MD Try.prog wr w.heap.size ((P ++ [x]) ++ Q).length (fnd ((P ++ [x]) ++ Q) d) by rw [← S2]; exact M.out)
          have GK := Lib.hid (show 251 = gk - 1 + (P ++ [x]).length ∧ gk - 1 < gk by
            have := nd_few F2.out.nodup F2.out.nd
            simp at this ⊢
            omega)
          clear hb S2 hc M
          by_cases h1 : cap = 1
          · have O2 := Lib.hid (T1 h1)
            subst h1
            clear T1 T2
            go_wp2_with fail
            go_roundg (gk - 1)
            case measure => exact GK.out.2
            case rel => exact ⟨P ++ [x], Q, d, g, off, 0, GK.out.1.symm, rfl, O2, M2, F2, B.out⟩
          · have O2 := Lib.hid (T2 (by omega))
            have d1 : ¬ cap = 1 := h1
            clear T1 T2
            go_wp2_with fail
            go_roundg (gk - 1)
            case measure => exact GK.out.2
            case rel => exact ⟨P ++ [x], Q, d, g, off + 1, cap - 1, GK.out.1.symm, rfl, O2, M2, F2, B.out⟩
end Go.Proofs.Ytdmakcjcocghhaa.Tpo
