/- Contracts of package topo: Cut. -/
import Derived.Test.YtdmakcjcocghhaaTY
set_option linter.unusedVariables false
namespace Go.Proofs.Ytdmakcjcocghhaa.Tpo
open Go.RowKit

/-- A list in memory, behind a change of a map alone. -/
theorem flat_kept {w w' : World} {B : Nat} {A : Option Addr} {l : List Int} {m : Nat} (h : FlAt fI w B A l) (hB : B ≤ w.heap.size) (hg : w.grownBy w' (some m)) (hm : ∃ es c, w.heap[m]? = some (.map es c)) : FlAt fI w' B A l := fun i hi => by
  obtain ⟨b, p, h1, h2, h3, h4⟩ := h i hi
  obtain ⟨es, cl, hh⟩ := hm
  have h0 := h3 0 _ rfl
  have hne : some b ≠ some m := fun e => by
    cases e
    simp [World.cell?, hh] at h0
  refine ⟨b, p, h1, h2, fun j u hu => ?_, h4⟩
  have := h3 j u hu
  have e : w'.cell? ⟨b, p + i * fI.sz + j, none⟩ = w.cell? ⟨b, p + i * fI.sz + j, none⟩ := World.cell?_of_block (a := ⟨b, p + i * fI.sz + j, none⟩) (hg.block b (Nat.lt_of_lt_of_le h2 hB) hne)
  rw [e]; exact this
/-- The graph in block gb, all of it below B. -/
def GrIn (w : World) (B gb n : Nat) (adj : Int → List Int) : Prop := gb < B ∧ ∃ F, MvAt MG Try.prog w gb n F ∧ (∀ x, F x = none → adj x = []) ∧ ∀ x v, F x = some v → ∃ A c, v = .slice A (adj x).length c ∧ FlAt fI w B A (adj x)
theorem GrAt.in {w : World} {gb n : Nat} {adj : Int → List Int} (h : GrAt w gb n adj) : GrIn w w.heap.size gb n adj := by
  obtain ⟨F, h1, h2⟩ := h; exact ⟨h1.lt, F, h1, h2⟩
theorem GrIn.at {w : World} {B gb n : Nat} {adj : Int → List Int} (h : GrIn w B gb n adj) (hB : B ≤ w.heap.size) : GrAt w gb n adj := by
  obtain ⟨_, F, h1, h2, h3⟩ := h
  exact ⟨F, h1, h2, fun x v e => by obtain ⟨A, c, e2, hf⟩ := h3 x v e; exact ⟨A, c, e2, hf.mono hB⟩⟩
theorem GrIn.below {w w' : World} {B gb n : Nat} {adj : Int → List Int} (h : GrIn w B gb n adj) (hb : Below B w w') : GrIn w' B gb n adj := by
  obtain ⟨h0, F, h1, h2, h3⟩ := h
  exact ⟨h0, F, h1.belowB hb h0, h2, fun x v e => by obtain ⟨A, c, e2, hf⟩ := h3 x v e; exact ⟨A, c, e2, hf.below hb⟩⟩
theorem GrIn.block {w : World} {B gb n : Nat} {adj : Int → List Int} (h : GrIn w B gb n adj) : ∃ es c, w.heap[gb]? = some (.map es c) := by
  obtain ⟨_, F, h1, _⟩ := h; exact h1.block
theorem GrIn.mono {w : World} {B gb n n' : Nat} {adj : Int → List Int} (h : GrIn w B gb n adj) (hn : n ≤ n') : GrIn w B gb n' adj := by
  obtain ⟨h0, F, h1, h2⟩ := h; exact ⟨h0, F, h1.mono hn, h2⟩
/-- The neighbors of c, and the graph without them. -/
theorem gr_del {w : World} {B gb n : Nat} {adj : Int → List Int} (h : GrIn w B gb n adj) (hB : B ≤ w.heap.size) (c : Int) (hc : I64 c) (ty : TypeId) :
    ∃ A k w', (Instr.lookup 54 (.map (some gb)) (.int .i64 c) false).run Try.prog w = .ok (.slice A (adj c).length k) w ∧ (Builtin.delete_ #[54, 3] ty #[.map (some gb), .int .i64 c]).run Try.prog w = .ok (.tuple #[]) w' ∧
      FlAt fI w' B A (adj c) ∧ GrIn w' B gb n (fun y => if y = c then [] else adj y) ∧ w.grownBy w' (some gb) := by
  have hbk := h.block
  obtain ⟨h0, F, h1, h2, h3⟩ := h
  have hr : (Instr.lookup 54 (.map (some gb)) (.int .i64 c) false).run Try.prog w = .ok ((F c).getD (.slice none 0 0)) w := h1.get mg_of c hc
  have hv : ∃ A k, (F c).getD (.slice none 0 0) = .slice A (adj c).length k ∧ FlAt fI w B A (adj c) := by
    cases hf : F c with
    | none => rw [h2 c hf]; exact ⟨none, 0, rfl, FlAt.nil _ _ _⟩
    | some v => obtain ⟨A, k, rfl, h4⟩ := h3 c v hf; exact ⟨A, k, rfl, h4⟩
  obtain ⟨A, k, ev, hF⟩ := hv
  rw [ev] at hr
  obtain ⟨w', hd, hm, hg⟩ := h1.del mg_of c hc ty
  refine ⟨A, k, w', hr, hd, flat_kept hF hB hg hbk, ⟨h0, _, hm, fun x e => ?_, fun x v e => ?_⟩, hg⟩
  · (try simp only at e ⊢)
    by_cases hx : x = c
    · rw [if_pos hx]
    · rw [if_neg hx] at e ⊢; exact h2 x e
  · (try simp only at e ⊢)
    by_cases hx : x = c
    · rw [if_pos hx] at e; cases e
    · rw [if_neg hx] at e ⊢
      obtain ⟨A2, k2, rfl, hB2⟩ := h3 x v e
      exact ⟨A2, k2, rfl, flat_kept hB2 hB hg hbk⟩
/-- .. and put back. -/
theorem gr_back {w : World} {B gb n : Nat} {adj : Int → List Int} {A : Option Addr} {k : Nat} (c : Int) (h : GrIn w B gb n (fun y => if y = c then [] else adj y)) (hB : B ≤ w.heap.size) (hc : I64 c) (hn : n ≤ 1000000000) (hF : FlAt fI w B A (adj c)) :
    ∃ w', (Instr.mapUpdate 54 (.map (some gb)) (.int .i64 c) (.slice A (adj c).length k)).run Try.prog w = .ok () w' ∧ GrIn w' B gb (n + 1) adj ∧ w.grownBy w' (some gb) := by
  have hbk := h.block
  obtain ⟨h0, F, h1, h2, h3⟩ := h
  obtain ⟨w', hr, hm, hg⟩ := h1.put mg_of c (.slice A (adj c).length k) hc (by unfold maxLen; omega)
  refine ⟨w', hr, ⟨h0, _, hm, fun x e => ?_, fun x v e => ?_⟩, hg⟩
  · (try simp only at e ⊢)
    by_cases hx : x = c
    · rw [if_pos hx] at e; cases e
    · rw [if_neg hx] at e
      have := h2 x e
      simp only [if_neg hx] at this
      exact this
  · (try simp only at e ⊢)
    by_cases hx : x = c
    · rw [if_pos hx] at e
      simp only [Option.some.injEq] at e
      subst e
      exact ⟨A, k, by rw [hx], by rw [hx]; exact flat_kept hF hB hg hbk⟩
    · rw [if_neg hx] at e
      obtain ⟨A2, k2, e2, hB2⟩ := h3 x v e
      simp only [if_neg hx] at e2 hB2
      exact ⟨A2, k2, e2, flat_kept hB2 hB hg hbk⟩
theorem own_kept {w w' : World} {B m : Nat} {v : Value} {l : List Int} (h : OwnI w B v l) (hg : w.grownBy w' (some m)) (hm : ∃ es c, w.heap[m]? = some (.map es c)) : OwnI w' B v l := h.kept hg (by
  right
  intro e
  obtain ⟨cur, hc⟩ := own_cells h e
  obtain ⟨es, cl, hh⟩ := hm
  rw [hh] at hc; cases hc)
theorem sel_count {S : List Int} (hn : S.Nodup) (hi : ∀ x ∈ S, Nd x) : (sel fun x => x ∈ S).length = S.length := by
  have h1 : (sel fun x => x ∈ S).Nodup := (sel_asc _).imp fun h e => by omega
  exact ((List.perm_ext_iff_of_nodup h1 hn).2 fun v => by rw [mem_sel]; exact ⟨fun h => h.2, fun h => ⟨hi v h, h⟩⟩).length_eq
/-- The critical ones among the first k of those that are reached. -/
noncomputable def crU (l : List Ed) (r : Int) (k : Nat) : List Int := open Classical in ((reach l r).take k).filter fun c => decide (Crit l r c)
theorem crU_yes {l : List Ed} {r : Int} {k : Nat} (hk : k < (reach l r).length) (h : Crit l r (reach l r)[k]) : crU l r (k + 1) = crU l r k ++ [(reach l r)[k]] := by
  unfold crU
  rw [List.take_succ_eq_append_getElem hk, List.filter_append]
  simp [h]
theorem crU_no {l : List Ed} {r : Int} {k : Nat} (hk : k < (reach l r).length) (h : ¬ Crit l r (reach l r)[k]) : crU l r (k + 1) = crU l r k := by
  unfold crU
  rw [List.take_succ_eq_append_getElem hk, List.filter_append]
  simp [h]
theorem crU_all (l : List Ed) (r : Int) : crU l r (reach l r).length = cut l r := by
  refine sel_is ?_ fun v => ?_
  · unfold crU
    rw [List.take_length]
    exact (sel_asc _).filter _
  · unfold crU
    rw [List.take_length, List.mem_filter, mem_reach]
    simp only [decide_eq_true_eq]
    exact ⟨fun h => ⟨(dist_node h.1).2, h.2⟩, fun h => ⟨h.2.1.1, h.2⟩⟩
theorem crU_len (l : List Ed) (r : Int) (k : Nat) : (crU l r k).length ≤ 251 := by
  unfold crU
  have h1 := List.length_filter_le (p := fun c => (open Classical in decide (Crit l r c))) ((reach l r).take k)
  have h2 := List.length_take_le' k (reach l r)
  have h3 : (reach l r).length ≤ 251 := sel_len _
  omega
/-- Fewer are found without c: c is critical. -/
theorem crit_count {l : List Ed} {r c : Int} {adj : Int → List Int} {S S2 : List Int} {d d2 : Int → Int} (hm : ∀ u v, v ∈ adj u ↔ Lk l u v) (fd : Fd l r S d) (hc : 0 ≤ dist l r c) (hne : c ≠ r)
    (h1 : S2.Nodup ∧ (∀ x ∈ S2, Nd x) ∧ ∀ x ∈ S2, 0 ≤ d2 x) (h2 : Nd r → IsE (fun u v => v ∈ (if u = c then [] else adj u)) r fun v => if v ∈ S2 then d2 v else -1) : S2.length < S.length ↔ Crit l r c := by
  have hr := (dist_node hc).1
  have h3 : IsE (fun u v => Lk l u v ∧ u ≠ c) r fun v => if v ∈ S2 then d2 v else -1 := by
    have e : (fun u v => v ∈ (if u = c then [] else adj u)) = fun u v => Lk l u v ∧ u ≠ c := by
      funext u v
      by_cases hu : u = c
      · simp [hu]
      · simp [hu, hm u v]
    rw [← e]; exact h2 hr
  have h4 := cut_count hc hne h3
  have h5 : (sel fun v => 0 ≤ (if v ∈ S2 then d2 v else -1)) = sel fun x => x ∈ S2 := sel_congr fun v _ => by
    by_cases hv : v ∈ S2
    · simp [hv, h1.2.2 v hv]
    · simp [hv]
  rw [h5, sel_count h1.1 h1.2.1] at h4
  have h6 := sel_count fd.nodup fd.nd
  rw [fd_reach fd] at h6
  unfold Crit
  rw [h4, ← h6]
  exact ⟨fun h => ⟨⟨hc, hne⟩, h⟩, fun h => h.2⟩

set_option maxRecDepth 100000 in
set_option maxHeartbeats 4000000 in
theorem pcut_any (A : Option Addr) (c : Nat) (l : List Ed) (r : Int) (w : World) (hl : l.length ≤ 100000) (hA : EdAt w w.heap.size A l) :
    Calls Try.prog 23 #[.slice A l.length c, .int .i64 r] w (OutN w (cut l r)) := by
  have KG := Lib.hid (pgraph_any A c l w hl hA)
  clear hA
  go_enter Try.func23, Try.ntmps23
  go_wp2_with fail
  refine KG.out.mono ?_
  rintro _ w1 ⟨gb, n, adj, rfl, hgb, hG, hn, hm, hL, hb⟩
  have B1 := Lib.hid hb
  have HM := Lib.hid hm
  have HL := Lib.hid hL
  have ND := Lib.hid (nd_adj hm)
  have KD := Lib.hid (pdist_any gb n adj r w1 hG (nd_adj hm) hL)
  have G1 := Lib.hid hG
  clear hb hG hm hL KG
  go_wp2_with fail
  refine KD.out.mono ?_
  rintro _ w2 ⟨q, m, S, d, rfl, hbb, hM, h1, h2, h3, hb⟩
  have B2 := Lib.hid (B1.out.trans (hb.mono B1.out.size))
  have FD := Lib.hid (fd_of HM.out h1 h2 h3)
  have KS := Lib.hid (sorted_any w2 hM FD.out.nodup FD.out.nd)
  have G2 := Lib.hid (G1.out.next hb)
  have M2 := Lib.hid hM
  have ngq : gb ≠ q := fun e => by
    have := hbb
    obtain ⟨F, hf, _⟩ := G1.out
    have := hf.lt
    omega
  have z2 := B2.out.size
  clear hb h1 h2 h3 hM KD G1 hbb B1
  go_wp2_with fail
  refine (keys_any q w2).mono ?_
  rintro _ w3 ⟨rfl, rfl⟩
  go_wp2_with fail
  refine KS.out.mono ?_
  rintro _ w4 ⟨v, rfl, ho, hb⟩
  have hb' : Below (w2.alloc (.cells #[.map (some q)] 52)).heap.size (w2.alloc (.cells #[.map (some q)] 52)) w4 := hb.mono (by simp)
  have G4 := Lib.hid ((G2.out.next (alloc_below _ _)).next hb')
  have M4 := Lib.hid ((M2.out.alloc _).below hb')
  have B4 := Lib.hid ((B2.out.alloc z2 _).trans (hb.mono (by omega)))
  have O4 : OwnI w4 w.heap.size v (reach l r) := by rw [← fd_reach FD.out]; exact ho.down (by omega)
  have RN := Lib.hid (fun x (hx : x ∈ reach l r) => (mem_reach l r x).1 hx)
  have RL : (reach l r).length ≤ 251 := sel_len _
  obtain ⟨A3, c3, e3, hF, _⟩ := O4.read
  subst e3
  have F4 := Lib.hid hF
  have I4 := Lib.hid G4.out.in
  have Q4 := M4.out.lt
  have C0 := Lib.hid (show crU l r 0 = [] from rfl)
  have CA := Lib.hid (crU_all l r)
  have CY := Lib.hid (fun k h => crU_yes (l := l) (r := r) (k := k) h)
  have CN := Lib.hid (fun k h => crU_no (l := l) (r := r) (k := k) h)
  have CL := Lib.hid (fun k => crU_len l r k)
  obtain ⟨G, hG⟩ : ∃ G : Nat → List Int, G = crU l r := ⟨_, rfl⟩
  rw [← hG] at C0 CA CY CN CL
  clear hb hb' ho O4 hF KS G2 M2 hG B2 z2
  generalize reach l r = R at *
  generalize cut l r = X at *
  go_wp2_with fail
  go_loopw [7, 20] (fun vo vk wr => ∃ (k : Nat) (A1 : Option Addr) (c1 : Nat), vk = .int .i64 k ∧ k ≤ R.length ∧ vo = .slice A1 (G k).length c1 ∧ Hid (OwnI wr w4.heap.size (.slice A1 (G k).length c1) (G k)) ∧ Hid (GrIn wr w4.heap.size gb (n + k) adj) ∧ Hid (DsAt wr q m (fnd S d)) ∧ Hid (FlAt fI wr w4.heap.size A3 R) ∧ Hid (w4.heap.size ≤ wr.heap.size) ∧ Below w.heap.size w wr) (fun _ vk _ => R.length - (RowKit.intOf vk).toNat)
  case atStart => exact ⟨0, none, 0, rfl, Nat.zero_le _, by rw [C0.out]; rfl, Lib.hid (by rw [C0.out]; exact OwnF.nil _ _), I4, M4, F4, Lib.hid (Nat.le_refl _), B4.out⟩
  case round =>
    clear C0 G4 M4 F4 I4
    obtain ⟨k, A1, c1, rfl, hk, rfl, O, GG, M, HF, HZ, hb⟩ := hrel
    have B := Lib.hid hb
    have hz := hb.size
    clear hb
    by_cases hlt : k < R.length
    rotate_left
    · have hk' : k = R.length := by omega
      have d0 : ¬ k < R.length := hlt
      have z4 := B4.out.size
      have FIN := Lib.hid (show OwnI wr w4.heap.size (.slice A1 (G k).length c1) X by rw [← CA.out, ← hk']; exact O.out)
      clear hk'
      go_wp2_with fail
      go_ret
      exact ⟨_, rfl, FIN.out.down (by omega), B.out⟩
    obtain ⟨b, p, rfl, _, g0, i0⟩ := fI_cell HF.out k hlt
    have RNk := Lib.hid (RN.out _ (List.getElem_mem hlt))
    have CYk := Lib.hid (CY.out k hlt)
    have CNk := Lib.hid (CN.out k hlt)
    have LG := CL.out k
    clear CY CN CA
    obtain ⟨x, hx⟩ : ∃ x, R[k] = x := ⟨_, rfl⟩
    rw [hx] at g0 i0 RNk CYk CNk
    clear hx
    have q0 : (k : Int) < (R.length : Int) := by omega
    have q1 : (0 : Int) ≤ (k : Int) := by omega
    by_cases hxr : x = r
    · have N := Lib.hid (CNk.out fun h => h.1.2 hxr)
      have t1 : (x == r) = true := by simpa using hxr
      have GM := Lib.hid (GG.out.mono (show n + k ≤ n + (k + 1) by omega))
      clear hxr CYk CNk
      go_wp2_with fail
      go_roundw
      case rel => exact ⟨k + 1, A1, c1, by go_num, hlt, by rw [N.out], Lib.hid (by rw [N.out]; exact O.out), GM, M, HF, HZ, B.out⟩
      case measure => simp [RowKit.intOf]; omega
    have t1 : (x == r) = false := by simpa using hxr
    obtain ⟨An, cn, w5, hlk, hdel, hFn, hG5, hg5⟩ := gr_del GG.out HZ.out x i0 0
    have HZ5 := Lib.hid (Nat.le_trans HZ.out hg5.size)
    have O5 := Lib.hid (own_kept O.out hg5 GG.out.block)
    have M5 := Lib.hid (M.out.kept hg5 (by simpa using Ne.symm ngq))
    have F5 := Lib.hid (flat_kept HF.out HZ.out hg5 GG.out.block)
    have B5 := Lib.hid (B.out.grown hg5 hz (fun j hj => by cases hj; exact hgb))
    have KD := Lib.hid (pdist_any gb (n + k) (fun y => if y = x then [] else adj y) r w5 (hG5.at HZ5.out) (fun u v hv => by
      by_cases hu : u = x
      · simp [hu] at hv
      · simp only [if_neg hu] at hv; exact ND.out u v hv) (fun u => by
      by_cases hu : u = x
      · simp [hu]
      · simp only [if_neg hu]; exact HL.out u))
    have G5 := Lib.hid hG5
    have FN5 := Lib.hid hFn
    clear hG5 hFn hg5 O M HF GG B
    go_wp2_with fail
    refine KD.out.mono ?_
    rintro _ w6 ⟨q2, m2, S2, d2, rfl, _, hM2, h1, h2, _, hb⟩
    have hb4 := hb.mono HZ5.out
    have HZ6 := Lib.hid (Nat.le_trans HZ5.out hb.size)
    have O6 := Lib.hid (O5.out.below hb)
    have M6 := Lib.hid (M5.out.below hb)
    have F6 := Lib.hid (F5.out.below hb4)
    have G6 := Lib.hid (G5.out.below hb4)
    have FN6 := Lib.hid (FN5.out.below hb4)
    have B6 := Lib.hid (B5.out.trans (hb.mono B5.out.size))
    have len2 := ds_len hM2 h1.1 h1.2.1
    have len1 := ds_len M6.out FD.out.nodup FD.out.nd
    have CR := Lib.hid (crit_count HM.out FD.out RNk hxr h1 h2)
    have AL : (adj x).length ≤ 1000000 := HL.out x
    clear hb hb4 hM2 h1 h2 KD O5 M5 F5 G5 FN5 B5 HZ5 hxr HZ hlk hdel g0
    by_cases hcr : S2.length < S.length
    · have t2 : decide (S2.length < S.length) = true := dt hcr
      have N := Lib.hid (CYk.out (CR.out.1 hcr))
      obtain ⟨v7, w7, hap, ho7, hb7⟩ := app_int O6.out x i0 (by omega) HZ6.out
      obtain ⟨A7, c7, e7, _⟩ := ho7.form
      subst e7
      have L7 := Lib.hid (show (G k ++ [x]).length = (G (k + 1)).length by rw [N.out])
      rw [L7.out] at hap
      obtain ⟨w8, hput, hG8, hg8⟩ := gr_back x (G6.out.below hb7) (Nat.le_trans HZ6.out hb7.size) i0 (by omega) (k := cn) (FN6.out.below hb7)
      have blk7 := (G6.out.below hb7).block
      have G8 := Lib.hid (show GrIn w8 w4.heap.size gb (n + (k + 1)) adj from hG8)
      have O8 := Lib.hid (show OwnI w8 w4.heap.size (.slice A7 (G (k + 1)).length c7) (G (k + 1)) by rw [N.out]; exact own_kept ho7 hg8 blk7)
      have M8 := Lib.hid ((M6.out.belowB hb7 Q4).kept hg8 (by simpa using Ne.symm ngq))
      have F8 := Lib.hid (flat_kept (F6.out.below hb7) (Nat.le_trans HZ6.out hb7.size) hg8 blk7)
      have HZ8 := Lib.hid (Nat.le_trans (Nat.le_trans HZ6.out hb7.size) hg8.size)
      have B8 := Lib.hid ((B6.out.trans (hb7.mono B4.out.size)).grown hg8 (Nat.le_trans B6.out.size hb7.size) (fun j hj => by cases hj; exact hgb))
      clear ho7 hb7 hG8 hg8 blk7 CYk CNk CR hcr O6 M6 F6 G6 FN6 B6 HZ6
      go_wp2_with (at_builtin; refine Lib.wpList_append_run _ rfl _ _ _ _ rfl _ _ rfl rfl _ _ hap ?_)
      go_roundw
      case rel => exact ⟨k + 1, A7, c7, by go_num, hlt, rfl, O8, G8, M8, F8, HZ8, B8.out⟩
      case measure => simp [RowKit.intOf]; omega
    · have t2 : decide (S2.length < S.length) = false := df hcr
      have N := Lib.hid (CNk.out fun h => hcr (CR.out.2 h))
      obtain ⟨w8, hput, hG8, hg8⟩ := gr_back x G6.out HZ6.out i0 (by omega) (k := cn) FN6.out
      have G8 := Lib.hid (show GrIn w8 w4.heap.size gb (n + (k + 1)) adj from hG8)
      have O8 := Lib.hid (own_kept O6.out hg8 G6.out.block)
      have M8 := Lib.hid (M6.out.kept hg8 (by simpa using Ne.symm ngq))
      have F8 := Lib.hid (flat_kept F6.out HZ6.out hg8 G6.out.block)
      have HZ8 := Lib.hid (Nat.le_trans HZ6.out hg8.size)
      have B8 := Lib.hid (B6.out.grown hg8 B6.out.size (fun j hj => by cases hj; exact hgb))
      clear hG8 hg8 CYk CNk CR hcr O6 M6 F6 G6 FN6 B6 HZ6
      go_wp2_with fail
      go_roundw
      case rel => exact ⟨k + 1, A1, c1, by go_num, hlt, by rw [N.out], Lib.hid (by rw [N.out]; exact O8.out), G8, M8, F8, HZ8, B8.out⟩
      case measure => simp [RowKit.intOf]; omega
end Go.Proofs.Ytdmakcjcocghhaa.Tpo
