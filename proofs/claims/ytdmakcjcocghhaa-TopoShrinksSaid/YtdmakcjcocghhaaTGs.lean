/- Package topo: graphOf: the walk. -/
import Derived.Test.YtdmakcjcocghhaaTGr
import Derived.Test.YtdmakcjcocghhaaTV
set_option linter.unusedVariables false
namespace Go.Proofs.Ytdmakcjcocghhaa.Tpo
open Go.RowKit

theorem at_zero {o : Oper} {r : List Oper} : (o :: r).toArray[0]? = some o := rfl
theorem at_succ {x o : Oper} {r : List Oper} {n : Nat} (h : r.toArray[n]? = some o) : (x :: r).toArray[n + 1]? = some o := by simpa using h
theorem mv_block {κ : Type} {M : MvTy κ} {P : Program} {w w' : World} {b n : Nat} {f : κ → Option Value} (h : MvAt M P w b n f) (e : w'.heap[b]? = w.heap[b]?) : MvAt M P w' b n f := by
  obtain ⟨D, ⟨es, clock, h1, h2⟩, h3⟩ := h
  exact ⟨D, ⟨es, clock, e.trans h1, h2⟩, h3⟩
theorem GrB.kept {w w' : World} {B gb n m : Nat} {F : Int → Option Value} {adj : Int → List Int} (h : GrB w B gb n F adj) (hg : w.grownBy w' (some m)) (hm : ∃ es c, w.heap[m]? = some (.map es c)) (hne : gb ≠ m) : GrB w' B gb n F adj := by
  obtain ⟨es, c, hb⟩ := hm
  exact ⟨h.mp.kept hg (by simpa using hne), h.no, fun x v e => (h.own x v e).kept hg (by
    right
    intro e2
    obtain ⟨cur, hc⟩ := own_cells (h.own x v e) e2
    rw [hb] at hc; cases hc), h.apart⟩
/-- One neighbor more, in words. -/
def adj1 (adj : Int → List Int) (u v : Int) : Int → List Int := fun y => if y = u then adj u ++ [v] else adj y
theorem mem_adj1 (adj : Int → List Int) (u v a b : Int) : b ∈ adj1 adj u v a ↔ b ∈ adj a ∨ (a = u ∧ b = v) := by
  unfold adj1
  by_cases h : a = u
  · subst h; simp
  · simp [h]
theorem adj2_len {adj : Int → List Int} {u v : Int} (h : u ≠ v) {k : Nat} (hk : ∀ z, (adj z).length ≤ k) (z : Int) : (adj1 (adj1 adj u v) v u z).length ≤ k + 1 := by
  have := hk z
  have hv := hk v
  have hu := hk u
  unfold adj1
  by_cases h1 : z = v
  · subst h1
    rw [if_pos rfl, if_neg (Ne.symm h)]
    simp; omega
  · rw [if_neg h1]
    by_cases h2 : z = u
    · subst h2; rw [if_pos rfl]; simp; omega
    · rw [if_neg h2]; omega
theorem lnk_sm2 {x u : Ed} (h : lnk x = u) (a b : Int) : Sm x a b ↔ (a = u.1 ∧ b = u.2) ∨ (a = u.2 ∧ b = u.1) := by
  obtain ⟨x, y⟩ := x
  subst h
  unfold lnk Sm
  simp only
  split <;> simp only <;> omega
theorem lnk_ne {x u : Ed} (h : lnk x = u) (hv : Vd x) : u.1 ≠ u.2 := by
  have := hv.2
  subst h
  unfold lnk
  split
  · exact this
  · exact fun e => this e.symm
/-- What graphOf hands back. -/
def OutGr (w : World) (l : List Ed) (e : Ending) (w' : World) : Prop := ∃ b n adj, e = .returned (.map (some b)) ∧ w.heap.size ≤ b ∧ GrAt w' b n adj ∧ n ≤ 1000000 ∧ (∀ u v, v ∈ adj u ↔ Lk l u v) ∧ (∀ u, (adj u).length ≤ 1000000) ∧ Below w.heap.size w w'
/-- The graph of the first k links, in memory, and the links seen. -/
structure Gk (w wr : World) (l : List Ed) (k n : Nat) (F : Int → Option Value) (adj : Int → List Int) : Prop where
  gr : GrB wr (w.heap.size + 2) w.heap.size n F adj
  nn : n ≤ 2 * k
  mem : ∀ u v, v ∈ adj u ↔ Lk (l.take k) u v
  len : ∀ u, (adj u).length ≤ k
  seen : ∃ s, SnAt wr (w.heap.size + 1) k (sne s) ∧ ∀ e : Ed, (∃ y ∈ s, Sm y e.1 e.2) ↔ Lk (l.take k) e.1 e.2
theorem Gk.next {w wr wr' : World} {l : List Ed} {k n : Nat} {F : Int → Option Value} {adj : Int → List Int} (h : Gk w wr l k n F adj) (hb : Below wr.heap.size wr wr') : Gk w wr' l k n F adj :=
  ⟨h.gr.next hb, h.nn, h.mem, h.len, by obtain ⟨s, h1, h2⟩ := h.seen; exact ⟨s, h1.below hb, h2⟩⟩
theorem Gk.more {w wr : World} {l : List Ed} {k n : Nat} {F : Int → Option Value} {adj : Int → List Int} (h : Gk w wr l k n F adj) (he : ∀ a b, Lk (l.take (k + 1)) a b ↔ Lk (l.take k) a b) : Gk w wr l (k + 1) n F adj :=
  ⟨h.gr, by have := h.nn; omega, fun u v => (h.mem u v).trans (he u v).symm, fun u => Nat.le_succ_of_le (h.len u), by obtain ⟨s, h1, h2⟩ := h.seen; exact ⟨s, h1.mono (Nat.le_succ _), fun e => (h2 e).trans (he e.1 e.2).symm⟩⟩

set_option maxRecDepth 100000 in
set_option maxHeartbeats 8000000 in
theorem pgraph_any (A : Option Addr) (c : Nat) (l : List Ed) (w : World) (hl : l.length ≤ 100000) (hA : EdAt w w.heap.size A l) :
    Calls Try.prog 41 #[.slice A l.length c] w (OutGr w l) := by
  have HA := Lib.hid hA
  clear hA
  have hmm := @run_makeMap Try.prog
  have LT := Lib.hid (fun (k : Nat) (h : k < l.length) a b => lk_take l k h a b)
  have LE := Lib.hid (show l.take l.length = l from List.take_length)
  have G0 := Lib.hid (show Gk w ((w.alloc (.map #[] 0)).alloc (.map #[] 0)) l 0 0 (fun _ => none) (fun _ => []) from
    ⟨⟨(MvAt.made w).alloc _, fun _ _ => rfl, (fun _ _ h => by cases h), (fun _ _ _ _ _ h => by cases h)⟩, Nat.le_refl _, fun u v => by simp [Lk], fun u => Nat.le_refl _,
      ⟨[], by have := MvAt.made (M := MS) (P := Try.prog) (w.alloc (.map #[] 0)); rw [show (w.alloc (.map #[] 0)).heap.size = w.heap.size + 1 by simp] at this; exact this.same fun x => (sne_nil x).symm, fun e => by simp [Lk]⟩⟩)
  go_enter Try.func41, Try.ntmps41
  go_wp2_with fail
  clear hmm
  go_loopw [12] (fun vk wr => ∃ (k n : Nat) (F : Int → Option Value) (adj : Int → List Int), vk = .int .i64 k ∧ k ≤ l.length ∧ Hid (Gk w wr l k n F adj) ∧ Below w.heap.size w wr) (fun vk _ => l.length - (intOf vk).toNat)
  case atStart => exact ⟨0, 0, _, _, rfl, Nat.zero_le _, G0, (alloc_below w _).alloc (by simp) _⟩
  case round =>
    clear G0
    obtain ⟨k, n, F, adj, rfl, hk, G, hb⟩ := hrel
    have B := Lib.hid hb
    have hz := hb.size
    by_cases hlt : k < l.length
    rotate_left
    · have hk' : k = l.length := by omega
      have d0 : ¬ k < l.length := hlt
      have FIN := Lib.hid (show OutGr w l (.returned (.map (some w.heap.size))) wr from ⟨_, n, adj, rfl, Nat.le_refl _, G.out.gr.gr, by have := G.out.nn; omega, fun u v => by have := G.out.mem u v; rw [hk', LE.out] at this; exact this, fun u => by have := G.out.len u; omega, B.out⟩)
      clear hb hk'
      go_wp2_with fail
      go_ret
      exact FIN.out
    obtain ⟨bb, p, rfl, hbw, g0, g1, i0, i1⟩ := ed_cell (HA.out.below hb) k hlt
    have LTk := Lib.hid (LT.out k hlt)
    clear hb LT LE
    obtain ⟨⟨x, y⟩, hx⟩ : ∃ x, l[k] = x := ⟨_, rfl⟩
    rw [hx] at g0 g1 LTk i0 i1
    simp only at g0 g1 i0 i1
    have m0 : (k : Int) < (l.length : Int) := by omega
    have m1 : (0 : Int) ≤ (k : Int) := by omega
    have IX := Lib.hid (lnk_i64 (x := (x, y)) ⟨i0, i1⟩)
    have KV := Lib.hid (fun w => (show Calls Try.prog 32 #[.agg #[.int .i64 x, .int .i64 y]] w (OutV w (.bool (decide (Vd (x, y))))) from (pvalid_any (x, y) w).mono fun _ _ h => outG_V h))
    have KL := Lib.hid (fun w => (show Calls Try.prog 33 #[.agg #[.int .i64 x, .int .i64 y]] w (OutV w (.agg #[.int .i64 (lnk (x, y)).1, .int .i64 (lnk (x, y)).2])) from plink_any (x, y) w))
    unfold OutV at KV KL
    clear hx
    obtain ⟨⟨x0, x1⟩, hu⟩ : ∃ z, lnk (x, y) = z := ⟨_, rfl⟩
    have HU := Lib.hid hu
    rw [hu] at KL IX
    simp only at KL
    clear hu
    go_wp2_with fail
    refine (KL.out _).mono ?_
    rintro _ w3 ⟨rfl, hb⟩
    have B3 := Lib.hid ((B.out.alloc hz (bxE x y)).trans (hb.mono (by simp; omega)))
    have G3 := Lib.hid ((G.out.next (alloc_below wr (bxE x y))).next hb)
    have e0 := box_at hb 0 (v := .int .i64 x) rfl
    have e1 := box_at hb 1 (v := .int .i64 y) rfl
    have hz3 := hb.size
    clear hb KL g0 g1 B G
    have hw3 : wr.heap.size < w3.heap.size := by simp at hz3; omega
    have e0 : ∀ o, (w3.alloc o).cell? ⟨wr.heap.size, 0, none⟩ = some (.int .i64 x) := fun o => ((alloc_below w3 o).cell (p := ⟨wr.heap.size, 0, none⟩) hw3).trans e0
    have e1 : ∀ o, (w3.alloc o).cell? ⟨wr.heap.size, 1, none⟩ = some (.int .i64 y) := fun o => ((alloc_below w3 o).cell (p := ⟨wr.heap.size, 1, none⟩) hw3).trans e1
    by_cases hv : Vd (x, y)
    rotate_left
    · have N := Lib.hid (show ∀ a b, Lk (l.take (k + 1)) a b ↔ Lk (l.take k) a b from fun a b => by rw [LTk.out]; exact ⟨fun h => h.elim id fun h => absurd h.1 hv, Or.inl⟩)
      rw [df hv] at KV
      clear hv LTk
      go_wp2_with fail
      refine (KV.out _).mono ?_
      rintro _ w5 ⟨rfl, hb⟩
      have B5 := Lib.hid ((B3.out.alloc B3.out.size (bxE x0 x1)).trans (hb.mono (by have := B3.out.size; simp; omega)))
      have G5 := Lib.hid (((G3.out.next (alloc_below w3 (bxE x0 x1))).next hb).more N.out)
      clear hb e0 e1
      go_wp2_with fail
      go_roundw
      case rel => exact ⟨k + 1, n, F, adj, by go_num, hlt, G5, B5.out⟩
      case measure => simp [intOf]; omega
    have HV := Lib.hid hv
    rw [dt hv] at KV
    clear hv
    go_wp2_with fail
    refine (KV.out _).mono ?_
    rintro _ w5 ⟨rfl, hb⟩
    have B5 := Lib.hid ((B3.out.alloc B3.out.size (bxE x0 x1)).trans (hb.mono (by have := B3.out.size; simp; omega)))
    have G5 := Lib.hid ((G3.out.next (alloc_below w3 (bxE x0 x1))).next hb)
    have bx5 := Lib.hid (show w5.heap[w3.heap.size]? = some (bxE x0 x1) from (hb.block w3.heap.size (by simp)).trans (blk_new w3 _))
    have f0 := box_at hb 0 (v := .int .i64 x0) rfl
    have f1 := box_at hb 1 (v := .int .i64 x1) rfl
    clear hb e0 e1 KV B3 G3 hz3
    obtain ⟨s, hs1, hs2⟩ := G5.out.seen
    have hget := sn_get hs1 x0 x1 IX.out
    by_cases hin : Lk (l.take k) x y
    · have N := Lib.hid (show ∀ a b, Lk (l.take (k + 1)) a b ↔ Lk (l.take k) a b from fun a b => by
        rw [LTk.out]
        refine ⟨fun h => h.elim id fun h => ?_, Or.inl⟩
        rcases h.2 with ⟨q1, q2⟩ | ⟨q1, q2⟩
        · simp only at q1 q2; rw [← q1, ← q2]; exact hin
        · simp only at q1 q2; rw [← q1, ← q2]; exact lk_symm hin)
      have hy := sne_yes ((hs2 (x, y)).2 hin)
      rw [HU.out] at hy
      rw [hy, show (some (Value.bool true)).getD (.bool false) = .bool true from rfl] at hget
      have G6 := Lib.hid (G5.out.more N.out)
      clear hs1 hs2 hin hy
      go_wp2_with fail
      go_roundw
      case rel => exact ⟨k + 1, n, F, adj, by go_num, hlt, G6, B5.out⟩
      case measure => simp [intOf]; omega
    have hy := sne_no (fun h => hin ((hs2 (x, y)).1 h))
    rw [HU.out] at hy
    rw [hy, show (none : Option Value).getD (.bool false) = .bool false from rfl] at hget
    obtain ⟨w6, hput, hm6, hg6⟩ := sn_put hs1 x0 x1 IX.out (by omega)
    have SX := Lib.hid (fun a => sne_snoc s (x, y) a)
    rw [HU.out] at SX
    have M6 := Lib.hid (show SnAt w6 (w.heap.size + 1) (k + 1) (sne (s ++ [(x, y)])) from hm6.same fun a => SX.out a)
    have HS := Lib.hid (show ∀ e : Ed, (∃ z ∈ s ++ [(x, y)], Sm z e.1 e.2) ↔ Lk (l.take (k + 1)) e.1 e.2 from fun e => by
      rw [LTk.out, ← hs2 e]
      constructor
      · rintro ⟨z, h1, h2⟩
        rcases List.mem_append.1 h1 with h | h
        · exact Or.inl ⟨z, h, h2⟩
        · rw [List.mem_singleton.1 h] at h2; exact Or.inr ⟨HV.out, h2⟩
      · rintro (⟨z, h1, h2⟩ | ⟨_, h2⟩)
        · exact ⟨z, List.mem_append_left _ h1, h2⟩
        · exact ⟨(x, y), by simp, h2⟩)
    have GB6 := Lib.hid (G5.out.gr.kept hg6 hs1.block (by omega))
    have B6 := Lib.hid (B5.out.grown hg6 B5.out.size (fun j hj => by cases hj; omega))
    have bx6 := Lib.hid (show w6.heap[w3.heap.size]? = some (bxE x0 x1) from (hg6.block w3.heap.size (by have := blk_lt bx5.out; omega) (by intro e; have e2 := Option.some.inj e; obtain ⟨es, cl, hh⟩ := hs1.block; rw [← e2, bx5.out] at hh; cases hh)).trans bx5.out)
    have GL := Lib.hid G5.out.len
    have GN := G5.out.nn
    have GM := Lib.hid G5.out.mem
    have UV := Lib.hid (lnk_ne HU.out HV.out)
    have US := Lib.hid (fun a b => lnk_sm2 HU.out a b)
    clear hs1 hs2 hin hy hm6 hg6 SX G5 bx5
    go_upto_region 9 with fail
    clear f0 f1 hget hput
    have z6 := M6.out.lt
    have D6 := below_drewN (Below.refl w6.heap.size w6) 1
    obtain ⟨A1, c1, A2, c2, wa, wb, hlk, hap, hmu, hgr, hbl, hlv, hlv2⟩ := grb_step (B0 := w.heap.size) (GB6.out.next D6) x0 x1 IX.out.1 IX.out.2 (by have := GL.out x0; omega) (by omega) (show w.heap.size + 2 ≤ w6.heap.size by omega) (Nat.le_refl _) (by omega)
    have bd : (w6.drewN 1).heap[w3.heap.size]? = some (bxE x0 x1) := bx6.out
    have bl := blk_lt bd
    have ng : w3.heap.size ≠ w.heap.size := fun e => by
      obtain ⟨es, cl, hh⟩ := GB6.out.mp.block
      rw [← e, bx6.out] at hh; cases hh
    have nc : ∀ cs fr, (w6.drewN 1).heap[w3.heap.size]? ≠ some (.cells cs 3 fr) := fun cs fr e => by rw [bd] at e; simp at e
    have ba : wa.heap[w3.heap.size]? = some (bxE x0 x1) := (hlv2 _ bl ng nc).trans bd
    have bb7 : wb.heap[w3.heap.size]? = some (bxE x0 x1) := (hlv _ bl ng nc).trans bd
    have S0 : w6.drew.cell? ⟨w3.heap.size, 0, none⟩ = some (.int .i64 x0) ∧ w6.drew.cell? ⟨w3.heap.size, 1, none⟩ = some (.int .i64 x1) := ⟨blk_cell bd 0 rfl, blk_cell bd 1 rfl⟩
    have S1 : (w6.drew.alloc (.cells #[.int .i64 x1] 3)).cell? ⟨w3.heap.size, 0, none⟩ = some (.int .i64 x0) ∧ (w6.drew.alloc (.cells #[.int .i64 x1] 3)).cell? ⟨w3.heap.size, 1, none⟩ = some (.int .i64 x1) := ⟨blk_cell (blk_alloc bd _) 0 rfl, blk_cell (blk_alloc bd _) 1 rfl⟩
    have S2 : wa.cell? ⟨w3.heap.size, 0, none⟩ = some (.int .i64 x0) ∧ wa.cell? ⟨w3.heap.size, 1, none⟩ = some (.int .i64 x1) := ⟨blk_cell ba 0 rfl, blk_cell ba 1 rfl⟩
    have S3 : wb.cell? ⟨w3.heap.size, 0, none⟩ = some (.int .i64 x0) ∧ wb.cell? ⟨w3.heap.size, 1, none⟩ = some (.int .i64 x1) := ⟨blk_cell bb7 0 rfl, blk_cell bb7 1 rfl⟩
    have hl0 : (Instr.lookup 54 (.map (some w.heap.size)) (.int .i64 x0) false).run Try.prog w6.drew = .ok (.slice A1 (adj x0).length c1) w6.drew := hlk _ (Below.refl _ _)
    have hl1 : (Instr.lookup 54 (.map (some w.heap.size)) (.int .i64 x0) false).run Try.prog (w6.drew.alloc (.cells #[.int .i64 x1] 3)) = .ok (.slice A1 (adj x0).length c1) (w6.drew.alloc (.cells #[.int .i64 x1] 3)) := hlk _ (alloc_below _ _)
    have hl2 : (Instr.lookup 54 (.map (some w.heap.size)) (.int .i64 x0) false).run Try.prog (w6.alloc (.cells #[.int .i64 x1] 3)).drew = .ok (.slice A1 (adj x0).length c1) (w6.alloc (.cells #[.int .i64 x1] 3)).drew := hl1
    have M7 := Lib.hid (show SnAt wb (w.heap.size + 1) (k + 1) (sne (s ++ [(x, y)])) from mv_block M6.out ((hlv _ z6 (by omega) (fun cs fr e => by
      obtain ⟨es, cl, hh⟩ := M6.out.block
      have e2 : w6.heap[w.heap.size + 1]? = some (.cells cs 3 fr) := e
      rw [hh] at e2; cases e2))))
    have B7 := Lib.hid (B6.out.trans ((below_drewN (Below.refl w.heap.size w6) 1).trans hbl))
    have GB7 := Lib.hid hgr
    have X7 := Lib.hid bb7
    clear hlk hgr hbl hlv hlv2 bd bl ba bb7 nc ng D6 GB6 M6 B6 bx6
    go_cut [] from 28 to 38 (fun wx => wx = wb)
    case first =>
      refine wp_region_held_drew (S := (fun wy : World => wy.cell? ⟨w3.heap.size, 0, none⟩ = some (.int .i64 x0) ∧ wy.cell? ⟨w3.heap.size, 1, none⟩ = some (.int .i64 x1))) (by kernel_rfl) S0 (fun hHeld => ?_)
      refine wpAnyH_take (i := 0) (v := (.map (some w.heap.size))) at_zero (by kernel_rfl) (by kernel_rfl) (by kernel_rfl) (fun _ _ _ h => h) (Or.inl ⟨by kernel_rfl, fun wy hSw => ?_⟩) (by assumption) ?_
      · (try dsimp only at hSw); go_simp
      try simp only [Act.put, List.setIfInBounds_toArray, List.set_cons_zero, List.set_cons_succ]
      refine wpAnyH_take (i := 1) (v := (.pointer (some ⟨w3.heap.size, 0, none⟩))) (at_succ at_zero) (by kernel_rfl) (by kernel_rfl) (by kernel_rfl) (fun _ _ _ h => h) (Or.inl ⟨by kernel_rfl, fun wy hSw => ?_⟩) (by assumption) ?_
      · (try dsimp only at hSw); go_simp
      try simp only [Act.put, List.setIfInBounds_toArray, List.set_cons_zero, List.set_cons_succ]
      refine wpAnyH_take (i := 2) (v := (.int .i64 x0)) (at_succ (at_succ at_zero)) (by kernel_rfl) (by kernel_rfl) (by kernel_rfl) (fun _ _ _ h => h) (Or.inl ⟨by kernel_rfl, fun wy hSw => ?_⟩) (by assumption) ?_
      · (try dsimp only at hSw); go_simp
      try simp only [Act.put, List.setIfInBounds_toArray, List.set_cons_zero, List.set_cons_succ]
      refine wpAnyH_take (i := 3) (v := (.map (some w.heap.size))) (at_succ (at_succ (at_succ at_zero))) (by kernel_rfl) (by kernel_rfl) (by kernel_rfl) (fun _ _ _ h => h) (Or.inl ⟨by kernel_rfl, fun wy hSw => ?_⟩) (by assumption) ?_
      · (try dsimp only at hSw); go_simp
      try simp only [Act.put, List.setIfInBounds_toArray, List.set_cons_zero, List.set_cons_succ]
      refine wpAnyH_take (i := 4) (v := (.pointer (some ⟨w3.heap.size, 0, none⟩))) (at_succ (at_succ (at_succ (at_succ at_zero)))) (by kernel_rfl) (by kernel_rfl) (by kernel_rfl) (fun _ _ _ h => h) (Or.inl ⟨by kernel_rfl, fun wy hSw => ?_⟩) (by assumption) ?_
      · (try dsimp only at hSw); go_simp
      try simp only [Act.put, List.setIfInBounds_toArray, List.set_cons_zero, List.set_cons_succ]
      refine wpAnyH_take (i := 5) (v := (.int .i64 x0)) (at_succ (at_succ (at_succ (at_succ (at_succ at_zero))))) (by kernel_rfl) (by kernel_rfl) (by kernel_rfl) (fun _ _ _ h => h) (Or.inl ⟨by kernel_rfl, fun wy hSw => ?_⟩) (by assumption) ?_
      · (try dsimp only at hSw); go_simp
      try simp only [Act.put, List.setIfInBounds_toArray, List.set_cons_zero, List.set_cons_succ]
      refine wpAnyH_take (i := 7) (v := (.pointer (some ⟨w3.heap.size, 1, none⟩))) (at_succ (at_succ (at_succ (at_succ (at_succ (at_succ (at_succ at_zero))))))) (by kernel_rfl) (by kernel_rfl) (by kernel_rfl) (fun _ _ _ h => h) (Or.inl ⟨by kernel_rfl, fun wy hSw => ?_⟩) (by assumption) ?_
      · (try dsimp only at hSw); go_simp
      try simp only [Act.put, List.setIfInBounds_toArray, List.set_cons_zero, List.set_cons_succ]
      refine wpAnyH_take (i := 8) (v := (.int .i64 x1)) (at_succ (at_succ (at_succ (at_succ (at_succ (at_succ (at_succ (at_succ at_zero)))))))) (by kernel_rfl) (by kernel_rfl) (by kernel_rfl) (fun _ _ _ h => h) (Or.inl ⟨by kernel_rfl, fun wy hSw => ?_⟩) (by assumption) ?_
      · (try dsimp only at hSw); go_simp
      try simp only [Act.put, List.setIfInBounds_toArray, List.set_cons_zero, List.set_cons_succ]
      refine wpAnyH_ready (rs := [6, 9]) (by kernel_rfl) (by simp) ?_
      refine AllReadyH.cons (at_succ (at_succ (at_succ (at_succ (at_succ (at_succ at_zero)))))) (fun K hK => ?_) (AllReadyH.cons (at_succ (at_succ (at_succ (at_succ (at_succ (at_succ (at_succ (at_succ (at_succ at_zero))))))))) (fun K hK => ?_) AllReadyH.nil)
      · skip
        rw [if_pos (by kernel_rfl)]
        go_simp
        refine hK.out _ _ S0 (fun hHeld => ?_)
        clear hK K
        try simp only [Act.put, List.setIfInBounds_toArray, List.set_cons_zero, List.set_cons_succ]
        refine wpAnyH_ready (rs := [9]) (by kernel_rfl) (by simp) ?_
        refine AllReadyH.cons (at_succ (at_succ (at_succ (at_succ (at_succ (at_succ (at_succ (at_succ (at_succ at_zero))))))))) (fun K hK => ?_) AllReadyH.nil
        rw [if_pos (by kernel_rfl)]
        go_simp
        refine hK.out _ _ S1 (fun hHeld => ?_)
        clear hK K
        try simp only [Act.put, List.setIfInBounds_toArray, List.set_cons_zero, List.set_cons_succ]
        refine wpAnyH_ready (rs := [10]) (by kernel_rfl) (by simp) ?_
        refine AllReadyH.cons (at_succ (at_succ (at_succ (at_succ (at_succ (at_succ (at_succ (at_succ (at_succ (at_succ at_zero)))))))))) (fun K hK => ?_) AllReadyH.nil
        rw [if_pos (by kernel_rfl)]
        refine Lib.wp_append_run _ _ _ _ _ rfl _ _ rfl rfl _ _ hap ?_
        refine hK.out _ _ S2 (fun hHeld => ?_)
        clear hK K
        try simp only [Act.put, List.setIfInBounds_toArray, List.set_cons_zero, List.set_cons_succ]
        refine wpAnyH_ready (rs := [11]) (by kernel_rfl) (by simp) ?_
        refine AllReadyH.cons (at_succ (at_succ (at_succ (at_succ (at_succ (at_succ (at_succ (at_succ (at_succ (at_succ (at_succ at_zero))))))))))) (fun K hK => ?_) AllReadyH.nil
        rw [if_pos (by kernel_rfl)]
        go_simp
        refine hK.out _ _ S3 (fun hHeld => ?_)
        clear hK K
        try simp only [Act.put, List.setIfInBounds_toArray, List.set_cons_zero, List.set_cons_succ]
        refine wpAnyH_done (by kernel_rfl) ?_ _
        go_wp2_with fail
        go_meet
        exact rfl
      · skip
        rw [if_pos (by kernel_rfl)]
        go_simp
        refine hK.out _ _ S1 (fun hHeld => ?_)
        clear hK K
        try simp only [Act.put, List.setIfInBounds_toArray, List.set_cons_zero, List.set_cons_succ]
        refine wpAnyH_ready (rs := [6]) (by kernel_rfl) (by simp) ?_
        refine AllReadyH.cons (at_succ (at_succ (at_succ (at_succ (at_succ (at_succ at_zero)))))) (fun K hK => ?_) AllReadyH.nil
        rw [if_pos (by kernel_rfl)]
        go_simp
        refine hK.out _ _ S1 (fun hHeld => ?_)
        clear hK K
        try simp only [Act.put, List.setIfInBounds_toArray, List.set_cons_zero, List.set_cons_succ]
        refine wpAnyH_ready (rs := [10]) (by kernel_rfl) (by simp) ?_
        refine AllReadyH.cons (at_succ (at_succ (at_succ (at_succ (at_succ (at_succ (at_succ (at_succ (at_succ (at_succ at_zero)))))))))) (fun K hK => ?_) AllReadyH.nil
        rw [if_pos (by kernel_rfl)]
        refine Lib.wp_append_run _ _ _ _ _ rfl _ _ rfl rfl _ _ hap ?_
        refine hK.out _ _ S2 (fun hHeld => ?_)
        clear hK K
        try simp only [Act.put, List.setIfInBounds_toArray, List.set_cons_zero, List.set_cons_succ]
        refine wpAnyH_ready (rs := [11]) (by kernel_rfl) (by simp) ?_
        refine AllReadyH.cons (at_succ (at_succ (at_succ (at_succ (at_succ (at_succ (at_succ (at_succ (at_succ (at_succ (at_succ at_zero))))))))))) (fun K hK => ?_) AllReadyH.nil
        rw [if_pos (by kernel_rfl)]
        go_simp
        refine hK.out _ _ S3 (fun hHeld => ?_)
        clear hK K
        try simp only [Act.put, List.setIfInBounds_toArray, List.set_cons_zero, List.set_cons_succ]
        refine wpAnyH_done (by kernel_rfl) ?_ _
        go_wp2_with fail
        go_meet
        exact rfl
    case rest =>
    subst hcut
    clear hl0 hl1 hl2 hap hmu S0 S1 S2 S3
    have HG := Lib.hid (show GrB wc (w.heap.size + 2) w.heap.size (n + 1) _ (adj1 adj x0 x1) from GB7.out)
    obtain ⟨J, hJ⟩ : ∃ J, J = adj1 adj x0 x1 := ⟨_, rfl⟩
    have HJ := Lib.hid hJ
    rw [← hJ] at HG
    have JL : (J x1).length ≤ 100001 := by
      rw [hJ]
      have := GL.out x1
      unfold adj1
      rw [if_neg (Ne.symm UV.out)]; omega
    clear hJ GB7
    go_upto_region 10 with fail
    have z6 := M7.out.lt
    have D6 := below_drewN (Below.refl wc.heap.size wc) 1
    obtain ⟨A3, c3, A4, c4, wd, we, hlk, hap, hmu, hgr, hbl, hlv, hlv2⟩ := grb_step (B0 := w.heap.size) (HG.out.next D6) x1 x0 IX.out.2 IX.out.1 (by omega) (by omega) (show w.heap.size + 2 ≤ wc.heap.size by omega) (Nat.le_refl _) (by omega)
    have bd : (wc.drewN 1).heap[w3.heap.size]? = some (bxE x0 x1) := X7.out
    have bl := blk_lt bd
    have ng : w3.heap.size ≠ w.heap.size := fun e => by
      obtain ⟨es, cl, hh⟩ := HG.out.mp.block
      rw [← e, X7.out] at hh; cases hh
    have nc : ∀ cs fr, (wc.drewN 1).heap[w3.heap.size]? ≠ some (.cells cs 3 fr) := fun cs fr e => by rw [bd] at e; simp at e
    have ba : wd.heap[w3.heap.size]? = some (bxE x0 x1) := (hlv2 _ bl ng nc).trans bd
    have bb7 : we.heap[w3.heap.size]? = some (bxE x0 x1) := (hlv _ bl ng nc).trans bd
    have S0 : wc.drew.cell? ⟨w3.heap.size, 0, none⟩ = some (.int .i64 x0) ∧ wc.drew.cell? ⟨w3.heap.size, 1, none⟩ = some (.int .i64 x1) := ⟨blk_cell bd 0 rfl, blk_cell bd 1 rfl⟩
    have S1 : (wc.drew.alloc (.cells #[.int .i64 x0] 3)).cell? ⟨w3.heap.size, 0, none⟩ = some (.int .i64 x0) ∧ (wc.drew.alloc (.cells #[.int .i64 x0] 3)).cell? ⟨w3.heap.size, 1, none⟩ = some (.int .i64 x1) := ⟨blk_cell (blk_alloc bd _) 0 rfl, blk_cell (blk_alloc bd _) 1 rfl⟩
    have S2 : wd.cell? ⟨w3.heap.size, 0, none⟩ = some (.int .i64 x0) ∧ wd.cell? ⟨w3.heap.size, 1, none⟩ = some (.int .i64 x1) := ⟨blk_cell ba 0 rfl, blk_cell ba 1 rfl⟩
    have S3 : we.cell? ⟨w3.heap.size, 0, none⟩ = some (.int .i64 x0) ∧ we.cell? ⟨w3.heap.size, 1, none⟩ = some (.int .i64 x1) := ⟨blk_cell bb7 0 rfl, blk_cell bb7 1 rfl⟩
    have hl0 : (Instr.lookup 54 (.map (some w.heap.size)) (.int .i64 x1) false).run Try.prog wc.drew = .ok (.slice A3 (J x1).length c3) wc.drew := hlk _ (Below.refl _ _)
    have hl1 : (Instr.lookup 54 (.map (some w.heap.size)) (.int .i64 x1) false).run Try.prog (wc.drew.alloc (.cells #[.int .i64 x0] 3)) = .ok (.slice A3 (J x1).length c3) (wc.drew.alloc (.cells #[.int .i64 x0] 3)) := hlk _ (alloc_below _ _)
    have hl2 : (Instr.lookup 54 (.map (some w.heap.size)) (.int .i64 x1) false).run Try.prog (wc.alloc (.cells #[.int .i64 x0] 3)).drew = .ok (.slice A3 (J x1).length c3) (wc.alloc (.cells #[.int .i64 x0] 3)).drew := hl1
    have M8 : SnAt we (w.heap.size + 1) (k + 1) (sne (s ++ [(x, y)])) := mv_block M7.out ((hlv _ z6 (by omega) (fun cs fr e => by
      obtain ⟨es, cl, hh⟩ := M7.out.block
      have e2 : wc.heap[w.heap.size + 1]? = some (.cells cs 3 fr) := e
      rw [hh] at e2; cases e2)))
    have B8 := Lib.hid (B7.out.trans ((below_drewN (Below.refl w.heap.size wc) 1).trans hbl))
    have GF := Lib.hid (show ∃ F2, Gk w we l (k + 1) (n + 2) F2 (adj1 J x1 x0) from ⟨_, hgr, by omega, fun a b => by
      rw [mem_adj1, HJ.out, mem_adj1, GM.out, LTk.out, US.out]
      constructor
      · rintro ((h | h) | h)
        · exact Or.inl h
        · exact Or.inr ⟨HV.out, Or.inl h⟩
        · exact Or.inr ⟨HV.out, Or.inr h⟩
      · rintro (h | ⟨_, h | h⟩)
        · exact Or.inl (Or.inl h)
        · exact Or.inl (Or.inr h)
        · exact Or.inr h, fun z => by rw [HJ.out]; exact adj2_len UV.out GL.out z, ⟨_, M8, HS.out⟩⟩)
    clear hlk hgr hbl hlv hlv2 bd bl ba bb7 nc ng D6 HG M7 M8 B7 X7
    refine wp_region_held_drew (S := (fun wy : World => wy.cell? ⟨w3.heap.size, 0, none⟩ = some (.int .i64 x0) ∧ wy.cell? ⟨w3.heap.size, 1, none⟩ = some (.int .i64 x1))) (by kernel_rfl) S0 (fun hHeld => ?_)
    refine wpAnyH_take (i := 0) (v := (.map (some w.heap.size))) at_zero (by kernel_rfl) (by kernel_rfl) (by kernel_rfl) (fun _ _ _ h => h) (Or.inl ⟨by kernel_rfl, fun wy hSw => ?_⟩) (by assumption) ?_
    · (try dsimp only at hSw); go_simp
    try simp only [Act.put, List.setIfInBounds_toArray, List.set_cons_zero, List.set_cons_succ]
    refine wpAnyH_take (i := 1) (v := (.pointer (some ⟨w3.heap.size, 1, none⟩))) (at_succ at_zero) (by kernel_rfl) (by kernel_rfl) (by kernel_rfl) (fun _ _ _ h => h) (Or.inl ⟨by kernel_rfl, fun wy hSw => ?_⟩) (by assumption) ?_
    · (try dsimp only at hSw); go_simp
    try simp only [Act.put, List.setIfInBounds_toArray, List.set_cons_zero, List.set_cons_succ]
    refine wpAnyH_take (i := 2) (v := (.int .i64 x1)) (at_succ (at_succ at_zero)) (by kernel_rfl) (by kernel_rfl) (by kernel_rfl) (fun _ _ _ h => h) (Or.inl ⟨by kernel_rfl, fun wy hSw => ?_⟩) (by assumption) ?_
    · (try dsimp only at hSw); go_simp
    try simp only [Act.put, List.setIfInBounds_toArray, List.set_cons_zero, List.set_cons_succ]
    refine wpAnyH_take (i := 3) (v := (.map (some w.heap.size))) (at_succ (at_succ (at_succ at_zero))) (by kernel_rfl) (by kernel_rfl) (by kernel_rfl) (fun _ _ _ h => h) (Or.inl ⟨by kernel_rfl, fun wy hSw => ?_⟩) (by assumption) ?_
    · (try dsimp only at hSw); go_simp
    try simp only [Act.put, List.setIfInBounds_toArray, List.set_cons_zero, List.set_cons_succ]
    refine wpAnyH_take (i := 4) (v := (.pointer (some ⟨w3.heap.size, 1, none⟩))) (at_succ (at_succ (at_succ (at_succ at_zero)))) (by kernel_rfl) (by kernel_rfl) (by kernel_rfl) (fun _ _ _ h => h) (Or.inl ⟨by kernel_rfl, fun wy hSw => ?_⟩) (by assumption) ?_
    · (try dsimp only at hSw); go_simp
    try simp only [Act.put, List.setIfInBounds_toArray, List.set_cons_zero, List.set_cons_succ]
    refine wpAnyH_take (i := 5) (v := (.int .i64 x1)) (at_succ (at_succ (at_succ (at_succ (at_succ at_zero))))) (by kernel_rfl) (by kernel_rfl) (by kernel_rfl) (fun _ _ _ h => h) (Or.inl ⟨by kernel_rfl, fun wy hSw => ?_⟩) (by assumption) ?_
    · (try dsimp only at hSw); go_simp
    try simp only [Act.put, List.setIfInBounds_toArray, List.set_cons_zero, List.set_cons_succ]
    refine wpAnyH_take (i := 7) (v := (.pointer (some ⟨w3.heap.size, 0, none⟩))) (at_succ (at_succ (at_succ (at_succ (at_succ (at_succ (at_succ at_zero))))))) (by kernel_rfl) (by kernel_rfl) (by kernel_rfl) (fun _ _ _ h => h) (Or.inl ⟨by kernel_rfl, fun wy hSw => ?_⟩) (by assumption) ?_
    · (try dsimp only at hSw); go_simp
    try simp only [Act.put, List.setIfInBounds_toArray, List.set_cons_zero, List.set_cons_succ]
    refine wpAnyH_take (i := 8) (v := (.int .i64 x0)) (at_succ (at_succ (at_succ (at_succ (at_succ (at_succ (at_succ (at_succ at_zero)))))))) (by kernel_rfl) (by kernel_rfl) (by kernel_rfl) (fun _ _ _ h => h) (Or.inl ⟨by kernel_rfl, fun wy hSw => ?_⟩) (by assumption) ?_
    · (try dsimp only at hSw); go_simp
    try simp only [Act.put, List.setIfInBounds_toArray, List.set_cons_zero, List.set_cons_succ]
    refine wpAnyH_ready (rs := [6, 9]) (by kernel_rfl) (by simp) ?_
    refine AllReadyH.cons (at_succ (at_succ (at_succ (at_succ (at_succ (at_succ at_zero)))))) (fun K hK => ?_) (AllReadyH.cons (at_succ (at_succ (at_succ (at_succ (at_succ (at_succ (at_succ (at_succ (at_succ at_zero))))))))) (fun K hK => ?_) AllReadyH.nil)
    · skip
      rw [if_pos (by kernel_rfl)]
      go_simp
      refine hK.out _ _ S0 (fun hHeld => ?_)
      clear hK K
      try simp only [Act.put, List.setIfInBounds_toArray, List.set_cons_zero, List.set_cons_succ]
      refine wpAnyH_ready (rs := [9]) (by kernel_rfl) (by simp) ?_
      refine AllReadyH.cons (at_succ (at_succ (at_succ (at_succ (at_succ (at_succ (at_succ (at_succ (at_succ at_zero))))))))) (fun K hK => ?_) AllReadyH.nil
      rw [if_pos (by kernel_rfl)]
      go_simp
      refine hK.out _ _ S1 (fun hHeld => ?_)
      clear hK K
      try simp only [Act.put, List.setIfInBounds_toArray, List.set_cons_zero, List.set_cons_succ]
      refine wpAnyH_ready (rs := [10]) (by kernel_rfl) (by simp) ?_
      refine AllReadyH.cons (at_succ (at_succ (at_succ (at_succ (at_succ (at_succ (at_succ (at_succ (at_succ (at_succ at_zero)))))))))) (fun K hK => ?_) AllReadyH.nil
      rw [if_pos (by kernel_rfl)]
      refine Lib.wp_append_run _ _ _ _ _ rfl _ _ rfl rfl _ _ hap ?_
      refine hK.out _ _ S2 (fun hHeld => ?_)
      clear hK K
      try simp only [Act.put, List.setIfInBounds_toArray, List.set_cons_zero, List.set_cons_succ]
      refine wpAnyH_ready (rs := [11]) (by kernel_rfl) (by simp) ?_
      refine AllReadyH.cons (at_succ (at_succ (at_succ (at_succ (at_succ (at_succ (at_succ (at_succ (at_succ (at_succ (at_succ at_zero))))))))))) (fun K hK => ?_) AllReadyH.nil
      rw [if_pos (by kernel_rfl)]
      go_simp
      refine hK.out _ _ S3 (fun hHeld => ?_)
      clear hK K
      try simp only [Act.put, List.setIfInBounds_toArray, List.set_cons_zero, List.set_cons_succ]
      refine wpAnyH_done (by kernel_rfl) ?_ _
      go_wp2_with fail
      go_roundw
      case rel =>
        obtain ⟨F2, G2⟩ := GF.out
        exact ⟨k + 1, n + 2, F2, adj1 J x1 x0, by go_num, hlt, Lib.hid G2, B8.out⟩
      case measure => simp [intOf]; omega
    · skip
      rw [if_pos (by kernel_rfl)]
      go_simp
      refine hK.out _ _ S1 (fun hHeld => ?_)
      clear hK K
      try simp only [Act.put, List.setIfInBounds_toArray, List.set_cons_zero, List.set_cons_succ]
      refine wpAnyH_ready (rs := [6]) (by kernel_rfl) (by simp) ?_
      refine AllReadyH.cons (at_succ (at_succ (at_succ (at_succ (at_succ (at_succ at_zero)))))) (fun K hK => ?_) AllReadyH.nil
      rw [if_pos (by kernel_rfl)]
      go_simp
      refine hK.out _ _ S1 (fun hHeld => ?_)
      clear hK K
      try simp only [Act.put, List.setIfInBounds_toArray, List.set_cons_zero, List.set_cons_succ]
      refine wpAnyH_ready (rs := [10]) (by kernel_rfl) (by simp) ?_
      refine AllReadyH.cons (at_succ (at_succ (at_succ (at_succ (at_succ (at_succ (at_succ (at_succ (at_succ (at_succ at_zero)))))))))) (fun K hK => ?_) AllReadyH.nil
      rw [if_pos (by kernel_rfl)]
      refine Lib.wp_append_run _ _ _ _ _ rfl _ _ rfl rfl _ _ hap ?_
      refine hK.out _ _ S2 (fun hHeld => ?_)
      clear hK K
      try simp only [Act.put, List.setIfInBounds_toArray, List.set_cons_zero, List.set_cons_succ]
      refine wpAnyH_ready (rs := [11]) (by kernel_rfl) (by simp) ?_
      refine AllReadyH.cons (at_succ (at_succ (at_succ (at_succ (at_succ (at_succ (at_succ (at_succ (at_succ (at_succ (at_succ at_zero))))))))))) (fun K hK => ?_) AllReadyH.nil
      rw [if_pos (by kernel_rfl)]
      go_simp
      refine hK.out _ _ S3 (fun hHeld => ?_)
      clear hK K
      try simp only [Act.put, List.setIfInBounds_toArray, List.set_cons_zero, List.set_cons_succ]
      refine wpAnyH_done (by kernel_rfl) ?_ _
      go_wp2_with fail
      go_roundw
      case rel =>
        obtain ⟨F2, G2⟩ := GF.out
        exact ⟨k + 1, n + 2, F2, adj1 J x1 x0, by go_num, hlt, Lib.hid G2, B8.out⟩
      case measure => simp [intOf]; omega
end Go.Proofs.Ytdmakcjcocghhaa.Tpo
