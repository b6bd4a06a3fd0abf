/- The contract of Resample of series: a range over the function that slices.Chunk hands back. -/
import Derived.Test.YtekcknpgpfeijaaEH
set_option linter.unusedVariables false
namespace Go.Proofs.Ytekcknpgpfeijaa.Series
open Go.RowKit Go.Shelf

attribute [local go_sem] Oper.semAt_some

theorem chunk_stops (n : Nat) (hn : 1 ≤ n) (Bs B n₀ b p L c k : Nat) (A : Option Addr) (hk : 1 ≤ k) (hkb : (k : Int) ≤ 9223372036854775807) (hL : L ≤ 96) (hc : L ≤ c) (hA : 0 < L → A = some ⟨b, p, none⟩) (hB1 : Bs + 1 < n₀) (hB : B < Bs) (w : World) (hn₀ : n₀ ≤ w.heap.size)
    (h1 : w.cell? ⟨Bs, 0, none⟩ = some (.slice A L c)) (h2 : w.cell? ⟨Bs + 1, 0, none⟩ = some (.int .i64 (k : Int))) :
    SeqStopsK Fence.wide n Try.prog 49 #[.pointer (some ⟨Bs, 0, none⟩), .pointer (some ⟨Bs + 1, 0, none⟩)] (fun x : Gp L => #[gpV b p x]) (KB n₀ B) (fun ys => ys = gps L k (gct L k)) (fun _ => True) (1000 * L) w := fun l J Jx W hW hJ hJx hY h0 =>
  chunk1_in n hn l Bs B n₀ b p L c k A hk hkb hL hc hA hB1 hB J Jx W hJ hY ((hW.cell (p := ⟨Bs, 0, none⟩) (by show Bs < _; omega)).trans h1) ((hW.cell (p := ⟨Bs + 1, 0, none⟩) (by show Bs + 1 < _; omega)).trans h2) h0

/-- The sum of a group. -/
def gsum (m : List Int) {L : Nat} (x : Gp L) : Int := sat (P m (x.1.1 + x.1.2) - P m x.1.1)
theorem P_cut (m : List Int) (j : Nat) : P m (min j m.length) = P m j := by
  rcases Nat.le_total j m.length with h | h
  · rw [Nat.min_eq_left h]
  · rw [Nat.min_eq_right h, P_full m j h]
theorem gsum_gp (m : List Int) (k i : Nat) : gsum m (gpN m.length k i) = gN m k i := by
  unfold gsum gpN gN
  show sat (P m (min (i * k) m.length + min k (m.length - i * k)) - P m (min (i * k) m.length)) = _
  rw [show min (i * k) m.length + min k (m.length - i * k) = min ((i + 1) * k) m.length by rw [Nat.succ_mul]; omega, P_cut, P_cut]
theorem gps_sums (m : List Int) (k : Nat) : (gps m.length k (gct m.length k)).map (gsum m) = grp m k := by
  unfold gps grp; rw [List.map_map]; exact List.map_congr_left fun i _ => gsum_gp m k i
theorem P_seg (m : List Int) (s e : Nat) : ((m.drop s).take e).sum = P m (s + e) - P m s := by
  unfold P
  have h : m.take (s + e) = m.take s ++ (m.drop s).take e := List.take_add
  rw [h, List.sum_append]; omega
theorem rd_seg (l : List Int) (s e : Nat) (h : s + e ≤ ln l) : rd ((l.drop s).take e) = ((rd l).drop s).take e := by
  by_cases hl : l.length ≤ 96
  · rw [rd_short hl, rd_short (by rw [List.length_take, List.length_drop]; omega), List.map_take, List.map_drop]
  · have : ln l = 0 := if_neg hl
    obtain rfl : e = 0 := by omega
    simp [rd]
theorem sum_seg (l : List Int) (x : Gp (ln l)) : sat (psum (rd ((l.drop x.1.1).take x.1.2)) 0 (x.1.2 : Int)) = gsum (rd l) x := by
  rw [rd_seg l _ _ x.2]
  unfold psum gsum
  rw [if_pos (by omega), show ((x.1.2 : Nat) : Int).toNat = x.1.2 from rfl, show (0 : Int).toNat = 0 from rfl, P_zero, Int.sub_zero, P_all _ _ (by rw [List.length_take]; omega), P_seg]
theorem ns_seg {W : World} {B : Nat} {l : List Int} {b p : Nat} {A : Option Addr} (h : NsAt W B A l) (hA : 0 < ln l → A = some ⟨b, p, none⟩) (x : Gp (ln l)) : NsAt W B (some ⟨b, p + x.1.1, none⟩) ((l.drop x.1.1).take x.1.2) := fun i hi => by
  have hx := x.2
  have hL := ln_le l
  have hie : i < x.1.2 := by rw [List.length_take] at hi; omega
  obtain rfl := hA (by omega)
  obtain ⟨b', p', h1, h2, h3⟩ := h (x.1.1 + i) (by omega)
  cases h1
  refine ⟨_, _, rfl, h2, ?_⟩
  rw [Nat.add_assoc, h3]
  simp
/-- One number more, and whatever is no cells lies as it lay. -/
theorem app_keep {w : World} {B : Nat} {v : Value} {l : List Int} (x : Int) (ty : TypeId) (hv : OwnN w B v l) (hn : l.length ≤ 1000000) (hB : B ≤ w.heap.size) :
    ∃ A c w', (Builtin.append_ #[22, 22] ty #[v, .slice (some ⟨w.heap.size, 0, none⟩) 1 1]).run Try.prog (w.alloc (.cells #[.int .i64 x] 3)) = .ok (.slice A (l.length + 1) c) w' ∧ OwnN w' B (.slice A (l.length + 1) c) (l ++ [x]) ∧ Below B w w' ∧ KeepsOthers w w' := by
  obtain ⟨i0, hi0, hz0, hs0, hb0⟩ := info_int
  obtain ⟨v', w', h5, h6, h7, _⟩ := run_append_own (P := Try.prog) (w.alloc (.cells #[.int .i64 x] 3)) B 22 ty 3 i0 (.int .i64 0) 1 8 Try.underlying22 hi0 hz0 hs0 hb0 rfl (by decide) v _ _ (hv.alloc _) ⟨w.heap.size, 0, none⟩ 1 1 [.int .i64 x] rfl
    (by intro j u hu; cases j with | zero => simp at hu; subst hu; simp [Addr.add] | succ j => simp at hu) (by intro u hu; simp at hu; subst hu; rfl) (by unfold maxLen; omega) (by omega) (Nat.le_trans hB (by simp))
  have h8 : OwnN w' B v' (l ++ [x]) := by unfold OwnN; rw [List.length_append, List.map_append]; exact h6
  obtain ⟨A, c, hv', _⟩ := own_ns h8
  rw [List.length_append, show ([x] : List Int).length = 1 from rfl] at hv'
  subst hv'
  refine ⟨A, c, w', h5, h8, ((Below.refl B w).alloc hB _).grown h7 (Nat.le_trans hB (by simp)) (fun q hq => (hv.lt q hq).1), (KeepsOthers.alloc w _).trans (KeepsOthers.of_grownBy h7 fun j o ej hj => ?_)⟩
  rcases (hv.alloc (.cells #[.int .i64 x] 3)).2 with ⟨rfl, _⟩ | ⟨g, cap, cur, rfl, _, hgb, _⟩
  · simp [Value.ownBlock] at ej
  · obtain rfl : g = j := by simpa [Value.ownBlock] using ej
    rw [hgb] at hj; cases hj; rfl
/-- An append whose run is known as an equation, within a round. -/
theorem wpIn_append_run {q n : Nat} {P : Program} (w : World) {o : Oper} {a : Act} {K : Act → World → Prop} {Q : Exit → Act → World → Prop} (s x : Operand) (t tn : TypeId)
    (ho : o.op = .call { callee := .builtin .append, args := #[s, x], argTypes := #[t, tn] }) (vs vx : Value) (hs : a.eval s = vs) (hx : a.eval x = vx)
    (v' : Value) (w' : World) (hr : (Builtin.append_ #[t, tn] o.type #[vs, vx]).run P w = .ok v' w') (h : K (a.put o.dst v') w') : o.wpIn (Fence.wide.inRound q) n P a w K Q := by
  unfold Oper.wpIn
  refine ⟨fun _ _ => trivial, ?_⟩
  rw [Oper.semAt_plain _ _ _ (by rw [ho]; intro c hc; cases hc)]
  unfold execOp
  simp only [ho, resolve, invoke, builtin, Sem.run_bind, Sem.run_pure, Result.andThen_ok, List.map_toArray, List.map_cons, List.map_nil, hs, hx, hr]
  exact h
theorem add0 (a : Addr) : a.add 0 = a := by unfold Addr.add; simp

set_option maxRecDepth 100000 in
set_option maxHeartbeats 4000000 in
theorem sres_any (A : Option Addr) (c : Nat) (l : List Int) (kk : Int) (w : World) (hl : l.length ≤ 9223372036854775807) (hkk : I64 kk) (hc : l.length ≤ c) (hc0 : A = none → c = 0) (hA : NsAt w w.heap.size A l) :
    Calls Try.prog 25 #[.slice A l.length c, .int .i64 kk] w (OutL w (if kk < 1 then [] else grp (rd l) kk.toNat)) := by
  unfold I64 at hkk
  by_cases h1 : kk < 1
  · rw [if_pos h1]
    go_enter Try.func25, Try.ntmps25
    go_wp2_with fail
    go_ret
    exact outL rfl rfl (NsAt.nil _ _ _) (Below.refl _ _)
  rw [if_neg h1]
  obtain ⟨k, rfl⟩ : ∃ k : Nat, kk = k := ⟨kk.toNat, by omega⟩
  have hk1 : 1 ≤ k := by omega
  have hkb : (k : Int) ≤ 9223372036854775807 := hkk.2
  rw [show ((k : Int)).toNat = k from rfl]
  have d1 := df h1
  clear hkk h1
  have L := ln_le l
  obtain ⟨b, p, hAb⟩ : ∃ b p, 0 < ln l → A = some ⟨b, p, none⟩ := by
    by_cases h : 0 < ln l
    · obtain ⟨b, p, h1, _⟩ := hA 0 (by omega)
      exact ⟨b, p, fun _ => h1⟩
    · exact ⟨0, 0, fun h2 => absurd h2 h⟩
  refine (callsIn_wide (n := 3)).1 ?_
  refine callsIn_of_wp_marks Try.func25 rfl trivial ?_ rfl
  simp only [Try.ntmps25, List.size_toArray, List.length_cons, List.length_nil, Nat.reduceAdd, Nat.reduceSub, Array.replicate_succ, Array.replicate_zero, List.push_toArray, List.append_toArray, List.nil_append, List.cons_append]
  have HA := Lib.hid hA
  have HAB := Lib.hid hAb
  have HC0 := Lib.hid hc0
  have LN := Lib.hid (fun w => len_any A c l w hl)
  have lc : ((ln l : Nat) : Int) ≤ (c : Int) := by omega
  obtain ⟨W0, hW0⟩ : ∃ W0, W0 = ((w.alloc (.cells #[.slice none 0 0] 22)).alloc (.cells #[.slice A (ln l) c] 22)).alloc (.cells #[.int .i64 (k : Int)] 3) := ⟨_, rfl⟩
  have z0 : W0.heap.size = w.heap.size + 3 := by rw [hW0]; simp
  have B0 := Lib.hid (show Below w.heap.size w W0 by rw [hW0]; exact ((alloc_below w _).alloc (by simp) _).alloc (by simp; omega) _)
  have X0 := Lib.hid (show Boxed W0 w.heap.size 22 (.slice none 0 0) by rw [hW0]; exact blk_alloc (blk_alloc (blk_new w _) _) _)
  have y1 : W0.cell? ⟨w.heap.size + 1, 0, none⟩ = some (.slice A (ln l) c) := by
    rw [hW0, show w.heap.size + 1 = (w.alloc (.cells #[.slice none 0 0] 22)).heap.size by simp]; exact blk_cell (blk_alloc (blk_new _ _) _) 0 rfl
  have y2 : W0.cell? ⟨w.heap.size + 1 + 1, 0, none⟩ = some (.int .i64 (k : Int)) := by
    rw [hW0, show w.heap.size + 1 + 1 = ((w.alloc (.cells #[.slice none 0 0] 22)).alloc (.cells #[.slice A (ln l) c] 22)).heap.size by simp]; exact blk_cell (blk_new _ _) 0 rfl
  have ST := Lib.hid (chunk_stops 2 (by omega) (w.heap.size + 1) w.heap.size (w.heap.size + 3) b p (ln l) c k A hk1 hkb L.1 (by omega) hAb (by omega) (by omega) W0 (by omega) y1 y2)
  have GS := Lib.hid (show (gps (ln l) k (gct (ln l) k)).map (gsum (rd l)) = grp (rd l) k by rw [← rd_length]; exact gps_sums (rd l) k)
  have HW := Lib.hid hW0
  have hmx : Try.prog.follows .mixedOrders = true := by kernel_rfl
  clear hA hAb hc0 y1 y2 hW0
  cases A with
  | none =>
    obtain rfl := HC0.out rfl
    obtain rfl := HA.out.none rfl
    gi_wp2
    refine ⟨trivial, (callsIn_wide.2 (LN.out _)).mono ?_⟩
    rintro e w1 ⟨rfl, rfl⟩
    gi_wp2
    refine ⟨trivial, (chunk_in 2 _ _ _ k _ hk1).mono ?_⟩
    rintro e w2 ⟨rfl, rfl⟩
    gi_wp2
    rw [← HW.out]
    refine wpIn_rangeFunc_ownG rfl (by omega) (gf := 49) (lb := #[.pointer (some ⟨w.heap.size + 1, 0, none⟩), .pointer (some ⟨w.heap.size + 1 + 1, 0, none⟩)]) rfl trivial (enters_of Try.func49 (by kernel_rfl) rfl)
      ST.out (fun h k => KB.trans h k) (fun W q o o' hq h1 h2 h3 => ⟨by simp [World.putObj], fun i h4 h5 => World.putObj_heap_other (by omega)⟩) (Below.refl _ _) (fun _ => rfl)
      (fun pre W => ((∃ v, Boxed W w.heap.size 22 v ∧ W.ownsRow (w.heap.size + 3) 3 1 v pre.length ((pre.map (gsum (rd ([] : List Int)))).map (Value.int .i64)) ∧ True) ∧ Below w.heap.size w W) ∧ KB (w.heap.size + 3) w.heap.size W0 W)
      (fun _ _ _ => False)
      (OwnFrom.and (OwnFrom.and (Own.from (holdsRow_own (w.heap.size + 3) w.heap.size 22 3 1 (fun pre : List (Gp (ln ([] : List Int))) => pre.length) (fun pre => (pre.map (gsum (rd ([] : List Int)))).map (Value.int .i64)) (fun _ _ => True)) _) (ownFrom_below (Nat.le_refl _) (by omega))) (fun s X Y row hs hg hr => ⟨Nat.le_trans hs.size hg.size, fun i h1 h2 => (hg.block i (by have := hs.size; omega) (fun e => by have := (hr i e.symm).1; omega)).trans (hs.block i h1 h2)⟩))
      (fun _ _ _ _ _ hs _ _ => hs)
      ⟨⟨⟨_, X0.out, World.ownsRow_nil _ _ _ _, trivial⟩, B0.out⟩, KB.refl _ _ _⟩
      (fun x => { tmps := #[.slice none 0 0, .int .i64 (k : Int), undef, undef, .slice none 0 0, .pointer (some ⟨w.heap.size, 0, none⟩), .slice (some ⟨b, p + x.1.1, none⟩) x.1.2 x.1.2, .int .i64 (k : Int), .bool false, .slice none 0 0, .slice none 0 0, .int .i64 (ln ([] : List Int) : Int), .slice none (ln ([] : List Int)) 0, .int .i64 (k : Int), .func (.func 49) #[] #[.pointer (some ⟨w.heap.size + 1, 0, none⟩), .pointer (some ⟨w.heap.size + 1 + 1, 0, none⟩)], .slice (some ⟨b, p + x.1.1, none⟩) x.1.2 x.1.2, undef, undef, undef, undef, undef, undef, undef, undef], defers := [] }) ?assign ?body ?done ?stop
    case assign =>
      intro l x W K hK
      gi_wp2
      exact hK
    case body =>
      intro q pre x W _ hlt
      exact absurd hlt (by have : ln ([] : List Int) = 0 := rfl; omega)
    case done =>
      rintro D ys W hD rfl ⟨⟨⟨v, hv, hrow, _⟩, hB⟩, hKB⟩ hK
      have hrow' : OwnN W (w.heap.size + 3) v ((gps (ln ([] : List Int)) k (gct (ln ([] : List Int)) k)).map (gsum (rd ([] : List Int)))) := by unfold OwnN; rw [List.length_map]; exact hrow
      obtain ⟨A0, c0, hv0, _⟩ := own_ns hrow'
      rw [List.length_map] at hv0
      subst hv0
      have hc1 := hv.cell
      gi_wp2
      refine ⟨by simp, .inl ⟨_, _, rfl, run_takeDeferred hK, ?_⟩⟩
      exact ⟨_, results_tmp rfl _ _ _, outL_own GS.out.symm (ownsRow_putObj hrow' _ hK rfl) (hB.trans (belowK_b (w := w) (Nat.le_refl _) W D _ _ (by omega) hK rfl rfl))⟩
    case stop =>
      rintro D cc pre W _ _ h _
      exact h.elim
  | some a =>
    gi_wp2
    refine ⟨trivial, (callsIn_wide.2 (LN.out _)).mono ?_⟩
    rintro e w1 ⟨rfl, rfl⟩
    gi_wp2
    refine ⟨trivial, (chunk_in 2 _ _ _ k _ hk1).mono ?_⟩
    rintro e w2 ⟨rfl, rfl⟩
    gi_wp2
    rw [← HW.out]
    refine wpIn_rangeFunc_ownG rfl (by omega) (gf := 49) (lb := #[.pointer (some ⟨w.heap.size + 1, 0, none⟩), .pointer (some ⟨w.heap.size + 1 + 1, 0, none⟩)]) rfl trivial (enters_of Try.func49 (by kernel_rfl) rfl)
      ST.out (fun h k => KB.trans h k) (fun W q o o' hq h1 h2 h3 => ⟨by simp [World.putObj], fun i h4 h5 => World.putObj_heap_other (by omega)⟩) (Below.refl _ _) (fun _ => rfl)
      (fun pre W => ((∃ v, Boxed W w.heap.size 22 v ∧ W.ownsRow (w.heap.size + 3) 3 1 v pre.length ((pre.map (gsum (rd l))).map (Value.int .i64)) ∧ True) ∧ Below w.heap.size w W) ∧ KB (w.heap.size + 3) w.heap.size W0 W)
      (fun _ _ _ => False)
      (OwnFrom.and (OwnFrom.and (Own.from (holdsRow_own (w.heap.size + 3) w.heap.size 22 3 1 (fun pre : List (Gp (ln l)) => pre.length) (fun pre => (pre.map (gsum (rd l))).map (Value.int .i64)) (fun _ _ => True)) _) (ownFrom_below (Nat.le_refl _) (by omega))) (fun s X Y row hs hg hr => ⟨Nat.le_trans hs.size hg.size, fun i h1 h2 => (hg.block i (by have := hs.size; omega) (fun e => by have := (hr i e.symm).1; omega)).trans (hs.block i h1 h2)⟩))
      (fun _ _ _ _ _ hs _ _ => hs)
      ⟨⟨⟨_, X0.out, World.ownsRow_nil _ _ _ _, trivial⟩, B0.out⟩, KB.refl _ _ _⟩
      (fun x => { tmps := #[.slice (some a) l.length c, .int .i64 (k : Int), undef, undef, .slice none 0 0, .pointer (some ⟨w.heap.size, 0, none⟩), .slice (some ⟨b, p + x.1.1, none⟩) x.1.2 x.1.2, .int .i64 (k : Int), .bool false, .slice (some a) l.length c, .slice (some a) l.length c, .int .i64 (ln l : Int), .slice (some a) (ln l) c, .int .i64 (k : Int), .func (.func 49) #[] #[.pointer (some ⟨w.heap.size + 1, 0, none⟩), .pointer (some ⟨w.heap.size + 1 + 1, 0, none⟩)], .slice (some ⟨b, p + x.1.1, none⟩) x.1.2 x.1.2, undef, undef, undef, undef, undef, undef, undef, undef], defers := [] }) ?assign ?body ?done ?stop
    case assign =>
      intro l x W K hK
      gi_wp2
      exact hK
    case body =>
      rintro q pre x W ⟨⟨⟨v, hv, hrow, _⟩, hB⟩, hKB⟩ hlt
      have hz := hKB.size
      rw [z0] at hz
      have hrow' : OwnN W (w.heap.size + 3) v (pre.map (gsum (rd l))) := by unfold OwnN; rw [List.length_map]; exact hrow
      obtain ⟨A0, c0, hv0, _⟩ := own_ns hrow'
      rw [List.length_map] at hv0
      subst hv0
      have hc1 := hv.cell
      have hc3 := (hv.alloc (.cells #[.int .i64 (gsum (rd l) x)] 3)).cell
      have hd : 1 ≤ 3 - 1 - 1 := by decide
      have SL : ((l.drop x.1.1).take x.1.2).length = x.1.2 := by have := x.2; have := ln_le l; rw [List.length_take, List.length_drop]; omega
      have SM := Lib.hid (sum_any (some ⟨b, p + x.1.1, none⟩) x.1.2 ((l.drop x.1.1).take x.1.2) 0 (x.1.2 : Int) W.drew (by have := x.2; have := L.1; omega) (by unfold I64; omega) (by unfold I64; have := x.2; have := L.1; omega) (((ns_seg HA.out HAB.out x).below hB.drew).mono hB.size))
      rw [SL, sum_seg l x] at SM
      obtain ⟨A1, c1, w', hap, hown', hbb, hko⟩ := app_keep (w := W.drew) (gsum (rd l) x) 22 hrow'.drew (by rw [List.length_map]; omega) hz
      rw [List.length_map] at hap hown'
      have hap : (Builtin.append_ #[22, 22] 22 #[.slice A0 pre.length c0, .slice (some ⟨W.heap.size, 0, none⟩) 1 1]).run Try.prog (W.alloc (.cells #[.int .i64 (gsum (rd l) x)] 3)).drew = .ok (.slice A1 (pre.length + 1) c1) w' := hap
      have KF := Lib.hid (((KeepsOthers.drew W).trans hko).trans (KeepsOthers.setCell w' ⟨w.heap.size, 0, none⟩ (.slice A1 (pre.length + 1) c1)))
      have K2 := Lib.hid (show KB (w.heap.size + 3) w.heap.size W (w'.setCell ⟨w.heap.size, 0, none⟩ (.slice A1 (pre.length + 1) c1)) from ⟨by rw [World.size_setCell]; exact hbb.size, fun i h1 h2 => (Below.heap_setCell w' _ _ i h2).trans (hbb.block i h1)⟩)
      have X1 : Boxed w' w.heap.size 22 (.slice A0 pre.length c0) := (hbb.block w.heap.size (by omega)).trans hv
      have hc2 := X1.cell
      have hf2 := X1.frozen
      have X2 := Lib.hid (X1.set (.slice A1 (pre.length + 1) c1))
      have O2 := Lib.hid (show (w'.setCell ⟨w.heap.size, 0, none⟩ (.slice A1 (pre.length + 1) c1)).ownsRow (w.heap.size + 3) 3 1 (.slice A1 (pre.length + 1) c1) (pre ++ [x]).length (((pre ++ [x]).map (gsum (rd l))).map (Value.int .i64)) by
        rw [show (pre ++ [x]).length = (pre.map (gsum (rd l)) ++ [gsum (rd l) x]).length by simp, List.map_append]; exact ownsRow_setCell_below hown' (by show w.heap.size < w.heap.size + 3; omega) _)
      have B2 := Lib.hid ((hB.drew.trans (hbb.mono (by omega))).setCell (p := ⟨w.heap.size, 0, none⟩) (Nat.le_refl _) (.slice A1 (pre.length + 1) c1))
      have K1 := Lib.hid hKB
      clear hown' hbb hko hrow hrow' hv hB hKB X1
      gi_wp2
      refine wpIn_region_any hmx ?_
      change wpAnyIn _ _ _ _ _ _ _ _ _ (World.drew _)
      refine wpAnyIn_ready (rs := [0, 1, 2]) (by kernel_rfl) (by simp) ?_
      refine AllReadyIn.cons rfl (fun K hK => ?_) ?_
      · go_simp; refine hK _ _ ?_; clear hK K
        refine wpAnyIn_ready (rs := [1, 2]) (by kernel_rfl) (by simp) ?_
        refine AllReadyIn.cons rfl (fun K hK => ?_) ?_
        · go_simp; refine hK _ _ ?_; clear hK K
          refine wpAnyIn_ready (rs := [2]) (by kernel_rfl) (by simp) ?_
          refine AllReadyIn.cons rfl (fun K hK => ?_) ?_
          · go_simp; refine hK _ _ ?_; clear hK K
            refine wpAnyIn_ready (rs := [3]) (by kernel_rfl) (by simp) ?_
            refine AllReadyIn.cons rfl (fun K hK => ?_) ?_
            · go_simp; refine hK _ _ ?_; clear hK K
              refine wpAnyIn_ready (rs := [4]) (by kernel_rfl) (by simp) ?_
              refine AllReadyIn.cons rfl (fun K hK => ?_) ?_
              · go_simp; gi_wp2_with (refine ⟨trivial, ?_⟩; gi_at_call 16; refine (CallsIn.inRound q (callsIn_wide.2 SM.out)).mono ?_; rintro e w3 ⟨rfl, rfl⟩)
                refine wpAnyIn_ready (rs := [5]) (by kernel_rfl) (by simp) ?_
                refine AllReadyIn.cons rfl (fun K hK => ?_) ?_
                · go_simp; refine hK _ _ ?_; clear hK K
                  refine wpAnyIn_ready (rs := [6]) (by kernel_rfl) (by simp) ?_
                  refine AllReadyIn.cons rfl (fun K hK => ?_) ?_
                  · rw [if_pos (by kernel_rfl)]; refine wpIn_append_run _ (.tmp 16) (.tmp 21) 22 22 rfl _ _ rfl rfl _ _ hap ?_; refine hK _ _ ?_; clear hK K
                    refine wpAnyIn_ready (rs := [7]) (by kernel_rfl) (by simp) ?_
                    refine AllReadyIn.cons rfl (fun K hK => ?_) ?_
                    · go_simp; refine hK _ _ ?_; clear hK K
                      refine wpAnyIn_done (by kernel_rfl) ?_ _
                      exact ⟨KF.out.from _, K2.out, ⟨⟨_, X2.out, O2.out, trivial⟩, B2.out⟩, K1.out.trans K2.out⟩
                    exact AllReadyIn.nil
                  exact AllReadyIn.nil
                exact AllReadyIn.nil
              exact AllReadyIn.nil
            exact AllReadyIn.nil
          exact AllReadyIn.nil
        refine AllReadyIn.cons rfl (fun K hK => ?_) ?_
        · go_simp; refine hK _ _ ?_; clear hK K
          refine wpAnyIn_ready (rs := [1, 3]) (by kernel_rfl) (by simp) ?_
          refine AllReadyIn.cons rfl (fun K hK => ?_) ?_
          · go_simp; refine hK _ _ ?_; clear hK K
            refine wpAnyIn_ready (rs := [3]) (by kernel_rfl) (by simp) ?_
            refine AllReadyIn.cons rfl (fun K hK => ?_) ?_
            · go_simp; refine hK _ _ ?_; clear hK K
              refine wpAnyIn_ready (rs := [4]) (by kernel_rfl) (by simp) ?_
              refine AllReadyIn.cons rfl (fun K hK => ?_) ?_
              · go_simp; gi_wp2_with (refine ⟨trivial, ?_⟩; gi_at_call 16; refine (CallsIn.inRound q (callsIn_wide.2 SM.out)).mono ?_; rintro e w3 ⟨rfl, rfl⟩)
                refine wpAnyIn_ready (rs := [5]) (by kernel_rfl) (by simp) ?_
                refine AllReadyIn.cons rfl (fun K hK => ?_) ?_
                · go_simp; refine hK _ _ ?_; clear hK K
                  refine wpAnyIn_ready (rs := [6]) (by kernel_rfl) (by simp) ?_
                  refine AllReadyIn.cons rfl (fun K hK => ?_) ?_
                  · rw [if_pos (by kernel_rfl)]; refine wpIn_append_run _ (.tmp 16) (.tmp 21) 22 22 rfl _ _ rfl rfl _ _ hap ?_; refine hK _ _ ?_; clear hK K
                    refine wpAnyIn_ready (rs := [7]) (by kernel_rfl) (by simp) ?_
                    refine AllReadyIn.cons rfl (fun K hK => ?_) ?_
                    · go_simp; refine hK _ _ ?_; clear hK K
                      refine wpAnyIn_done (by kernel_rfl) ?_ _
                      exact ⟨KF.out.from _, K2.out, ⟨⟨_, X2.out, O2.out, trivial⟩, B2.out⟩, K1.out.trans K2.out⟩
                    exact AllReadyIn.nil
                  exact AllReadyIn.nil
                exact AllReadyIn.nil
              exact AllReadyIn.nil
            exact AllReadyIn.nil
          refine AllReadyIn.cons rfl (fun K hK => ?_) ?_
          · go_simp; refine hK _ _ ?_; clear hK K
            refine wpAnyIn_ready (rs := [1]) (by kernel_rfl) (by simp) ?_
            refine AllReadyIn.cons rfl (fun K hK => ?_) ?_
            · go_simp; refine hK _ _ ?_; clear hK K
              refine wpAnyIn_ready (rs := [4]) (by kernel_rfl) (by simp) ?_
              refine AllReadyIn.cons rfl (fun K hK => ?_) ?_
              · go_simp; gi_wp2_with (refine ⟨trivial, ?_⟩; gi_at_call 16; refine (CallsIn.inRound q (callsIn_wide.2 SM.out)).mono ?_; rintro e w3 ⟨rfl, rfl⟩)
                refine wpAnyIn_ready (rs := [5]) (by kernel_rfl) (by simp) ?_
                refine AllReadyIn.cons rfl (fun K hK => ?_) ?_
                · go_simp; refine hK _ _ ?_; clear hK K
                  refine wpAnyIn_ready (rs := [6]) (by kernel_rfl) (by simp) ?_
                  refine AllReadyIn.cons rfl (fun K hK => ?_) ?_
                  · rw [if_pos (by kernel_rfl)]; refine wpIn_append_run _ (.tmp 16) (.tmp 21) 22 22 rfl _ _ rfl rfl _ _ hap ?_; refine hK _ _ ?_; clear hK K
                    refine wpAnyIn_ready (rs := [7]) (by kernel_rfl) (by simp) ?_
                    refine AllReadyIn.cons rfl (fun K hK => ?_) ?_
                    · go_simp; refine hK _ _ ?_; clear hK K
                      refine wpAnyIn_done (by kernel_rfl) ?_ _
                      exact ⟨KF.out.from _, K2.out, ⟨⟨_, X2.out, O2.out, trivial⟩, B2.out⟩, K1.out.trans K2.out⟩
                    exact AllReadyIn.nil
                  exact AllReadyIn.nil
                exact AllReadyIn.nil
              exact AllReadyIn.nil
            exact AllReadyIn.nil
          exact AllReadyIn.nil
        exact AllReadyIn.nil
      refine AllReadyIn.cons rfl (fun K hK => ?_) ?_
      · go_simp; refine hK _ _ ?_; clear hK K
        refine wpAnyIn_ready (rs := [0, 2]) (by kernel_rfl) (by simp) ?_
        refine AllReadyIn.cons rfl (fun K hK => ?_) ?_
        · go_simp; refine hK _ _ ?_; clear hK K
          refine wpAnyIn_ready (rs := [2]) (by kernel_rfl) (by simp) ?_
          refine AllReadyIn.cons rfl (fun K hK => ?_) ?_
          · go_simp; refine hK _ _ ?_; clear hK K
            refine wpAnyIn_ready (rs := [3]) (by kernel_rfl) (by simp) ?_
            refine AllReadyIn.cons rfl (fun K hK => ?_) ?_
            · go_simp; refine hK _ _ ?_; clear hK K
              refine wpAnyIn_ready (rs := [4]) (by kernel_rfl) (by simp) ?_
              refine AllReadyIn.cons rfl (fun K hK => ?_) ?_
              · go_simp; gi_wp2_with (refine ⟨trivial, ?_⟩; gi_at_call 16; refine (CallsIn.inRound q (callsIn_wide.2 SM.out)).mono ?_; rintro e w3 ⟨rfl, rfl⟩)
                refine wpAnyIn_ready (rs := [5]) (by kernel_rfl) (by simp) ?_
                refine AllReadyIn.cons rfl (fun K hK => ?_) ?_
                · go_simp; refine hK _ _ ?_; clear hK K
                  refine wpAnyIn_ready (rs := [6]) (by kernel_rfl) (by simp) ?_
                  refine AllReadyIn.cons rfl (fun K hK => ?_) ?_
                  · rw [if_pos (by kernel_rfl)]; refine wpIn_append_run _ (.tmp 16) (.tmp 21) 22 22 rfl _ _ rfl rfl _ _ hap ?_; refine hK _ _ ?_; clear hK K
                    refine wpAnyIn_ready (rs := [7]) (by kernel_rfl) (by simp) ?_
                    refine AllReadyIn.cons rfl (fun K hK => ?_) ?_
                    · go_simp; refine hK _ _ ?_; clear hK K
                      refine wpAnyIn_done (by kernel_rfl) ?_ _
                      exact ⟨KF.out.from _, K2.out, ⟨⟨_, X2.out, O2.out, trivial⟩, B2.out⟩, K1.out.trans K2.out⟩
                    exact AllReadyIn.nil
                  exact AllReadyIn.nil
                exact AllReadyIn.nil
              exact AllReadyIn.nil
            exact AllReadyIn.nil
          exact AllReadyIn.nil
        refine AllReadyIn.cons rfl (fun K hK => ?_) ?_
        · go_simp; refine hK _ _ ?_; clear hK K
          refine wpAnyIn_ready (rs := [0, 3]) (by kernel_rfl) (by simp) ?_
          refine AllReadyIn.cons rfl (fun K hK => ?_) ?_
          · go_simp; refine hK _ _ ?_; clear hK K
            refine wpAnyIn_ready (rs := [3]) (by kernel_rfl) (by simp) ?_
            refine AllReadyIn.cons rfl (fun K hK => ?_) ?_
            · go_simp; refine hK _ _ ?_; clear hK K
              refine wpAnyIn_ready (rs := [4]) (by kernel_rfl) (by simp) ?_
              refine AllReadyIn.cons rfl (fun K hK => ?_) ?_
              · go_simp; gi_wp2_with (refine ⟨trivial, ?_⟩; gi_at_call 16; refine (CallsIn.inRound q (callsIn_wide.2 SM.out)).mono ?_; rintro e w3 ⟨rfl, rfl⟩)
                refine wpAnyIn_ready (rs := [5]) (by kernel_rfl) (by simp) ?_
                refine AllReadyIn.cons rfl (fun K hK => ?_) ?_
                · go_simp; refine hK _ _ ?_; clear hK K
                  refine wpAnyIn_ready (rs := [6]) (by kernel_rfl) (by simp) ?_
                  refine AllReadyIn.cons rfl (fun K hK => ?_) ?_
                  · rw [if_pos (by kernel_rfl)]; refine wpIn_append_run _ (.tmp 16) (.tmp 21) 22 22 rfl _ _ rfl rfl _ _ hap ?_; refine hK _ _ ?_; clear hK K
                    refine wpAnyIn_ready (rs := [7]) (by kernel_rfl) (by simp) ?_
                    refine AllReadyIn.cons rfl (fun K hK => ?_) ?_
                    · go_simp; refine hK _ _ ?_; clear hK K
                      refine wpAnyIn_done (by kernel_rfl) ?_ _
                      exact ⟨KF.out.from _, K2.out, ⟨⟨_, X2.out, O2.out, trivial⟩, B2.out⟩, K1.out.trans K2.out⟩
                    exact AllReadyIn.nil
                  exact AllReadyIn.nil
                exact AllReadyIn.nil
              exact AllReadyIn.nil
            exact AllReadyIn.nil
          refine AllReadyIn.cons rfl (fun K hK => ?_) ?_
          · go_simp; refine hK _ _ ?_; clear hK K
            refine wpAnyIn_ready (rs := [0, 4]) (by kernel_rfl) (by simp) ?_
            refine AllReadyIn.cons rfl (fun K hK => ?_) ?_
            · go_simp; refine hK _ _ ?_; clear hK K
              refine wpAnyIn_ready (rs := [4]) (by kernel_rfl) (by simp) ?_
              refine AllReadyIn.cons rfl (fun K hK => ?_) ?_
              · go_simp; gi_wp2_with (refine ⟨trivial, ?_⟩; gi_at_call 16; refine (CallsIn.inRound q (callsIn_wide.2 SM.out)).mono ?_; rintro e w3 ⟨rfl, rfl⟩)
                refine wpAnyIn_ready (rs := [5]) (by kernel_rfl) (by simp) ?_
                refine AllReadyIn.cons rfl (fun K hK => ?_) ?_
                · go_simp; refine hK _ _ ?_; clear hK K
                  refine wpAnyIn_ready (rs := [6]) (by kernel_rfl) (by simp) ?_
                  refine AllReadyIn.cons rfl (fun K hK => ?_) ?_
                  · rw [if_pos (by kernel_rfl)]; refine wpIn_append_run _ (.tmp 16) (.tmp 21) 22 22 rfl _ _ rfl rfl _ _ hap ?_; refine hK _ _ ?_; clear hK K
                    refine wpAnyIn_ready (rs := [7]) (by kernel_rfl) (by simp) ?_
                    refine AllReadyIn.cons rfl (fun K hK => ?_) ?_
                    · go_simp; refine hK _ _ ?_; clear hK K
                      refine wpAnyIn_done (by kernel_rfl) ?_ _
                      exact ⟨KF.out.from _, K2.out, ⟨⟨_, X2.out, O2.out, trivial⟩, B2.out⟩, K1.out.trans K2.out⟩
                    exact AllReadyIn.nil
                  exact AllReadyIn.nil
                exact AllReadyIn.nil
              exact AllReadyIn.nil
            refine AllReadyIn.cons rfl (fun K hK => ?_) ?_
            · go_simp; gi_wp2_with (refine ⟨trivial, ?_⟩; gi_at_call 16; refine (CallsIn.inRound q (callsIn_wide.2 SM.out)).mono ?_; rintro e w3 ⟨rfl, rfl⟩)
              refine wpAnyIn_ready (rs := [0, 5]) (by kernel_rfl) (by simp) ?_
              refine AllReadyIn.cons rfl (fun K hK => ?_) ?_
              · go_simp; refine hK _ _ ?_; clear hK K
                refine wpAnyIn_ready (rs := [5]) (by kernel_rfl) (by simp) ?_
                refine AllReadyIn.cons rfl (fun K hK => ?_) ?_
                · go_simp; refine hK _ _ ?_; clear hK K
                  refine wpAnyIn_ready (rs := [6]) (by kernel_rfl) (by simp) ?_
                  refine AllReadyIn.cons rfl (fun K hK => ?_) ?_
                  · rw [if_pos (by kernel_rfl)]; refine wpIn_append_run _ (.tmp 16) (.tmp 21) 22 22 rfl _ _ rfl rfl _ _ hap ?_; refine hK _ _ ?_; clear hK K
                    refine wpAnyIn_ready (rs := [7]) (by kernel_rfl) (by simp) ?_
                    refine AllReadyIn.cons rfl (fun K hK => ?_) ?_
                    · go_simp; refine hK _ _ ?_; clear hK K
                      refine wpAnyIn_done (by kernel_rfl) ?_ _
                      exact ⟨KF.out.from _, K2.out, ⟨⟨_, X2.out, O2.out, trivial⟩, B2.out⟩, K1.out.trans K2.out⟩
                    exact AllReadyIn.nil
                  exact AllReadyIn.nil
                exact AllReadyIn.nil
              refine AllReadyIn.cons rfl (fun K hK => ?_) ?_
              · go_simp; refine hK _ _ ?_; clear hK K
                refine wpAnyIn_ready (rs := [0]) (by kernel_rfl) (by simp) ?_
                refine AllReadyIn.cons rfl (fun K hK => ?_) ?_
                · go_simp; refine hK _ _ ?_; clear hK K
                  refine wpAnyIn_ready (rs := [6]) (by kernel_rfl) (by simp) ?_
                  refine AllReadyIn.cons rfl (fun K hK => ?_) ?_
                  · rw [if_pos (by kernel_rfl)]; refine wpIn_append_run _ (.tmp 16) (.tmp 21) 22 22 rfl _ _ rfl rfl _ _ hap ?_; refine hK _ _ ?_; clear hK K
                    refine wpAnyIn_ready (rs := [7]) (by kernel_rfl) (by simp) ?_
                    refine AllReadyIn.cons rfl (fun K hK => ?_) ?_
                    · go_simp; refine hK _ _ ?_; clear hK K
                      refine wpAnyIn_done (by kernel_rfl) ?_ _
                      exact ⟨KF.out.from _, K2.out, ⟨⟨_, X2.out, O2.out, trivial⟩, B2.out⟩, K1.out.trans K2.out⟩
                    exact AllReadyIn.nil
                  exact AllReadyIn.nil
                exact AllReadyIn.nil
              exact AllReadyIn.nil
            exact AllReadyIn.nil
          exact AllReadyIn.nil
        exact AllReadyIn.nil
      refine AllReadyIn.cons rfl (fun K hK => ?_) ?_
      · go_simp; refine hK _ _ ?_; clear hK K
        refine wpAnyIn_ready (rs := [0, 1, 3]) (by kernel_rfl) (by simp) ?_
        refine AllReadyIn.cons rfl (fun K hK => ?_) ?_
        · go_simp; refine hK _ _ ?_; clear hK K
          refine wpAnyIn_ready (rs := [1, 3]) (by kernel_rfl) (by simp) ?_
          refine AllReadyIn.cons rfl (fun K hK => ?_) ?_
          · go_simp; refine hK _ _ ?_; clear hK K
            refine wpAnyIn_ready (rs := [3]) (by kernel_rfl) (by simp) ?_
            refine AllReadyIn.cons rfl (fun K hK => ?_) ?_
            · go_simp; refine hK _ _ ?_; clear hK K
              refine wpAnyIn_ready (rs := [4]) (by kernel_rfl) (by simp) ?_
              refine AllReadyIn.cons rfl (fun K hK => ?_) ?_
              · go_simp; gi_wp2_with (refine ⟨trivial, ?_⟩; gi_at_call 16; refine (CallsIn.inRound q (callsIn_wide.2 SM.out)).mono ?_; rintro e w3 ⟨rfl, rfl⟩)
                refine wpAnyIn_ready (rs := [5]) (by kernel_rfl) (by simp) ?_
                refine AllReadyIn.cons rfl (fun K hK => ?_) ?_
                · go_simp; refine hK _ _ ?_; clear hK K
                  refine wpAnyIn_ready (rs := [6]) (by kernel_rfl) (by simp) ?_
                  refine AllReadyIn.cons rfl (fun K hK => ?_) ?_
                  · rw [if_pos (by kernel_rfl)]; refine wpIn_append_run _ (.tmp 16) (.tmp 21) 22 22 rfl _ _ rfl rfl _ _ hap ?_; refine hK _ _ ?_; clear hK K
                    refine wpAnyIn_ready (rs := [7]) (by kernel_rfl) (by simp) ?_
                    refine AllReadyIn.cons rfl (fun K hK => ?_) ?_
                    · go_simp; refine hK _ _ ?_; clear hK K
                      refine wpAnyIn_done (by kernel_rfl) ?_ _
                      exact ⟨KF.out.from _, K2.out, ⟨⟨_, X2.out, O2.out, trivial⟩, B2.out⟩, K1.out.trans K2.out⟩
                    exact AllReadyIn.nil
                  exact AllReadyIn.nil
                exact AllReadyIn.nil
              exact AllReadyIn.nil
            exact AllReadyIn.nil
          refine AllReadyIn.cons rfl (fun K hK => ?_) ?_
          · go_simp; refine hK _ _ ?_; clear hK K
            refine wpAnyIn_ready (rs := [1]) (by kernel_rfl) (by simp) ?_
            refine AllReadyIn.cons rfl (fun K hK => ?_) ?_
            · go_simp; refine hK _ _ ?_; clear hK K
              refine wpAnyIn_ready (rs := [4]) (by kernel_rfl) (by simp) ?_
              refine AllReadyIn.cons rfl (fun K hK => ?_) ?_
              · go_simp; gi_wp2_with (refine ⟨trivial, ?_⟩; gi_at_call 16; refine (CallsIn.inRound q (callsIn_wide.2 SM.out)).mono ?_; rintro e w3 ⟨rfl, rfl⟩)
                refine wpAnyIn_ready (rs := [5]) (by kernel_rfl) (by simp) ?_
                refine AllReadyIn.cons rfl (fun K hK => ?_) ?_
                · go_simp; refine hK _ _ ?_; clear hK K
                  refine wpAnyIn_ready (rs := [6]) (by kernel_rfl) (by simp) ?_
                  refine AllReadyIn.cons rfl (fun K hK => ?_) ?_
                  · rw [if_pos (by kernel_rfl)]; refine wpIn_append_run _ (.tmp 16) (.tmp 21) 22 22 rfl _ _ rfl rfl _ _ hap ?_; refine hK _ _ ?_; clear hK K
                    refine wpAnyIn_ready (rs := [7]) (by kernel_rfl) (by simp) ?_
                    refine AllReadyIn.cons rfl (fun K hK => ?_) ?_
                    · go_simp; refine hK _ _ ?_; clear hK K
                      refine wpAnyIn_done (by kernel_rfl) ?_ _
                      exact ⟨KF.out.from _, K2.out, ⟨⟨_, X2.out, O2.out, trivial⟩, B2.out⟩, K1.out.trans K2.out⟩
                    exact AllReadyIn.nil
                  exact AllReadyIn.nil
                exact AllReadyIn.nil
              exact AllReadyIn.nil
            exact AllReadyIn.nil
          exact AllReadyIn.nil
        refine AllReadyIn.cons rfl (fun K hK => ?_) ?_
        · go_simp; refine hK _ _ ?_; clear hK K
          refine wpAnyIn_ready (rs := [0, 3]) (by kernel_rfl) (by simp) ?_
          refine AllReadyIn.cons rfl (fun K hK => ?_) ?_
          · go_simp; refine hK _ _ ?_; clear hK K
            refine wpAnyIn_ready (rs := [3]) (by kernel_rfl) (by simp) ?_
            refine AllReadyIn.cons rfl (fun K hK => ?_) ?_
            · go_simp; refine hK _ _ ?_; clear hK K
              refine wpAnyIn_ready (rs := [4]) (by kernel_rfl) (by simp) ?_
              refine AllReadyIn.cons rfl (fun K hK => ?_) ?_
              · go_simp; gi_wp2_with (refine ⟨trivial, ?_⟩; gi_at_call 16; refine (CallsIn.inRound q (callsIn_wide.2 SM.out)).mono ?_; rintro e w3 ⟨rfl, rfl⟩)
                refine wpAnyIn_ready (rs := [5]) (by kernel_rfl) (by simp) ?_
                refine AllReadyIn.cons rfl (fun K hK => ?_) ?_
                · go_simp; refine hK _ _ ?_; clear hK K
                  refine wpAnyIn_ready (rs := [6]) (by kernel_rfl) (by simp) ?_
                  refine AllReadyIn.cons rfl (fun K hK => ?_) ?_
                  · rw [if_pos (by kernel_rfl)]; refine wpIn_append_run _ (.tmp 16) (.tmp 21) 22 22 rfl _ _ rfl rfl _ _ hap ?_; refine hK _ _ ?_; clear hK K
                    refine wpAnyIn_ready (rs := [7]) (by kernel_rfl) (by simp) ?_
                    refine AllReadyIn.cons rfl (fun K hK => ?_) ?_
                    · go_simp; refine hK _ _ ?_; clear hK K
                      refine wpAnyIn_done (by kernel_rfl) ?_ _
                      exact ⟨KF.out.from _, K2.out, ⟨⟨_, X2.out, O2.out, trivial⟩, B2.out⟩, K1.out.trans K2.out⟩
                    exact AllReadyIn.nil
                  exact AllReadyIn.nil
                exact AllReadyIn.nil
              exact AllReadyIn.nil
            exact AllReadyIn.nil
          refine AllReadyIn.cons rfl (fun K hK => ?_) ?_
          · go_simp; refine hK _ _ ?_; clear hK K
            refine wpAnyIn_ready (rs := [0, 4]) (by kernel_rfl) (by simp) ?_
            refine AllReadyIn.cons rfl (fun K hK => ?_) ?_
            · go_simp; refine hK _ _ ?_; clear hK K
              refine wpAnyIn_ready (rs := [4]) (by kernel_rfl) (by simp) ?_
              refine AllReadyIn.cons rfl (fun K hK => ?_) ?_
              · go_simp; gi_wp2_with (refine ⟨trivial, ?_⟩; gi_at_call 16; refine (CallsIn.inRound q (callsIn_wide.2 SM.out)).mono ?_; rintro e w3 ⟨rfl, rfl⟩)
                refine wpAnyIn_ready (rs := [5]) (by kernel_rfl) (by simp) ?_
                refine AllReadyIn.cons rfl (fun K hK => ?_) ?_
                · go_simp; refine hK _ _ ?_; clear hK K
                  refine wpAnyIn_ready (rs := [6]) (by kernel_rfl) (by simp) ?_
                  refine AllReadyIn.cons rfl (fun K hK => ?_) ?_
                  · rw [if_pos (by kernel_rfl)]; refine wpIn_append_run _ (.tmp 16) (.tmp 21) 22 22 rfl _ _ rfl rfl _ _ hap ?_; refine hK _ _ ?_; clear hK K
                    refine wpAnyIn_ready (rs := [7]) (by kernel_rfl) (by simp) ?_
                    refine AllReadyIn.cons rfl (fun K hK => ?_) ?_
                    · go_simp; refine hK _ _ ?_; clear hK K
                      refine wpAnyIn_done (by kernel_rfl) ?_ _
                      exact ⟨KF.out.from _, K2.out, ⟨⟨_, X2.out, O2.out, trivial⟩, B2.out⟩, K1.out.trans K2.out⟩
                    exact AllReadyIn.nil
                  exact AllReadyIn.nil
                exact AllReadyIn.nil
              exact AllReadyIn.nil
            refine AllReadyIn.cons rfl (fun K hK => ?_) ?_
            · go_simp; gi_wp2_with (refine ⟨trivial, ?_⟩; gi_at_call 16; refine (CallsIn.inRound q (callsIn_wide.2 SM.out)).mono ?_; rintro e w3 ⟨rfl, rfl⟩)
              refine wpAnyIn_ready (rs := [0, 5]) (by kernel_rfl) (by simp) ?_
              refine AllReadyIn.cons rfl (fun K hK => ?_) ?_
              · go_simp; refine hK _ _ ?_; clear hK K
                refine wpAnyIn_ready (rs := [5]) (by kernel_rfl) (by simp) ?_
                refine AllReadyIn.cons rfl (fun K hK => ?_) ?_
                · go_simp; refine hK _ _ ?_; clear hK K
                  refine wpAnyIn_ready (rs := [6]) (by kernel_rfl) (by simp) ?_
                  refine AllReadyIn.cons rfl (fun K hK => ?_) ?_
                  · rw [if_pos (by kernel_rfl)]; refine wpIn_append_run _ (.tmp 16) (.tmp 21) 22 22 rfl _ _ rfl rfl _ _ hap ?_; refine hK _ _ ?_; clear hK K
                    refine wpAnyIn_ready (rs := [7]) (by kernel_rfl) (by simp) ?_
                    refine AllReadyIn.cons rfl (fun K hK => ?_) ?_
                    · go_simp; refine hK _ _ ?_; clear hK K
                      refine wpAnyIn_done (by kernel_rfl) ?_ _
                      exact ⟨KF.out.from _, K2.out, ⟨⟨_, X2.out, O2.out, trivial⟩, B2.out⟩, K1.out.trans K2.out⟩
                    exact AllReadyIn.nil
                  exact AllReadyIn.nil
                exact AllReadyIn.nil
              refine AllReadyIn.cons rfl (fun K hK => ?_) ?_
              · go_simp; refine hK _ _ ?_; clear hK K
                refine wpAnyIn_ready (rs := [0]) (by kernel_rfl) (by simp) ?_
                refine AllReadyIn.cons rfl (fun K hK => ?_) ?_
                · go_simp; refine hK _ _ ?_; clear hK K
                  refine wpAnyIn_ready (rs := [6]) (by kernel_rfl) (by simp) ?_
                  refine AllReadyIn.cons rfl (fun K hK => ?_) ?_
                  · rw [if_pos (by kernel_rfl)]; refine wpIn_append_run _ (.tmp 16) (.tmp 21) 22 22 rfl _ _ rfl rfl _ _ hap ?_; refine hK _ _ ?_; clear hK K
                    refine wpAnyIn_ready (rs := [7]) (by kernel_rfl) (by simp) ?_
                    refine AllReadyIn.cons rfl (fun K hK => ?_) ?_
                    · go_simp; refine hK _ _ ?_; clear hK K
                      refine wpAnyIn_done (by kernel_rfl) ?_ _
                      exact ⟨KF.out.from _, K2.out, ⟨⟨_, X2.out, O2.out, trivial⟩, B2.out⟩, K1.out.trans K2.out⟩
                    exact AllReadyIn.nil
                  exact AllReadyIn.nil
                exact AllReadyIn.nil
              exact AllReadyIn.nil
            exact AllReadyIn.nil
          exact AllReadyIn.nil
        refine AllReadyIn.cons rfl (fun K hK => ?_) ?_
        · go_simp; refine hK _ _ ?_; clear hK K
          refine wpAnyIn_ready (rs := [0, 1]) (by kernel_rfl) (by simp) ?_
          refine AllReadyIn.cons rfl (fun K hK => ?_) ?_
          · go_simp; refine hK _ _ ?_; clear hK K
            refine wpAnyIn_ready (rs := [1]) (by kernel_rfl) (by simp) ?_
            refine AllReadyIn.cons rfl (fun K hK => ?_) ?_
            · go_simp; refine hK _ _ ?_; clear hK K
              refine wpAnyIn_ready (rs := [4]) (by kernel_rfl) (by simp) ?_
              refine AllReadyIn.cons rfl (fun K hK => ?_) ?_
              · go_simp; gi_wp2_with (refine ⟨trivial, ?_⟩; gi_at_call 16; refine (CallsIn.inRound q (callsIn_wide.2 SM.out)).mono ?_; rintro e w3 ⟨rfl, rfl⟩)
                refine wpAnyIn_ready (rs := [5]) (by kernel_rfl) (by simp) ?_
                refine AllReadyIn.cons rfl (fun K hK => ?_) ?_
                · go_simp; refine hK _ _ ?_; clear hK K
                  refine wpAnyIn_ready (rs := [6]) (by kernel_rfl) (by simp) ?_
                  refine AllReadyIn.cons rfl (fun K hK => ?_) ?_
                  · rw [if_pos (by kernel_rfl)]; refine wpIn_append_run _ (.tmp 16) (.tmp 21) 22 22 rfl _ _ rfl rfl _ _ hap ?_; refine hK _ _ ?_; clear hK K
                    refine wpAnyIn_ready (rs := [7]) (by kernel_rfl) (by simp) ?_
                    refine AllReadyIn.cons rfl (fun K hK => ?_) ?_
                    · go_simp; refine hK _ _ ?_; clear hK K
                      refine wpAnyIn_done (by kernel_rfl) ?_ _
                      exact ⟨KF.out.from _, K2.out, ⟨⟨_, X2.out, O2.out, trivial⟩, B2.out⟩, K1.out.trans K2.out⟩
                    exact AllReadyIn.nil
                  exact AllReadyIn.nil
                exact AllReadyIn.nil
              exact AllReadyIn.nil
            exact AllReadyIn.nil
          refine AllReadyIn.cons rfl (fun K hK => ?_) ?_
          · go_simp; refine hK _ _ ?_; clear hK K
            refine wpAnyIn_ready (rs := [0, 4]) (by kernel_rfl) (by simp) ?_
            refine AllReadyIn.cons rfl (fun K hK => ?_) ?_
            · go_simp; refine hK _ _ ?_; clear hK K
              refine wpAnyIn_ready (rs := [4]) (by kernel_rfl) (by simp) ?_
              refine AllReadyIn.cons rfl (fun K hK => ?_) ?_
              · go_simp; gi_wp2_with (refine ⟨trivial, ?_⟩; gi_at_call 16; refine (CallsIn.inRound q (callsIn_wide.2 SM.out)).mono ?_; rintro e w3 ⟨rfl, rfl⟩)
                refine wpAnyIn_ready (rs := [5]) (by kernel_rfl) (by simp) ?_
                refine AllReadyIn.cons rfl (fun K hK => ?_) ?_
                · go_simp; refine hK _ _ ?_; clear hK K
                  refine wpAnyIn_ready (rs := [6]) (by kernel_rfl) (by simp) ?_
                  refine AllReadyIn.cons rfl (fun K hK => ?_) ?_
                  · rw [if_pos (by kernel_rfl)]; refine wpIn_append_run _ (.tmp 16) (.tmp 21) 22 22 rfl _ _ rfl rfl _ _ hap ?_; refine hK _ _ ?_; clear hK K
                    refine wpAnyIn_ready (rs := [7]) (by kernel_rfl) (by simp) ?_
                    refine AllReadyIn.cons rfl (fun K hK => ?_) ?_
                    · go_simp; refine hK _ _ ?_; clear hK K
                      refine wpAnyIn_done (by kernel_rfl) ?_ _
                      exact ⟨KF.out.from _, K2.out, ⟨⟨_, X2.out, O2.out, trivial⟩, B2.out⟩, K1.out.trans K2.out⟩
                    exact AllReadyIn.nil
                  exact AllReadyIn.nil
                exact AllReadyIn.nil
              exact AllReadyIn.nil
            refine AllReadyIn.cons rfl (fun K hK => ?_) ?_
            · go_simp; gi_wp2_with (refine ⟨trivial, ?_⟩; gi_at_call 16; refine (CallsIn.inRound q (callsIn_wide.2 SM.out)).mono ?_; rintro e w3 ⟨rfl, rfl⟩)
              refine wpAnyIn_ready (rs := [0, 5]) (by kernel_rfl) (by simp) ?_
              refine AllReadyIn.cons rfl (fun K hK => ?_) ?_
              · go_simp; refine hK _ _ ?_; clear hK K
                refine wpAnyIn_ready (rs := [5]) (by kernel_rfl) (by simp) ?_
                refine AllReadyIn.cons rfl (fun K hK => ?_) ?_
                · go_simp; refine hK _ _ ?_; clear hK K
                  refine wpAnyIn_ready (rs := [6]) (by kernel_rfl) (by simp) ?_
                  refine AllReadyIn.cons rfl (fun K hK => ?_) ?_
                  · rw [if_pos (by kernel_rfl)]; refine wpIn_append_run _ (.tmp 16) (.tmp 21) 22 22 rfl _ _ rfl rfl _ _ hap ?_; refine hK _ _ ?_; clear hK K
                    refine wpAnyIn_ready (rs := [7]) (by kernel_rfl) (by simp) ?_
                    refine AllReadyIn.cons rfl (fun K hK => ?_) ?_
                    · go_simp; refine hK _ _ ?_; clear hK K
                      refine wpAnyIn_done (by kernel_rfl) ?_ _
                      exact ⟨KF.out.from _, K2.out, ⟨⟨_, X2.out, O2.out, trivial⟩, B2.out⟩, K1.out.trans K2.out⟩
                    exact AllReadyIn.nil
                  exact AllReadyIn.nil
                exact AllReadyIn.nil
              refine AllReadyIn.cons rfl (fun K hK => ?_) ?_
              · go_simp; refine hK _ _ ?_; clear hK K
                refine wpAnyIn_ready (rs := [0]) (by kernel_rfl) (by simp) ?_
                refine AllReadyIn.cons rfl (fun K hK => ?_) ?_
                · go_simp; refine hK _ _ ?_; clear hK K
                  refine wpAnyIn_ready (rs := [6]) (by kernel_rfl) (by simp) ?_
                  refine AllReadyIn.cons rfl (fun K hK => ?_) ?_
                  · rw [if_pos (by kernel_rfl)]; refine wpIn_append_run _ (.tmp 16) (.tmp 21) 22 22 rfl _ _ rfl rfl _ _ hap ?_; refine hK _ _ ?_; clear hK K
                    refine wpAnyIn_ready (rs := [7]) (by kernel_rfl) (by simp) ?_
                    refine AllReadyIn.cons rfl (fun K hK => ?_) ?_
                    · go_simp; refine hK _ _ ?_; clear hK K
                      refine wpAnyIn_done (by kernel_rfl) ?_ _
                      exact ⟨KF.out.from _, K2.out, ⟨⟨_, X2.out, O2.out, trivial⟩, B2.out⟩, K1.out.trans K2.out⟩
                    exact AllReadyIn.nil
                  exact AllReadyIn.nil
                exact AllReadyIn.nil
              exact AllReadyIn.nil
            exact AllReadyIn.nil
          exact AllReadyIn.nil
        exact AllReadyIn.nil
      exact AllReadyIn.nil
    case done =>
      rintro D ys W hD rfl ⟨⟨⟨v, hv, hrow, _⟩, hB⟩, hKB⟩ hK
      have hrow' : OwnN W (w.heap.size + 3) v ((gps (ln l) k (gct (ln l) k)).map (gsum (rd l))) := by unfold OwnN; rw [List.length_map]; exact hrow
      obtain ⟨A0, c0, hv0, _⟩ := own_ns hrow'
      rw [List.length_map] at hv0
      subst hv0
      have hc1 := hv.cell
      gi_wp2
      refine ⟨by simp, .inl ⟨_, _, rfl, run_takeDeferred hK, ?_⟩⟩
      exact ⟨_, results_tmp rfl _ _ _, outL_own GS.out.symm (ownsRow_putObj hrow' _ hK rfl) (hB.trans (belowK_b (w := w) (Nat.le_refl _) W D _ _ (by omega) hK rfl rfl))⟩
    case stop =>
      rintro D cc pre W _ _ h _
      exact h.elim
end Go.Proofs.Ytekcknpgpfeijaa.Series
