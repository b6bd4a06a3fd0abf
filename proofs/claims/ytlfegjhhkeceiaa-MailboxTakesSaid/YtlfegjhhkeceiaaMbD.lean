/- Frames that are written whole; the reference's Take. -/
import Derived.Test.YtlfegjhhkeceiaaMbC
import Derived.Deep.RegionHeld3
set_option linter.unusedVariables false
namespace Go.Proofs.Ytlfegjhhkeceiaa.Mbx
open Go.RowKit

theorem at_zero {o : Oper} {r : List Oper} : (o :: r).toArray[0]? = some o := rfl
theorem at_succ {x o : Oper} {r : List Oper} {n : Nat} (h : r.toArray[n]? = some o) : (x :: r).toArray[n + 1]? = some o := by simpa using h
abbrev bxF (x : Fm) : Obj := .cells #[.int .i64 x.k, .int .i64 x.f, .int .i64 x.t, .int .i64 x.s, .int .i64 x.g, .int .i64 x.q, .int .i64 x.h, .bool x.u, .string x.d] 24
/-- The nine cells of a frame. -/
def FmC (w : World) (b p : Nat) (x : Fm) : Prop := w.cell? ⟨b, p, none⟩ = some (.int .i64 x.k) ∧ w.cell? ⟨b, p + 1, none⟩ = some (.int .i64 x.f) ∧ w.cell? ⟨b, p + 2, none⟩ = some (.int .i64 x.t) ∧ w.cell? ⟨b, p + 3, none⟩ = some (.int .i64 x.s) ∧ w.cell? ⟨b, p + 4, none⟩ = some (.int .i64 x.g) ∧ w.cell? ⟨b, p + 5, none⟩ = some (.int .i64 x.q) ∧ w.cell? ⟨b, p + 6, none⟩ = some (.int .i64 x.h) ∧ w.cell? ⟨b, p + 7, none⟩ = some (.bool x.u) ∧ w.cell? ⟨b, p + 8, none⟩ = some (.string x.d)
theorem MlC.fm {w : World} {b p : Nat} {x : Ml} (h : MlC w b p x) : FmC w b p x.1 := ⟨h.1, h.2.1, h.2.2.1, h.2.2.2.1, h.2.2.2.2.1, h.2.2.2.2.2.1, h.2.2.2.2.2.2.1, h.2.2.2.2.2.2.2.1, h.2.2.2.2.2.2.2.2.1⟩
theorem FmC.block {w w' : World} {b p : Nat} {x : Fm} (h : FmC w b p x) (e : w'.heap[b]? = w.heap[b]?) : FmC w' b p x := by
  have k : ∀ j, w'.cell? ⟨b, j, none⟩ = w.cell? ⟨b, j, none⟩ := fun j => World.cell?_of_block (a := ⟨b, j, none⟩) e
  unfold FmC
  rw [k, k, k, k, k, k, k, k, k]
  exact h
theorem FmC.below {w w' : World} {b p B : Nat} {x : Fm} (h : FmC w b p x) (hb : Below B w w') (hlt : b < B) : FmC w' b p x := h.block (hb.block b hlt)
theorem fm_block {w : World} {b : Nat} {x : Fm} (h : w.heap[b]? = some (bxF x)) : FmC w b 0 x :=
  ⟨blk_cell h 0 rfl, blk_cell h 1 rfl, blk_cell h 2 rfl, blk_cell h 3 rfl, blk_cell h 4 rfl, blk_cell h 5 rfl, blk_cell h 6 rfl, blk_cell h 7 rfl, blk_cell h 8 rfl⟩
/-- A frame is written over another. -/
def put9 (w : World) (b : Nat) (y : Fm) : World :=
  ((((((((w.setCell ⟨b, 0, none⟩ (.int .i64 y.k)).setCell ⟨b, 1, none⟩ (.int .i64 y.f)).setCell ⟨b, 2, none⟩ (.int .i64 y.t)).setCell ⟨b, 3, none⟩ (.int .i64 y.s)).setCell ⟨b, 4, none⟩ (.int .i64 y.g)).setCell ⟨b, 5, none⟩ (.int .i64 y.q)).setCell ⟨b, 6, none⟩ (.int .i64 y.h)).setCell ⟨b, 7, none⟩ (.bool y.u)).setCell ⟨b, 8, none⟩ (.string y.d)
theorem put9_below {w w' : World} {B b : Nat} (h : Below B w w') (hb : B ≤ b) (y : Fm) : Below B w (put9 w' b y) :=
  ((((((((h.setCell hb _).setCell hb _).setCell hb _).setCell hb _).setCell hb _).setCell hb _).setCell hb _).setCell hb _).setCell hb _
theorem put9_other (w : World) {b k : Nat} (hk : k ≠ b) (y : Fm) : (put9 w b y).heap[k]? = w.heap[k]? := by
  unfold put9
  rw [Below.heap_setCell _ _ _ k hk, Below.heap_setCell _ _ _ k hk, Below.heap_setCell _ _ _ k hk, Below.heap_setCell _ _ _ k hk, Below.heap_setCell _ _ _ k hk, Below.heap_setCell _ _ _ k hk, Below.heap_setCell _ _ _ k hk, Below.heap_setCell _ _ _ k hk, Below.heap_setCell _ _ _ k hk]
theorem put9_size (w : World) (b : Nat) (y : Fm) : (put9 w b y).heap.size = w.heap.size := by unfold put9; simp
theorem put9_grown (w : World) (b : Nat) (y : Fm) : w.grownBy (put9 w b y) (some b) := by
  have h := put9_below (Below.refl b w) (Nat.le_refl b) y
  exact ⟨h.os, h.tape, h.output, h.size, fun k _ hne => put9_other w (fun e => hne (by rw [e])) y⟩
theorem nine_blk {w : World} {b : Nat} {T : TypeId} {a0 a1 a2 a3 a4 a5 a6 a7 a8 : Value} (h : w.heap[b]? = some (.cells #[a0, a1, a2, a3, a4, a5, a6, a7, a8] T (0, 0))) (b0 b1 b2 b3 b4 b5 b6 b7 b8 : Value) :
    (((((((((w.setCell ⟨b, 0, none⟩ b0).setCell ⟨b, 1, none⟩ b1).setCell ⟨b, 2, none⟩ b2).setCell ⟨b, 3, none⟩ b3).setCell ⟨b, 4, none⟩ b4).setCell ⟨b, 5, none⟩ b5).setCell ⟨b, 6, none⟩ b6).setCell ⟨b, 7, none⟩ b7).setCell ⟨b, 8, none⟩ b8).heap[b]? = some (.cells #[b0, b1, b2, b3, b4, b5, b6, b7, b8] T (0, 0)) := by
  have h1 := blk_set h 0 b0
  rw [show (#[a0, a1, a2, a3, a4, a5, a6, a7, a8] : Array Value).setIfInBounds 0 b0 = #[b0, a1, a2, a3, a4, a5, a6, a7, a8] from rfl] at h1
  have h2 := blk_set h1 1 b1
  rw [show (#[b0, a1, a2, a3, a4, a5, a6, a7, a8] : Array Value).setIfInBounds 1 b1 = #[b0, b1, a2, a3, a4, a5, a6, a7, a8] from rfl] at h2
  have h3 := blk_set h2 2 b2
  rw [show (#[b0, b1, a2, a3, a4, a5, a6, a7, a8] : Array Value).setIfInBounds 2 b2 = #[b0, b1, b2, a3, a4, a5, a6, a7, a8] from rfl] at h3
  have h4 := blk_set h3 3 b3
  rw [show (#[b0, b1, b2, a3, a4, a5, a6, a7, a8] : Array Value).setIfInBounds 3 b3 = #[b0, b1, b2, b3, a4, a5, a6, a7, a8] from rfl] at h4
  have h5 := blk_set h4 4 b4
  rw [show (#[b0, b1, b2, b3, a4, a5, a6, a7, a8] : Array Value).setIfInBounds 4 b4 = #[b0, b1, b2, b3, b4, a5, a6, a7, a8] from rfl] at h5
  have h6 := blk_set h5 5 b5
  rw [show (#[b0, b1, b2, b3, b4, a5, a6, a7, a8] : Array Value).setIfInBounds 5 b5 = #[b0, b1, b2, b3, b4, b5, a6, a7, a8] from rfl] at h6
  have h7 := blk_set h6 6 b6
  rw [show (#[b0, b1, b2, b3, b4, b5, a6, a7, a8] : Array Value).setIfInBounds 6 b6 = #[b0, b1, b2, b3, b4, b5, b6, a7, a8] from rfl] at h7
  have h8 := blk_set h7 7 b7
  rw [show (#[b0, b1, b2, b3, b4, b5, b6, a7, a8] : Array Value).setIfInBounds 7 b7 = #[b0, b1, b2, b3, b4, b5, b6, b7, a8] from rfl] at h8
  have h9 := blk_set h8 8 b8
  rw [show (#[b0, b1, b2, b3, b4, b5, b6, b7, a8] : Array Value).setIfInBounds 8 b8 = #[b0, b1, b2, b3, b4, b5, b6, b7, b8] from rfl] at h9
  exact h9
theorem put9_blk {w : World} {b : Nat} {x : Fm} (h : w.heap[b]? = some (bxF x)) (y : Fm) : (put9 w b y).heap[b]? = some (bxF y) := by
  unfold put9
  exact nine_blk h _ _ _ _ _ _ _ _ _
/-- Take hands back a frame, mails, and whether there was one. -/
def OutTk (w : World) (r : Fm × List Ml × Bool) (e : Ending) (w' : World) : Prop := ∃ v, e = .returned (.tuple #[fmV r.1, v, .bool r.2.2]) ∧ OwnM w' w.heap.size v r.2.1 ∧ Below w.heap.size w w' ∧ FOk r.1
abbrev zq : Fm := ⟨0, 0, 0, 0, 0, 0, 0, false, ⟨#[]⟩⟩
theorem zf_ok : FOk zf := by unfold FOk zf I64; simp [ByteArray.size]
theorem take_hit {l : List Ml} {to now life : Int} {k : Nat} (hk : k < (expi l now life).length) (h : (expi l now life)[k].1.t = to) (hn : ∀ j (hj : j < (expi l now life).length), j < k → (expi l now life)[j].1.t ≠ to) : take l to now life = ((expi l now life)[k].1, (expi l now life).eraseIdx k, true) := by
  unfold take
  rw [pull_at _ k hk h hn]
theorem take_miss {l : List Ml} {to now life : Int} (hn : ∀ j (hj : j < (expi l now life).length), (expi l now life)[j].1.t ≠ to) : take l to now life = (zf, expi l now life, false) := by
  unfold take
  rw [pull_no _ hn]

set_option maxRecDepth 100000 in
set_option maxHeartbeats 4000000 in
theorem rtake_any (A : Option Addr) (c : Nat) (l : List Ml) (to now life : Int) (w : World) (hl : l.length ≤ 9223372036854775807) (hA : MlAt w w.heap.size A l) :
    Calls Try.prog 14 #[.slice A l.length c, .int .i64 to, .int .i64 now, .int .i64 life] w (OutTk w (take l to now life)) := by
  have K0 := Lib.hid (rexpire_any A c l now life (w.alloc (bxF zf)) hl (hA.next (alloc_below _ _)))
  have LM := expi_len l now life
  have TH := Lib.hid (fun k hk h hn => take_hit (l := l) (to := to) (now := now) (life := life) (k := k) hk h hn)
  have TM := Lib.hid (fun hn => take_miss (l := l) (to := to) (now := now) (life := life) hn)
  clear hA
  generalize take l to now life = F at *
  generalize expi l now life = E at *
  unfold OutM at K0
  go_enter Try.func14, Try.ntmps14
  go_wp2_with fail
  refine K0.out.mono ?_
  rintro _ w1 ⟨v, rfl, ho, hb⟩
  have X1 := Lib.hid (show w1.heap[w.heap.size]? = some (bxF zf) from (hb.block w.heap.size (by simp)).trans (blk_new w _))
  have B1 := Lib.hid (box_below hb)
  have hz1 : w.heap.size + 1 ≤ w1.heap.size := by have := hb.size; simpa using this
  have O1 := Lib.hid (show OwnM w1 (w.heap.size + 1) v E by have h := ho; simp at h; exact h)
  obtain ⟨A1, c1, rfl, hs, _, _⟩ := O1.out.read
  have HM := Lib.hid hs
  clear hb hs ho K0
  go_wp2_with fail
  go_loop [12] (fun vk => ∃ k : Nat, vk = .int .i64 k ∧ k ≤ E.length ∧ Hid (∀ j (hj : j < E.length), j < k → E[j].1.t ≠ to)) (fun vk => E.length - (intOf vk).toNat)
  case atStart => exact ⟨0, rfl, Nat.zero_le _, Lib.hid fun j hj h => by omega⟩
  case round =>
    obtain ⟨k, rfl, hk, HN⟩ := hrel
    by_cases hlt : k < E.length
    rotate_left
    · have d0 : ¬ k < E.length := hlt
      have R := Lib.hid (TM.out fun j hj => HN.out j hj (by omega))
      have Z := Lib.hid (fm_block (put9_blk X1.out zq))
      have BZ := Lib.hid (put9_below B1.out (Nat.le_refl _) zq)
      have OZ := Lib.hid (O1.out.kept (put9_grown w1 w.heap.size zq) (Or.inr fun e => by have := (O1.out.lt _ e).1; omega))
      have f9 := fun j => blk_fr X1.out j
      obtain ⟨z0, z1, z2, z3, z4, z5, z6, z7, z8⟩ := fm_block X1.out
      clear HN TH TM
      go_wp2_with fail
      rw [R.out]
      clear z0 z1 z2 z3 z4 z5 z6 z7 z8 f9
      obtain ⟨V, hV⟩ : ∃ V, V = put9 w1 w.heap.size zq := ⟨_, rfl⟩
      rw [← hV] at Z BZ OZ
      obtain ⟨r0, r1, r2, r3, r4, r5, r6, r7, r8⟩ := Z.out
      unfold put9 at hV
      dsimp only [zq] at hV r0 r1 r2 r3 r4 r5 r6 r7 r8
      rw [← hV]
      clear hV
      refine bodyPost_ret (v := .tuple #[fmV zq, .slice A1 E.length c1, .bool false]) (by simp [results, Try.results14, go_sem, r0, r1, r2, r3, r4, r5, r6, r7, r8]) rfl ⟨_, rfl, OZ.out.down (Nat.le_succ _), BZ.out, zf_ok⟩
    obtain ⟨bb, p, rfl, hbl, hc, hok⟩ := ml_cell HM.out k hlt
    have OK := Lib.hid hok.1
    have THk := Lib.hid (fun h => TH.out k hlt h HN.out)
    have HK := Lib.hid (show E[k].1.t ≠ to → ∀ j (hj : j < E.length), j < k + 1 → E[j].1.t ≠ to from fun h j hj hjk => by
      by_cases e : j = k
      · subst e; exact h
      · exact HN.out j hj (by omega))
    have g2 := hc.2.2.1
    have HC := Lib.hid hc
    have q0 : (k : Int) < (E.length : Int) := by omega
    have q1 : (0 : Int) ≤ (k : Int) := by omega
    clear HN TH TM hc hok
    by_cases ht : E[k].1.t = to
    rotate_left
    · have N := Lib.hid (HK.out ht)
      have d1 : (E[k].1.t == to) = false := by simpa using ht
      clear ht THk HK HC OK
      generalize E[k].1.t = z at *
      go_wp2_with fail
      go_round
      case rel => exact ⟨k + 1, by go_num, hlt, N⟩
      case measure => simp [intOf]; omega
    · have R := Lib.hid (THk.out ht)
      have d1 : (E[k].1.t == to) = true := by simpa using ht
      clear ht THk HK
      obtain ⟨x, hx⟩ : ∃ x, E[k] = x := ⟨_, rfl⟩
      rw [hx] at g2 d1 HC OK R
      clear hx
      obtain ⟨⟨x0, x1, x2, x3, x4, x5, x6, x7, x8⟩, x9⟩ := x
      simp only at g2 d1
      have KW := Lib.hid (rwithout_any (some ⟨bb, p, none⟩) c1 E k w1.drew (by omega) hlt (HM.out.next (below_drewN (Below.refl w1.heap.size w1) 1)))
      unfold OutM at KW
      have S0 : FmC w1.drew bb (p + k * 10) ⟨x0, x1, x2, x3, x4, x5, x6, x7, x8⟩ := HC.out.fm.below (below_drewN (Below.refl w1.heap.size w1) 1) hbl
      have BD := Lib.hid (show Below w.heap.size w w1.drew from below_drewN B1.out 1)
      have XD := Lib.hid (show w1.drew.heap[w.heap.size]? = some (bxF zf) from X1.out)
      have hbne : bb ≠ w.heap.size := by
        have := (O1.out.lt bb rfl).1
        omega
      clear HC
      have d2 : to = x2 := (by simpa using d1 : x2 = to).symm
      go_wp2_with fail
      refine wp_region_held_drew (S := (fun wy : World => wy.cell? ⟨bb, p + k * 10, none⟩ = some (.int .i64 x0) ∧ wy.cell? ⟨bb, p + k * 10 + 1, none⟩ = some (.int .i64 x1) ∧ wy.cell? ⟨bb, p + k * 10 + 2, none⟩ = some (.int .i64 x2) ∧ wy.cell? ⟨bb, p + k * 10 + 3, none⟩ = some (.int .i64 x3) ∧ wy.cell? ⟨bb, p + k * 10 + 4, none⟩ = some (.int .i64 x4) ∧ wy.cell? ⟨bb, p + k * 10 + 5, none⟩ = some (.int .i64 x5) ∧ wy.cell? ⟨bb, p + k * 10 + 6, none⟩ = some (.int .i64 x6) ∧ wy.cell? ⟨bb, p + k * 10 + 7, none⟩ = some (.bool x7) ∧ wy.cell? ⟨bb, p + k * 10 + 8, none⟩ = some (.string x8))) (by kernel_rfl) (S0 : FmC w1.drew bb (p + k * 10) ⟨x0, x1, x2, x3, x4, x5, x6, x7, x8⟩) (fun hHeld => ?_)
      refine wpAnyH_take (i := 0) (v := (.slice (some ⟨bb, p, none⟩) E.length c1)) at_zero (by kernel_rfl) (by kernel_rfl) (by kernel_rfl) (fun _ _ _ h => h) (Or.inl ⟨by kernel_rfl, fun wy hSw => ?_⟩) (by assumption) ?_
      · (try dsimp only at hSw); go_simp
      try simp only [Act.put, List.setIfInBounds_toArray, List.set_cons_zero, List.set_cons_succ]
      refine wpAnyH_take (i := 1) (v := (.int .i64 (k : Int))) (at_succ at_zero) (by kernel_rfl) (by kernel_rfl) (by kernel_rfl) (fun _ _ _ h => h) (Or.inl ⟨by kernel_rfl, fun wy hSw => ?_⟩) (by assumption) ?_
      · (try dsimp only at hSw); go_simp
      try simp only [Act.put, List.setIfInBounds_toArray, List.set_cons_zero, List.set_cons_succ]
      refine wpAnyH_take (i := 2) (v := (.pointer (some ⟨bb, p + k * 10, none⟩))) (at_succ (at_succ at_zero)) (by kernel_rfl) (by kernel_rfl) (by kernel_rfl) (fun _ _ _ h => h) (Or.inl ⟨by kernel_rfl, fun wy hSw => ?_⟩) (by assumption) ?_
      · (try dsimp only at hSw); go_simp
      try simp only [Act.put, List.setIfInBounds_toArray, List.set_cons_zero, List.set_cons_succ]
      refine wpAnyH_take (i := 3) (v := (.pointer (some ⟨bb, p + k * 10, none⟩))) (at_succ (at_succ (at_succ at_zero))) (by kernel_rfl) (by kernel_rfl) (by kernel_rfl) (fun _ _ _ h => h) (Or.inl ⟨by kernel_rfl, fun wy hSw => ?_⟩) (by assumption) ?_
      · (try dsimp only at hSw); go_simp
      try simp only [Act.put, List.setIfInBounds_toArray, List.set_cons_zero, List.set_cons_succ]
      refine wpAnyH_take (i := 4) (v := (.agg #[.int .i64 x0, .int .i64 x1, .int .i64 x2, .int .i64 x3, .int .i64 x4, .int .i64 x5, .int .i64 x6, .bool x7, .string x8])) (at_succ (at_succ (at_succ (at_succ at_zero)))) (by kernel_rfl) (by kernel_rfl) (by kernel_rfl) (fun _ _ _ h => h) (Or.inl ⟨by kernel_rfl, fun wy hSw => ?_⟩) (by assumption) ?_
      · (try dsimp only at hSw); go_simp
      try simp only [Act.put, List.setIfInBounds_toArray, List.set_cons_zero, List.set_cons_succ]
      refine wpAnyH_take (i := 5) (v := (.slice (some ⟨bb, p, none⟩) E.length c1)) (at_succ (at_succ (at_succ (at_succ (at_succ at_zero))))) (by kernel_rfl) (by kernel_rfl) (by kernel_rfl) (fun _ _ _ h => h) (Or.inl ⟨by kernel_rfl, fun wy hSw => ?_⟩) (by assumption) ?_
      · (try dsimp only at hSw); go_simp
      try simp only [Act.put, List.setIfInBounds_toArray, List.set_cons_zero, List.set_cons_succ]
      refine wpAnyH_take (i := 6) (v := (.int .i64 (k : Int))) (at_succ (at_succ (at_succ (at_succ (at_succ (at_succ at_zero)))))) (by kernel_rfl) (by kernel_rfl) (by kernel_rfl) (fun _ _ _ h => h) (Or.inl ⟨by kernel_rfl, fun wy hSw => ?_⟩) (by assumption) ?_
      · (try dsimp only at hSw); go_simp
      try simp only [Act.put, List.setIfInBounds_toArray, List.set_cons_zero, List.set_cons_succ]
      refine wpAnyH_ready (rs := [7]) (by kernel_rfl) (by simp) ?_
      refine AllReadyH.cons (at_succ (at_succ (at_succ (at_succ (at_succ (at_succ (at_succ at_zero))))))) (fun K hK => ?_) AllReadyH.nil
      rw [if_pos (by kernel_rfl)]
      go_simp
      refine KW.out.mono ?_
      rintro _ w5 ⟨v5, rfl, ho5, hb5⟩
      have S5 : FmC w5 bb (p + k * 10) ⟨x0, x1, x2, x3, x4, x5, x6, x7, x8⟩ := S0.below hb5 hbl
      have O5 := Lib.hid (show OwnM w5 w.heap.size v5 (E.eraseIdx k) from ho5.down (Nat.le_trans (Nat.le_succ _) hz1))
      have B5 := Lib.hid (BD.out.trans (hb5.mono (Nat.le_trans (Nat.le_succ _) hz1)))
      have X5 := Lib.hid (show w5.heap[w.heap.size]? = some (bxF zf) from (hb5.block w.heap.size (Nat.lt_of_lt_of_le (Nat.lt_succ_self _) hz1)).trans XD.out)
      have N5 := Lib.hid (show v5.ownBlock ≠ some w.heap.size from fun e => by have := (ho5.lt _ e).1; have hz1 := hz1; simp at this; omega)
      clear ho5 hb5 hHeld
      go_wp2_with fail
      refine hK.out _ _ S5 (fun hHeld => ?_)
      clear hK K
      try simp only [Act.put, List.setIfInBounds_toArray, List.set_cons_zero, List.set_cons_succ]
      have f9 := fun j => blk_fr X5.out j
      obtain ⟨z0, z1, z2, z3, z4, z5, z6, z7, z8⟩ := fm_block X5.out
      refine wpAnyH_ready (rs := [8]) (by kernel_rfl) (by simp) ?_
      refine AllReadyH.cons (at_succ (at_succ (at_succ (at_succ (at_succ (at_succ (at_succ (at_succ at_zero)))))))) (fun K hK => ?_) AllReadyH.nil
      rw [if_pos (by kernel_rfl)]
      go_simp
      refine hK.out _ _ (show FmC (put9 w5 w.heap.size ⟨x0, x1, x2, x3, x4, x5, x6, x7, x8⟩) bb (p + k * 10) ⟨x0, x1, x2, x3, x4, x5, x6, x7, x8⟩ from FmC.block hHeld (put9_other _ hbne _)) (fun hHeld => ?_)
      clear hK K
      try simp only [Act.put, List.setIfInBounds_toArray, List.set_cons_zero, List.set_cons_succ]
      refine wpAnyH_take (i := 9) (v := v5) (at_succ (at_succ (at_succ (at_succ (at_succ (at_succ (at_succ (at_succ (at_succ at_zero))))))))) (by kernel_rfl) (by kernel_rfl) (by kernel_rfl) (fun _ _ _ h => h) (Or.inl ⟨by kernel_rfl, fun wy hSw => ?_⟩) (by assumption) ?_
      · (try dsimp only at hSw); go_simp
      try simp only [Act.put, List.setIfInBounds_toArray, List.set_cons_zero, List.set_cons_succ]
      refine wpAnyH_take (i := 10) (v := (.bool true)) (at_succ (at_succ (at_succ (at_succ (at_succ (at_succ (at_succ (at_succ (at_succ (at_succ at_zero)))))))))) (by kernel_rfl) (by kernel_rfl) (by kernel_rfl) (fun _ _ _ h => h) (Or.inl ⟨by kernel_rfl, fun wy hSw => ?_⟩) (by assumption) ?_
      · (try dsimp only at hSw); go_simp
      try simp only [Act.put, List.setIfInBounds_toArray, List.set_cons_zero, List.set_cons_succ]
      refine wpAnyH_done (by kernel_rfl) ?_ _
      have OZ := Lib.hid (O5.out.kept (put9_grown w5 w.heap.size ⟨x0, x1, x2, x3, x4, x5, x6, x7, x8⟩) (Or.inr N5.out))
      have BZ := Lib.hid (put9_below B5.out (Nat.le_refl _) ⟨x0, x1, x2, x3, x4, x5, x6, x7, x8⟩)
      have Z := Lib.hid (fm_block (put9_blk X5.out ⟨x0, x1, x2, x3, x4, x5, x6, x7, x8⟩))
      obtain ⟨V, hV⟩ : ∃ V, V = put9 w5 w.heap.size ⟨x0, x1, x2, x3, x4, x5, x6, x7, x8⟩ := ⟨_, rfl⟩
      rw [← hV] at Z BZ OZ
      obtain ⟨r0, r1, r2, r3, r4, r5, r6, r7, r8⟩ := Z.out
      unfold put9 at hV
      dsimp only at hV r0 r1 r2 r3 r4 r5 r6 r7 r8
      clear z0 z1 z2 z3 z4 z5 z6 z7 z8 f9
      go_wp2_with fail
      rw [R.out, ← hV]
      clear hV
      refine bodyPost_ret (v := .tuple #[fmV ⟨x0, x1, x2, x3, x4, x5, x6, x7, x8⟩, v5, .bool true]) (by simp [results, Try.results14, go_sem, r0, r1, r2, r3, r4, r5, r6, r7, r8]) rfl ⟨_, rfl, OZ.out, BZ.out, OK.out⟩
end Go.Proofs.Ytlfegjhhkeceiaa.Mbx
