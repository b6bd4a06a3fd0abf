/- Contracts of the closures and of Add, Scale and Cumulate of series. -/
import Derived.Test.YtekcknpgpfeijaaEC
import Derived.Shelf.Abstract
set_option linter.unusedVariables false
namespace Go.Proofs.Ytekcknpgpfeijaa.Series
open Go.RowKit Go.Shelf

theorem below_of_drewN {w w' : World} (h : ∃ m, w' = w.drewN m) : Below w.heap.size w w' := by obtain ⟨m, rfl⟩ := h; exact below_drewN (Below.refl _ _) _

set_option maxHeartbeats 1000000 in
theorem addc_any (wr : World) (e : Nat) (f : Nat → Int) (h : RowN wr e 2 f) (b0 : I64 (f 0)) (b1 : I64 (f 1)) :
    Calls Try.prog 37 #[.slice (some ⟨e, 0, none⟩) 2 2] wr fun r w' => r = .returned (.int .i64 (sat (f 0 + f 1))) ∧ Below wr.heap.size wr w' := by
  have c0 := h.cell (i := 0) (by omega)
  have c1 := h.cell (i := 1) (by omega)
  have B0 := Lib.hid b0
  have B1 := Lib.hid b1
  clear h b0 b1
  generalize f 0 = x at *
  generalize f 1 = y at *
  go_enter Try.func37, Try.ntmps37
  go_wp2_with fail
  go_quiet ((go_at_call 38; exact quiet_same (nadd_any _ _ _ B0.out B1.out)))
  go_wp2_with fail
  go_ret
  exact ⟨rfl, below_drewN (Below.refl _ _) _⟩

set_option maxHeartbeats 1000000 in
theorem sclc_any (wr : World) (e p : Nat) (a b : Int) (f : Nat → Int) (h : RowN wr e 1 f) (ha : wr.cell? ⟨p, 0, none⟩ = some (.int .i64 a)) (hb : wr.cell? ⟨p + 1, 0, none⟩ = some (.int .i64 b)) :
    Calls Try.prog 40 #[.slice (some ⟨e, 0, none⟩) 1 1, .pointer (some ⟨p, 0, none⟩), .pointer (some ⟨p + 1, 0, none⟩)] wr fun r w' => r = .returned (.int .i64 (scl (f 0) a b)) ∧ Below wr.heap.size wr w' := by
  have c0 := h.cell (i := 0) (by omega)
  have Q := Lib.hid (fun (n : Nat) => (nscale_any (f 0) a b (wr.drewN n)).mono (fun r w' ⟨h1, m, h2⟩ => (show r = Ending.returned (.int .i64 (scl (f 0) a b)) ∧ ∃ m, w' = wr.drewN m from ⟨h1, _, h2.trans (World.drewN_drewN _ _ _)⟩)))
  clear h
  generalize scl (f 0) a b = z at *
  generalize f 0 = x at *
  go_enter Try.func40, Try.ntmps40
  go_wp2_with fail
  go_quiet ((go_at_call 41; exact Q.out _))
  go_wp2_with fail
  go_ret
  exact ⟨rfl, below_drewN (Below.refl _ _) _⟩

set_option maxHeartbeats 1000000 in
theorem cumc_any (wr : World) (e p : Nat) (s : Int) (f : Nat → Int) (h : RowN wr e 1 f) (hp : wr.heap[p]? = some (.cells #[.int .i64 s] 3 (0, 0))) (hs : -9007199254740992 ≤ s ∧ s ≤ 9007199254740992) (hf : -9007199254740992 ≤ f 0 ∧ f 0 ≤ 9007199254740992) (hne : e ≠ p) :
    Calls Try.prog 44 #[.slice (some ⟨e, 0, none⟩) 1 1, .pointer (some ⟨p, 0, none⟩)] wr fun r w' => r = .returned (.int .i64 (sat (s + f 0))) ∧ w'.heap[p]? = some (.cells #[.int .i64 (s + f 0)] 3 (0, 0)) ∧ wr.grownBy w' (some p) := by
  have c0 := h.cell (i := 0) (by omega)
  have c1 := blk_cell hp 0 rfl
  have fp := blk_fr hp 0
  have X := Lib.hid (blk_set hp 0 (.int .i64 (s + f 0)))
  have HP := Lib.hid hp
  obtain ⟨h1, h2⟩ := hs
  obtain ⟨h3, h4⟩ := hf
  clear h hp
  generalize f 0 = x at *
  have c2 := blk_cell X.out 0 rfl
  go_enter Try.func44, Try.ntmps44
  go_wp2_with fail
  go_region
  go_wp2_with (go_at_call 33; refine (nsat_any _ _).mono ?_; rintro e w' ⟨rfl, rfl⟩)
  go_ret
  exact ⟨rfl, X.out, ⟨rfl, rfl, rfl, by simp, fun k hk hr => Below.heap_setCell wr _ _ k (by show k ≠ p; exact fun e => hr (by rw [e]))⟩⟩

set_option maxRecDepth 100000 in
set_option maxHeartbeats 2000000 in
theorem sadd_any (A A2 : Option Addr) (c c2 : Nat) (l l2 : List Int) (w : World) (hl : l.length ≤ 9223372036854775807) (hl2 : l2.length ≤ 9223372036854775807) (hA : NsAt w w.heap.size A l) (hA2 : NsAt w w.heap.size A2 l2) :
    Calls Try.prog 19 #[.slice A l.length c, .slice A2 l2.length c2] w (OutL w (addL (rd l) (rd l2))) := by
  obtain ⟨w1, hw1⟩ : ∃ w1, w1 = w.alloc (.cells #[.slice A l.length c, .slice A2 l2.length c2] 22) := ⟨_, rfl⟩
  have b1 : Below w.heap.size w w1 := by rw [hw1]; exact alloc_below _ _
  have z1 : w1.heap.size = w.heap.size + 1 := by rw [hw1]; simp
  have LS : LsAt w1 w.heap.size w.heap.size [⟨A, c, l⟩, ⟨A2, c2, l2⟩] := {
    lt := by omega
    le := by omega
    cell := fun j hj => by
      rw [hw1]
      match j, hj with
      | 0, _ => exact blk_cell (blk_new w _) 0 rfl
      | 1, _ => exact blk_cell (blk_new w _) 1 rfl
    nums := fun j hj => by
      match j, hj with
      | 0, _ => exact ⟨hA.below b1, hl⟩
      | 1, _ => exact ⟨hA2.below b1, hl2⟩ }
  have SW := Lib.hid (slotwise_any w1 none w.heap.size w.heap.size 2 37 #[] [⟨A, c, l⟩, ⟨A2, c2, l2⟩] (fun k => sat (atL (rd l) k + atL (rd l2) k)) (fun _ _ => True) (by simp)
    (enters_of Try.func37 (by kernel_rfl) rfl) (fun _ _ _ _ _ => trivial)
    (fun k wr hk _ hrow => (addc_any wr w1.heap.size (el [⟨A, c, l⟩, ⟨A2, c2, l2⟩] k) hrow (by have := lim_at (lim_rd l) k; unfold I64; show -9223372036854775808 ≤ atL (rd l) k ∧ atL (rd l) k ≤ _; omega) (by have := lim_at (lim_rd l2) k; unfold I64; show -9223372036854775808 ≤ atL (rd l2) k ∧ atL (rd l2) k ≤ _; omega)).mono fun e w' ⟨h1, h2⟩ => ⟨h1, trivial, gr_of _ h2⟩)
    trivial LS (fun n h => by cases h) (by simp) (fun n h => by cases h))
  have E := Lib.hid (show mxN [⟨A, c, l⟩, ⟨A2, c2, l2⟩] 2 = max (rd l).length (rd l2).length by rw [rd_length, rd_length]; show max (max 0 (ln l)) (ln l2) = _; omega)
  have B1 := Lib.hid b1
  clear LS hA hA2 z1 b1
  go_enter Try.func19, Try.ntmps19
  go_wp2_with fail
  rw [← hw1]
  clear hw1
  refine SW.out.mono ?_
  rintro e w2 ⟨g, rfl, hge, hrow, _, hgr⟩
  have R := Lib.hid (row_ns hrow)
  have B := Lib.hid (B1.out.trans ((gr_none hgr).mono B1.out.size))
  clear hge hrow hgr
  go_wp2_with fail
  go_ret
  exact outL (k := (List.range (mxN [⟨A, c, l⟩, ⟨A2, c2, l2⟩] 2)).map _) (by rw [E.out]; rfl) (by rw [addL_len]; exact E.out) R.out B.out

set_option maxRecDepth 100000 in
set_option maxHeartbeats 2000000 in
theorem sscale_any (A : Option Addr) (c : Nat) (l : List Int) (a b : Int) (w : World) (hl : l.length ≤ 9223372036854775807) (hA : NsAt w w.heap.size A l) :
    Calls Try.prog 21 #[.slice A l.length c, .int .i64 a, .int .i64 b] w (OutL w (sclL (rd l) a b)) := by
  obtain ⟨w1, hw1⟩ : ∃ w1, w1 = ((w.alloc (.cells #[.int .i64 a] 3)).alloc (.cells #[.int .i64 b] 3)).alloc (.cells #[.slice A l.length c] 22) := ⟨_, rfl⟩
  have b1 : Below w.heap.size w w1 := by rw [hw1]; exact (((Below.refl _ w).alloc (Nat.le_refl _) _).alloc (by simp) _).alloc (by simp; omega) _
  have z1 : w1.heap.size = w.heap.size + 3 := by rw [hw1]; simp
  have z2 : ((w.alloc (.cells #[.int .i64 a] 3)).alloc (.cells #[.int .i64 b] 3)).heap.size = w.heap.size + 2 := by simp
  have LS : LsAt w1 w.heap.size (w.heap.size + 2) [⟨A, c, l⟩] := {
    lt := by omega
    le := by omega
    cell := fun j hj => by
      rw [hw1]
      match j, hj with
      | 0, _ => rw [← z2]; exact blk_cell (blk_new _ _) 0 rfl
    nums := fun j hj => by
      match j, hj with
      | 0, _ => exact ⟨hA.below b1, hl⟩ }
  have ca : w1.cell? ⟨w.heap.size, 0, none⟩ = some (.int .i64 a) := by rw [hw1]; exact blk_cell (blk_alloc (blk_alloc (blk_new _ _) _) _) 0 rfl
  have cb : w1.cell? ⟨w.heap.size + 1, 0, none⟩ = some (.int .i64 b) := by
    rw [hw1, show w.heap.size + 1 = (w.alloc (.cells #[.int .i64 a] 3)).heap.size by simp]; exact blk_cell (blk_alloc (blk_new _ _) _) 0 rfl
  have SW := Lib.hid (slotwise_any w1 none w.heap.size (w.heap.size + 2) 1 40 #[.pointer (some ⟨w.heap.size, 0, none⟩), .pointer (some ⟨w.heap.size + 1, 0, none⟩)] [⟨A, c, l⟩] (fun k => scl (atL (rd l) k) a b)
    (fun _ wr => wr.cell? ⟨w.heap.size, 0, none⟩ = some (.int .i64 a) ∧ wr.cell? ⟨w.heap.size + 1, 0, none⟩ = some (.int .i64 b)) (by simp)
    (enters_of Try.func40 (by kernel_rfl) rfl)
    (fun k wr w' h h' => ⟨(World.cell?_of_block (w := wr) (h' w.heap.size (by omega))).trans h.1, (World.cell?_of_block (w := wr) (h' (w.heap.size + 1) (by omega))).trans h.2⟩)
    (fun k wr hk hj hrow => (sclc_any wr w1.heap.size w.heap.size a b (el [⟨A, c, l⟩] k) hrow hj.1 hj.2).mono fun e w' ⟨h1, h2⟩ => ⟨h1, ⟨(h2.cell (p := ⟨w.heap.size, 0, none⟩) (World.block_lt_of_cell? wr _ hj.1)).trans hj.1, (h2.cell (p := ⟨w.heap.size + 1, 0, none⟩) (World.block_lt_of_cell? wr _ hj.2)).trans hj.2⟩, gr_of _ h2⟩)
    ⟨ca, cb⟩ LS (fun n h => by cases h) (by simp) (fun n h => by cases h))
  have E := Lib.hid (show mxN [⟨A, c, l⟩] 1 = (rd l).length by rw [rd_length]; show max 0 (ln l) = _; omega)
  have B1 := Lib.hid b1
  clear LS hA z1 z2 b1 ca cb
  go_enter Try.func21, Try.ntmps21
  go_wp2_with fail
  rw [← hw1]
  clear hw1
  refine SW.out.mono ?_
  rintro e w2 ⟨g, rfl, hge, hrow, _, hgr⟩
  have R := Lib.hid (row_ns hrow)
  have B := Lib.hid (B1.out.trans ((gr_none hgr).mono B1.out.size))
  clear hge hrow hgr
  go_wp2_with fail
  go_ret
  exact outL (k := (List.range (mxN [⟨A, c, l⟩] 1)).map _) (by rw [E.out]; rfl) (by simp only [sclL, List.length_map, List.length_range]; exact E.out) R.out B.out

set_option maxRecDepth 100000 in
set_option maxHeartbeats 2000000 in
theorem scum_any (A : Option Addr) (c : Nat) (l : List Int) (w : World) (hl : l.length ≤ 9223372036854775807) (hA : NsAt w w.heap.size A l) :
    Calls Try.prog 29 #[.slice A l.length c] w (OutL w (cumL (rd l))) := by
  obtain ⟨w0, hw0⟩ : ∃ w0, w0 = w.alloc (.cells #[.int .i64 0] 3) := ⟨_, rfl⟩
  obtain ⟨w1, hw1⟩ : ∃ w1, w1 = w0.alloc (.cells #[.slice A l.length c] 22) := ⟨_, rfl⟩
  have z0 : w0.heap.size = w.heap.size + 1 := by rw [hw0]; simp
  have hv : w1.heap[w.heap.size]? = some (.cells #[.int .i64 0] 3 (0, 0)) := by rw [hw1, hw0]; exact blk_alloc (blk_new w _) _
  have b1 : Below w.heap.size w w1 := by rw [hw1, hw0]; exact (alloc_below w _).alloc (by simp) _
  have z1 : w1.heap.size = w.heap.size + 2 := by rw [hw1]; simp [z0]
  have LS : LsAt w1 w.heap.size (w.heap.size + 1) [⟨A, c, l⟩] := {
    lt := by omega
    le := by omega
    cell := fun j hj => by
      rw [hw1]
      match j, hj with
      | 0, _ => rw [← z0]; exact blk_cell (blk_new _ _) 0 rfl
    nums := fun j hj => by
      match j, hj with
      | 0, _ => exact ⟨hA.below b1, hl⟩ }
  have SW := Lib.hid (slotwise_any w1 (some w.heap.size) w.heap.size (w.heap.size + 1) 1 44 #[.pointer (some ⟨w.heap.size, 0, none⟩)] [⟨A, c, l⟩] (fun k => sat (P (rd l) (k + 1)))
    (fun k wr => wr.heap[w.heap.size]? = some (.cells #[.int .i64 (P (rd l) k)] 3 (0, 0))) (by simp)
    (enters_of Try.func44 (by kernel_rfl) rfl)
    (fun k wr w' h h' => (h' w.heap.size (by omega)).trans h)
    (fun k wr hk hj hrow => by
      have p1 := P_lim (lim_rd l) (rd_len l) k
      have p2 := lim_at (lim_rd l) k
      have p3 := P_at (rd l) k
      have he : el [⟨A, c, l⟩] k 0 = atL (rd l) k := rfl
      refine (cumc_any wr w1.heap.size w.heap.size (P (rd l) k) (el [⟨A, c, l⟩] k) hrow hj (by omega) (by rw [he]; omega) (by omega)).mono fun e w' ⟨h1, h2, h3⟩ => ?_
      rw [he, ← p3] at h1 h2
      exact ⟨h1, h2, h3⟩)
    hv LS (fun n h => by cases h; omega) (by simp) (fun n h => by cases h; exact Nat.le_refl _))
  have E := Lib.hid (show mxN [⟨A, c, l⟩] 1 = (rd l).length by rw [rd_length]; show max 0 (ln l) = _; omega)
  have B1 := Lib.hid b1
  clear LS hA z1 z0 b1 hv
  go_enter Try.func29, Try.ntmps29
  go_wp2_with fail
  rw [← hw0, ← hw1]
  clear hw1 hw0
  refine SW.out.mono ?_
  rintro e w2 ⟨g, rfl, hge, hrow, _, hgr⟩
  have R := Lib.hid (row_ns hrow)
  have B := Lib.hid (show Below w.heap.size w w2 from B1.out.trans ⟨hgr.os, hgr.tape, hgr.output, hgr.size, fun k hk => hgr.block k (Nat.lt_of_lt_of_le hk B1.out.size) (fun e => by cases e; omega)⟩)
  clear hge hrow hgr
  go_wp2_with fail
  go_ret
  exact outL (k := (List.range (mxN [⟨A, c, l⟩] 1)).map _) (by rw [E.out]; rfl) (by rw [cumL_len]; exact E.out) R.out B.out
end Go.Proofs.Ytekcknpgpfeijaa.Series
