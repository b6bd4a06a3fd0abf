/- The chapter's examples. -/
import Derived.Test.YtlfegjhhkeceiaaMbL
set_option linter.unusedVariables false
namespace Go.Proofs.Ytlfegjhhkeceiaa.Mbx
open Go.RowKit

abbrev fa : Fm := ⟨2, 0, 1, 0, 0, 0, 0, false, ⟨#[97]⟩⟩
abbrev fb : Fm := ⟨2, 0, 2, 0, 0, 0, 0, true, ⟨#[98]⟩⟩
abbrev fc : Fm := ⟨2, 0, 2, 0, 0, 0, 0, false, ⟨#[99]⟩⟩
theorem ex_put1 : put [] fa 5 = ([(fa, 5)], true) := rfl
theorem ex_put2 : put [(fa, 5)] fb 5 = ([(fb, 5), (fa, 5)], true) := rfl
theorem ex_put3 : put [(fb, 5), (fa, 5)] fc 5 = ([(fb, 5), (fa, 5), (fc, 5)], true) := rfl
theorem ex_take1 : take [(fb, 5), (fa, 5), (fc, 5)] 1 7 2 = (fa, [(fb, 5), (fc, 5)], true) := rfl
theorem ex_take2 : take [(fb, 5), (fa, 5), (fc, 5)] 1 8 2 = (zf, [], false) := rfl
theorem ex_count : (cnt [(fb, 5), (fa, 5), (fc, 5)] 2 : Int) = 2 := rfl
theorem ok_abc : FOk fa ∧ FOk fb ∧ FOk fc := by unfold FOk I64; simp [ByteArray.size]
set_option maxRecDepth 100000 in
set_option maxHeartbeats 8000000 in
theorem lives_any (w : World) : Calls Try.prog 9 #[] w (OutB w true) := by
  have OK := Lib.hid ok_abc
  have P1 := Lib.hid (show ∀ w, Calls Try.prog 10 #[.slice none 0 0, fmV fa, .int .i64 5] w (PutR w ([(fa, 5)], true)) from fun w => by have := pput_any none 0 [] fa 5 w (by simp) OK.out.1 (SlS.nil _); rw [ex_put1] at this; exact this)
  have P2 := Lib.hid (show ∀ A c w, MlS w A c [(fa, 5)] → Calls Try.prog 10 #[.slice A 1 c, fmV fb, .int .i64 5] w (PutR w ([(fb, 5), (fa, 5)], true)) from fun A c w h => by have := pput_any A c [(fa, 5)] fb 5 w (by simp) OK.out.2.1 h; rw [ex_put2] at this; exact this)
  have P3 := Lib.hid (show ∀ A c w, MlS w A c [(fb, 5), (fa, 5)] → Calls Try.prog 10 #[.slice A 2 c, fmV fc, .int .i64 5] w (PutR w ([(fb, 5), (fa, 5), (fc, 5)], true)) from fun A c w h => by have := pput_any A c [(fb, 5), (fa, 5)] fc 5 w (by simp) OK.out.2.2 h; rw [ex_put3] at this; exact this)
  have T1 := Lib.hid (show ∀ A c w, MlS w A c [(fb, 5), (fa, 5), (fc, 5)] → Calls Try.prog 13 #[.slice A 3 c, .int .i64 1, .int .i64 7, .int .i64 2] w (TakeR w (fa, [(fb, 5), (fc, 5)], true)) from fun A c w h => by have := ptake_any A c [(fb, 5), (fa, 5), (fc, 5)] 1 7 2 w (by simp) h; rw [ex_take1] at this; exact this)
  have T2 := Lib.hid (show ∀ A c w, MlS w A c [(fb, 5), (fa, 5), (fc, 5)] → Calls Try.prog 13 #[.slice A 3 c, .int .i64 1, .int .i64 8, .int .i64 2] w (TakeR w (zf, [], false)) from fun A c w h => by have := ptake_any A c [(fb, 5), (fa, 5), (fc, 5)] 1 8 2 w (by simp) h; rw [ex_take2] at this; exact this)
  have C1 := Lib.hid (show ∀ A c w, MlS w A c [(fb, 5), (fa, 5), (fc, 5)] → Calls Try.prog 17 #[.slice A 3 c, .int .i64 2] w (OutI w 2) from fun A c w h => by have := pcount_any A c [(fb, 5), (fa, 5), (fc, 5)] 2 w (by simp) h; rw [ex_count] at this; exact this)
  unfold OutI at C1
  go_enter Try.func9, Try.ntmps9
  go_wp2_with fail
  refine (frame_any _ _ _ _).mono ?_
  rintro _ w1 ⟨rfl, hb⟩
  have B1 := Lib.hid hb
  clear hb
  go_wp2_with fail
  refine (frame_any _ _ _ _).mono ?_
  rintro _ w2 ⟨rfl, hb⟩
  have B2 := Lib.hid (B1.out.trans (hb.mono B1.out.size))
  clear hb
  go_wp2_with fail
  refine (frame_any _ _ _ _).mono ?_
  rintro _ w3 ⟨rfl, hb⟩
  have B3 := Lib.hid (B2.out.trans (hb.mono B2.out.size))
  clear hb
  go_wp2_with fail
  refine (P1.out _).mono ?_
  rintro _ w4 ⟨A4, c4, rfl, hl4, hb⟩
  have hs3 := B3.out.size
  have Z3 := Lib.hid (show Below w3.heap.size w3 (((w3.alloc (bxF fa)).alloc (bxF fb)).alloc (bxF fc)) from ((alloc_below w3 _).alloc (by simp) _).alloc (by simp; omega) _)
  have q1 : (((w3.alloc (bxF fa)).alloc (bxF fb)).alloc (bxF fc)).heap[w3.heap.size]? = some (bxF fa) := blk_alloc (blk_alloc (blk_new w3 _) _) _
  have q2 : (((w3.alloc (bxF fa)).alloc (bxF fb)).alloc (bxF fc)).heap[w3.heap.size + 1]? = some (bxF fb) := by have := blk_alloc (blk_new (w3.alloc (bxF fa)) (bxF fb)) (bxF fc); simpa using this
  have q3 : (((w3.alloc (bxF fa)).alloc (bxF fb)).alloc (bxF fc)).heap[w3.heap.size + 2]? = some (bxF fc) := by have := blk_new ((w3.alloc (bxF fa)).alloc (bxF fb)) (bxF fc); simpa using this
  have Q4 := Lib.hid (show w4.heap[w3.heap.size]? = some (bxF fa) ∧ w4.heap[w3.heap.size + 1]? = some (bxF fb) ∧ w4.heap[w3.heap.size + 2]? = some (bxF fc) from ⟨blk_below q1 hb (blk_lt q1), blk_below q2 hb (blk_lt q2), blk_below q3 hb (blk_lt q3)⟩)
  have B4 := Lib.hid (B3.out.trans ((Z3.out.trans (hb.mono (by simp; omega))).mono hs3))
  have L4 := Lib.hid hl4
  have zz := Z3.out.size
  have hz4 : w3.heap.size + 3 ≤ w4.heap.size := by have := hb.size; simpa using this
  have KEEP := Lib.hid (show ∀ wa wb : World, (wa.heap[w3.heap.size]? = some (bxF fa) ∧ wa.heap[w3.heap.size + 1]? = some (bxF fb) ∧ wa.heap[w3.heap.size + 2]? = some (bxF fc)) → w3.heap.size + 3 ≤ wa.heap.size → Below wa.heap.size wa wb → (wb.heap[w3.heap.size]? = some (bxF fa) ∧ wb.heap[w3.heap.size + 1]? = some (bxF fb) ∧ wb.heap[w3.heap.size + 2]? = some (bxF fc)) from fun wa wb h hz hb => ⟨blk_below h.1 hb (by omega), blk_below h.2.1 hb (by omega), blk_below h.2.2 hb (by omega)⟩)
  have e1 := fm_block Q4.out.2.1
  have N0 : FmC w4 (w3.heap.size + 1) 0 fb := e1
  unfold FmC at e1
  simp only [Nat.zero_add] at e1
  obtain ⟨d0, d1, d2, d3, d4, d5, d6, d7, d8⟩ := e1
  clear hb hl4 q1 q2 q3 P1 Z3 N0 zz
  go_wp2_with fail
  refine (P2.out _ _ _ L4.out).mono ?_
  rintro _ w5 ⟨A5, c5, rfl, hl5, hb⟩
  have Q5 := Lib.hid (KEEP.out _ _ Q4.out hz4 hb)
  have hz5 : w3.heap.size + 3 ≤ w5.heap.size := Nat.le_trans hz4 hb.size
  have B5 := Lib.hid (B4.out.trans (hb.mono B4.out.size))
  have L5 := Lib.hid hl5
  clear d0 d1 d2 d3 d4 d5 d6 d7 d8
  have e1 := fm_block Q5.out.2.2
  unfold FmC at e1
  simp only [Nat.zero_add] at e1
  obtain ⟨d0, d1, d2, d3, d4, d5, d6, d7, d8⟩ := e1
  clear hb hl5 P2 Q4 L4 hz4
  go_wp2_with fail
  refine (P3.out _ _ _ L5.out).mono ?_
  rintro _ w6 ⟨A6, c6, rfl, hl6, hb⟩
  have Q6 := Lib.hid (KEEP.out _ _ Q5.out hz5 hb)
  have hz6 : w3.heap.size + 3 ≤ w6.heap.size := Nat.le_trans hz5 hb.size
  have B6 := Lib.hid (B5.out.trans (hb.mono B5.out.size))
  have L6 := Lib.hid hl6
  clear d0 d1 d2 d3 d4 d5 d6 d7 d8 hb hl6 P3 Q5 L5 hz5
  go_wp2_with fail
  refine (T1.out _ _ _ L6.out).mono ?_
  rintro _ w7 ⟨A7, c7, rfl, hl7, hb, _⟩
  have Q7 := Lib.hid (KEEP.out _ _ Q6.out hz6 hb)
  have hz7 : w3.heap.size + 3 ≤ w7.heap.size := Nat.le_trans hz6 hb.size
  have B7 := Lib.hid (B6.out.trans (hb.mono B6.out.size))
  have L7 := Lib.hid hl7
  have K7 := Lib.hid (L6.out.next hb)
  clear hb hl7 T1 Q6 L6 hz6
  go_wp2_with fail
  refine (T2.out _ _ _ (K7.out.next (alloc_below _ _))).mono ?_
  rintro _ w8 ⟨A8, c8, rfl, hl8, hb, _⟩
  have QA := KEEP.out _ _ Q7.out hz7 (alloc_below w7 (bxF fa))
  have Q8 := Lib.hid (KEEP.out _ _ QA (by simp; omega) hb)
  have X8 := Lib.hid (show w8.heap[w7.heap.size]? = some (bxF fa) from blk_below (blk_new w7 _) hb (by simp))
  have hz8 : w7.heap.size + 1 ≤ w8.heap.size := by have := hb.size; simpa using this
  have B8 := Lib.hid ((B7.out.alloc B7.out.size (bxF fa)).trans (hb.mono (by have := B7.out.size; simp; omega)))
  have L8 := Lib.hid ((L7.out.next (alloc_below w7 (bxF fa))).next hb)
  have K8 := Lib.hid ((K7.out.next (alloc_below w7 (bxF fa))).next hb)
  clear hb hl8 T2 Q7 L7 K7 QA
  go_wp2_with fail
  have Z0 : Below w8.heap.size w8 (w8.alloc (bxF zf)).drew := (alloc_below w8 (bxF zf)).trans (below_drewN (Below.refl _ _) 1)
  obtain ⟨bl, pl, rfl, hbl, hcl, _⟩ := ms_cell K8.out 0 (by simp)
  obtain ⟨br, pr, rfl, hbr, hcr, _⟩ := ms_cell L8.out 1 (by simp)
  have kl : FmC w8 bl pl fb := by have := hcl.fm; simpa using this
  have kr : FmC w8 br (pr + 10) fc := by have := hcr.fm; simpa using this
  have HC := Lib.hid (show ∀ wy, Below w8.heap.size w8 wy → wy.cell? ⟨w3.heap.size, 0, none⟩ = some (.int .i64 2) ∧ wy.cell? ⟨w3.heap.size, 1, none⟩ = some (.int .i64 0) ∧ wy.cell? ⟨w3.heap.size, 2, none⟩ = some (.int .i64 1) ∧ wy.cell? ⟨w3.heap.size, 3, none⟩ = some (.int .i64 0) ∧ wy.cell? ⟨w3.heap.size, 4, none⟩ = some (.int .i64 0) ∧ wy.cell? ⟨w3.heap.size, 5, none⟩ = some (.int .i64 0) ∧ wy.cell? ⟨w3.heap.size, 6, none⟩ = some (.int .i64 0) ∧ wy.cell? ⟨w3.heap.size, 7, none⟩ = some (.bool false) ∧ wy.cell? ⟨w3.heap.size, 8, none⟩ = some (.string ⟨#[97]⟩) ∧ wy.cell? ⟨w3.heap.size + 1, 0, none⟩ = some (.int .i64 2) ∧ wy.cell? ⟨w3.heap.size + 1, 1, none⟩ = some (.int .i64 0) ∧ wy.cell? ⟨w3.heap.size + 1, 2, none⟩ = some (.int .i64 2) ∧ wy.cell? ⟨w3.heap.size + 1, 3, none⟩ = some (.int .i64 0) ∧ wy.cell? ⟨w3.heap.size + 1, 4, none⟩ = some (.int .i64 0) ∧ wy.cell? ⟨w3.heap.size + 1, 5, none⟩ = some (.int .i64 0) ∧ wy.cell? ⟨w3.heap.size + 1, 6, none⟩ = some (.int .i64 0) ∧ wy.cell? ⟨w3.heap.size + 1, 7, none⟩ = some (.bool true) ∧ wy.cell? ⟨w3.heap.size + 1, 8, none⟩ = some (.string ⟨#[98]⟩) ∧ wy.cell? ⟨w3.heap.size + 2, 0, none⟩ = some (.int .i64 2) ∧ wy.cell? ⟨w3.heap.size + 2, 1, none⟩ = some (.int .i64 0) ∧ wy.cell? ⟨w3.heap.size + 2, 2, none⟩ = some (.int .i64 2) ∧ wy.cell? ⟨w3.heap.size + 2, 3, none⟩ = some (.int .i64 0) ∧ wy.cell? ⟨w3.heap.size + 2, 4, none⟩ = some (.int .i64 0) ∧ wy.cell? ⟨w3.heap.size + 2, 5, none⟩ = some (.int .i64 0) ∧ wy.cell? ⟨w3.heap.size + 2, 6, none⟩ = some (.int .i64 0) ∧ wy.cell? ⟨w3.heap.size + 2, 7, none⟩ = some (.bool false) ∧ wy.cell? ⟨w3.heap.size + 2, 8, none⟩ = some (.string ⟨#[99]⟩) ∧ wy.cell? ⟨w7.heap.size, 0, none⟩ = some (.int .i64 2) ∧ wy.cell? ⟨w7.heap.size, 1, none⟩ = some (.int .i64 0) ∧ wy.cell? ⟨w7.heap.size, 2, none⟩ = some (.int .i64 1) ∧ wy.cell? ⟨w7.heap.size, 3, none⟩ = some (.int .i64 0) ∧ wy.cell? ⟨w7.heap.size, 4, none⟩ = some (.int .i64 0) ∧ wy.cell? ⟨w7.heap.size, 5, none⟩ = some (.int .i64 0) ∧ wy.cell? ⟨w7.heap.size, 6, none⟩ = some (.int .i64 0) ∧ wy.cell? ⟨w7.heap.size, 7, none⟩ = some (.bool false) ∧ wy.cell? ⟨w7.heap.size, 8, none⟩ = some (.string ⟨#[97]⟩) ∧ wy.cell? ⟨bl, pl, none⟩ = some (.int .i64 2) ∧ wy.cell? ⟨bl, pl + 1, none⟩ = some (.int .i64 0) ∧ wy.cell? ⟨bl, pl + 2, none⟩ = some (.int .i64 2) ∧ wy.cell? ⟨bl, pl + 3, none⟩ = some (.int .i64 0) ∧ wy.cell? ⟨bl, pl + 4, none⟩ = some (.int .i64 0) ∧ wy.cell? ⟨bl, pl + 5, none⟩ = some (.int .i64 0) ∧ wy.cell? ⟨bl, pl + 6, none⟩ = some (.int .i64 0) ∧ wy.cell? ⟨bl, pl + 7, none⟩ = some (.bool true) ∧ wy.cell? ⟨bl, pl + 8, none⟩ = some (.string ⟨#[98]⟩) ∧ wy.cell? ⟨br, pr + 10, none⟩ = some (.int .i64 2) ∧ wy.cell? ⟨br, pr + 10 + 1, none⟩ = some (.int .i64 0) ∧ wy.cell? ⟨br, pr + 10 + 2, none⟩ = some (.int .i64 2) ∧ wy.cell? ⟨br, pr + 10 + 3, none⟩ = some (.int .i64 0) ∧ wy.cell? ⟨br, pr + 10 + 4, none⟩ = some (.int .i64 0) ∧ wy.cell? ⟨br, pr + 10 + 5, none⟩ = some (.int .i64 0) ∧ wy.cell? ⟨br, pr + 10 + 6, none⟩ = some (.int .i64 0) ∧ wy.cell? ⟨br, pr + 10 + 7, none⟩ = some (.bool false) ∧ wy.cell? ⟨br, pr + 10 + 8, none⟩ = some (.string ⟨#[99]⟩) from fun wy hb => by
    obtain ⟨a0, a1, a2⟩ := KEEP.out _ _ Q8.out (Nat.le_trans hz7 (Nat.le_trans (Nat.le_succ _) hz8)) hb
    have a3 := blk_below X8.out hb hz8
    have a4 := kl.below hb hbl
    have a5 := kr.below hb hbr
    have f0 := fm_block a0
    have f1 := fm_block a1
    have f2 := fm_block a2
    have f3 := fm_block a3
    unfold FmC at f0 f1 f2 f3 a4 a5
    simp only [Nat.zero_add] at f0 f1 f2 f3
    simp only [f0, f1, f2, f3, a4, a5, and_self])
  clear kl kr hcl hcr KEEP Q8 X8 OK
  refine wp_region_held_drew (S := (fun wy : World => wy.cell? ⟨w3.heap.size, 0, none⟩ = some (.int .i64 2) ∧ wy.cell? ⟨w3.heap.size, 1, none⟩ = some (.int .i64 0) ∧ wy.cell? ⟨w3.heap.size, 2, none⟩ = some (.int .i64 1) ∧ wy.cell? ⟨w3.heap.size, 3, none⟩ = some (.int .i64 0) ∧ wy.cell? ⟨w3.heap.size, 4, none⟩ = some (.int .i64 0) ∧ wy.cell? ⟨w3.heap.size, 5, none⟩ = some (.int .i64 0) ∧ wy.cell? ⟨w3.heap.size, 6, none⟩ = some (.int .i64 0) ∧ wy.cell? ⟨w3.heap.size, 7, none⟩ = some (.bool false) ∧ wy.cell? ⟨w3.heap.size, 8, none⟩ = some (.string ⟨#[97]⟩) ∧ wy.cell? ⟨w3.heap.size + 1, 0, none⟩ = some (.int .i64 2) ∧ wy.cell? ⟨w3.heap.size + 1, 1, none⟩ = some (.int .i64 0) ∧ wy.cell? ⟨w3.heap.size + 1, 2, none⟩ = some (.int .i64 2) ∧ wy.cell? ⟨w3.heap.size + 1, 3, none⟩ = some (.int .i64 0) ∧ wy.cell? ⟨w3.heap.size + 1, 4, none⟩ = some (.int .i64 0) ∧ wy.cell? ⟨w3.heap.size + 1, 5, none⟩ = some (.int .i64 0) ∧ wy.cell? ⟨w3.heap.size + 1, 6, none⟩ = some (.int .i64 0) ∧ wy.cell? ⟨w3.heap.size + 1, 7, none⟩ = some (.bool true) ∧ wy.cell? ⟨w3.heap.size + 1, 8, none⟩ = some (.string ⟨#[98]⟩) ∧ wy.cell? ⟨w3.heap.size + 2, 0, none⟩ = some (.int .i64 2) ∧ wy.cell? ⟨w3.heap.size + 2, 1, none⟩ = some (.int .i64 0) ∧ wy.cell? ⟨w3.heap.size + 2, 2, none⟩ = some (.int .i64 2) ∧ wy.cell? ⟨w3.heap.size + 2, 3, none⟩ = some (.int .i64 0) ∧ wy.cell? ⟨w3.heap.size + 2, 4, none⟩ = some (.int .i64 0) ∧ wy.cell? ⟨w3.heap.size + 2, 5, none⟩ = some (.int .i64 0) ∧ wy.cell? ⟨w3.heap.size + 2, 6, none⟩ = some (.int .i64 0) ∧ wy.cell? ⟨w3.heap.size + 2, 7, none⟩ = some (.bool false) ∧ wy.cell? ⟨w3.heap.size + 2, 8, none⟩ = some (.string ⟨#[99]⟩) ∧ wy.cell? ⟨w7.heap.size, 0, none⟩ = some (.int .i64 2) ∧ wy.cell? ⟨w7.heap.size, 1, none⟩ = some (.int .i64 0) ∧ wy.cell? ⟨w7.heap.size, 2, none⟩ = some (.int .i64 1) ∧ wy.cell? ⟨w7.heap.size, 3, none⟩ = some (.int .i64 0) ∧ wy.cell? ⟨w7.heap.size, 4, none⟩ = some (.int .i64 0) ∧ wy.cell? ⟨w7.heap.size, 5, none⟩ = some (.int .i64 0) ∧ wy.cell? ⟨w7.heap.size, 6, none⟩ = some (.int .i64 0) ∧ wy.cell? ⟨w7.heap.size, 7, none⟩ = some (.bool false) ∧ wy.cell? ⟨w7.heap.size, 8, none⟩ = some (.string ⟨#[97]⟩) ∧ wy.cell? ⟨bl, pl, none⟩ = some (.int .i64 2) ∧ wy.cell? ⟨bl, pl + 1, none⟩ = some (.int .i64 0) ∧ wy.cell? ⟨bl, pl + 2, none⟩ = some (.int .i64 2) ∧ wy.cell? ⟨bl, pl + 3, none⟩ = some (.int .i64 0) ∧ wy.cell? ⟨bl, pl + 4, none⟩ = some (.int .i64 0) ∧ wy.cell? ⟨bl, pl + 5, none⟩ = some (.int .i64 0) ∧ wy.cell? ⟨bl, pl + 6, none⟩ = some (.int .i64 0) ∧ wy.cell? ⟨bl, pl + 7, none⟩ = some (.bool true) ∧ wy.cell? ⟨bl, pl + 8, none⟩ = some (.string ⟨#[98]⟩) ∧ wy.cell? ⟨br, pr + 10, none⟩ = some (.int .i64 2) ∧ wy.cell? ⟨br, pr + 10 + 1, none⟩ = some (.int .i64 0) ∧ wy.cell? ⟨br, pr + 10 + 2, none⟩ = some (.int .i64 2) ∧ wy.cell? ⟨br, pr + 10 + 3, none⟩ = some (.int .i64 0) ∧ wy.cell? ⟨br, pr + 10 + 4, none⟩ = some (.int .i64 0) ∧ wy.cell? ⟨br, pr + 10 + 5, none⟩ = some (.int .i64 0) ∧ wy.cell? ⟨br, pr + 10 + 6, none⟩ = some (.int .i64 0) ∧ wy.cell? ⟨br, pr + 10 + 7, none⟩ = some (.bool false) ∧ wy.cell? ⟨br, pr + 10 + 8, none⟩ = some (.string ⟨#[99]⟩))) (by kernel_rfl) (HC.out _ Z0) (fun hHeld => ?_)
  refine wpAnyH_take (i := 0) (v := (.bool true)) at_zero (by kernel_rfl) (by kernel_rfl) (by kernel_rfl) (fun _ _ _ h => h) (Or.inl ⟨by kernel_rfl, fun wy hSw => ?_⟩) (by assumption) ?_
  · (try dsimp only at hSw); go_simp
  try simp only [Act.put, List.setIfInBounds_toArray, List.set_cons_zero, List.set_cons_succ]
  refine wpAnyH_take (i := 1) (v := (.bool true)) (at_succ at_zero) (by kernel_rfl) (by kernel_rfl) (by kernel_rfl) (fun _ _ _ h => h) (Or.inl ⟨by kernel_rfl, fun wy hSw => ?_⟩) (by assumption) ?_
  · (try dsimp only at hSw); go_simp
  try simp only [Act.put, List.setIfInBounds_toArray, List.set_cons_zero, List.set_cons_succ]
  refine wpAnyH_take (i := 2) (v := (.bool true)) (at_succ (at_succ at_zero)) (by kernel_rfl) (by kernel_rfl) (by kernel_rfl) (fun _ _ _ h => h) (Or.inl ⟨by kernel_rfl, fun wy hSw => ?_⟩) (by assumption) ?_
  · (try dsimp only at hSw); go_simp
  try simp only [Act.put, List.setIfInBounds_toArray, List.set_cons_zero, List.set_cons_succ]
  refine wpAnyH_take (i := 3) (v := (.bool true)) (at_succ (at_succ (at_succ at_zero))) (by kernel_rfl) (by kernel_rfl) (by kernel_rfl) (fun _ _ _ h => h) (Or.inl ⟨by kernel_rfl, fun wy hSw => ?_⟩) (by assumption) ?_
  · (try dsimp only at hSw); go_simp
  try simp only [Act.put, List.setIfInBounds_toArray, List.set_cons_zero, List.set_cons_succ]
  refine wpAnyH_take (i := 4) (v := (.bool true)) (at_succ (at_succ (at_succ (at_succ at_zero)))) (by kernel_rfl) (by kernel_rfl) (by kernel_rfl) (fun _ _ _ h => h) (Or.inl ⟨by kernel_rfl, fun wy hSw => ?_⟩) (by assumption) ?_
  · (try dsimp only at hSw); go_simp
  try simp only [Act.put, List.setIfInBounds_toArray, List.set_cons_zero, List.set_cons_succ]
  refine wpAnyH_take (i := 5) (v := (.bool true)) (at_succ (at_succ (at_succ (at_succ (at_succ at_zero))))) (by kernel_rfl) (by kernel_rfl) (by kernel_rfl) (fun _ _ _ h => h) (Or.inl ⟨by kernel_rfl, fun wy hSw => ?_⟩) (by assumption) ?_
  · (try dsimp only at hSw); go_simp
  try simp only [Act.put, List.setIfInBounds_toArray, List.set_cons_zero, List.set_cons_succ]
  refine wpAnyH_take (i := 6) (v := (.bool true)) (at_succ (at_succ (at_succ (at_succ (at_succ (at_succ at_zero)))))) (by kernel_rfl) (by kernel_rfl) (by kernel_rfl) (fun _ _ _ h => h) (Or.inl ⟨by kernel_rfl, fun wy hSw => ?_⟩) (by assumption) ?_
  · (try dsimp only at hSw); go_simp
  try simp only [Act.put, List.setIfInBounds_toArray, List.set_cons_zero, List.set_cons_succ]
  refine wpAnyH_take (i := 7) (v := (.bool true)) (at_succ (at_succ (at_succ (at_succ (at_succ (at_succ (at_succ at_zero))))))) (by kernel_rfl) (by kernel_rfl) (by kernel_rfl) (fun _ _ _ h => h) (Or.inl ⟨by kernel_rfl, fun wy hSw => ?_⟩) (by assumption) ?_
  · (try dsimp only at hSw); go_simp
  try simp only [Act.put, List.setIfInBounds_toArray, List.set_cons_zero, List.set_cons_succ]
  refine wpAnyH_take (i := 8) (v := (.bool true)) (at_succ (at_succ (at_succ (at_succ (at_succ (at_succ (at_succ (at_succ at_zero)))))))) (by kernel_rfl) (by kernel_rfl) (by kernel_rfl) (fun _ _ _ h => h) (Or.inl ⟨by kernel_rfl, fun wy hSw => ?_⟩) (by assumption) ?_
  · (try dsimp only at hSw); go_simp
  try simp only [Act.put, List.setIfInBounds_toArray, List.set_cons_zero, List.set_cons_succ]
  refine wpAnyH_take (i := 9) (v := (.bool true)) (at_succ (at_succ (at_succ (at_succ (at_succ (at_succ (at_succ (at_succ (at_succ at_zero))))))))) (by kernel_rfl) (by kernel_rfl) (by kernel_rfl) (fun _ _ _ h => h) (Or.inl ⟨by kernel_rfl, fun wy hSw => ?_⟩) (by assumption) ?_
  · (try dsimp only at hSw); go_simp
  try simp only [Act.put, List.setIfInBounds_toArray, List.set_cons_zero, List.set_cons_succ]
  refine wpAnyH_take (i := 10) (v := (.bool true)) (at_succ (at_succ (at_succ (at_succ (at_succ (at_succ (at_succ (at_succ (at_succ (at_succ at_zero)))))))))) (by kernel_rfl) (by kernel_rfl) (by kernel_rfl) (fun _ _ _ h => h) (Or.inl ⟨by kernel_rfl, fun wy hSw => ?_⟩) (by assumption) ?_
  · (try dsimp only at hSw); go_simp
  try simp only [Act.put, List.setIfInBounds_toArray, List.set_cons_zero, List.set_cons_succ]
  refine wpAnyH_take (i := 11) (v := (.bool false)) (at_succ (at_succ (at_succ (at_succ (at_succ (at_succ (at_succ (at_succ (at_succ (at_succ (at_succ at_zero))))))))))) (by kernel_rfl) (by kernel_rfl) (by kernel_rfl) (fun _ _ _ h => h) (Or.inl ⟨by kernel_rfl, fun wy hSw => ?_⟩) (by assumption) ?_
  · (try dsimp only at hSw); go_simp
  try simp only [Act.put, List.setIfInBounds_toArray, List.set_cons_zero, List.set_cons_succ]
  refine wpAnyH_take (i := 12) (v := (.bool true)) (at_succ (at_succ (at_succ (at_succ (at_succ (at_succ (at_succ (at_succ (at_succ (at_succ (at_succ (at_succ at_zero)))))))))))) (by kernel_rfl) (by kernel_rfl) (by kernel_rfl) (fun _ _ _ h => h) (Or.inl ⟨by kernel_rfl, fun wy hSw => ?_⟩) (by assumption) ?_
  · (try dsimp only at hSw); go_simp
  try simp only [Act.put, List.setIfInBounds_toArray, List.set_cons_zero, List.set_cons_succ]
  refine wpAnyH_take (i := 13) (v := (.bool true)) (at_succ (at_succ (at_succ (at_succ (at_succ (at_succ (at_succ (at_succ (at_succ (at_succ (at_succ (at_succ (at_succ at_zero))))))))))))) (by kernel_rfl) (by kernel_rfl) (by kernel_rfl) (fun _ _ _ h => h) (Or.inl ⟨by kernel_rfl, fun wy hSw => ?_⟩) (by assumption) ?_
  · (try dsimp only at hSw); go_simp
  try simp only [Act.put, List.setIfInBounds_toArray, List.set_cons_zero, List.set_cons_succ]
  refine wpAnyH_take (i := 14) (v := (.bool true)) (at_succ (at_succ (at_succ (at_succ (at_succ (at_succ (at_succ (at_succ (at_succ (at_succ (at_succ (at_succ (at_succ (at_succ at_zero)))))))))))))) (by kernel_rfl) (by kernel_rfl) (by kernel_rfl) (fun _ _ _ h => h) (Or.inl ⟨by kernel_rfl, fun wy hSw => ?_⟩) (by assumption) ?_
  · (try dsimp only at hSw); go_simp
  try simp only [Act.put, List.setIfInBounds_toArray, List.set_cons_zero, List.set_cons_succ]
  refine wpAnyH_take (i := 15) (v := (.agg #[.int .i64 2, .int .i64 0, .int .i64 1, .int .i64 0, .int .i64 0, .int .i64 0, .int .i64 0, .bool false, .string ⟨#[97]⟩])) (at_succ (at_succ (at_succ (at_succ (at_succ (at_succ (at_succ (at_succ (at_succ (at_succ (at_succ (at_succ (at_succ (at_succ (at_succ at_zero))))))))))))))) (by kernel_rfl) (by kernel_rfl) (by kernel_rfl) (fun _ _ _ h => h) (Or.inl ⟨by kernel_rfl, fun wy hSw => ?_⟩) (by assumption) ?_
  · (try dsimp only at hSw); go_simp
  try simp only [Act.put, List.setIfInBounds_toArray, List.set_cons_zero, List.set_cons_succ]
  refine wpAnyH_take (i := 16) (v := (.agg #[.int .i64 2, .int .i64 0, .int .i64 1, .int .i64 0, .int .i64 0, .int .i64 0, .int .i64 0, .bool false, .string ⟨#[97]⟩])) (at_succ (at_succ (at_succ (at_succ (at_succ (at_succ (at_succ (at_succ (at_succ (at_succ (at_succ (at_succ (at_succ (at_succ (at_succ (at_succ at_zero)))))))))))))))) (by kernel_rfl) (by kernel_rfl) (by kernel_rfl) (fun _ _ _ h => h) (Or.inl ⟨by kernel_rfl, fun wy hSw => ?_⟩) (by assumption) ?_
  · (try dsimp only at hSw); go_simp
  try simp only [Act.put, List.setIfInBounds_toArray, List.set_cons_zero, List.set_cons_succ]
  refine wpAnyH_take (i := 17) (v := (.bool true)) (at_succ (at_succ (at_succ (at_succ (at_succ (at_succ (at_succ (at_succ (at_succ (at_succ (at_succ (at_succ (at_succ (at_succ (at_succ (at_succ (at_succ at_zero))))))))))))))))) (by kernel_rfl) (by kernel_rfl) (by kernel_rfl) (fun _ _ _ h => h) (Or.inl ⟨by kernel_rfl, fun wy hSw => ?_⟩) (by assumption) ?_
  · (try dsimp only at hSw); go_simp
  try simp only [Act.put, List.setIfInBounds_toArray, List.set_cons_zero, List.set_cons_succ]
  refine wpAnyH_take (i := 18) (v := (.bool true)) (at_succ (at_succ (at_succ (at_succ (at_succ (at_succ (at_succ (at_succ (at_succ (at_succ (at_succ (at_succ (at_succ (at_succ (at_succ (at_succ (at_succ (at_succ at_zero)))))))))))))))))) (by kernel_rfl) (by kernel_rfl) (by kernel_rfl) (fun _ _ _ h => h) (Or.inl ⟨by kernel_rfl, fun wy hSw => ?_⟩) (by assumption) ?_
  · (try dsimp only at hSw); go_simp
  try simp only [Act.put, List.setIfInBounds_toArray, List.set_cons_zero, List.set_cons_succ]
  refine wpAnyH_take (i := 19) (v := (.bool true)) (at_succ (at_succ (at_succ (at_succ (at_succ (at_succ (at_succ (at_succ (at_succ (at_succ (at_succ (at_succ (at_succ (at_succ (at_succ (at_succ (at_succ (at_succ (at_succ at_zero))))))))))))))))))) (by kernel_rfl) (by kernel_rfl) (by kernel_rfl) (fun _ _ _ h => h) (Or.inl ⟨by kernel_rfl, fun wy hSw => ?_⟩) (by assumption) ?_
  · (try dsimp only at hSw); go_simp
  try simp only [Act.put, List.setIfInBounds_toArray, List.set_cons_zero, List.set_cons_succ]
  refine wpAnyH_take (i := 20) (v := (.slice (some ⟨bl, pl, none⟩) 3 c6)) (at_succ (at_succ (at_succ (at_succ (at_succ (at_succ (at_succ (at_succ (at_succ (at_succ (at_succ (at_succ (at_succ (at_succ (at_succ (at_succ (at_succ (at_succ (at_succ (at_succ at_zero)))))))))))))))))))) (by kernel_rfl) (by kernel_rfl) (by kernel_rfl) (fun _ _ _ h => h) (Or.inl ⟨by kernel_rfl, fun wy hSw => ?_⟩) (by assumption) ?_
  · (try dsimp only at hSw); go_simp
  try simp only [Act.put, List.setIfInBounds_toArray, List.set_cons_zero, List.set_cons_succ]
  refine wpAnyH_take (i := 21) (v := (.int .i64 3)) (at_succ (at_succ (at_succ (at_succ (at_succ (at_succ (at_succ (at_succ (at_succ (at_succ (at_succ (at_succ (at_succ (at_succ (at_succ (at_succ (at_succ (at_succ (at_succ (at_succ (at_succ at_zero))))))))))))))))))))) (by kernel_rfl) (by kernel_rfl) (by kernel_rfl) (fun _ _ _ h => h) (Or.inl ⟨by kernel_rfl, fun wy hSw => ?_⟩) (by assumption) ?_
  · (try dsimp only at hSw); go_simp
  try simp only [Act.put, List.setIfInBounds_toArray, List.set_cons_zero, List.set_cons_succ]
  refine wpAnyH_take (i := 22) (v := (.bool true)) (at_succ (at_succ (at_succ (at_succ (at_succ (at_succ (at_succ (at_succ (at_succ (at_succ (at_succ (at_succ (at_succ (at_succ (at_succ (at_succ (at_succ (at_succ (at_succ (at_succ (at_succ (at_succ at_zero)))))))))))))))))))))) (by kernel_rfl) (by kernel_rfl) (by kernel_rfl) (fun _ _ _ h => h) (Or.inl ⟨by kernel_rfl, fun wy hSw => ?_⟩) (by assumption) ?_
  · (try dsimp only at hSw); go_simp
  try simp only [Act.put, List.setIfInBounds_toArray, List.set_cons_zero, List.set_cons_succ]
  refine wpAnyH_take (i := 23) (v := (.bool true)) (at_succ (at_succ (at_succ (at_succ (at_succ (at_succ (at_succ (at_succ (at_succ (at_succ (at_succ (at_succ (at_succ (at_succ (at_succ (at_succ (at_succ (at_succ (at_succ (at_succ (at_succ (at_succ (at_succ at_zero))))))))))))))))))))))) (by kernel_rfl) (by kernel_rfl) (by kernel_rfl) (fun _ _ _ h => h) (Or.inl ⟨by kernel_rfl, fun wy hSw => ?_⟩) (by assumption) ?_
  · (try dsimp only at hSw); go_simp
  try simp only [Act.put, List.setIfInBounds_toArray, List.set_cons_zero, List.set_cons_succ]
  refine wpAnyH_take (i := 24) (v := (.bool true)) (at_succ (at_succ (at_succ (at_succ (at_succ (at_succ (at_succ (at_succ (at_succ (at_succ (at_succ (at_succ (at_succ (at_succ (at_succ (at_succ (at_succ (at_succ (at_succ (at_succ (at_succ (at_succ (at_succ (at_succ at_zero)))))))))))))))))))))))) (by kernel_rfl) (by kernel_rfl) (by kernel_rfl) (fun _ _ _ h => h) (Or.inl ⟨by kernel_rfl, fun wy hSw => ?_⟩) (by assumption) ?_
  · (try dsimp only at hSw); go_simp
  try simp only [Act.put, List.setIfInBounds_toArray, List.set_cons_zero, List.set_cons_succ]
  refine wpAnyH_take (i := 25) (v := (.slice (some ⟨bl, pl, none⟩) 3 c6)) (at_succ (at_succ (at_succ (at_succ (at_succ (at_succ (at_succ (at_succ (at_succ (at_succ (at_succ (at_succ (at_succ (at_succ (at_succ (at_succ (at_succ (at_succ (at_succ (at_succ (at_succ (at_succ (at_succ (at_succ (at_succ at_zero))))))))))))))))))))))))) (by kernel_rfl) (by kernel_rfl) (by kernel_rfl) (fun _ _ _ h => h) (Or.inl ⟨by kernel_rfl, fun wy hSw => ?_⟩) (by assumption) ?_
  · (try dsimp only at hSw); go_simp
  try simp only [Act.put, List.setIfInBounds_toArray, List.set_cons_zero, List.set_cons_succ]
  refine wpAnyH_take (i := 26) (v := (.pointer (some ⟨bl, pl, none⟩))) (at_succ (at_succ (at_succ (at_succ (at_succ (at_succ (at_succ (at_succ (at_succ (at_succ (at_succ (at_succ (at_succ (at_succ (at_succ (at_succ (at_succ (at_succ (at_succ (at_succ (at_succ (at_succ (at_succ (at_succ (at_succ (at_succ at_zero)))))))))))))))))))))))))) (by kernel_rfl) (by kernel_rfl) (by kernel_rfl) (fun _ _ _ h => h) (Or.inl ⟨by kernel_rfl, fun wy hSw => ?_⟩) (by assumption) ?_
  · (try dsimp only at hSw); go_simp
  try simp only [Act.put, List.setIfInBounds_toArray, List.set_cons_zero, List.set_cons_succ]
  refine wpAnyH_take (i := 27) (v := (.pointer (some ⟨bl, pl, none⟩))) (at_succ (at_succ (at_succ (at_succ (at_succ (at_succ (at_succ (at_succ (at_succ (at_succ (at_succ (at_succ (at_succ (at_succ (at_succ (at_succ (at_succ (at_succ (at_succ (at_succ (at_succ (at_succ (at_succ (at_succ (at_succ (at_succ (at_succ at_zero))))))))))))))))))))))))))) (by kernel_rfl) (by kernel_rfl) (by kernel_rfl) (fun _ _ _ h => h) (Or.inl ⟨by kernel_rfl, fun wy hSw => ?_⟩) (by assumption) ?_
  · (try dsimp only at hSw); go_simp
  try simp only [Act.put, List.setIfInBounds_toArray, List.set_cons_zero, List.set_cons_succ]
  refine wpAnyH_take (i := 28) (v := (.agg #[.int .i64 2, .int .i64 0, .int .i64 2, .int .i64 0, .int .i64 0, .int .i64 0, .int .i64 0, .bool true, .string ⟨#[98]⟩])) (at_succ (at_succ (at_succ (at_succ (at_succ (at_succ (at_succ (at_succ (at_succ (at_succ (at_succ (at_succ (at_succ (at_succ (at_succ (at_succ (at_succ (at_succ (at_succ (at_succ (at_succ (at_succ (at_succ (at_succ (at_succ (at_succ (at_succ (at_succ at_zero)))))))))))))))))))))))))))) (by kernel_rfl) (by kernel_rfl) (by kernel_rfl) (fun _ _ _ h => h) (Or.inl ⟨by kernel_rfl, fun wy hSw => ?_⟩) (by assumption) ?_
  · (try dsimp only at hSw); go_simp
  try simp only [Act.put, List.setIfInBounds_toArray, List.set_cons_zero, List.set_cons_succ]
  refine wpAnyH_take (i := 29) (v := (.agg #[.int .i64 2, .int .i64 0, .int .i64 2, .int .i64 0, .int .i64 0, .int .i64 0, .int .i64 0, .bool true, .string ⟨#[98]⟩])) (at_succ (at_succ (at_succ (at_succ (at_succ (at_succ (at_succ (at_succ (at_succ (at_succ (at_succ (at_succ (at_succ (at_succ (at_succ (at_succ (at_succ (at_succ (at_succ (at_succ (at_succ (at_succ (at_succ (at_succ (at_succ (at_succ (at_succ (at_succ (at_succ at_zero))))))))))))))))))))))))))))) (by kernel_rfl) (by kernel_rfl) (by kernel_rfl) (fun _ _ _ h => h) (Or.inl ⟨by kernel_rfl, fun wy hSw => ?_⟩) (by assumption) ?_
  · (try dsimp only at hSw); go_simp
  try simp only [Act.put, List.setIfInBounds_toArray, List.set_cons_zero, List.set_cons_succ]
  refine wpAnyH_take (i := 30) (v := (.bool true)) (at_succ (at_succ (at_succ (at_succ (at_succ (at_succ (at_succ (at_succ (at_succ (at_succ (at_succ (at_succ (at_succ (at_succ (at_succ (at_succ (at_succ (at_succ (at_succ (at_succ (at_succ (at_succ (at_succ (at_succ (at_succ (at_succ (at_succ (at_succ (at_succ (at_succ at_zero)))))))))))))))))))))))))))))) (by kernel_rfl) (by kernel_rfl) (by kernel_rfl) (fun _ _ _ h => h) (Or.inl ⟨by kernel_rfl, fun wy hSw => ?_⟩) (by assumption) ?_
  · (try dsimp only at hSw); go_simp
  try simp only [Act.put, List.setIfInBounds_toArray, List.set_cons_zero, List.set_cons_succ]
  refine wpAnyH_take (i := 31) (v := (.bool true)) (at_succ (at_succ (at_succ (at_succ (at_succ (at_succ (at_succ (at_succ (at_succ (at_succ (at_succ (at_succ (at_succ (at_succ (at_succ (at_succ (at_succ (at_succ (at_succ (at_succ (at_succ (at_succ (at_succ (at_succ (at_succ (at_succ (at_succ (at_succ (at_succ (at_succ (at_succ at_zero))))))))))))))))))))))))))))))) (by kernel_rfl) (by kernel_rfl) (by kernel_rfl) (fun _ _ _ h => h) (Or.inl ⟨by kernel_rfl, fun wy hSw => ?_⟩) (by assumption) ?_
  · (try dsimp only at hSw); go_simp
  try simp only [Act.put, List.setIfInBounds_toArray, List.set_cons_zero, List.set_cons_succ]
  refine wpAnyH_take (i := 32) (v := (.bool true)) (at_succ (at_succ (at_succ (at_succ (at_succ (at_succ (at_succ (at_succ (at_succ (at_succ (at_succ (at_succ (at_succ (at_succ (at_succ (at_succ (at_succ (at_succ (at_succ (at_succ (at_succ (at_succ (at_succ (at_succ (at_succ (at_succ (at_succ (at_succ (at_succ (at_succ (at_succ (at_succ at_zero)))))))))))))))))))))))))))))))) (by kernel_rfl) (by kernel_rfl) (by kernel_rfl) (fun _ _ _ h => h) (Or.inl ⟨by kernel_rfl, fun wy hSw => ?_⟩) (by assumption) ?_
  · (try dsimp only at hSw); go_simp
  try simp only [Act.put, List.setIfInBounds_toArray, List.set_cons_zero, List.set_cons_succ]
  refine wpAnyH_take (i := 33) (v := (.slice (some ⟨br, pr, none⟩) 2 c7)) (at_succ (at_succ (at_succ (at_succ (at_succ (at_succ (at_succ (at_succ (at_succ (at_succ (at_succ (at_succ (at_succ (at_succ (at_succ (at_succ (at_succ (at_succ (at_succ (at_succ (at_succ (at_succ (at_succ (at_succ (at_succ (at_succ (at_succ (at_succ (at_succ (at_succ (at_succ (at_succ (at_succ at_zero))))))))))))))))))))))))))))))))) (by kernel_rfl) (by kernel_rfl) (by kernel_rfl) (fun _ _ _ h => h) (Or.inl ⟨by kernel_rfl, fun wy hSw => ?_⟩) (by assumption) ?_
  · (try dsimp only at hSw); go_simp
  try simp only [Act.put, List.setIfInBounds_toArray, List.set_cons_zero, List.set_cons_succ]
  refine wpAnyH_take (i := 34) (v := (.int .i64 2)) (at_succ (at_succ (at_succ (at_succ (at_succ (at_succ (at_succ (at_succ (at_succ (at_succ (at_succ (at_succ (at_succ (at_succ (at_succ (at_succ (at_succ (at_succ (at_succ (at_succ (at_succ (at_succ (at_succ (at_succ (at_succ (at_succ (at_succ (at_succ (at_succ (at_succ (at_succ (at_succ (at_succ (at_succ at_zero)))))))))))))))))))))))))))))))))) (by kernel_rfl) (by kernel_rfl) (by kernel_rfl) (fun _ _ _ h => h) (Or.inl ⟨by kernel_rfl, fun wy hSw => ?_⟩) (by assumption) ?_
  · (try dsimp only at hSw); go_simp
  try simp only [Act.put, List.setIfInBounds_toArray, List.set_cons_zero, List.set_cons_succ]
  refine wpAnyH_take (i := 35) (v := (.bool true)) (at_succ (at_succ (at_succ (at_succ (at_succ (at_succ (at_succ (at_succ (at_succ (at_succ (at_succ (at_succ (at_succ (at_succ (at_succ (at_succ (at_succ (at_succ (at_succ (at_succ (at_succ (at_succ (at_succ (at_succ (at_succ (at_succ (at_succ (at_succ (at_succ (at_succ (at_succ (at_succ (at_succ (at_succ (at_succ at_zero))))))))))))))))))))))))))))))))))) (by kernel_rfl) (by kernel_rfl) (by kernel_rfl) (fun _ _ _ h => h) (Or.inl ⟨by kernel_rfl, fun wy hSw => ?_⟩) (by assumption) ?_
  · (try dsimp only at hSw); go_simp
  try simp only [Act.put, List.setIfInBounds_toArray, List.set_cons_zero, List.set_cons_succ]
  refine wpAnyH_take (i := 36) (v := (.bool true)) (at_succ (at_succ (at_succ (at_succ (at_succ (at_succ (at_succ (at_succ (at_succ (at_succ (at_succ (at_succ (at_succ (at_succ (at_succ (at_succ (at_succ (at_succ (at_succ (at_succ (at_succ (at_succ (at_succ (at_succ (at_succ (at_succ (at_succ (at_succ (at_succ (at_succ (at_succ (at_succ (at_succ (at_succ (at_succ (at_succ at_zero)))))))))))))))))))))))))))))))))))) (by kernel_rfl) (by kernel_rfl) (by kernel_rfl) (fun _ _ _ h => h) (Or.inl ⟨by kernel_rfl, fun wy hSw => ?_⟩) (by assumption) ?_
  · (try dsimp only at hSw); go_simp
  try simp only [Act.put, List.setIfInBounds_toArray, List.set_cons_zero, List.set_cons_succ]
  refine wpAnyH_take (i := 37) (v := (.bool true)) (at_succ (at_succ (at_succ (at_succ (at_succ (at_succ (at_succ (at_succ (at_succ (at_succ (at_succ (at_succ (at_succ (at_succ (at_succ (at_succ (at_succ (at_succ (at_succ (at_succ (at_succ (at_succ (at_succ (at_succ (at_succ (at_succ (at_succ (at_succ (at_succ (at_succ (at_succ (at_succ (at_succ (at_succ (at_succ (at_succ (at_succ at_zero))))))))))))))))))))))))))))))))))))) (by kernel_rfl) (by kernel_rfl) (by kernel_rfl) (fun _ _ _ h => h) (Or.inl ⟨by kernel_rfl, fun wy hSw => ?_⟩) (by assumption) ?_
  · (try dsimp only at hSw); go_simp
  try simp only [Act.put, List.setIfInBounds_toArray, List.set_cons_zero, List.set_cons_succ]
  refine wpAnyH_take (i := 38) (v := (.slice (some ⟨br, pr, none⟩) 2 c7)) (at_succ (at_succ (at_succ (at_succ (at_succ (at_succ (at_succ (at_succ (at_succ (at_succ (at_succ (at_succ (at_succ (at_succ (at_succ (at_succ (at_succ (at_succ (at_succ (at_succ (at_succ (at_succ (at_succ (at_succ (at_succ (at_succ (at_succ (at_succ (at_succ (at_succ (at_succ (at_succ (at_succ (at_succ (at_succ (at_succ (at_succ (at_succ at_zero)))))))))))))))))))))))))))))))))))))) (by kernel_rfl) (by kernel_rfl) (by kernel_rfl) (fun _ _ _ h => h) (Or.inl ⟨by kernel_rfl, fun wy hSw => ?_⟩) (by assumption) ?_
  · (try dsimp only at hSw); go_simp
  try simp only [Act.put, List.setIfInBounds_toArray, List.set_cons_zero, List.set_cons_succ]
  refine wpAnyH_take (i := 39) (v := (.pointer (some ⟨br, pr + 10, none⟩))) (at_succ (at_succ (at_succ (at_succ (at_succ (at_succ (at_succ (at_succ (at_succ (at_succ (at_succ (at_succ (at_succ (at_succ (at_succ (at_succ (at_succ (at_succ (at_succ (at_succ (at_succ (at_succ (at_succ (at_succ (at_succ (at_succ (at_succ (at_succ (at_succ (at_succ (at_succ (at_succ (at_succ (at_succ (at_succ (at_succ (at_succ (at_succ (at_succ at_zero))))))))))))))))))))))))))))))))))))))) (by kernel_rfl) (by kernel_rfl) (by kernel_rfl) (fun _ _ _ h => h) (Or.inl ⟨by kernel_rfl, fun wy hSw => ?_⟩) (by assumption) ?_
  · (try dsimp only at hSw); go_simp
  try simp only [Act.put, List.setIfInBounds_toArray, List.set_cons_zero, List.set_cons_succ]
  refine wpAnyH_take (i := 40) (v := (.pointer (some ⟨br, pr + 10, none⟩))) (at_succ (at_succ (at_succ (at_succ (at_succ (at_succ (at_succ (at_succ (at_succ (at_succ (at_succ (at_succ (at_succ (at_succ (at_succ (at_succ (at_succ (at_succ (at_succ (at_succ (at_succ (at_succ (at_succ (at_succ (at_succ (at_succ (at_succ (at_succ (at_succ (at_succ (at_succ (at_succ (at_succ (at_succ (at_succ (at_succ (at_succ (at_succ (at_succ (at_succ at_zero)))))))))))))))))))))))))))))))))))))))) (by kernel_rfl) (by kernel_rfl) (by kernel_rfl) (fun _ _ _ h => h) (Or.inl ⟨by kernel_rfl, fun wy hSw => ?_⟩) (by assumption) ?_
  · (try dsimp only at hSw); go_simp
  try simp only [Act.put, List.setIfInBounds_toArray, List.set_cons_zero, List.set_cons_succ]
  refine wpAnyH_take (i := 41) (v := (.agg #[.int .i64 2, .int .i64 0, .int .i64 2, .int .i64 0, .int .i64 0, .int .i64 0, .int .i64 0, .bool false, .string ⟨#[99]⟩])) (at_succ (at_succ (at_succ (at_succ (at_succ (at_succ (at_succ (at_succ (at_succ (at_succ (at_succ (at_succ (at_succ (at_succ (at_succ (at_succ (at_succ (at_succ (at_succ (at_succ (at_succ (at_succ (at_succ (at_succ (at_succ (at_succ (at_succ (at_succ (at_succ (at_succ (at_succ (at_succ (at_succ (at_succ (at_succ (at_succ (at_succ (at_succ (at_succ (at_succ (at_succ at_zero))))))))))))))))))))))))))))))))))))))))) (by kernel_rfl) (by kernel_rfl) (by kernel_rfl) (fun _ _ _ h => h) (Or.inl ⟨by kernel_rfl, fun wy hSw => ?_⟩) (by assumption) ?_
  · (try dsimp only at hSw); go_simp
  try simp only [Act.put, List.setIfInBounds_toArray, List.set_cons_zero, List.set_cons_succ]
  refine wpAnyH_take (i := 42) (v := (.agg #[.int .i64 2, .int .i64 0, .int .i64 2, .int .i64 0, .int .i64 0, .int .i64 0, .int .i64 0, .bool false, .string ⟨#[99]⟩])) (at_succ (at_succ (at_succ (at_succ (at_succ (at_succ (at_succ (at_succ (at_succ (at_succ (at_succ (at_succ (at_succ (at_succ (at_succ (at_succ (at_succ (at_succ (at_succ (at_succ (at_succ (at_succ (at_succ (at_succ (at_succ (at_succ (at_succ (at_succ (at_succ (at_succ (at_succ (at_succ (at_succ (at_succ (at_succ (at_succ (at_succ (at_succ (at_succ (at_succ (at_succ (at_succ at_zero)))))))))))))))))))))))))))))))))))))))))) (by kernel_rfl) (by kernel_rfl) (by kernel_rfl) (fun _ _ _ h => h) (Or.inl ⟨by kernel_rfl, fun wy hSw => ?_⟩) (by assumption) ?_
  · (try dsimp only at hSw); go_simp
  try simp only [Act.put, List.setIfInBounds_toArray, List.set_cons_zero, List.set_cons_succ]
  refine wpAnyH_take (i := 43) (v := (.bool true)) (at_succ (at_succ (at_succ (at_succ (at_succ (at_succ (at_succ (at_succ (at_succ (at_succ (at_succ (at_succ (at_succ (at_succ (at_succ (at_succ (at_succ (at_succ (at_succ (at_succ (at_succ (at_succ (at_succ (at_succ (at_succ (at_succ (at_succ (at_succ (at_succ (at_succ (at_succ (at_succ (at_succ (at_succ (at_succ (at_succ (at_succ (at_succ (at_succ (at_succ (at_succ (at_succ (at_succ at_zero))))))))))))))))))))))))))))))))))))))))))) (by kernel_rfl) (by kernel_rfl) (by kernel_rfl) (fun _ _ _ h => h) (Or.inl ⟨by kernel_rfl, fun wy hSw => ?_⟩) (by assumption) ?_
  · (try dsimp only at hSw); go_simp
  try simp only [Act.put, List.setIfInBounds_toArray, List.set_cons_zero, List.set_cons_succ]
  refine wpAnyH_take (i := 44) (v := (.bool true)) (at_succ (at_succ (at_succ (at_succ (at_succ (at_succ (at_succ (at_succ (at_succ (at_succ (at_succ (at_succ (at_succ (at_succ (at_succ (at_succ (at_succ (at_succ (at_succ (at_succ (at_succ (at_succ (at_succ (at_succ (at_succ (at_succ (at_succ (at_succ (at_succ (at_succ (at_succ (at_succ (at_succ (at_succ (at_succ (at_succ (at_succ (at_succ (at_succ (at_succ (at_succ (at_succ (at_succ (at_succ at_zero)))))))))))))))))))))))))))))))))))))))))))) (by kernel_rfl) (by kernel_rfl) (by kernel_rfl) (fun _ _ _ h => h) (Or.inl ⟨by kernel_rfl, fun wy hSw => ?_⟩) (by assumption) ?_
  · (try dsimp only at hSw); go_simp
  try simp only [Act.put, List.setIfInBounds_toArray, List.set_cons_zero, List.set_cons_succ]
  refine wpAnyH_take (i := 45) (v := (.bool true)) (at_succ (at_succ (at_succ (at_succ (at_succ (at_succ (at_succ (at_succ (at_succ (at_succ (at_succ (at_succ (at_succ (at_succ (at_succ (at_succ (at_succ (at_succ (at_succ (at_succ (at_succ (at_succ (at_succ (at_succ (at_succ (at_succ (at_succ (at_succ (at_succ (at_succ (at_succ (at_succ (at_succ (at_succ (at_succ (at_succ (at_succ (at_succ (at_succ (at_succ (at_succ (at_succ (at_succ (at_succ (at_succ at_zero))))))))))))))))))))))))))))))))))))))))))))) (by kernel_rfl) (by kernel_rfl) (by kernel_rfl) (fun _ _ _ h => h) (Or.inl ⟨by kernel_rfl, fun wy hSw => ?_⟩) (by assumption) ?_
  · (try dsimp only at hSw); go_simp
  try simp only [Act.put, List.setIfInBounds_toArray, List.set_cons_zero, List.set_cons_succ]
  refine wpAnyH_take (i := 46) (v := (.slice A8 0 c8)) (at_succ (at_succ (at_succ (at_succ (at_succ (at_succ (at_succ (at_succ (at_succ (at_succ (at_succ (at_succ (at_succ (at_succ (at_succ (at_succ (at_succ (at_succ (at_succ (at_succ (at_succ (at_succ (at_succ (at_succ (at_succ (at_succ (at_succ (at_succ (at_succ (at_succ (at_succ (at_succ (at_succ (at_succ (at_succ (at_succ (at_succ (at_succ (at_succ (at_succ (at_succ (at_succ (at_succ (at_succ (at_succ (at_succ at_zero)))))))))))))))))))))))))))))))))))))))))))))) (by kernel_rfl) (by kernel_rfl) (by kernel_rfl) (fun _ _ _ h => h) (Or.inl ⟨by kernel_rfl, fun wy hSw => ?_⟩) (by assumption) ?_
  · (try dsimp only at hSw); go_simp
  try simp only [Act.put, List.setIfInBounds_toArray, List.set_cons_zero, List.set_cons_succ]
  refine wpAnyH_take (i := 47) (v := (.int .i64 0)) (at_succ (at_succ (at_succ (at_succ (at_succ (at_succ (at_succ (at_succ (at_succ (at_succ (at_succ (at_succ (at_succ (at_succ (at_succ (at_succ (at_succ (at_succ (at_succ (at_succ (at_succ (at_succ (at_succ (at_succ (at_succ (at_succ (at_succ (at_succ (at_succ (at_succ (at_succ (at_succ (at_succ (at_succ (at_succ (at_succ (at_succ (at_succ (at_succ (at_succ (at_succ (at_succ (at_succ (at_succ (at_succ (at_succ (at_succ at_zero))))))))))))))))))))))))))))))))))))))))))))))) (by kernel_rfl) (by kernel_rfl) (by kernel_rfl) (fun _ _ _ h => h) (Or.inl ⟨by kernel_rfl, fun wy hSw => ?_⟩) (by assumption) ?_
  · (try dsimp only at hSw); go_simp
  try simp only [Act.put, List.setIfInBounds_toArray, List.set_cons_zero, List.set_cons_succ]
  refine wpAnyH_take (i := 48) (v := (.bool true)) (at_succ (at_succ (at_succ (at_succ (at_succ (at_succ (at_succ (at_succ (at_succ (at_succ (at_succ (at_succ (at_succ (at_succ (at_succ (at_succ (at_succ (at_succ (at_succ (at_succ (at_succ (at_succ (at_succ (at_succ (at_succ (at_succ (at_succ (at_succ (at_succ (at_succ (at_succ (at_succ (at_succ (at_succ (at_succ (at_succ (at_succ (at_succ (at_succ (at_succ (at_succ (at_succ (at_succ (at_succ (at_succ (at_succ (at_succ (at_succ at_zero)))))))))))))))))))))))))))))))))))))))))))))))) (by kernel_rfl) (by kernel_rfl) (by kernel_rfl) (fun _ _ _ h => h) (Or.inl ⟨by kernel_rfl, fun wy hSw => ?_⟩) (by assumption) ?_
  · (try dsimp only at hSw); go_simp
  try simp only [Act.put, List.setIfInBounds_toArray, List.set_cons_zero, List.set_cons_succ]
  refine wpAnyH_take (i := 49) (v := (.bool true)) (at_succ (at_succ (at_succ (at_succ (at_succ (at_succ (at_succ (at_succ (at_succ (at_succ (at_succ (at_succ (at_succ (at_succ (at_succ (at_succ (at_succ (at_succ (at_succ (at_succ (at_succ (at_succ (at_succ (at_succ (at_succ (at_succ (at_succ (at_succ (at_succ (at_succ (at_succ (at_succ (at_succ (at_succ (at_succ (at_succ (at_succ (at_succ (at_succ (at_succ (at_succ (at_succ (at_succ (at_succ (at_succ (at_succ (at_succ (at_succ (at_succ at_zero))))))))))))))))))))))))))))))))))))))))))))))))) (by kernel_rfl) (by kernel_rfl) (by kernel_rfl) (fun _ _ _ h => h) (Or.inl ⟨by kernel_rfl, fun wy hSw => ?_⟩) (by assumption) ?_
  · (try dsimp only at hSw); go_simp
  try simp only [Act.put, List.setIfInBounds_toArray, List.set_cons_zero, List.set_cons_succ]
  refine wpAnyH_take (i := 50) (v := (.bool true)) (at_succ (at_succ (at_succ (at_succ (at_succ (at_succ (at_succ (at_succ (at_succ (at_succ (at_succ (at_succ (at_succ (at_succ (at_succ (at_succ (at_succ (at_succ (at_succ (at_succ (at_succ (at_succ (at_succ (at_succ (at_succ (at_succ (at_succ (at_succ (at_succ (at_succ (at_succ (at_succ (at_succ (at_succ (at_succ (at_succ (at_succ (at_succ (at_succ (at_succ (at_succ (at_succ (at_succ (at_succ (at_succ (at_succ (at_succ (at_succ (at_succ (at_succ at_zero)))))))))))))))))))))))))))))))))))))))))))))))))) (by kernel_rfl) (by kernel_rfl) (by kernel_rfl) (fun _ _ _ h => h) (Or.inl ⟨by kernel_rfl, fun wy hSw => ?_⟩) (by assumption) ?_
  · (try dsimp only at hSw); go_simp
  try simp only [Act.put, List.setIfInBounds_toArray, List.set_cons_zero, List.set_cons_succ]
  refine wpAnyH_take (i := 51) (v := (.slice (some ⟨bl, pl, none⟩) 3 c6)) (at_succ (at_succ (at_succ (at_succ (at_succ (at_succ (at_succ (at_succ (at_succ (at_succ (at_succ (at_succ (at_succ (at_succ (at_succ (at_succ (at_succ (at_succ (at_succ (at_succ (at_succ (at_succ (at_succ (at_succ (at_succ (at_succ (at_succ (at_succ (at_succ (at_succ (at_succ (at_succ (at_succ (at_succ (at_succ (at_succ (at_succ (at_succ (at_succ (at_succ (at_succ (at_succ (at_succ (at_succ (at_succ (at_succ (at_succ (at_succ (at_succ (at_succ (at_succ at_zero))))))))))))))))))))))))))))))))))))))))))))))))))) (by kernel_rfl) (by kernel_rfl) (by kernel_rfl) (fun _ _ _ h => h) (Or.inl ⟨by kernel_rfl, fun wy hSw => ?_⟩) (by assumption) ?_
  · (try dsimp only at hSw); go_simp
  try simp only [Act.put, List.setIfInBounds_toArray, List.set_cons_zero, List.set_cons_succ]
  refine wpAnyH_ready (rs := [52]) (by kernel_rfl) (by simp) ?_
  refine AllReadyH.cons (at_succ (at_succ (at_succ (at_succ (at_succ (at_succ (at_succ (at_succ (at_succ (at_succ (at_succ (at_succ (at_succ (at_succ (at_succ (at_succ (at_succ (at_succ (at_succ (at_succ (at_succ (at_succ (at_succ (at_succ (at_succ (at_succ (at_succ (at_succ (at_succ (at_succ (at_succ (at_succ (at_succ (at_succ (at_succ (at_succ (at_succ (at_succ (at_succ (at_succ (at_succ (at_succ (at_succ (at_succ (at_succ (at_succ (at_succ (at_succ (at_succ (at_succ (at_succ (at_succ at_zero)))))))))))))))))))))))))))))))))))))))))))))))))))) (fun K hK => ?_) AllReadyH.nil
  rw [if_pos (by kernel_rfl)]
  go_simp
  refine (C1.out _ _ _ (K8.out.next Z0)).mono ?_
  rintro _ wz ⟨rfl, hb⟩
  have Z1 := Z0.trans (hb.mono Z0.size)
  clear hb hHeld
  go_wp2_with fail
  refine hK.out _ _ (HC.out _ Z1) (fun hHeld => ?_)
  clear hK K
  try simp only [Act.put, List.setIfInBounds_toArray, List.set_cons_zero, List.set_cons_succ]
  refine wpAnyH_take (i := 53) (v := (.bool true)) (at_succ (at_succ (at_succ (at_succ (at_succ (at_succ (at_succ (at_succ (at_succ (at_succ (at_succ (at_succ (at_succ (at_succ (at_succ (at_succ (at_succ (at_succ (at_succ (at_succ (at_succ (at_succ (at_succ (at_succ (at_succ (at_succ (at_succ (at_succ (at_succ (at_succ (at_succ (at_succ (at_succ (at_succ (at_succ (at_succ (at_succ (at_succ (at_succ (at_succ (at_succ (at_succ (at_succ (at_succ (at_succ (at_succ (at_succ (at_succ (at_succ (at_succ (at_succ (at_succ (at_succ at_zero))))))))))))))))))))))))))))))))))))))))))))))))))))) (by kernel_rfl) (by kernel_rfl) (by kernel_rfl) (fun _ _ _ h => h) (Or.inl ⟨by kernel_rfl, fun wy hSw => ?_⟩) (by assumption) ?_
  · (try dsimp only at hSw); go_simp
  try simp only [Act.put, List.setIfInBounds_toArray, List.set_cons_zero, List.set_cons_succ]
  refine wpAnyH_take (i := 54) (v := (.bool true)) (at_succ (at_succ (at_succ (at_succ (at_succ (at_succ (at_succ (at_succ (at_succ (at_succ (at_succ (at_succ (at_succ (at_succ (at_succ (at_succ (at_succ (at_succ (at_succ (at_succ (at_succ (at_succ (at_succ (at_succ (at_succ (at_succ (at_succ (at_succ (at_succ (at_succ (at_succ (at_succ (at_succ (at_succ (at_succ (at_succ (at_succ (at_succ (at_succ (at_succ (at_succ (at_succ (at_succ (at_succ (at_succ (at_succ (at_succ (at_succ (at_succ (at_succ (at_succ (at_succ (at_succ (at_succ at_zero)))))))))))))))))))))))))))))))))))))))))))))))))))))) (by kernel_rfl) (by kernel_rfl) (by kernel_rfl) (fun _ _ _ h => h) (Or.inl ⟨by kernel_rfl, fun wy hSw => ?_⟩) (by assumption) ?_
  · (try dsimp only at hSw); go_simp
  try simp only [Act.put, List.setIfInBounds_toArray, List.set_cons_zero, List.set_cons_succ]
  refine wpAnyH_take (i := 55) (v := (.bool true)) (at_succ (at_succ (at_succ (at_succ (at_succ (at_succ (at_succ (at_succ (at_succ (at_succ (at_succ (at_succ (at_succ (at_succ (at_succ (at_succ (at_succ (at_succ (at_succ (at_succ (at_succ (at_succ (at_succ (at_succ (at_succ (at_succ (at_succ (at_succ (at_succ (at_succ (at_succ (at_succ (at_succ (at_succ (at_succ (at_succ (at_succ (at_succ (at_succ (at_succ (at_succ (at_succ (at_succ (at_succ (at_succ (at_succ (at_succ (at_succ (at_succ (at_succ (at_succ (at_succ (at_succ (at_succ (at_succ at_zero))))))))))))))))))))))))))))))))))))))))))))))))))))))) (by kernel_rfl) (by kernel_rfl) (by kernel_rfl) (fun _ _ _ h => h) (Or.inl ⟨by kernel_rfl, fun wy hSw => ?_⟩) (by assumption) ?_
  · (try dsimp only at hSw); go_simp
  try simp only [Act.put, List.setIfInBounds_toArray, List.set_cons_zero]
  refine wpAnyH_done (by kernel_rfl) ?_ _
  go_wp2_with fail
  go_ret
  exact outB rfl (B8.out.trans (Z1.mono B8.out.size))
end Go.Proofs.Ytlfegjhhkeceiaa.Mbx
