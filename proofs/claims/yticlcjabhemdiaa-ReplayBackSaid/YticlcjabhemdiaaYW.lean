/- The chapter's example: awake. -/
import Derived.Test.YticlcjabhemdiaaYO
set_option linter.unusedVariables false
namespace Go.Proofs.Yticlcjabhemdiaa.Rpl
open Go.RowKit

def nm : Nat → Int
  | 0 => 5 | 1 => 3 | 2 => 5 | 3 => 70 | 4 => 6 | _ => 7
def wt : Nat → Bool
  | 0 => true | 1 => true | 2 => false | 3 => true | 4 => false | _ => true
def st : Nat → Wi
  | 0 => (-1, 0) | 1 => (5, 1) | 2 => (5, 5) | 3 => (5, 5) | 4 => (70, 1) | 5 => (70, 1) | _ => (70, 9223372036854775809)
theorem st_next : ∀ i, i < 6 → acc (st i) (nm i) = (st (i + 1), wt i)
  | 0, _ => ex1 | 1, _ => ex2 | 2, _ => ex3 | 3, _ => ex4 | 4, _ => ex5 | 5, _ => ex6 | _ + 6, h => absurd h (by omega)
theorem st_lt : ∀ i, (st i).2 < 18446744073709551616
  | 0 => by decide | 1 => by decide | 2 => by decide | 3 => by decide | 4 => by decide | 5 => by decide | _ + 6 => show (9223372036854775809 : Nat) < 18446744073709551616 by decide
theorem nm_64 : ∀ i, I64 (nm i)
  | 0 => ⟨by decide, by decide⟩ | 1 => ⟨by decide, by decide⟩ | 2 => ⟨by decide, by decide⟩ | 3 => ⟨by decide, by decide⟩ | 4 => ⟨by decide, by decide⟩ | _ + 5 => show I64 7 from ⟨by decide, by decide⟩
theorem win_zeros {w w4 : World} (hb : Below (w.alloc (bxW 0 0)).drew.heap.size (w.alloc (bxW 0 0)).drew w4) : (w4.cell? ⟨w.heap.size, 0, none⟩ = some (.int .i64 0) ∧ w4.cell? ⟨w.heap.size, 1, none⟩ = some (.int .u64 0)) ∧ w4.frozen? ⟨w.heap.size, 0, none⟩ = false ∧ w4.frozen? ⟨w.heap.size, 1, none⟩ = false := by
  have h : w4.heap[w.heap.size]? = some (bxW 0 0) := (hb.block w.heap.size (by simp)).trans (blk_new w _)
  exact ⟨⟨blk_cell h 0 rfl, blk_cell h 1 rfl⟩, blk_fr h 0, blk_fr h 1⟩
abbrev bxN : Obj := .cells #[.int .i64 5, .int .i64 3, .int .i64 5, .int .i64 70, .int .i64 6, .int .i64 7] 47
abbrev bxT : Obj := .cells #[.bool true, .bool true, .bool false, .bool true, .bool false, .bool true] 48
theorem nm_cell {w : World} {b : Nat} (h : w.heap[b]? = some bxN) : ∀ i, i < 6 → w.cell? ⟨b, i, none⟩ = some (.int .i64 (nm i))
  | 0, _ => blk_cell h 0 rfl | 1, _ => blk_cell h 1 rfl | 2, _ => blk_cell h 2 rfl | 3, _ => blk_cell h 3 rfl | 4, _ => blk_cell h 4 rfl | 5, _ => blk_cell h 5 rfl | _ + 6, h => absurd h (by omega)
theorem wt_cell {w : World} {b : Nat} (h : w.heap[b]? = some bxT) : ∀ i, i < 6 → w.cell? ⟨b, i, none⟩ = some (.bool (wt i))
  | 0, _ => blk_cell h 0 rfl | 1, _ => blk_cell h 1 rfl | 2, _ => blk_cell h 2 rfl | 3, _ => blk_cell h 3 rfl | 4, _ => blk_cell h 4 rfl | 5, _ => blk_cell h 5 rfl | _ + 6, h => absurd h (by omega)
theorem chk_a : chk (-1, 0) = 0 := by decide
theorem chk_b : chk (0, 0) = 2 := by decide
abbrev on : ByteArray := ⟨#[111, 110]⟩
theorem sl_on : sl 9 4 71 on = (Digest.bs (Digest.seald 9 (pay 4 71 on).data.toList), 0) := by
  unfold sl
  rw [if_neg (by decide), if_neg (by decide)]
theorem seald_size (k : Nat) (l : List UInt8) : (Digest.bs (Digest.seald k l)).size = l.length + 4 := by
  rw [Digest.bs_size]
  unfold Digest.seald
  rw [List.length_append, Digest.nb_length]
theorem op_a : op 9 4 (70, 9223372036854775809) (Digest.bs (Digest.seald 9 (pay 4 71 on).data.toList)) = (on, (71, 3), 0) := by
  rw [op_sl 9 4 4 71 _ on (by decide) (by unfold In; decide) (by decide), if_neg (by decide), ex7, if_neg (by decide)]
theorem ex8 : acc (71, 3) 71 = ((71, 3), false) := by decide +kernel
theorem op_b : op 9 4 (71, 3) (Digest.bs (Digest.seald 9 (pay 4 71 on).data.toList)) = (⟨#[]⟩, (71, 3), 18) := by
  rw [op_sl 9 4 4 71 _ on (by decide) (by unfold In; decide) (by decide), if_neg (by decide), ex8, if_pos rfl]
set_option maxRecDepth 100000 in
set_option maxHeartbeats 8000000 in
theorem awake_any (w : World) : Calls Try.prog 13 #[] w (OutB w true) := by
  have KA := Lib.hid (fun i w (hi : i < 6) => (by have := paccept_any (st i).1 (st i).2 (nm i) w (st_lt i) (nm_64 i); rw [show ((st i).1, (st i).2) = st i from rfl, st_next i hi] at this; exact this : Calls Try.prog 9 #[.agg #[.int .i64 (st i).1, .int .u64 ((st i).2 : Int)], .int .i64 (nm i)] w (OutA w (st (i + 1), wt i))))
  unfold OutA at KA
  have SN := Lib.hid (fun i (hi : i < 6) (h : wt i = false) => (by have := acc_no (w := st i) (n := nm i) (by rw [st_next i hi]; exact h); rw [st_next i hi] at this; exact this : st (i + 1) = st i))
  have C0 := Lib.hid (fun w => (by have := pcheck_any (-1) 0 w (by decide); rw [chk_a] at this; exact this : Calls Try.prog 11 #[.agg #[.int .i64 (-1), .int .u64 0]] w (OutI w 0)))
  have C1 := Lib.hid (fun w => (by have := pcheck_any 0 0 w (by decide); rw [chk_b] at this; exact this : Calls Try.prog 11 #[.agg #[.int .i64 0, .int .u64 0]] w (OutI w 2)))
  unfold OutI at C0 C1
  have s0 : st 0 = (-1, 0) := rfl
  have S0 := Lib.hid s0
  clear s0
  go_enter Try.func13, Try.ntmps13
  go_wp2_with fail
  refine (pnew_any _).mono ?_
  rintro _ w1 ⟨rfl, hb⟩
  have N1 := Lib.hid (show w1.heap[w.heap.size]? = some bxN from (hb.block w.heap.size (by simp; omega)).trans (blk_alloc (blk_new w _) _))
  have T1 := Lib.hid (show w1.heap[w.heap.size + 1]? = some bxT from (hb.block (w.heap.size + 1) (by simp)).trans (two_new w _ _))
  have hz1 : w.heap.size + 1 < w1.heap.size := by have := hb.size; simp at this; omega
  have B1 := Lib.hid (show Below w.heap.size w w1 from ((alloc_below w bxN).alloc (by simp) bxT).trans (hb.mono (by simp; omega)))
  clear hb
  go_wp2_with fail
  refine (C0.out _).mono ?_
  rintro _ w2 ⟨rfl, hb⟩
  obtain ⟨g, hg⟩ : ∃ g, g = w1.heap.size := ⟨_, rfl⟩
  have G2 := Lib.hid (show w2.heap[g]? = some (bxW (-1) 0) from by rw [hg]; exact blk_below (blk_new w1 _) hb (by simp))
  have N2 := Lib.hid (blk_below (blk_alloc N1.out (bxW (-1) 0)) hb (by simp; omega))
  have T2 := Lib.hid (blk_below (blk_alloc T1.out (bxW (-1) 0)) hb (by simp; omega))
  have B2 := Lib.hid (B1.out.trans ((box_below hb).mono B1.out.size))
  have hz2 : g < w2.heap.size := by rw [hg]; have := hb.size; simp at this; omega
  have hg1 : w.heap.size + 1 < g := by omega
  rw [← hg]
  clear hb N1 T1 B1 hg hz1 C0
  go_wp2_with fail
  refine (C1.out _).mono ?_
  rintro _ w3 ⟨rfl, hb⟩
  have G3 := Lib.hid (blk_below G2.out hb hz2)
  have N3 := Lib.hid (blk_below N2.out hb (by omega))
  have T3 := Lib.hid (blk_below T2.out hb (by omega))
  have B3 := Lib.hid (B2.out.trans (hb.mono B2.out.size))
  have hz3 : g < w3.heap.size := Nat.lt_of_lt_of_le hz2 hb.size
  clear hb G2 N2 T2 B2 hz2 C1
  go_wp2_with fail
  go_loopw [4] (fun vk wr => ∃ i : Nat, vk = .int .i64 i ∧ i ≤ 6 ∧ Hid (wr.heap[g]? = some (bxW (st i).1 (st i).2)) ∧ Hid (wr.heap[w.heap.size]? = some bxN ∧ wr.heap[w.heap.size + 1]? = some bxT) ∧ g < wr.heap.size ∧ Below w.heap.size w wr) (fun vk _ => 6 - (intOf vk).toNat)
  case atStart => exact ⟨0, rfl, by omega, Lib.hid (by rw [S0.out]; exact G3.out), Lib.hid ⟨N3.out, T3.out⟩, hz3, B3.out⟩
  case round =>
    obtain ⟨i, rfl, hi, HG, HN, hz, hb⟩ := hrel
    have B := Lib.hid hb
    clear hb
    have x0 := blk_cell HG.out 0 (v := .int .i64 (st i).1) rfl
    have x1 := blk_cell HG.out 1 (v := .int .u64 ((st i).2 : Int)) rfl
    by_cases hlt : i < 6
    · have n0 := nm_cell HN.out.1 i hlt
      have K1 := Lib.hid (fun w => KA.out i w hlt)
      have N := Lib.hid (SN.out i hlt)
      have r0 := fun o => blk_cell (blk_alloc HG.out o) 0 (v := .int .i64 (st i).1) rfl
      have r1 := fun o => blk_cell (blk_alloc HG.out o) 1 (v := .int .u64 ((st i).2 : Int)) rfl
      have m0 := fun o => nm_cell (blk_alloc HN.out.1 o) i hlt
      have q0 : (0 : Int) ≤ (i : Int) := by omega
      have q1 : (i : Int) < 6 := by omega
      go_wp2_with fail
      go_region_with (go_at_call 9; refine (K1.out _).mono ?_; rintro _ w4 ⟨rfl, hb⟩; (first | (have ZZ := win_zeros hb; obtain ⟨⟨z0, z1⟩, zf, zg⟩ := ZZ) | skip))
      all_goals first
        | (have zz := z0
           clear zz
           obtain ⟨h, hh⟩ : ∃ h, h = wr.heap.size := ⟨_, rfl⟩
           obtain ⟨V, hV⟩ : ∃ V, V = put2 w4 wr.heap.size (st (i + 1)).1 (st (i + 1)).2 := ⟨_, rfl⟩
           have XG := Lib.hid (show V.heap[g]? = some (bxW (st i).1 (st i).2) from hV ▸ (put2_other w4 (by omega) _ _).trans (blk_below HG.out (show Below wr.heap.size wr w4 from (alloc_below wr _).trans ((show Below (wr.alloc (bxW 0 0)).heap.size (wr.alloc (bxW 0 0)) w4 from (below_drewN (Below.refl _ _) 1).trans hb).mono (by simp))) hz))
           have XH := Lib.hid (show V.heap[h]? = some (bxW (st (i + 1)).1 (st (i + 1)).2) from by rw [hV, hh]; exact put2_blk ((hb.block wr.heap.size (by simp)).trans (blk_new wr (bxW 0 0))) _ _)
           have XN := Lib.hid (show V.heap[w.heap.size]? = some bxN ∧ V.heap[w.heap.size + 1]? = some bxT from ⟨hV ▸ (put2_other w4 (by omega) _ _).trans (blk_below HN.out.1 (show Below wr.heap.size wr w4 from (alloc_below wr _).trans ((show Below (wr.alloc (bxW 0 0)).heap.size (wr.alloc (bxW 0 0)) w4 from (below_drewN (Below.refl _ _) 1).trans hb).mono (by simp))) (by omega)), hV ▸ (put2_other w4 (by omega) _ _).trans (blk_below HN.out.2 (show Below wr.heap.size wr w4 from (alloc_below wr _).trans ((show Below (wr.alloc (bxW 0 0)).heap.size (wr.alloc (bxW 0 0)) w4 from (below_drewN (Below.refl _ _) 1).trans hb).mono (by simp))) (by omega))⟩)
           have BV := Lib.hid (show Below w.heap.size w V from hV ▸ put2_below (B.out.trans ((show Below wr.heap.size wr w4 from (alloc_below wr _).trans ((show Below (wr.alloc (bxW 0 0)).heap.size (wr.alloc (bxW 0 0)) w4 from (below_drewN (Below.refl _ _) 1).trans hb).mono (by simp))).mono B.out.size)) B.out.size _ _)
           have zV : g < V.heap.size := by rw [hV]; have := hb.size; unfold put2; simp at this; simp; omega
           have hne : g ≠ h := by omega
           unfold put2 at hV
           rw [← hV, ← hh]
           clear hb hV hh x0 x1 n0 r0 r1 m0 K1 HG HN hz B KA SN
           try clear z0 z1 zf zg
           have x0 := blk_cell XG.out 0 (v := .int .i64 (st i).1) rfl
           have x1 := blk_cell XG.out 1 (v := .int .u64 ((st i).2 : Int)) rfl
           have f0 := blk_fr XG.out 0
           have f1 := blk_fr XG.out 1
           have t0 := wt_cell XN.out.2 i hlt
           obtain ⟨ok, hok⟩ : ∃ ok, wt i = ok := ⟨_, rfl⟩
           rw [hok] at t0 N ⊢
           clear hok
           cases ok with
           | true =>
             have y0 := blk_cell XH.out 0 (v := .int .i64 (st (i + 1)).1) rfl
             have y1 := blk_cell XH.out 1 (v := .int .u64 ((st (i + 1)).2 : Int)) rfl
             obtain ⟨V2, hV2⟩ : ∃ V2, V2 = put2 V g (st (i + 1)).1 (st (i + 1)).2 := ⟨_, rfl⟩
             have GV := Lib.hid (hV2 ▸ put2_blk XG.out (st (i + 1)).1 (st (i + 1)).2)
             have NV := Lib.hid (show V2.heap[w.heap.size]? = some bxN ∧ V2.heap[w.heap.size + 1]? = some bxT from ⟨hV2 ▸ (put2_other V (by omega) _ _).trans XN.out.1, hV2 ▸ (put2_other V (by omega) _ _).trans XN.out.2⟩)
             have BW := Lib.hid (show Below w.heap.size w V2 from hV2 ▸ put2_below BV.out (by omega) _ _)
             have zW : g < V2.heap.size := by rw [hV2]; unfold put2; simpa using zV
             unfold put2 at hV2
             go_wp2_with fail
             rw [← hV2]
             clear hV2
             go_roundw
             case rel => exact ⟨i + 1, by go_num, hlt, GV, NV, zW, BW.out⟩
             case measure => simp [intOf]; omega
           | false =>
             have HE := Lib.hid (N.out rfl)
             rw [HE.out] at XH ⊢
             clear N
             have y0 := blk_cell XH.out 0 (v := .int .i64 (st i).1) rfl
             have y1 := blk_cell XH.out 1 (v := .int .u64 ((st i).2 : Int)) rfl
             obtain ⟨V2, hV2⟩ : ∃ V2, V2 = put2 V g (st i).1 (st i).2 := ⟨_, rfl⟩
             have GV := Lib.hid (hV2 ▸ put2_blk XG.out (st i).1 (st i).2)
             have NV := Lib.hid (show V2.heap[w.heap.size]? = some bxN ∧ V2.heap[w.heap.size + 1]? = some bxT from ⟨hV2 ▸ (put2_other V (by omega) _ _).trans XN.out.1, hV2 ▸ (put2_other V (by omega) _ _).trans XN.out.2⟩)
             have BW := Lib.hid (show Below w.heap.size w V2 from hV2 ▸ put2_below BV.out (by omega) _ _)
             have zW : g < V2.heap.size := by rw [hV2]; unfold put2; simpa using zV
             unfold put2 at hV2
             go_wp2_with fail
             rw [← hV2]
             clear hV2
             go_roundw
             case rel => exact ⟨i + 1, by go_num, hlt, Lib.hid (by rw [HE.out]; exact GV.out), NV, zW, BW.out⟩
             case measure => simp [intOf]; omega)
        | (skip
           obtain ⟨h, hh⟩ : ∃ h, h = w4.heap.size := ⟨_, rfl⟩
           obtain ⟨V, hV⟩ : ∃ V, V = w4.alloc (bxW (st (i + 1)).1 (st (i + 1)).2) := ⟨_, rfl⟩
           have XG := Lib.hid (show V.heap[g]? = some (bxW (st i).1 (st i).2) from hV ▸ blk_alloc (blk_below HG.out (show Below wr.heap.size wr w4 from (below_drewN (Below.refl _ _) 1).trans hb) hz) _)
           have XH := Lib.hid (show V.heap[h]? = some (bxW (st (i + 1)).1 (st (i + 1)).2) from by rw [hV, hh]; exact blk_new w4 _)
           have XN := Lib.hid (show V.heap[w.heap.size]? = some bxN ∧ V.heap[w.heap.size + 1]? = some bxT from ⟨hV ▸ blk_alloc (blk_below HN.out.1 (show Below wr.heap.size wr w4 from (below_drewN (Below.refl _ _) 1).trans hb) (by omega)) _, hV ▸ blk_alloc (blk_below HN.out.2 (show Below wr.heap.size wr w4 from (below_drewN (Below.refl _ _) 1).trans hb) (by omega)) _⟩)
           have BV := Lib.hid (show Below w.heap.size w V from hV ▸ (B.out.trans ((show Below wr.heap.size wr w4 from (below_drewN (Below.refl _ _) 1).trans hb).mono B.out.size)).alloc (Nat.le_trans B.out.size hb.size) _)
           have zV : g < V.heap.size := by rw [hV]; have := hb.size; simp at this; simp; omega
           have hne : g ≠ h := by rw [hh]; have := hb.size; simp at this; omega
           rw [← hV, ← hh]
           clear hb hV hh x0 x1 n0 r0 r1 m0 K1 HG HN hz B KA SN
           try clear z0 z1 zf zg
           have x0 := blk_cell XG.out 0 (v := .int .i64 (st i).1) rfl
           have x1 := blk_cell XG.out 1 (v := .int .u64 ((st i).2 : Int)) rfl
           have f0 := blk_fr XG.out 0
           have f1 := blk_fr XG.out 1
           have t0 := wt_cell XN.out.2 i hlt
           obtain ⟨ok, hok⟩ : ∃ ok, wt i = ok := ⟨_, rfl⟩
           rw [hok] at t0 N ⊢
           clear hok
           cases ok with
           | true =>
             have y0 := blk_cell XH.out 0 (v := .int .i64 (st (i + 1)).1) rfl
             have y1 := blk_cell XH.out 1 (v := .int .u64 ((st (i + 1)).2 : Int)) rfl
             obtain ⟨V2, hV2⟩ : ∃ V2, V2 = put2 V g (st (i + 1)).1 (st (i + 1)).2 := ⟨_, rfl⟩
             have GV := Lib.hid (hV2 ▸ put2_blk XG.out (st (i + 1)).1 (st (i + 1)).2)
             have NV := Lib.hid (show V2.heap[w.heap.size]? = some bxN ∧ V2.heap[w.heap.size + 1]? = some bxT from ⟨hV2 ▸ (put2_other V (by omega) _ _).trans XN.out.1, hV2 ▸ (put2_other V (by omega) _ _).trans XN.out.2⟩)
             have BW := Lib.hid (show Below w.heap.size w V2 from hV2 ▸ put2_below BV.out (by omega) _ _)
             have zW : g < V2.heap.size := by rw [hV2]; unfold put2; simpa using zV
             unfold put2 at hV2
             go_wp2_with fail
             rw [← hV2]
             clear hV2
             go_roundw
             case rel => exact ⟨i + 1, by go_num, hlt, GV, NV, zW, BW.out⟩
             case measure => simp [intOf]; omega
           | false =>
             have HE := Lib.hid (N.out rfl)
             rw [HE.out] at XH ⊢
             clear N
             have y0 := blk_cell XH.out 0 (v := .int .i64 (st i).1) rfl
             have y1 := blk_cell XH.out 1 (v := .int .u64 ((st i).2 : Int)) rfl
             obtain ⟨V2, hV2⟩ : ∃ V2, V2 = put2 V g (st i).1 (st i).2 := ⟨_, rfl⟩
             have GV := Lib.hid (hV2 ▸ put2_blk XG.out (st i).1 (st i).2)
             have NV := Lib.hid (show V2.heap[w.heap.size]? = some bxN ∧ V2.heap[w.heap.size + 1]? = some bxT from ⟨hV2 ▸ (put2_other V (by omega) _ _).trans XN.out.1, hV2 ▸ (put2_other V (by omega) _ _).trans XN.out.2⟩)
             have BW := Lib.hid (show Below w.heap.size w V2 from hV2 ▸ put2_below BV.out (by omega) _ _)
             have zW : g < V2.heap.size := by rw [hV2]; unfold put2; simpa using zV
             unfold put2 at hV2
             go_wp2_with fail
             rw [← hV2]
             clear hV2
             go_roundw
             case rel => exact ⟨i + 1, by go_num, hlt, Lib.hid (by rw [HE.out]; exact GV.out), NV, zW, BW.out⟩
             case measure => simp [intOf]; omega)
    obtain rfl : i = 6 := by omega
    have HG := Lib.hid (show wr.heap[g]? = some (bxW 70 9223372036854775809) from HG.out)
    have PS := Lib.hid (fun w => (by have := pseal_any 9 4 71 on w (by decide) ⟨by decide, by decide⟩ ⟨by decide, by decide⟩ (by decide); rw [sl_on] at this; exact this : Calls Try.prog 14 #[.int .u64 9, .int .i64 4, .int .i64 71, .string on] w (OutSl w (Digest.bs (Digest.seald 9 (pay 4 71 on).data.toList), 0))))
    have zq : (Digest.bs (Digest.seald 9 (pay 4 71 on).data.toList)).size ≤ 20000 := by
      rw [seald_size]
      have h1 := pay_size 4 71 on
      have h2 : (pay 4 71 on).data.toList.length = (pay 4 71 on).size := Array.length_toList
      have h3 : on.size = 2 := rfl
      omega
    have OA := Lib.hid (fun w => (by have := popen_any 9 4 70 9223372036854775809 _ w (by decide) ⟨by decide, by decide⟩ (by decide) zq; rw [op_a] at this; exact this : Calls Try.prog 16 #[.int .u64 9, .int .i64 4, .agg #[.int .i64 70, .int .u64 9223372036854775809], .string (Digest.bs (Digest.seald 9 (pay 4 71 on).data.toList))] w (OutOp w (on, (71, 3), 0))))
    have OB := Lib.hid (fun w => (by have := popen_any 9 4 71 3 _ w (by decide) ⟨by decide, by decide⟩ (by decide) zq; rw [op_b] at this; exact this : Calls Try.prog 16 #[.int .u64 9, .int .i64 4, .agg #[.int .i64 71, .int .u64 3], .string (Digest.bs (Digest.seald 9 (pay 4 71 on).data.toList))] w (OutOp w (⟨#[]⟩, (71, 3), 18))))
    unfold OutSl at PS
    unfold OutOp at OA OB
    clear zq
    generalize Digest.bs (Digest.seald 9 (pay 4 71 on).data.toList) = q at *
    clear HN x0 x1 KA SN
    have x0 := blk_cell HG.out 0 (v := .int .i64 70) rfl
    have x1 := blk_cell HG.out 1 (v := .int .u64 9223372036854775809) rfl
    go_wp2_with fail
    refine (PS.out _).mono ?_
    rintro _ w4 ⟨rfl, hb⟩
    have G4 := Lib.hid (blk_below HG.out hb hz)
    have B4 := Lib.hid (B.out.trans (hb.mono B.out.size))
    have hz4 := Nat.lt_of_lt_of_le hz hb.size
    clear hb PS x0 x1
    have x0 := blk_cell G4.out 0 (v := .int .i64 70) rfl
    have x1 := blk_cell G4.out 1 (v := .int .u64 9223372036854775809) rfl
    go_wp2_with fail
    refine (OA.out _).mono ?_
    rintro _ w5 ⟨rfl, hb⟩
    have G5 := Lib.hid (blk_below G4.out hb hz4)
    have B5 := Lib.hid (B4.out.trans (hb.mono B4.out.size))
    have hz5 := Nat.lt_of_lt_of_le hz4 hb.size
    clear hb OA x0 x1
    go_wp2_with fail
    refine (OB.out _).mono ?_
    rintro _ w6 ⟨rfl, hb⟩
    have G6 := Lib.hid (blk_below (blk_alloc G5.out (bxW 71 3)) hb (by simp; omega))
    have H6 := Lib.hid (show w6.heap[w5.heap.size]? = some (bxW 71 3) from blk_below (blk_new w5 _) hb (by simp))
    have B6 := Lib.hid (B5.out.trans ((box_below hb).mono B5.out.size))
    clear hb OB
    have x0 := fun o => blk_cell (blk_alloc G6.out o) 0 (v := .int .i64 70) rfl
    have y0 := fun o => blk_cell (blk_alloc H6.out o) 0 (v := .int .i64 71) rfl
    have y1 := fun o => blk_cell (blk_alloc H6.out o) 1 (v := .int .u64 3) rfl
    go_wp2_with fail
    go_ret
    exact outB rfl (B6.out.alloc B6.out.size _)
end Go.Proofs.Yticlcjabhemdiaa.Rpl
