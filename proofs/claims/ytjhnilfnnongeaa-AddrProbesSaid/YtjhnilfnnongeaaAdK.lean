/- The chapter's examples: contract of awake. -/
import Derived.Test.YtjhnilfnnongeaaAdJ
import Derived.Test.YtjhnilfnnongeaaAdE
import Derived.Test.YtjhnilfnnongeaaAdF
set_option linter.unusedVariables false
namespace Go.Proofs.Ytjhnilfnnongeaa.Adr
open Go.RowKit

abbrev LA : List Clm := [(3, pk 3 0, 0)]
theorem la_chk : chk LA = 0 := by
  rw [chk_zero]
  refine ⟨by decide, fun c hc => ?_, by simp⟩
  obtain rfl := List.mem_singleton.1 hc
  simp
theorem la_lst : lst LA (3, pk 3 0, 0) = true := by
  rw [lst_iff]
  intro d hd _
  obtain rfl := List.mem_singleton.1 hd
  exact Int.le_refl _
theorem la_rnd : rnd LA = LA := by
  show [stp LA (3, pk 3 0, 0)] = LA
  unfold stp
  rw [if_pos la_lst]
theorem la_nch : nch LA = 0 := by
  show List.countP _ [(3, pk 3 0, 0)] = 0
  rw [List.countP_singleton, la_lst]; rfl
theorem la_rdL : rdL LA = LA := by unfold rdL; rw [if_pos la_chk, la_rnd]
theorem la_rdN : rdN LA = 0 := by unfold rdN; rw [if_pos la_chk, la_nch]; rfl
theorem la_stl : stl LA = LA := by rw [← stl_is la_chk 0 la_nch]; rfl
theorem la_cnf : cnf LA = [] := by
  unfold cnf
  rw [if_pos la_chk]
  unfold cnfN
  rw [List.filter_eq_nil_iff]
  intro a _
  have := cnt_le LA a
  simp at this ⊢
  omega
theorem la_bad : chk [(3, pk 3 0, -1)] = 2 := by
  unfold chk
  rw [if_neg (by decide), chkG_cons, if_neg (by simp), bad_t (Or.inl (by decide))]
  rfl
theorem fr_b (b : Int) : ∃ t : Nat, frs 3 [b] = some t ∧ pk 3 t ≠ b := by
  rcases frs_is 3 [b] with ⟨t, _, h1, _, h2⟩ | ⟨_, h⟩
  · exact ⟨t, h1, by simpa using h2⟩
  · have h1 := h 1 (by omega) (by omega)
    have h2 := h 2 (by omega) (by omega)
    simp at h1 h2
    omega
theorem la_ok (a t : Int) (ha : I64 a) (ht : I64 t) : ∀ c ∈ [((3, a, t) : Clm)], fC.ok c := fun c hc => by
  obtain rfl := List.mem_singleton.1 hc
  exact ⟨⟨by simp, by simp⟩, ha, ht⟩
/-- The literal stands. -/
structure Aw (w w0 : World) (a : Int) (wr : World) : Prop where
  l : wr.heap[w0.heap.size]? = some (bxC 3 a 0)
  below : Below w.heap.size w wr
theorem Aw.next {w w0 wr wt : World} {a : Int} (h : Aw w w0 a wr) (hb : Below wr.heap.size wr wt) : Aw w w0 a wt := ⟨blk_below h.l hb (blk_lt h.l), h.below.trans (hb.mono h.below.size)⟩
theorem Aw.cl {w w0 wr : World} (h : Aw w w0 (pk 3 0) wr) : ClAt wr wr.heap.size (some ⟨w0.heap.size, 0, none⟩) LA := fun i hi => by
  have hi0 : i = 0 := by simp at hi; exact hi
  subst hi0
  refine ⟨w0.heap.size, 0, rfl, blk_lt h.l, fun j u hu => ?_, ?_⟩
  · simp only [Nat.zero_mul, Nat.zero_add]
    exact blk_cell h.l j (by simpa using (show ([Value.int .u64 3, Value.int .i64 (pk 3 0), Value.int .i64 0] : List Value)[j]? = some u from hu))
  · have := pk_range 3 0
    exact ⟨⟨by show (0 : Int) ≤ 3; omega, by show (3 : Int) < 18446744073709551616; omega⟩, by show I64 (pk 3 0); unfold I64; omega, by show I64 0; unfold I64; omega⟩

set_option maxRecDepth 100000 in
set_option maxHeartbeats 4000000 in
theorem awake_any (w : World) : Calls Try.prog 10 #[] w (OutB w true) := by
  have P0 := Lib.hid (fun w => apick_any 3 0 w (by omega) (by unfold I64; omega))
  have P20 := Lib.hid (fun w => apick_any 3 20 w (by omega) (by unfold I64; omega))
  have P9 := Lib.hid (fun w => (show Calls Try.prog 13 #[.int .u64 3, .int .i64 (-9)] w (OutI w (pk 3 0)) by have := apick_any 3 (-9) w (by omega) (by unfold I64; omega); rwa [pk_neg (by omega)] at this))
  have P21 := Lib.hid (fun w => (show Calls Try.prog 13 #[.int .u64 3, .int .i64 21] w (OutI w (pk 3 20 % 250 + 1)) by have := apick_any 3 (20 + 1) w (by omega) (by unfold I64; omega); rwa [pk_next (by omega)] at this))
  have R0 := pk_range 3 0
  have R20 := pk_range 3 20
  have CL := Lib.hid (fun (w w0 wr : World) (h : Aw w w0 (pk 3 0) wr) => h.cl)
  have K1 := Lib.hid (fun (w w0 wr : World) (h : Aw w w0 (pk 3 0) wr) => (show Calls Try.prog 15 #[.slice (some ⟨w0.heap.size, 0, none⟩) 1 1] wr (fun e w' => ∃ A c, e = .returned (.tuple #[.slice A 1 c, .int .i64 0]) ∧ ClAt w' w'.heap.size A LA ∧ Below wr.heap.size wr w') by
    have := around_any (some ⟨w0.heap.size, 0, none⟩) 1 LA wr (by simp) h.cl
    unfold OutRo at this
    rw [la_rdL, la_rdN] at this
    exact this))
  have K2 := Lib.hid (fun (w w0 wr : World) (h : Aw w w0 (pk 3 0) wr) => (show Calls Try.prog 17 #[.slice (some ⟨w0.heap.size, 0, none⟩) 1 1] wr (OutI wr 0) by
    have := acheck_any (some ⟨w0.heap.size, 0, none⟩) 1 LA wr (by simp) h.cl
    rw [la_chk] at this
    exact this))
  have K3 := Lib.hid (fun (w w0 wr : World) (h : Aw w w0 (pk 3 0) wr) => (show Calls Try.prog 20 #[.slice (some ⟨w0.heap.size, 0, none⟩) 1 1] wr (fun e w' => ∃ A c, e = .returned (.slice A 0 c) ∧ Below wr.heap.size wr w') by
    have := aconf_any (some ⟨w0.heap.size, 0, none⟩) 1 LA wr (by simp) h.cl
    rw [la_cnf] at this
    exact this.mono fun e w' ⟨A, c, h1, _, _, _, h2⟩ => ⟨A, c, h1, h2⟩))
  have K4 := Lib.hid (fun (w w0 wr : World) (h : Aw w w0 (pk 3 0) wr) (A : Option Addr) (c : Nat) (hA : ClAt wr wr.heap.size A LA) => (show Calls Try.prog 22 #[.slice A 1 c, .slice (some ⟨w0.heap.size, 0, none⟩) 1 1] wr (OutB wr true) by
    have := same_any A (some ⟨w0.heap.size, 0, none⟩) c 1 LA LA wr (by simp) (by simp) hA h.cl
    rw [decide_eq_true rfl] at this
    exact this))
  have K5 := Lib.hid (fun (w w0 wr : World) (h : Aw w w0 (pk 3 0) wr) => (show Calls Try.prog 23 #[.slice (some ⟨w0.heap.size, 0, none⟩) 1 1] wr (fun e w' => ∃ A c, e = .returned (.slice A 1 c) ∧ ClAt w' w'.heap.size A LA ∧ Below wr.heap.size wr w') by
    have := asettle_any (some ⟨w0.heap.size, 0, none⟩) 1 LA wr (by simp) h.cl
    rw [la_stl] at this
    exact this.mono fun e w' ⟨A, c, h1, h2, _, _, h3⟩ => ⟨A, c, h1, h2, h3⟩))
  have K6 := Lib.hid (fun (w : World) => (show Calls Try.prog 17 #[.slice (some ⟨w.heap.size, 0, none⟩) 1 1] (w.alloc (bxC 3 (pk 3 0) (-1))) (OutI (w.alloc (bxC 3 (pk 3 0) (-1))) 2) by
    have := acheck_any (some ⟨w.heap.size, 0, none⟩) 1 [(3, pk 3 0, -1)] (w.alloc (bxC 3 (pk 3 0) (-1))) (by simp) (FlAt.lit w _ _ _ (by unfold maxLen; simp) rfl (la_ok _ _ (by have := pk_range 3 0; unfold I64; omega) (by unfold I64; omega)))
    rw [la_bad] at this
    exact this))
  have K7 := Lib.hid (fun (w : World) (o : Obj) (b : Int) (hb : I64 b) => (show Calls Try.prog 11 #[.int .u64 3, .slice (some ⟨w.heap.size + 1, 0, none⟩) 1 1] ((w.alloc o).alloc (.cells #[.int .i64 b] 3)) (fun e w' => ∃ t x : Int, e = .returned (.tuple #[.int .i64 t, .int .i64 x, .bool true]) ∧ x ≠ b ∧ Below ((w.alloc o).alloc (.cells #[.int .i64 b] 3)).heap.size ((w.alloc o).alloc (.cells #[.int .i64 b] 3)) w') by
    have := afirst_any (some ⟨w.heap.size + 1, 0, none⟩) 1 [b] 3 ((w.alloc o).alloc (.cells #[.int .i64 b] 3)) (by omega) (by simp) (by simpa using FlAt.lit (F := fI) (w.alloc o) [b] #[.int .i64 b] 3 (by unfold maxLen; simp) rfl (fun a ha => by obtain rfl := List.mem_singleton.1 ha; exact hb))
    obtain ⟨t, h1, h2⟩ := fr_b b
    exact this.mono fun e w' ⟨h3, h4⟩ => ⟨t, pk 3 t, by rw [h3, h1]; rfl, h2, h4⟩))
  generalize pk 3 0 = a at *
  generalize pk 3 20 = b at *
  go_enter Try.func10, Try.ntmps10
  go_wp2_with fail
  refine (P0.out _).mono ?_
  rintro _ w1 ⟨rfl, hb⟩
  have B1 := Lib.hid hb
  clear hb
  go_wp2_with fail
  refine (P20.out _).mono ?_
  rintro _ w2 ⟨rfl, hb⟩
  have B2 := Lib.hid (B1.out.trans (hb.mono B1.out.size))
  clear hb
  go_wp2_with fail
  refine (P9.out _).mono ?_
  rintro _ w3 ⟨rfl, hb⟩
  have B3 := Lib.hid (B2.out.trans (hb.mono B2.out.size))
  clear hb
  go_wp2_with fail
  refine (P21.out _).mono ?_
  rintro _ w4 ⟨rfl, hb⟩
  have B4 := Lib.hid (B3.out.trans (hb.mono B3.out.size))
  clear hb
  go_wp2_with fail
  have X := Lib.hid (show Aw w w4 a (w4.alloc (bxC 3 a 0)) from ⟨blk_new _ _, B4.out.alloc B4.out.size _⟩)
  refine (K7.out _ _ _ (by unfold I64; omega)).mono ?_
  rintro _ w5 ⟨t, x, rfl, hx, hb⟩
  have X := Lib.hid ((X.out.next (alloc_below _ _)).next hb)
  have n1 : (x != b) = true := by simpa using hx
  have n2 : (x == b) = false := by simpa using hx
  have n3 : decide (x = b) = false := df hx
  clear hb hx
  go_wp2_with fail
  refine (K1.out _ _ _ X.out).mono ?_
  rintro _ w6 ⟨A6, c6, rfl, hs, hb⟩
  have X := Lib.hid (X.out.next hb)
  have S := Lib.hid hs
  clear hb hs
  go_wp2_with fail
  refine (K2.out _ _ _ X.out).mono ?_
  rintro _ w7 ⟨rfl, hb⟩
  have X := Lib.hid (X.out.next hb)
  have S := Lib.hid (S.out.next hb)
  clear hb
  go_wp2_with fail
  refine (K3.out _ _ _ X.out).mono ?_
  rintro _ w8 ⟨A8, c8, rfl, hb⟩
  have X := Lib.hid (X.out.next hb)
  have S := Lib.hid (S.out.next hb)
  clear hb
  go_wp2_with fail
  refine (K4.out _ _ _ X.out _ _ S.out).mono ?_
  rintro _ w9 ⟨rfl, hb⟩
  have X := Lib.hid (X.out.next hb)
  clear hb S
  go_wp2_with fail
  refine (K5.out _ _ _ X.out).mono ?_
  rintro _ w10 ⟨A10, c10, rfl, hs, hb⟩
  have X := Lib.hid (X.out.next hb)
  have S := Lib.hid hs
  clear hb hs
  go_wp2_with fail
  refine (K4.out _ _ _ X.out _ _ S.out).mono ?_
  rintro _ w11 ⟨rfl, hb⟩
  have X := Lib.hid (X.out.next hb)
  clear hb S
  go_wp2_with fail
  refine (K6.out _).mono ?_
  rintro _ w12 ⟨rfl, hb⟩
  have X := Lib.hid ((X.out.next (alloc_below _ _)).next hb)
  clear hb
  go_wp2_with fail
  go_ret
  exact outB rfl X.out.below
end Go.Proofs.Ytjhnilfnnongeaa.Adr
