/- The laws' own functions: few, awake. -/
import Derived.Test.YtcnmknhjmflinaaRdX
set_option linter.unusedVariables false
namespace Go.Proofs.Ytcnmknhjmflinaa.Rdo
open Go.RowKit
open Tpo (fE EdAt OwnE OwnI OutN OutL ramong_any rsamen_any rsamee_any near wout sel)

/-- At most 60 edges, at most 40 elements in each other list. -/
def Few (a : Ar) : Prop := a.e.length ≤ 60 ∧ a.o.length ≤ 40 ∧ a.n.length ≤ 40
set_option maxRecDepth 100000 in
set_option maxHeartbeats 2000000 in
theorem few_any (x : Hd) (a : Ar) (w : World) : Calls Try.prog 13 #[airV x a] w fun e w' => ∃ b : Bool, e = .returned (.bool b) ∧ (b = true → Few a) ∧ Below w.heap.size w w' := by
  obtain ⟨A1, c1, A2, c2, A3, c3⟩ := x
  obtain ⟨E, O, N⟩ := a
  dsimp only [airV]
  have B1 := Lib.hid (alloc_below w (.cells #[.slice A1 E.length c1, .slice A2 O.length c2, .slice A3 N.length c3] 25))
  by_cases h1 : E.length ≤ 60
  rotate_left
  · have d1 := df (show ¬ (E.length : Int) ≤ 60 by omega)
    clear h1
    go_enter Try.func13, Try.ntmps13
    go_wp2_with fail
    go_ret
    exact ⟨false, rfl, fun q => (by cases q), B1.out⟩
  have d1 := dt (show (E.length : Int) ≤ 60 by omega)
  by_cases h2 : O.length ≤ 40
  rotate_left
  · have d2 := df (show ¬ (O.length : Int) ≤ 40 by omega)
    clear h1 h2
    go_enter Try.func13, Try.ntmps13
    go_wp2_with fail
    go_ret
    exact ⟨false, rfl, fun q => (by cases q), B1.out⟩
  have d2 := dt (show (O.length : Int) ≤ 40 by omega)
  by_cases h3 : N.length ≤ 40
  rotate_left
  · have d3 := df (show ¬ (N.length : Int) ≤ 40 by omega)
    clear h1 h2 h3
    go_enter Try.func13, Try.ntmps13
    go_wp2_with fail
    go_ret
    exact ⟨false, rfl, fun q => (by cases q), B1.out⟩
  have d3 := dt (show (N.length : Int) ≤ 40 by omega)
  have R : Few ⟨E, O, N⟩ := ⟨h1, h2, h3⟩
  have R := Lib.hid R
  clear h1 h2 h3
  go_enter Try.func13, Try.ntmps13
  go_wp2_with fail
  go_ret
  exact ⟨true, rfl, fun _ => R.out, B1.out⟩

/-! The chapter's examples. -/
abbrev ae : List Tpo.Ed := [(0, 1), (0, 2), (1, 2)]
abbrev a0 : Ar := ⟨ae, [], []⟩
theorem near_ae : near ae 0 = [1, 2] := by
  refine Tpo.asc_one _ _ (Tpo.sel_asc _) (by decide) fun v => ?_
  rw [Tpo.mem_near]
  constructor
  · rintro ⟨e, he, h1, h2⟩
    simp only [List.mem_cons, List.not_mem_nil, or_false] at he ⊢
    unfold Tpo.Sm at h2
    rcases he with rfl | rfl | rfl <;> simp only at h2 <;> omega
  · intro h
    simp only [List.mem_cons, List.not_mem_nil, or_false] at h
    rcases h with rfl | rfl
    · exact ⟨(0, 1), by simp, by decide, by decide⟩
    · exact ⟨(0, 2), by simp, by decide, by decide⟩
theorem chk_a0 : achk a0 = 0 := by decide
theorem del_all : del a0 0 255 = ([1, 2], true) := by unfold del rcv; rw [sane_ok chk_a0, near_ae]; decide
theorem del_one : del a0 0 1 = ([1], true) := by unfold del rcv; rw [sane_ok chk_a0, near_ae]; decide
theorem sel_one (x : Int) (h : Tpo.Nd x) : sel (fun v => v ∈ ([] : List Int) ∨ v ∈ [x]) = [x] := by
  refine Tpo.asc_one _ _ (Tpo.sel_asc _) (List.pairwise_singleton _ _) fun v => ?_
  rw [Tpo.mem_sel]
  simp only [List.not_mem_nil, false_or, List.mem_singleton]
  exact ⟨fun q => q.2, fun q => ⟨by rw [q]; exact h, q⟩⟩
theorem nsy_one (x : Int) (h : Tpo.Nd x) : nsy a0 [x] = [x] := by unfold nsy; rw [sel_one x h]; rfl
theorem jam_zero : jam a0 [0] = ⟨ae, [], [0]⟩ := by rw [(jam_ok chk_a0 [0]).1, nsy_one 0 (by decide)]
theorem jam_one : jam a0 [1] = ⟨ae, [], [1]⟩ := by rw [(jam_ok chk_a0 [1]).1, nsy_one 1 (by decide)]
theorem chk_j (x : Int) (h : Tpo.Nd x) : achk ⟨ae, [], [x]⟩ = 0 := achk_of (show Tpo.chk ae = 0 by decide) (fun _ q => by cases q) (fun y hy => by rw [List.mem_singleton.1 hy]; exact h) (Nat.zero_le _) (show 1 ≤ 24 by decide)
theorem del_j0 : del ⟨ae, [], [0]⟩ 0 1 = ([1], false) := by unfold del rcv; rw [sane_ok (chk_j 0 (by decide)), near_ae]; decide
theorem del_j1 : del ⟨ae, [], [1]⟩ 0 1 = ([], false) := by unfold del rcv; rw [sane_ok (chk_j 1 (by decide)), near_ae]; decide
theorem chan_a : chan [5, 3, 3] 0 5 = 0 := by decide
theorem chan_b : chan [5, 3, 3] 0 4 = 1 := by decide
theorem chk_251 : achk ⟨[], [251], []⟩ = 2 := by decide
theorem fit_a0 (n : List Int) (h : n.length ≤ 2) : Fit ⟨ae, [], n⟩ := ⟨show 3 ≤ 100000 by decide, Nat.zero_le _, by show n.length ≤ 100000; omega⟩
theorem lit_ints (w : World) (l : List Int) (cs : Array Value) (hn : l.length ≤ 10) (hc : cs.toList = l.map fun x => Value.int .i64 x) (hok : ∀ a ∈ l, I64 a) :
    SlS fI (w.alloc (.cells cs 3)) (some ⟨w.heap.size, 0, none⟩) l.length l :=
  ⟨FlAt.lit (F := fI) w l cs 3 (by unfold maxLen; omega) (by rw [hc]; clear hc hok hn; induction l with | nil => rfl | cons a l ih => simpa [fI] using ih) hok, Nat.le_refl _, fun e => by cases e⟩

/-- What is left of the examples while they run. -/
def Kp (w wi : World) : Prop := Below w.heap.size w wi ∧ w.heap.size + 2 ≤ wi.heap.size ∧ AirS wi ⟨some ⟨w.heap.size, 0, none⟩, 3, none, 0, none, 0⟩ a0 ∧ wi.heap[w.heap.size + 1]? = some (.cells #[.slice (some ⟨w.heap.size, 0, none⟩) 3 3, .slice none 0 0, .slice none 0 0] 25)
theorem Kp.next {w wi wj : World} (h : Kp w wi) (hb : Below wi.heap.size wi wj) : Kp w wj :=
  ⟨h.1.trans (hb.mono h.1.size), Nat.le_trans h.2.1 hb.size, h.2.2.1.next hb, blk_below h.2.2.2 hb (by have := h.2.1; omega)⟩
theorem lit_below {w w' : World} {o : Obj} (hb : Below (w.alloc o).heap.size (w.alloc o) w') : Below w.heap.size w w' := (alloc_below w o).trans (hb.mono (by simp))
set_option maxRecDepth 100000 in
set_option maxHeartbeats 8000000 in
theorem awake_any (w : World) : Calls Try.prog 10 #[] w (OutB w true) := by
  have KD1 := Lib.hid (fun W (h : AirS W ⟨some ⟨w.heap.size, 0, none⟩, 3, none, 0, none, 0⟩ a0) => by have := pdel_any ⟨some ⟨w.heap.size, 0, none⟩, 3, none, 0, none, 0⟩ a0 0 0 255 0 0 0 0 false ⟨#[]⟩ W (fit_a0 [] (by decide)) h; rw [del_all] at this; exact this)
  have KD2 := Lib.hid (fun W (h : AirS W ⟨some ⟨w.heap.size, 0, none⟩, 3, none, 0, none, 0⟩ a0) => by have := pdel_any ⟨some ⟨w.heap.size, 0, none⟩, 3, none, 0, none, 0⟩ a0 0 0 1 0 0 0 0 false ⟨#[]⟩ W (fit_a0 [] (by decide)) h; rw [del_one] at this; exact this)
  have KJ := Lib.hid (fun W A9 c9 L (h : AirS W ⟨some ⟨w.heap.size, 0, none⟩, 3, none, 0, none, 0⟩ a0) (hl : List.length L ≤ 100000) (hA : FlAt fI W W.heap.size A9 L) => pjam_any ⟨some ⟨w.heap.size, 0, none⟩, 3, none, 0, none, 0⟩ a0 A9 c9 L W (fit_a0 [] (by decide)) h hl hA)
  have KD3 := Lib.hid (fun W x (h : AirS W x ⟨ae, [], [0]⟩) => by have := pdel_any x ⟨ae, [], [0]⟩ 0 0 1 0 0 0 0 false ⟨#[]⟩ W (fit_a0 [0] (by decide)) h; rw [del_j0] at this; exact this)
  have KD4 := Lib.hid (fun W x (h : AirS W x ⟨ae, [], [1]⟩) => by have := pdel_any x ⟨ae, [], [1]⟩ 0 0 1 0 0 0 0 false ⟨#[]⟩ W (fit_a0 [1] (by decide)) h; rw [del_j1] at this; exact this)
  unfold DelR at KD1 KD2 KD3 KD4
  unfold AirR at KJ
  have P0 : Kp w ((w.alloc (.cells #[.int .i64 0, .int .i64 1, .int .i64 0, .int .i64 2, .int .i64 1, .int .i64 2] 49)).alloc (.cells #[.slice (some ⟨w.heap.size, 0, none⟩) 3 3, .slice none 0 0, .slice none 0 0] 25)) := by
    have b1 := alloc_below w (.cells #[.int .i64 0, .int .i64 1, .int .i64 0, .int .i64 2, .int .i64 1, .int .i64 2] 49)
    have b2 := alloc_below (w.alloc (.cells #[.int .i64 0, .int .i64 1, .int .i64 0, .int .i64 2, .int .i64 1, .int .i64 2] 49)) (.cells #[.slice (some ⟨w.heap.size, 0, none⟩) 3 3, .slice none 0 0, .slice none 0 0] 25)
    refine ⟨b1.trans (b2.mono (by simp)), by simp, ⟨⟨?_, show 3 ≤ 3 by decide, fun e => by cases e⟩, SlS.nil _, SlS.nil _⟩, ?_⟩
    · exact (FlAt.lit (F := fE) w ae #[.int .i64 0, .int .i64 1, .int .i64 0, .int .i64 2, .int .i64 1, .int .i64 2] 49 (by unfold maxLen; simp) rfl (fun a ha => by simp at ha; rcases ha with rfl | rfl | rfl <;> exact ⟨by unfold I64; decide, by unfold I64; decide⟩)).next b2
    · have := blk_new (w.alloc (.cells #[.int .i64 0, .int .i64 1, .int .i64 0, .int .i64 2, .int .i64 1, .int .i64 2] 49)) (.cells #[.slice (some ⟨w.heap.size, 0, none⟩) 3 3, .slice none 0 0, .slice none 0 0] 25)
      simpa using this
  have P0 := Lib.hid P0
  go_enter Try.func10, Try.ntmps10
  go_wp2_with fail
  refine (KD1.out _ P0.out.2.2.1).mono ?_
  rintro _ w2 ⟨A2, c2, rfl, h2, hb⟩
  have P2 := Lib.hid (P0.out.next hb)
  have S2 := Lib.hid h2
  obtain ⟨q0, q1, q2⟩ := air_block P2.out.2.2.2
  clear hb h2 P0 KD1
  go_wp2_with fail
  refine (KD2.out _ P2.out.2.2.1).mono ?_
  rintro _ w3 ⟨A3, c3, rfl, h3, hb⟩
  have P3 := Lib.hid (P2.out.next hb)
  have S3 := Lib.hid h3
  have S2 := Lib.hid (S2.out.next hb)
  clear hb h3 P2 q0 q1 q2
  have L12 := lit_ints w3 [1, 2] #[.int .i64 1, .int .i64 2] (by decide) rfl (by unfold I64; decide)
  have KS := Lib.hid (rsamen_any A2 (some ⟨w3.heap.size, 0, none⟩) c2 2 [1, 2] _ (by decide) (S2.out.next (alloc_below w3 (.cells #[.int .i64 1, .int .i64 2] 3))).1 L12.1)
  unfold OutB at KS
  clear L12
  go_wp2_with fail
  refine KS.out.mono ?_
  rintro _ w4 ⟨rfl, hb⟩
  have hb4 := lit_below hb
  have P4 := Lib.hid (P3.out.next hb4)
  have S3 := Lib.hid (S3.out.next hb4)
  clear hb hb4 KS S2 P3
  have L1 := lit_ints w4 [1] #[.int .i64 1] (by decide) rfl (by unfold I64; decide)
  have KS := Lib.hid (rsamen_any A3 (some ⟨w4.heap.size, 0, none⟩) c3 1 [1] _ (by decide) (S3.out.next (alloc_below w4 (.cells #[.int .i64 1] 3))).1 L1.1)
  unfold OutB at KS
  clear L1
  go_wp2_with fail
  refine KS.out.mono ?_
  rintro _ w5 ⟨rfl, hb⟩
  have hb5 := lit_below hb
  have P5 := Lib.hid (P4.out.next hb5)
  clear hb hb5 KS S3 P4
  obtain ⟨q0, q1, q2⟩ := air_block (blk_alloc P5.out.2.2.2 (.cells #[.int .i64 0] 3))
  have q012 := air_block P5.out.2.2.2
  obtain ⟨u0, u1, u2⟩ := q012
  have L0 := lit_ints w5 [0] #[.int .i64 0] (by decide) rfl (by unfold I64; decide)
  have KJ0 := Lib.hid (KJ.out _ _ 1 _ (P5.out.2.2.1.next (alloc_below w5 (.cells #[.int .i64 0] 3))) (by decide) L0.1)
  rw [jam_zero] at KJ0
  clear L0
  go_wp2_with fail
  refine KJ0.out.mono ?_
  rintro _ w6 ⟨⟨D1, e1, D2, e2, D3, e3⟩, rfl, h6, hb⟩
  have hb6 := lit_below hb
  have P6 := Lib.hid (P5.out.next hb6)
  have S6 := Lib.hid h6
  dsimp only [airV]
  clear hb hb6 h6 KJ0 P5 q0 q1 q2 u0 u1 u2
  have Y6 := Lib.hid (blk_new w6 (.cells #[.slice D1 3 e1, .slice D2 0 e2, .slice D3 1 e3] 25))
  have P6 := Lib.hid (P6.out.next (alloc_below w6 (.cells #[.slice D1 3 e1, .slice D2 0 e2, .slice D3 1 e3] 25)))
  have S6 := Lib.hid (S6.out.next (alloc_below w6 (.cells #[.slice D1 3 e1, .slice D2 0 e2, .slice D3 1 e3] 25)))
  have KD := Lib.hid (KD3.out _ _ S6.out)
  clear KD3
  go_wp2_with fail
  refine KD.out.mono ?_
  rintro _ w7 ⟨A7, c7, rfl, h7, hb⟩
  have P7 := Lib.hid (P6.out.next hb)
  have S7 := Lib.hid h7
  have Y7 := Lib.hid (blk_below Y6.out hb (by simp))
  have N7 := Lib.hid (S6.out.2.2.next hb)
  have z7 : w6.heap.size + 1 ≤ w7.heap.size := by have := hb.size; simpa using this
  clear hb h7 KD P6 S6 Y6
  obtain ⟨q0, q1, q2⟩ := air_block (blk_alloc P7.out.2.2.2 (.cells #[.int .i64 1] 3))
  obtain ⟨u0, u1, u2⟩ := air_block P7.out.2.2.2
  have L1 := lit_ints w7 [1] #[.int .i64 1] (by decide) rfl (by unfold I64; decide)
  have KJ1 := Lib.hid (KJ.out _ _ 1 _ (P7.out.2.2.1.next (alloc_below w7 (.cells #[.int .i64 1] 3))) (by decide) L1.1)
  rw [jam_one] at KJ1
  clear L1 KJ
  go_wp2_with fail
  refine KJ1.out.mono ?_
  rintro _ w8 ⟨⟨F1, f1, F2, f2, F3, f3⟩, rfl, h8, hb⟩
  have hb8 := lit_below hb
  have P8 := Lib.hid (P7.out.next hb8)
  have S7 := Lib.hid (S7.out.next hb8)
  have Y7 := Lib.hid (blk_below Y7.out hb8 (by omega))
  have N7 := Lib.hid (N7.out.next hb8)
  have z8 : w6.heap.size + 1 ≤ w8.heap.size := Nat.le_trans z7 hb8.size
  have KD := Lib.hid (KD4.out _ _ h8)
  dsimp only [airV]
  clear hb hb8 h8 KJ1 P7 q0 q1 q2 u0 u1 u2 KD4 z7
  go_wp2_with fail
  refine KD.out.mono ?_
  rintro _ w9 ⟨A9, c9, rfl, h9, hb⟩
  have P9 := Lib.hid (P8.out.next hb)
  have S9 := Lib.hid (S7.out.next hb)
  have Y9 := Lib.hid (blk_below Y7.out hb (by omega))
  have N9 := Lib.hid (N7.out.next hb)
  have z9 : w6.heap.size + 1 ≤ w9.heap.size := Nat.le_trans z8 hb.size
  clear hb h9 KD P8 S7 Y7 N7 z8
  have L1 := lit_ints w9 [1] #[.int .i64 1] (by decide) rfl (by unfold I64; decide)
  have KS := Lib.hid (rsamen_any A7 (some ⟨w9.heap.size, 0, none⟩) c7 1 [1] _ (by decide) (S9.out.next (alloc_below w9 (.cells #[.int .i64 1] 3))).1 L1.1)
  unfold OutB at KS
  clear L1
  go_wp2_with fail
  refine KS.out.mono ?_
  rintro _ wa ⟨rfl, hb⟩
  have hba := lit_below hb
  have Pa := Lib.hid (P9.out.next hba)
  have Ya := blk_below Y9.out hba (by omega)
  have Na := Lib.hid (N9.out.next hba)
  obtain ⟨_, _, g2⟩ := air_block Ya
  obtain ⟨_, _, g3⟩ := air_block (blk_alloc Ya (.cells #[.int .i64 0] 3))
  clear hb hba KS P9 S9 Y9 N9 z9 Ya
  have L0 := lit_ints wa [0] #[.int .i64 0] (by decide) rfl (by unfold I64; decide)
  have KS := Lib.hid (rsamen_any D3 (some ⟨wa.heap.size, 0, none⟩) e3 1 [0] _ (by decide) (Na.out.next (alloc_below wa (.cells #[.int .i64 0] 3))).1 L0.1)
  unfold OutB at KS
  clear L0
  go_wp2_with fail
  refine KS.out.mono ?_
  rintro _ wb ⟨rfl, hb⟩
  have Bb := Lib.hid (Pa.out.1.trans ((lit_below hb).mono Pa.out.1.size))
  clear hb KS Pa Na g2 g3
  have L3 := lit_ints wb [5, 3, 3] #[.int .i64 5, .int .i64 3, .int .i64 3] (by decide) rfl (by unfold I64; decide)
  have KC := Lib.hid (pchan_any _ 3 _ 0 5 _ (by decide) L3.1)
  rw [chan_a] at KC
  unfold OutI at KC
  clear L3
  go_wp2_with fail
  refine KC.out.mono ?_
  rintro _ wc ⟨rfl, hb⟩
  have Bc := Lib.hid (Bb.out.trans ((lit_below hb).mono Bb.out.size))
  clear hb KC Bb
  have L3 := lit_ints wc [5, 3, 3] #[.int .i64 5, .int .i64 3, .int .i64 3] (by decide) rfl (by unfold I64; decide)
  have KC := Lib.hid (pchan_any _ 3 _ 0 4 _ (by decide) L3.1)
  rw [chan_b] at KC
  unfold OutI at KC
  clear L3
  go_wp2_with fail
  refine KC.out.mono ?_
  rintro _ wd ⟨rfl, hb⟩
  have Bd := Lib.hid (Bc.out.trans ((lit_below hb).mono Bc.out.size))
  clear hb KC Bc
  have L5 := lit_ints wd [251] #[.int .i64 251] (by decide) rfl (by unfold I64; decide)
  have KC := Lib.hid (pcheck_any ⟨none, 0, some ⟨wd.heap.size, 0, none⟩, 1, none, 0⟩ ⟨[], [251], []⟩ (wd.alloc (.cells #[.int .i64 251] 3)) ⟨by decide, by decide, by decide⟩ ⟨SlS.nil _, L5, SlS.nil _⟩)
  rw [chk_251] at KC
  unfold OutI at KC
  dsimp only [airV] at KC
  clear L5
  go_wp2_with fail
  refine KC.out.mono ?_
  rintro _ we ⟨rfl, hb⟩
  have Be := Lib.hid (Bd.out.trans ((lit_below hb).mono Bd.out.size))
  clear hb KC Bd
  go_wp2_with fail
  go_ret
  exact outB rfl Be.out
end Go.Proofs.Ytcnmknhjmflinaa.Rdo
