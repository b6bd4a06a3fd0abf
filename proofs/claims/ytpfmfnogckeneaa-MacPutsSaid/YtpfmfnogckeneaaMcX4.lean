/- Package mac: lastUntried, place, afterFailure. -/
import Derived.Test.YtpfmfnogckeneaaMcX1
import Derived.Test.YtpfmfnogckeneaaMcR
import Derived.Test.YtpfmfnogckeneaaIn
import Derived.WalkMore
set_option linter.unusedVariables false
namespace Go.Proofs.Ytpfmfnogckeneaa.Mcq
open Go.RowKit
open Mbx (Fm zf fmC fmV FOk fF)

theorem SdC.range {w : World} {b p : Nat} {x : Sd} (h : SdC w b p x) : w.rangeAt b p [.int .i64 x.1.k, .int .i64 x.1.f, .int .i64 x.1.t, .int .i64 x.1.s, .int .i64 x.1.g, .int .i64 x.1.q, .int .i64 x.1.h, .bool x.1.u, .string x.1.d, .int .i64 x.2.1, .int .i64 x.2.2] := fun j v hv => by
  obtain ⟨g0, g1, g2, g3, g4, g5, g6, g7, g8, g9, g10⟩ := h
  match j, hv with
  | 0, hv => simp at hv; subst hv; exact g0
  | 1, hv => simp at hv; subst hv; exact g1
  | 2, hv => simp at hv; subst hv; exact g2
  | 3, hv => simp at hv; subst hv; exact g3
  | 4, hv => simp at hv; subst hv; exact g4
  | 5, hv => simp at hv; subst hv; exact g5
  | 6, hv => simp at hv; subst hv; exact g6
  | 7, hv => simp at hv; subst hv; exact g7
  | 8, hv => simp at hv; subst hv; exact g8
  | 9, hv => simp at hv; subst hv; exact g9
  | 10, hv => simp at hv; subst hv; exact g10
  | j + 11, hv => simp at hv
theorem blk_range {w : World} {b : Nat} {cs : Array Value} {T : TypeId} (h : w.heap[b]? = some (.cells cs T (0, 0))) : w.rangeAt b 0 cs.toList := fun j v hv => blk_cell h _ (by rw [Nat.zero_add, ← Array.getElem?_toList]; exact hv)
theorem blk_there {w : World} {b : Nat} {cs : Array Value} {T : TypeId} (h : w.heap[b]? = some (.cells cs T (0, 0))) (n : Nat) (hn : n ≤ cs.size) : w.there b 0 n := fun j hj => by
  refine ⟨?_, blk_fr h _⟩
  rw [cell_of_row w b _ cs T (0, 0) h, Array.getElem?_eq_getElem (by omega)]
  rfl
abbrev zS : Obj := .cells #[.int .i64 0, .int .i64 0, .int .i64 0, .int .i64 0, .int .i64 0, .int .i64 0, .int .i64 0, .bool false, .string { data := #[] }, .int .i64 0, .int .i64 0] 42
/-- An entry that stands in a box of its own. -/
theorem boxed (w : World) (x : Sd) : ∃ V, (w.alloc zS).setCells w.heap.size 0 (#[.int .i64 x.1.k, .int .i64 x.1.f, .int .i64 x.1.t, .int .i64 x.1.s, .int .i64 x.1.g, .int .i64 x.1.q, .int .i64 x.1.h, .bool x.1.u, .string x.1.d, .int .i64 x.2.1, .int .i64 x.2.2] : Array Value).toList = V ∧ (w.alloc zS).there w.heap.size 0 11 ∧ V.heap[w.heap.size]? = some (bxS x) ∧ Below w.heap.size w V :=
  ⟨_, rfl, blk_there (blk_new w zS) 11 (by decide), setCells_blk _ 0 _ _ (blk_new w zS), below_setCells (Nat.le_refl _) _ _ _ (alloc_below w zS)⟩

set_option maxRecDepth 100000 in
set_option maxHeartbeats 2000000 in
theorem plast_any (A : Option Addr) (c : Nat) (m : List Sd) (w : World) (hl : m.length ≤ 1000000) (hA : SdS w A c m) :
    Calls Try.prog 23 #[.slice A m.length c] w (OutI w (lst m)) := by
  have HM := Lib.hid hA
  have HY := Lib.hid (fun (n : Nat) (h : n < m.length) (e : rmv m[n] = true) => lsP_yes rmv m n h e)
  have HN := Lib.hid (fun (n : Nat) (h : n < m.length) (e : rmv m[n] = false) => lsP_no rmv m n h e)
  have H0 := Lib.hid (show lsP rmv m 0 = -1 from rfl)
  have HF := Lib.hid (show lsP rmv m m.length = lst m from rfl)
  clear hA
  generalize lst m = F at *
  obtain ⟨G, hG⟩ : ∃ G : Nat → Int, ∀ n, lsP rmv m n = G n := ⟨_, fun _ => rfl⟩
  simp only [hG] at HY HN H0 HF
  clear hG
  have s0 : IntKind.i64.wrap ((m.length : Int) - 1) = (m.length : Int) - 1 := by rw [IntKind.wrap_i64]; omega
  go_enter Try.func23, Try.ntmps23
  go_wp2_with fail
  go_step3
  go_wp2_with fail
  go_step3
  go_wp2_with fail
  clear s0
  go_loopw [3] (fun va wr => ∃ n : Nat, n ≤ m.length ∧ va = .int .i64 ((n : Int) - 1) ∧ Hid (G n = F) ∧ Below w.heap.size w wr) (fun va _ => (intOf va + 1).toNat)
  case atStart => exact ⟨m.length, Nat.le_refl _, rfl, HF, Below.refl _ _⟩
  case round =>
    obtain ⟨n, hn, rfl, E, hb⟩ := hrel
    have B := Lib.hid hb
    cases n with
    | zero =>
      have e0 : ((0 : Nat) : Int) - 1 = -1 := by omega
      have R := Lib.hid (show (-1 : Int) = F from H0.out.symm.trans E.out)
      rw [e0]
      clear HY HN HM H0 HF hb
      go_wp2_with fail
      try rw [Exit.noGoto_ret]
      go_ret
      exact outI R.out B.out
    | succ k =>
      have e0 : ((k + 1 : Nat) : Int) - 1 = (k : Int) := by omega
      have s1 : IntKind.i64.wrap ((k : Int) - 1) = (k : Int) - 1 := by rw [IntKind.wrap_i64]; omega
      have i1 : (0 : Int) ≤ (k : Int) := by omega
      have hlt : k < m.length := by omega
      rw [e0]
      obtain ⟨bb, p, rfl, _, hc, _⟩ := sd_cell (HM.out.next hb).1 k hlt
      have Y := Lib.hid (fun e => (show (k : Int) = F from (HY.out k hlt e).symm.trans E.out))
      have N := Lib.hid (fun e => (show G k = F from (HN.out k hlt e).symm.trans E.out))
      clear HY HN HM HF H0 hb E e0
      obtain ⟨x, hx⟩ : ∃ x, m[k] = x := ⟨_, rfl⟩
      rw [hx] at hc Y N
      clear hx
      obtain ⟨V, hV, TH, XV, BV⟩ := boxed wr x
      have RA := Lib.hid hc.range
      have TH := Lib.hid TH
      have B1 := Lib.hid (B.out.trans (BV.mono B.out.size))
      clear hc BV
      obtain ⟨⟨x0, x1, x2, x3, x4, x5, x6, x7, x8⟩, x9, x10⟩ := x
      simp only at hV RA
      have c7 := blk_cell XV 7 (v := .bool x7) rfl
      have c9 := blk_cell XV 9 (v := .int .i64 x9) rfl
      clear XV
      have Y := Lib.hid (fun (e1 : x7 = false) (e2 : x9 ≤ 0) => Y.out (by unfold rmv; simp [e1, e2]))
      have N1 := Lib.hid (fun (e1 : x7 = true) => N.out (by unfold rmv; simp [e1]))
      have N2 := Lib.hid (fun (e1 : 0 < x9) => N.out (by unfold rmv; simp; omega))
      clear N
      cases x7 with
      | true =>
        have E := Lib.hid (N1.out rfl)
        clear Y N1 N2
        go_wp2_with (first | (refine wpList_load_mid rfl 42 _ rfl bb (p + k * 11) rfl _ _ RA.out Try.underlying42 rfl (by kernel_rfl) ?_) | (refine wpList_store_mid rfl _ _ _ rfl wr.heap.size 0 #[.int .i64 x0, .int .i64 x1, .int .i64 x2, .int .i64 x3, .int .i64 x4, .int .i64 x5, .int .i64 x6, .bool true, .string x8, .int .i64 x9, .int .i64 x10] rfl rfl TH.out (by kernel_rfl) (one_s (⟨x0, x1, x2, x3, x4, x5, x6, true, x8⟩, x9, x10)) ?_; rw [hV]) | fail)
        go_roundw
        case rel => exact ⟨k, by omega, rfl, E, B1.out⟩
        case measure => first | (simp [intOf]; done) | (simp [intOf]; omega)
      | false =>
        by_cases h9 : 0 < x9
        · have E := Lib.hid (N2.out h9)
          have d1 := dt h9
          clear Y N1 N2
          go_wp2_with (first | (refine wpList_load_mid rfl 42 _ rfl bb (p + k * 11) rfl _ _ RA.out Try.underlying42 rfl (by kernel_rfl) ?_) | (refine wpList_store_mid rfl _ _ _ rfl wr.heap.size 0 #[.int .i64 x0, .int .i64 x1, .int .i64 x2, .int .i64 x3, .int .i64 x4, .int .i64 x5, .int .i64 x6, .bool false, .string x8, .int .i64 x9, .int .i64 x10] rfl rfl TH.out (by kernel_rfl) (one_s (⟨x0, x1, x2, x3, x4, x5, x6, false, x8⟩, x9, x10)) ?_; rw [hV]) | fail)
          go_roundw
          case rel => exact ⟨k, by omega, rfl, E, B1.out⟩
          case measure => first | (simp [intOf]; done) | (simp [intOf]; omega)
        · have E := Lib.hid (Y.out rfl (by omega))
          have d1 := df h9
          clear Y N1 N2
          go_wp2_with (first | (refine wpList_load_mid rfl 42 _ rfl bb (p + k * 11) rfl _ _ RA.out Try.underlying42 rfl (by kernel_rfl) ?_) | (refine wpList_store_mid rfl _ _ _ rfl wr.heap.size 0 #[.int .i64 x0, .int .i64 x1, .int .i64 x2, .int .i64 x3, .int .i64 x4, .int .i64 x5, .int .i64 x6, .bool false, .string x8, .int .i64 x9, .int .i64 x10] rfl rfl TH.out (by kernel_rfl) (one_s (⟨x0, x1, x2, x3, x4, x5, x6, false, x8⟩, x9, x10)) ?_; rw [hV]) | fail)
          try rw [Exit.noGoto_ret]
          go_ret
          exact outI E.out B1.out

theorem ix_plc {m : List Sd} {f : Fm} : (plc m f : Int) = if f.u = true then (if ixU ord m = -1 then (m.length : Int) else ixU ord m) else m.length := by
  unfold plc
  by_cases hu : f.u = true
  · rw [if_pos hu, if_pos hu]
    rcases ixU_is ord m with ⟨h1, h2⟩ | ⟨i, hi, h1, h2, h3⟩
    · rw [if_pos h1]
      have : m.findIdx ord = m.length := List.findIdx_eq_length_of_false fun x hx => by
        obtain ⟨j, hj, rfl⟩ := List.getElem_of_mem hx
        rw [h2 j hj]
      rw [this]
    · have : m.findIdx ord = i := (List.findIdx_eq hi).2 ⟨h2, fun j hji => h3 j (by omega) hji⟩
      rw [h1, this, if_neg (by omega)]
  · rw [if_neg hu, if_neg hu]
theorem pplace1_any (x : Sd) (w : World) : Calls Try.prog 38 #[sdV x] w (OutB w (ord x)) := by
  unfold ord
  obtain ⟨⟨x0, x1, x2, x3, x4, x5, x6, x7, x8⟩, x9, x10⟩ := x
  dsimp only
  go_enter Try.func38, Try.ntmps38
  go_wp2_with fail
  go_ret
  exact outB rfl (alloc_below _ _)
abbrev bxFm (x : Fm) : Obj := .cells #[.int .i64 x.k, .int .i64 x.f, .int .i64 x.t, .int .i64 x.s, .int .i64 x.g, .int .i64 x.q, .int .i64 x.h, .bool x.u, .string x.d] 24
set_option maxRecDepth 100000 in
set_option maxHeartbeats 2000000 in
theorem pplace_any (A : Option Addr) (c : Nat) (m : List Sd) (f : Fm) (w : World) (hl : m.length ≤ 1000000) (hA : SdS w A c m) :
    Calls Try.prog 26 #[.slice A m.length c, fmV f] w (OutI w (plc m f)) := by
  have b0 := alloc_below w (bxFm f)
  have X := blk_new w (bxFm f)
  have eg : ∀ args w, (callFunc 38 args).run Try.prog w = .ok (.enter 38 args) w := enters_of Try.func38 (by kernel_rfl) rfl
  have KI := Lib.hid (pindex_any 38 #[] ord A c m _ hl (hA.next b0) eg (fun x wr _ => pplace1_any x wr))
  have hz : w.heap.size < (w.alloc (bxFm f)).heap.size := by simp
  have B0 := Lib.hid b0
  unfold OutI at KI
  rw [ix_plc]
  generalize ixU ord m = F at *
  clear hA b0 eg
  have X := Lib.hid X
  have hz := Lib.hid hz
  obtain ⟨x0, x1, x2, x3, x4, x5, x6, x7, x8⟩ := f
  simp only [bxFm] at KI X B0 hz
  dsimp only
  have W1 := Lib.hid (fun (w1 : World) (hb : Below (w.alloc (bxFm ⟨x0, x1, x2, x3, x4, x5, x6, x7, x8⟩)).heap.size (w.alloc (bxFm ⟨x0, x1, x2, x3, x4, x5, x6, x7, x8⟩)) w1) => And.intro (blk_cell (blk_below X.out hb hz.out) 7 (v := .bool x7) rfl) (B0.out.trans (hb.mono B0.out.size)))
  clear X hz B0
  simp only [bxFm] at W1
  by_cases hu : x7 = true
  · subst hu
    rw [if_pos rfl]
    by_cases hF : F = -1
    · rw [if_pos hF]
      subst hF
      go_enter Try.func26, Try.ntmps26
      go_wp2_with fail
      refine KI.out.mono ?_
      rintro _ w1 ⟨rfl, hb⟩
      obtain ⟨c7, hb1⟩ := W1.out w1 hb
      have B1 := Lib.hid hb1
      clear hb hb1 KI W1
      go_wp2_with fail
      go_ret
      exact outI rfl B1.out
    · rw [if_neg hF]
      have d1 : (F == -1) = false := beq_false_of_ne hF
      go_enter Try.func26, Try.ntmps26
      go_wp2_with fail
      refine KI.out.mono ?_
      rintro _ w1 ⟨rfl, hb⟩
      obtain ⟨c7, hb1⟩ := W1.out w1 hb
      have B1 := Lib.hid hb1
      clear hb hb1 KI W1
      go_wp2_with fail
      go_ret
      exact outI rfl B1.out
  · have hu : x7 = false := by simpa using hu
    subst hu
    rw [if_neg (by decide)]
    go_enter Try.func26, Try.ntmps26
    go_wp2_with fail
    refine KI.out.mono ?_
    rintro _ w1 ⟨rfl, hb⟩
    obtain ⟨c7, hb1⟩ := W1.out w1 hb
    have B1 := Lib.hid hb1
    clear hb hb1 KI W1
    go_wp2_with fail
    go_ret
    exact outI rfl B1.out

/-- An entry after one more failure. -/
def af (x : Sd) : Sd := (x.1, min (max x.2.1 0) 7 + 1, if x.1.u = true then 0 else min (min (max x.2.1 0) 7 + 1) 4)
set_option maxRecDepth 100000 in
set_option maxHeartbeats 4000000 in
theorem pfail_any (x : Sd) (w : World) : Calls Try.prog 29 #[sdV x] w fun e w' => e = .returned (sdV (af x)) ∧ Below w.heap.size w w' := by
  have X0 := blk_alloc (blk_new w (bxS x)) zS
  have Z0 := blk_new (w.alloc (bxS x)) zS
  have hz1 : (w.alloc (bxS x)).heap.size = w.heap.size + 1 := by simp
  have BW := Lib.hid ((alloc_below w (bxS x)).trans ((alloc_below (w.alloc (bxS x)) zS).mono (by simp)))
  rw [hz1] at Z0
  replace X0 := Lib.hid X0
  replace Z0 := Lib.hid Z0
  clear hz1
  unfold af
  obtain ⟨⟨x0, x1, x2, x3, x4, x5, x6, x7, x8⟩, x9, x10⟩ := x
  dsimp only at X0 Z0 BW ⊢
  have t0 : 0 ≤ min (max x9 0) 7 ∧ min (max x9 0) 7 ≤ 7 := by omega
  obtain ⟨T, hT⟩ : ∃ T, min (max x9 0) 7 = T := ⟨_, rfl⟩
  rw [hT] at t0 ⊢
  have s1 : IntKind.i64.wrap (T + 1) = T + 1 := by rw [IntKind.wrap_i64]; omega
  obtain ⟨y, hy⟩ : ∃ y, min (T + 1) 4 = y := ⟨_, rfl⟩
  rw [hy]
  go_enter Try.func29, Try.ntmps29
  go_upto_region 1 with fail
  obtain ⟨b0, hb0⟩ : ∃ b, b = w.heap.size := ⟨_, rfl⟩
  obtain ⟨W, hW⟩ : ∃ W, (w.alloc (.cells #[.int .i64 x0, .int .i64 x1, .int .i64 x2, .int .i64 x3, .int .i64 x4, .int .i64 x5, .int .i64 x6, .bool x7, .string x8, .int .i64 x9, .int .i64 x10] 42)).alloc (.cells #[.int .i64 0, .int .i64 0, .int .i64 0, .int .i64 0, .int .i64 0, .int .i64 0, .int .i64 0, .bool false, .string { data := #[] }, .int .i64 0, .int .i64 0] 42) = W := ⟨_, rfl⟩
  replace X0 : W.heap[b0]? = some (.cells #[.int .i64 x0, .int .i64 x1, .int .i64 x2, .int .i64 x3, .int .i64 x4, .int .i64 x5, .int .i64 x6, .bool x7, .string x8, .int .i64 x9, .int .i64 x10] 42 (0, 0)) := by rw [hb0, ← hW]; exact X0.out
  replace Z0 : W.heap[b0 + 1]? = some (.cells #[.int .i64 0, .int .i64 0, .int .i64 0, .int .i64 0, .int .i64 0, .int .i64 0, .int .i64 0, .bool false, .string { data := #[] }, .int .i64 0, .int .i64 0] 42 (0, 0)) := by rw [hb0, ← hW]; exact Z0.out
  replace BW := Lib.hid (show Below b0 w W by rw [hb0, ← hW]; exact BW.out)
  rw [hW, ← hb0]
  replace hb0 := Lib.hid hb0
  clear hW
  have i1 : 1 ≤ T + 1 := by omega
  have i2 : T + 1 ≤ 8 := by omega
  cases x7 with
  | true =>
    have X1 := blk_set X0 9 (.int .i64 (T + 1))
    have X2 := blk_set X1 10 (.int .i64 y)
    have c9 := blk_cell X0 9 (v := .int .i64 x9) rfl
    have f9 := blk_fr X0 9
    have c10 := blk_cell X0 10 (v := .int .i64 x10) rfl
    have f10 := blk_fr X0 10
    have c7 := blk_cell X0 7 (v := .bool true) rfl
    have d9 := blk_cell X1 9 (v := .int .i64 (T + 1)) rfl
    have d10 := blk_cell X1 10 (v := .int .i64 x10) rfl
    have g10 := blk_fr X1 10
    have e7 := blk_cell X2 7 (v := .bool true) rfl
    have h10 := blk_cell X2 10 (v := .int .i64 y) rfl
    have k10 := blk_fr X2 10
    have X3 := blk_set X2 10 (.int .i64 0)
    have Z3 := blk_other (blk_other (blk_other Z0 (show b0 + 1 ≠ b0 by omega) (.int .i64 (T + 1)) (a := ⟨b0, 9, none⟩)) (show b0 + 1 ≠ b0 by omega) (.int .i64 y) (a := ⟨b0, 10, none⟩)) (show b0 + 1 ≠ b0 by omega) (.int .i64 0) (a := ⟨b0, 10, none⟩)
    have B3 := ((BW.out.setCell (Nat.le_refl _) (.int .i64 (T + 1)) (p := ⟨b0, 9, none⟩)).setCell (Nat.le_refl _) (.int .i64 y) (p := ⟨b0, 10, none⟩)).setCell (Nat.le_refl _) (.int .i64 0) (p := ⟨b0, 10, none⟩)
    have RA := Lib.hid (show (((W.setCell ⟨b0, 9, none⟩ (.int .i64 (T + 1))).setCell ⟨b0, 10, none⟩ (.int .i64 y)).setCell ⟨b0, 10, none⟩ (.int .i64 0)).rangeAt b0 0 [.int .i64 x0, .int .i64 x1, .int .i64 x2, .int .i64 x3, .int .i64 x4, .int .i64 x5, .int .i64 x6, .bool true, .string x8, .int .i64 (T + 1), .int .i64 0] from blk_range X3)
    have TH := Lib.hid (show (((W.setCell ⟨b0, 9, none⟩ (.int .i64 (T + 1))).setCell ⟨b0, 10, none⟩ (.int .i64 y)).setCell ⟨b0, 10, none⟩ (.int .i64 0)).there (b0 + 1) 0 11 from blk_there Z3 11 (by decide))
    obtain ⟨V, hV⟩ : ∃ V, (((W.setCell ⟨b0, 9, none⟩ (.int .i64 (T + 1))).setCell ⟨b0, 10, none⟩ (.int .i64 y)).setCell ⟨b0, 10, none⟩ (.int .i64 0)).setCells (b0 + 1) 0 (#[.int .i64 x0, .int .i64 x1, .int .i64 x2, .int .i64 x3, .int .i64 x4, .int .i64 x5, .int .i64 x6, .bool true, .string x8, .int .i64 (T + 1), .int .i64 0] : Array Value).toList = V := ⟨_, rfl⟩
    have RV := Lib.hid (show V.heap[b0 + 1]? = some (.cells #[.int .i64 x0, .int .i64 x1, .int .i64 x2, .int .i64 x3, .int .i64 x4, .int .i64 x5, .int .i64 x6, .bool true, .string x8, .int .i64 (T + 1), .int .i64 0] 42 (0, 0)) by rw [← hV]; exact setCells_blk _ 0 _ _ Z3)
    have BV := Lib.hid (show Below b0 w V by rw [← hV]; exact below_setCells (Nat.le_succ _) _ _ _ B3)
    clear X0 X1 X2 X3 Z0 Z3 B3 BW
    go_upto_region 5 with fail
    clear c9 f9 c10 f10 c7 d9 d10 g10 e7 h10 k10
    obtain ⟨W5, hW5⟩ : ∃ W5, (((W.setCell ⟨b0, 9, none⟩ (.int .i64 (T + 1))).setCell ⟨b0, 10, none⟩ (.int .i64 y)).setCell ⟨b0, 10, none⟩ (.int .i64 0)) = W5 := ⟨_, rfl⟩
    rw [hW5] at RA TH hV ⊢
    clear hW5
    go_wp2_with (first | (refine wpList_load_mid rfl 42 _ rfl b0 0 rfl _ _ RA.out Try.underlying42 rfl (by kernel_rfl) ?_) | (refine wpList_store_mid rfl _ _ _ rfl (b0 + 1) 0 #[.int .i64 x0, .int .i64 x1, .int .i64 x2, .int .i64 x3, .int .i64 x4, .int .i64 x5, .int .i64 x6, .bool true, .string x8, .int .i64 (T + 1), .int .i64 0] rfl rfl TH.out (by kernel_rfl) (one_s (⟨x0, x1, x2, x3, x4, x5, x6, true, x8⟩, T + 1, 0)) ?_; rw [hV]) | fail)
    have r0 := blk_cell RV.out 0 (v := .int .i64 x0) rfl
    have r1 := blk_cell RV.out 1 (v := .int .i64 x1) rfl
    have r2 := blk_cell RV.out 2 (v := .int .i64 x2) rfl
    have r3 := blk_cell RV.out 3 (v := .int .i64 x3) rfl
    have r4 := blk_cell RV.out 4 (v := .int .i64 x4) rfl
    have r5 := blk_cell RV.out 5 (v := .int .i64 x5) rfl
    have r6 := blk_cell RV.out 6 (v := .int .i64 x6) rfl
    have r7 := blk_cell RV.out 7 (v := .bool true) rfl
    have r8 := blk_cell RV.out 8 (v := .string x8) rfl
    have r9 := blk_cell RV.out 9 (v := .int .i64 (T + 1)) rfl
    have r10 := blk_cell RV.out 10 (v := .int .i64 0) rfl
    refine bodyPost_ret (v := .agg #[.int .i64 x0, .int .i64 x1, .int .i64 x2, .int .i64 x3, .int .i64 x4, .int .i64 x5, .int .i64 x6, .bool true, .string x8, .int .i64 (T + 1), .int .i64 0]) (by simp [results, Try.results29, go_sem, r0, r1, r2, r3, r4, r5, r6, r7, r8, r9, r10]) rfl ⟨?_, ?_⟩
    · first | rfl | simp
    · rw [← hb0.out]; exact BV.out
  | false =>
    have X1 := blk_set X0 9 (.int .i64 (T + 1))
    have X2 := blk_set X1 10 (.int .i64 y)
    have c9 := blk_cell X0 9 (v := .int .i64 x9) rfl
    have f9 := blk_fr X0 9
    have c10 := blk_cell X0 10 (v := .int .i64 x10) rfl
    have f10 := blk_fr X0 10
    have c7 := blk_cell X0 7 (v := .bool false) rfl
    have d9 := blk_cell X1 9 (v := .int .i64 (T + 1)) rfl
    have d10 := blk_cell X1 10 (v := .int .i64 x10) rfl
    have g10 := blk_fr X1 10
    have e7 := blk_cell X2 7 (v := .bool false) rfl
    have Z3 := blk_other (blk_other Z0 (show b0 + 1 ≠ b0 by omega) (.int .i64 (T + 1)) (a := ⟨b0, 9, none⟩)) (show b0 + 1 ≠ b0 by omega) (.int .i64 y) (a := ⟨b0, 10, none⟩)
    have X3 := X2
    have B3 := (BW.out.setCell (Nat.le_refl _) (.int .i64 (T + 1)) (p := ⟨b0, 9, none⟩)).setCell (Nat.le_refl _) (.int .i64 y) (p := ⟨b0, 10, none⟩)
    have RA := Lib.hid (show ((W.setCell ⟨b0, 9, none⟩ (.int .i64 (T + 1))).setCell ⟨b0, 10, none⟩ (.int .i64 y)).rangeAt b0 0 [.int .i64 x0, .int .i64 x1, .int .i64 x2, .int .i64 x3, .int .i64 x4, .int .i64 x5, .int .i64 x6, .bool false, .string x8, .int .i64 (T + 1), .int .i64 y] from blk_range X3)
    have TH := Lib.hid (show ((W.setCell ⟨b0, 9, none⟩ (.int .i64 (T + 1))).setCell ⟨b0, 10, none⟩ (.int .i64 y)).there (b0 + 1) 0 11 from blk_there Z3 11 (by decide))
    obtain ⟨V, hV⟩ : ∃ V, ((W.setCell ⟨b0, 9, none⟩ (.int .i64 (T + 1))).setCell ⟨b0, 10, none⟩ (.int .i64 y)).setCells (b0 + 1) 0 (#[.int .i64 x0, .int .i64 x1, .int .i64 x2, .int .i64 x3, .int .i64 x4, .int .i64 x5, .int .i64 x6, .bool false, .string x8, .int .i64 (T + 1), .int .i64 y] : Array Value).toList = V := ⟨_, rfl⟩
    have RV := Lib.hid (show V.heap[b0 + 1]? = some (.cells #[.int .i64 x0, .int .i64 x1, .int .i64 x2, .int .i64 x3, .int .i64 x4, .int .i64 x5, .int .i64 x6, .bool false, .string x8, .int .i64 (T + 1), .int .i64 y] 42 (0, 0)) by rw [← hV]; exact setCells_blk _ 0 _ _ Z3)
    have BV := Lib.hid (show Below b0 w V by rw [← hV]; exact below_setCells (Nat.le_succ _) _ _ _ B3)
    clear X0 X1 X2 X3 Z0 Z3 B3 BW
    go_upto_region 5 with fail
    clear c9 f9 c10 f10 c7 d9 d10 g10 e7
    obtain ⟨W5, hW5⟩ : ∃ W5, ((W.setCell ⟨b0, 9, none⟩ (.int .i64 (T + 1))).setCell ⟨b0, 10, none⟩ (.int .i64 y)) = W5 := ⟨_, rfl⟩
    rw [hW5] at RA TH hV ⊢
    clear hW5
    go_wp2_with (first | (refine wpList_load_mid rfl 42 _ rfl b0 0 rfl _ _ RA.out Try.underlying42 rfl (by kernel_rfl) ?_) | (refine wpList_store_mid rfl _ _ _ rfl (b0 + 1) 0 #[.int .i64 x0, .int .i64 x1, .int .i64 x2, .int .i64 x3, .int .i64 x4, .int .i64 x5, .int .i64 x6, .bool false, .string x8, .int .i64 (T + 1), .int .i64 y] rfl rfl TH.out (by kernel_rfl) (one_s (⟨x0, x1, x2, x3, x4, x5, x6, false, x8⟩, T + 1, y)) ?_; rw [hV]) | fail)
    have r0 := blk_cell RV.out 0 (v := .int .i64 x0) rfl
    have r1 := blk_cell RV.out 1 (v := .int .i64 x1) rfl
    have r2 := blk_cell RV.out 2 (v := .int .i64 x2) rfl
    have r3 := blk_cell RV.out 3 (v := .int .i64 x3) rfl
    have r4 := blk_cell RV.out 4 (v := .int .i64 x4) rfl
    have r5 := blk_cell RV.out 5 (v := .int .i64 x5) rfl
    have r6 := blk_cell RV.out 6 (v := .int .i64 x6) rfl
    have r7 := blk_cell RV.out 7 (v := .bool false) rfl
    have r8 := blk_cell RV.out 8 (v := .string x8) rfl
    have r9 := blk_cell RV.out 9 (v := .int .i64 (T + 1)) rfl
    have r10 := blk_cell RV.out 10 (v := .int .i64 y) rfl
    refine bodyPost_ret (v := .agg #[.int .i64 x0, .int .i64 x1, .int .i64 x2, .int .i64 x3, .int .i64 x4, .int .i64 x5, .int .i64 x6, .bool false, .string x8, .int .i64 (T + 1), .int .i64 y]) (by simp [results, Try.results29, go_sem, r0, r1, r2, r3, r4, r5, r6, r7, r8, r9, r10]) rfl ⟨?_, ?_⟩
    · first | rfl | simp
    · rw [← hb0.out]; exact BV.out
end Go.Proofs.Ytpfmfnogckeneaa.Mcq
