/- The reference: SameNodes, SameEdges, Among, Linked, Near, Without. -/
import Derived.Test.YtcnmknhjmflinaaTA
set_option linter.unusedVariables false
namespace Go.Proofs.Ytcnmknhjmflinaa.Tpo
open Go.RowKit

set_option maxRecDepth 100000 in
set_option maxHeartbeats 2000000 in
theorem rsamen_any (A1 A2 : Option Addr) (c1 c2 : Nat) (l : List Int) (w : World) (hl : l.length ≤ 1000000) (h1 : FlAt fI w w.heap.size A1 l) (h2 : FlAt fI w w.heap.size A2 l) : Calls Try.prog 16 #[.slice A1 l.length c1, .slice A2 l.length c2] w (OutB w true) := by
  have H1 := Lib.hid h1
  have H2 := Lib.hid h2
  clear h1 h2
  go_enter Try.func16, Try.ntmps16
  go_wp2_with fail
  go_loopw [13] (fun i wr => ∃ k : Nat, i = .int .i64 k ∧ k ≤ l.length ∧ Below w.heap.size w wr) (fun i _ => l.length - (intOf i).toNat)
  case atStart => exact ⟨0, rfl, Nat.zero_le _, Below.refl _ _⟩
  case round =>
    obtain ⟨k, rfl, hk, hb⟩ := hrel
    have B := Lib.hid hb
    by_cases hlt : k < l.length
    · obtain ⟨b, p, rfl, _, g0, _⟩ := fI_cell (H1.out.below hb) k hlt
      obtain ⟨b', p', rfl, _, g1, _⟩ := fI_cell (H2.out.below hb) k hlt
      clear hb
      generalize l[k] = x0 at *
      go_wp2_with fail
      go_quiet (fail)
      go_wp2_with fail
      go_roundw
      case rel => exact ⟨k + 1, by go_num, hlt, below_drewN B.out _⟩
      case measure => simp [intOf]; omega
    · clear hb
      go_wp2_with fail
      go_ret
      exact outB rfl B.out
set_option maxRecDepth 100000 in
set_option maxHeartbeats 2000000 in
theorem rsamee_any (A1 A2 : Option Addr) (c1 c2 : Nat) (l : List Ed) (w : World) (hl : l.length ≤ 1000000) (h1 : EdAt w w.heap.size A1 l) (h2 : EdAt w w.heap.size A2 l) : Calls Try.prog 24 #[.slice A1 l.length c1, .slice A2 l.length c2] w (OutB w true) := by
  have H1 := Lib.hid h1
  have H2 := Lib.hid h2
  clear h1 h2
  go_enter Try.func24, Try.ntmps24
  go_wp2_with fail
  go_loopw [13] (fun i wr => ∃ k : Nat, i = .int .i64 k ∧ k ≤ l.length ∧ Below w.heap.size w wr) (fun i _ => l.length - (intOf i).toNat)
  case atStart => exact ⟨0, rfl, Nat.zero_le _, Below.refl _ _⟩
  case round =>
    obtain ⟨k, rfl, hk, hb⟩ := hrel
    have B := Lib.hid hb
    by_cases hlt : k < l.length
    · obtain ⟨b, p, rfl, _, g0, g1, _⟩ := ed_cell (H1.out.below hb) k hlt
      obtain ⟨b', p', rfl, _, f0, f1, _⟩ := ed_cell (H2.out.below hb) k hlt
      clear hb
      generalize l[k].1 = x0 at *
      generalize l[k].2 = x1 at *
      go_wp2_with fail
      go_quiet (fail)
      go_wp2_with fail
      go_roundw
      case rel => exact ⟨k + 1, by go_num, hlt, below_drewN B.out _⟩
      case measure => simp [intOf]; omega
    · clear hb
      go_wp2_with fail
      go_ret
      exact outB rfl B.out
set_option maxHeartbeats 1000000 in
theorem ramong_any (A : Option Addr) (c : Nat) (l : List Int) (n : Int) (w : World) (hl : l.length ≤ 9223372036854775807) (hA : FlAt fI w w.heap.size A l) :
    Calls Try.prog 28 #[.slice A l.length c, .int .i64 n] w fun e w' => e = .returned (.bool (decide (n ∈ l))) ∧ w = w' := by
  have HA := Lib.hid hA
  have FH := Lib.hid (fun (k : Nat) (h : k < l.length) (he : l[k] = n) => (show decide (n ∈ l) = true from dt (by rw [← he]; exact List.getElem_mem h)))
  have FM := Lib.hid (fun (h : ∀ j (hj : j < l.length), l[j] ≠ n) => (show decide (n ∈ l) = false from df (fun hm => by obtain ⟨j, hj, e⟩ := List.getElem_of_mem hm; exact h j hj e)))
  clear hA
  generalize decide (n ∈ l) = F at *
  go_enter Try.func28, Try.ntmps28
  go_wp2_with fail
  go_loop [8] (fun i => ∃ k : Nat, i = .int .i64 k ∧ k ≤ l.length ∧ Hid (∀ j (hj : j < l.length), j < k → l[j] ≠ n)) (fun i => l.length - (intOf i).toNat)
  case atStart => exact ⟨0, rfl, Nat.zero_le _, Lib.hid fun j hj h => by omega⟩
  case round =>
    obtain ⟨k, rfl, hk, HB⟩ := hrel
    by_cases hlt : k < l.length
    · obtain ⟨b, p, rfl, _, g0, _⟩ := fI_cell HA.out k hlt
      have FHk := Lib.hid (FH.out k hlt)
      have HN := Lib.hid (fun h : l[k] ≠ n => (show ∀ j (hj : j < l.length), j < k + 1 → l[j] ≠ n from fun j hj hjk => by
        by_cases e : j = k
        · subst e; exact h
        · exact HB.out j hj (by omega)))
      clear FH FM
      generalize l[k] = x0 at *
      by_cases he : x0 = n
      · have R := Lib.hid (FHk.out he)
        have d1 : (x0 == n) = true := by simpa using he
        clear FHk HN he
        go_wp2_with fail
        go_ret
        exact ⟨ret_bool R.out.symm, rfl⟩
      · have HB2 := Lib.hid (HN.out he)
        have d1 : (x0 == n) = false := by simpa using he
        clear FHk HN he
        go_wp2_with fail
        go_round
        case rel => exact ⟨k + 1, by go_num, hlt, HB2⟩
        case measure => simp [intOf]; omega
    · have R := Lib.hid (FM.out fun j hj => HB.out j hj (by omega))
      go_wp2_with fail
      go_ret
      exact ⟨ret_bool R.out.symm, rfl⟩

/-- Memory has grown, and orders have been drawn. -/
def Gr (w wr : World) : Prop := ∃ q os, wr = Go.Sort.grow (w.drewN q) os
theorem Gr.refl (w : World) : Gr w w := ⟨0, #[], by rw [Go.Sort.grow_empty]; rfl⟩
theorem Gr.on {w w1 w2 : World} (h : Gr w w1) (h2 : Gr w1 w2) : Gr w w2 := by
  obtain ⟨q, os, rfl⟩ := h
  obtain ⟨q', os', rfl⟩ := h2
  exact ⟨_, _, grown_more⟩
theorem Gr.drawn {w w1 : World} (h : Gr w w1) (n : Nat) : Gr w (w1.drewN n) := h.on ⟨n, #[], by rw [Go.Sort.grow_empty]⟩
theorem Gr.alloc {w w1 : World} (h : Gr w w1) (o : Obj) : Gr w (w1.alloc o) := h.on ⟨0, #[o], by rw [Go.Sort.alloc_eq_grow]; rfl⟩
theorem Gr.below {w w1 : World} (h : Gr w w1) : Below w.heap.size w w1 := by
  obtain ⟨q, os, rfl⟩ := h; exact grown_below _ _ _
theorem Gr.ret {w w1 : World} (h : Gr w w1) {a v : Value} (e : a = v) : OutG w v (.returned a) w1 := by
  obtain ⟨q, os, h⟩ := h; exact outG_same h e

theorem lk_take (l : List Ed) (k : Nat) (h : k < l.length) (a b : Int) : Lk (l.take (k + 1)) a b ↔ Lk (l.take k) a b ∨ (Vd l[k] ∧ Sm l[k] a b) := by
  rw [List.take_succ_eq_append_getElem h]
  unfold Lk
  constructor
  · rintro ⟨e, he, h2⟩
    rcases List.mem_append.1 he with he | he
    · exact Or.inl ⟨e, he, h2⟩
    · rw [List.mem_singleton.1 he] at h2; exact Or.inr h2
  · rintro (⟨e, he, h2⟩ | h2)
    · exact ⟨e, List.mem_append_left _ he, h2⟩
    · exact ⟨_, List.mem_append_right _ (List.mem_singleton.2 rfl), h2⟩
theorem lk_some (l : List Ed) (k : Nat) (h : k < l.length) (a b : Int) (h2 : Vd l[k]) (h3 : Sm l[k] a b) : Lk l a b := ⟨_, List.getElem_mem h, h2, h3⟩
theorem sm_pair (x : Ed) (a b : Int) : Sm x ((a, b) : Ed).1 ((a, b) : Ed).2 ↔ Sm x a b := Iff.rfl
set_option maxRecDepth 100000 in
set_option maxHeartbeats 2000000 in
theorem rlinked_any (A : Option Addr) (c : Nat) (l : List Ed) (a b : Int) (w : World) (hl : l.length ≤ 9223372036854775807) (hA : EdAt w w.heap.size A l) :
    Calls Try.prog 57 #[.slice A l.length c, .int .i64 a, .int .i64 b] w (OutG w (.bool (decide (Lk l a b)))) := by
  have HA := Lib.hid hA
  have FH := Lib.hid (fun (k : Nat) (h : k < l.length) (h2 : Vd l[k]) (h3 : Sm l[k] a b) => (show decide (Lk l a b) = true from dt (lk_some l k h a b h2 h3)))
  have FM := Lib.hid (fun (h : ¬ Lk (l.take l.length) a b) => (show decide (Lk l a b) = false from df (by rw [List.take_length] at h; exact h)))
  have F0 := Lib.hid (show ¬ Lk (l.take 0) a b from lk_nil a b)
  clear hA
  generalize decide (Lk l a b) = F at *
  go_enter Try.func57, Try.ntmps57
  go_wp2_with fail
  go_loopw [10] (fun i wr => ∃ k : Nat, i = .int .i64 k ∧ k ≤ l.length ∧ Hid (¬ Lk (l.take k) a b) ∧ Hid (Gr w wr)) (fun i _ => l.length - (intOf i).toNat)
  case atStart => exact ⟨0, rfl, Nat.zero_le _, F0, Lib.hid (Gr.refl w)⟩
  case round =>
    obtain ⟨k, rfl, hk, HB, G⟩ := hrel
    by_cases hlt : k < l.length
    · obtain ⟨bb, p, rfl, hbw, g0, g1, _⟩ := ed_cell (HA.out.below G.out.below) k hlt
      have FHk := Lib.hid (FH.out k hlt)
      have HN := Lib.hid (show ¬ (Vd l[k] ∧ Sm l[k] a b) → ¬ Lk (l.take (k + 1)) a b from fun h => by rw [lk_take l k hlt]; exact fun h2 => h2.elim HB.out h)
      obtain ⟨⟨x0, x1⟩, hx⟩ : ∃ x, l[k] = x := ⟨_, rfl⟩
      rw [hx] at g0 g1 FHk HN
      simp only at g0 g1
      have KV := Lib.hid (fun w => (show Calls Try.prog 52 #[.agg #[.int .i64 x0, .int .i64 x1]] w (OutG w (.bool (decide (Vd (x0, x1))))) from rvalid_any (x0, x1) w))
      have KS := Lib.hid (fun w => (show Calls Try.prog 53 #[.agg #[.int .i64 x0, .int .i64 x1], .agg #[.int .i64 a, .int .i64 b]] w (OutG w (.bool (decide (Sm (x0, x1) a b)))) from rsmlink_any (x0, x1) (a, b) w))
      unfold OutG at KV KS
      clear FH FM F0 hx
      by_cases hv : Vd (x0, x1)
      · rw [dt hv] at KV
        by_cases hs : Sm (x0, x1) a b
        · have R := Lib.hid (FHk.out hv hs)
          rw [dt hs] at KS
          clear hv hs HN FHk
          go_wp2_with fail
          refine (KV.out _).mono ?_
          rintro _ w2 ⟨rfl, q2, os2, hw2⟩
          have G2 := Lib.hid (show Gr wr w2 from ⟨q2, os2, hw2⟩)
          clear hw2
          have hz := G.out.below.size
          have g0 := (G2.out.below.cell (p := ⟨bb, p + k * 2, none⟩) (Nat.lt_of_lt_of_le hbw hz)).trans g0
          have g1 := (G2.out.below.cell (p := ⟨bb, p + k * 2 + 1, none⟩) (Nat.lt_of_lt_of_le hbw hz)).trans g1
          go_wp2_with fail
          refine (KS.out _).mono ?_
          rintro _ w3 ⟨rfl, q3, os3, hw3⟩
          have G3 := Lib.hid (show Gr w2 w3 from ⟨q3, os3, hw3⟩)
          clear hw3
          go_wp2_with fail
          go_ret
          exact ((G.out.on G2.out).on G3.out).ret (congrArg Value.bool R.out.symm)
        · have N := Lib.hid (HN.out fun h => hs h.2)
          rw [df hs] at KS
          clear hv hs HN FHk
          go_wp2_with fail
          refine (KV.out _).mono ?_
          rintro _ w2 ⟨rfl, q2, os2, hw2⟩
          have G2 := Lib.hid (show Gr wr w2 from ⟨q2, os2, hw2⟩)
          clear hw2
          have hz := G.out.below.size
          have g0 := (G2.out.below.cell (p := ⟨bb, p + k * 2, none⟩) (Nat.lt_of_lt_of_le hbw hz)).trans g0
          have g1 := (G2.out.below.cell (p := ⟨bb, p + k * 2 + 1, none⟩) (Nat.lt_of_lt_of_le hbw hz)).trans g1
          go_wp2_with fail
          refine (KS.out _).mono ?_
          rintro _ w3 ⟨rfl, q3, os3, hw3⟩
          have G3 := Lib.hid (show Gr w2 w3 from ⟨q3, os3, hw3⟩)
          clear hw3
          go_wp2_with fail
          go_roundw
          case rel => exact ⟨k + 1, by go_num, hlt, N, Lib.hid ((G.out.on G2.out).on G3.out)⟩
          case measure => simp [intOf]; omega
      · have N := Lib.hid (HN.out fun h => hv h.1)
        rw [df hv] at KV
        clear hv HN FHk
        go_wp2_with fail
        refine (KV.out _).mono ?_
        rintro _ w2 ⟨rfl, q2, os2, hw2⟩
        have G2 := Lib.hid (show Gr wr w2 from ⟨q2, os2, hw2⟩)
        clear hw2
        go_wp2_with fail
        go_roundw
        case rel => exact ⟨k + 1, by go_num, hlt, N, Lib.hid (G.out.on G2.out)⟩
        case measure => simp [intOf]; omega
    · have R := Lib.hid (FM.out (by have := HB.out; rwa [show k = l.length by omega] at this))
      clear FH FM F0
      go_wp2_with fail
      go_ret
      exact G.out.ret (congrArg Value.bool R.out.symm)

set_option maxRecDepth 100000 in
set_option maxHeartbeats 2000000 in
theorem rnear_any (A : Option Addr) (c : Nat) (l : List Ed) (n : Int) (w : World) (hl : l.length ≤ 9223372036854775807) (hA : EdAt w w.heap.size A l) :
    Calls Try.prog 38 #[.slice A l.length c, .int .i64 n] w (OutN w (near l n)) := by
  have HA := Lib.hid hA
  have KL := Lib.hid (fun k w hA => (rlinked_any A c l n k w hl hA).mono fun _ _ h => outG_V h)
  have S0 := Lib.hid (selU_zero fun v => Lk l n v)
  have SA := Lib.hid (show selU (fun v => Lk l n v) 251 = near l n from selU_all _)
  have SY := Lib.hid (fun (k : Nat) (hk : k < 251) (h : Lk l n (k : Int)) => selU_yes (P := fun v => Lk l n v) hk h)
  have SN := Lib.hid (fun (k : Nat) (hk : k < 251) (h : ¬ Lk l n (k : Int)) => selU_no (P := fun v => Lk l n v) hk h)
  have SL := Lib.hid (fun k => selU_len (fun v => Lk l n v) k)
  clear hA
  generalize near l n = F at *
  generalize selU (fun v => Lk l n v) = G at *
  go_enter Try.func38, Try.ntmps38
  go_wp2_with fail
  go_loopw [5, 6] (fun vo vk wr => ∃ (k : Nat) (A1 : Option Addr) (c1 : Nat), vk = .int .i64 k ∧ k ≤ 251 ∧ vo = .slice A1 (G k).length c1 ∧ Hid (OwnI wr w.heap.size (.slice A1 (G k).length c1) (G k)) ∧ Below w.heap.size w wr) (fun _ vk _ => 251 - (intOf vk).toNat)
  case atStart => exact ⟨0, none, 0, rfl, by omega, by rw [S0.out]; rfl, Lib.hid (by rw [S0.out]; exact OwnF.nil _ _), Below.refl _ _⟩
  case round =>
    obtain ⟨k, A1, c1, rfl, hk, rfl, O, hb⟩ := hrel
    have B := Lib.hid hb
    have hz := hb.size
    have HK := Lib.hid (HA.out.next hb)
    clear hb
    by_cases hlt : k < 251
    · have d0 : decide ((k : Int) ≤ 250) = true := dt (by omega)
      have K := Lib.hid (KL.out k wr HK.out)
      unfold OutV at K
      have LG := SL.out k
      by_cases hL : Lk l n (k : Int)
      · have N := Lib.hid (SY.out k hlt hL)
        rw [dt hL] at K
        clear hL SY SN
        go_wp2_with fail
        refine K.out.mono ?_
        rintro _ w2 ⟨rfl, hb⟩
        have B2 := Lib.hid (B.out.trans (hb.mono hz))
        have O2 := Lib.hid (O.out.below hb)
        clear hb
        obtain ⟨v6, w6, hap, ho6, hb6⟩ := app_int O2.out (k : Int) (by unfold I64; omega) (by omega) B2.out.size
        obtain ⟨A6, c6, e6, _⟩ := ho6.form
        subst e6
        have L6 := Lib.hid (show (G k ++ [(k : Int)]).length = (G (k + 1)).length by rw [N.out])
        have O6 := Lib.hid (show OwnI w6 w.heap.size (.slice A6 (G (k + 1)).length c6) (G (k + 1)) by rw [N.out]; exact ho6)
        have B6 := Lib.hid (B2.out.trans hb6)
        rw [L6.out] at hap
        clear ho6 hb6
        go_wp2_with (at_builtin; refine Lib.wpList_append_run _ rfl _ _ _ _ rfl _ _ rfl rfl _ _ hap ?_)
        go_roundw
        case rel => exact ⟨k + 1, A6, c6, by go_num, hlt, rfl, O6, B6.out⟩
        case measure => simp [intOf]; omega
      · have N := Lib.hid (SN.out k hlt hL)
        rw [df hL] at K
        clear hL SY SN
        go_wp2_with fail
        refine K.out.mono ?_
        rintro _ w2 ⟨rfl, hb⟩
        have B2 := Lib.hid (B.out.trans (hb.mono hz))
        have O2 := Lib.hid (O.out.below hb)
        clear hb
        go_wp2_with fail
        go_roundw
        case rel => exact ⟨k + 1, A1, c1, by go_num, hlt, by rw [N.out], Lib.hid (by rw [N.out]; exact O2.out), B2.out⟩
        case measure => simp [intOf]; omega
    · have d0 : decide ((k : Int) ≤ 250) = false := df (by omega)
      have hk' : k = 251 := by omega
      have FIN := Lib.hid (show OwnI wr w.heap.size (.slice A1 (G k).length c1) F by rw [← SA.out, ← hk']; exact O.out)
      clear hk'
      go_wp2_with fail
      go_ret
      exact ⟨_, rfl, FIN.out, B.out⟩
end Go.Proofs.Ytcnmknhjmflinaa.Tpo
