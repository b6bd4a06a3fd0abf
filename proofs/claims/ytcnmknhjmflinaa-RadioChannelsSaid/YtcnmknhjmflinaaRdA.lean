/- The medium in memory; the reference's Nodes, Check, Sane, Hears, SameAir. -/
import Derived.Test.YtcnmknhjmflinaaRdPlain
import Derived.Test.YtcnmknhjmflinaaTG
import Derived.Test.YtcnmknhjmflinaaAf
set_option linter.unusedVariables false
namespace Go.Proofs.Ytcnmknhjmflinaa.Rdo
open Go.RowKit
open Tpo (fE EdAt OwnE OwnI OutN OutL rnode_any ramong_any rsamen_any rsamee_any rnear_any)

/-- A medium as it lies: three slices. -/
structure Hd where
  A1 : Option Addr
  c1 : Nat
  A2 : Option Addr
  c2 : Nat
  A3 : Option Addr
  c3 : Nat
abbrev airV (x : Hd) (a : Ar) : Value := .agg #[.slice x.A1 a.e.length x.c1, .slice x.A2 a.o.length x.c2, .slice x.A3 a.n.length x.c3]
abbrev airO (x : Hd) (a : Ar) : Obj := .cells #[.slice x.A1 a.e.length x.c1, .slice x.A2 a.o.length x.c2, .slice x.A3 a.n.length x.c3] 25
def AirS (w : World) (x : Hd) (a : Ar) : Prop := SlS fE w x.A1 x.c1 a.e ∧ SlS fI w x.A2 x.c2 a.o ∧ SlS fI w x.A3 x.c3 a.n
theorem AirS.next {w w' : World} {x : Hd} {a : Ar} (h : AirS w x a) (hb : Below w.heap.size w w') : AirS w' x a := ⟨h.1.next hb, h.2.1.next hb, h.2.2.next hb⟩
def hd0 : Hd := ⟨none, 0, none, 0, none, 0⟩
theorem airS_nil (w : World) : AirS w hd0 ar0 := ⟨SlS.nil w, SlS.nil w, SlS.nil w⟩
/-- Lists that a program can count. -/
def Fit (a : Ar) : Prop := a.e.length ≤ 100000 ∧ a.o.length ≤ 100000 ∧ a.n.length ≤ 100000
theorem sane_fit {a : Ar} (h : Fit a) : Fit (sane a) := by
  obtain ⟨h1, h2, h3⟩ := sane_len a
  exact ⟨Nat.le_trans h1 h.1, Nat.le_trans h2 h.2.1, Nat.le_trans h3 h.2.2⟩
/-- A medium is handed back. -/
def AirR (w : World) (a : Ar) (e : Ending) (w' : World) : Prop := ∃ y, e = .returned (airV y a) ∧ AirS w' y a ∧ Below w.heap.size w w'
/-- What Sane hands back: the same three slices, or none. -/
def saneH (x : Hd) (a : Ar) : Hd := if achk a ≠ 0 then hd0 else x
theorem saneH_ok {x : Hd} {a : Ar} (h : achk a = 0) : saneH x a = x := if_neg (by simpa using h)
theorem saneH_no {x : Hd} {a : Ar} (h : achk a ≠ 0) : saneH x a = hd0 := if_pos h
theorem AirS.sane {w : World} {x : Hd} {a : Ar} (h : AirS w x a) : AirS w (saneH x a) (sane a) := by
  by_cases c : achk a = 0
  · rw [saneH_ok c, sane_ok c]; exact h
  · rw [saneH_no c, sane_no c]; exact airS_nil w
def SaneR (w : World) (x : Hd) (a : Ar) (e : Ending) (w' : World) : Prop := e = .returned (airV (saneH x a) (sane a)) ∧ Below w.heap.size w w'
def put3 (w : World) (b : Nat) (u0 u1 u2 : Value) : World := ((w.setCell ⟨b, 0, none⟩ u0).setCell ⟨b, 1, none⟩ u1).setCell ⟨b, 2, none⟩ u2
theorem put3_blk {w : World} {b : Nat} {T : TypeId} {v0 v1 v2 : Value} (h : w.heap[b]? = some (.cells #[v0, v1, v2] T (0, 0))) (u0 u1 u2 : Value) : (put3 w b u0 u1 u2).heap[b]? = some (.cells #[u0, u1, u2] T (0, 0)) := blk_set (blk_set (blk_set h 0 u0) 1 u1) 2 u2
theorem put3_other {w : World} {b j : Nat} {o : Option Obj} (h : w.heap[j]? = o) (hne : j ≠ b) (u0 u1 u2 : Value) : (put3 w b u0 u1 u2).heap[j]? = o := blk_other (blk_other (blk_other h hne u0) hne u1) hne u2
theorem put3_below {B : Nat} {w0 w : World} (h : Below B w0 w) {b : Nat} (hb : B ≤ b) (u0 u1 u2 : Value) : Below B w0 (put3 w b u0 u1 u2) := ((h.setCell hb _).setCell hb _).setCell hb _
theorem put3_size (w : World) (b : Nat) (u0 u1 u2 : Value) : (put3 w b u0 u1 u2).heap.size = w.heap.size := by unfold put3; simp
/-- The three cells of a medium's block. -/
theorem air_block {w : World} {b : Nat} {T : TypeId} {v0 v1 v2 : Value} (h : w.heap[b]? = some (.cells #[v0, v1, v2] T (0, 0))) : w.cell? ⟨b, 0, none⟩ = some v0 ∧ w.cell? ⟨b, 1, none⟩ = some v1 ∧ w.cell? ⟨b, 2, none⟩ = some v2 := ⟨blk_cell h 0 rfl, blk_cell h 1 rfl, blk_cell h 2 rfl⟩

set_option maxRecDepth 100000 in
set_option maxHeartbeats 1000000 in
theorem rnodes_any (A : Option Addr) (c : Nat) (l : List Int) (w : World) (hl : l.length ≤ 1000000) (hA : FlAt fI w w.heap.size A l) :
    Calls Try.prog 33 #[.slice A l.length c] w fun e w' => e = .returned (.bool (decide (AllN l))) ∧ w = w' := by
  have HA := Lib.hid hA
  have FH := Lib.hid (fun (k : Nat) (h : k < l.length) (hn : ¬ Tpo.Nd l[k]) => (show decide (AllN l) = false from df (fun g => hn (g _ (List.getElem_mem h)))))
  have FM := Lib.hid (fun (h : ∀ j (hj : j < l.length), Tpo.Nd l[j]) => (show decide (AllN l) = true from dt (fun x hx => by obtain ⟨j, hj, rfl⟩ := List.getElem_of_mem hx; exact h j hj)))
  clear hA
  generalize decide (AllN l) = F at *
  go_enter Try.func33, Try.ntmps33
  go_wp2_with fail
  go_loop [6] (fun i => ∃ k : Nat, i = .int .i64 k ∧ k ≤ l.length ∧ Hid (∀ j (hj : j < l.length), j < k → Tpo.Nd l[j])) (fun i => l.length - (intOf i).toNat)
  case atStart => exact ⟨0, rfl, Nat.zero_le _, Lib.hid fun j hj h => by omega⟩
  case round =>
    obtain ⟨k, rfl, hk, HB⟩ := hrel
    by_cases hlt : k < l.length
    · obtain ⟨b, p, rfl, _, g0, _⟩ := fI_cell HA.out k hlt
      have FHk := Lib.hid (FH.out k hlt)
      have HN := Lib.hid (fun h : Tpo.Nd l[k] => (show ∀ j (hj : j < l.length), j < k + 1 → Tpo.Nd l[j] from fun j hj hjk => by
        by_cases e : j = k
        · subst e; exact h
        · exact HB.out j hj (by omega)))
      clear FH FM
      generalize l[k] = x0 at *
      have KN := Lib.hid (fun w => rnode_any x0 w)
      by_cases he : Tpo.Nd x0
      · have HB2 := Lib.hid (HN.out he)
        rw [dt he] at KN
        clear FHk HN he
        go_wp2_with fail
        refine (KN.out _).mono ?_
        rintro _ _ ⟨rfl, rfl⟩
        go_wp2_with fail
        go_round
        case rel => exact ⟨k + 1, by go_num, hlt, HB2⟩
        case measure => simp [intOf]; omega
      · have R := Lib.hid (FHk.out he)
        rw [df he] at KN
        clear FHk HN he
        go_wp2_with fail
        refine (KN.out _).mono ?_
        rintro _ _ ⟨rfl, rfl⟩
        go_wp2_with fail
        go_ret
        exact ⟨ret_bool R.out.symm, rfl⟩
    · have R := Lib.hid (FM.out fun j hj => HB.out j hj (by omega))
      go_wp2_with fail
      go_ret
      exact ⟨ret_bool R.out.symm, rfl⟩
set_option maxRecDepth 100000 in
set_option maxHeartbeats 2000000 in
theorem rcheck_any (x : Hd) (a : Ar) (w : World) (hl : Fit a) (h : AirS w x a) : Calls Try.prog 12 #[airV x a] w (OutI w (achk a)) := by
  obtain ⟨A1, c1, A2, c2, A3, c3⟩ := x
  obtain ⟨E, O, N⟩ := a
  have HA := Lib.hid h
  obtain ⟨l1, l2, l3⟩ := hl
  simp only at l1 l2 l3
  clear h
  dsimp only [airV]
  have KC := Lib.hid (fun w (h : AirS w ⟨A1, c1, A2, c2, A3, c3⟩ ⟨E, O, N⟩) => Tpo.rcheck_any A1 c1 E w (by omega) h.1.1)
  have K2 := Lib.hid (fun w (h : AirS w ⟨A1, c1, A2, c2, A3, c3⟩ ⟨E, O, N⟩) => rnodes_any A2 c2 O w (by omega) h.2.1.1)
  have K3 := Lib.hid (fun w (h : AirS w ⟨A1, c1, A2, c2, A3, c3⟩ ⟨E, O, N⟩) => rnodes_any A3 c3 N w (by omega) h.2.2.1)
  unfold OutI at KC
  have HB := Lib.hid (HA.out.next (alloc_below w (.cells #[.slice A1 E.length c1, .slice A2 O.length c2, .slice A3 N.length c3] 25)))
  by_cases h1 : Tpo.chk E = 0
  rotate_left
  · have R := Lib.hid (show achk ⟨E, O, N⟩ = Tpo.chk E from if_pos h1)
    have d1 : (Tpo.chk E != 0) = true := by simpa using h1
    clear K2 K3 h1
    generalize Tpo.chk E = r at *
    go_enter Try.func12, Try.ntmps12
    go_wp2_with fail
    refine (KC.out _ HB.out).mono ?_
    rintro _ w2 ⟨rfl, hb⟩
    have g0 := box_at hb 0 rfl
    have B2 := Lib.hid (box_below hb)
    clear hb
    go_wp2_with fail
    go_ret
    exact outI R.out.symm B2.out
  rw [h1] at KC
  by_cases h2 : AllN O
  rotate_left
  · have R := Lib.hid (show achk ⟨E, O, N⟩ = 2 from by unfold achk; rw [if_neg (by simpa using h1), if_pos (fun q => h2 q.1)])
    rw [df h2] at K2
    clear K3 h1 h2
    go_enter Try.func12, Try.ntmps12
    go_wp2_with fail
    refine (KC.out _ HB.out).mono ?_
    rintro _ w2 ⟨rfl, hb⟩
    have g0 := box_at hb 1 rfl
    have B2 := Lib.hid (box_below hb)
    have H2 := Lib.hid (HB.out.next hb)
    clear hb
    go_wp2_with fail
    refine (K2.out _ H2.out).mono ?_
    rintro _ _ ⟨rfl, rfl⟩
    go_wp2_with fail
    go_ret
    exact outI R.out.symm B2.out
  rw [dt h2] at K2
  have tail : ∀ (b3 : Bool) (n : Int), decide (AllN N) = b3 → achk ⟨E, O, N⟩ = n → (b3 = false ∧ n = 2 ∨ b3 = true ∧ (24 < O.length ∧ n = 3 ∨ ¬ 24 < O.length ∧ (24 < N.length ∧ n = 3 ∨ ¬ 24 < N.length ∧ n = 0))) → Calls Try.prog 12 #[.agg #[.slice A1 E.length c1, .slice A2 O.length c2, .slice A3 N.length c3]] w (OutI w (achk ⟨E, O, N⟩)) := by
    intro b3 n hb3 hn hw
    rw [hb3] at K3
    rw [hn]
    clear h1 h2 hb3 hn
    rcases hw with ⟨rfl, rfl⟩ | ⟨rfl, hw⟩
    · go_enter Try.func12, Try.ntmps12
      go_wp2_with fail
      refine (KC.out _ HB.out).mono ?_
      rintro _ w2 ⟨rfl, hb⟩
      have g0 := box_at hb 1 rfl
      have g1 := box_at hb 2 rfl
      have B2 := Lib.hid (box_below hb)
      have H2 := Lib.hid (HB.out.next hb)
      clear hb
      go_wp2_with fail
      refine (K2.out _ H2.out).mono ?_
      rintro _ _ ⟨rfl, rfl⟩
      go_wp2_with fail
      refine (K3.out _ H2.out).mono ?_
      rintro _ _ ⟨rfl, rfl⟩
      go_wp2_with fail
      go_ret
      exact outI rfl B2.out
    · rcases hw with ⟨q1, rfl⟩ | ⟨q1, ⟨q2, rfl⟩ | ⟨q2, rfl⟩⟩
      · have d1 := dt (show (24 : Int) < (O.length : Int) by omega)
        clear q1
        go_enter Try.func12, Try.ntmps12
        go_wp2_with fail
        refine (KC.out _ HB.out).mono ?_
        rintro _ w2 ⟨rfl, hb⟩
        have g0 := box_at hb 1 rfl
        have g1 := box_at hb 2 rfl
        have B2 := Lib.hid (box_below hb)
        have H2 := Lib.hid (HB.out.next hb)
        clear hb
        go_wp2_with fail
        refine (K2.out _ H2.out).mono ?_
        rintro _ _ ⟨rfl, rfl⟩
        go_wp2_with fail
        refine (K3.out _ H2.out).mono ?_
        rintro _ _ ⟨rfl, rfl⟩
        go_wp2_with fail
        go_ret
        exact outI rfl B2.out
      · have d1 := df (show ¬ (24 : Int) < (O.length : Int) by omega)
        have d2 := dt (show (24 : Int) < (N.length : Int) by omega)
        clear q1 q2
        go_enter Try.func12, Try.ntmps12
        go_wp2_with fail
        refine (KC.out _ HB.out).mono ?_
        rintro _ w2 ⟨rfl, hb⟩
        have g0 := box_at hb 1 rfl
        have g1 := box_at hb 2 rfl
        have B2 := Lib.hid (box_below hb)
        have H2 := Lib.hid (HB.out.next hb)
        clear hb
        go_wp2_with fail
        refine (K2.out _ H2.out).mono ?_
        rintro _ _ ⟨rfl, rfl⟩
        go_wp2_with fail
        refine (K3.out _ H2.out).mono ?_
        rintro _ _ ⟨rfl, rfl⟩
        go_wp2_with fail
        go_ret
        exact outI rfl B2.out
      · have d1 := df (show ¬ (24 : Int) < (O.length : Int) by omega)
        have d2 := df (show ¬ (24 : Int) < (N.length : Int) by omega)
        clear q1 q2
        go_enter Try.func12, Try.ntmps12
        go_wp2_with fail
        refine (KC.out _ HB.out).mono ?_
        rintro _ w2 ⟨rfl, hb⟩
        have g0 := box_at hb 1 rfl
        have g1 := box_at hb 2 rfl
        have B2 := Lib.hid (box_below hb)
        have H2 := Lib.hid (HB.out.next hb)
        clear hb
        go_wp2_with fail
        refine (K2.out _ H2.out).mono ?_
        rintro _ _ ⟨rfl, rfl⟩
        go_wp2_with fail
        refine (K3.out _ H2.out).mono ?_
        rintro _ _ ⟨rfl, rfl⟩
        go_wp2_with fail
        go_ret
        exact outI rfl B2.out
  have e0 : achk ⟨E, O, N⟩ = if ¬ AllN N then 2 else if 24 < O.length ∨ 24 < N.length then 3 else 0 := by
    unfold achk
    rw [if_neg (by simpa using h1)]
    simp [h2]
  by_cases h3 : AllN N
  · rw [if_neg (by simpa using h3)] at e0
    by_cases q1 : 24 < O.length
    · exact tail true 3 (dt h3) (by rw [e0, if_pos (Or.inl q1)]) (Or.inr ⟨rfl, Or.inl ⟨q1, rfl⟩⟩)
    · by_cases q2 : 24 < N.length
      · exact tail true 3 (dt h3) (by rw [e0, if_pos (Or.inr q2)]) (Or.inr ⟨rfl, Or.inr ⟨q1, Or.inl ⟨q2, rfl⟩⟩⟩)
      · exact tail true 0 (dt h3) (by rw [e0, if_neg (by omega)]) (Or.inr ⟨rfl, Or.inr ⟨q1, Or.inr ⟨q2, rfl⟩⟩⟩)
  · exact tail false 2 (df h3) (by rw [e0, if_pos h3]) (Or.inl ⟨rfl, rfl⟩)
set_option maxRecDepth 100000 in
set_option maxHeartbeats 2000000 in
theorem rsane_any (x : Hd) (a : Ar) (w : World) (hl : Fit a) (h : AirS w x a) : Calls Try.prog 37 #[airV x a] w (SaneR w x a) := by
  unfold SaneR
  have KC := Lib.hid (fun w (h : AirS w x a) => rcheck_any x a w hl h)
  unfold OutI at KC
  by_cases hc : achk a = 0
  · rw [sane_ok hc, saneH_ok hc]
    rw [hc] at KC
    clear hc hl
    obtain ⟨A1, c1, A2, c2, A3, c3⟩ := x
    obtain ⟨E, O, N⟩ := a
    dsimp only [airV] at KC ⊢
    have b0 : Below w.heap.size w ((w.alloc (.cells #[.slice A1 E.length c1, .slice A2 O.length c2, .slice A3 N.length c3] 25)).alloc (.cells #[.slice none 0 0, .slice none 0 0, .slice none 0 0] 25)) := (alloc_below w (.cells #[.slice A1 E.length c1, .slice A2 O.length c2, .slice A3 N.length c3] 25)).trans ((alloc_below (w.alloc (.cells #[.slice A1 E.length c1, .slice A2 O.length c2, .slice A3 N.length c3] 25)) (.cells #[.slice none 0 0, .slice none 0 0, .slice none 0 0] 25)).mono (by simp))
    have HB := Lib.hid (h.next b0)
    have X1 := blk_alloc (blk_new w (.cells #[.slice A1 E.length c1, .slice A2 O.length c2, .slice A3 N.length c3] 25)) (.cells #[.slice none 0 0, .slice none 0 0, .slice none 0 0] 25)
    have R1 : ((w.alloc (.cells #[.slice A1 E.length c1, .slice A2 O.length c2, .slice A3 N.length c3] 25)).alloc (.cells #[.slice none 0 0, .slice none 0 0, .slice none 0 0] 25)).heap[w.heap.size + 1]? = some (.cells #[.slice none 0 0, .slice none 0 0, .slice none 0 0] 25) := by have := blk_new (w.alloc (.cells #[.slice A1 E.length c1, .slice A2 O.length c2, .slice A3 N.length c3] 25)) (.cells #[.slice none 0 0, .slice none 0 0, .slice none 0 0] 25); simpa using this
    have hz1 : ((w.alloc (.cells #[.slice A1 E.length c1, .slice A2 O.length c2, .slice A3 N.length c3] 25)).alloc (.cells #[.slice none 0 0, .slice none 0 0, .slice none 0 0] 25)).heap.size = w.heap.size + 2 := by simp
    go_enter Try.func37, Try.ntmps37
    clear h
    go_wp2_with fail
    refine (KC.out _ HB.out).mono ?_
    rintro _ w2 ⟨rfl, hb⟩
    have X2 := blk_below X1 hb (by omega)
    have R2 := blk_below R1 hb (by omega)
    have B2 := b0.trans (hb.mono (by omega))
    obtain ⟨g0, g1, g2⟩ := air_block X2
    obtain ⟨z0, z1, z2⟩ := air_block R2
    have fr := fun j => blk_fr R2 j
    have V1 := Lib.hid (put3_blk R2 (.slice A1 E.length c1) (.slice A2 O.length c2) (.slice A3 N.length c3))
    have V2 := Lib.hid (put3_below B2 (Nat.le_succ w.heap.size) (.slice A1 E.length c1) (.slice A2 O.length c2) (.slice A3 N.length c3))
    clear X1 R1 X2 R2 B2 hb hz1 KC HB b0
    go_wp2_with fail
    clear g0 g1 g2 fr z0 z1 z2
    obtain ⟨V, hV⟩ : ∃ V, V = put3 w2 (w.heap.size + 1) (.slice A1 E.length c1) (.slice A2 O.length c2) (.slice A3 N.length c3) := ⟨_, rfl⟩
    rw [← hV] at V1 V2
    obtain ⟨r0, r1, r2⟩ := air_block V1.out
    unfold put3 at hV
    rw [← hV]
    clear hV
    exact bodyPost_ret (v := airV ⟨A1, c1, A2, c2, A3, c3⟩ ⟨E, O, N⟩) (by simp [results, Try.results37, go_sem, r0, r1, r2]) rfl ⟨rfl, V2.out⟩
  · rw [sane_no hc, saneH_no hc]
    have d1 : (achk a != 0) = true := by simpa using hc
    generalize achk a = r at *
    clear hc hl
    obtain ⟨A1, c1, A2, c2, A3, c3⟩ := x
    obtain ⟨E, O, N⟩ := a
    dsimp only [airV] at KC ⊢
    have b0 : Below w.heap.size w ((w.alloc (.cells #[.slice A1 E.length c1, .slice A2 O.length c2, .slice A3 N.length c3] 25)).alloc (.cells #[.slice none 0 0, .slice none 0 0, .slice none 0 0] 25)) := (alloc_below w (.cells #[.slice A1 E.length c1, .slice A2 O.length c2, .slice A3 N.length c3] 25)).trans ((alloc_below (w.alloc (.cells #[.slice A1 E.length c1, .slice A2 O.length c2, .slice A3 N.length c3] 25)) (.cells #[.slice none 0 0, .slice none 0 0, .slice none 0 0] 25)).mono (by simp))
    have HB := Lib.hid (h.next b0)
    have R1 : ((w.alloc (.cells #[.slice A1 E.length c1, .slice A2 O.length c2, .slice A3 N.length c3] 25)).alloc (.cells #[.slice none 0 0, .slice none 0 0, .slice none 0 0] 25)).heap[w.heap.size + 1]? = some (.cells #[.slice none 0 0, .slice none 0 0, .slice none 0 0] 25) := by have := blk_new (w.alloc (.cells #[.slice A1 E.length c1, .slice A2 O.length c2, .slice A3 N.length c3] 25)) (.cells #[.slice none 0 0, .slice none 0 0, .slice none 0 0] 25); simpa using this
    have hz1 : ((w.alloc (.cells #[.slice A1 E.length c1, .slice A2 O.length c2, .slice A3 N.length c3] 25)).alloc (.cells #[.slice none 0 0, .slice none 0 0, .slice none 0 0] 25)).heap.size = w.heap.size + 2 := by simp
    go_enter Try.func37, Try.ntmps37
    clear h
    go_wp2_with fail
    refine (KC.out _ HB.out).mono ?_
    rintro _ w2 ⟨rfl, hb⟩
    have R2 := blk_below R1 hb (by omega)
    have B2 := b0.trans (hb.mono (by omega))
    have fr := fun j => blk_fr R2 j
    obtain ⟨z0, z1, z2⟩ := air_block R2
    have V1 := Lib.hid (put3_blk R2 (.slice none 0 0) (.slice none 0 0) (.slice none 0 0))
    have V2 := Lib.hid (put3_below B2 (Nat.le_succ w.heap.size) (.slice none 0 0) (.slice none 0 0) (.slice none 0 0))
    clear R1 R2 B2 hb hz1 KC HB b0
    go_wp2_with fail
    clear fr z0 z1 z2
    obtain ⟨V, hV⟩ : ∃ V, V = put3 w2 (w.heap.size + 1) (.slice none 0 0) (.slice none 0 0) (.slice none 0 0) := ⟨_, rfl⟩
    rw [← hV] at V1 V2
    obtain ⟨r0, r1, r2⟩ := air_block V1.out
    unfold put3 at hV
    rw [← hV]
    clear hV
    exact bodyPost_ret (v := airV hd0 ar0) (by simp [results, Try.results37, go_sem, r0, r1, r2, hd0]) rfl ⟨rfl, V2.out⟩
set_option maxRecDepth 100000 in
set_option maxHeartbeats 2000000 in
theorem rhears_any (x : Hd) (a : Ar) (v : Int) (w : World) (hl : Fit a) (h : AirS w x a) : Calls Try.prog 39 #[airV x a, .int .i64 v] w (OutB w (decide (Hrs a v))) := by
  obtain ⟨A1, c1, A2, c2, A3, c3⟩ := x
  obtain ⟨E, O, N⟩ := a
  obtain ⟨l1, l2, l3⟩ := hl
  simp only at l1 l2 l3
  dsimp only [airV]
  have K2 := Lib.hid (fun w (h : AirS w ⟨A1, c1, A2, c2, A3, c3⟩ ⟨E, O, N⟩) => ramong_any A2 c2 O v w (by omega) h.2.1.1)
  have K3 := Lib.hid (fun w (h : AirS w ⟨A1, c1, A2, c2, A3, c3⟩ ⟨E, O, N⟩) => ramong_any A3 c3 N v w (by omega) h.2.2.1)
  have HB := Lib.hid (h.next (alloc_below w (.cells #[.slice A1 E.length c1, .slice A2 O.length c2, .slice A3 N.length c3] 25)))
  have B1 := Lib.hid (alloc_below w (.cells #[.slice A1 E.length c1, .slice A2 O.length c2, .slice A3 N.length c3] 25))
  have R := Lib.hid (show decide (Hrs ⟨E, O, N⟩ v) = (!decide (v ∈ O) && !decide (v ∈ N)) by unfold Hrs; by_cases q1 : v ∈ O <;> by_cases q2 : v ∈ N <;> simp [q1, q2])
  clear h
  rcases Bool.eq_false_or_eq_true (decide (v ∈ O)) with h2 | h2 <;> rcases Bool.eq_false_or_eq_true (decide (v ∈ N)) with h3 | h3 <;>
  (rw [h2] at K2
   rw [h3] at K3
   rw [h2, h3] at R
   clear h2 h3
   go_enter Try.func39, Try.ntmps39
   go_wp2_with fail
   refine (K2.out _ HB.out).mono ?_
   rintro _ _ ⟨rfl, rfl⟩
   first
   | (go_wp2_with fail
      refine (K3.out _ HB.out).mono ?_
      rintro _ _ ⟨rfl, rfl⟩
      go_wp2_with fail
      go_ret
      exact outB R.out.symm B1.out)
   | (go_wp2_with fail
      go_ret
      exact outB R.out.symm B1.out))

set_option maxRecDepth 100000 in
set_option maxHeartbeats 2000000 in
theorem rsameair_any (x y : Hd) (a : Ar) (w : World) (hl : Fit a) (h1 : AirS w x a) (h2 : AirS w y a) : Calls Try.prog 19 #[airV x a, airV y a] w (OutB w true) := by
  obtain ⟨A1, c1, A2, c2, A3, c3⟩ := x
  obtain ⟨D1, e1, D2, e2, D3, e3⟩ := y
  obtain ⟨E, O, N⟩ := a
  obtain ⟨l1, l2, l3⟩ := hl
  simp only at l1 l2 l3
  dsimp only [airV]
  have b1 := alloc_below w (.cells #[.slice A1 E.length c1, .slice A2 O.length c2, .slice A3 N.length c3] 25)
  have b2 := alloc_below (w.alloc (.cells #[.slice A1 E.length c1, .slice A2 O.length c2, .slice A3 N.length c3] 25)) (.cells #[.slice D1 E.length e1, .slice D2 O.length e2, .slice D3 N.length e3] 25)
  have bb := b1.trans (b2.mono (by simp))
  have HX := Lib.hid (h1.next bb)
  have HY := Lib.hid (h2.next bb)
  have KE := Lib.hid (fun w (h : AirS w ⟨A1, c1, A2, c2, A3, c3⟩ ⟨E, O, N⟩) (h2 : AirS w ⟨D1, e1, D2, e2, D3, e3⟩ ⟨E, O, N⟩) => rsamee_any A1 D1 c1 e1 E w (by omega) h.1.1 h2.1.1)
  have K2 := Lib.hid (fun w (h : AirS w ⟨A1, c1, A2, c2, A3, c3⟩ ⟨E, O, N⟩) (h2 : AirS w ⟨D1, e1, D2, e2, D3, e3⟩ ⟨E, O, N⟩) => rsamen_any A2 D2 c2 e2 O w (by omega) h.2.1.1 h2.2.1.1)
  have K3 := Lib.hid (fun w (h : AirS w ⟨A1, c1, A2, c2, A3, c3⟩ ⟨E, O, N⟩) (h2 : AirS w ⟨D1, e1, D2, e2, D3, e3⟩ ⟨E, O, N⟩) => rsamen_any A3 D3 c3 e3 N w (by omega) h.2.2.1 h2.2.2.1)
  unfold OutB at KE K2 K3
  have X1 := blk_alloc (blk_new w (.cells #[.slice A1 E.length c1, .slice A2 O.length c2, .slice A3 N.length c3] 25)) (.cells #[.slice D1 E.length e1, .slice D2 O.length e2, .slice D3 N.length e3] 25)
  have Y1 : ((w.alloc (.cells #[.slice A1 E.length c1, .slice A2 O.length c2, .slice A3 N.length c3] 25)).alloc (.cells #[.slice D1 E.length e1, .slice D2 O.length e2, .slice D3 N.length e3] 25)).heap[w.heap.size + 1]? = some (.cells #[.slice D1 E.length e1, .slice D2 O.length e2, .slice D3 N.length e3] 25) := by have := blk_new (w.alloc (.cells #[.slice A1 E.length c1, .slice A2 O.length c2, .slice A3 N.length c3] 25)) (.cells #[.slice D1 E.length e1, .slice D2 O.length e2, .slice D3 N.length e3] 25); simpa using this
  have hz1 : ((w.alloc (.cells #[.slice A1 E.length c1, .slice A2 O.length c2, .slice A3 N.length c3] 25)).alloc (.cells #[.slice D1 E.length e1, .slice D2 O.length e2, .slice D3 N.length e3] 25)).heap.size = w.heap.size + 2 := by simp
  clear h1 h2 b1 b2
  go_enter Try.func19, Try.ntmps19
  go_wp2_with fail
  refine (KE.out _ HX.out HY.out).mono ?_
  rintro _ w2 ⟨rfl, hb⟩
  have X2 := blk_below X1 hb (by omega)
  have Y2 := blk_below Y1 hb (by omega)
  have hz2 : w.heap.size + 2 ≤ w2.heap.size := by have := hb.size; omega
  have B2 := Lib.hid (bb.trans (hb.mono (by omega)))
  have HX2 := Lib.hid (HX.out.next hb)
  have HY2 := Lib.hid (HY.out.next hb)
  obtain ⟨_, g1, g2⟩ := air_block X2
  obtain ⟨_, d1, d2⟩ := air_block Y2
  clear hb X1 Y1 hz1 bb HX HY KE
  have X2 := Lib.hid X2
  have Y2 := Lib.hid Y2
  go_wp2_with fail
  refine (K2.out _ HX2.out HY2.out).mono ?_
  rintro _ w3 ⟨rfl, hb⟩
  have X3 := blk_below X2.out hb (by omega)
  have Y3 := blk_below Y2.out hb (by omega)
  have B3 := Lib.hid (B2.out.trans (hb.mono B2.out.size))
  have HX3 := Lib.hid (HX2.out.next hb)
  have HY3 := Lib.hid (HY2.out.next hb)
  clear g1 g2 d1 d2
  obtain ⟨_, _, g2⟩ := air_block X3
  obtain ⟨_, _, d2⟩ := air_block Y3
  clear hb X2 Y2 X3 Y3 hz2 HX2 HY2 K2
  go_wp2_with fail
  refine (K3.out _ HX3.out HY3.out).mono ?_
  rintro _ w4 ⟨rfl, hb⟩
  have B4 := Lib.hid (B3.out.trans (hb.mono B3.out.size))
  clear hb
  go_wp2_with fail
  go_ret
  exact outB rfl B4.out
end Go.Proofs.Ytcnmknhjmflinaa.Rdo
