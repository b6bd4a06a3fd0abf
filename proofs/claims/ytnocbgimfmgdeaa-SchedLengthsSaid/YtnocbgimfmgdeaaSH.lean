/- Contracts of sweep and combine. -/
import Derived.Test.YtnocbgimfmgdeaaSG
import Derived.RegionTactic
set_option linter.unusedVariables false
namespace Go.Proofs.Ytnocbgimfmgdeaa
open Go.RowKit

/-- The slice with this address reads as these turns; its block lies from lo on, below hi. -/
def TrS (w : World) (lo hi : Nat) (A : Option Addr) (D : List Trn) : Prop := ∀ i (h : i < D.length), ∃ g, A = some ⟨g, 0, none⟩ ∧ lo ≤ g ∧ g < hi ∧ w.cell? ⟨g, i * 3, none⟩ = some (.int .i64 D[i].1) ∧ w.cell? ⟨g, i * 3 + 1, none⟩ = some (.int .i64 D[i].2.1) ∧ w.cell? ⟨g, i * 3 + 2, none⟩ = some (.int .i64 D[i].2.2)
theorem TrS.blocks {w w' : World} {lo hi : Nat} {A : Option Addr} {D : List Trn} (h : TrS w lo hi A D) (hb : ∀ k, lo ≤ k → k < hi → w'.heap[k]? = w.heap[k]?) : TrS w' lo hi A D := fun i hi' => by
  obtain ⟨g, h1, h2, h3, h4, h5, h6⟩ := h i hi'
  have e := hb g h2 h3
  exact ⟨g, h1, h2, h3, (World.cell?_of_block (w := w) (a := ⟨g, i * 3, none⟩) e).trans h4, (World.cell?_of_block (w := w) (a := ⟨g, i * 3 + 1, none⟩) e).trans h5, (World.cell?_of_block (w := w) (a := ⟨g, i * 3 + 2, none⟩) e).trans h6⟩
theorem sort_own (B : Nat) (v : Value) (l : List Trn) (w : World) (h : OwnT w B v l) (hl : l.length ≤ 600000) :
    Calls Try.prog 47 #[v, .func (.func 48) #[] #[]] w
      fun e w' => e = .returned (.tuple #[]) ∧ ∃ (D : List Trn) (A : Option Addr) (c : Nat), v = .slice A D.length c ∧ D.Perm l ∧ (∀ i j (hi : i < D.length) (hj : j < D.length), i ≤ j → D[i].1 ≤ D[j].1) ∧ TrS w' B w'.heap.size A D ∧ Below B w w' := by
  rcases own_turns h with ⟨rfl, rfl⟩ | ⟨g, cap, rfl, h2, h3, h4⟩
  · refine (sort_none none 0 _ w).mono ?_
    rintro e w' ⟨rfl, rfl⟩
    exact ⟨rfl, [], none, 0, rfl, List.Perm.refl _, (fun i j hi => absurd hi (by simp)), (fun i hi => absurd hi (by simp)), Below.refl _ _⟩
  · refine (ssort_any B g cap l w h hl).mono ?_
    rintro e w' ⟨rfl, D, h5, h6, h7, h8⟩
    exact ⟨rfl, D, _, cap, by rw [h5.length_eq], h5, h6, fun i hi => ⟨g, rfl, h2, h7.1, (h7.2 i hi).1, (h7.2 i hi).2.1, (h7.2 i hi).2.2⟩, h8.mono h2⟩
theorem TrS.low {w : World} {lo lo' hi : Nat} {A : Option Addr} {D : List Trn} (h : TrS w lo hi A D) (hl : lo' ≤ lo) : TrS w lo' hi A D := fun i hi' => by
  obtain ⟨g, h1, h2, h3, h4⟩ := h i hi'
  exact ⟨g, h1, by omega, h3, h4⟩
theorem CBx.rebase {w wr : World} {n B C : Nat} {g : FuncId} {ins : Bool} {frm : Int} (h : CBx w n B g ins frm (.slice none 0 0) [] wr) (h1 : n + 4 ≤ C) (h2 : C ≤ wr.heap.size) : CBx w n C g ins frm (.slice none 0 0) [] wr :=
  ⟨h.h0, h.h1, h.h2, h.h3, World.ownsRow_nil _ _ _ _, h.below, h1, h2⟩

/-- The sweep's loop: the closure's variables, the two counts, the turns. -/
structure SwW (w : World) (n bo : Nat) (g : FuncId) (ins : Bool) (frm : Int) (v : Value) (F : List Spn) (A : Option Addr) (D : List Trn) (o0 o1 : Int) (wr : World) : Prop where
  cb : CBx w n (bo + 1) g ins frm v F wr
  ob : wr.heap[bo]? = some (.cells #[.int .i64 o0, .int .i64 o1] 57 (0, 0))
  tr : TrS wr (n + 4) bo A D
  lo : n + 4 ≤ bo
namespace SwW
variable {w wr wt : World} {n bo : Nat} {g : FuncId} {ins : Bool} {frm : Int} {v : Value} {F : List Spn} {A : Option Addr} {D : List Trn} {o0 o1 : Int}
theorem lt (h : SwW w n bo g ins frm v F A D o0 o1 wr) : bo < wr.heap.size := blk_lt h.ob
theorem c0 (h : SwW w n bo g ins frm v F A D o0 o1 wr) : wr.cell? ⟨bo, 0, none⟩ = some (.int .i64 o0) := blk_cell h.ob 0 rfl
theorem c1 (h : SwW w n bo g ins frm v F A D o0 o1 wr) : wr.cell? ⟨bo, 1, none⟩ = some (.int .i64 o1) := blk_cell h.ob 1 rfl
theorem fr (h : SwW w n bo g ins frm v F A D o0 o1 wr) (j : Nat) : wr.frozen? ⟨bo, j, none⟩ = false := blk_fr h.ob j
theorem next (h : SwW w n bo g ins frm v F A D o0 o1 wr) (hb : Below wr.heap.size wr wt) : SwW w n bo g ins frm v F A D o0 o1 wt :=
  ⟨h.cb.next hb, blk_below h.ob hb h.lt, h.tr.blocks fun k _ h2 => hb.block k (by have := h.lt; omega), h.lo⟩
theorem set0 (h : SwW w n bo g ins frm v F A D o0 o1 wr) (x : Int) : SwW w n bo g ins frm v F A D x o1 (wr.setCell ⟨bo, 0, none⟩ (.int .i64 x)) :=
  ⟨h.cb.setIn (by have := h.lo; exact this) (by show bo < bo + 1; omega) _, blk_set h.ob 0 _, h.tr.blocks fun k _ h2 => Below.heap_setCell _ _ _ _ (by show k ≠ bo; omega), h.lo⟩
theorem set1 (h : SwW w n bo g ins frm v F A D o0 o1 wr) (x : Int) : SwW w n bo g ins frm v F A D o0 x (wr.setCell ⟨bo, 1, none⟩ (.int .i64 x)) :=
  ⟨h.cb.setIn (by have := h.lo; exact this) (by show bo < bo + 1; omega) _, blk_set h.ob 1 _, h.tr.blocks fun k _ h2 => Below.heap_setCell _ _ _ _ (by show k ≠ bo; omega), h.lo⟩
theorem tell (h : SwW w n bo g ins frm v F A D o0 o1 wr) {ins' : Bool} {frm' : Int} {v' : Value} {F' : List Spn} (hc : CBx w n (bo + 1) g ins' frm' v' F' wt) (hb : But n (bo + 1) wr wt) : SwW w n bo g ins' frm' v' F' A D o0 o1 wt :=
  have := h.lo
  ⟨hc, (hb.block bo (by omega) (by omega) (by omega) (by omega)).trans h.ob, h.tr.blocks fun k h1 h2 => hb.block k (by omega) (by omega) (by omega) (by omega), h.lo⟩
end SwW
theorem opa_take (j : Int) (D : List Trn) (k : Nat) (h : k < D.length) : opa j (D.take (k + 1)) = opa j (D.take k) + if D[k].2.1 = j then D[k].2.2 else 0 := by
  rw [List.take_succ_eq_append_getElem h, opa_append]; simp [opa]
theorem SwI.step {D : List Trn} {S : Int → Bool} {i : Nat} {F : List Spn} {ins x : Bool} {frm : Int} (hS : SwS D S) (h : SwI D S i F ins frm) (hi : i < D.length) (hl : ∀ h1 : i + 1 < D.length, D[i + 1].1 ≠ D[i].1) (hv : S D[i].1 = x) :
    SwI D S (i + 1) (if ins && !x then F ++ [(frm, D[i].1)] else F) x (if x && !ins then D[i].1 else frm) := by
  cases ins with
  | false =>
    cases x with
    | false => exact h.stay hS hi hl hv
    | true => exact h.on hS hi hl hv
  | true =>
    cases x with
    | false => exact h.off hS hi hl hv
    | true => exact h.stay hS hi hl hv
theorem Tns.told {D : List Trn} {a b : List Spn} (h : Tns D a b) (g : FuncId) {i : Nat} (hi : i < D.length) (hl : ∀ h1 : i + 1 < D.length, D[i + 1].1 ≠ D[i].1) :
    bel g (inS a D[i].1) (inS b D[i].1) = bel g (decide (0 < opa 0 (D.take (i + 1)))) (decide (0 < opa 1 (D.take (i + 1)))) := by
  rw [h.run hi hl, h.run hi hl, h.inA, h.inB]

/-- What the sweep leaves. -/
def OutW (w : World) (n : Nat) (g : FuncId) (S : Int → Bool) (e : Ending) (w' : World) : Prop :=
  e = .returned (.tuple #[]) ∧ ∃ B ins frm v F, CBx w n B g ins frm v F w' ∧ NF F S

set_option maxRecDepth 100000 in
set_option maxHeartbeats 4000000 in
theorem sweep_any (w wz : World) (n : Nat) (g : FuncId) (A1 A2 : Option Addr) (c1 c2 : Nat) (l1 l2 : List Spn) (hl1 : l1.length ≤ 100000) (hl2 : l2.length ≤ 100000) (hA1 : SpAt w n A1 l1) (hA2 : SpAt w n A2 l2)
    (eg : ∀ args w, (callFunc g args).run Try.prog w = .ok (.enter g args) w) (hg : ∀ a b w, Calls Try.prog g #[.bool a, .bool b] w fun e w' => e = .returned (.bool (bel g a b)) ∧ w = w')
    (h : CBx w n (n + 4) g false 0 (.slice none 0 0) [] wz) :
    Calls Try.prog 43 #[.slice A1 l1.length c1, .slice A2 l2.length c2, .func (.func 44) #[] #[.pointer (some ⟨n + 2, 0, none⟩), .pointer (some ⟨n, 0, none⟩), .pointer (some ⟨n + 3, 0, none⟩), .pointer (some ⟨n + 1, 0, none⟩)]] wz
      (OutW w n g fun m => bel g (inS l1 m) (inS l2 m)) := by
  have X := Lib.hid h
  have HG := Lib.hid hg
  have EG := Lib.hid eg
  have S1 := Lib.hid hA1
  have S2 := Lib.hid hA2
  clear h hg eg hA1 hA2
  go_enter Try.func43, Try.ntmps43
  go_wp2_with fail
  refine (turns_any A1 c1 l1 0 wz hl1 ((S1.out.below X.out.below).mono (by have := X.out.lt; omega))).mono ?_
  rintro e w1 ⟨v0, rfl, hown, hb⟩
  obtain ⟨a0, k0, hv0⟩ := own_form hown
  subst hv0
  have O0 := Lib.hid hown
  have X1 := Lib.hid (X.out.next hb)
  clear hown hb
  go_wp2_with fail
  refine (turns_any A2 c2 l2 1 w1 hl2 ((S2.out.below X1.out.below).mono (by have := X1.out.lt; omega))).mono ?_
  rintro e w2 ⟨v1, rfl, hown, hb⟩
  obtain ⟨a1, k1, hv1⟩ := own_form hown
  subst hv1
  have O1 := Lib.hid hown
  have O0 := Lib.hid (own_below O0.out hb)
  have X2 := Lib.hid (X1.out.next hb)
  clear hown hb
  go_wp2_with fail
  refine (sconcat_any w2.heap.size _ _ _ _ (trns 0 l1) (trns 1 l2) _ (by simp) (by simp) (by simp) (O0.out.alloc _) (O1.out.alloc _) (by have := trns_len 0 l1; omega) (by have := trns_len 1 l2; omega)).mono ?_
  rintro e w3 ⟨v, rfl, hown, hb⟩
  have X3 := Lib.hid ((X2.out.next (alloc_below _ _)).next hb)
  have O3 := Lib.hid hown
  have hz3 := X2.out.lt
  clear hown hb
  go_wp2_with fail
  refine (sort_own _ v _ w3 O3.out (by rw [List.length_append]; have := trns_len 0 l1; have := trns_len 1 l2; omega)).mono ?_
  rintro e w4 ⟨rfl, D, A, c, rfl, hp, hs, htr, hb⟩
  have TN := Lib.hid (Tns.mk (a := l1) (b := l2) hp hs)
  have X4 := Lib.hid (X3.out.kept (hb.mono (by simp; omega)) (World.ownsRow_nil _ _ _ _))
  have T4 := Lib.hid htr
  have hz4 : n + 4 ≤ w4.heap.size := X4.out.lt
  have TS := Lib.hid (htr.low (lo' := n + 4) (by simp; omega))
  obtain ⟨bo, hbo⟩ : ∃ bo, bo = w4.heap.size := ⟨_, rfl⟩
  have SW := Lib.hid (show SwW w n bo g false 0 (.slice none 0 0) [] A D 0 0 (w4.alloc (.cells #[.int .i64 0, .int .i64 0] 57)) from by
    subst hbo
    exact ⟨(X4.out.next (alloc_below _ _)).rebase (by omega) (by simp), blk_new _ _, TS.out.blocks fun k _ h2 => Below.heap_alloc _ _ _ h2, by omega⟩)
  have SS := Lib.hid (TN.out.sw (bel g) (bel_none g))
  clear hb htr hp hs
  rw [hbo] at SW
  clear hbo
  go_wp2_with fail
  go_loopw [20] (fun i wr => ∃ (k : Nat) (ins : Bool) (frm : Int) (v : Value) (F : List Spn), i = .int .i64 k ∧ k ≤ D.length ∧ SwI D (fun m => bel g (inS l1 m) (inS l2 m)) k F ins frm ∧ SwW w n w4.heap.size g ins frm v F A D (opa 0 (D.take k)) (opa 1 (D.take k)) wr) (fun i _ => D.length - (intOf i).toNat)
  case atStart => exact ⟨0, false, 0, _, [], rfl, Nat.zero_le _, SwI.start SS.out, SW.out⟩
  case round =>
    obtain ⟨k, ins, frm, v, F, rfl, hk, hsi, hsw⟩ := hrel
    have I := Lib.hid hsi
    have W := Lib.hid hsw
    have hz := hsw.lt
    by_cases hlt : k < D.length
    · obtain ⟨gb, rfl, q1, q2, q3, q4, q5⟩ := hsw.tr k hlt
      have MM := Lib.hid (TN.out.mem D[k] (List.getElem_mem _))
      have c0 := hsw.c0
      have c1 := hsw.c1
      have f0 := hsw.fr 0
      have f1 := hsw.fr 1
      obtain ⟨m, hm⟩ : ∃ m, m = D[k].1 := ⟨_, rfl⟩
      obtain ⟨j, hj⟩ : ∃ j, j = D[k].2.1 := ⟨_, rfl⟩
      obtain ⟨st, hst⟩ : ∃ st, st = D[k].2.2 := ⟨_, rfl⟩
      rw [← hm, ← hj, ← hst] at MM
      rw [← hm] at q3
      rw [← hj] at q4
      rw [← hst] at q5
      have HM := Lib.hid hm
      have HJ := Lib.hid hj
      have HS := Lib.hid hst
      clear hsi hsw hm hj hst
      obtain ⟨o0, ho0⟩ : ∃ o, o = opa 0 (D.take k) := ⟨_, rfl⟩
      obtain ⟨o1, ho1⟩ : ∃ o, o = opa 1 (D.take k) := ⟨_, rfl⟩
      rw [← ho0] at c0 W
      rw [← ho1] at c1 W
      have LD := TN.out.len
      have hb0 : -400000 ≤ o0 ∧ o0 ≤ 400000 := by rw [ho0]; have := opa_bd 0 (D.take k) (fun t ht => (TN.out.mem t (List.mem_of_mem_take ht)).2.2.2); rw [List.length_take] at this; omega
      have hb1 : -400000 ≤ o1 ∧ o1 ≤ 400000 := by rw [ho1]; have := opa_bd 1 (D.take k) (fun t ht => (TN.out.mem t (List.mem_of_mem_take ht)).2.2.2); rw [List.length_take] at this; omega
      have hst1 : -1 ≤ st ∧ st ≤ 1 := MM.out.2.2.2
      obtain ⟨b01, b02⟩ := hb0
      obtain ⟨b11, b12⟩ := hb1
      obtain ⟨st1, st2⟩ := hst1
      have HO0 := Lib.hid ho0
      have HO1 := Lib.hid ho1
      clear ho0 ho1
      have hd0 : (wr.alloc (.cells #[.int .i64 m, .int .i64 j, .int .i64 st] 52)).cell? ⟨w4.heap.size, 0, none⟩ = some (.int .i64 o0) := (World.cell?_alloc_lt wr _ _ hz).trans c0
      have hd1 : (wr.alloc (.cells #[.int .i64 m, .int .i64 j, .int .i64 st] 52)).cell? ⟨w4.heap.size, 1, none⟩ = some (.int .i64 o1) := (World.cell?_alloc_lt wr _ _ hz).trans c1
      rcases (show j = 0 ∨ j = 1 from MM.out.2.2.1) with rfl | rfl
      · have T0 := Lib.hid (show opa 0 (D.take (k + 1)) = (o0 + st) by rw [opa_take 0 D k hlt, ← HO0.out, ← HJ.out, ← HS.out]; first | rfl | (rw [if_neg (by decide)]; omega))
        have T1 := Lib.hid (show opa 1 (D.take (k + 1)) = o1 by rw [opa_take 1 D k hlt, ← HO1.out, ← HJ.out, ← HS.out]; first | rfl | (rw [if_neg (by decide)]; omega))
        have WQ := Lib.hid (((W.out.set0 (o0 + st)).next (alloc_below _ (.cells #[.int .i64 m, .int .i64 0, .int .i64 st] 52))).next ((Below.refl _ _).drew))
        have BX := Lib.hid (blk_new (wr.setCell ⟨w4.heap.size, 0, none⟩ (.int .i64 (o0 + st))) (.cells #[.int .i64 m, .int .i64 0, .int .i64 st] 52))
        go_wp2_with fail
        go_region
        clear c0 c1 hd0 hd1 f0 f1 q3 q4 q5
        rw [World.size_setCell] at BX
        have BX := Lib.hid (show (((wr.setCell ⟨w4.heap.size, 0, none⟩ (.int .i64 (o0 + st))).alloc (.cells #[.int .i64 m, .int .i64 0, .int .i64 st] 52)).drew).heap[wr.heap.size]? = some (.cells #[.int .i64 m, .int .i64 0, .int .i64 st] 52 (0, 0)) from BX.out)
        generalize ((wr.setCell ⟨w4.heap.size, 0, none⟩ (.int .i64 (o0 + st))).alloc (.cells #[.int .i64 m, .int .i64 0, .int .i64 st] 52)).drew = wq at *
        have e0 := blk_cell BX.out 0 rfl
        have r0 := WQ.out.c0
        have r1 := WQ.out.c1
        have tw : ∀ N, SwW w n w4.heap.size g ins frm v F (some ⟨gb, 0, none⟩) D (o0 + st) o1 (wq.drewN N) := fun N => WQ.out.next (below_drewN (Below.refl _ _) N)
        have TW := Lib.hid tw
        clear tw
        have LF := Lib.hid I.out.len
        by_cases hl1 : k + 1 < D.length
        · obtain ⟨gb2, hgb, s1, s2, s3, s4, s5⟩ := WQ.out.tr (k + 1) hl1
          obtain rfl : gb2 = gb := by cases hgb; rfl
          have t1 : ((k : Int) + 1 == (D.length : Int)) = false := by simp; omega
          have i1 : (k : Int) + 1 < (D.length : Int) := by omega
          have i3 : (0 : Int) ≤ (k : Int) + 1 := by omega
          have i4 : ((k : Int) + 1).toNat = k + 1 := by omega
          by_cases hm1 : D[k + 1].1 = m
          · have SK := Lib.hid (I.out.skip hl1 (by rw [hm1]; exact HM.out))
            rw [hm1] at s3
            clear hm1 s4 s5 hgb
            go_wp2_with fail
            go_quiet (fail)
            clear t1 i1 i3 i4
            go_wp2_with fail
            go_roundw
            case rel => exact ⟨k + 1, ins, frm, v, F, by go_num, hlt, SK.out, by rw [T0.out, T1.out]; exact TW.out _⟩
            case measure => simp [intOf]; omega
          · have HL := Lib.hid (show ∀ h1 : k + 1 < D.length, D[k + 1].1 ≠ D[k].1 from fun _ => by rw [← HM.out]; exact hm1)
            obtain ⟨m2, hm2⟩ : ∃ m2, m2 = D[k + 1].1 := ⟨_, rfl⟩
            rw [← hm2] at hm1 s3
            have t2 : (m2 == m) = false := by simpa using hm1
            have t3 : (m2 != m) = true := by simpa using hm1
            clear hm1 hm2 s4 s5 hgb
            go_wp2_with fail
            go_quiet (fail)
            clear t1 i1 i3 i4 t2 t3 s3
            go_wp2_with fail
            refine (tell_any w n (w4.heap.size + 1) g ins (bel g (decide (0 < (o0 + st))) (decide (0 < o1))) _ _ frm m v F _ EG.out (fun w => HG.out _ _ w) (TW.out _).cb (by have := LF.out; omega)).mono ?_
            rintro e w6 ⟨rfl, ⟨v6, hc⟩, hb⟩
            have ST := Lib.hid (I.out.step SS.out hlt HL.out (by rw [TN.out.told g hlt HL.out, T0.out, T1.out]))
            rw [← HM.out] at ST
            have W6 := Lib.hid ((TW.out _).tell hc hb)
            clear hc hb
            go_wp2_with fail
            go_roundw
            case rel => exact ⟨k + 1, _, _, v6, _, by go_num, hlt, ST.out, by rw [T0.out, T1.out]; exact W6.out⟩
            case measure => simp [intOf]; omega
        · have HL := Lib.hid (show ∀ h1 : k + 1 < D.length, D[k + 1].1 ≠ D[k].1 from fun h1 => absurd h1 hl1)
          have t1 : ((k : Int) + 1 == (D.length : Int)) = true := by simp; omega
          go_wp2_with fail
          go_quiet (fail)
          clear t1
          go_wp2_with fail
          refine (tell_any w n (w4.heap.size + 1) g ins (bel g (decide (0 < (o0 + st))) (decide (0 < o1))) _ _ frm m v F _ EG.out (fun w => HG.out _ _ w) (TW.out _).cb (by have := LF.out; omega)).mono ?_
          rintro e w6 ⟨rfl, ⟨v6, hc⟩, hb⟩
          have ST := Lib.hid (I.out.step SS.out hlt HL.out (by rw [TN.out.told g hlt HL.out, T0.out, T1.out]))
          rw [← HM.out] at ST
          have W6 := Lib.hid ((TW.out _).tell hc hb)
          clear hc hb
          go_wp2_with fail
          go_roundw
          case rel => exact ⟨k + 1, _, _, v6, _, by go_num, hlt, ST.out, by rw [T0.out, T1.out]; exact W6.out⟩
          case measure => simp [intOf]; omega
      · have T0 := Lib.hid (show opa 0 (D.take (k + 1)) = o0 by rw [opa_take 0 D k hlt, ← HO0.out, ← HJ.out, ← HS.out]; first | rfl | (rw [if_neg (by decide)]; omega))
        have T1 := Lib.hid (show opa 1 (D.take (k + 1)) = (o1 + st) by rw [opa_take 1 D k hlt, ← HO1.out, ← HJ.out, ← HS.out]; first | rfl | (rw [if_neg (by decide)]; omega))
        have WQ := Lib.hid (((W.out.set1 (o1 + st)).next (alloc_below _ (.cells #[.int .i64 m, .int .i64 1, .int .i64 st] 52))).next ((Below.refl _ _).drew))
        have BX := Lib.hid (blk_new (wr.setCell ⟨w4.heap.size, 1, none⟩ (.int .i64 (o1 + st))) (.cells #[.int .i64 m, .int .i64 1, .int .i64 st] 52))
        go_wp2_with fail
        go_region
        clear c0 c1 hd0 hd1 f0 f1 q3 q4 q5
        rw [World.size_setCell] at BX
        have BX := Lib.hid (show (((wr.setCell ⟨w4.heap.size, 1, none⟩ (.int .i64 (o1 + st))).alloc (.cells #[.int .i64 m, .int .i64 1, .int .i64 st] 52)).drew).heap[wr.heap.size]? = some (.cells #[.int .i64 m, .int .i64 1, .int .i64 st] 52 (0, 0)) from BX.out)
        generalize ((wr.setCell ⟨w4.heap.size, 1, none⟩ (.int .i64 (o1 + st))).alloc (.cells #[.int .i64 m, .int .i64 1, .int .i64 st] 52)).drew = wq at *
        have e0 := blk_cell BX.out 0 rfl
        have r0 := WQ.out.c0
        have r1 := WQ.out.c1
        have tw : ∀ N, SwW w n w4.heap.size g ins frm v F (some ⟨gb, 0, none⟩) D o0 (o1 + st) (wq.drewN N) := fun N => WQ.out.next (below_drewN (Below.refl _ _) N)
        have TW := Lib.hid tw
        clear tw
        have LF := Lib.hid I.out.len
        by_cases hl1 : k + 1 < D.length
        · obtain ⟨gb2, hgb, s1, s2, s3, s4, s5⟩ := WQ.out.tr (k + 1) hl1
          obtain rfl : gb2 = gb := by cases hgb; rfl
          have t1 : ((k : Int) + 1 == (D.length : Int)) = false := by simp; omega
          have i1 : (k : Int) + 1 < (D.length : Int) := by omega
          have i3 : (0 : Int) ≤ (k : Int) + 1 := by omega
          have i4 : ((k : Int) + 1).toNat = k + 1 := by omega
          by_cases hm1 : D[k + 1].1 = m
          · have SK := Lib.hid (I.out.skip hl1 (by rw [hm1]; exact HM.out))
            rw [hm1] at s3
            clear hm1 s4 s5 hgb
            go_wp2_with fail
            go_quiet (fail)
            clear t1 i1 i3 i4
            go_wp2_with fail
            go_roundw
            case rel => exact ⟨k + 1, ins, frm, v, F, by go_num, hlt, SK.out, by rw [T0.out, T1.out]; exact TW.out _⟩
            case measure => simp [intOf]; omega
          · have HL := Lib.hid (show ∀ h1 : k + 1 < D.length, D[k + 1].1 ≠ D[k].1 from fun _ => by rw [← HM.out]; exact hm1)
            obtain ⟨m2, hm2⟩ : ∃ m2, m2 = D[k + 1].1 := ⟨_, rfl⟩
            rw [← hm2] at hm1 s3
            have t2 : (m2 == m) = false := by simpa using hm1
            have t3 : (m2 != m) = true := by simpa using hm1
            clear hm1 hm2 s4 s5 hgb
            go_wp2_with fail
            go_quiet (fail)
            clear t1 i1 i3 i4 t2 t3 s3
            go_wp2_with fail
            refine (tell_any w n (w4.heap.size + 1) g ins (bel g (decide (0 < o0)) (decide (0 < (o1 + st)))) _ _ frm m v F _ EG.out (fun w => HG.out _ _ w) (TW.out _).cb (by have := LF.out; omega)).mono ?_
            rintro e w6 ⟨rfl, ⟨v6, hc⟩, hb⟩
            have ST := Lib.hid (I.out.step SS.out hlt HL.out (by rw [TN.out.told g hlt HL.out, T0.out, T1.out]))
            rw [← HM.out] at ST
            have W6 := Lib.hid ((TW.out _).tell hc hb)
            clear hc hb
            go_wp2_with fail
            go_roundw
            case rel => exact ⟨k + 1, _, _, v6, _, by go_num, hlt, ST.out, by rw [T0.out, T1.out]; exact W6.out⟩
            case measure => simp [intOf]; omega
        · have HL := Lib.hid (show ∀ h1 : k + 1 < D.length, D[k + 1].1 ≠ D[k].1 from fun h1 => absurd h1 hl1)
          have t1 : ((k : Int) + 1 == (D.length : Int)) = true := by simp; omega
          go_wp2_with fail
          go_quiet (fail)
          clear t1
          go_wp2_with fail
          refine (tell_any w n (w4.heap.size + 1) g ins (bel g (decide (0 < o0)) (decide (0 < (o1 + st)))) _ _ frm m v F _ EG.out (fun w => HG.out _ _ w) (TW.out _).cb (by have := LF.out; omega)).mono ?_
          rintro e w6 ⟨rfl, ⟨v6, hc⟩, hb⟩
          have ST := Lib.hid (I.out.step SS.out hlt HL.out (by rw [TN.out.told g hlt HL.out, T0.out, T1.out]))
          rw [← HM.out] at ST
          have W6 := Lib.hid ((TW.out _).tell hc hb)
          clear hc hb
          go_wp2_with fail
          go_roundw
          case rel => exact ⟨k + 1, _, _, v6, _, by go_num, hlt, ST.out, by rw [T0.out, T1.out]; exact W6.out⟩
          case measure => simp [intOf]; omega
    · have W := Lib.hid hsw
      clear hsi hsw
      go_wp2_with fail
      go_end0
      exact ⟨rfl, _, ins, frm, v, F, W.out.cb, I.out.fin SS.out (by omega)⟩
end Go.Proofs.Ytnocbgimfmgdeaa
