/- The reference: add, apply, Update, Break. -/
import Derived.Test.YtcfnkfkdhcejeaaRO
import Derived.Deep.Cut
import Derived.Deep.CutRange
import Derived.Deep.DeepCutAuto
set_option linter.unusedVariables false
namespace Go.Proofs.Ytcfnkfkdhcejeaa.Rte
open Go.RowKit

theorem flat_drop {α : Type} {F : Flat α} {w : World} {B : Nat} {A : Option Addr} {l : List α} (h : FlAt F w B A l) (k : Nat) : FlAt F w B (Option.map (fun x => x.add (k * F.sz)) A) (l.drop k) := fun i hi => by
  rw [List.length_drop] at hi
  obtain ⟨b, p, rfl, h2, h3, h4⟩ := h (k + i) (by omega)
  refine ⟨b, p + k * F.sz, by simp [add_off], h2, fun j u hu => ?_, by rw [List.getElem_drop]; exact h4⟩
  rw [List.getElem_drop] at hu
  have := h3 j u hu
  rw [Nat.add_mul] at this
  rw [← this]
  congr 2
  omega
theorem pos_of2 (n : Int) (l : List Rt) (k : Nat) (hk : k ≤ l.length) (h1 : ∀ p (hp : p < l.length), p < k → l[p].1 < n) (h2 : ∀ (h : k < l.length), ¬ l[k].1 < n) : k = pos n l := by
  have h3 := pos_le n l
  rcases Nat.lt_trichotomy k (pos n l) with c | c | c
  · exact absurd (pos_lt n l k (by omega) c) (h2 (by omega))
  · exact c
  · exact absurd (h1 (pos n l) (by omega) c) (pos_at n l (by omega))
theorem take_one (l : List Rt) (k : Nat) (h : k < l.length) : l.take (k + 1) = l.take k ++ [l[k]] := List.take_succ_eq_append_getElem h

set_option maxRecDepth 100000 in
set_option maxHeartbeats 4000000 in
theorem radd_any (A : Option Addr) (c : Nat) (l : List Rt) (e : Rt) (w : World) (hl : l.length ≤ 1000) (hc : l.length ≤ c) (hA : RtAt w w.heap.size A l) (he : fR.ok e) :
    Calls Try.prog 56 #[.slice A l.length c, rtV e] w (OutT w (l.take (pos e.1 l) ++ [e] ++ l.drop (pos e.1 l))) := by
  have HA := Lib.hid hA
  have HE := Lib.hid he
  obtain ⟨n, x1, x2, x3⟩ := e
  obtain ⟨L, hL⟩ : ∃ L, L = l.take (pos n l) ++ [(n, x1, x2, x3)] ++ l.drop (pos n l) := ⟨_, rfl⟩
  have HL := Lib.hid hL
  show Calls _ _ _ _ (OutT w (l.take (pos n l) ++ [(n, x1, x2, x3)] ++ l.drop (pos n l)))
  rw [← hL]
  clear hA he hL
  go_enter Try.func56, Try.ntmps56
  go_wp2_with fail
  go_loopw [5, 6] (fun o i wr => ∃ k : Nat, i = .int .i64 k ∧ k ≤ l.length ∧ OwnR wr (w.alloc (bxR n x1 x2 x3)).heap.size o (l.take k) ∧ Hid (∀ p (hp : p < l.length), p < k → l[p].1 < n) ∧ Below (w.alloc (bxR n x1 x2 x3)).heap.size (w.alloc (bxR n x1 x2 x3)) wr) (fun _ i _ => l.length - (intOf i).toNat)
  case atStart => exact ⟨0, rfl, Nat.zero_le _, OwnF.nil _ _, Lib.hid (fun p hp h => by omega), Below.refl _ _⟩
  case round => as_aux_lemma =>
    obtain ⟨k, rfl, hk, ho, HP, hb⟩ := hrel
    have B := Lib.hid hb
    obtain ⟨A0, c0', e0, _⟩ := ho.form
    have hlk : (l.take k).length = k := by rw [List.length_take, Nat.min_eq_left hk]
    rw [hlk] at e0
    subst e0
    have O := Lib.hid ho
    clear hlk
    by_cases hlt : k < l.length
    · obtain ⟨b, p, rfl, hbw, g0, _⟩ := rt_cell ((HA.out.next (alloc_below w (bxR n x1 x2 x3))).below hb) k hlt
      obtain ⟨c0, _⟩ := box4 hb
      clear hb ho
      obtain ⟨⟨y0, y1, y2, y3⟩, hx⟩ : ∃ x, l[k] = x := ⟨_, rfl⟩
      have HX := Lib.hid hx
      rw [hx] at g0
      simp only at g0
      clear hx
      by_cases hq : y0 < n
      · as_aux_lemma =>
        have d8 := dt hq
        have HP2 := Lib.hid (show ∀ p (hp : p < l.length), p < k + 1 → l[p].1 < n from fun q hq1 hq2 => by
          rcases Nat.lt_or_ge q k with h | h
          · exact HP.out q hq1 h
          · obtain rfl : q = k := by omega
            rw [HX.out]; exact hq)
        clear hq
        go_wp2_with fail
        go_quiet (fail)
        obtain ⟨wq, hwq⟩ : ∃ wq, wq = wr.drewN nq := ⟨_, rfl⟩
        rw [← hwq]
        have B := Lib.hid (show Below (w.alloc (bxR n x1 x2 x3)).heap.size (w.alloc (bxR n x1 x2 x3)) wq by rw [hwq]; exact below_drewN B.out nq)
        have O := Lib.hid (show OwnR wq (w.alloc (bxR n x1 x2 x3)).heap.size (.slice A0 k c0') (l.take k) by rw [hwq]; exact O.out.drew nq)
        clear hwq
        have hz := B.out.size
        clear g0 c0 d8
        obtain ⟨b', p', e', _, g0, g1, g2, g3, g4, g5, g6, g7⟩ := rt_cell ((HA.out.next (alloc_below w (bxR n x1 x2 x3))).below B.out) k hlt
        simp only [Option.some.injEq, Addr.mk.injEq, and_true] at e'
        obtain ⟨rfl, rfl⟩ := e'
        rw [HX.out] at g0 g1 g2 g3 g4 g5 g6 g7
        simp only at g0 g1 g2 g3 g4 g5 g6 g7
        obtain ⟨v', w', hap, ho', hbb⟩ := O.out.one eRt 22 (y0, y1, y2, y3) #[.int .i64 y0, .int .i64 y1, .int .i64 y2, .int .i64 y3] rfl ⟨g4, g5, g6, g7⟩ (by rw [List.length_take]; omega) hz
        have O2 := Lib.hid (show OwnR w' (w.alloc (bxR n x1 x2 x3)).heap.size v' (l.take (k + 1)) by rw [take_one l k hlt, HX.out]; exact ho')
        have B2 := Lib.hid (B.out.trans hbb)
        clear ho' hbb
        go_wp2_with (at_builtin; refine Lib.wpList_append_run _ rfl _ _ _ _ rfl _ _ rfl rfl _ _ hap ?_)
        go_roundw
        case rel => exact ⟨k + 1, by go_num, hlt, O2.out, HP2, B2.out⟩
        case measure => simp [intOf]; omega
      · as_aux_lemma =>
        have d8 := df hq
        have KP := Lib.hid (pos_of2 n l k hk HP.out (fun h => by rw [HX.out]; exact hq))
        have hck : ¬ c = k := by omega
        clear hq HX HP
        go_wp2_with fail
        go_quiet (fail)
        obtain ⟨wq, hwq⟩ : ∃ wq, wq = wr.drewN nq := ⟨_, rfl⟩
        rw [← hwq]
        have B := Lib.hid (show Below (w.alloc (bxR n x1 x2 x3)).heap.size (w.alloc (bxR n x1 x2 x3)) wq by rw [hwq]; exact below_drewN B.out nq)
        have O := Lib.hid (show OwnR wq (w.alloc (bxR n x1 x2 x3)).heap.size (.slice A0 k c0') (l.take k) by rw [hwq]; exact O.out.drew nq)
        clear hwq
        have hz := B.out.size
        clear g0 c0 d8
        obtain ⟨c0, c1, c2, c3⟩ := box4 B.out
        obtain ⟨va, wa, hap1, hoa, hba⟩ := O.out.one eRt 22 (n, x1, x2, x3) #[.int .i64 n, .int .i64 x1, .int .i64 x2, .int .i64 x3] rfl HE.out (by rw [List.length_take]; omega) hz
        obtain ⟨A4, c4, e4, _⟩ := hoa.form
        have hl4 : (l.take k ++ [(n, x1, x2, x3)]).length = k + 1 := by rw [List.length_append, List.length_take, Nat.min_eq_left hk]; rfl
        rw [hl4] at e4
        subst e4
        have OA := Lib.hid hoa
        have BA := Lib.hid (B.out.trans hba)
        have hza := BA.out.size
        clear hoa hba hl4
        have q3 : (0 : Int) ≤ (k : Int) := by omega
        have q4 : (k : Int) ≤ (l.length : Int) := by omega
        obtain ⟨vb, wb, hap2, hob, hbb, _⟩ := OA.out.app eRt (c := c - k) 22 (flat_drop (((HA.out.next (alloc_below w (bxR n x1 x2 x3))).below BA.out).mono BA.out.size) k) (by rw [List.length_append, List.length_take, List.length_drop]; simp; omega) hza
        simp only [Option.map_some, add_off] at hap2
        rw [show fR.sz = 4 from rfl] at hap2
        rw [List.length_drop] at hap2
        have OB := Lib.hid (show OwnR wb (w.alloc (bxR n x1 x2 x3)).heap.size vb (l.take k ++ [(n, x1, x2, x3)] ++ l.drop k) from hob)
        have BB := Lib.hid (BA.out.trans hbb)
        have RF := Lib.hid (show L = l.take k ++ [(n, x1, x2, x3)] ++ l.drop k by rw [HL.out, ← KP.out])
        clear hob hbb
        go_upto_region 8 with (at_builtin; refine Lib.wpList_append_run _ rfl _ _ _ _ rfl _ _ rfl rfl _ _ hap1 ?_)
        clear hap1
        go_wp2_with (at_builtin; refine Lib.wpList_append_run _ rfl _ _ _ _ rfl _ _ rfl rfl _ _ hap2 ?_)
        go_ret
        exact ⟨_, rfl, by rw [RF.out]; exact OB.out.down (by simp), ((Below.refl _ _).alloc (Nat.le_refl _) (bxR n x1 x2 x3)).trans (BB.out.mono (by simp))⟩
    · as_aux_lemma =>
      have KP := Lib.hid (pos_of2 n l k hk HP.out (fun h => absurd h hlt))
      have DR := Lib.hid (show l.drop k = [] from List.drop_eq_nil_of_le (by omega))
      obtain ⟨c0, _⟩ := box4 hb
      have d7 := df (show ¬ (k : Int) < (l.length : Int) by omega)
      clear hb ho HP
      go_wp2_with fail
      go_quiet (fail)
      obtain ⟨wq, hwq⟩ : ∃ wq, wq = wr.drewN nq := ⟨_, rfl⟩
      rw [← hwq]
      have B := Lib.hid (show Below (w.alloc (bxR n x1 x2 x3)).heap.size (w.alloc (bxR n x1 x2 x3)) wq by rw [hwq]; exact below_drewN B.out nq)
      have O := Lib.hid (show OwnR wq (w.alloc (bxR n x1 x2 x3)).heap.size (.slice A0 k c0') (l.take k) by rw [hwq]; exact O.out.drew nq)
      clear hwq
      have hz := B.out.size
      clear c0 d7
      obtain ⟨c0, c1, c2, c3⟩ := box4 B.out
      obtain ⟨va, wa, hap1, hoa, hba⟩ := O.out.one eRt 22 (n, x1, x2, x3) #[.int .i64 n, .int .i64 x1, .int .i64 x2, .int .i64 x3] rfl HE.out (by rw [List.length_take]; omega) hz
      obtain ⟨A4, c4, e4, _⟩ := hoa.form
      have hl4 : (l.take k ++ [(n, x1, x2, x3)]).length = k + 1 := by rw [List.length_append, List.length_take, Nat.min_eq_left hk]; rfl
      rw [hl4] at e4
      subst e4
      have OA := Lib.hid hoa
      have BA := Lib.hid (B.out.trans hba)
      have hza := BA.out.size
      clear hoa hba hl4
      have q3 : (0 : Int) ≤ (k : Int) := by omega
      have q4 : (k : Int) ≤ (l.length : Int) := by omega
      by_cases hck : c = k
      · as_aux_lemma =>
        obtain ⟨vb, wb, hap2, hob, hbb, _⟩ := OA.out.app eRt (c := 0) 22 (show FlAt fR wa wa.heap.size A (l.drop k) by rw [DR.out]; exact FlAt.nil _ _ _) (by rw [List.length_append, List.length_take, List.length_drop]; simp; omega) hza
        rw [List.length_drop] at hap2
        have OB := Lib.hid (show OwnR wb (w.alloc (bxR n x1 x2 x3)).heap.size vb (l.take k ++ [(n, x1, x2, x3)] ++ l.drop k) from hob)
        have BB := Lib.hid (BA.out.trans hbb)
        have RF := Lib.hid (show L = l.take k ++ [(n, x1, x2, x3)] ++ l.drop k by rw [HL.out, ← KP.out])
        clear hob hbb
        go_upto_region 8 with (at_builtin; refine Lib.wpList_append_run _ rfl _ _ _ _ rfl _ _ rfl rfl _ _ hap1 ?_)
        clear hap1
        go_wp2_with (at_builtin; refine Lib.wpList_append_run _ rfl _ _ _ _ rfl _ _ rfl rfl _ _ hap2 ?_)
        go_ret
        exact ⟨_, rfl, by rw [RF.out]; exact OB.out.down (by simp), ((Below.refl _ _).alloc (Nat.le_refl _) (bxR n x1 x2 x3)).trans (BB.out.mono (by simp))⟩
      · as_aux_lemma =>
        obtain ⟨vb, wb, hap2, hob, hbb, _⟩ := OA.out.app eRt (c := c - k) 22 (show FlAt fR wa wa.heap.size (Option.map (fun x => x.add (k * 4)) A) (l.drop k) by rw [DR.out]; exact FlAt.nil _ _ _) (by rw [List.length_append, List.length_take, List.length_drop]; simp; omega) hza
        rw [List.length_drop] at hap2
        have OB := Lib.hid (show OwnR wb (w.alloc (bxR n x1 x2 x3)).heap.size vb (l.take k ++ [(n, x1, x2, x3)] ++ l.drop k) from hob)
        have BB := Lib.hid (BA.out.trans hbb)
        have RF := Lib.hid (show L = l.take k ++ [(n, x1, x2, x3)] ++ l.drop k by rw [HL.out, ← KP.out])
        clear hob hbb
        go_upto_region 8 with (at_builtin; refine Lib.wpList_append_run _ rfl _ _ _ _ rfl _ _ rfl rfl _ _ hap1 ?_)
        clear hap1
        go_wp2_with (at_builtin; refine Lib.wpList_append_run _ rfl _ _ _ _ rfl _ _ rfl rfl _ _ hap2 ?_)
        go_ret
        exact ⟨_, rfl, by rw [RF.out]; exact OB.out.down (by simp), ((Below.refl _ _).alloc (Nat.le_refl _) (bxR n x1 x2 x3)).trans (BB.out.mono (by simp))⟩
end Go.Proofs.Ytcfnkfkdhcejeaa.Rte
