/- Contracts of turnsOf, slices.Grow and slices.Concat: rows of turns that the call itself makes. -/
import Derived.Test.YtnocbgimfmgdeaaSC
import Derived.Lib.Walk
import Derived.Lib.SliceRun
import Derived.Lib.AppendZerosOnto
set_option linter.unusedVariables false
namespace Go.Proofs.Ytnocbgimfmgdeaa
open Go.RowKit

/-- A turn's cells. -/
def encT (t : Trn) : List Value := [.int .i64 t.1, .int .i64 t.2.1, .int .i64 t.2.2]
def flT : List Trn → List Value
  | [] => []
  | t :: r => encT t ++ flT r
theorem flT_append (a b : List Trn) : flT (a ++ b) = flT a ++ flT b := by
  induction a with
  | nil => rfl
  | cons t r ih => simp only [List.cons_append, flT, ih, List.append_assoc]
theorem flT_length (a : List Trn) : (flT a).length = a.length * 3 := by
  induction a with
  | nil => rfl
  | cons t r ih => simp only [flT, List.length_append, List.length_cons, ih, encT, List.length_nil]; omega
theorem flT_one (a : List Trn) : ∀ v ∈ flT a, v.oneCell' = true := by
  induction a with
  | nil => intro v h; cases h
  | cons t r ih =>
    intro v h
    rcases List.mem_append.1 h with h | h
    · simp [encT] at h; rcases h with rfl | rfl | rfl <;> rfl
    · exact ih v h
theorem flT_get (a : List Trn) (i : Nat) (hi : i < a.length) : (flT a)[i * 3]? = some (.int .i64 a[i].1) ∧ (flT a)[i * 3 + 1]? = some (.int .i64 a[i].2.1) ∧ (flT a)[i * 3 + 2]? = some (.int .i64 a[i].2.2) := by
  induction a generalizing i with
  | nil => exact absurd hi (by simp)
  | cons t r ih =>
    cases i with
    | zero => exact ⟨rfl, rfl, rfl⟩
    | succ i =>
      have := ih i (by simpa using hi)
      have e : ∀ j, (flT (t :: r))[j + 3]? = (flT r)[j]? := fun j => rfl
      rw [show (i + 1) * 3 = i * 3 + 3 by omega, show i * 3 + 3 + 1 = i * 3 + 1 + 3 by omega, show i * 3 + 3 + 2 = i * 3 + 2 + 3 by omega, e, e, e]
      simpa using this
/-- A row of turns of the call's own. -/
abbrev OwnT (w : World) (B : Nat) (v : Value) (l : List Trn) : Prop := w.ownsRow B 52 3 v l.length (flT l)
/-- A row of turns is handed back. -/
def OutTr (w : World) (l : List Trn) (e : Ending) (w' : World) : Prop := ∃ v, e = .returned v ∧ OwnT w' w.heap.size v l ∧ Below w.heap.size w w'
theorem outTr {w w' : World} {l k : List Trn} {v : Value} (h : l = k) (ho : OwnT w' w.heap.size v k) (hb : Below w.heap.size w w') : OutTr w l (.returned v) w' := by subst h; exact ⟨v, rfl, ho, hb⟩
theorem info_turn : ∃ i, Try.prog.info? 52 = some i ∧ i.zero = some (.agg #[.int .i64 0, .int .i64 0, .int .i64 0]) ∧ i.size = 3 ∧ i.bytes = 24 :=
  info_get (show (Try.prog.info? 52).map (fun i => (i.zero, i.size, i.bytes)) = some (some (.agg #[.int .i64 0, .int .i64 0, .int .i64 0]), 3, 24) by kernel_rfl)
theorem ssix_cells (w : World) (a b c d e f : Value) (T : TypeId) : ∀ j u, [a, b, c, d, e, f][j]? = some u → (w.alloc (.cells #[a, b, c, d, e, f] T)).cell? ((⟨w.heap.size, 0, none⟩ : Addr).add j) = some u := by
  intro j u hu
  match j, hu with
  | 0, hu => simp at hu; subst hu; simp [Addr.add]
  | 1, hu => simp at hu; subst hu; simp [Addr.add]
  | 2, hu => simp at hu; subst hu; simp [Addr.add]
  | 3, hu => simp at hu; subst hu; simp [Addr.add]
  | 4, hu => simp at hu; subst hu; simp [Addr.add]
  | 5, hu => simp at hu; subst hu; simp [Addr.add]
theorem trns_take (j : Int) (l : List Spn) (k : Nat) (h : k < l.length) : trns j (l.take (k + 1)) = trns j (l.take k) ++ trns j [(l[k].1, l[k].2)] := by
  rw [List.take_succ_eq_append_getElem h, trns_append]
theorem trns_no {j f t : Int} (h : vldB (f, t) = false) : trns j [(f, t)] = [] := by
  show (if vldB (f, t) = true then _ else _) = _; rw [h]; rfl
theorem trns_yes {j f t : Int} (h : vldB (f, t) = true) : trns j [(f, t)] = [(f, j, 1), (t, j, -1)] := by
  show (if vldB (f, t) = true then _ else _) = _; rw [h]; rfl

set_option maxRecDepth 100000 in
set_option maxHeartbeats 4000000 in
theorem turns_any (A : Option Addr) (c : Nat) (l : List Spn) (j : Int) (w : World) (hl : l.length ≤ 100000) (hA : SpAt w w.heap.size A l) :
    Calls Try.prog 46 #[.slice A l.length c, .int .i64 j] w (OutTr w (trns j l)) := by
  have HA := Lib.hid hA
  clear hA
  obtain ⟨i0, hi, hz0, hz1', hz2'⟩ := info_turn
  have HI0 := Lib.hid hi
  have HI1 := Lib.hid hz0
  have HI2 := Lib.hid hz1'
  have HI3 := Lib.hid hz2'
  clear hi hz0 hz1' hz2'
  go_enter Try.func46, Try.ntmps46
  go_wp2_with fail
  go_loopw [5, 10] (fun v i wr => ∃ k : Nat, i = .int .i64 k ∧ k ≤ l.length ∧ OwnT wr w.heap.size v (trns j (l.take k)) ∧ Below w.heap.size w wr) (fun _ i _ => l.length - (intOf i).toNat)
  case atStart => exact ⟨0, rfl, Nat.zero_le _, World.ownsRow_nil _ _ _ _, Below.refl _ _⟩
  case round =>
    obtain ⟨k, rfl, hk, hown, hb⟩ := hrel
    have O := Lib.hid hown
    have B := Lib.hid hb
    have hz := hb.size
    by_cases hlt : k < l.length
    · obtain ⟨b, p, rfl, g1, g2, g3, g4, g5⟩ := (HA.out.below hb) k hlt
      have ST := Lib.hid (trns_take j l k hlt)
      have LN := Lib.hid (trns_len j (l.take k))
      clear hown hb
      generalize l[k].1 = f at *
      generalize l[k].2 = t at *
      go_wp2_with fail
      refine (svalid_any _ f t).mono ?_
      rintro e w2 ⟨rfl, hb⟩
      have c0 := box_at hb 0 (v := .int .i64 f) rfl
      have c1 := box_at hb 1 (v := .int .i64 t) rfl
      have O2 := Lib.hid (own_below (O.out.alloc (.cells #[.int .i64 f, .int .i64 t] 37)) hb)
      have B2 := Lib.hid (B.out.trans ((box_below hb).mono hz))
      have hz2 := B2.out.size
      clear hb g1 g2 g3
      cases hv : vldB (f, t) with
      | false =>
        have E := Lib.hid (show trns j (l.take (k + 1)) = trns j (l.take k) by rw [ST.out, trns_no hv, List.append_nil])
        go_wp2_with fail
        go_roundw
        case rel => exact ⟨k + 1, by go_num, hlt, by rw [E.out]; exact O2.out, B2.out⟩
        case measure => simp [intOf]; omega
      | true =>
        have E := Lib.hid (show trns j (l.take (k + 1)) = trns j (l.take k) ++ [(f, j, 1), (t, j, -1)] by rw [ST.out, trns_yes hv])
        have hown := O2.out.alloc (Obj.cells #[.int .i64 f, .int .i64 j, .int .i64 1, .int .i64 t, .int .i64 j, .int .i64 (-1)] 52)
        have H6 := Lib.hid (ssix_cells w2 (.int .i64 f) (.int .i64 j) (.int .i64 1) (.int .i64 t) (.int .i64 j) (.int .i64 (-1)) 52)
        have LT : (l.take k).length ≤ k := by rw [List.length_take]; omega
        have LN2 := Lib.hid (show (trns j (l.take k)).length ≤ 200000 by have := LN.out; omega)
        clear LT
        go_wp2_with (at_builtin; refine wpList_append_own _ rfl (.tmp 16) (.tmp 25) 49 rfl w.heap.size 52 i0 _ 3 24 Try.underlying49 HI0.out HI1.out HI2.out HI3.out rfl (by decide) _ _ _ rfl hown ⟨w2.heap.size, 0, none⟩ 2 2 [.int .i64 f, .int .i64 j, .int .i64 1, .int .i64 t, .int .i64 j, .int .i64 (-1)] rfl rfl H6.out ?c2 ?c3 ?c4 ?c5 ?_)
        case c2 => intro u hu; simp at hu; rcases hu with rfl | rfl | rfl | rfl | rfl | rfl <;> rfl
        case c3 => unfold maxLen; have := LN2.out; omega
        case c4 => have := LN2.out; omega
        case c5 => exact Nat.le_trans hz2 (World.grownBy_alloc _ _ none).size
        intro v' w4 hown' hgrow hxx
        have B4 := Lib.hid ((B2.out.alloc hz2 _).grown hgrow (Nat.le_trans hz2 (World.grownBy_alloc _ _ none).size) (fun q hq => (hown.lt q hq).1))
        have O4 := Lib.hid (show OwnT w4 w.heap.size v' (trns j (l.take (k + 1))) by
          rw [E.out]; unfold OwnT; rw [flT_append, List.length_append]; exact hown')
        clear hown' hgrow hxx hown
        go_wp2_with fail
        go_roundw
        case rel => exact ⟨k + 1, by go_num, hlt, O4.out, B4.out⟩
        case measure => simp [intOf]; omega
    · have E := Lib.hid (show trns j l = trns j (l.take k) by rw [List.take_of_length_le (by omega)])
      clear hown hb
      go_wp2_with fail
      go_ret
      exact outTr E.out O.out B.out
end Go.Proofs.Ytnocbgimfmgdeaa
