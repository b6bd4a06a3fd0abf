/- Contracts of among and of First, on both sides. -/
import Derived.Test.YtjhnilfnnongeaaAdA
set_option linter.unusedVariables false
namespace Go.Proofs.Ytjhnilfnnongeaa.Adr
open Go.RowKit

/-- Maps from ints to bools. -/
abbrev mIB : MapTy Int := ⟨46, 3, 4, fun x => .int .i64 x, fun x => (Lit.int .i64 x).wf = true, okB, .bool false⟩
theorem oIB : mIB.Of Try.prog := int_map Try.underlying46 Try.underlying3 (okB_of Try.underlying4) ⟨false, rfl⟩ (fun w => by kernel_rfl)
abbrev IB (w : World) (b n : Nat) (f : Int → Option Value) : Prop := MpAt mIB Try.prog w b n f
theorem ib_get {w : World} {b n : Nat} {f : Int → Option Value} (h : IB w b n f) (a : Int) (ha : I64 a) : (Instr.lookup 46 (.map (some b)) (.int .i64 a) false).run Try.prog w = .ok ((f a).getD (.bool false)) w := h.get oIB a (i64_wf ha)
theorem ib_put {w : World} {b n : Nat} {f : Int → Option Value} (h : IB w b n f) (a : Int) (ha : I64 a) (x : Bool) (hn : n ≤ 1000000000) :
    ∃ w', (Instr.mapUpdate 46 (.map (some b)) (.int .i64 a) (.bool x)).run Try.prog w = .ok () w' ∧ IB w' b (n + 1) (fun y => if y = a then some (.bool x) else f y) ∧ w.grownBy w' (some b) := h.put oIB a (.bool x) (i64_wf ha) ⟨x, rfl⟩ (by unfold maxLen; omega)
theorem below_put {w0 w w' : World} {B b : Nat} (h : Below B w0 w) (hg : w.grownBy w' (some b)) (hB : B ≤ w.heap.size) (hb : B ≤ b) : Below B w0 w' := h.grown hg hB (fun j hj => by cases hj; exact hb)

set_option maxRecDepth 100000 in
set_option maxHeartbeats 1000000 in
theorem ramong_any (A : Option Addr) (c : Nat) (l : List Int) (n : Int) (w : World) (hl : l.length ≤ 100000) (hA : FlAt fI w w.heap.size A l) :
    Calls Try.prog 26 #[.slice A l.length c, .int .i64 n] w fun e w' => e = .returned (.bool (decide (n ∈ l))) ∧ w = w' := by
  have HA := Lib.hid hA
  clear hA
  go_enter Try.func26, Try.ntmps26
  go_wp2_with fail
  go_loop [5] (fun i => ∃ k : Nat, i = .int .i64 k ∧ k ≤ l.length ∧ (n ∈ l ↔ n ∈ l.drop k)) (fun i => l.length - (intOf i).toNat)
  case atStart => exact ⟨0, rfl, Nat.zero_le _, Iff.rfl⟩
  case round =>
    obtain ⟨k, rfl, hk, hal⟩ := hrel
    by_cases hlt : k < l.length
    · obtain ⟨b, p, rfl, g1, g2, g3⟩ := fI_cell HA.out k hlt
      rw [drop_one l k hlt, List.mem_cons] at hal
      have AL := Lib.hid hal
      clear hal
      generalize l[k] = x at *
      by_cases hx : x = n
      · subst hx
        have R := Lib.hid (show decide (x ∈ l) = true from decide_eq_true (AL.out.2 (Or.inl rfl)))
        clear AL
        go_wp2_with fail
        go_ret
        exact ⟨ret_bool R.out.symm, rfl⟩
      · have R := Lib.hid (show n ∈ l ↔ n ∈ l.drop (k + 1) by rw [AL.out]; exact ⟨fun h => h.resolve_left fun e => hx e.symm, Or.inr⟩)
        have n1 : (x == n) = false := by simpa using hx
        have n2 : decide (x = n) = false := decide_eq_false hx
        clear hx AL
        go_wp2_with fail
        go_round
        case rel => exact ⟨k + 1, by go_num, hlt, R.out⟩
        case measure => simp [intOf]; omega
    · rw [List.drop_eq_nil_of_le (by omega)] at hal
      have R := Lib.hid (show decide (n ∈ l) = false from decide_eq_false fun h => by simpa using hal.1 h)
      clear hal
      go_wp2_with fail
      go_ret
      exact ⟨ret_bool R.out.symm, rfl⟩

set_option maxRecDepth 100000 in
set_option maxHeartbeats 1000000 in
theorem lamong_any (A : Option Addr) (c : Nat) (l : List Int) (n : Int) (w : World) (hl : l.length ≤ 100000) (hA : FlAt fI w w.heap.size A l) :
    Calls Try.prog 25 #[.slice A l.length c, .int .i64 n] w fun e w' => e = .returned (.bool (decide (n ∈ l))) ∧ w = w' := by
  have HA := Lib.hid hA
  clear hA
  go_enter Try.func25, Try.ntmps25
  go_wp2_with fail
  go_loop [5] (fun i => ∃ k : Nat, i = .int .i64 k ∧ k ≤ l.length ∧ (n ∈ l ↔ n ∈ l.drop k)) (fun i => l.length - (intOf i).toNat)
  case atStart => exact ⟨0, rfl, Nat.zero_le _, Iff.rfl⟩
  case round =>
    obtain ⟨k, rfl, hk, hal⟩ := hrel
    by_cases hlt : k < l.length
    · obtain ⟨b, p, rfl, g1, g2, g3⟩ := fI_cell HA.out k hlt
      rw [drop_one l k hlt, List.mem_cons] at hal
      have AL := Lib.hid hal
      clear hal
      generalize l[k] = x at *
      by_cases hx : x = n
      · subst hx
        have R := Lib.hid (show decide (x ∈ l) = true from decide_eq_true (AL.out.2 (Or.inl rfl)))
        clear AL
        go_wp2_with fail
        go_ret
        exact ⟨ret_bool R.out.symm, rfl⟩
      · have R := Lib.hid (show n ∈ l ↔ n ∈ l.drop (k + 1) by rw [AL.out]; exact ⟨fun h => h.resolve_left fun e => hx e.symm, Or.inr⟩)
        have n1 : (x == n) = false := by simpa using hx
        have n2 : decide (x = n) = false := decide_eq_false hx
        clear hx AL
        go_wp2_with fail
        go_round
        case rel => exact ⟨k + 1, by go_num, hlt, R.out⟩
        case measure => simp [intOf]; omega
    · rw [List.drop_eq_nil_of_le (by omega)] at hal
      have R := Lib.hid (show decide (n ∈ l) = false from decide_eq_false fun h => by simpa using hal.1 h)
      clear hal
      go_wp2_with fail
      go_ret
      exact ⟨ret_bool R.out.symm, rfl⟩

/-- What First answers. -/
def frV : Option Nat → Int → Value
  | some t, e => .tuple #[.int .i64 (t : Int), .int .i64 (pk e t), .bool true]
  | none, _ => .tuple #[.int .i64 0, .int .i64 0, .bool false]
def OutFr (w : World) (e : Int) (l : List Int) (r : Ending) (w' : World) : Prop := r = .returned (frV (frs e l) e) ∧ Below w.heap.size w w'
theorem outFr_some {w w' : World} {e : Int} {l : List Int} {t : Nat} (h : frs e l = some t) (hb : Below w.heap.size w w') : OutFr w e l (.returned (.tuple #[.int .i64 (t : Int), .int .i64 (pk e t), .bool true])) w' := ⟨by rw [h]; rfl, hb⟩
theorem outFr_none {w w' : World} {e : Int} {l : List Int} (h : frs e l = none) (hb : Below w.heap.size w w') : OutFr w e l (.returned (.tuple #[.int .i64 0, .int .i64 0, .bool false])) w' := ⟨by rw [h]; rfl, hb⟩
/-- The numbers of the first k that are addresses. -/
def tkn (l : List Int) (a : Int) : Option Value := if 1 ≤ a ∧ a ≤ 250 ∧ a ∈ l then some (.bool true) else none
theorem tkn_snoc (l : List Int) (x : Int) (h : 1 ≤ x ∧ x ≤ 250) (a : Int) : (if a = x then some (Value.bool true) else tkn l a) = tkn (l ++ [x]) a := by
  unfold tkn
  by_cases e : a = x
  · subst e; simp [h]
  · rw [if_neg e]; simp [e]
theorem tkn_out (l : List Int) (x : Int) (h : ¬ (1 ≤ x ∧ x ≤ 250)) (a : Int) : tkn l a = tkn (l ++ [x]) a := by
  unfold tkn
  by_cases e : a = x
  · subst e; rw [if_neg (fun g => h ⟨g.1, g.2.1⟩), if_neg (fun g => h ⟨g.1, g.2.1⟩)]
  · simp [e]
theorem take_one {α : Type} (l : List α) (k : Nat) (h : k < l.length) : l.take (k + 1) = l.take k ++ [l[k]] := List.take_succ_eq_append_getElem h

set_option maxRecDepth 100000 in
set_option maxHeartbeats 2000000 in
theorem rfirst_any (A : Option Addr) (c : Nat) (l : List Int) (e : Int) (w : World) (he : 0 ≤ e ∧ e < 18446744073709551616) (hl : l.length ≤ 100000) (hA : FlAt fI w w.heap.size A l) :
    Calls Try.prog 12 #[.int .u64 e, .slice A l.length c] w (OutFr w e l) := by
  have HA := Lib.hid hA
  have HE := Lib.hid he
  clear hA he
  go_enter Try.func12, Try.ntmps12
  go_wp2_with fail
  go_loopw [7] (fun i wr => ∃ k : Nat, i = .int .i64 k ∧ k ≤ 265 ∧ (∀ s : Nat, s < k → pk e s ∈ l) ∧ Below w.heap.size w wr) (fun i _ => 265 - (intOf i).toNat)
  case atStart => exact ⟨0, rfl, Nat.zero_le _, fun s h => absurd h (by omega), Below.refl _ _⟩
  case round =>
    obtain ⟨k, rfl, hk, hal, hb⟩ := hrel
    have B := Lib.hid hb
    have hz := hb.size
    have AL := Lib.hid hal
    clear hal hb
    by_cases hlt : k < 265
    · go_wp2_with fail
      refine (rpick_any e (k : Int) _ HE.out (by unfold I64; omega)).mono ?_
      rintro _ w2 ⟨rfl, hb⟩
      have B2 := Lib.hid (B.out.trans (hb.mono hz))
      have hz2 := B2.out.size
      clear hb
      have PR := pk_range e (k : Int)
      obtain ⟨a, ha⟩ : ∃ a, a = pk e (k : Int) := ⟨_, rfl⟩
      rw [← ha] at PR ⊢
      have HP := Lib.hid ha
      clear ha
      go_wp2_with fail
      refine (ramong_any A c l a _ hl ((HA.out.below B2.out).mono hz2)).mono ?_
      rintro _ w3 ⟨rfl, rfl⟩
      by_cases hm : a ∈ l
      · have dm := dt hm
        rw [dm]
        clear hm
        have R := Lib.hid (show ∀ s : Nat, s < k + 1 → pk e s ∈ l from fun s hs => by
          rcases Nat.lt_or_ge s k with h | h
          · exact AL.out s h
          · obtain rfl : s = k := by omega
            rw [← HP.out]; exact of_decide_eq_true dm)
        clear dm
        go_wp2_with fail
        go_roundw
        case rel => exact ⟨k + 1, by go_num, hlt, R.out, B2.out⟩
        case measure => simp [intOf]; omega
      · have dm := df hm
        rw [dm]
        have R := Lib.hid (frs_some (e := e) (l := l) (t := k) hlt AL.out (by rw [← HP.out]; exact hm))
        clear hm dm
        go_wp2_with fail
        go_ret3
        rw [HP.out]
        exact outFr_some R.out B2.out
    · obtain rfl : k = 265 := by omega
      have R := Lib.hid (frs_none (e := e) (l := l) AL.out)
      go_wp2_with fail
      go_ret3
      exact outFr_none R.out B.out

set_option maxRecDepth 100000 in
set_option maxHeartbeats 2000000 in
theorem afirst_any (A : Option Addr) (c : Nat) (l : List Int) (e : Int) (w : World) (he : 0 ≤ e ∧ e < 18446744073709551616) (hl : l.length ≤ 100000) (hA : FlAt fI w w.heap.size A l) :
    Calls Try.prog 11 #[.int .u64 e, .slice A l.length c] w (OutFr w e l) := by
  have HA := Lib.hid hA
  have HE := Lib.hid he
  clear hA he
  have hmm := @run_makeMap Try.prog
  have M0 := Lib.hid (show IB (w.alloc (.map #[] 0)) w.heap.size 0 (tkn (l.take 0)) from (MpAt.made w).same fun a => by unfold tkn; simp)
  go_enter Try.func11, Try.ntmps11
  go_wp2_with fail
  clear hmm
  go_loopw [15] (fun i wr => ∃ k : Nat, i = .int .i64 k ∧ k ≤ l.length ∧ IB wr w.heap.size k (tkn (l.take k)) ∧ Below w.heap.size w wr) (fun i _ => l.length - (intOf i).toNat)
  case atStart => exact ⟨0, rfl, Nat.zero_le _, M0.out, alloc_below _ _⟩
  case round =>
    obtain ⟨k, rfl, hk, hm, hb⟩ := hrel
    have B := Lib.hid hb
    have hz := hb.size
    have M := Lib.hid hm
    by_cases hlt : k < l.length
    · obtain ⟨b, p, rfl, g1, g2, g3⟩ := fI_cell (HA.out.below hb) k hlt
      have TK := Lib.hid (take_one l k hlt)
      clear hm hb
      generalize l[k] = x at *
      by_cases h1 : 1 ≤ x
      · have d1 := dt h1
        by_cases h2 : x ≤ 250
        · have d2 := dt h2
          obtain ⟨w', hrun, hm', hg⟩ := ib_put M.out x g3 true (by omega)
          have M2 := Lib.hid (show IB w' w.heap.size (k + 1) (tkn (l.take (k + 1))) by rw [TK.out]; exact hm'.same fun a => tkn_snoc _ x ⟨h1, h2⟩ a)
          have B2 := Lib.hid (below_put B.out hg hz (Nat.le_refl _))
          clear hm' hg
          go_wp2_with fail
          go_roundw
          case rel => exact ⟨k + 1, by go_num, hlt, M2.out, B2.out⟩
          case measure => simp [intOf]; omega
        · have d2 := df h2
          have M2 := Lib.hid (show IB wr w.heap.size (k + 1) (tkn (l.take (k + 1))) by rw [TK.out]; exact (M.out.mono (Nat.le_succ _)).same fun a => tkn_out _ x (by omega) a)
          go_wp2_with fail
          go_roundw
          case rel => exact ⟨k + 1, by go_num, hlt, M2.out, B.out⟩
          case measure => simp [intOf]; omega
      · have d1 := df h1
        have M2 := Lib.hid (show IB wr w.heap.size (k + 1) (tkn (l.take (k + 1))) by rw [TK.out]; exact (M.out.mono (Nat.le_succ _)).same fun a => tkn_out _ x (by omega) a)
        go_wp2_with fail
        go_roundw
        case rel => exact ⟨k + 1, by go_num, hlt, M2.out, B.out⟩
        case measure => simp [intOf]; omega
    · obtain rfl : k = l.length := by omega
      rw [List.take_length] at M
      clear hm hb
      go_wp2_with fail
      go_loopw [28] (fun i ws => ∃ k : Nat, i = .int .i64 k ∧ k ≤ 265 ∧ (∀ s : Nat, s < k → pk e s ∈ l) ∧ IB ws w.heap.size l.length (tkn l) ∧ Below w.heap.size w ws) (fun i _ => 265 - (intOf i).toNat)
      case atStart => exact ⟨0, rfl, Nat.zero_le _, fun s h => absurd h (by omega), M.out, B.out⟩
      case round =>
        obtain ⟨k, rfl, hk, hal, hm, hb⟩ := hrel
        have B := Lib.hid hb
        have hz := hb.size
        have AL := Lib.hid hal
        have M := Lib.hid hm
        clear hal hb hm
        by_cases hlt : k < 265
        · go_wp2_with fail
          refine (apick_any e (k : Int) _ HE.out (by unfold I64; omega)).mono ?_
          rintro _ w2 ⟨rfl, hb⟩
          have B2 := Lib.hid (B.out.trans (hb.mono hz))
          have M2 := Lib.hid (M.out.below hb)
          clear hb
          have PR := pk_range e (k : Int)
          obtain ⟨a, ha⟩ : ∃ a, a = pk e (k : Int) := ⟨_, rfl⟩
          rw [← ha] at PR ⊢
          have HP := Lib.hid ha
          clear ha
          have hget := ib_get M2.out a (by unfold I64; omega)
          by_cases hm : a ∈ l
          · rw [show tkn l a = some (.bool true) from if_pos ⟨PR.1, PR.2, hm⟩, show (some (Value.bool true)).getD (.bool false) = .bool true from rfl] at hget
            have R := Lib.hid (show ∀ s : Nat, s < k + 1 → pk e s ∈ l from fun s hs => by
              rcases Nat.lt_or_ge s k with h | h
              · exact AL.out s h
              · obtain rfl : s = k := by omega
                rw [← HP.out]; exact hm)
            clear hm
            go_wp2_with fail
            go_roundw
            case rel => exact ⟨k + 1, by go_num, hlt, R.out, M2.out, B2.out⟩
            case measure => simp [intOf]; omega
          · rw [show tkn l a = none from if_neg fun h => hm h.2.2, show (none : Option Value).getD (.bool false) = .bool false from rfl] at hget
            have R := Lib.hid (frs_some (e := e) (l := l) (t := k) hlt AL.out (by rw [← HP.out]; exact hm))
            clear hm
            go_wp2_with fail
            go_ret3
            rw [HP.out]
            exact outFr_some R.out B2.out
        · obtain rfl : k = 265 := by omega
          have R := Lib.hid (frs_none (e := e) (l := l) AL.out)
          go_wp2_with fail
          go_ret3
          exact outFr_none R.out B.out
end Go.Proofs.Ytjhnilfnnongeaa.Adr
