/- Package frag: limited, isId, fits, read, Check, lastOf, nameOf, place; slices.IndexFunc, Index, Contains. -/
import Derived.Test.YtljcjflbfjleoaaFgG
import Derived.Test.YtljcjflbfjleoaaIn
set_option linter.unusedVariables false
namespace Go.Proofs.Ytljcjflbfjleoaa.Frg
open Go.RowKit

theorem plim_any (n : Int) (w : World) : Calls Try.prog 32 #[.int .i64 n] w fun e w' => e = .returned (.int .i64 (tick n)) ∧ w = w' := by
  have R := Lib.hid (show min (max n 0) 1099511627776 = tick n by unfold tick; split <;> (try split) <;> omega)
  go_enter Try.func32, Try.ntmps32
  go_wp2_with fail
  go_ret
  exact ⟨ret_int R.out, rfl⟩
theorem pid_any (n : Int) (w : World) : Calls Try.prog 23 #[.int .i64 n] w fun e w' => e = .returned (.bool (decide (0 ≤ n ∧ n ≤ 255))) ∧ w = w' := by
  by_cases c1 : 0 ≤ n
  · have R := Lib.hid (show decide (0 ≤ n ∧ n ≤ 255) = decide (n ≤ 255) from decide_eq_decide.2 ⟨fun h => h.2, fun h => ⟨c1, h⟩⟩)
    have d1 := dt c1
    generalize decide (0 ≤ n ∧ n ≤ 255) = r at *
    go_enter Try.func23, Try.ntmps23
    go_wp2_with fail
    go_ret
    exact ⟨ret_bool R.out.symm, rfl⟩
  · have R := Lib.hid (show decide (0 ≤ n ∧ n ≤ 255) = false from df (fun h => c1 h.1))
    have d1 := df c1
    generalize decide (0 ≤ n ∧ n ≤ 255) = r at *
    go_enter Try.func23, Try.ntmps23
    go_wp2_with fail
    go_ret
    exact ⟨ret_bool R.out.symm, rfl⟩
set_option maxRecDepth 100000 in
set_option maxHeartbeats 1000000 in
theorem pfits_any (d : ByteArray) (i c : Int) (w : World) (hd : d.size ≤ 9223372036854775807) (hi : 0 ≤ i ∧ i < c ∧ c ≤ 16) : Calls Try.prog 27 #[.string d, .int .i64 i, .int .i64 c] w fun e w' => e = .returned (.bool (decide (Sz i c d.size))) ∧ w = w' := by
  have z1 : IntKind.i64.wrap (c - 1) = c - 1 := by rw [IntKind.wrap_i64] <;> omega
  have z2 : IntKind.i64.wrap (i * 64) = i * 64 := by rw [IntKind.wrap_i64] <;> omega
  have z3 : IntKind.i64.wrap (1000 - i * 64) = 1000 - i * 64 := by rw [IntKind.wrap_i64] <;> omega
  obtain ⟨M, hM⟩ : ∃ M : Int, min (64 : Int) (1000 - i * 64) = M := ⟨_, rfl⟩
  have SZ := Lib.hid (show Sz i c d.size ↔ if i < c - 1 then (d.size : Int) = 64 else if c = 1 then (d.size : Int) ≤ 64 else if c = 16 then 1 ≤ (d.size : Int) ∧ (d.size : Int) ≤ 40 else 1 ≤ (d.size : Int) ∧ (d.size : Int) ≤ 64 from Iff.rfl)
  have hn : (0 : Int) ≤ (d.size : Int) := by omega
  by_cases c1 : i = c - 1
  · have d1 : (i == c - 1) = true := by simpa using c1
    by_cases c2 : c = 1
    · have d2 : (c == 1) = true := by simpa using c2
      have R := Lib.hid (show decide ((d.size : Int) ≤ M) = decide (Sz i c d.size) from decide_eq_decide.2 (by rw [SZ.out, if_neg (by omega), if_pos c2]; omega))
      generalize decide (Sz i c d.size) = r at *
      clear SZ c1 c2 hi
      go_enter Try.func27, Try.ntmps27
      go_wp2_with fail
      go_ret
      exact ⟨ret_bool R.out, rfl⟩
    · have d2 : (c == 1) = false := by simpa using c2
      by_cases c3 : (1 : Int) ≤ (d.size : Int)
      · have d3 := dt c3
        have R := Lib.hid (show decide ((d.size : Int) ≤ M) = decide (Sz i c d.size) from decide_eq_decide.2 (by rw [SZ.out, if_neg (by omega), if_neg c2]; split <;> omega))
        generalize decide (Sz i c d.size) = r at *
        clear SZ c1 c2 c3 hi
        go_enter Try.func27, Try.ntmps27
        go_wp2_with fail
        go_ret
        exact ⟨ret_bool R.out, rfl⟩
      · have d3 := df c3
        have R := Lib.hid (show false = decide (Sz i c d.size) from (decide_eq_false (by rw [SZ.out, if_neg (by omega), if_neg c2]; split <;> omega)).symm)
        generalize decide (Sz i c d.size) = r at *
        clear SZ c1 c2 c3 hi
        go_enter Try.func27, Try.ntmps27
        go_wp2_with fail
        go_ret
        exact ⟨ret_bool R.out, rfl⟩
  · have d1 : (i == c - 1) = false := by simpa using c1
    have d2 : (c == 1) = false := by simp; omega
    by_cases c3 : (64 : Int) ≤ (d.size : Int)
    · have d3 := dt c3
      have R := Lib.hid (show decide ((d.size : Int) ≤ 64) = decide (Sz i c d.size) from decide_eq_decide.2 (by rw [SZ.out, if_pos (by omega)]; omega))
      generalize decide (Sz i c d.size) = r at *
      clear SZ c1 c3 hi
      go_enter Try.func27, Try.ntmps27
      go_wp2_with fail
      go_ret
      exact ⟨ret_bool R.out, rfl⟩
    · have d3 := df c3
      have R := Lib.hid (show false = decide (Sz i c d.size) from (decide_eq_false (by rw [SZ.out, if_pos (by omega)]; omega)).symm)
      generalize decide (Sz i c d.size) = r at *
      clear SZ c1 c3 hi
      go_enter Try.func27, Try.ntmps27
      go_wp2_with fail
      go_ret
      exact ⟨ret_bool R.out, rfl⟩

/-- A piece taken apart. -/
abbrev frV (p : ByteArray) (h : 3 ≤ p.size) : Value := .agg #[.int .i64 ((p[0]'(by omega)).toNat : Int), .int .i64 ((p[1]'(by omega)).toNat : Int), .int .i64 ((p[2]'(by omega)).toNat : Int), .string (dta p)]
theorem four_blk {w : World} {b : Nat} {T : TypeId} {a0 a1 a2 a3 : Value} (h : w.heap[b]? = some (.cells #[a0, a1, a2, a3] T (0, 0))) (b0 b1 b2 b3 : Value) :
    ((((w.setCell ⟨b, 0, none⟩ b0).setCell ⟨b, 1, none⟩ b1).setCell ⟨b, 2, none⟩ b2).setCell ⟨b, 3, none⟩ b3).heap[b]? = some (.cells #[b0, b1, b2, b3] T (0, 0)) := by
  have h1 := blk_set h 0 b0
  rw [show (#[a0, a1, a2, a3] : Array Value).setIfInBounds 0 b0 = #[b0, a1, a2, a3] from rfl] at h1
  have h2 := blk_set h1 1 b1
  rw [show (#[b0, a1, a2, a3] : Array Value).setIfInBounds 1 b1 = #[b0, b1, a2, a3] from rfl] at h2
  have h3 := blk_set h2 2 b2
  rw [show (#[b0, b1, a2, a3] : Array Value).setIfInBounds 2 b2 = #[b0, b1, b2, a3] from rfl] at h3
  have h4 := blk_set h3 3 b3
  rw [show (#[b0, b1, b2, a3] : Array Value).setIfInBounds 3 b3 = #[b0, b1, b2, b3] from rfl] at h4
  exact h4
theorem two_blk {w : World} {b : Nat} {T : TypeId} {a0 a1 : Value} (h : w.heap[b]? = some (.cells #[a0, a1] T (0, 0))) (b0 b1 : Value) :
    ((w.setCell ⟨b, 0, none⟩ b0).setCell ⟨b, 1, none⟩ b1).heap[b]? = some (.cells #[b0, b1] T (0, 0)) := by
  have h1 := blk_set h 0 b0
  rw [show (#[a0, a1] : Array Value).setIfInBounds 0 b0 = #[b0, a1] from rfl] at h1
  have h2 := blk_set h1 1 b1
  rw [show (#[b0, a1] : Array Value).setIfInBounds 1 b1 = #[b0, b1] from rfl] at h2
  exact h2

/-- 's[len(s) - m:]', at most m at the end. -/
theorem plast_any (A A' : Option Addr) (n m c n' c' : Nat) (w : World) (hn : n ≤ 9223372036854775807) (hm : m ≤ 1000) (hr : ∀ W : World, (Instr.sliceAt 31 (.slice A n c) (some (.int .i64 ((n - m : Nat) : Int))) none none).run Try.prog W = .ok (.slice A' n' c') W) :
    Calls Try.prog 33 #[.slice A n c, .int .i64 (m : Int)] w fun e w' => e = .returned (.slice A' n' c') ∧ w = w' := by
  have z1 : IntKind.i64.wrap ((n : Int) - (m : Int)) = (n : Int) - (m : Int) := by rw [IntKind.wrap_i64] <;> omega
  have z2 : max (0 : Int) ((n : Int) - (m : Int)) = ((n - m : Nat) : Int) := by omega
  go_enter Try.func33, Try.ntmps33
  go_wp2_with fail
  go_ret
  exact ⟨rfl, rfl⟩

/-- An entry's name. -/
theorem pname_any (y : Hp) (w : World) : Calls Try.prog 47 #[hpV y] w (OutG w (.agg #[.int .i64 y.x.s, .int .i64 y.x.i])) := by
  obtain ⟨⟨s, i, c, t, h, d⟩, A1, c1, D1, e1⟩ := y
  have X1 : ((w.alloc (bxP ⟨⟨s, i, c, t, h, d⟩, A1, c1, D1, e1⟩)).alloc (.cells #[.int .i64 0, .int .i64 0] 58)).heap[w.heap.size]? = some (bxP ⟨⟨s, i, c, t, h, d⟩, A1, c1, D1, e1⟩) := blk_alloc (blk_new w _) _
  obtain ⟨f0, f1, f2, f3, f4, f5⟩ := hp_block X1
  simp only [Nat.zero_add] at f0 f1 f2 f3 f4 f5
  clear X1
  go_enter Try.func47, Try.ntmps47
  go_wp2_with fail
  refine bodyPost_ret (v := .agg #[.int .i64 s, .int .i64 i]) (by simp [results, Try.results47, go_sem]) rfl (outG_on (grown_alloc w _) (outG_alloc _ rfl))

theorem nm_eq (a b c d : Int) (W : World) : (binOp .eql 58 (.agg #[.int .i64 a, .int .i64 b]) (.agg #[.int .i64 c, .int .i64 d])).run Try.prog W = .ok (.bool ((a == c) && (b == d))) W := by
  have hS : Try.prog.underlying 58 = some (.struct (Try.prog.fieldsOf 58)) := by kernel_rfl
  have hp : Try.prog.stoodInHeld 58 = false := by kernel_rfl
  have u3 := Try.underlying3
  rw [run_eql_struct, show (10000 : Nat) = 9999 + 1 from rfl, run_equalIn_agg W 9999 58 _ _ hS hp]
  simp only [Program.fieldsOf, Try.underlying58]
  go_simp
  by_cases h1 : a = c <;> by_cases h2 : b = d <;> simp [h1, h2]
/-- The closure that tells a name. -/
theorem pkey_any (y : Hp) (s i : Int) (b : Nat) (w : World) (hb : w.heap[b]? = some (.cells #[.int .i64 s, .int .i64 i] 58)) : Calls Try.prog 50 (#[hpV y] ++ #[.pointer (some ⟨b, 0, none⟩)]) w (OutB w (key s i y.x)) := by
  have KN := Lib.hid (fun w => pname_any y w)
  obtain ⟨⟨s', i', c, t, h, d⟩, A1, c1, D1, e1⟩ := y
  simp only at KN ⊢
  have X1 := blk_new w (bxP ⟨⟨s', i', c, t, h, d⟩, A1, c1, D1, e1⟩)
  have B0 := Lib.hid (alloc_below w (bxP ⟨⟨s', i', c, t, h, d⟩, A1, c1, D1, e1⟩))
  have hb1 := blk_alloc hb (bxP ⟨⟨s', i', c, t, h, d⟩, A1, c1, D1, e1⟩)
  obtain ⟨f0, f1, f2, f3, f4, f5⟩ := hp_block X1
  simp only [Nat.zero_add] at f0 f1 f2 f3 f4 f5
  have g0 := blk_cell hb1 0 (v := .int .i64 s) rfl
  have g1 := blk_cell hb1 1 (v := .int .i64 i) rfl
  have hlb := (Array.getElem?_eq_some_iff.1 hb1).1
  have hlx := (Array.getElem?_eq_some_iff.1 X1).1
  have KY := Lib.hid (show (key s i ⟨s', i', c, t, h, d⟩) = (s' == s && i' == i) by unfold key; by_cases h1 : s' = s <;> by_cases h2 : i' = i <;> simp [h1, h2])
  generalize key s i ⟨s', i', c, t, h, d⟩ = K at *
  replace f0 := fun n os => cell_grown hlx f0 n os
  replace f1 := fun n os => cell_grown hlx f1 n os
  replace f2 := fun n os => cell_grown hlx f2 n os
  replace f3 := fun n os => cell_grown hlx f3 n os
  replace f4 := fun n os => cell_grown hlx f4 n os
  replace f5 := fun n os => cell_grown hlx f5 n os
  replace g0 := fun n os => cell_grown hlb g0 n os
  replace g1 := fun n os => cell_grown hlb g1 n os
  clear X1 hb hb1
  have EQ := fun W => nm_eq s' i' s i W
  have mixed := mixedB
  go_enter Try.func50, Try.ntmps50
  go_wp2_with fail
  go_quiet_grown (first | (go_at_call 47; refine grown_out (KN.out _)) | fail)
  go_wp2_with fail
  go_ret
  exact outB KY.out.symm (B0.out.trans ((grown_below _ _ _).mono (by simp)))

/-- The index of the first one of which p holds, or -1. -/
def ixU (p : Hp → Bool) (l : List Hp) : Int := match l.findIdx? p with
  | some i => i
  | none => -1
theorem ixU_hit (p : Hp → Bool) (l : List Hp) (k : Nat) (hk : k < l.length) (h : p l[k] = true) (hn : ∀ j (hj : j < l.length), j < k → p l[j] = false) : ixU p l = k := by
  unfold ixU
  have : l.findIdx? p = some k := List.findIdx?_eq_some_iff_getElem.2 ⟨hk, h, fun j hj => by rw [hn j (by omega) hj]; simp⟩
  rw [this]
theorem ixU_miss (p : Hp → Bool) (l : List Hp) (hn : ∀ j (hj : j < l.length), p l[j] = false) : ixU p l = -1 := by
  unfold ixU
  have : l.findIdx? p = none := List.findIdx?_eq_none_iff.2 fun x hx => by
    obtain ⟨j, hj, rfl⟩ := List.getElem_of_mem hx
    exact hn j hj
  rw [this]
theorem ixU_is (p : Hp → Bool) (l : List Hp) : (ixU p l = -1 ∧ ∀ j (hj : j < l.length), p l[j] = false) ∨ ∃ (i : Nat) (hi : i < l.length), ixU p l = i ∧ p l[i] = true ∧ ∀ j (hj : j < l.length), j < i → p l[j] = false := by
  unfold ixU
  cases h : l.findIdx? p with
  | none => exact Or.inl ⟨rfl, fun j hj => List.findIdx?_eq_none_iff.1 h _ (List.getElem_mem hj)⟩
  | some i =>
    obtain ⟨hi, h1, h2⟩ := List.findIdx?_eq_some_iff_getElem.1 h
    exact Or.inr ⟨i, hi, rfl, h1, fun j hj hji => by have := h2 j hji; simpa using this⟩
theorem ixU_key (l : List Hp) (s i : Int) : ixU (fun y => key s i y.x) l = fnI (xs l) s i := by
  rcases ixU_is (fun y => key s i y.x) l with ⟨h1, h2⟩ | ⟨k, hk, h1, h2, h3⟩
  · rw [h1]
    have e := fi_miss (xs l) s i (fun j hj => by rw [xs_at]; have := h2 j (by simpa using hj); intro q; rw [key_iff.2 q] at this; cases this)
    unfold fnI
    rw [e, if_neg (Nat.lt_irrefl _)]
  · rw [h1]
    have e := fi_hit (xs l) s i k (by simpa using hk) (by rw [xs_at]; exact key_iff.1 h2) (fun j hj hjk => by rw [xs_at]; have := h3 j (by simpa using hj) hjk; intro q; rw [key_iff.2 q] at this; cases this)
    unfold fnI
    rw [e, if_pos (by simpa using hk)]
set_option maxRecDepth 100000 in
set_option maxHeartbeats 2000000 in
theorem pindex_any (g : FuncId) (caps : Array Value) (p : Hp → Bool) (A : Option Addr) (c : Nat) (m : List Hp) (w : World) (hl : m.length ≤ 1000000) (hA : SlS fP w A c m)
    (eg : ∀ args w, (callFunc g args).run Try.prog w = .ok (.enter g args) w) (hp : ∀ x wr, Below w.heap.size w wr → Calls Try.prog g (#[hpV x] ++ caps) wr (OutB wr (p x))) :
    Calls Try.prog 49 #[.slice A m.length c, .func (.func g) #[] caps] w (OutI w (ixU p m)) := by
  have HM := Lib.hid hA
  have HP := Lib.hid hp
  have KH := Lib.hid (fun (k : Nat) (hk : k < m.length) h hn => ixU_hit p m k hk h hn)
  have KM := Lib.hid (fun hn => ixU_miss p m hn)
  clear hA hp
  generalize ixU p m = F at *
  unfold OutB at HP
  go_enter Try.func49, Try.ntmps49
  go_wp2_with fail
  go_loopw [8] (fun vi wr => ∃ n : Nat, n ≤ m.length ∧ vi = .int .i64 (n : Int) ∧ Hid (∀ j (hj : j < m.length), j < n → p m[j] = false) ∧ Below w.heap.size w wr) (fun vi _ => m.length - (intOf vi).toNat)
  case atStart => exact ⟨0, Nat.zero_le _, rfl, Lib.hid fun j hj h => by omega, Below.refl _ _⟩
  case round =>
    obtain ⟨n, hn, rfl, HN, hb⟩ := hrel
    have B := Lib.hid hb
    by_cases hlt : n < m.length
    · obtain ⟨bb, q, rfl, _, hc, _⟩ := hp_cell (HM.out.next hb).1 n hlt
      have KP := Lib.hid (HP.out m[n] wr hb)
      have Y := Lib.hid (fun h => KH.out n hlt h HN.out)
      have N := Lib.hid (show p m[n] = false → ∀ j (hj : j < m.length), j < n + 1 → p m[j] = false from fun h j hj hjn => by
        by_cases e : j = n
        · subst e; exact h
        · exact HN.out j hj (by omega))
      clear KH KM HN hb HP
      generalize p m[n] = z at KP Y N
      obtain ⟨x, hx⟩ : ∃ x, m[n] = x := ⟨_, rfl⟩
      rw [hx] at hc KP
      clear hx
      obtain ⟨⟨s, i, c2, t, h, d⟩, a1, a2, a3, a4⟩ := x
      obtain ⟨g0, g1, g2, g3, g4, g5⟩ := hc
      simp only at g0 g1 g2 g3 g4 g5
      go_wp2_with fail
      refine KP.out.mono ?_
      rintro _ w1 ⟨rfl, hb⟩
      have B1 := Lib.hid (B.out.trans (hb.mono B.out.size))
      clear hb KP
      cases z with
      | false =>
        have E := Lib.hid (N.out rfl)
        clear Y N
        go_wp2_with fail
        go_roundw
        case rel => exact ⟨n + 1, hlt, by go_num, E, B1.out⟩
        case measure => simp [intOf]; omega
      | true =>
        have E := Lib.hid (Y.out rfl)
        clear Y N
        go_wp2_with fail
        go_ret
        exact outI E.out.symm B1.out
    · obtain rfl : n = m.length := by omega
      have E := Lib.hid (KM.out fun j hj => HN.out j hj hj)
      clear hb KH KM HN
      go_wp2_with fail
      go_ret
      exact outI E.out.symm B.out
theorem pplace_any (A : Option Addr) (c : Nat) (l : List Hp) (s i : Int) (w : World) (hl : l.length ≤ 1000000) (hA : SlS fP w A c l) : Calls Try.prog 30 #[.slice A l.length c, .agg #[.int .i64 s, .int .i64 i]] w (OutI w (fnI (xs l) s i)) := by
  have b0 := alloc_below w (.cells #[.int .i64 s, .int .i64 i] 58)
  have X := blk_new w (.cells #[.int .i64 s, .int .i64 i] 58)
  have hw0 : w.heap.size < (w.alloc (.cells #[.int .i64 s, .int .i64 i] 58)).heap.size := by simp
  have eg : ∀ args w, (callFunc 50 args).run Try.prog w = .ok (.enter 50 args) w := enters_of Try.func50 (by kernel_rfl) rfl
  have KI := Lib.hid (pindex_any 50 #[.pointer (some ⟨w.heap.size, 0, none⟩)] (fun y => key s i y.x) A c l _ hl (hA.next b0) eg (fun x wr hb => pkey_any x s i w.heap.size wr (blk_below X hb hw0)))
  rw [ixU_key] at KI
  have B0 := Lib.hid b0
  unfold OutI at KI
  generalize fnI (xs l) s i = F at *
  clear hA b0 X eg
  go_enter Try.func30, Try.ntmps30
  go_wp2_with fail
  refine KI.out.mono ?_
  rintro _ w1 ⟨rfl, hb⟩
  have B1 := Lib.hid (B0.out.trans (hb.mono B0.out.size))
  clear hb
  go_wp2_with fail
  go_ret
  exact outI rfl B1.out

/-- Whether a list of bools has one. -/
theorem pbix_any (A : Option Addr) (c : Nat) (h : List Bool) (v : Bool) (w : World) (hl : h.length ≤ 1000000) (hA : SlS fBo w A c h) : Calls Try.prog 51 #[.slice A h.length c, .bool v] w fun e w' => (∃ n : Int, e = .returned (.int .i64 n) ∧ decide (0 ≤ n) = h.contains v) ∧ w = w' := by
  have HM := Lib.hid hA
  have KH := Lib.hid (fun (k : Nat) (hk : k < h.length) (e : h[k] = v) => (show h.contains v = true from by rw [List.contains_iff_mem]; rw [← e]; exact List.getElem_mem hk))
  have KM := Lib.hid (fun (hn : ∀ j (hj : j < h.length), h[j] ≠ v) => (show h.contains v = false from by
    cases e : h.contains v with
    | false => rfl
    | true =>
      rw [List.contains_iff_mem] at e
      obtain ⟨j, hj, e⟩ := List.getElem_of_mem e
      exact absurd e (hn j hj)))
  clear hA
  generalize h.contains v = F at *
  go_enter Try.func51, Try.ntmps51
  go_wp2_with fail
  go_loop [8] (fun vi => ∃ n : Nat, n ≤ h.length ∧ vi = .int .i64 (n : Int) ∧ Hid (∀ j (hj : j < h.length), j < n → h[j] ≠ v)) (fun vi => h.length - (intOf vi).toNat)
  case atStart => exact ⟨0, Nat.zero_le _, rfl, Lib.hid fun j hj h => by omega⟩
  case round =>
    obtain ⟨n, hn, rfl, HN⟩ := hrel
    by_cases hlt : n < h.length
    · obtain ⟨b, p, rfl, _, hc⟩ := bo_cell HM.out n hlt
      have Y := Lib.hid (fun e => KH.out n hlt e)
      have N := Lib.hid (show h[n] ≠ v → ∀ j (hj : j < h.length), j < n + 1 → h[j] ≠ v from fun e j hj hjn => by
        by_cases q : j = n
        · subst q; exact e
        · exact HN.out j hj (by omega))
      clear KH KM HN
      obtain ⟨x, hx⟩ : ∃ x, h[n] = x := ⟨_, rfl⟩
      rw [hx] at hc Y N
      clear hx
      have q0 : (n : Int) < (h.length : Int) := by omega
      have q1 : (0 : Int) ≤ (n : Int) := by omega
      by_cases e1 : x = v
      · have E := Lib.hid (Y.out e1)
        subst e1
        clear Y N
        cases x <;>
        · go_wp2_with fail
          go_ret
          exact ⟨⟨_, rfl, by rw [E.out]; exact dt q1⟩, rfl⟩
      · have E := Lib.hid (N.out e1)
        clear Y N
        cases x <;> cases v <;> first
        | exact absurd rfl e1
        | · clear e1
            go_wp2_with fail
            go_round
            case rel => exact ⟨n + 1, hlt, by go_num, E⟩
            case measure => simp [intOf]; omega
    · obtain rfl : n = h.length := by omega
      have E := Lib.hid (KM.out fun j hj => HN.out j hj hj)
      clear KH KM HN
      go_wp2_with fail
      go_ret
      exact ⟨⟨-1, rfl, by rw [E.out]; rfl⟩, rfl⟩
theorem pcon_any (A : Option Addr) (c : Nat) (h : List Bool) (v : Bool) (w : World) (hl : h.length ≤ 1000000) (hA : SlS fBo w A c h) : Calls Try.prog 36 #[.slice A h.length c, .bool v] w fun e w' => e = .returned (.bool (h.contains v)) ∧ w = w' := by
  have K := Lib.hid (pbix_any A c h v w hl hA)
  clear hA
  generalize h.contains v = F at *
  go_enter Try.func36, Try.ntmps36
  go_wp2_with fail
  refine K.out.mono ?_
  rintro _ _ ⟨⟨n, rfl, hn⟩, rfl⟩
  have R := Lib.hid hn
  clear hn
  go_wp2_with fail
  go_ret
  exact ⟨ret_bool R.out, rfl⟩
end Go.Proofs.Ytljcjflbfjleoaa.Frg
