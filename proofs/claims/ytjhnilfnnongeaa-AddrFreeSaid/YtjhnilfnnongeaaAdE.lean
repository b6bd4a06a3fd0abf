/- Contracts of Same, Equal, count and both Conflicts. -/
import Derived.Test.YtjhnilfnnongeaaAdD
set_option linter.unusedVariables false
namespace Go.Proofs.Ytjhnilfnnongeaa.Adr
open Go.RowKit

/-- How many have the address. -/
def cnt (l : List Clm) (a : Int) : Nat := l.countP fun c => decide (c.2.1 = a)
theorem cnt_drop (l : List Clm) (k : Nat) (h : k < l.length) (a : Int) : cnt (l.drop k) a = (if l[k].2.1 = a then 1 else 0) + cnt (l.drop (k + 1)) a := by
  rw [drop_one l k h]
  unfold cnt
  rw [List.countP_cons]
  by_cases e : l[k].2.1 = a <;> simp [e]
  omega
theorem cnt_take (l : List Clm) (k : Nat) (h : k < l.length) (a : Int) : cnt (l.take (k + 1)) a = cnt (l.take k) a + (if l[k].2.1 = a then 1 else 0) := by
  rw [take_one l k h]
  unfold cnt
  rw [List.countP_append, List.countP_singleton]
  simp
theorem cnt_le (l : List Clm) (a : Int) : cnt l a ≤ l.length := List.countP_le_length
/-- The addresses up to k that more than one has. -/
def cnfN (l : List Clm) (k : Nat) : List Int := ((List.range k).map fun i : Nat => (i : Int) + 1).filter fun a => decide (1 < cnt l a)
theorem cnfN_yes (l : List Clm) (k : Nat) (h : 1 < cnt l ((k : Int) + 1)) : cnfN l (k + 1) = cnfN l k ++ [(k : Int) + 1] := by
  unfold cnfN
  rw [List.range_succ, List.map_append, List.filter_append]
  simp [h]
theorem cnfN_no (l : List Clm) (k : Nat) (h : ¬ 1 < cnt l ((k : Int) + 1)) : cnfN l (k + 1) = cnfN l k := by
  unfold cnfN
  rw [List.range_succ, List.map_append, List.filter_append]
  simp at h
  simp [h]
theorem cnfN_len (l : List Clm) (k : Nat) : (cnfN l k).length ≤ k := by
  unfold cnfN
  exact Nat.le_trans (List.length_filter_le _ _) (by simp)
theorem cnfN_at (l : List Clm) (k : Nat) : ∀ x ∈ cnfN l k, 1 ≤ x ∧ x ≤ k := fun x hx => by
  unfold cnfN at hx
  obtain ⟨i, hi, rfl⟩ := List.mem_map.1 (List.mem_filter.1 hx).1
  have := List.mem_range.1 hi
  omega
def cnf (l : List Clm) : List Int := if chk l = 0 then cnfN l 250 else []

theorem eInt : Elems Try.prog 23 3 fI.sz := Elems.mk' Try.underlying23 (z := .int .i64 0) (m := 8) (by kernel_rfl) (by decide) rfl

set_option maxRecDepth 100000 in
set_option maxHeartbeats 1000000 in
theorem count_any (A : Option Addr) (c : Nat) (l : List Clm) (a : Int) (w : World) (hl : l.length ≤ 100000) (hA : ClAt w w.heap.size A l) :
    Calls Try.prog 31 #[.slice A l.length c, .int .i64 a] w fun e w' => e = .returned (.int .i64 (cnt l a : Nat)) ∧ w = w' := by
  have HA := Lib.hid hA
  clear hA
  go_enter Try.func31, Try.ntmps31
  go_wp2_with fail
  go_loop [5, 6] (fun n i => ∃ k m : Nat, i = .int .i64 k ∧ n = .int .i64 m ∧ k ≤ l.length ∧ m ≤ k ∧ m + cnt (l.drop k) a = cnt l a) (fun _ i => l.length - (intOf i).toNat)
  case atStart => exact ⟨0, 0, rfl, rfl, Nat.zero_le _, Nat.zero_le _, by simp⟩
  case round =>
    obtain ⟨k, m, rfl, rfl, hk, hmk, hal⟩ := hrel
    by_cases hlt : k < l.length
    · obtain ⟨b, p, rfl, hbw, g0, g1, g2, g3, g4, g5⟩ := cl_cell HA.out k hlt
      rw [cnt_drop l k hlt] at hal
      have AL := Lib.hid hal
      clear hal
      generalize l[k].2.1 = x at *
      by_cases hx : x = a
      · have R := Lib.hid (show m + 1 + cnt (l.drop (k + 1)) a = cnt l a by have := AL.out; rw [if_pos hx] at this; omega)
        subst hx
        clear AL
        go_wp2_with fail
        go_round
        case rel => exact ⟨k + 1, m + 1, by go_num, by go_num, hlt, by omega, R.out⟩
        case measure => simp [intOf]; omega
      · have R := Lib.hid (show m + cnt (l.drop (k + 1)) a = cnt l a by have := AL.out; rw [if_neg hx] at this; omega)
        have n1 : (x == a) = false := by simpa using hx
        have n2 : decide (x = a) = false := df hx
        clear AL hx
        go_wp2_with fail
        go_round
        case rel => exact ⟨k + 1, m, by go_num, rfl, hlt, by omega, R.out⟩
        case measure => simp [intOf]; omega
    · have R := Lib.hid (show m = cnt l a by rw [← hal, List.drop_eq_nil_of_le (by omega)]; rfl)
      clear hal
      go_wp2_with fail
      go_ret
      exact ⟨ret_int (by rw [R.out]), rfl⟩

theorem out_nil (w w' : World) (l : List Clm) (h : ¬ chk l = 0) (hb : Below w.heap.size w w') : OutF fI w (cnf l) (.returned (.slice none 0 0)) w' := outF_nil (if_neg h) hb
theorem out_cnf {w w' : World} {l : List Clm} {v : Value} {B : Nat} (h : chk l = 0) (ho : OwnF fI 3 w' B v (cnfN l 250)) (hb : Below w.heap.size w w') : OutF fI w (cnf l) (.returned v) w' := outF_own (if_pos h) ho hb

set_option maxRecDepth 100000 in
set_option maxHeartbeats 2000000 in
theorem rconf_any (A : Option Addr) (c : Nat) (l : List Clm) (w : World) (hl : l.length ≤ 9223372036854775807) (hA : ClAt w w.heap.size A l) :
    Calls Try.prog 21 #[.slice A l.length c] w (OutF fI w (cnf l)) := by
  have HA := Lib.hid hA
  clear hA
  have CK := Lib.hid (fun w h => rcheck_any A c l w hl h)
  have RN := Lib.hid (fun w' => out_nil w w' l)
  by_cases h0 : chk l = 0
  · have n1 : (chk l != 0) = false := by simpa using h0
    have L24 := Lib.hid ((chk_zero l).1 h0).1
    have H0 := Lib.hid h0
    clear h0 RN
    rw [show chk l = 0 from H0.out] at CK
    clear n1
    go_enter Try.func21, Try.ntmps21
    go_wp2_with fail
    refine (CK.out _ HA.out).mono ?_
    rintro _ w1 ⟨rfl, hb⟩
    have B1 := Lib.hid hb
    clear hb
    go_wp2_with fail
    go_loopw [3, 4] (fun v i wr => ∃ k : Nat, i = .int .i64 ((k : Int) + 1) ∧ k ≤ 250 ∧ OwnF fI 3 wr w.heap.size v (cnfN l k) ∧ Below w.heap.size w wr) (fun _ i _ => 251 - (intOf i).toNat)
    case atStart => exact ⟨0, rfl, Nat.zero_le _, OwnF.nil _ _, B1.out⟩
    case round =>
      obtain ⟨k, rfl, hk, ho, hb⟩ := hrel
      have B := Lib.hid hb
      have hz := hb.size
      have O := Lib.hid ho
      clear hb ho
      by_cases hlt : k < 250
      · go_wp2_with fail
        refine (count_any A c l _ _ (by have := L24.out; omega) ((HA.out.below B.out).mono hz)).mono ?_
        rintro _ w2 ⟨rfl, rfl⟩
        by_cases hc : 1 < cnt l ((k : Int) + 1)
        · have R := Lib.hid (cnfN_yes l k hc)
          obtain ⟨v', w', hap, ho', hbb⟩ := O.out.one eInt 23 ((k : Int) + 1) #[.int .i64 ((k : Int) + 1)] rfl (show I64 ((k : Int) + 1) by unfold I64; omega) (by have := cnfN_len l k; omega) hz
          have O' := Lib.hid (show OwnF fI 3 w' w.heap.size v' (cnfN l (k + 1)) by rw [R.out]; exact ho')
          have B' := Lib.hid (B.out.trans hbb)
          clear ho' hbb
          have hc2 : (1 : Int) < (cnt l ((k : Int) + 1) : Nat) := by omega
          generalize cnt l ((k : Int) + 1) = q at *
          have d1 := dt hc2
          clear hc hc2
          go_wp2_with (at_builtin; refine Lib.wpList_append_run _ rfl _ _ _ _ rfl _ _ rfl rfl _ _ hap ?_)
          go_roundw
          case rel => exact ⟨k + 1, by go_num, hlt, O'.out, B'.out⟩
          case measure => simp [intOf]; omega
        · have R := Lib.hid (cnfN_no l k hc)
          have O' := Lib.hid (show OwnF fI 3 wr w.heap.size _ (cnfN l (k + 1)) by rw [R.out]; exact O.out)
          have hc2 : ¬ (1 : Int) < (cnt l ((k : Int) + 1) : Nat) := by omega
          generalize cnt l ((k : Int) + 1) = q at *
          have d1 := df hc2
          clear hc hc2
          go_wp2_with fail
          go_roundw
          case rel => exact ⟨k + 1, by go_num, hlt, O'.out, B.out⟩
          case measure => simp [intOf]; omega
      · obtain rfl : k = 250 := by omega
        go_wp2_with fail
        go_ret
        exact out_cnf H0.out O.out B.out
  · have n1 : (chk l != 0) = true := by simpa using h0
    have n2 : (chk l == 0) = false := by simpa using h0
    have RN2 := Lib.hid (fun w' => RN.out w' h0)
    generalize chk l = q at *
    have n3 : decide (q = 0) = false := df h0
    clear h0 RN
    go_enter Try.func21, Try.ntmps21
    go_wp2_with fail
    refine (CK.out _ HA.out).mono ?_
    rintro _ w1 ⟨rfl, hb⟩
    have B1 := Lib.hid hb
    clear hb
    go_wp2_with fail
    go_ret
    exact RN2.out _ B1.out

/-- Maps from ints to ints. -/
abbrev mII : MapTy Int := ⟨50, 3, 3, fun x => .int .i64 x, fun x => (Lit.int .i64 x).wf = true, okI .i64, .int .i64 0⟩
theorem oII : mII.Of Try.prog := int_map Try.underlying50 Try.underlying3 (okI_of Try.underlying3) ⟨0, rfl, by decide⟩ (fun w => by kernel_rfl)
abbrev II (w : World) (b n : Nat) (f : Int → Option Value) : Prop := MpAt mII Try.prog w b n f
theorem ii_get {w : World} {b n : Nat} {f : Int → Option Value} (h : II w b n f) (a : Int) (ha : I64 a) : (Instr.lookup 50 (.map (some b)) (.int .i64 a) false).run Try.prog w = .ok ((f a).getD (.int .i64 0)) w := h.get oII a (i64_wf ha)
theorem ii_put {w : World} {b n : Nat} {f : Int → Option Value} (h : II w b n f) (a : Int) (ha : I64 a) (x : Int) (hx : I64 x) (hn : n ≤ 1000000000) :
    ∃ w', (Instr.mapUpdate 50 (.map (some b)) (.int .i64 a) (.int .i64 x)).run Try.prog w = .ok () w' ∧ II w' b (n + 1) (fun y => if y = a then some (.int .i64 x) else f y) ∧ w.grownBy w' (some b) := h.put oII a (.int .i64 x) (i64_wf ha) ⟨x, rfl, i64_wf hx⟩ (by unfold maxLen; omega)
/-- The counts. -/
def cf (l : List Clm) (a : Int) : Option Value := if cnt l a = 0 then none else some (.int .i64 (cnt l a : Nat))
theorem cf_get (l : List Clm) (a : Int) : (cf l a).getD (.int .i64 0) = .int .i64 (cnt l a : Nat) := by
  unfold cf
  split
  · rename_i h; rw [h]; rfl
  · rfl
theorem cf_put (l : List Clm) (k : Nat) (h : k < l.length) (a : Int) : (if a = l[k].2.1 then some (Value.int .i64 ((cnt (l.take k) l[k].2.1 : Nat) + 1)) else cf (l.take k) a) = cf (l.take (k + 1)) a := by
  unfold cf
  rw [cnt_take l k h a]
  by_cases e : a = l[k].2.1
  · subst e
    rw [if_pos rfl, if_pos rfl, if_neg (by omega)]
    congr 2
  · have e2 : ¬ l[k].2.1 = a := fun h => e h.symm
    rw [if_neg e]
    simp only [if_neg e2, Nat.add_zero]

set_option maxRecDepth 100000 in
set_option maxHeartbeats 2000000 in
theorem aconf_any (A : Option Addr) (c : Nat) (l : List Clm) (w : World) (hl : l.length ≤ 9223372036854775807) (hA : ClAt w w.heap.size A l) :
    Calls Try.prog 20 #[.slice A l.length c] w (OutF fI w (cnf l)) := by
  have HA := Lib.hid hA
  clear hA
  have CK := Lib.hid (fun w h => acheck_any A c l w hl h)
  have RN := Lib.hid (fun w' => out_nil w w' l)
  have hmm := @run_makeMap Try.prog
  by_cases h0 : chk l = 0
  · have L24 := Lib.hid ((chk_zero l).1 h0).1
    have H0 := Lib.hid h0
    clear h0 RN
    rw [show chk l = 0 from H0.out] at CK
    go_enter Try.func20, Try.ntmps20
    go_wp2_with fail
    refine (CK.out _ HA.out).mono ?_
    rintro _ w1 ⟨rfl, hb⟩
    have B1 := Lib.hid hb
    have hz1 := hb.size
    have M0 := Lib.hid (show II (w1.alloc (.map #[] 0)) w1.heap.size 0 (cf (l.take 0)) from (MpAt.made w1).same fun a => by unfold cf cnt; simp)
    clear hb
    go_wp2_with fail
    clear hmm
    go_loopw [14] (fun i wr => ∃ k : Nat, i = .int .i64 k ∧ k ≤ l.length ∧ II wr w1.heap.size k (cf (l.take k)) ∧ Below w.heap.size w wr) (fun i _ => l.length - (intOf i).toNat)
    case atStart => exact ⟨0, rfl, Nat.zero_le _, M0.out, B1.out.alloc hz1 _⟩
    case round =>
      obtain ⟨k, rfl, hk, hm, hb⟩ := hrel
      have B := Lib.hid hb
      have hz := hb.size
      have M := Lib.hid hm
      have hlt0 := hm.lt
      by_cases hlt : k < l.length
      · obtain ⟨b, p, rfl, hbw, g0, g1, g2, g3, g4, g5⟩ := cl_cell (HA.out.below hb) k hlt
        have CP := Lib.hid (cf_put l k hlt)
        have CL := cnt_le (l.take k) l[k].2.1
        have LK : (l.take k).length ≤ k := by rw [List.length_take]; omega
        have L := L24.out
        clear hb hm
        generalize l[k].1 = e at *
        generalize l[k].2.1 = a at *
        generalize l[k].2.2 = t at *
        have M1 := Lib.hid (M.out.alloc (bxC e a t))
        have hget := ii_get M1.out a g4
        rw [cf_get] at hget
        obtain ⟨q, hq⟩ : ∃ q, q = cnt (l.take k) a := ⟨_, rfl⟩
        rw [← hq] at hget CL
        have CP2 := Lib.hid (show ∀ y, (if y = a then some (Value.int .i64 ((q : Int) + 1)) else cf (l.take k) y) = cf (l.take (k + 1)) y by rw [hq]; exact CP.out)
        clear hq CP
        obtain ⟨w2, hput, hm', hg⟩ := ii_put M1.out a g4 ((q : Int) + 1) (by unfold I64; omega) (by omega)
        have M2 := Lib.hid (show II w2 w1.heap.size (k + 1) (cf (l.take (k + 1))) from hm'.same CP2.out)
        have B2 := Lib.hid (below_put (B.out.alloc hz _) hg (Nat.le_trans hz (by simp)) hz1)
        clear hm' hg
        go_wp2_with fail
        go_roundw
        case rel => exact ⟨k + 1, by go_num, hlt, M2.out, B2.out⟩
        case measure => simp [intOf]; omega
      · obtain rfl : k = l.length := by omega
        rw [List.take_length] at M
        have L := L24.out
        have CL := Lib.hid (fun a => cnt_le l a)
        clear hb hm
        obtain ⟨w9, rfl⟩ : ∃ w9, w9 = wr := ⟨wr, rfl⟩
        go_wp2_with fail
        go_loopw [6, 7] (fun v i ws => ∃ k : Nat, i = .int .i64 ((k : Int) + 1) ∧ k ≤ 250 ∧ OwnF fI 3 ws w9.heap.size v (cnfN l k) ∧ II ws w1.heap.size l.length (cf l) ∧ Below w9.heap.size w9 ws) (fun _ i _ => 251 - (intOf i).toNat)
        case atStart => exact ⟨0, rfl, Nat.zero_le _, OwnF.nil _ _, M.out, Below.refl _ _⟩
        case round =>
          obtain ⟨k, rfl, hk, ho, hm, hb⟩ := hrel
          have B2 := Lib.hid hb
          have hz2 := hb.size
          have O := Lib.hid ho
          have M := Lib.hid hm
          clear hb ho hm
          by_cases hlt : k < 250
          · have hget := ii_get M.out ((k : Int) + 1) (by unfold I64; omega)
            rw [cf_get] at hget
            have CQ := CL.out ((k : Int) + 1)
            by_cases hc : 1 < cnt l ((k : Int) + 1)
            · have R := Lib.hid (cnfN_yes l k hc)
              obtain ⟨v', w', hap, ho', hbb⟩ := O.out.one eInt 23 ((k : Int) + 1) #[.int .i64 ((k : Int) + 1)] rfl (show I64 ((k : Int) + 1) by unfold I64; omega) (by have := cnfN_len l k; omega) hz2
              have O' := Lib.hid (show OwnF fI 3 w' w9.heap.size v' (cnfN l (k + 1)) by rw [R.out]; exact ho')
              have B' := Lib.hid (B2.out.trans hbb)
              have M' := Lib.hid (M.out.belowB hbb hlt0)
              clear ho' hbb
              have hc2 : (1 : Int) < (cnt l ((k : Int) + 1) : Nat) := by omega
              generalize cnt l ((k : Int) + 1) = q at *
              have d1 := dt hc2
              clear hc hc2
              go_wp2_with (at_builtin; refine Lib.wpList_append_run _ rfl _ _ _ _ rfl _ _ rfl rfl _ _ hap ?_)
              go_roundw
              case rel => exact ⟨k + 1, by go_num, hlt, O'.out, M'.out, B'.out⟩
              case measure => simp [intOf]; omega
            · have R := Lib.hid (cnfN_no l k hc)
              have O' := Lib.hid (show OwnF fI 3 _ w9.heap.size _ (cnfN l (k + 1)) by rw [R.out]; exact O.out)
              have hc2 : ¬ (1 : Int) < (cnt l ((k : Int) + 1) : Nat) := by omega
              generalize cnt l ((k : Int) + 1) = q at *
              have d1 := df hc2
              clear hc hc2
              go_wp2_with fail
              go_roundw
              case rel => exact ⟨k + 1, by go_num, hlt, O'.out, M.out, B2.out⟩
              case measure => simp [intOf]; omega
          · obtain rfl : k = 250 := by omega
            go_wp2_with fail
            go_ret
            exact out_cnf H0.out O.out (B.out.trans (B2.out.mono hz))
  · have n1 : (chk l != 0) = true := by simpa using h0
    have n2 : (chk l == 0) = false := by simpa using h0
    have RN2 := Lib.hid (fun w' => RN.out w' h0)
    generalize chk l = q at *
    have n3 : decide (q = 0) = false := df h0
    clear h0 RN hmm
    go_enter Try.func20, Try.ntmps20
    go_wp2_with fail
    refine (CK.out _ HA.out).mono ?_
    rintro _ w1 ⟨rfl, hb⟩
    have B1 := Lib.hid hb
    clear hb
    go_wp2_with fail
    go_ret
    exact RN2.out _ B1.out
end Go.Proofs.Ytjhnilfnnongeaa.Adr
