/- AddrFree and AddrProbes walked. -/
import Derived.Test.YtjhnilfnnongeaaAdK
set_option linter.unusedVariables false
namespace Go.Proofs.Ytjhnilfnnongeaa.Adr
open Go.RowKit

set_option maxRecDepth 100000 in
set_option maxHeartbeats 4000000 in
theorem law_free (w : World) (e : Int) (A : Option Addr) (c : Nat) (l : List Int) (he : 0 ≤ e ∧ e < 18446744073709551616) (hl : l.length ≤ 9223372036854775807) (hA : FlAt fI w w.heap.size A l) :
    Calls Try.prog 8 #[.int .u64 e, .slice A l.length c] w (OutB w true) := by
  have HA := Lib.hid hA
  clear hA
  by_cases h300 : 300 < l.length
  · have d := dt h300
    go_enter Try.func8, Try.ntmps8
    go_wp2_with fail
    refine (awake_any _).mono ?_
    rintro _ w1 ⟨rfl, hb⟩
    have B1 := Lib.hid hb
    clear hb
    go_wp2_with fail
    go_ret
    exact outB rfl B1.out
  have d := df h300
  have K1 := Lib.hid (fun w hA => afirst_any A c l e w he (by omega) hA)
  have AM := Lib.hid (fun n w hA (hn : n ∈ l) => (show Calls Try.prog 25 #[.slice A l.length c, .int .i64 n] w (fun e w' => e = .returned (.bool true) ∧ w = w') by have := lamong_any A c l n w (by omega) hA; rwa [decide_eq_true hn] at this))
  have AN := Lib.hid (fun n w hA (hn : n ∉ l) => (show Calls Try.prog 25 #[.slice A l.length c, .int .i64 n] w (fun e w' => e = .returned (.bool false) ∧ w = w') by have := lamong_any A c l n w (by omega) hA; rwa [decide_eq_false hn] at this))
  unfold OutFr at K1
  rcases frs_is e l with ⟨t, ht, h1, h2, h3⟩ | ⟨h1, h2⟩
  · rw [h1, show frV (some t) e = .tuple #[.int .i64 (t : Int), .int .i64 (pk e t), .bool true] from rfl] at K1
    have H2 := Lib.hid h2
    have H3 := Lib.hid h3
    have PK := Lib.hid (fun (s : Nat) w (hs : s < 300) => apick_any e (s : Int) w he (by unfold I64; omega))
    obtain ⟨a, ha⟩ : ∃ a, a = pk e (t : Int) := ⟨_, rfl⟩
    have PA := Lib.hid (fun w => (show Calls Try.prog 13 #[.int .u64 e, .int .i64 (t : Int)] w (OutI w a) by rw [ha]; exact PK.out t w (by omega)))
    rw [← ha] at K1 H3
    clear h1 h2 h3 ha
    go_enter Try.func8, Try.ntmps8
    go_wp2_with fail
    refine (K1.out _ HA.out).mono ?_
    rintro _ w1 ⟨rfl, hb⟩
    have B1 := Lib.hid hb
    clear hb
    go_wp2_with fail
    refine (PA.out _).mono ?_
    rintro _ w2 ⟨rfl, hb⟩
    have B2 := Lib.hid (B1.out.trans (hb.mono B1.out.size))
    clear hb
    go_wp2_with fail
    refine (AN.out _ _ (HA.out.next B2.out) H3.out).mono ?_
    rintro _ w3 ⟨rfl, rfl⟩
    go_wp2_with fail
    go_loopw [9] (fun i wr => ∃ k : Nat, i = .int .i64 k ∧ k ≤ t ∧ Below w.heap.size w wr) (fun i _ => t - (intOf i).toNat)
    case atStart => exact ⟨0, rfl, Nat.zero_le _, B2.out⟩
    case round =>
      obtain ⟨k, rfl, hk, hb⟩ := hrel
      have B := Lib.hid hb
      clear hb
      by_cases hlt : k < t
      · have IN := Lib.hid (H2.out k hlt)
        go_wp2_with fail
        refine (PK.out k _ (by omega)).mono ?_
        rintro _ w4 ⟨rfl, hb⟩
        have B4 := Lib.hid (B.out.trans (hb.mono B.out.size))
        clear hb
        generalize pk e (k : Int) = q at *
        go_wp2_with fail
        refine (AM.out _ _ (HA.out.next B4.out) IN.out).mono ?_
        rintro _ w5 ⟨rfl, rfl⟩
        go_wp2_with fail
        go_roundw
        case rel => exact ⟨k + 1, by go_num, hlt, B4.out⟩
        case measure => simp [intOf]; omega
      · obtain rfl : k = t := by omega
        go_wp2_with fail
        refine (awake_any _).mono ?_
        rintro _ w4 ⟨rfl, hb⟩
        have B4 := Lib.hid (B.out.trans (hb.mono B.out.size))
        clear hb
        go_wp2_with fail
        go_ret
        exact outB rfl B4.out
  · rw [h1, show frV none e = .tuple #[.int .i64 0, .int .i64 0, .bool false] from rfl] at K1
    have H2 := Lib.hid h2
    clear h1 h2
    go_enter Try.func8, Try.ntmps8
    go_wp2_with fail
    refine (K1.out _ HA.out).mono ?_
    rintro _ w1 ⟨rfl, hb⟩
    have B1 := Lib.hid hb
    clear hb
    go_wp2_with fail
    go_loopw [8] (fun i wr => ∃ k : Nat, i = .int .i64 ((k : Int) + 1) ∧ k ≤ 250 ∧ Below w.heap.size w wr) (fun i _ => 251 - (intOf i).toNat)
    case atStart => exact ⟨0, rfl, Nat.zero_le _, B1.out⟩
    case round =>
      obtain ⟨k, rfl, hk, hb⟩ := hrel
      have B := Lib.hid hb
      clear hb
      by_cases hlt : k < 250
      · have IN := Lib.hid (H2.out ((k : Int) + 1) (by omega) (by omega))
        go_wp2_with fail
        refine (AM.out _ _ (HA.out.next B.out) IN.out).mono ?_
        rintro _ w5 ⟨rfl, rfl⟩
        go_wp2_with fail
        go_roundw
        case rel => exact ⟨k + 1, by go_num, hlt, B.out⟩
        case measure => simp [intOf]; omega
      · obtain rfl : k = 250 := by omega
        go_wp2_with fail
        refine (awake_any _).mono ?_
        rintro _ w4 ⟨rfl, hb⟩
        have B4 := Lib.hid (B.out.trans (hb.mono B.out.size))
        clear hb
        go_wp2_with fail
        go_ret
        exact outB rfl B4.out

/-- Which addresses the first k attempts have. -/
def seen (e t : Int) (k : Nat) (a : Int) : Bool := (List.range k).any fun i : Nat => decide (pk e (t + (i : Int)) = a)
theorem seen_one (e t : Int) (k : Nat) (a : Int) : seen e t (k + 1) a = (seen e t k a || decide (pk e (t + (k : Int)) = a)) := by
  unfold seen
  rw [List.range_succ, List.any_append]
  simp
theorem seen_new {e t : Int} (h : 15 ≤ t) {k : Nat} (hk : k < 250) : seen e t k (pk e (t + (k : Int))) = false := by
  unfold seen
  rw [List.any_eq_false]
  intro i hi he
  have h1 := List.mem_range.1 hi
  have := pk_inj h (by omega) (by omega) (by omega) (by omega) (of_decide_eq_true he)
  omega
def seenRow (e t : Int) (k : Nat) (j : Nat) : Value := .bool (seen e t k (j : Int))
theorem row_seen {w : World} {b n k : Nat} {T : TypeId} {e t : Int} (h : w.rowIs b T n (seenRow e t k)) (a : Nat) (ha : pk e (t + (k : Int)) = (a : Int)) : (w.setCell ⟨b, a, none⟩ (.bool true)).rowIs b T n (seenRow e t (k + 1)) := by
  refine (h.set a _).congr fun j hj => ?_
  unfold seenRow
  rw [seen_one, ha]
  by_cases e1 : j = a
  · subst e1; simp
  · rw [if_neg e1, decide_eq_false (by omega), Bool.or_false]

set_option maxRecDepth 100000 in
set_option maxHeartbeats 8000000 in
theorem law_probes (w : World) (e t : Int) (he : 0 ≤ e ∧ e < 18446744073709551616) (ht : I64 t) :
    Calls Try.prog 7 #[.int .u64 e, .int .i64 t] w (OutB w true) := by
  have P1 := Lib.hid (fun w => apick_any e t w he ht)
  have PR := pk_range e t
  generalize pk e t = q at *
  by_cases h15 : t < 15
  · have d := dt h15
    go_enter Try.func7, Try.ntmps7
    go_wp2_with fail
    refine (P1.out _).mono ?_
    rintro _ w1 ⟨rfl, hb⟩
    have B1 := Lib.hid hb
    clear hb
    go_wp2_with fail
    refine (awake_any _).mono ?_
    rintro _ w2 ⟨rfl, hb⟩
    have B2 := Lib.hid (B1.out.trans (hb.mono B1.out.size))
    clear hb
    go_wp2_with fail
    go_ret
    exact outB rfl B2.out
  have d := df h15
  by_cases h5 : 100000 < t
  · have d2 := dt h5
    go_enter Try.func7, Try.ntmps7
    go_wp2_with fail
    refine (P1.out _).mono ?_
    rintro _ w1 ⟨rfl, hb⟩
    have B1 := Lib.hid hb
    clear hb
    go_wp2_with fail
    refine (awake_any _).mono ?_
    rintro _ w2 ⟨rfl, hb⟩
    have B2 := Lib.hid (B1.out.trans (hb.mono B1.out.size))
    clear hb
    go_wp2_with fail
    go_ret
    exact outB rfl B2.out
  have d2 := df h5
  have PK := Lib.hid (fun (k : Nat) w (hk : k < 300) => apick_any e (t + (k : Int)) w he (by unfold I64; omega))
  have SN := Lib.hid (fun (k : Nat) (hk : k < 250) => seen_new (e := e) (t := t) (by omega) hk)
  have PP := Lib.hid (fun (k : Nat) => pk_range e (t + (k : Int)))
  obtain ⟨Z, hzr, hZ⟩ : ∃ Z : Array Value, (∀ w : World, (zeroValue 41).run Try.prog w = .ok (.agg Z) w) ∧ Z.size = 251 ∧ ∀ i, i < 251 → Z[i]? = some (.bool false) :=
    ⟨Array.replicate 251 (.bool false), fun w => by kernel_rfl, by simp, fun i hi => by rw [Array.getElem?_replicate]; simp [hi]⟩
  have HZ := Lib.hid hZ
  clear hZ
  go_enter Try.func7, Try.ntmps7
  go_wp2_with fail
  refine (P1.out _).mono ?_
  rintro _ w1 ⟨rfl, hb⟩
  have B1 := Lib.hid hb
  clear hb
  have B1' := Lib.hid (B1.out.alloc B1.out.size (.cells Z 41))
  have R0 := Lib.hid (show (w1.alloc (.cells Z 41)).rowIs w1.heap.size 41 251 (seenRow e t 0) by
    have := World.rowIs_alloc w1 Z 41 (seenRow e t 0) (fun i hi => by rw [HZ.out.2 i (by rw [← HZ.out.1]; exact hi)]; rfl)
    rw [HZ.out.1] at this
    exact this)
  have hz1 := B1.out.size
  go_wp2_with fail
  clear hzr
  go_loopw [5, 7] (fun v i wr => ∃ k : Nat, i = .int .i64 k ∧ k ≤ 250 ∧ (∃ q : Int, v = .int .i64 q) ∧ wr.rowIs w1.heap.size 41 251 (seenRow e t k) ∧ Below w.heap.size w wr) (fun _ i _ => 250 - (intOf i).toNat)
  case atStart => exact ⟨0, rfl, Nat.zero_le _, ⟨_, rfl⟩, R0.out, B1'.out⟩
  case round =>
    obtain ⟨k, rfl, hk, ⟨q0, rfl⟩, hrow, hb⟩ := hrel
    have B := Lib.hid hb
    have hz := hb.size
    have R := Lib.hid hrow
    have hlt0 := hrow.lt
    clear hb hrow
    by_cases hlt : k < 250
    · obtain ⟨a1, a2⟩ := PP.out k
      have SK := Lib.hid (SN.out k hlt)
      obtain ⟨a, ha⟩ : ∃ a : Nat, pk e (t + (k : Int)) = (a : Int) := ⟨(pk e (t + (k : Int))).toNat, by omega⟩
      have HA := Lib.hid ha
      have PKk := Lib.hid (fun w => (show Calls Try.prog 13 #[.int .u64 e, .int .i64 (t + (k : Int))] w (OutI w (a : Int)) by rw [← ha]; exact PK.out k w (by omega)))
      rw [ha] at SK a1 a2
      clear ha
      go_wp2_with fail
      refine (PKk.out _).mono ?_
      rintro _ w2 ⟨rfl, hb⟩
      have B2 := Lib.hid (B.out.trans (hb.mono hz))
      have R2 := Lib.hid (R.out.of_block (hb.block _ hlt0))
      have hz2 := hb.size
      clear hb
      have c0 : w2.cell? ⟨w1.heap.size, a, none⟩ = some (.bool false) := by rw [R2.out.cell (show a < 251 by omega)]; show some (Value.bool (seen e t k (a : Int))) = _; rw [SK.out]
      have f0 := R2.out.frozen a
      have R3 := Lib.hid (row_seen R2.out a HA.out)
      have B3 := Lib.hid (show Below w.heap.size w (w2.setCell ⟨w1.heap.size, a, none⟩ (.bool true)) from B2.out.setCell hz1 _)
      go_wp2_with fail
      go_roundw
      case rel => exact ⟨k + 1, by go_num, hlt, ⟨_, rfl⟩, R3.out, B3.out⟩
      case measure => simp [intOf]; omega
    · obtain rfl : k = 250 := by omega
      go_wp2_with fail
      refine (awake_any _).mono ?_
      rintro _ w4 ⟨rfl, hb⟩
      have B4 := Lib.hid (B.out.trans (hb.mono B.out.size))
      clear hb
      go_wp2_with fail
      go_ret
      exact outB rfl B4.out
end Go.Proofs.Ytjhnilfnnongeaa.Adr
