/- Contracts of the address of an attempt, on both sides. -/
import Derived.Test.YtjhnilfnnongeaaAdPlain
import Derived.Test.YtjhnilfnnongeaaGD
import Derived.Test.YtjhnilfnnongeaaMp
set_option linter.unusedVariables false
namespace Go.Proofs.Ytjhnilfnnongeaa.Adr
open Go.RowKit
open Digest (u8v byteAt nb bs)

/-- The nine bytes: the first j of them stand. -/
def g9 (k j : Nat) (l : Nat) : Value := if l < j then u8v (byteAt 8 k l) else u8v 0
theorem start9 (k : Nat) (w : World) (T : TypeId) : (w.alloc (Obj.cells #[.int .u8 0, .int .u8 0, .int .u8 0, .int .u8 0, .int .u8 0, .int .u8 0, .int .u8 0, .int .u8 0, .int .u8 0] T)).rowIs w.heap.size T 9 (g9 k 0) := by
  refine World.rowIs_alloc w _ _ _ ?_
  intro i hi
  match i, hi with
  | 0, _ => rfl
  | 1, _ => rfl
  | 2, _ => rfl
  | 3, _ => rfl
  | 4, _ => rfl
  | 5, _ => rfl
  | 6, _ => rfl
  | 7, _ => rfl
  | 8, _ => rfl
theorem next9 {w : World} {b k j : Nat} {T : TypeId} (h : w.rowIs b T 9 (g9 k j)) (v : Value) (hv : v = u8v (byteAt 8 k j)) : (w.setCell ⟨b, j, none⟩ v).rowIs b T 9 (g9 k (j + 1)) := by
  subst hv
  refine (h.set j _).congr fun i hi => ?_
  unfold g9
  by_cases e : i = j
  · subst e; simp
  · by_cases e2 : i < j
    · simp [e, e2, show i < j + 1 by omega]
    · simp [e, e2, show ¬ i < j + 1 by omega]
theorem last9 {w : World} {b k n : Nat} {T : TypeId} (h : w.rowIs b T 9 (g9 k 8)) (v : Value) (hv : v = u8v (UInt8.ofNat n)) : (w.setCell ⟨b, 8, none⟩ v).rowIs b T 9 (fun l => u8v ((nb 8 k ++ [UInt8.ofNat n]).getD l 0)) := by
  subst hv
  refine (h.set 8 _).congr fun i hi => ?_
  unfold g9
  by_cases e : i = 8
  · subst e; simp [nb]
  · have : i < 8 := by omega
    rw [List.getD_eq_getElem?_getD, List.getElem?_append_left (by simpa [nb] using this)]
    simp [e, this, nb]
theorem all9 (k n : Nat) : (List.range 9).map (fun l => (nb 8 k ++ [UInt8.ofNat n]).getD l 0) = nb 8 k ++ [UInt8.ofNat n] := by
  apply List.ext_getElem
  · simp [nb]
  · intro i h1 h2
    simp only [List.getElem_map, List.getElem_range]
    rw [List.getD_eq_getElem?_getD, List.getElem?_eq_getElem h2]
    rfl
theorem byte_of (n : Nat) (h : n ≤ 15) : u8v (UInt8.ofNat n) = .int .u8 (n : Int) := by
  unfold Digest.u8v
  congr 1
  rw [UInt8.toNat_ofNat']
  omega

set_option maxRecDepth 100000 in
set_option maxHeartbeats 1000000 in
theorem hashed_any (k n : Nat) (w : World) (hk : k < 18446744073709551616) (hn : n ≤ 15) :
    Calls Try.prog 27 #[.int .u64 (k : Int), .int .i64 (n : Int)] w (OutI w (hs k n)) := by
  have S := Lib.hid (start9 k w 52)
  have BN := Lib.hid (byte_of n hn)
  have AL := Lib.hid (all9 k n)
  have HS := Lib.hid (show hs k n = 1 + ((Digest.fnv (nb 8 k ++ [UInt8.ofNat n]) % 4294967296 % 250 : Nat) : Int) from rfl)
  have LL := Lib.hid (show (bs (nb 8 k ++ [UInt8.ofNat n])).size ≤ 100000 by rw [Digest.bs_size, List.length_append, Digest.nb_length]; simp)
  go_enter Try.func27, Try.ntmps27
  go_wp2_with fail
  go_loopw [8] (fun i wr => ∃ j : Nat, j ≤ 8 ∧ i = .int .i64 j ∧ wr.rowIs w.heap.size 52 9 (g9 k j) ∧ Below w.heap.size w wr) (fun i _ => 8 - (intOf i).toNat)
  case atStart => exact ⟨0, Nat.zero_le _, rfl, S.out, (Below.refl _ _).alloc (Nat.le_refl _) _⟩
  case round =>
    obtain ⟨j, hj, rfl, hrow, hb⟩ := hrel
    have HR := Lib.hid hrow
    have HB := Lib.hid hb
    by_cases hlt : j < 8
    · have hfr := hrow.frozen j
      have hcl := hrow.cell (i := j) (by omega)
      clear hrow hb
      go_wp2_with fail
      go_roundw
      case rel => exact ⟨j + 1, by omega, by go_num, next9 HR.out _ (val_int (by rw [Digest.byte_int])), HB.out.setCell (Nat.le_refl _) _⟩
      case measure => simp [intOf]; omega
    · obtain rfl : j = 8 := by omega
      have hfr := hrow.frozen 8
      have hcl := hrow.cell (i := 8) (by omega)
      have hcv := Digest.conv_row (cap := 9) (last9 hrow (.int .u8 (n : Int)) BN.out.symm)
      rw [AL.out] at hcv
      have B2 := Lib.hid (show Below w.heap.size w (wr.setCell ⟨w.heap.size, 8, none⟩ (.int .u8 (n : Int))) from HB.out.setCell (Nat.le_refl _) _)
      clear hrow hb HR HB
      go_wp2_with fail
      refine (Digest.fnv_any _ _ LL.out).mono ?_
      rintro e w' ⟨rfl, rfl⟩
      rw [Digest.bs_data]
      have E := HS.out
      clear HS
      generalize Digest.fnv (nb 8 k ++ [UInt8.ofNat n]) = x at *
      have E := Lib.hid E
      go_wp2_with fail
      go_ret
      exact outI (by rw [E.out]; omega) B2.out

set_option maxRecDepth 100000 in
set_option maxHeartbeats 1000000 in
theorem apick_any (e t : Int) (w : World) (he : 0 ≤ e ∧ e < 18446744073709551616) (ht : I64 t) :
    Calls Try.prog 13 #[.int .u64 e, .int .i64 t] w (OutI w (pk e t)) := by
  obtain ⟨k, rfl⟩ : ∃ k : Nat, e = k := ⟨e.toNat, by omega⟩
  have hk : k < 18446744073709551616 := by omega
  have H := Lib.hid (fun n w hn => hashed_any k n w hk hn)
  unfold I64 at ht
  by_cases h : t ≤ 15
  · have d := dt h
    by_cases h0 : 0 ≤ t
    · obtain ⟨n, rfl⟩ : ∃ n : Nat, t = n := ⟨t.toNat, by omega⟩
      have E := Lib.hid (show pk (k : Int) (n : Int) = hs k n by unfold pk; rw [if_pos h]; rfl)
      have N := Lib.hid (show n ≤ 15 by omega)
      go_enter Try.func13, Try.ntmps13
      go_wp2_with fail
      refine (H.out n _ N.out).mono ?_
      rintro e w' ⟨rfl, hb⟩
      have B := Lib.hid hb
      clear hb
      go_wp2_with fail
      go_ret
      exact outI E.out.symm B.out
    · have E := Lib.hid (show pk (k : Int) t = hs k 0 by rw [pk_neg (by omega)]; unfold pk; rw [if_pos (by omega)]; rfl)
      have H0 := Lib.hid (fun w => (show Calls Try.prog 27 #[.int .u64 (k : Int), .int .i64 0] w (OutI w (hs k 0)) from hashed_any k 0 w hk (by omega)))
      have d0 : max t 0 = 0 := by omega
      go_enter Try.func13, Try.ntmps13
      go_wp2_with fail
      refine (H0.out _).mono ?_
      rintro e w' ⟨rfl, hb⟩
      have B := Lib.hid hb
      clear hb
      go_wp2_with fail
      go_ret
      exact outI E.out.symm B.out
  · have d := df h
    have E := Lib.hid (show pk (k : Int) t = (hs k 15 - 1 + (t - 15) % 250) % 250 + 1 by unfold pk; rw [if_neg h]; rfl)
    have R := hs_range k 15
    have H15 := Lib.hid (fun w => (show Calls Try.prog 27 #[.int .u64 (k : Int), .int .i64 15] w (OutI w (hs k 15)) from hashed_any k 15 w hk (by omega)))
    go_enter Try.func13, Try.ntmps13
    go_wp2_with fail
    refine (H15.out _).mono ?_
    rintro e w' ⟨rfl, hb⟩
    have B := Lib.hid hb
    clear hb
    generalize hs k 15 = x at *
    go_wp2_with fail
    go_ret
    exact outI (by rw [E.out]; omega) B.out

theorem make_bytes (w : World) (n : Nat) (hn : n ≤ 1000000) : ∃ w', (Instr.makeSlice 47 (.int .i64 (n : Int)) (.int .i64 (n : Int))).run Try.prog w = .ok (.slice (some ⟨w.heap.size, 0, none⟩) n n) w' ∧ w'.rowIs w.heap.size 5 n (fun _ => u8v 0) ∧ w' = w.alloc (.cells (madeCells #[.int .u8 0] n) 5) :=
  ⟨_, run_make_row' 47 5 (.int .u8 0) 1 Try.underlying47 (by kernel_rfl) rfl .i64 .i64 n (by first | omega | (unfold maxLen; omega)) (by first | omega | (unfold maxLen; omega)) w, World.rowIs_made w _ _ _, rfl⟩

set_option maxRecDepth 100000 in
set_option maxHeartbeats 1000000 in
theorem rhash_any (k n : Nat) (w : World) (hk : k < 18446744073709551616) (hn : n ≤ 15) :
    Calls Try.prog 14 #[.int .u64 (k : Int), .int .i64 (n : Int)] w (OutI w (hs k n)) := by
  have BN := Lib.hid (byte_of n hn)
  have AL := Lib.hid (all9 k n)
  have HS := Lib.hid (show hs k n = 1 + ((Digest.fnv (nb 8 k ++ [UInt8.ofNat n]) % 4294967296 % 250 : Nat) : Int) from rfl)
  have LL := Lib.hid (show (bs (nb 8 k ++ [UInt8.ofNat n])).size ≤ 100000 by rw [Digest.bs_size, List.length_append, Digest.nb_length]; simp)
  obtain ⟨w1, hmk, hrow0, hw1⟩ := make_bytes w 9 (by omega)
  have S := Lib.hid (show w1.rowIs w.heap.size 5 9 (g9 k 0) from hrow0.congr fun i hi => by unfold g9; simp)
  have B1 := Lib.hid (show Below w.heap.size w w1 by rw [hw1]; exact alloc_below _ _)
  have hmk : (Instr.makeSlice 47 (.int .i64 9) (.int .i64 9)).run Try.prog w = .ok (.slice (some ⟨w.heap.size, 0, none⟩) 9 9) w1 := hmk
  have t1 := df (show ¬ (n : Int) < 0 by omega)
  have t2 := df (show ¬ 15 < (n : Int) by omega)
  clear hrow0 hw1
  go_enter Try.func14, Try.ntmps14
  go_wp2_with fail
  go_loopw [6] (fun i wr => ∃ j : Nat, j ≤ 8 ∧ i = .int .i64 j ∧ wr.rowIs w.heap.size 5 9 (g9 k j) ∧ Below w.heap.size w wr) (fun i _ => 8 - (intOf i).toNat)
  case atStart => exact ⟨0, Nat.zero_le _, rfl, S.out, B1.out⟩
  case round =>
    obtain ⟨j, hj, rfl, hrow, hb⟩ := hrel
    have HR := Lib.hid hrow
    have HB := Lib.hid hb
    by_cases hlt : j < 8
    · have hfr := hrow.frozen j
      have hcl := hrow.cell (i := j) (by omega)
      have E8 := Lib.hid (show (8 * (7 - (j : Int))) = 56 - 8 * (j : Int) by omega)
      clear hrow hb
      go_wp2_with fail
      go_roundw
      case rel => exact ⟨j + 1, by omega, by go_num, next9 HR.out _ (val_int (by rw [Digest.byte_int]; try (congr 2; congr 1; omega))), HB.out.setCell (Nat.le_refl _) _⟩
      case measure => simp [intOf]; omega
    · obtain rfl : j = 8 := by omega
      have hfr := hrow.frozen 8
      have hcl := hrow.cell (i := 8) (by omega)
      have hcv := Digest.conv_row (cap := 9) (last9 hrow (.int .u8 (n : Int)) BN.out.symm)
      rw [AL.out] at hcv
      have B2 := Lib.hid (show Below w.heap.size w (wr.setCell ⟨w.heap.size, 8, none⟩ (.int .u8 (n : Int))) from HB.out.setCell (Nat.le_refl _) _)
      clear hrow hb HR HB
      go_wp2_with fail
      refine (Digest.rfnv_any _ _ LL.out).mono ?_
      rintro e w' ⟨rfl, rfl⟩
      rw [Digest.bs_data]
      have E := HS.out
      clear HS
      generalize Digest.fnv (nb 8 k ++ [UInt8.ofNat n]) = x at *
      have E := Lib.hid E
      go_wp2_with fail
      go_ret
      exact outI (by rw [E.out]; omega) B2.out

set_option maxRecDepth 100000 in
set_option maxHeartbeats 1000000 in
theorem rhash_neg (k : Nat) (t : Int) (w : World) (hk : k < 18446744073709551616) (ht : t < 0) :
    Calls Try.prog 14 #[.int .u64 (k : Int), .int .i64 t] w (OutI w (hs k 0)) := by
  have BN := Lib.hid (show u8v (UInt8.ofNat 0) = .int .u8 0 from byte_of 0 (by omega))
  have AL := Lib.hid (all9 k 0)
  have HS := Lib.hid (show hs k 0 = 1 + ((Digest.fnv (nb 8 k ++ [UInt8.ofNat 0]) % 4294967296 % 250 : Nat) : Int) from rfl)
  have LL := Lib.hid (show (bs (nb 8 k ++ [UInt8.ofNat 0])).size ≤ 100000 by rw [Digest.bs_size, List.length_append, Digest.nb_length]; simp)
  obtain ⟨w1, hmk, hrow0, hw1⟩ := make_bytes w 9 (by omega)
  have S := Lib.hid (show w1.rowIs w.heap.size 5 9 (g9 k 0) from hrow0.congr fun i hi => by unfold g9; simp)
  have B1 := Lib.hid (show Below w.heap.size w w1 by rw [hw1]; exact alloc_below _ _)
  have hmk : (Instr.makeSlice 47 (.int .i64 9) (.int .i64 9)).run Try.prog w = .ok (.slice (some ⟨w.heap.size, 0, none⟩) 9 9) w1 := hmk
  have t1 := dt ht
  clear hrow0 hw1
  go_enter Try.func14, Try.ntmps14
  go_wp2_with fail
  go_loopw [6] (fun i wr => ∃ j : Nat, j ≤ 8 ∧ i = .int .i64 j ∧ wr.rowIs w.heap.size 5 9 (g9 k j) ∧ Below w.heap.size w wr) (fun i _ => 8 - (intOf i).toNat)
  case atStart => exact ⟨0, Nat.zero_le _, rfl, S.out, B1.out⟩
  case round =>
    obtain ⟨j, hj, rfl, hrow, hb⟩ := hrel
    have HR := Lib.hid hrow
    have HB := Lib.hid hb
    by_cases hlt : j < 8
    · have hfr := hrow.frozen j
      have hcl := hrow.cell (i := j) (by omega)
      have E8 := Lib.hid (show (8 * (7 - (j : Int))) = 56 - 8 * (j : Int) by omega)
      clear hrow hb
      go_wp2_with fail
      go_roundw
      case rel => exact ⟨j + 1, by omega, by go_num, next9 HR.out _ (val_int (by rw [Digest.byte_int]; try (congr 2; congr 1; omega))), HB.out.setCell (Nat.le_refl _) _⟩
      case measure => simp [intOf]; omega
    · obtain rfl : j = 8 := by omega
      have hfr := hrow.frozen 8
      have hcl := hrow.cell (i := 8) (by omega)
      have hcv := Digest.conv_row (cap := 9) (last9 hrow (.int .u8 0) BN.out.symm)
      rw [AL.out] at hcv
      have B2 := Lib.hid (show Below w.heap.size w (wr.setCell ⟨w.heap.size, 8, none⟩ (.int .u8 0)) from HB.out.setCell (Nat.le_refl _) _)
      clear hrow hb HR HB
      go_wp2_with fail
      refine (Digest.rfnv_any _ _ LL.out).mono ?_
      rintro e w' ⟨rfl, rfl⟩
      rw [Digest.bs_data]
      have E := HS.out
      clear HS
      generalize Digest.fnv (nb 8 k ++ [UInt8.ofNat 0]) = x at *
      have E := Lib.hid E
      go_wp2_with fail
      go_ret
      exact outI (by rw [E.out]; omega) B2.out

set_option maxRecDepth 100000 in
set_option maxHeartbeats 1000000 in
theorem rpick_any (e t : Int) (w : World) (he : 0 ≤ e ∧ e < 18446744073709551616) (ht : I64 t) :
    Calls Try.prog 14 #[.int .u64 e, .int .i64 t] w (OutI w (pk e t)) := by
  obtain ⟨k, rfl⟩ : ∃ k : Nat, e = k := ⟨e.toNat, by omega⟩
  have hk : k < 18446744073709551616 := by omega
  unfold I64 at ht
  by_cases h0 : 0 ≤ t
  · by_cases h : t ≤ 15
    · obtain ⟨n, rfl⟩ : ∃ n : Nat, t = n := ⟨t.toNat, by omega⟩
      rw [show pk (k : Int) (n : Int) = hs k n by unfold pk; rw [if_pos h]; rfl]
      exact rhash_any k n w hk (by omega)
    · have d := df h
      have d2 := df (show ¬ t < 0 by omega)
      have d3 := dt (show 15 < t by omega)
      have H15 := Lib.hid (fun w => (show Calls Try.prog 14 #[.int .u64 (k : Int), .int .i64 15] w (OutI w (hs k 15)) from rhash_any k 15 w hk (by omega)))
      have E := Lib.hid (show pk (k : Int) t = (hs k 15 - 1 + (t - 15) % 250) % 250 + 1 by unfold pk; rw [if_neg h]; rfl)
      have R := hs_range k 15
      go_enter Try.func14, Try.ntmps14
      go_wp2_with fail
      refine (H15.out _).mono ?_
      rintro e w' ⟨rfl, hb⟩
      have B := Lib.hid hb
      clear hb
      generalize hs k 15 = x at *
      go_wp2_with fail
      go_ret
      exact outI (by rw [E.out]; omega) B.out
  · rw [pk_neg (by omega), show pk (k : Int) 0 = hs k 0 by unfold pk; rw [if_pos (by omega)]; rfl]
    exact rhash_neg k t w hk (by omega)
end Go.Proofs.Ytjhnilfnnongeaa.Adr
