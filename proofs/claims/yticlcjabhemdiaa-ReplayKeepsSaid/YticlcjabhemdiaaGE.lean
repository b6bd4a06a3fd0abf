/- Contracts of the keyed checksum and of the sealed form. -/
import Derived.Test.YticlcjabhemdiaaGD
import Derived.Deep.QuietTactic
import Derived.BigQuiet
import Derived.Deep.RegionHeld3
set_option linter.unusedVariables false
namespace Go.Proofs.Yticlcjabhemdiaa.Digest
open Go.RowKit

/-- The keyed checksum of these bytes. -/
def mac (k : Nat) (l : List UInt8) : Nat := fnv (nb 8 k ++ l ++ nb 8 k) / 4294967296
theorem mac_lt (k : Nat) (l : List UInt8) : mac k l < 4294967296 := by
  have := fnv_lt (nb 8 k ++ l ++ nb 8 k); unfold mac; omega
/-- The sealed form. -/
def seald (k : Nat) (l : List UInt8) : List UInt8 := l ++ nb 4 (mac k l)
theorem seald_length (k : Nat) (l : List UInt8) : (seald k l).length = l.length + 4 := by unfold seald; rw [List.length_append, nb_length]
theorem toNat_bytes (s : ByteArray) : s.data.toList.length = s.size := by simp
theorem app_data (s t : ByteArray) : (s ++ t).data.toList = s.data.toList ++ t.data.toList := by simp

set_option maxHeartbeats 1000000 in
theorem mac_any (k : Nat) (s : ByteArray) (w : World) (hk : k < 18446744073709551616) (hs : s.size ≤ 50000) :
    Calls Try.prog 49 #[.int .u64 (k : Int), .string s] w fun e w' => e = .returned (.int .i64 (mac k s.data.toList : Nat)) ∧ Below w.heap.size w w' := by
  have HM := Lib.hid (show mac k s.data.toList = hsh (hsh (fnv (nb 8 k)) s.data.toList) (nb 8 k) / 4294967296 by
    unfold mac fnv; rw [hsh_append, hsh_append])
  have HL := Lib.hid (hsh_lt (nb 8 k) _ (hsh_lt s.data.toList _ (fnv_lt (nb 8 k))))
  have hl : (bs (nb 8 k)).size ≤ 8 := by rw [bs_size, nb_length]; omega
  have F1 := Lib.hid (fnv_lt (nb 8 k))
  have F2 := Lib.hid (hsh_lt s.data.toList _ (fnv_lt (nb 8 k)))
  go_enter Try.func49, Try.ntmps49
  go_wp2_with fail
  refine (key_any k _ hk).mono ?_
  rintro e w1 ⟨rfl, hb1⟩
  have B1 := Lib.hid hb1
  clear hb1
  go_wp2_with fail
  refine (fnv_any _ _ (by omega)).mono ?_
  rintro e w2 ⟨rfl, rfl⟩
  rw [bs_data]
  go_wp2_with fail
  refine (hash_any _ _ _ F1.out (by omega)).mono ?_
  rintro e w2 ⟨rfl, rfl⟩
  go_wp2_with fail
  refine (hash_any _ _ _ F2.out (by omega)).mono ?_
  rintro e w2 ⟨rfl, rfl⟩
  rw [bs_data]
  have hh := HL.out
  generalize hsh (hsh (fnv (nb 8 k)) s.data.toList) (nb 8 k) = x at *
  go_wp2_with fail
  go_ret
  exact ⟨ret_int (by rw [HM.out]; omega), B1.out⟩

set_option maxHeartbeats 1000000 in
theorem rmac_any (k : Nat) (s : ByteArray) (w : World) (hk : k < 18446744073709551616) (hs : s.size ≤ 50000) :
    Calls Try.prog 42 #[.int .u64 (k : Int), .string s] w fun e w' => e = .returned (.int .i64 (mac k s.data.toList : Nat)) ∧ Below w.heap.size w w' := by
  have HM := Lib.hid (show mac k s.data.toList = fnv (nb 8 k ++ s.data.toList ++ nb 8 k) / 4294967296 from rfl)
  have HD := Lib.hid (show (bs (nb 8 k) ++ s ++ bs (nb 8 k)).data.toList = nb 8 k ++ s.data.toList ++ nb 8 k by rw [app_data, app_data, bs_data])
  have hl : (bs (nb 8 k)).size ≤ 8 := by rw [bs_size, nb_length]; omega
  have F := Lib.hid (fnv_lt (nb 8 k ++ s.data.toList ++ nb 8 k))
  go_enter Try.func42, Try.ntmps42
  go_wp2_with fail
  refine (rkey_any k _ hk).mono ?_
  rintro e w1 ⟨rfl, hb1⟩
  have B1 := Lib.hid hb1
  have hsz := hb1.size
  clear hb1
  go_wp2_with fail
  refine (rkey_any k _ hk).mono ?_
  rintro e w2 ⟨rfl, hb2⟩
  have B2 := Lib.hid (B1.out.trans (hb2.mono hsz))
  clear hb2
  go_wp2_with fail
  refine (rfnv_any _ _ (by rw [ByteArray.size_append, ByteArray.size_append]; omega)).mono ?_
  rintro e w3 ⟨rfl, rfl⟩
  have e := HD.out
  rw [e]
  clear e
  have hh := F.out
  generalize fnv (nb 8 k ++ s.data.toList ++ nb 8 k) = x at *
  go_wp2_with fail
  go_ret
  exact ⟨ret_int (by rw [HM.out]; omega), B2.out⟩

theorem mark_start (k : Nat) (w : World) : (w.alloc (Obj.cells #[.int .u8 0, .int .u8 0, .int .u8 0, .int .u8 0] 71)).rowIs w.heap.size 71 4 fun j => u8v (if j < 0 then byteAt 4 k j else 0) := by
  refine World.rowIs_alloc w _ _ _ ?_
  intro i hi
  match i, hi with
  | 0, _ => rfl
  | 1, _ => rfl
  | 2, _ => rfl
  | 3, _ => rfl

set_option maxHeartbeats 1000000 in
theorem mark_any (k : Nat) (s : ByteArray) (w : World) (hk : k < 18446744073709551616) (hs : s.size ≤ 50000) :
    Calls Try.prog 39 #[.int .u64 (k : Int), .string s] w fun e w' => e = .returned (.string (bs (nb 4 (mac k s.data.toList)))) ∧ Below w.heap.size w w' := by
  have hml := mac_lt k s.data.toList
  obtain ⟨m, hm⟩ : ∃ m, mac k s.data.toList = m := ⟨_, rfl⟩
  have HM := Lib.hid hm
  rw [hm] at hml ⊢
  clear hm
  go_enter Try.func39, Try.ntmps39
  go_wp2_with fail
  refine (mac_any k s _ hk hs).mono ?_
  rintro e w1 ⟨rfl, hb1⟩
  have B1 := Lib.hid hb1
  have hsz := hb1.size
  clear hb1
  have e := HM.out
  rw [e]
  clear e
  have S := Lib.hid (mark_start m w1)
  go_wp2_with fail
  go_loopw [11] (fun i wr => ∃ j : Nat, j ≤ 4 ∧ i = .int .i64 j ∧ wr.rowIs w1.heap.size 71 4 (fun l => u8v (if l < j then byteAt 4 m l else 0)) ∧ Below w.heap.size w wr) (fun i _ => 4 - (intOf i).toNat)
  case atStart => exact ⟨0, Nat.zero_le _, rfl, S.out, B1.out.alloc hsz _⟩
  case round =>
    obtain ⟨j, hj, rfl, hrow, hb⟩ := hrel
    have HR := Lib.hid hrow
    have HB := Lib.hid hb
    by_cases hlt : j < 4
    · have hfr := hrow.frozen j
      have hcl := hrow.cell hlt
      clear hrow hb
      go_wp2_with fail
      go_roundw
      case rel => exact ⟨j + 1, by omega, by go_num, row_next HR.out _ (val_int (by rw [byte_int])), HB.out.setCell hsz _⟩
      case measure => simp [intOf]; omega
    · obtain rfl : j = 4 := by omega
      have hcv := conv_row (cap := 4) (row_done hrow)
      rw [nb_row] at hcv
      clear hrow hb
      go_wp2_with fail
      go_ret
      exact ⟨rfl, HB.out⟩

theorem seald_str (k : Nat) (s : ByteArray) : s ++ bs (nb 4 (mac k s.data.toList)) = bs (seald k s.data.toList) := by
  apply of_data; rw [app_data, bs_data, bs_data]; rfl

set_option maxHeartbeats 1000000 in
theorem seal_any (k : Nat) (s : ByteArray) (w : World) (hk : k < 18446744073709551616) (hs : s.size ≤ 50000) :
    Calls Try.prog 25 #[.int .u64 (k : Int), .string s] w fun e w' => e = .returned (.string (bs (seald k s.data.toList))) ∧ Below w.heap.size w w' := by
  have E := Lib.hid (seald_str k s)
  have hl : (bs (nb 4 (mac k s.data.toList))).size ≤ 4 := by rw [bs_size, nb_length]; omega
  go_enter Try.func25, Try.ntmps25
  go_wp2_with fail
  refine (mark_any k s _ hk hs).mono ?_
  rintro e w1 ⟨rfl, hb1⟩
  go_wp2_with fail
  go_ret
  exact ⟨ret_str E.out, hb1⟩
set_option maxHeartbeats 1000000 in
theorem rseal_any (k : Nat) (s : ByteArray) (w : World) (hk : k < 18446744073709551616) (hs : s.size ≤ 50000) :
    Calls Try.prog 28 #[.int .u64 (k : Int), .string s] w fun e w' => e = .returned (.string (bs (seald k s.data.toList))) ∧ Below w.heap.size w w' := by
  have E := Lib.hid (seald_str k s)
  have hl : (bs (nb 4 (mac k s.data.toList))).size ≤ 4 := by rw [bs_size, nb_length]; omega
  have hml := mac_lt k s.data.toList
  go_enter Try.func28, Try.ntmps28
  go_wp2_with fail
  refine (rmac_any k s _ hk hs).mono ?_
  rintro e w1 ⟨rfl, hb1⟩
  have B1 := Lib.hid hb1
  have hsz := hb1.size
  clear hb1
  go_wp2_with fail
  refine (rsum_any _ _ hml).mono ?_
  rintro e w2 ⟨rfl, hb2⟩
  have B2 := Lib.hid (B1.out.trans (hb2.mono hsz))
  clear hb2
  go_wp2_with fail
  go_ret
  exact ⟨ret_str E.out, B2.out⟩

/-- What Open returns: the text, the error. -/
def opn (k : Nat) (l : List UInt8) : List UInt8 × Int :=
  if l.length < 4 then ([], 5) else if l.drop (l.length - 4) = nb 4 (mac k (l.take (l.length - 4))) then (l.take (l.length - 4), 0) else ([], 6)
theorem opn_short (k : Nat) (l : List UInt8) (h : l.length < 4) : opn k l = ([], 5) := by unfold opn; rw [if_pos h]
theorem opn_good (k : Nat) (l : List UInt8) (h : ¬ l.length < 4) (h2 : l.drop (l.length - 4) = nb 4 (mac k (l.take (l.length - 4)))) : opn k l = (l.take (l.length - 4), 0) := by
  unfold opn; rw [if_neg h, if_pos h2]
theorem opn_bad (k : Nat) (l : List UInt8) (h : ¬ l.length < 4) (h2 : ¬ l.drop (l.length - 4) = nb 4 (mac k (l.take (l.length - 4)))) : opn k l = ([], 6) := by
  unfold opn; rw [if_neg h, if_neg h2]
/-- Open returns this. -/
def OutO (w : World) (x : List UInt8 × Int) (e : Ending) (w' : World) : Prop := e = .returned (.tuple #[.string (bs x.1), .int .i64 x.2]) ∧ Below w.heap.size w w'
theorem ext_take (s : ByteArray) (n : Nat) : s.extract 0 n = bs (s.data.toList.take n) := by
  apply of_data; rw [bs_data]; simp [List.extract]
theorem ext_drop (s : ByteArray) (n : Nat) : s.extract n s.size = bs (s.data.toList.drop n) := by
  apply of_data; rw [bs_data]; simp [List.extract]
  exact List.take_of_length_le (by simp)

theorem mark_test (s : ByteArray) (n : Nat) (m : List UInt8) (b : Bool) (h : decide (s.data.toList.drop n = m) = b) : ((s.extract n s.size).toList == (bs m).toList) = b := by
  subst h
  rw [ext_drop, Lib.toList_data, Lib.toList_data, bs_data, bs_data]
  exact Bool.eq_iff_iff.2 (by simp)

set_option maxHeartbeats 2000000 in
theorem open_any (k : Nat) (s : ByteArray) (w : World) (hk : k < 18446744073709551616) (hs : s.size ≤ 50000) :
    Calls Try.prog 31 #[.int .u64 (k : Int), .string s] w (OutO w (opn k s.data.toList)) := by
  by_cases h4 : s.size < 4
  · have HO := Lib.hid (opn_short k s.data.toList (by rw [toNat_bytes]; exact h4))
    go_enter Try.func31, Try.ntmps31
    go_wp2_with fail
    exact bodyPost_ret (v := .tuple #[.string (bs []), .int .i64 5]) (by simp [results, Try.results31, go_sem]; rfl) rfl (by rw [HO.out]; exact ⟨rfl, Below.refl _ _⟩)
  · have h40 : 4 ≤ s.size := by omega
    have HT := Lib.hid (ext_take s (s.size - 4))
    have hx : (s.extract 0 (s.size - 4)).size ≤ 50000 := by rw [ext_take, bs_size, List.length_take]; omega
    have hm : (s.extract 0 (s.size - 4)).data.toList = s.data.toList.take (s.size - 4) := by rw [ext_take, bs_data]
    have HM := Lib.hid hm
    have i0 : (4 : Int) ≤ (s.size : Int) := by omega
    have i1 : (0 : Int) ≤ (s.size : Int) - 4 := by omega
    have i2 : (s.size : Int) - 4 ≤ (s.size : Int) := by omega
    have i3 : ((s.size : Int) - 4).toNat = s.size - 4 := by omega
    clear hm
    by_cases hg : s.data.toList.drop (s.size - 4) = nb 4 (mac k (s.data.toList.take (s.size - 4)))
    · have HO := Lib.hid (opn_good k s.data.toList (by rw [toNat_bytes]; exact h4) (by rw [toNat_bytes]; exact hg))
      have ht := mark_test s (s.size - 4) _ true (decide_eq_true hg)
      clear hg
      go_enter Try.func31, Try.ntmps31
      go_wp2_with fail
      go_region_held3 (fun _ => True) (trivial) (first | (go_at_call 39; refine (mark_any k (s.extract 0 (s.size - 4)) _ hk hx).mono ?_; rintro r w3 ⟨rfl, hb3⟩; have B3 := Lib.hid hb3; clear hb3))
      go_wp2_with fail
      exact bodyPost_ret (v := .tuple #[.string (s.extract 0 (s.size - 4)), .int .i64 0]) (by simp [results, Try.results31, go_sem]) rfl (by rw [HO.out, HT.out, toNat_bytes]; exact ⟨rfl, (Below.refl w.heap.size w).drew.trans (show Below w.heap.size w.drew w3 from B3.out)⟩)
    · have HO := Lib.hid (opn_bad k s.data.toList (by rw [toNat_bytes]; exact h4) (by rw [toNat_bytes]; exact hg))
      have ht := mark_test s (s.size - 4) _ false (decide_eq_false hg)
      clear hg
      go_enter Try.func31, Try.ntmps31
      go_wp2_with fail
      go_region_held3 (fun _ => True) (trivial) (first | (go_at_call 39; refine (mark_any k (s.extract 0 (s.size - 4)) _ hk hx).mono ?_; rintro r w3 ⟨rfl, hb3⟩; have B3 := Lib.hid hb3; clear hb3))
      go_wp2_with fail
      exact bodyPost_ret (v := .tuple #[.string (bs []), .int .i64 6]) (by simp [results, Try.results31, go_sem]; rfl) rfl (by rw [HO.out]; exact ⟨rfl, (Below.refl w.heap.size w).drew.trans (show Below w.heap.size w.drew w3 from B3.out)⟩)

set_option maxHeartbeats 2000000 in
theorem ropen_any (k : Nat) (s : ByteArray) (w : World) (hk : k < 18446744073709551616) (hs : s.size ≤ 50000) :
    Calls Try.prog 33 #[.int .u64 (k : Int), .string s] w (OutO w (opn k s.data.toList)) := by
  by_cases h4 : s.size < 4
  · have HO := Lib.hid (opn_short k s.data.toList (by rw [toNat_bytes]; exact h4))
    go_enter Try.func33, Try.ntmps33
    go_wp2_with fail
    exact bodyPost_ret (v := .tuple #[.string (bs []), .int .i64 5]) (by simp [results, Try.results33, go_sem]; rfl) rfl (by rw [HO.out]; exact ⟨rfl, Below.refl _ _⟩)
  · have h40 : 4 ≤ s.size := by omega
    have HT := Lib.hid (ext_take s (s.size - 4))
    have hx : (s.extract 0 (s.size - 4)).size ≤ 50000 := by rw [ext_take, bs_size, List.length_take]; omega
    have HM := Lib.hid (show (s.extract 0 (s.size - 4)).data.toList = s.data.toList.take (s.size - 4) by rw [ext_take, bs_data])
    have i0 : (4 : Int) ≤ (s.size : Int) := by omega
    have i1 : (0 : Int) ≤ (s.size : Int) - 4 := by omega
    have i2 : (s.size : Int) - 4 ≤ (s.size : Int) := by omega
    have i3 : ((s.size : Int) - 4).toNat = s.size - 4 := by omega
    by_cases hg : s.data.toList.drop (s.size - 4) = nb 4 (mac k (s.data.toList.take (s.size - 4)))
    · have HO := Lib.hid (opn_good k s.data.toList (by rw [toNat_bytes]; exact h4) (by rw [toNat_bytes]; exact hg))
      have ht : ((bs (seald k (s.data.toList.take (s.size - 4)))).toList == s.toList) = true := by
        rw [Lib.toList_data, Lib.toList_data, bs_data]; unfold seald; rw [← hg, List.take_append_drop]; simp
      clear hg
      go_enter Try.func33, Try.ntmps33
      go_wp2_with fail
      refine (rseal_any k (s.extract 0 (s.size - 4)) _ hk hx).mono ?_
      rintro e w3 ⟨rfl, hb3⟩
      have B3 := Lib.hid hb3
      clear hb3
      have e := HM.out
      rw [e]
      clear e
      go_wp2_with fail
      exact bodyPost_ret (v := .tuple #[.string (s.extract 0 (s.size - 4)), .int .i64 0]) (by simp [results, Try.results33, go_sem]) rfl (by rw [HO.out, HT.out, toNat_bytes]; exact ⟨rfl, B3.out⟩)
    · have HO := Lib.hid (opn_bad k s.data.toList (by rw [toNat_bytes]; exact h4) (by rw [toNat_bytes]; exact hg))
      have ht : ((bs (seald k (s.data.toList.take (s.size - 4)))).toList == s.toList) = false := by
        rw [Lib.toList_data, Lib.toList_data, bs_data, beq_eq_false_iff_ne]
        intro e
        apply hg
        have e2 := congrArg (List.drop (s.size - 4)) e
        unfold seald at e2
        rw [List.drop_append_of_le_length (by rw [List.length_take, toNat_bytes]; omega), List.drop_of_length_le (by rw [List.length_take]; omega)] at e2
        exact e2.symm
      clear hg
      go_enter Try.func33, Try.ntmps33
      go_wp2_with fail
      refine (rseal_any k (s.extract 0 (s.size - 4)) _ hk hx).mono ?_
      rintro e w3 ⟨rfl, hb3⟩
      have B3 := Lib.hid hb3
      clear hb3
      have e := HM.out
      rw [e]
      clear e
      go_wp2_with fail
      exact bodyPost_ret (v := .tuple #[.string (bs []), .int .i64 6]) (by simp [results, Try.results33, go_sem]; rfl) rfl (by rw [HO.out]; exact ⟨rfl, B3.out⟩)
end Go.Proofs.Yticlcjabhemdiaa.Digest
