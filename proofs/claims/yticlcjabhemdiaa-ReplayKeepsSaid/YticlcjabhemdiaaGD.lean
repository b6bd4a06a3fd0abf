/- Contracts of the bytes of a key and of a checksum. -/
import Derived.Test.YticlcjabhemdiaaGC
set_option linter.unusedVariables false
namespace Go.Proofs.Yticlcjabhemdiaa.Digest
open Go.RowKit

/-- A list of bytes as a string. -/
def bs (l : List UInt8) : ByteArray := ⟨l.toArray⟩
theorem bs_data (l : List UInt8) : (bs l).data.toList = l := rfl
theorem bs_size (l : List UInt8) : (bs l).size = l.length := by simp [bs, ByteArray.size]
theorem bs_inj {a b : List UInt8} (h : bs a = bs b) : a = b := by have := congrArg (fun s => s.data.toList) h; simpa [bs] using this
theorem of_data {s t : ByteArray} (h : s.data.toList = t.data.toList) : s = t := by
  apply ByteArray.ext; exact Array.toList_inj.1 h
theorem bs_append (a b : List UInt8) : bs a ++ bs b = bs (a ++ b) := of_data (by simp [bs])
theorem bs_self (s : ByteArray) : bs s.data.toList = s := of_data (bs_data _)
theorem str_bs (l : List UInt8) : strOfNums (l.map fun c => (c.toNat : Int)) = bs l := by
  apply of_data
  rw [strOfNums_data, bs_data, List.map_map]
  conv => rhs; rw [← List.map_id l]
  apply List.map_congr_left
  intro c _
  simp

/-- The cell of a byte. -/
abbrev u8v (c : UInt8) : Value := .int .u8 (c.toNat : Int)
/-- A block of bytes as a string. -/
theorem conv_row {w : World} {b n cap : Nat} {T : TypeId} {g : Nat → UInt8} (h : w.rowIs b T n fun j => u8v (g j)) :
    (convert 62 9 (.slice (some ⟨b, 0, none⟩) n cap)).run Try.prog w = .ok (.string (bs ((List.range n).map g))) w := by
  rw [← str_bs]
  refine run_convert_bytes_arg w 62 5 Try.underlying62 Try.underlying5 b 0 n cap _ (by simp) (fun i hi => ?_) 9 Try.underlying9
  rw [Nat.zero_add, h.cell hi]
  simp [List.getD, hi]

theorem key_start (k : Nat) (w : World) : (w.alloc (Obj.cells #[.int .u8 0, .int .u8 0, .int .u8 0, .int .u8 0, .int .u8 0, .int .u8 0, .int .u8 0, .int .u8 0] 82)).rowIs w.heap.size 82 8 fun j => u8v (if j < 0 then byteAt 8 k j else 0) := by
  refine World.rowIs_alloc w _ _ _ ?_
  intro i hi
  match i, hi with
  | 0, _ => rfl
  | 1, _ => rfl
  | 2, _ => rfl
  | 3, _ => rfl
  | 4, _ => rfl
  | 5, _ => rfl
  | 6, _ => rfl
  | 7, _ => rfl

theorem byte_int (n k j : Nat) : ((byteAt n k j).toNat : Int) = (k : Int) / 2 ^ (8 * (n - 1 - j)) % 256 := by
  unfold byteAt
  rw [UInt8.toNat_ofNat']
  simp
theorem row_next {w : World} {b n k j : Nat} {T : TypeId} (h : w.rowIs b T n fun l => u8v (if l < j then byteAt n k l else 0)) (v : Value) (hv : v = u8v (byteAt n k j)) :
    (w.setCell ⟨b, j, none⟩ v).rowIs b T n fun l => u8v (if l < j + 1 then byteAt n k l else 0) := by
  subst hv
  refine (h.set j _).congr fun i hi => ?_
  by_cases e : i = j
  · subst e; simp
  · by_cases e2 : i < j
    · simp [e, e2, show i < j + 1 by omega]
    · simp [e, e2, show ¬ i < j + 1 by omega]
theorem row_done {w : World} {b n k : Nat} {T : TypeId} (h : w.rowIs b T n fun l => u8v (if l < n then byteAt n k l else 0)) : w.rowIs b T n fun l => u8v (byteAt n k l) :=
  h.congr fun i hi => by simp [hi]
theorem nb_row (n k : Nat) : (List.range n).map (fun l => byteAt n k l) = nb n k := rfl

set_option maxHeartbeats 1000000 in
theorem key_any (k : Nat) (w : World) (hk : k < 18446744073709551616) :
    Calls Try.prog 60 #[.int .u64 (k : Int)] w fun e w' => e = .returned (.string (bs (nb 8 k))) ∧ Below w.heap.size w w' := by
  have S := Lib.hid (key_start k w)
  go_enter Try.func60, Try.ntmps60
  go_wp2_with fail
  go_loopw [5] (fun i wr => ∃ j : Nat, j ≤ 8 ∧ i = .int .i64 j ∧ wr.rowIs w.heap.size 82 8 (fun l => u8v (if l < j then byteAt 8 k l else 0)) ∧ Below w.heap.size w wr) (fun i _ => 8 - (intOf i).toNat)
  case atStart => exact ⟨0, Nat.zero_le _, rfl, S.out, (Below.refl _ _).alloc (Nat.le_refl _) _⟩
  case round =>
    obtain ⟨j, hj, rfl, hrow, hb⟩ := hrel
    have HR := Lib.hid hrow
    have HB := Lib.hid hb
    by_cases hlt : j < 8
    · have hfr := hrow.frozen j
      have hcl := hrow.cell hlt
      clear hrow hb
      go_wp2_with fail
      go_roundw
      case rel => exact ⟨j + 1, by omega, by go_num, row_next HR.out _ (val_int (by rw [byte_int])), HB.out.setCell (Nat.le_refl _) _⟩
      case measure => simp [intOf]; omega
    · obtain rfl : j = 8 := by omega
      have hcv := conv_row (cap := 8) (row_done hrow)
      rw [nb_row] at hcv
      clear hrow hb
      go_wp2_with fail
      go_ret
      exact ⟨rfl, HB.out⟩

/-- A new row of one byte, of four bytes, as a string. -/
theorem conv_one (w : World) (c : UInt8) (x : Int) (hx : x = (c.toNat : Int)) : (convert 62 9 (.slice (some ⟨w.heap.size, 0, none⟩) 1 1)).run Try.prog (w.alloc (Obj.cells #[.int .u8 x] 5)) = .ok (.string (bs [c])) (w.alloc (Obj.cells #[.int .u8 x] 5)) := by
  subst hx
  exact conv_row (g := fun _ => c) (World.rowIs_alloc w #[.int .u8 (c.toNat : Int)] 5 (fun _ => u8v c) (fun i hi => by match i, hi with | 0, _ => rfl))
theorem conv_four (w : World) (a b c d : UInt8) (x y z t : Int) (hx : x = (a.toNat : Int)) (hy : y = (b.toNat : Int)) (hz : z = (c.toNat : Int)) (ht : t = (d.toNat : Int)) :
    (convert 62 9 (.slice (some ⟨w.heap.size, 0, none⟩) 4 4)).run Try.prog (w.alloc (Obj.cells #[.int .u8 x, .int .u8 y, .int .u8 z, .int .u8 t] 5)) = .ok (.string (bs [a, b, c, d])) (w.alloc (Obj.cells #[.int .u8 x, .int .u8 y, .int .u8 z, .int .u8 t] 5)) := by
  subst hx; subst hy; subst hz; subst ht
  exact conv_row (g := fun j => [a, b, c, d].getD j 0) (World.rowIs_alloc w #[.int .u8 (a.toNat : Int), .int .u8 (b.toNat : Int), .int .u8 (c.toNat : Int), .int .u8 (d.toNat : Int)] 5 (fun j => u8v ([a, b, c, d].getD j 0)) (fun i hi => by
    match i, hi with
    | 0, _ => rfl
    | 1, _ => rfl
    | 2, _ => rfl
    | 3, _ => rfl))
theorem nb4 (k : Nat) : nb 4 k = [byteAt 4 k 0, byteAt 4 k 1, byteAt 4 k 2, byteAt 4 k 3] := rfl

theorem nb_snoc (n k j : Nat) (h : j < n) : (nb n k).take (j + 1) = (nb n k).take j ++ [byteAt n k j] := by
  rw [List.take_succ_eq_append_getElem (by simpa [nb] using h)]
  simp [nb]
theorem nb_length (n k : Nat) : (nb n k).length = n := by simp [nb]

set_option maxHeartbeats 1000000 in
theorem rsum_any (k : Nat) (w : World) (hk : k < 4294967296) :
    Calls Try.prog 41 #[.int .i64 (k : Int)] w fun e w' => e = .returned (.string (bs (nb 4 k))) ∧ Below w.heap.size w w' := by
  have b0 := byte_int 4 k 0
  have b1 := byte_int 4 k 1
  have b2 := byte_int 4 k 2
  have b3 := byte_int 4 k 3
  simp at b0 b1 b2 b3
  have hcv := conv_four w (byteAt 4 k 0) (byteAt 4 k 1) (byteAt 4 k 2) (byteAt 4 k 3) ((k : Int) / 16777216) ((k : Int) / 65536 % 256) ((k : Int) / 256 % 256) ((k : Int) % 256) (by omega) (by omega) (by omega) (by omega)
  rw [← nb4] at hcv
  clear b0 b1 b2 b3
  go_enter Try.func41, Try.ntmps41
  go_wp2_with fail
  go_ret
  exact ⟨rfl, (Below.refl _ _).alloc (Nat.le_refl _) _⟩

set_option maxHeartbeats 1000000 in
theorem rkey_any (k : Nat) (w : World) (hk : k < 18446744073709551616) :
    Calls Try.prog 52 #[.int .u64 (k : Int)] w fun e w' => e = .returned (.string (bs (nb 8 k))) ∧ Below w.heap.size w w' := by
  have HE := Lib.hid (show (nb 8 k).take 8 = nb 8 k from List.take_of_length_le (by rw [nb_length]; exact Nat.le_refl _))
  go_enter Try.func52, Try.ntmps52
  go_wp2_with fail
  go_loopw [3, 4] (fun v i wr => ∃ j : Nat, j ≤ 8 ∧ i = .int .i64 (7 - (j : Int)) ∧ v = .string (bs ((nb 8 k).take j)) ∧ Below w.heap.size w wr) (fun _ i _ => (intOf i + 1).toNat)
  case atStart => exact ⟨0, Nat.zero_le _, rfl, rfl, Below.refl _ _⟩
  case round =>
    obtain ⟨j, hj, rfl, rfl, hb⟩ := hrel
    have HB := Lib.hid hb
    have hsz := hb.size
    clear hb
    by_cases hlt : j < 8
    · have hcv := conv_one wr (byteAt 8 k j) ((k : Int) / 2 ^ (8 * (7 - j)) % 256) (byte_int 8 k j).symm
      have HS := Lib.hid (nb_snoc 8 k j hlt)
      have HJ := Lib.hid (bs_append ((nb 8 k).take j) [byteAt 8 k j])
      have hl1 : (bs ((nb 8 k).take j)).size ≤ 8 := by rw [bs_size, List.length_take, nb_length]; omega
      have hl2 : (bs [byteAt 8 k j]).size ≤ 1 := by rw [bs_size]; simp
      go_wp2_with fail
      go_roundw
      case rel => exact ⟨j + 1, by omega, val_int (by omega), by rw [HJ.out, HS.out], HB.out.alloc hsz _⟩
      case measure => simp [intOf]; omega
    · obtain rfl : j = 8 := by omega
      have e := HE.out
      rw [e]
      clear e
      go_wp2_with fail
      go_ret
      exact ⟨rfl, HB.out⟩
end Go.Proofs.Yticlcjabhemdiaa.Digest
