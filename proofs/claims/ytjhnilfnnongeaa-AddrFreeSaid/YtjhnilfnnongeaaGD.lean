/- Contracts of the bytes of a key and of a checksum. -/
import Derived.Test.YtjhnilfnnongeaaGC
set_option linter.unusedVariables false
namespace Go.Proofs.Ytjhnilfnnongeaa.Digest
open Go.RowKit

/-- A list of bytes as a string. -/
def bs (l : List UInt8) : ByteArray := ⟨l.toArray⟩
theorem bs_data (l : List UInt8) : (bs l).data.toList = l := rfl
theorem bs_size (l : List UInt8) : (bs l).size = l.length := by simp [bs, ByteArray.size]
theorem bs_inj {a b : List UInt8} (h : bs a = bs b) : a = b := by have := congrArg (fun s => s.data.toList) h; simpa [bs] using this
theorem of_data {s t : ByteArray} (h : s.data.toList = t.data.toList) : s = t := by
  apply ByteArray.ext; exact Array.toList_inj.1 h
theorem bs_append (a b : List UInt8) : bs a ++ bs b = bs (a ++ b) := of_data (by simp [bs])
theorem bs_self (s : ByteArray) : bs s.data.toList = s := of_data (bs_data _)
theorem str_bs (l : List UInt8) : strOfNums (l.map fun c => (c.toNat : Int)) = bs l := by
  apply of_data
  rw [strOfNums_data, bs_data, List.map_map]
  conv => rhs; rw [← List.map_id l]
  apply List.map_congr_left
  intro c _
  simp

/-- The cell of a byte. -/
abbrev u8v (c : UInt8) : Value := .int .u8 (c.toNat : Int)
/-- A block of bytes as a string. -/
theorem conv_row {w : World} {b n cap : Nat} {T : TypeId} {g : Nat → UInt8} (h : w.rowIs b T n fun j => u8v (g j)) :
    (convert 47 9 (.slice (some ⟨b, 0, none⟩) n cap)).run Try.prog w = .ok (.string (bs ((List.range n).map g))) w := by
  rw [← str_bs]
  refine run_convert_bytes_arg w 47 5 Try.underlying47 Try.underlying5 b 0 n cap _ (by simp) (fun i hi => ?_) 9 Try.underlying9
  rw [Nat.zero_add, h.cell hi]
  simp [List.getD, hi]

theorem byte_int (n k j : Nat) : ((byteAt n k j).toNat : Int) = (k : Int) / 2 ^ (8 * (n - 1 - j)) % 256 := by
  unfold byteAt
  rw [UInt8.toNat_ofNat']
  simp
theorem row_next {w : World} {b n k j : Nat} {T : TypeId} (h : w.rowIs b T n fun l => u8v (if l < j then byteAt n k l else 0)) (v : Value) (hv : v = u8v (byteAt n k j)) :
    (w.setCell ⟨b, j, none⟩ v).rowIs b T n fun l => u8v (if l < j + 1 then byteAt n k l else 0) := by
  subst hv
  refine (h.set j _).congr fun i hi => ?_
  by_cases e : i = j
  · subst e; simp
  · by_cases e2 : i < j
    · simp [e, e2, show i < j + 1 by omega]
    · simp [e, e2, show ¬ i < j + 1 by omega]
theorem row_done {w : World} {b n k : Nat} {T : TypeId} (h : w.rowIs b T n fun l => u8v (if l < n then byteAt n k l else 0)) : w.rowIs b T n fun l => u8v (byteAt n k l) :=
  h.congr fun i hi => by simp [hi]
theorem nb_row (n k : Nat) : (List.range n).map (fun l => byteAt n k l) = nb n k := rfl

/-- A new row of one byte, of four bytes, as a string. -/
theorem conv_one (w : World) (c : UInt8) (x : Int) (hx : x = (c.toNat : Int)) : (convert 47 9 (.slice (some ⟨w.heap.size, 0, none⟩) 1 1)).run Try.prog (w.alloc (Obj.cells #[.int .u8 x] 5)) = .ok (.string (bs [c])) (w.alloc (Obj.cells #[.int .u8 x] 5)) := by
  subst hx
  exact conv_row (g := fun _ => c) (World.rowIs_alloc w #[.int .u8 (c.toNat : Int)] 5 (fun _ => u8v c) (fun i hi => by match i, hi with | 0, _ => rfl))
theorem conv_four (w : World) (a b c d : UInt8) (x y z t : Int) (hx : x = (a.toNat : Int)) (hy : y = (b.toNat : Int)) (hz : z = (c.toNat : Int)) (ht : t = (d.toNat : Int)) :
    (convert 47 9 (.slice (some ⟨w.heap.size, 0, none⟩) 4 4)).run Try.prog (w.alloc (Obj.cells #[.int .u8 x, .int .u8 y, .int .u8 z, .int .u8 t] 5)) = .ok (.string (bs [a, b, c, d])) (w.alloc (Obj.cells #[.int .u8 x, .int .u8 y, .int .u8 z, .int .u8 t] 5)) := by
  subst hx; subst hy; subst hz; subst ht
  exact conv_row (g := fun j => [a, b, c, d].getD j 0) (World.rowIs_alloc w #[.int .u8 (a.toNat : Int), .int .u8 (b.toNat : Int), .int .u8 (c.toNat : Int), .int .u8 (d.toNat : Int)] 5 (fun j => u8v ([a, b, c, d].getD j 0)) (fun i hi => by
    match i, hi with
    | 0, _ => rfl
    | 1, _ => rfl
    | 2, _ => rfl
    | 3, _ => rfl))
theorem nb4 (k : Nat) : nb 4 k = [byteAt 4 k 0, byteAt 4 k 1, byteAt 4 k 2, byteAt 4 k 3] := rfl

theorem nb_snoc (n k j : Nat) (h : j < n) : (nb n k).take (j + 1) = (nb n k).take j ++ [byteAt n k j] := by
  rw [List.take_succ_eq_append_getElem (by simpa [nb] using h)]
  simp [nb]
theorem nb_length (n k : Nat) : (nb n k).length = n := by simp [nb]

end Go.Proofs.Ytjhnilfnnongeaa.Digest
