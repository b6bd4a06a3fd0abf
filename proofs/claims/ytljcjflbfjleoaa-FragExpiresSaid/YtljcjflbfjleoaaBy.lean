/- Strings, and rows of bytes of the call's own, for every seat. -/
import Derived.Test.YtljcjflbfjleoaaKit
import Derived.Lib.Strings
import Derived.Laws.BitsAllLaws
import Derived.Laws.BytesArg
import Derived.Laws.NewBlocks
import Derived.Laws.OwnMore
import Derived.Laws.IdiomStrings
set_option linter.unusedVariables false
namespace Go.Proofs.Ytljcjflbfjleoaa
open Go.RowKit

/-- A list of bytes as a string. -/
def bs (l : List UInt8) : ByteArray := ⟨l.toArray⟩
theorem bs_data (l : List UInt8) : (bs l).data.toList = l := rfl
theorem bs_size (l : List UInt8) : (bs l).size = l.length := by simp [bs, ByteArray.size]
theorem bs_inj {a b : List UInt8} (h : bs a = bs b) : a = b := by have := congrArg (fun s => s.data.toList) h; simpa [bs] using this
theorem of_data {s t : ByteArray} (h : s.data.toList = t.data.toList) : s = t := by
  apply ByteArray.ext; exact Array.toList_inj.1 h
theorem bs_append (a b : List UInt8) : bs a ++ bs b = bs (a ++ b) := of_data (by simp [bs])
theorem bs_self (s : ByteArray) : bs s.data.toList = s := of_data (bs_data _)
theorem str_bs (l : List UInt8) : strOfNums (l.map fun c => (c.toNat : Int)) = bs l := by
  apply of_data
  rw [strOfNums_data, bs_data, List.map_map]
  conv => rhs; rw [← List.map_id l]
  apply List.map_congr_left
  intro c _
  simp
theorem bytes_len (s : ByteArray) : s.data.toList.length = s.size := by simp
theorem app_data (s t : ByteArray) : (s ++ t).data.toList = s.data.toList ++ t.data.toList := by simp
theorem ext_take (s : ByteArray) (n : Nat) : s.extract 0 n = bs (s.data.toList.take n) := by
  apply of_data; rw [bs_data]; simp [List.extract]
theorem ext_drop (s : ByteArray) (n : Nat) : s.extract n s.size = bs (s.data.toList.drop n) := by
  apply of_data; rw [bs_data]; simp [List.extract]
  exact List.take_of_length_le (by simp)
theorem ext_mid (s : ByteArray) (m n : Nat) : s.extract m n = bs ((s.data.toList.drop m).take (n - m)) := by
  apply of_data; rw [bs_data]; simp [List.extract]
/-- Two strings, compared. -/
theorem str_eqb (s t : ByteArray) (b : Bool) (h : decide (s.data.toList = t.data.toList) = b) : (s.toList == t.toList) = b := by
  subst h
  rw [Lib.toList_data, Lib.toList_data]
  exact Bool.eq_iff_iff.2 (by simp)
theorem bs_eqb (l m : List UInt8) (b : Bool) (h : decide (l = m) = b) : ((bs l).toList == (bs m).toList) = b := str_eqb _ _ b h
theorem byte_at (s : ByteArray) (i : Nat) (h : i < s.size) : s[i] = s.data.toList.getD i 0 := by
  simp only [List.getD_eq_getElem?_getD]
  rw [List.getElem?_eq_getElem (by simpa using h)]
  rfl

/-- The cell of a byte. -/
abbrev u8v (c : UInt8) : Value := .int .u8 (c.toNat : Int)
/-- Block b begins with these bytes, which may be written. -/
def RowB (w : World) (b : Nat) (l : List UInt8) : Prop :=
  ∃ C T lo hi, w.heap[b]? = some (.cells C T (lo, hi)) ∧ (l.length ≤ lo ∨ hi ≤ lo) ∧ ∀ j (hj : j < l.length), C[j]? = some (u8v l[j])
section
variable {w w' : World} {b : Nat} {l : List UInt8}
theorem RowB.lt (h : RowB w b l) : b < w.heap.size := by
  obtain ⟨C, T, lo, hi, h1, _⟩ := h
  exact (Array.getElem?_eq_some_iff.1 h1).1
theorem RowB.cell (h : RowB w b l) (j : Nat) (hj : j < l.length) : w.cell? ⟨b, j, none⟩ = some (u8v l[j]) := by
  obtain ⟨C, T, lo, hi, h1, h2, h3⟩ := h
  have := h3 j hj
  simp [World.cell?, h1, this]
theorem RowB.cellD (h : RowB w b l) (j : Nat) (hj : j < l.length) : w.cell? ⟨b, j, none⟩ = some (u8v (l.getD j 0)) := by
  rw [h.cell j hj]; simp [List.getD, List.getElem?_eq_getElem hj]
theorem RowB.fr (h : RowB w b l) (j : Nat) (hj : j < l.length) : w.frozen? ⟨b, j, none⟩ = false := by
  obtain ⟨C, T, lo, hi, h1, h2, h3⟩ := h
  simp [World.frozen?, h1]; omega
theorem RowB.set (h : RowB w b l) (i : Nat) (hi : i < l.length) (c : UInt8) : RowB (w.setCell ⟨b, i, none⟩ (.int .u8 (c.toNat : Int))) b (l.set i c) := by
  obtain ⟨C, T, lo, hi', h1, h2, h3⟩ := h
  have hC : i < C.size := by
    have := h3 i hi
    exact (Array.getElem?_eq_some_iff.1 this).1
  refine ⟨C.set! i (u8v c), T, lo, hi', ?_, by rw [List.length_set]; exact h2, ?_⟩
  · simp [World.setCell, Array.getElem?_modify, h1]
  · intro j hj
    rw [List.length_set] at hj
    rw [List.getElem_set, Array.set!_eq_setIfInBounds, Array.getElem?_setIfInBounds]
    by_cases e : i = j
    · subst e; simp [hC]
    · simp [e, h3 j hj]
theorem RowB.below {B : Nat} (h : RowB w b l) (hb : Below B w w') (hlt : b < B) : RowB w' b l := by
  obtain ⟨C, T, lo, hi, h1, h2⟩ := h
  exact ⟨C, T, lo, hi, (hb.block b hlt).trans h1, h2⟩
/-- The row as a string. -/
theorem RowB.back (h : RowB w b l) (n cap : Nat) (hn : l.length = n) : (convert 46 9 (.slice (some ⟨b, 0, none⟩) n cap)).run Try.prog w = .ok (.string (bs l)) w := by
  subst hn
  exact run_convert_bytes_back w 46 9 5 ⟨b, 0, none⟩ cap l Try.underlying46 Try.underlying5 Try.underlying9 (fun j hj => by
    rw [show ({ block := b, off := 0, spot := none : Addr }.add j) = ⟨b, j, none⟩ by unfold Addr.add; split <;> simp_all]
    exact h.cell j hj)
end
/-- A block that is made of bytes. -/
theorem row_lit (w : World) (T : TypeId) (cs : Array Value) (l : List UInt8) (h : cs = (l.map fun c => u8v c).toArray) : RowB (w.alloc (.cells cs T)) w.heap.size l := by
  subst h
  refine ⟨_, T, 0, 0, blk_new w _, Or.inr (Nat.le_refl _), fun j hj => ?_⟩
  simp [hj]
/-- A literal of bytes as a string. -/
theorem conv_lit (w : World) (T : TypeId) (cs : Array Value) (l : List UInt8) (h : cs = (l.map fun c => u8v c).toArray) (n cap : Nat) (hn : l.length = n) :
    (convert 46 9 (.slice (some ⟨w.heap.size, 0, none⟩) n cap)).run Try.prog (w.alloc (.cells cs T)) = .ok (.string (bs l)) (w.alloc (.cells cs T)) :=
  (row_lit w T cs l h).back n cap hn
/-- The bytes of a string. -/
theorem conv_bytes (w : World) (s : ByteArray) (n : Nat) (hn : s.size = n) : ∃ cap w', (convert 9 46 (.string s)).run Try.prog w = .ok (.slice (some ⟨w.heap.size, 0, none⟩) n cap) w' ∧ RowB w' w.heap.size s.data.toList ∧ Below w.heap.size w w' := by
  subst hn
  have h := run_bytes_of_string w 9 46 5 s Try.underlying9 Try.underlying46 Try.underlying5
  refine ⟨_, _, h, ⟨_, _, _, _, by show (w.heap.push _)[w.heap.size]? = _; simp; exact ⟨rfl, rfl, rfl, rfl⟩, Or.inl ?_, ?_⟩, (Below.refl _ _).drew.alloc (Nat.le_refl _) _⟩
  · unfold bytesRow; simp
  · intro j hj
    have hj' : j < s.data.size := by simpa using hj
    rw [bytesRow_at s _ j hj']; rfl
theorem xor_u8 (a b : UInt8) : bits .xor .u8 (a.toNat : Int) (b.toNat : Int) = ((a ^^^ b).toNat : Int) := by
  have ha := a.toNat_lt
  have hb := b.toNat_lt
  rw [u8_xor_nat a.toNat b.toNat (by omega) (by omega), UInt8.toNat_xor]
end Go.Proofs.Ytljcjflbfjleoaa
