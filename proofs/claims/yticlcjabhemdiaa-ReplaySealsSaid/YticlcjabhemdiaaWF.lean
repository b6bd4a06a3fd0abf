/- Contracts of wire's Reader: lists. -/
import Derived.Test.YticlcjabhemdiaaWE
import Derived.LoopN
set_option linter.unusedVariables false
namespace Go.Proofs.Yticlcjabhemdiaa.Wire
open Go.RowKit

/-- A method of the Reader at block b as a value. -/
abbrev mv (f : Nat) (p : Value) : Value := .func (.func f) #[p] #[]

/-- So many numbers. -/
def gInts : Nat → ByteArray → List Int × ByteArray × Int
  | 0, t => ([], t, 0)
  | n + 1, t =>
    if (fInt t).2.2 ≠ 0 then ([], (fInt t).2.1, (fInt t).2.2)
    else if (gInts n (fInt t).2.1).2.2 ≠ 0 then ([], (gInts n (fInt t).2.1).2.1, (gInts n (fInt t).2.1).2.2)
    else ((fInt t).1 :: (gInts n (fInt t).2.1).1, (gInts n (fInt t).2.1).2.1, 0)
/-- A list of at most so many numbers. -/
def fInts (most : Int) (s : ByteArray) : List Int × ByteArray × Int :=
  if (fCount most s).2.2 ≠ 0 then ([], (fCount most s).2.1, (fCount most s).2.2) else gInts (fCount most s).1.toNat (fCount most s).2.1
/-- What was read so far, ahead of a result. -/
def ahead (ys : List Int) (r : List Int × ByteArray × Int) : List Int × ByteArray × Int := if r.2.2 ≠ 0 then ([], r.2.1, r.2.2) else (ys ++ r.1, r.2.1, 0)
theorem gInts_e (n : Nat) : ∀ t, (gInts n t).2.2 ≠ 0 → (gInts n t).1 = [] := by
  induction n with
  | zero => intro t h; rfl
  | succ n ih => intro t h; unfold gInts at *; (repeat' split at *) <;> simp_all
theorem gInts_eta (n : Nat) (t : ByteArray) : gInts n t = ahead [] (gInts n t) := by
  have h := gInts_e n t
  unfold ahead
  rcases hg : gInts n t with ⟨l, u, e⟩
  rw [hg] at h
  by_cases he : e = 0
  · simp [he]
  · have : l = [] := h he
    simp [he, this]
theorem ahead_bad (ys : List Int) (n : Nat) (t : ByteArray) (h : (fInt t).2.2 ≠ 0) : ahead ys (gInts (n + 1) t) = ([], (fInt t).2.1, (fInt t).2.2) := by
  conv => lhs; unfold gInts ahead
  simp [h]
theorem ahead_good (ys : List Int) (n : Nat) (t : ByteArray) (h : (fInt t).2.2 = 0) : ahead ys (gInts (n + 1) t) = ahead (ys ++ [(fInt t).1]) (gInts n (fInt t).2.1) := by
  conv => lhs; unfold gInts ahead
  unfold ahead
  by_cases h2 : (gInts n (fInt t).2.1).2.2 = 0 <;> simp [h, h2]
theorem ahead_done (ys : List Int) (t : ByteArray) : ahead ys (gInts 0 t) = (ys, t, 0) := by simp [ahead, gInts]

/-- Numbers as the cells of a row. -/
def i64s (l : List Int) : List Value := l.map (Value.int .i64)
theorem i64s_snoc (ys : List Int) (v : Int) : i64s ys ++ [.int .i64 v] = i64s (ys ++ [v]) := by unfold i64s; rw [List.map_append]; rfl
theorem isnoc_len (ys : List Int) (v : Int) : (ys ++ [v]).length = ys.length + 1 := by simp
theorem info_int : (Try.prog.info? 3).map (fun i => (i.zero, i.size, i.bytes)) = some (some (.int .i64 0), 1, 8) := by kernel_rfl
theorem gb_row {w w1 w2 : World} {r row : Option Nat} (h : w.grownBy w1 r) (k : w1.grownBy w2 row) (hr : ∀ g, row = some g → w.heap.size ≤ g) : w.grownBy w2 r :=
  ⟨k.os.trans h.os, k.tape.trans h.tape, k.output.trans h.output, Nat.le_trans h.size k.size, fun i hi hne =>
    (k.block i (Nat.lt_of_lt_of_le hi h.size) (fun e => by have := hr i e.symm; omega)).trans (h.block i hi hne)⟩
theorem gb_alloc {w w1 : World} {r : Option Nat} (h : w.grownBy w1 r) (o : Obj) : w.grownBy (w1.alloc o) r := gb_trans h (World.grownBy_alloc w1 o r)

theorem fInt_less (s : ByteArray) (hs : s.size ≤ 100000) (h : (fInt s).2.2 = 0) : (fInt s).2.1.size + 1 ≤ s.size := by
  unfold fInt at *
  rcases rd_ends s.data.toList 0 0 (by omega) (by omega) with e | e | ⟨v, n, e, h1, h2, h3, h4⟩
  · rw [e] at h; cases h
  · rw [e] at h; cases h
  · rw [e]; simp at h4 ⊢; omega

/-- What a call that reads a list leaves. -/
def OutL (b : Nat) (w : World) (q : List Int × ByteArray × Int) (r : Ending) (w' : World) : Prop :=
  ∃ v, r = .returned v ∧ PB w' b q.2.1 q.2.2 true ∧ w.grownBy w' (some b) ∧ w'.ownsRow w.heap.size 3 1 v q.1.length (i64s q.1)

end Go.Proofs.Yticlcjabhemdiaa.Wire
