/- Contracts of combine, Union, Cross, Minus and Norm of sched. -/
import Derived.Test.YtnocbgimfmgdeaaSH
set_option linter.unusedVariables false
namespace Go.Proofs.Ytnocbgimfmgdeaa
open Go.RowKit

/-- The list of a set in normal form is handed back. -/
def OutNf (w : World) (S : Int → Bool) (e : Ending) (w' : World) : Prop :=
  ∃ A c F, e = .returned (.slice A (List.length F) c) ∧ SpAt w' w'.heap.size A F ∧ NF F S ∧ Below w.heap.size w w'
theorem nf_small {F : List Spn} {S : Int → Bool} (h : NF F S) : ∀ s ∈ F, I64 s.1 ∧ I64 s.2 := fun s hs => by
  have := ascS_all h.1 s hs
  exact ⟨i64_small (by omega), i64_small (by omega)⟩

theorem new_one (w : World) (a b : Obj) : ((w.alloc a).alloc b).heap[w.heap.size + 1]? = some b := by have := blk_new (w.alloc a) b; rwa [World.size_alloc] at this
theorem new_two (w : World) (a b c : Obj) : (((w.alloc a).alloc b).alloc c).heap[w.heap.size + 2]? = some c := by have := blk_new ((w.alloc a).alloc b) c; rwa [World.size_alloc, World.size_alloc] at this
theorem new_three (w : World) (a b c d : Obj) : ((((w.alloc a).alloc b).alloc c).alloc d).heap[w.heap.size + 3]? = some d := by have := blk_new (((w.alloc a).alloc b).alloc c) d; rwa [World.size_alloc, World.size_alloc, World.size_alloc] at this

set_option maxRecDepth 100000 in
set_option maxHeartbeats 4000000 in
theorem combine_any (w : World) (g : FuncId) (A1 A2 : Option Addr) (c1 c2 : Nat) (l1 l2 : List Spn) (hl1 : l1.length ≤ 100000) (hl2 : l2.length ≤ 100000) (hA1 : SpAt w w.heap.size A1 l1) (hA2 : SpAt w w.heap.size A2 l2)
    (eg : ∀ args w, (callFunc g args).run Try.prog w = .ok (.enter g args) w) (hg : ∀ a b w, Calls Try.prog g #[.bool a, .bool b] w fun e w' => e = .returned (.bool (bel g a b)) ∧ w = w') :
    Calls Try.prog 38 #[.slice A1 l1.length c1, .slice A2 l2.length c2, .func (.func g) #[] #[]] w (OutNf w fun m => bel g (inS l1 m) (inS l2 m)) := by
  have SWP := Lib.hid (fun wz h => sweep_any w wz w.heap.size g A1 A2 c1 c2 l1 l2 hl1 hl2 hA1 hA2 eg hg h)
  clear hA1 hA2 eg hg
  go_enter Try.func38, Try.ntmps38
  go_wp2_with fail
  refine (SWP.out _ ⟨blk_alloc (blk_alloc (blk_alloc (blk_new _ _) _) _) _, blk_alloc (blk_alloc (new_one _ _ _) _) _, blk_alloc (new_two _ _ _ _) _, new_three _ _ _ _ _, World.ownsRow_nil _ _ _ _, ?_, Nat.le_refl _, by simp⟩).mono ?_
  · exact ((((Below.refl _ _).alloc (Nat.le_refl _) _).alloc (by simp) _).alloc (by simp; omega) _).alloc (by simp; omega) _
  rintro e w1 ⟨rfl, B, ins, frm, v, F, hx, hn⟩
  have X := Lib.hid hx
  have N := Lib.hid hn
  have c1 := hx.c1
  obtain ⟨A, c, rfl, hs⟩ := ownS_at hx.own (nf_small hn)
  have SP := Lib.hid hs
  clear hx hn hs
  go_wp2_with fail
  go_ret
  exact ⟨A, c, F, rfl, SP.out, N.out, X.out.below⟩

section
variable (w : World) (A1 A2 : Option Addr) (c1 c2 : Nat) (l1 l2 : List Spn)
theorem sunion_any (hl1 : l1.length ≤ 100000) (hl2 : l2.length ≤ 100000) (hA1 : SpAt w w.heap.size A1 l1) (hA2 : SpAt w w.heap.size A2 l2) : Calls Try.prog 24 #[.slice A1 l1.length c1, .slice A2 l2.length c2] w (OutNf w fun m => inS l1 m || inS l2 m) := by
  have C := Lib.hid (combine_any w 39 A1 A2 c1 c2 l1 l2 hl1 hl2 hA1 hA2 (enters_of Try.func39 (by kernel_rfl) rfl) fun a b w => either_any w a b)
  clear hA1 hA2
  go_enter Try.func24, Try.ntmps24
  go_wp2_with fail
  refine C.out.mono ?_
  rintro e w1 ⟨A, c, F, rfl, hs, hn, hb⟩
  have H := Lib.hid (And.intro hs (And.intro hn hb))
  clear hs hn hb
  go_wp2_with fail
  go_ret
  exact ⟨A, c, F, rfl, H.out⟩
theorem scross_any (hl1 : l1.length ≤ 100000) (hl2 : l2.length ≤ 100000) (hA1 : SpAt w w.heap.size A1 l1) (hA2 : SpAt w w.heap.size A2 l2) : Calls Try.prog 26 #[.slice A1 l1.length c1, .slice A2 l2.length c2] w (OutNf w fun m => inS l1 m && inS l2 m) := by
  have C := Lib.hid (combine_any w 40 A1 A2 c1 c2 l1 l2 hl1 hl2 hA1 hA2 (enters_of Try.func40 (by kernel_rfl) rfl) fun a b w => both_any w a b)
  clear hA1 hA2
  go_enter Try.func26, Try.ntmps26
  go_wp2_with fail
  refine C.out.mono ?_
  rintro e w1 ⟨A, c, F, rfl, hs, hn, hb⟩
  have H := Lib.hid (And.intro hs (And.intro hn hb))
  clear hs hn hb
  go_wp2_with fail
  go_ret
  exact ⟨A, c, F, rfl, H.out⟩
theorem sminus_any (hl1 : l1.length ≤ 100000) (hl2 : l2.length ≤ 100000) (hA1 : SpAt w w.heap.size A1 l1) (hA2 : SpAt w w.heap.size A2 l2) : Calls Try.prog 28 #[.slice A1 l1.length c1, .slice A2 l2.length c2] w (OutNf w fun m => inS l1 m && !inS l2 m) := by
  have C := Lib.hid (combine_any w 41 A1 A2 c1 c2 l1 l2 hl1 hl2 hA1 hA2 (enters_of Try.func41 (by kernel_rfl) rfl) fun a b w => first_any w a b)
  clear hA1 hA2
  go_enter Try.func28, Try.ntmps28
  go_wp2_with fail
  refine C.out.mono ?_
  rintro e w1 ⟨A, c, F, rfl, hs, hn, hb⟩
  have H := Lib.hid (And.intro hs (And.intro hn hb))
  clear hs hn hb
  go_wp2_with fail
  go_ret
  exact ⟨A, c, F, rfl, H.out⟩
end
theorem OutNf.congr {w w' : World} {S T : Int → Bool} {e : Ending} (h : OutNf w S e w') (g : ∀ m, S m = T m) : OutNf w T e w' := by
  obtain ⟨A, c, F, h1, h2, h3, h4⟩ := h
  exact ⟨A, c, F, h1, h2, h3.congr g, h4⟩
theorem snorm_any (w : World) (A : Option Addr) (c : Nat) (l : List Spn) (hl : l.length ≤ 100000) (hA : SpAt w w.heap.size A l) :
    Calls Try.prog 16 #[.slice A l.length c] w (OutNf w (inS l)) := by
  have C := Lib.hid ((sunion_any w A none c 0 l [] hl (Nat.zero_le _) hA (SpAt.nil _ _ _)).mono fun _ _ h => h.congr fun m => show (inS l m || inS [] m) = inS l m by simp [inS])
  clear hA
  go_enter Try.func16, Try.ntmps16
  go_wp2_with fail
  refine C.out.mono ?_
  rintro e w1 ⟨A, c, F, rfl, hs, hn, hb⟩
  have H := Lib.hid (And.intro hs (And.intro hn hb))
  clear hs hn hb
  go_wp2_with fail
  go_ret
  exact ⟨A, c, F, rfl, H.out⟩
end Go.Proofs.Ytnocbgimfmgdeaa
