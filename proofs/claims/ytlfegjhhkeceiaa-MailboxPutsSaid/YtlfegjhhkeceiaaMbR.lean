/- What the calls of layer 13 hand back, as it reads. -/
import Derived.Test.YtlfegjhhkeceiaaMbE
import Derived.Test.YtlfegjhhkeceiaaAf
set_option linter.unusedVariables false
namespace Go.Proofs.Ytlfegjhhkeceiaa.Mbx
open Go.RowKit

abbrev MlS (w : World) (A : Option Addr) (c : Nat) (l : List Ml) : Prop := SlS fM w A c l
theorem ms_cell {w : World} {A : Option Addr} {c : Nat} {l : List Ml} (h : MlS w A c l) (i : Nat) (hi : i < l.length) : ∃ b p, A = some ⟨b, p, none⟩ ∧ b < w.heap.size ∧ MlC w b (p + i * 10) l[i] ∧ fM.ok l[i] := ml_cell h.1 i hi
def ListR (w : World) (l : List Ml) (e : Ending) (w' : World) : Prop := ∃ A c, e = .returned (.slice A l.length c) ∧ MlS w' A c l ∧ Below w.heap.size w w'
def PutR (w : World) (r : List Ml × Bool) (e : Ending) (w' : World) : Prop := ∃ A c, e = .returned (.tuple #[.slice A r.1.length c, .bool r.2]) ∧ MlS w' A c r.1 ∧ Below w.heap.size w w'
def TakeR (w : World) (r : Fm × List Ml × Bool) (e : Ending) (w' : World) : Prop := ∃ A c, e = .returned (.tuple #[fmV r.1, .slice A r.2.1.length c, .bool r.2.2]) ∧ MlS w' A c r.2.1 ∧ Below w.heap.size w w' ∧ FOk r.1
theorem listR_of {w : World} {l : List Ml} {e : Ending} {w' : World} (h : OutM w l e w') : ListR w l e w' := by
  obtain ⟨v, rfl, ho, hb⟩ := h
  obtain ⟨A, c, rfl, h1⟩ := ho.slS
  exact ⟨A, c, rfl, h1, hb⟩
theorem putR_of {w : World} {r : List Ml × Bool} {e : Ending} {w' : World} (h : OutPt w r e w') : PutR w r e w' := by
  obtain ⟨v, rfl, ho, hb⟩ := h
  obtain ⟨A, c, rfl, h1⟩ := ho.slS
  exact ⟨A, c, rfl, h1, hb⟩
theorem takeR_of {w : World} {r : Fm × List Ml × Bool} {e : Ending} {w' : World} (h : OutTk w r e w') : TakeR w r e w' := by
  obtain ⟨v, rfl, ho, hb, hf⟩ := h
  obtain ⟨A, c, rfl, h1⟩ := ho.slS
  exact ⟨A, c, rfl, h1, hb, hf⟩
theorem rput_R (A : Option Addr) (c : Nat) (l : List Ml) (f : Fm) (now : Int) (w : World) (hl : l.length ≤ 1000) (hf : FOk f) (hA : MlS w A c l) :
    Calls Try.prog 11 #[.slice A l.length c, fmV f, .int .i64 now] w (PutR w (put l f now)) := (rput_any A c l f now w (by omega) hf hA.1).mono fun _ _ h => putR_of h
theorem rtake_R (A : Option Addr) (c : Nat) (l : List Ml) (to now life : Int) (w : World) (hl : l.length ≤ 1000) (hA : MlS w A c l) :
    Calls Try.prog 14 #[.slice A l.length c, .int .i64 to, .int .i64 now, .int .i64 life] w (TakeR w (take l to now life)) := (rtake_any A c l to now life w (by omega) hA.1).mono fun _ _ h => takeR_of h
theorem rexpire_R (A : Option Addr) (c : Nat) (l : List Ml) (now life : Int) (w : World) (hl : l.length ≤ 1000) (hA : MlS w A c l) :
    Calls Try.prog 16 #[.slice A l.length c, .int .i64 now, .int .i64 life] w (ListR w (expi l now life)) := (rexpire_any A c l now life w (by omega) hA.1).mono fun _ _ h => listR_of h
theorem rcount_R (A : Option Addr) (c : Nat) (l : List Ml) (to : Int) (w : World) (hl : l.length ≤ 1000) (hA : MlS w A c l) :
    Calls Try.prog 18 #[.slice A l.length c, .int .i64 to] w (OutI w (cnt l to)) := rcount_any A c l to w (by omega) hA.1
theorem rsame_R (A1 A2 : Option Addr) (c1 c2 : Nat) (l : List Ml) (w : World) (hl : l.length ≤ 1000000) (h1 : MlS w A1 c1 l) (h2 : MlS w A2 c2 l) : Calls Try.prog 12 #[.slice A1 l.length c1, .slice A2 l.length c2] w (OutB w true) := rsame_any A1 A2 c1 c2 l w hl h1.1 h2.1
end Go.Proofs.Ytlfegjhhkeceiaa.Mbx
