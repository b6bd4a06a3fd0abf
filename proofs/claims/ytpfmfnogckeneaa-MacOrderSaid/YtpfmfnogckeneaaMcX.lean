/- Package mac: what its functions give, as it reads. -/
import Derived.Test.YtpfmfnogckeneaaMcX5
import Derived.Test.YtpfmfnogckeneaaMcX6
import Derived.Test.YtpfmfnogckeneaaMcX7
set_option linter.unusedVariables false
namespace Go.Proofs.Ytpfmfnogckeneaa.Mcq
open Go.RowKit
open Mbx (Fm zf fmC fmV FOk fF)

theorem pput_any (A : Option Addr) (c : Nat) (l : List Sd) (f : Fm) (w : World) (hl : l.length ≤ 1000) (hf : FOk f) (hA : SdS w A c l) : Calls Try.prog 10 #[.slice A l.length c, fmV f] w (SbR w (put l f)) := pput_own A c l f w (by omega) hf hA
theorem pnext_any (A : Option Addr) (c : Nat) (l : List Sd) (w : World) (hl : l.length ≤ 1000) (hA : SdS w A c l) : Calls Try.prog 15 #[.slice A l.length c] w (OutI w (next l)) := pnext_own A c l w (by omega) hA
theorem pres_any (A : Option Addr) (c : Nat) (l : List Sd) (i : Int) (ok : Bool) (w : World) (hl : l.length ≤ 1000) (hi : I64 i) (hA : SdS w A c l) : Calls Try.prog 13 #[.slice A l.length c, .int .i64 i, .bool ok] w (SbR w (res l i ok)) := pres_own A c l i ok w (by omega) hi hA
theorem ptick_any (A : Option Addr) (c : Nat) (l : List Sd) (w : World) (hl : l.length ≤ 1000) (hA : SdS w A c l) : Calls Try.prog 17 #[.slice A l.length c] w (SdR w (tick l)) := by
  refine (ptick_own A c l w (by omega) hA).mono ?_
  rintro _ w' ⟨v, rfl, ho, hb⟩
  obtain ⟨A', c', rfl, hs⟩ := ho.slS
  exact ⟨A', c', rfl, hs, hb⟩
theorem pfresh_any (A : Option Addr) (c : Nat) (l : List Pr) (p : Pr) (w : World) (hl : l.length ≤ 1000) (hp : fQ.ok p) (hA : PrS w A c l) : Calls Try.prog 19 #[.slice A l.length c, prV p] w (PbR w (fresh l p)) := pfresh_own A c l p w hl hp hA
end Go.Proofs.Ytpfmfnogckeneaa.Mcq
