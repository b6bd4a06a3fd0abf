/- Rows of bytes as flat lists (appended to, read back as strings), for every seat that has append at []uint8. -/
import Derived.Test.YtcfnkfkdhcejeaaSh
import Derived.Test.YtcfnkfkdhcejeaaBy
import Derived.Laws.BytesArg
set_option linter.unusedVariables false
namespace Go.Proofs.Ytcfnkfkdhcejeaa
open Go.RowKit

/-- A list of bytes in cells. -/
def fB : Flat UInt8 := ⟨1, fun c => [.int .u8 (c.toNat : Int)], fun _ => True, by decide, fun _ => rfl, fun _ v h => by simp at h; subst h; rfl⟩
abbrev OwnB (w : World) (B : Nat) (v : Value) (l : List UInt8) : Prop := OwnF fB 5 w B v l
theorem eU8 : Elems Try.prog 65 5 fB.sz := Elems.mk' Try.underlying65 (z := .int .u8 0) (m := 1) (by kernel_rfl) (by decide) rfl
/-- Such a row as a string. -/
theorem conv_fb {w : World} {B : Nat} {v : Value} {l : List UInt8} (h : OwnB w B v l) : (convert 65 9 v).run Try.prog w = .ok (.string (bs l)) w := by
  have h0 := h
  rcases h.1.2 with ⟨rfl, hz⟩ | ⟨g, cap, cur, rfl, h2, h3, h4⟩
  · rw [run_convert_bytes_nil w 65 5 Try.underlying65 Try.underlying5 0 0 9 Try.underlying9]
    obtain rfl := List.eq_nil_of_length_eq_zero hz
    rfl
  · rw [← str_bs]
    refine run_convert_bytes_arg w 65 5 Try.underlying65 Try.underlying5 g 0 l.length cap _ (by simp) (fun i hi => ?_) 9 Try.underlying9
    have := h0.cell i hi 0 (by decide)
    rw [Nat.zero_add]
    have e : i * fB.sz + 0 = i := by show i * 1 + 0 = i; omega
    rw [e] at this
    rw [this]
    simp [fB, List.getD, List.getElem?_eq_getElem hi]
end Go.Proofs.Ytcfnkfkdhcejeaa
