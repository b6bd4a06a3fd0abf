/- Arguments of the laws as numbers and bytes. -/
import Derived.Test.YtebffibdjkjjdaaGH
set_option linter.unusedVariables false
namespace Go.Proofs.Ytebffibdjkjjdaa
open Go.RowKit

theorem nat_u64 {a : Int} (h : (Lit.int .u64 a).wf = true) : ∃ k : Nat, a = (k : Int) ∧ k < 18446744073709551616 := by
  have h2 : 0 ≤ a ∧ a ≤ 18446744073709551615 := by simpa [Lit.wf, IntKind.min, IntKind.max, IntKind.signed, IntKind.bits] using h
  exact ⟨a.toNat, by omega, by omega⟩
theorem nat_u32 {a : Int} (h : (Lit.int .u32 a).wf = true) : ∃ k : Nat, a = (k : Int) ∧ k < 4294967296 := by
  have h2 : 0 ≤ a ∧ a ≤ 4294967295 := by simpa [Lit.wf, IntKind.min, IntKind.max, IntKind.signed, IntKind.bits] using h
  exact ⟨a.toNat, by omega, by omega⟩
theorem byte_u8 {a : Int} (h : (Lit.int .u8 a).wf = true) : ∃ c : UInt8, a = (c.toNat : Int) := by
  have h2 : 0 ≤ a ∧ a ≤ 255 := by simpa [Lit.wf, IntKind.min, IntKind.max, IntKind.signed, IntKind.bits] using h
  exact ⟨UInt8.ofNat a.toNat, by rw [UInt8.toNat_ofNat']; omega⟩
theorem i64_u {a : Int} (h : (Lit.int .i64 a).wf = true) : -9223372036854775808 ≤ a ∧ a ≤ 9223372036854775807 := by
  simpa [Lit.wf, IntKind.min, IntKind.max, IntKind.signed, IntKind.bits] using h

theorem arg_seals (a : Int) (s : ByteArray) (w : World) (ha : (Lit.int .u64 a).wf = true) (hm : s.size ≤ 9223372036854775807) : Calls Try.prog 4 #[.int .u64 a, .string s] w (OutT w) := by
  obtain ⟨k, rfl, hk⟩ := nat_u64 ha
  exact law_seals k s w hk hm
theorem arg_extends (a : Int) (s : ByteArray) (w : World) (ha : (Lit.int .u8 a).wf = true) (hm : s.size ≤ 9223372036854775807) : Calls Try.prog 9 #[.string s, .int .u8 a] w (OutT w) := by
  obtain ⟨c, rfl⟩ := byte_u8 ha
  exact law_extends s c w hm
end Go.Proofs.Ytebffibdjkjjdaa
