/- Mails in memory; the reference's Limit, first, Count, Expire. -/
import Derived.Test.YtpfmfnogckeneaaGr
import Derived.Test.YtpfmfnogckeneaaQH
import Derived.Test.YtpfmfnogckeneaaMbPlain
set_option linter.unusedVariables false
namespace Go.Proofs.Ytpfmfnogckeneaa.Mbx
open Go.RowKit

/-- A frame, a mail in cells. -/
abbrev fmC (x : Fm) : List Value := [.int .i64 x.k, .int .i64 x.f, .int .i64 x.t, .int .i64 x.s, .int .i64 x.g, .int .i64 x.q, .int .i64 x.h, .bool x.u, .string x.d]
abbrev fmV (x : Fm) : Value := .agg #[.int .i64 x.k, .int .i64 x.f, .int .i64 x.t, .int .i64 x.s, .int .i64 x.g, .int .i64 x.q, .int .i64 x.h, .bool x.u, .string x.d]
abbrev mlV (x : Ml) : Value := .agg #[.int .i64 x.1.k, .int .i64 x.1.f, .int .i64 x.1.t, .int .i64 x.1.s, .int .i64 x.1.g, .int .i64 x.1.q, .int .i64 x.1.h, .bool x.1.u, .string x.1.d, .int .i64 x.2]
def FOk (x : Fm) : Prop := I64 x.k ∧ I64 x.f ∧ I64 x.t ∧ I64 x.s ∧ I64 x.g ∧ I64 x.q ∧ I64 x.h ∧ x.d.size ≤ 9223372036854775807
def fM : Flat Ml := ⟨10, fun x => [.int .i64 x.1.k, .int .i64 x.1.f, .int .i64 x.1.t, .int .i64 x.1.s, .int .i64 x.1.g, .int .i64 x.1.q, .int .i64 x.1.h, .bool x.1.u, .string x.1.d, .int .i64 x.2], fun x => FOk x.1 ∧ I64 x.2, by decide, fun _ => rfl, fun _ v h => by simp at h; rcases h with rfl | rfl | rfl | rfl | rfl | rfl | rfl | rfl | rfl | rfl <;> rfl⟩
def fF : Flat Fm := ⟨9, fmC, FOk, by decide, fun _ => rfl, fun _ v h => by simp at h; rcases h with rfl | rfl | rfl | rfl | rfl | rfl | rfl | rfl | rfl <;> rfl⟩
abbrev MlAt (w : World) (B : Nat) (A : Option Addr) (l : List Ml) : Prop := FlAt fM w B A l
abbrev FmAt (w : World) (B : Nat) (A : Option Addr) (l : List Fm) : Prop := FlAt fF w B A l
/-- The ten cells of a mail. -/
def MlC (w : World) (b p : Nat) (x : Ml) : Prop := w.cell? ⟨b, p, none⟩ = some (.int .i64 x.1.k) ∧ w.cell? ⟨b, p + 1, none⟩ = some (.int .i64 x.1.f) ∧ w.cell? ⟨b, p + 2, none⟩ = some (.int .i64 x.1.t) ∧ w.cell? ⟨b, p + 3, none⟩ = some (.int .i64 x.1.s) ∧ w.cell? ⟨b, p + 4, none⟩ = some (.int .i64 x.1.g) ∧ w.cell? ⟨b, p + 5, none⟩ = some (.int .i64 x.1.q) ∧ w.cell? ⟨b, p + 6, none⟩ = some (.int .i64 x.1.h) ∧ w.cell? ⟨b, p + 7, none⟩ = some (.bool x.1.u) ∧ w.cell? ⟨b, p + 8, none⟩ = some (.string x.1.d) ∧ w.cell? ⟨b, p + 9, none⟩ = some (.int .i64 x.2)
theorem ml_cell {w : World} {B : Nat} {A : Option Addr} {l : List Ml} (h : MlAt w B A l) (i : Nat) (hi : i < l.length) : ∃ b p, A = some ⟨b, p, none⟩ ∧ b < B ∧ MlC w b (p + i * 10) l[i] ∧ fM.ok l[i] := by
  obtain ⟨b, p, h1, h2, h3, h4⟩ := h i hi
  exact ⟨b, p, h1, h2, ⟨h3 0 _ rfl, h3 1 _ rfl, h3 2 _ rfl, h3 3 _ rfl, h3 4 _ rfl, h3 5 _ rfl, h3 6 _ rfl, h3 7 _ rfl, h3 8 _ rfl, h3 9 _ rfl⟩, h4⟩
theorem lim_i64 (n : Int) : I64 (lim n) := by have := lim_in n; unfold I64; omega

section
open Go.ChangeShapes Go.WideShapes
variable {H : Type} {enc : TypeId × Value → H}
end

end Go.Proofs.Ytpfmfnogckeneaa.Mbx
