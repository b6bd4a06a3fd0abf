/-
  No cell of these rows narrows 'for every input' (looked for: loops, veiled, ifaces, maps, wideKeys, modest, calm, conditions, laid).
  DERIVED. THE GIVEN ROWS OF THIS SEAT. 5 by the template 'for every input the law returns true; each argument reads behind the call as it read before'; 0 by the template 'total and deterministic' (their statements: YtmildkjkppnblaaTotals.lean).
  GIVEN WITH THE SEED: the statements are not yours to turn. If you find one false, say at which input.
  Laid BY PROGRAM, IN A SANDBOX (cutbox-rows.mjs): the forced cells as the released guide's own fill.sh prints them over the translation af2208485c2ce497… (all of the seat's roots in one cut). By AI agents, Wed Nov 11 2026. No macro, syntax, notation, axiom, sorry.
-/
import Derived.Test.YtmildkjkppnblaaChecked
import GoSem.Claim
import GoSem.ClaimJoined
import GoSem.ClaimMapViews
import Derived.JoinedTies
import Derived.KernelRfl
namespace Go.Proofs.Ytmildkjkppnblaa
/- THE CELL 'sum', in the pinned program and in every row, IS THE sha256 OF THE DUMP (.gsa) THAT YtmildkjkppnblaaProg.lean LOADS. Nothing in Lean hashes anything: it is a label: what it is worth is what the hold of that sum in a sandbox is worth. -/
noncomputable def Try.pinned : Pinned := { name := "ytmildkjkppnblaa", sum := "af2208485c2ce4971939232fb681c4ba5a94210f3b2b778acd513e6cae91f32f", checked := Try.checked }
namespace Rows
def none {H : Type} : Left H := { results := [], args := [] }

/-- 'homehublaw04.NamesValid': WHATEVER THE INPUT: true; the input reads as it did. -/
def namesValidSpec : ChangeSpec := { name := "namesValid", fn := fun _ => fun
  | [d1, d2] => { results := [.lit (.bool true)], args := [d1, d2] }
  | _ => none }
def namesValidRow : OpenClaim := { program := "ytmildkjkppnblaa", sum := "af2208485c2ce4971939232fb681c4ba5a94210f3b2b778acd513e6cae91f32f", func := "homehub/homehublaw04.NamesValid", spec := "namesValid", inPlace := ["internal/bytealg.IndexByteString"], recurses := true, apart := false }
def NamesValidSaid : Prop := namesValidRow.holds Try.pinned (OpenSpec.ofChange namesValidSpec)

/-- ITS FALSE NEIGHBOUR: 'it returns false'. Refute it at one input. -/
def namesValidWrong : ChangeSpec := { name := "namesValid", fn := fun _ => fun
  | [d1, d2] => { results := [.lit (.bool false)], args := [d1, d2] }
  | _ => none }
def NamesValidWrongFalsely : Prop := namesValidRow.holds Try.pinned (OpenSpec.ofChange namesValidWrong)

/-- 'homehublaw04.NamesUnquotes': WHATEVER THE INPUT: true; the input reads as it did. -/
def namesUnquotesSpec : ChangeSpec := { name := "namesUnquotes", fn := fun _ => fun
  | [d] => { results := [.lit (.bool true)], args := [d] }
  | _ => none }
def namesUnquotesRow : OpenClaim := { program := "ytmildkjkppnblaa", sum := "af2208485c2ce4971939232fb681c4ba5a94210f3b2b778acd513e6cae91f32f", func := "homehub/homehublaw04.NamesUnquotes", spec := "namesUnquotes", inPlace := ["internal/bytealg.IndexByteString"], apart := false }
def NamesUnquotesSaid : Prop := namesUnquotesRow.holds Try.pinned (OpenSpec.ofChange namesUnquotesSpec)

/-- ITS FALSE NEIGHBOUR: 'it returns false'. Refute it at one input. -/
def namesUnquotesWrong : ChangeSpec := { name := "namesUnquotes", fn := fun _ => fun
  | [d] => { results := [.lit (.bool false)], args := [d] }
  | _ => none }
def NamesUnquotesWrongFalsely : Prop := namesUnquotesRow.holds Try.pinned (OpenSpec.ofChange namesUnquotesWrong)

/-- 'homehublaw04.NamesSorts': WHATEVER THE INPUT: true; the input reads as it did. -/
def namesSortsSpec : ChangeSpec := { name := "namesSorts", fn := fun _ => fun
  | [d1, d2] => { results := [.lit (.bool true)], args := [d1, d2] }
  | _ => none }
def namesSortsRow : OpenClaim := { program := "ytmildkjkppnblaa", sum := "af2208485c2ce4971939232fb681c4ba5a94210f3b2b778acd513e6cae91f32f", func := "homehub/homehublaw04.NamesSorts", spec := "namesSorts", inPlace := ["internal/bytealg.IndexByteString"], recurses := true, apart := false }
def NamesSortsSaid : Prop := namesSortsRow.holds Try.pinned (OpenSpec.ofChange namesSortsSpec)

/-- ITS FALSE NEIGHBOUR: 'it returns false'. Refute it at one input. -/
def namesSortsWrong : ChangeSpec := { name := "namesSorts", fn := fun _ => fun
  | [d1, d2] => { results := [.lit (.bool false)], args := [d1, d2] }
  | _ => none }
def NamesSortsWrongFalsely : Prop := namesSortsRow.holds Try.pinned (OpenSpec.ofChange namesSortsWrong)

/-- 'homehublaw04.NamesFields': WHATEVER THE INPUT: true; the input reads as it did. -/
def namesFieldsSpec : ChangeSpec := { name := "namesFields", fn := fun _ => fun
  | [d] => { results := [.lit (.bool true)], args := [d] }
  | _ => none }
def namesFieldsRow : OpenClaim := { program := "ytmildkjkppnblaa", sum := "af2208485c2ce4971939232fb681c4ba5a94210f3b2b778acd513e6cae91f32f", func := "homehub/homehublaw04.NamesFields", spec := "namesFields", inPlace := ["internal/bytealg.IndexByteString"], apart := false }
def NamesFieldsSaid : Prop := namesFieldsRow.holds Try.pinned (OpenSpec.ofChange namesFieldsSpec)

/-- ITS FALSE NEIGHBOUR: 'it returns false'. Refute it at one input. -/
def namesFieldsWrong : ChangeSpec := { name := "namesFields", fn := fun _ => fun
  | [d] => { results := [.lit (.bool false)], args := [d] }
  | _ => none }
def NamesFieldsWrongFalsely : Prop := namesFieldsRow.holds Try.pinned (OpenSpec.ofChange namesFieldsWrong)

/-- 'homehublaw04.NamesOrdered': WHATEVER THE INPUT: true; the input reads as it did. -/
def namesOrderedSpec : ChangeSpec := { name := "namesOrdered", fn := fun _ => fun
  | [d] => { results := [.lit (.bool true)], args := [d] }
  | _ => none }
def namesOrderedRow : OpenClaim := { program := "ytmildkjkppnblaa", sum := "af2208485c2ce4971939232fb681c4ba5a94210f3b2b778acd513e6cae91f32f", func := "homehub/homehublaw04.NamesOrdered", spec := "namesOrdered", inPlace := ["internal/bytealg.IndexByteString"], recurses := true, apart := false }
def NamesOrderedSaid : Prop := namesOrderedRow.holds Try.pinned (OpenSpec.ofChange namesOrderedSpec)

/-- ITS FALSE NEIGHBOUR: 'it returns false'. Refute it at one input. -/
def namesOrderedWrong : ChangeSpec := { name := "namesOrdered", fn := fun _ => fun
  | [d] => { results := [.lit (.bool false)], args := [d] }
  | _ => none }
def NamesOrderedWrongFalsely : Prop := namesOrderedRow.holds Try.pinned (OpenSpec.ofChange namesOrderedWrong)

/- THE SECOND FORM. 'bulk': how many values and letters a reading holds, each counted each time it is reached (what is shared counts as often as it is met; a slice's spare places count too). A statement '..UptoSaid' is the law's where the arguments, and the package variables that the reading takes, are together of bulk at most 1048576: NARROWER than '..Said'. Prove '..Said' where nothing that the law and all that it calls make is longer than what came in: it says more and counts as full. Else prove '..UptoSaid'. A law counts once. -/
mutual
def uptoBulk {H : Type} : DataW H → Nat
  | .lit (.string bytes) => bytes.length + 1
  | .lit _ => 1
  | .nil => 1
  | .ptr d => uptoBulk d + 1
  | .slice elems spare => uptoBulkAll elems + uptoBulkAll spare + 1
  | .agg parts => uptoBulkAll parts + 1
  | .iface _ d => uptoBulk d + 1
  | .map entries => uptoBulkEntries entries + 1
  | .held _ => 1
def uptoBulkAll {H : Type} : List (DataW H) → Nat
  | [] => 0
  | d :: r => uptoBulk d + uptoBulkAll r
def uptoBulkEntries {H : Type} : List (Lit × DataW H) → Nat
  | [] => 0
  | x :: r => uptoBulkEntry x + uptoBulkEntries r
def uptoBulkEntry {H : Type} : Lit × DataW H → Nat
  | (.string bytes, d) => bytes.length + uptoBulk d + 1
  | (_, d) => uptoBulk d + 1
 end
def uptoSmall : (H : Type) → List (DataW H) → Bool := fun _ ds => decide (uptoBulkAll ds ≤ 1048576)
def OpenSpec.upto (s : _root_.Go.ChangeSpec) : _root_.Go.OpenSpec := { _root_.Go.OpenSpec.ofChange s with cond := some uptoSmall }

/-- 'homehublaw04.NamesValid', WHERE WHAT IT READS IS OF BULK AT MOST 1048576: true; the input reads as it did. -/
def namesValidUptoRow : OpenClaim := { program := "ytmildkjkppnblaa", sum := "af2208485c2ce4971939232fb681c4ba5a94210f3b2b778acd513e6cae91f32f", func := "homehub/homehublaw04.NamesValid", spec := "namesValid", inPlace := ["internal/bytealg.IndexByteString"], recurses := true, apart := false, narrowed := true }
def NamesValidUptoSaid : Prop := namesValidUptoRow.holds Try.pinned (OpenSpec.upto namesValidSpec)

/-- 'homehublaw04.NamesUnquotes', WHERE WHAT IT READS IS OF BULK AT MOST 1048576: true; the input reads as it did. -/
def namesUnquotesUptoRow : OpenClaim := { program := "ytmildkjkppnblaa", sum := "af2208485c2ce4971939232fb681c4ba5a94210f3b2b778acd513e6cae91f32f", func := "homehub/homehublaw04.NamesUnquotes", spec := "namesUnquotes", inPlace := ["internal/bytealg.IndexByteString"], apart := false, narrowed := true }
def NamesUnquotesUptoSaid : Prop := namesUnquotesUptoRow.holds Try.pinned (OpenSpec.upto namesUnquotesSpec)

/-- 'homehublaw04.NamesSorts', WHERE WHAT IT READS IS OF BULK AT MOST 1048576: true; the input reads as it did. -/
def namesSortsUptoRow : OpenClaim := { program := "ytmildkjkppnblaa", sum := "af2208485c2ce4971939232fb681c4ba5a94210f3b2b778acd513e6cae91f32f", func := "homehub/homehublaw04.NamesSorts", spec := "namesSorts", inPlace := ["internal/bytealg.IndexByteString"], recurses := true, apart := false, narrowed := true }
def NamesSortsUptoSaid : Prop := namesSortsUptoRow.holds Try.pinned (OpenSpec.upto namesSortsSpec)

/-- 'homehublaw04.NamesFields', WHERE WHAT IT READS IS OF BULK AT MOST 1048576: true; the input reads as it did. -/
def namesFieldsUptoRow : OpenClaim := { program := "ytmildkjkppnblaa", sum := "af2208485c2ce4971939232fb681c4ba5a94210f3b2b778acd513e6cae91f32f", func := "homehub/homehublaw04.NamesFields", spec := "namesFields", inPlace := ["internal/bytealg.IndexByteString"], apart := false, narrowed := true }
def NamesFieldsUptoSaid : Prop := namesFieldsUptoRow.holds Try.pinned (OpenSpec.upto namesFieldsSpec)

/-- 'homehublaw04.NamesOrdered', WHERE WHAT IT READS IS OF BULK AT MOST 1048576: true; the input reads as it did. -/
def namesOrderedUptoRow : OpenClaim := { program := "ytmildkjkppnblaa", sum := "af2208485c2ce4971939232fb681c4ba5a94210f3b2b778acd513e6cae91f32f", func := "homehub/homehublaw04.NamesOrdered", spec := "namesOrdered", inPlace := ["internal/bytealg.IndexByteString"], recurses := true, apart := false, narrowed := true }
def NamesOrderedUptoSaid : Prop := namesOrderedUptoRow.holds Try.pinned (OpenSpec.upto namesOrderedSpec)

end Rows
end Go.Proofs.Ytmildkjkppnblaa
