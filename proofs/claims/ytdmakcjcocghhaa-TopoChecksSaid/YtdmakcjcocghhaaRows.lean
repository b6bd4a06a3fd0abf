/-
  No cell of these rows narrows 'for every input' (looked for: loops, veiled, ifaces, maps, wideKeys, modest, calm, conditions, laid).
  DERIVED. THE GIVEN ROWS OF THIS SEAT. 8 by the template 'for every input the law returns true; each argument reads behind the call as it read before'; 0 by the template 'total and deterministic' (their statements: YtdmakcjcocghhaaTotals.lean).
  GIVEN WITH THE SEED: the statements are not yours to turn. If you find one false, say at which input.
  Laid BY PROGRAM, IN A SANDBOX (cutbox-rows.mjs): the forced cells as the released guide's own fill.sh prints them over the translation af4b0d9a4ab0b84d… (all of the seat's roots in one cut). By AI agents, Wed Nov 11 2026. No macro, syntax, notation, axiom, sorry.
-/
import Derived.Test.YtdmakcjcocghhaaChecked
import GoSem.Claim
import GoSem.ClaimJoined
import GoSem.ClaimMapViews
import Derived.JoinedTies
import Derived.KernelRfl
namespace Go.Proofs.Ytdmakcjcocghhaa
/- THE CELL 'sum', in the pinned program and in every row, IS THE sha256 OF THE DUMP (.gsa) THAT YtdmakcjcocghhaaProg.lean LOADS. Nothing in Lean hashes anything: it is a label: what it is worth is what the hold of that sum in a sandbox is worth. -/
noncomputable def Try.pinned : Pinned := { name := "ytdmakcjcocghhaa", sum := "af4b0d9a4ab0b84da242e7d9df29c005d3f90115e22741a672bd67a40999c483", checked := Try.checked }
namespace Rows
def none {H : Type} : Left H := { results := [], args := [] }

/-- 'homehublaw12.TopoChecks': WHATEVER THE INPUT: true; the input reads as it did. -/
def topoChecksSpec : ChangeSpec := { name := "topoChecks", fn := fun _ => fun
  | [d] => { results := [.lit (.bool true)], args := [d] }
  | _ => none }
def topoChecksRow : OpenClaim := { program := "ytdmakcjcocghhaa", sum := "af4b0d9a4ab0b84da242e7d9df29c005d3f90115e22741a672bd67a40999c483", func := "homehub/homehublaw12.TopoChecks", spec := "topoChecks", unfollowed := true, recurses := true, plainKeys := false, apart := false }
def TopoChecksSaid : Prop := topoChecksRow.holds Try.pinned (OpenSpec.ofChange topoChecksSpec)

/-- ITS FALSE NEIGHBOUR: 'it returns false'. Refute it at one input. -/
def topoChecksWrong : ChangeSpec := { name := "topoChecks", fn := fun _ => fun
  | [d] => { results := [.lit (.bool false)], args := [d] }
  | _ => none }
def TopoChecksWrongFalsely : Prop := topoChecksRow.holds Try.pinned (OpenSpec.ofChange topoChecksWrong)

/-- 'homehublaw12.TopoPaths': WHATEVER THE INPUT: true; the input reads as it did. -/
def topoPathsSpec : ChangeSpec := { name := "topoPaths", fn := fun _ => fun
  | [d1, d2, d3] => { results := [.lit (.bool true)], args := [d1, d2, d3] }
  | _ => none }
def topoPathsRow : OpenClaim := { program := "ytdmakcjcocghhaa", sum := "af4b0d9a4ab0b84da242e7d9df29c005d3f90115e22741a672bd67a40999c483", func := "homehub/homehublaw12.TopoPaths", spec := "topoPaths", unfollowed := true, recurses := true, plainKeys := false, apart := false }
def TopoPathsSaid : Prop := topoPathsRow.holds Try.pinned (OpenSpec.ofChange topoPathsSpec)

/-- ITS FALSE NEIGHBOUR: 'it returns false'. Refute it at one input. -/
def topoPathsWrong : ChangeSpec := { name := "topoPaths", fn := fun _ => fun
  | [d1, d2, d3] => { results := [.lit (.bool false)], args := [d1, d2, d3] }
  | _ => none }
def TopoPathsWrongFalsely : Prop := topoPathsRow.holds Try.pinned (OpenSpec.ofChange topoPathsWrong)

/-- 'homehublaw12.TopoTrees': WHATEVER THE INPUT: true; the input reads as it did. -/
def topoTreesSpec : ChangeSpec := { name := "topoTrees", fn := fun _ => fun
  | [d1, d2, d3] => { results := [.lit (.bool true)], args := [d1, d2, d3] }
  | _ => none }
def topoTreesRow : OpenClaim := { program := "ytdmakcjcocghhaa", sum := "af4b0d9a4ab0b84da242e7d9df29c005d3f90115e22741a672bd67a40999c483", func := "homehub/homehublaw12.TopoTrees", spec := "topoTrees", unfollowed := true, recurses := true, plainKeys := false, apart := false }
def TopoTreesSaid : Prop := topoTreesRow.holds Try.pinned (OpenSpec.ofChange topoTreesSpec)

/-- ITS FALSE NEIGHBOUR: 'it returns false'. Refute it at one input. -/
def topoTreesWrong : ChangeSpec := { name := "topoTrees", fn := fun _ => fun
  | [d1, d2, d3] => { results := [.lit (.bool false)], args := [d1, d2, d3] }
  | _ => none }
def TopoTreesWrongFalsely : Prop := topoTreesRow.holds Try.pinned (OpenSpec.ofChange topoTreesWrong)

/-- 'homehublaw12.TopoRemoves': WHATEVER THE INPUT: true; the input reads as it did. -/
def topoRemovesSpec : ChangeSpec := { name := "topoRemoves", fn := fun _ => fun
  | [d1, d2] => { results := [.lit (.bool true)], args := [d1, d2] }
  | _ => none }
def topoRemovesRow : OpenClaim := { program := "ytdmakcjcocghhaa", sum := "af4b0d9a4ab0b84da242e7d9df29c005d3f90115e22741a672bd67a40999c483", func := "homehub/homehublaw12.TopoRemoves", spec := "topoRemoves", unfollowed := true, recurses := true, plainKeys := false, apart := false }
def TopoRemovesSaid : Prop := topoRemovesRow.holds Try.pinned (OpenSpec.ofChange topoRemovesSpec)

/-- ITS FALSE NEIGHBOUR: 'it returns false'. Refute it at one input. -/
def topoRemovesWrong : ChangeSpec := { name := "topoRemoves", fn := fun _ => fun
  | [d1, d2] => { results := [.lit (.bool false)], args := [d1, d2] }
  | _ => none }
def TopoRemovesWrongFalsely : Prop := topoRemovesRow.holds Try.pinned (OpenSpec.ofChange topoRemovesWrong)

/-- 'homehublaw12.TopoDistances': WHATEVER THE INPUT: true; the input reads as it did. -/
def topoDistancesSpec : ChangeSpec := { name := "topoDistances", fn := fun _ => fun
  | [d1, d2, d3, d4] => { results := [.lit (.bool true)], args := [d1, d2, d3, d4] }
  | _ => none }
def topoDistancesRow : OpenClaim := { program := "ytdmakcjcocghhaa", sum := "af4b0d9a4ab0b84da242e7d9df29c005d3f90115e22741a672bd67a40999c483", func := "homehub/homehublaw12.TopoDistances", spec := "topoDistances", unfollowed := true, recurses := true, plainKeys := false, apart := false }
def TopoDistancesSaid : Prop := topoDistancesRow.holds Try.pinned (OpenSpec.ofChange topoDistancesSpec)

/-- ITS FALSE NEIGHBOUR: 'it returns false'. Refute it at one input. -/
def topoDistancesWrong : ChangeSpec := { name := "topoDistances", fn := fun _ => fun
  | [d1, d2, d3, d4] => { results := [.lit (.bool false)], args := [d1, d2, d3, d4] }
  | _ => none }
def TopoDistancesWrongFalsely : Prop := topoDistancesRow.holds Try.pinned (OpenSpec.ofChange topoDistancesWrong)

/-- 'homehublaw12.TopoParents': WHATEVER THE INPUT: true; the input reads as it did. -/
def topoParentsSpec : ChangeSpec := { name := "topoParents", fn := fun _ => fun
  | [d1, d2, d3] => { results := [.lit (.bool true)], args := [d1, d2, d3] }
  | _ => none }
def topoParentsRow : OpenClaim := { program := "ytdmakcjcocghhaa", sum := "af4b0d9a4ab0b84da242e7d9df29c005d3f90115e22741a672bd67a40999c483", func := "homehub/homehublaw12.TopoParents", spec := "topoParents", unfollowed := true, recurses := true, plainKeys := false, apart := false }
def TopoParentsSaid : Prop := topoParentsRow.holds Try.pinned (OpenSpec.ofChange topoParentsSpec)

/-- ITS FALSE NEIGHBOUR: 'it returns false'. Refute it at one input. -/
def topoParentsWrong : ChangeSpec := { name := "topoParents", fn := fun _ => fun
  | [d1, d2, d3] => { results := [.lit (.bool false)], args := [d1, d2, d3] }
  | _ => none }
def TopoParentsWrongFalsely : Prop := topoParentsRow.holds Try.pinned (OpenSpec.ofChange topoParentsWrong)

/-- 'homehublaw12.TopoShrinks': WHATEVER THE INPUT: true; the input reads as it did. -/
def topoShrinksSpec : ChangeSpec := { name := "topoShrinks", fn := fun _ => fun
  | [d1, d2, d3, d4] => { results := [.lit (.bool true)], args := [d1, d2, d3, d4] }
  | _ => none }
def topoShrinksRow : OpenClaim := { program := "ytdmakcjcocghhaa", sum := "af4b0d9a4ab0b84da242e7d9df29c005d3f90115e22741a672bd67a40999c483", func := "homehub/homehublaw12.TopoShrinks", spec := "topoShrinks", unfollowed := true, recurses := true, plainKeys := false, apart := false }
def TopoShrinksSaid : Prop := topoShrinksRow.holds Try.pinned (OpenSpec.ofChange topoShrinksSpec)

/-- ITS FALSE NEIGHBOUR: 'it returns false'. Refute it at one input. -/
def topoShrinksWrong : ChangeSpec := { name := "topoShrinks", fn := fun _ => fun
  | [d1, d2, d3, d4] => { results := [.lit (.bool false)], args := [d1, d2, d3, d4] }
  | _ => none }
def TopoShrinksWrongFalsely : Prop := topoShrinksRow.holds Try.pinned (OpenSpec.ofChange topoShrinksWrong)

/-- 'homehublaw12.TopoOrder': WHATEVER THE INPUT: true; the input reads as it did. -/
def topoOrderSpec : ChangeSpec := { name := "topoOrder", fn := fun _ => fun
  | [d1, d2, d3] => { results := [.lit (.bool true)], args := [d1, d2, d3] }
  | _ => none }
def topoOrderRow : OpenClaim := { program := "ytdmakcjcocghhaa", sum := "af4b0d9a4ab0b84da242e7d9df29c005d3f90115e22741a672bd67a40999c483", func := "homehub/homehublaw12.TopoOrder", spec := "topoOrder", unfollowed := true, recurses := true, plainKeys := false, apart := false }
def TopoOrderSaid : Prop := topoOrderRow.holds Try.pinned (OpenSpec.ofChange topoOrderSpec)

/-- ITS FALSE NEIGHBOUR: 'it returns false'. Refute it at one input. -/
def topoOrderWrong : ChangeSpec := { name := "topoOrder", fn := fun _ => fun
  | [d1, d2, d3] => { results := [.lit (.bool false)], args := [d1, d2, d3] }
  | _ => none }
def TopoOrderWrongFalsely : Prop := topoOrderRow.holds Try.pinned (OpenSpec.ofChange topoOrderWrong)

/- THE SECOND FORM. 'bulk': how many values and letters a reading holds, each counted each time it is reached (what is shared counts as often as it is met; a slice's spare places count too). A statement '..UptoSaid' is the law's where the arguments, and the package variables that the reading takes, are together of bulk at most 1048576: NARROWER than '..Said'. Prove '..Said' where nothing that the law and all that it calls make is longer than what came in: it says more and counts as full. Else prove '..UptoSaid'. A law counts once. -/
mutual
def uptoBulk {H : Type} : DataW H → Nat
  | .lit (.string bytes) => bytes.length + 1
  | .lit _ => 1
  | .nil => 1
  | .ptr d => uptoBulk d + 1
  | .slice elems spare => uptoBulkAll elems + uptoBulkAll spare + 1
  | .agg parts => uptoBulkAll parts + 1
  | .iface _ d => uptoBulk d + 1
  | .map entries => uptoBulkEntries entries + 1
  | .held _ => 1
def uptoBulkAll {H : Type} : List (DataW H) → Nat
  | [] => 0
  | d :: r => uptoBulk d + uptoBulkAll r
def uptoBulkEntries {H : Type} : List (Lit × DataW H) → Nat
  | [] => 0
  | x :: r => uptoBulkEntry x + uptoBulkEntries r
def uptoBulkEntry {H : Type} : Lit × DataW H → Nat
  | (.string bytes, d) => bytes.length + uptoBulk d + 1
  | (_, d) => uptoBulk d + 1
 end
def uptoSmall : (H : Type) → List (DataW H) → Bool := fun _ ds => decide (uptoBulkAll ds ≤ 1048576)
def OpenSpec.upto (s : _root_.Go.ChangeSpec) : _root_.Go.OpenSpec := { _root_.Go.OpenSpec.ofChange s with cond := some uptoSmall }

/-- 'homehublaw12.TopoChecks', WHERE WHAT IT READS IS OF BULK AT MOST 1048576: true; the input reads as it did. -/
def topoChecksUptoRow : OpenClaim := { program := "ytdmakcjcocghhaa", sum := "af4b0d9a4ab0b84da242e7d9df29c005d3f90115e22741a672bd67a40999c483", func := "homehub/homehublaw12.TopoChecks", spec := "topoChecks", unfollowed := true, recurses := true, plainKeys := false, apart := false, narrowed := true }
def TopoChecksUptoSaid : Prop := topoChecksUptoRow.holds Try.pinned (OpenSpec.upto topoChecksSpec)

/-- 'homehublaw12.TopoPaths', WHERE WHAT IT READS IS OF BULK AT MOST 1048576: true; the input reads as it did. -/
def topoPathsUptoRow : OpenClaim := { program := "ytdmakcjcocghhaa", sum := "af4b0d9a4ab0b84da242e7d9df29c005d3f90115e22741a672bd67a40999c483", func := "homehub/homehublaw12.TopoPaths", spec := "topoPaths", unfollowed := true, recurses := true, plainKeys := false, apart := false, narrowed := true }
def TopoPathsUptoSaid : Prop := topoPathsUptoRow.holds Try.pinned (OpenSpec.upto topoPathsSpec)

/-- 'homehublaw12.TopoTrees', WHERE WHAT IT READS IS OF BULK AT MOST 1048576: true; the input reads as it did. -/
def topoTreesUptoRow : OpenClaim := { program := "ytdmakcjcocghhaa", sum := "af4b0d9a4ab0b84da242e7d9df29c005d3f90115e22741a672bd67a40999c483", func := "homehub/homehublaw12.TopoTrees", spec := "topoTrees", unfollowed := true, recurses := true, plainKeys := false, apart := false, narrowed := true }
def TopoTreesUptoSaid : Prop := topoTreesUptoRow.holds Try.pinned (OpenSpec.upto topoTreesSpec)

/-- 'homehublaw12.TopoRemoves', WHERE WHAT IT READS IS OF BULK AT MOST 1048576: true; the input reads as it did. -/
def topoRemovesUptoRow : OpenClaim := { program := "ytdmakcjcocghhaa", sum := "af4b0d9a4ab0b84da242e7d9df29c005d3f90115e22741a672bd67a40999c483", func := "homehub/homehublaw12.TopoRemoves", spec := "topoRemoves", unfollowed := true, recurses := true, plainKeys := false, apart := false, narrowed := true }
def TopoRemovesUptoSaid : Prop := topoRemovesUptoRow.holds Try.pinned (OpenSpec.upto topoRemovesSpec)

/-- 'homehublaw12.TopoDistances', WHERE WHAT IT READS IS OF BULK AT MOST 1048576: true; the input reads as it did. -/
def topoDistancesUptoRow : OpenClaim := { program := "ytdmakcjcocghhaa", sum := "af4b0d9a4ab0b84da242e7d9df29c005d3f90115e22741a672bd67a40999c483", func := "homehub/homehublaw12.TopoDistances", spec := "topoDistances", unfollowed := true, recurses := true, plainKeys := false, apart := false, narrowed := true }
def TopoDistancesUptoSaid : Prop := topoDistancesUptoRow.holds Try.pinned (OpenSpec.upto topoDistancesSpec)

/-- 'homehublaw12.TopoParents', WHERE WHAT IT READS IS OF BULK AT MOST 1048576: true; the input reads as it did. -/
def topoParentsUptoRow : OpenClaim := { program := "ytdmakcjcocghhaa", sum := "af4b0d9a4ab0b84da242e7d9df29c005d3f90115e22741a672bd67a40999c483", func := "homehub/homehublaw12.TopoParents", spec := "topoParents", unfollowed := true, recurses := true, plainKeys := false, apart := false, narrowed := true }
def TopoParentsUptoSaid : Prop := topoParentsUptoRow.holds Try.pinned (OpenSpec.upto topoParentsSpec)

/-- 'homehublaw12.TopoShrinks', WHERE WHAT IT READS IS OF BULK AT MOST 1048576: true; the input reads as it did. -/
def topoShrinksUptoRow : OpenClaim := { program := "ytdmakcjcocghhaa", sum := "af4b0d9a4ab0b84da242e7d9df29c005d3f90115e22741a672bd67a40999c483", func := "homehub/homehublaw12.TopoShrinks", spec := "topoShrinks", unfollowed := true, recurses := true, plainKeys := false, apart := false, narrowed := true }
def TopoShrinksUptoSaid : Prop := topoShrinksUptoRow.holds Try.pinned (OpenSpec.upto topoShrinksSpec)

/-- 'homehublaw12.TopoOrder', WHERE WHAT IT READS IS OF BULK AT MOST 1048576: true; the input reads as it did. -/
def topoOrderUptoRow : OpenClaim := { program := "ytdmakcjcocghhaa", sum := "af4b0d9a4ab0b84da242e7d9df29c005d3f90115e22741a672bd67a40999c483", func := "homehub/homehublaw12.TopoOrder", spec := "topoOrder", unfollowed := true, recurses := true, plainKeys := false, apart := false, narrowed := true }
def TopoOrderUptoSaid : Prop := topoOrderUptoRow.holds Try.pinned (OpenSpec.upto topoOrderSpec)

end Rows
end Go.Proofs.Ytdmakcjcocghhaa
