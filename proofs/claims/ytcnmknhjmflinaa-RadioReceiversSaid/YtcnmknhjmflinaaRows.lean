/-
  No cell of these rows narrows 'for every input' (looked for: loops, veiled, ifaces, maps, wideKeys, modest, calm, conditions, laid).
  DERIVED. THE GIVEN ROWS OF THIS SEAT. 7 by the template 'for every input the law returns true; each argument reads behind the call as it read before'; 0 by the template 'total and deterministic' (their statements: YtcnmknhjmflinaaTotals.lean).
  GIVEN WITH THE SEED: the statements are not yours to turn. If you find one false, say at which input.
  Laid BY PROGRAM, IN A SANDBOX (cutbox-rows.mjs): the forced cells as the released guide's own fill.sh prints them over the translation 5361a67fb63a590f… (all of the seat's roots in one cut). By AI agents, Wed Nov 11 2026. No macro, syntax, notation, axiom, sorry.
-/
import Derived.Test.YtcnmknhjmflinaaChecked
import GoSem.Claim
import GoSem.ClaimJoined
import GoSem.ClaimMapViews
import Derived.JoinedTies
import Derived.KernelRfl
namespace Go.Proofs.Ytcnmknhjmflinaa
/- THE CELL 'sum', in the pinned program and in every row, IS THE sha256 OF THE DUMP (.gsa) THAT YtcnmknhjmflinaaProg.lean LOADS. Nothing in Lean hashes anything: it is a label: what it is worth is what the hold of that sum in a sandbox is worth. -/
noncomputable def Try.pinned : Pinned := { name := "ytcnmknhjmflinaa", sum := "5361a67fb63a590fa70916a509856cf4a8fba4f30bccadf750db85b0ccfb9a91", checked := Try.checked }
namespace Rows
def none {H : Type} : Left H := { results := [], args := [] }

/-- 'homehublaw18.RadioChecks': WHATEVER THE INPUT: true; the input reads as it did. -/
def radioChecksSpec : ChangeSpec := { name := "radioChecks", fn := fun _ => fun
  | [d] => { results := [.lit (.bool true)], args := [d] }
  | _ => none }
def radioChecksRow : OpenClaim := { program := "ytcnmknhjmflinaa", sum := "5361a67fb63a590fa70916a509856cf4a8fba4f30bccadf750db85b0ccfb9a91", func := "homehub/homehublaw18.RadioChecks", spec := "radioChecks", unfollowed := true, recurses := true, plainKeys := false, apart := false }
def RadioChecksSaid : Prop := radioChecksRow.holds Try.pinned (OpenSpec.ofChange radioChecksSpec)

/-- ITS FALSE NEIGHBOUR: 'it returns false'. Refute it at one input. -/
def radioChecksWrong : ChangeSpec := { name := "radioChecks", fn := fun _ => fun
  | [d] => { results := [.lit (.bool false)], args := [d] }
  | _ => none }
def RadioChecksWrongFalsely : Prop := radioChecksRow.holds Try.pinned (OpenSpec.ofChange radioChecksWrong)

/-- 'homehublaw18.RadioDelivers': WHATEVER THE INPUT: true; the input reads as it did. -/
def radioDeliversSpec : ChangeSpec := { name := "radioDelivers", fn := fun _ => fun
  | [d1, d2] => { results := [.lit (.bool true)], args := [d1, d2] }
  | _ => none }
def radioDeliversRow : OpenClaim := { program := "ytcnmknhjmflinaa", sum := "5361a67fb63a590fa70916a509856cf4a8fba4f30bccadf750db85b0ccfb9a91", func := "homehub/homehublaw18.RadioDelivers", spec := "radioDelivers", unfollowed := true, recurses := true, plainKeys := false, apart := false }
def RadioDeliversSaid : Prop := radioDeliversRow.holds Try.pinned (OpenSpec.ofChange radioDeliversSpec)

/-- ITS FALSE NEIGHBOUR: 'it returns false'. Refute it at one input. -/
def radioDeliversWrong : ChangeSpec := { name := "radioDelivers", fn := fun _ => fun
  | [d1, d2] => { results := [.lit (.bool false)], args := [d1, d2] }
  | _ => none }
def RadioDeliversWrongFalsely : Prop := radioDeliversRow.holds Try.pinned (OpenSpec.ofChange radioDeliversWrong)

/-- 'homehublaw18.RadioChannels': WHATEVER THE INPUT: true; the input reads as it did. -/
def radioChannelsSpec : ChangeSpec := { name := "radioChannels", fn := fun _ => fun
  | [d1, d2, d3] => { results := [.lit (.bool true)], args := [d1, d2, d3] }
  | _ => none }
def radioChannelsRow : OpenClaim := { program := "ytcnmknhjmflinaa", sum := "5361a67fb63a590fa70916a509856cf4a8fba4f30bccadf750db85b0ccfb9a91", func := "homehub/homehublaw18.RadioChannels", spec := "radioChannels", unfollowed := true, recurses := true, plainKeys := false, apart := false }
def RadioChannelsSaid : Prop := radioChannelsRow.holds Try.pinned (OpenSpec.ofChange radioChannelsSpec)

/-- ITS FALSE NEIGHBOUR: 'it returns false'. Refute it at one input. -/
def radioChannelsWrong : ChangeSpec := { name := "radioChannels", fn := fun _ => fun
  | [d1, d2, d3] => { results := [.lit (.bool false)], args := [d1, d2, d3] }
  | _ => none }
def RadioChannelsWrongFalsely : Prop := radioChannelsRow.holds Try.pinned (OpenSpec.ofChange radioChannelsWrong)

/-- 'homehublaw18.RadioJams': WHATEVER THE INPUT: true; the input reads as it did. -/
def radioJamsSpec : ChangeSpec := { name := "radioJams", fn := fun _ => fun
  | [d1, d2] => { results := [.lit (.bool true)], args := [d1, d2] }
  | _ => none }
def radioJamsRow : OpenClaim := { program := "ytcnmknhjmflinaa", sum := "5361a67fb63a590fa70916a509856cf4a8fba4f30bccadf750db85b0ccfb9a91", func := "homehub/homehublaw18.RadioJams", spec := "radioJams", unfollowed := true, recurses := true, plainKeys := false, apart := false }
def RadioJamsSaid : Prop := radioJamsRow.holds Try.pinned (OpenSpec.ofChange radioJamsSpec)

/-- ITS FALSE NEIGHBOUR: 'it returns false'. Refute it at one input. -/
def radioJamsWrong : ChangeSpec := { name := "radioJams", fn := fun _ => fun
  | [d1, d2] => { results := [.lit (.bool false)], args := [d1, d2] }
  | _ => none }
def RadioJamsWrongFalsely : Prop := radioJamsRow.holds Try.pinned (OpenSpec.ofChange radioJamsWrong)

/-- 'homehublaw18.RadioReceivers': WHATEVER THE INPUT: true; the input reads as it did. -/
def radioReceiversSpec : ChangeSpec := { name := "radioReceivers", fn := fun _ => fun
  | [d1, d2] => { results := [.lit (.bool true)], args := [d1, d2] }
  | _ => none }
def radioReceiversRow : OpenClaim := { program := "ytcnmknhjmflinaa", sum := "5361a67fb63a590fa70916a509856cf4a8fba4f30bccadf750db85b0ccfb9a91", func := "homehub/homehublaw18.RadioReceivers", spec := "radioReceivers", unfollowed := true, recurses := true, plainKeys := false, apart := false }
def RadioReceiversSaid : Prop := radioReceiversRow.holds Try.pinned (OpenSpec.ofChange radioReceiversSpec)

/-- ITS FALSE NEIGHBOUR: 'it returns false'. Refute it at one input. -/
def radioReceiversWrong : ChangeSpec := { name := "radioReceivers", fn := fun _ => fun
  | [d1, d2] => { results := [.lit (.bool false)], args := [d1, d2] }
  | _ => none }
def RadioReceiversWrongFalsely : Prop := radioReceiversRow.holds Try.pinned (OpenSpec.ofChange radioReceiversWrong)

/-- 'homehublaw18.RadioSilence': WHATEVER THE INPUT: true; the input reads as it did. -/
def radioSilenceSpec : ChangeSpec := { name := "radioSilence", fn := fun _ => fun
  | [d1, d2, d3] => { results := [.lit (.bool true)], args := [d1, d2, d3] }
  | _ => none }
def radioSilenceRow : OpenClaim := { program := "ytcnmknhjmflinaa", sum := "5361a67fb63a590fa70916a509856cf4a8fba4f30bccadf750db85b0ccfb9a91", func := "homehub/homehublaw18.RadioSilence", spec := "radioSilence", unfollowed := true, recurses := true, plainKeys := false, apart := false }
def RadioSilenceSaid : Prop := radioSilenceRow.holds Try.pinned (OpenSpec.ofChange radioSilenceSpec)

/-- ITS FALSE NEIGHBOUR: 'it returns false'. Refute it at one input. -/
def radioSilenceWrong : ChangeSpec := { name := "radioSilence", fn := fun _ => fun
  | [d1, d2, d3] => { results := [.lit (.bool false)], args := [d1, d2, d3] }
  | _ => none }
def RadioSilenceWrongFalsely : Prop := radioSilenceRow.holds Try.pinned (OpenSpec.ofChange radioSilenceWrong)

/-- 'homehublaw18.RadioQuietest': WHATEVER THE INPUT: true; the input reads as it did. -/
def radioQuietestSpec : ChangeSpec := { name := "radioQuietest", fn := fun _ => fun
  | [d1, d2, d3] => { results := [.lit (.bool true)], args := [d1, d2, d3] }
  | _ => none }
def radioQuietestRow : OpenClaim := { program := "ytcnmknhjmflinaa", sum := "5361a67fb63a590fa70916a509856cf4a8fba4f30bccadf750db85b0ccfb9a91", func := "homehub/homehublaw18.RadioQuietest", spec := "radioQuietest", unfollowed := true, recurses := true, plainKeys := false, apart := false }
def RadioQuietestSaid : Prop := radioQuietestRow.holds Try.pinned (OpenSpec.ofChange radioQuietestSpec)

/-- ITS FALSE NEIGHBOUR: 'it returns false'. Refute it at one input. -/
def radioQuietestWrong : ChangeSpec := { name := "radioQuietest", fn := fun _ => fun
  | [d1, d2, d3] => { results := [.lit (.bool false)], args := [d1, d2, d3] }
  | _ => none }
def RadioQuietestWrongFalsely : Prop := radioQuietestRow.holds Try.pinned (OpenSpec.ofChange radioQuietestWrong)

/- THE SECOND FORM. 'bulk': how many values and letters a reading holds, each counted each time it is reached (what is shared counts as often as it is met; a slice's spare places count too). A statement '..UptoSaid' is the law's where the arguments, and the package variables that the reading takes, are together of bulk at most 1048576: NARROWER than '..Said'. Prove '..Said' where nothing that the law and all that it calls make is longer than what came in: it says more and counts as full. Else prove '..UptoSaid'. A law counts once. -/
mutual
def uptoBulk {H : Type} : DataW H → Nat
  | .lit (.string bytes) => bytes.length + 1
  | .lit _ => 1
  | .nil => 1
  | .ptr d => uptoBulk d + 1
  | .slice elems spare => uptoBulkAll elems + uptoBulkAll spare + 1
  | .agg parts => uptoBulkAll parts + 1
  | .iface _ d => uptoBulk d + 1
  | .map entries => uptoBulkEntries entries + 1
  | .held _ => 1
def uptoBulkAll {H : Type} : List (DataW H) → Nat
  | [] => 0
  | d :: r => uptoBulk d + uptoBulkAll r
def uptoBulkEntries {H : Type} : List (Lit × DataW H) → Nat
  | [] => 0
  | x :: r => uptoBulkEntry x + uptoBulkEntries r
def uptoBulkEntry {H : Type} : Lit × DataW H → Nat
  | (.string bytes, d) => bytes.length + uptoBulk d + 1
  | (_, d) => uptoBulk d + 1
 end
def uptoSmall : (H : Type) → List (DataW H) → Bool := fun _ ds => decide (uptoBulkAll ds ≤ 1048576)
def OpenSpec.upto (s : _root_.Go.ChangeSpec) : _root_.Go.OpenSpec := { _root_.Go.OpenSpec.ofChange s with cond := some uptoSmall }

/-- 'homehublaw18.RadioChecks', WHERE WHAT IT READS IS OF BULK AT MOST 1048576: true; the input reads as it did. -/
def radioChecksUptoRow : OpenClaim := { program := "ytcnmknhjmflinaa", sum := "5361a67fb63a590fa70916a509856cf4a8fba4f30bccadf750db85b0ccfb9a91", func := "homehub/homehublaw18.RadioChecks", spec := "radioChecks", unfollowed := true, recurses := true, plainKeys := false, apart := false, narrowed := true }
def RadioChecksUptoSaid : Prop := radioChecksUptoRow.holds Try.pinned (OpenSpec.upto radioChecksSpec)

/-- 'homehublaw18.RadioDelivers', WHERE WHAT IT READS IS OF BULK AT MOST 1048576: true; the input reads as it did. -/
def radioDeliversUptoRow : OpenClaim := { program := "ytcnmknhjmflinaa", sum := "5361a67fb63a590fa70916a509856cf4a8fba4f30bccadf750db85b0ccfb9a91", func := "homehub/homehublaw18.RadioDelivers", spec := "radioDelivers", unfollowed := true, recurses := true, plainKeys := false, apart := false, narrowed := true }
def RadioDeliversUptoSaid : Prop := radioDeliversUptoRow.holds Try.pinned (OpenSpec.upto radioDeliversSpec)

/-- 'homehublaw18.RadioChannels', WHERE WHAT IT READS IS OF BULK AT MOST 1048576: true; the input reads as it did. -/
def radioChannelsUptoRow : OpenClaim := { program := "ytcnmknhjmflinaa", sum := "5361a67fb63a590fa70916a509856cf4a8fba4f30bccadf750db85b0ccfb9a91", func := "homehub/homehublaw18.RadioChannels", spec := "radioChannels", unfollowed := true, recurses := true, plainKeys := false, apart := false, narrowed := true }
def RadioChannelsUptoSaid : Prop := radioChannelsUptoRow.holds Try.pinned (OpenSpec.upto radioChannelsSpec)

/-- 'homehublaw18.RadioJams', WHERE WHAT IT READS IS OF BULK AT MOST 1048576: true; the input reads as it did. -/
def radioJamsUptoRow : OpenClaim := { program := "ytcnmknhjmflinaa", sum := "5361a67fb63a590fa70916a509856cf4a8fba4f30bccadf750db85b0ccfb9a91", func := "homehub/homehublaw18.RadioJams", spec := "radioJams", unfollowed := true, recurses := true, plainKeys := false, apart := false, narrowed := true }
def RadioJamsUptoSaid : Prop := radioJamsUptoRow.holds Try.pinned (OpenSpec.upto radioJamsSpec)

/-- 'homehublaw18.RadioReceivers', WHERE WHAT IT READS IS OF BULK AT MOST 1048576: true; the input reads as it did. -/
def radioReceiversUptoRow : OpenClaim := { program := "ytcnmknhjmflinaa", sum := "5361a67fb63a590fa70916a509856cf4a8fba4f30bccadf750db85b0ccfb9a91", func := "homehub/homehublaw18.RadioReceivers", spec := "radioReceivers", unfollowed := true, recurses := true, plainKeys := false, apart := false, narrowed := true }
def RadioReceiversUptoSaid : Prop := radioReceiversUptoRow.holds Try.pinned (OpenSpec.upto radioReceiversSpec)

/-- 'homehublaw18.RadioSilence', WHERE WHAT IT READS IS OF BULK AT MOST 1048576: true; the input reads as it did. -/
def radioSilenceUptoRow : OpenClaim := { program := "ytcnmknhjmflinaa", sum := "5361a67fb63a590fa70916a509856cf4a8fba4f30bccadf750db85b0ccfb9a91", func := "homehub/homehublaw18.RadioSilence", spec := "radioSilence", unfollowed := true, recurses := true, plainKeys := false, apart := false, narrowed := true }
def RadioSilenceUptoSaid : Prop := radioSilenceUptoRow.holds Try.pinned (OpenSpec.upto radioSilenceSpec)

/-- 'homehublaw18.RadioQuietest', WHERE WHAT IT READS IS OF BULK AT MOST 1048576: true; the input reads as it did. -/
def radioQuietestUptoRow : OpenClaim := { program := "ytcnmknhjmflinaa", sum := "5361a67fb63a590fa70916a509856cf4a8fba4f30bccadf750db85b0ccfb9a91", func := "homehub/homehublaw18.RadioQuietest", spec := "radioQuietest", unfollowed := true, recurses := true, plainKeys := false, apart := false, narrowed := true }
def RadioQuietestUptoSaid : Prop := radioQuietestUptoRow.holds Try.pinned (OpenSpec.upto radioQuietestSpec)

end Rows
end Go.Proofs.Ytcnmknhjmflinaa
