/-
  NARROWER THAN 'FOR EVERY INPUT', by the rows' own cells (each row's printed sentence says how): ClockDates: laid · ClockParts: laid · ClockZones: laid · ClockUtc: laid · ClockBack: laid · ClockNext: laid · ClockYears: laid · ClockLeast: laid.
  DERIVED. THE GIVEN ROWS OF THIS SEAT. 8 by the template 'for every input the law returns true; each argument reads behind the call as it read before'; 0 by the template 'total and deterministic' (their statements: YtoodfiicoplbhaaDoorTotals.lean).
  GIVEN WITH THE SEED: the statements are not yours to turn. If you find one false, say at which input.
  Laid BY PROGRAM, IN A SANDBOX (cutbox-rows.mjs): the forced cells as the released guide's own fill.sh prints them over the translation f089b7836abf572a… (all of the seat's roots in one cut). By AI agents, Wed Nov 11 2026. No macro, syntax, notation, axiom, sorry.
-/
import Derived.Test.YtoodfiicoplbhaaDoorChecked
import GoSem.Claim
import GoSem.ClaimJoined
import GoSem.ClaimMapViews
import Derived.JoinedTies
import Derived.KernelRfl
namespace Go.Proofs.YtoodfiicoplbhaaDoor
/- THE CELL 'sum', in the pinned program and in every row, IS THE sha256 OF THE DUMP (.gsa) THAT YtoodfiicoplbhaaDoorProg.lean LOADS. Nothing in Lean hashes anything: it is a label: what it is worth is what the hold of that sum in a sandbox is worth. -/
noncomputable def Tryd.pinned : Pinned := { name := "ytoodfiicoplbhaadoor", sum := "f089b7836abf572a2bbf7f018988e5c0f2b8de60724fae6dfd6ef5cab75ae971", checked := Tryd.checked }
namespace Rows
def none {H : Type} : Left H := { results := [], args := [] }

/- WHAT THE LISTED PACKAGE-LEVEL VARIABLES READ AS WHEN THE CALL BEGINS. Each datum BY PROGRAM (the guide's laid-datum.mjs) off the statement by which the dump's own 'gosem.cut.vars' lays the variable. In a bare row this is a premise. The card (YtoodfiicoplbhaaDoorCards.lean) ties it to the program's text. -/
def laid_homehub_clock_daysBefore {H : Type} : DataW H := .agg [.lit (.int .i64 0), .lit (.int .i64 31), .lit (.int .i64 59), .lit (.int .i64 90), .lit (.int .i64 120), .lit (.int .i64 151), .lit (.int .i64 181), .lit (.int .i64 212), .lit (.int .i64 243), .lit (.int .i64 273), .lit (.int .i64 304), .lit (.int .i64 334), .lit (.int .i64 365)]

/-- 'homehublaw05.ClockDates': WHATEVER THE INPUT: true; the input reads as it did. -/
def clockDatesSpec : ChangeSpec := { name := "clockDates", fn := fun _ => fun
  | [d1, d2] => { results := [.lit (.bool true)], args := [d1, d2] }
  | _ => none }
def clockDatesRow : OpenClaim := { program := "ytoodfiicoplbhaadoor", sum := "f089b7836abf572a2bbf7f018988e5c0f2b8de60724fae6dfd6ef5cab75ae971", func := "homehub/homehublaw05.ClockDates", spec := "clockDates", named := ["homehub/clock.daysBefore"], apart := false, laid := [("homehub/clock.daysBefore", laid_homehub_clock_daysBefore)] }
def ClockDatesSaid : Prop := clockDatesRow.holds Tryd.pinned (OpenSpec.ofChange clockDatesSpec)

/-- ITS FALSE NEIGHBOUR: 'it returns false'. Refute it at one input. -/
def clockDatesWrong : ChangeSpec := { name := "clockDates", fn := fun _ => fun
  | [d1, d2] => { results := [.lit (.bool false)], args := [d1, d2] }
  | _ => none }
def ClockDatesWrongFalsely : Prop := clockDatesRow.holds Tryd.pinned (OpenSpec.ofChange clockDatesWrong)

/-- 'homehublaw05.ClockParts': WHATEVER THE INPUT: true; the input reads as it did. -/
def clockPartsSpec : ChangeSpec := { name := "clockParts", fn := fun _ => fun
  | [d] => { results := [.lit (.bool true)], args := [d] }
  | _ => none }
def clockPartsRow : OpenClaim := { program := "ytoodfiicoplbhaadoor", sum := "f089b7836abf572a2bbf7f018988e5c0f2b8de60724fae6dfd6ef5cab75ae971", func := "homehub/homehublaw05.ClockParts", spec := "clockParts", named := ["homehub/clock.daysBefore"], apart := false, laid := [("homehub/clock.daysBefore", laid_homehub_clock_daysBefore)] }
def ClockPartsSaid : Prop := clockPartsRow.holds Tryd.pinned (OpenSpec.ofChange clockPartsSpec)

/-- ITS FALSE NEIGHBOUR: 'it returns false'. Refute it at one input. -/
def clockPartsWrong : ChangeSpec := { name := "clockParts", fn := fun _ => fun
  | [d] => { results := [.lit (.bool false)], args := [d] }
  | _ => none }
def ClockPartsWrongFalsely : Prop := clockPartsRow.holds Tryd.pinned (OpenSpec.ofChange clockPartsWrong)

/-- 'homehublaw05.ClockZones': WHATEVER THE INPUT: true; the input reads as it did. -/
def clockZonesSpec : ChangeSpec := { name := "clockZones", fn := fun _ => fun
  | [d1, d2] => { results := [.lit (.bool true)], args := [d1, d2] }
  | _ => none }
def clockZonesRow : OpenClaim := { program := "ytoodfiicoplbhaadoor", sum := "f089b7836abf572a2bbf7f018988e5c0f2b8de60724fae6dfd6ef5cab75ae971", func := "homehub/homehublaw05.ClockZones", spec := "clockZones", named := ["homehub/clock.daysBefore"], apart := false, laid := [("homehub/clock.daysBefore", laid_homehub_clock_daysBefore)] }
def ClockZonesSaid : Prop := clockZonesRow.holds Tryd.pinned (OpenSpec.ofChange clockZonesSpec)

/-- ITS FALSE NEIGHBOUR: 'it returns false'. Refute it at one input. -/
def clockZonesWrong : ChangeSpec := { name := "clockZones", fn := fun _ => fun
  | [d1, d2] => { results := [.lit (.bool false)], args := [d1, d2] }
  | _ => none }
def ClockZonesWrongFalsely : Prop := clockZonesRow.holds Tryd.pinned (OpenSpec.ofChange clockZonesWrong)

/-- 'homehublaw05.ClockUtc': WHATEVER THE INPUT: true; the input reads as it did. -/
def clockUtcSpec : ChangeSpec := { name := "clockUtc", fn := fun _ => fun
  | [d1, d2] => { results := [.lit (.bool true)], args := [d1, d2] }
  | _ => none }
def clockUtcRow : OpenClaim := { program := "ytoodfiicoplbhaadoor", sum := "f089b7836abf572a2bbf7f018988e5c0f2b8de60724fae6dfd6ef5cab75ae971", func := "homehub/homehublaw05.ClockUtc", spec := "clockUtc", named := ["homehub/clock.daysBefore"], apart := false, laid := [("homehub/clock.daysBefore", laid_homehub_clock_daysBefore)] }
def ClockUtcSaid : Prop := clockUtcRow.holds Tryd.pinned (OpenSpec.ofChange clockUtcSpec)

/-- ITS FALSE NEIGHBOUR: 'it returns false'. Refute it at one input. -/
def clockUtcWrong : ChangeSpec := { name := "clockUtc", fn := fun _ => fun
  | [d1, d2] => { results := [.lit (.bool false)], args := [d1, d2] }
  | _ => none }
def ClockUtcWrongFalsely : Prop := clockUtcRow.holds Tryd.pinned (OpenSpec.ofChange clockUtcWrong)

/-- 'homehublaw05.ClockBack': WHATEVER THE INPUT: true; the input reads as it did. -/
def clockBackSpec : ChangeSpec := { name := "clockBack", fn := fun _ => fun
  | [d1, d2] => { results := [.lit (.bool true)], args := [d1, d2] }
  | _ => none }
def clockBackRow : OpenClaim := { program := "ytoodfiicoplbhaadoor", sum := "f089b7836abf572a2bbf7f018988e5c0f2b8de60724fae6dfd6ef5cab75ae971", func := "homehub/homehublaw05.ClockBack", spec := "clockBack", named := ["homehub/clock.daysBefore"], apart := false, laid := [("homehub/clock.daysBefore", laid_homehub_clock_daysBefore)] }
def ClockBackSaid : Prop := clockBackRow.holds Tryd.pinned (OpenSpec.ofChange clockBackSpec)

/-- ITS FALSE NEIGHBOUR: 'it returns false'. Refute it at one input. -/
def clockBackWrong : ChangeSpec := { name := "clockBack", fn := fun _ => fun
  | [d1, d2] => { results := [.lit (.bool false)], args := [d1, d2] }
  | _ => none }
def ClockBackWrongFalsely : Prop := clockBackRow.holds Tryd.pinned (OpenSpec.ofChange clockBackWrong)

/-- 'homehublaw05.ClockNext': WHATEVER THE INPUT: true; the input reads as it did. -/
def clockNextSpec : ChangeSpec := { name := "clockNext", fn := fun _ => fun
  | [d1, d2] => { results := [.lit (.bool true)], args := [d1, d2] }
  | _ => none }
def clockNextRow : OpenClaim := { program := "ytoodfiicoplbhaadoor", sum := "f089b7836abf572a2bbf7f018988e5c0f2b8de60724fae6dfd6ef5cab75ae971", func := "homehub/homehublaw05.ClockNext", spec := "clockNext", named := ["homehub/clock.daysBefore"], apart := false, laid := [("homehub/clock.daysBefore", laid_homehub_clock_daysBefore)] }
def ClockNextSaid : Prop := clockNextRow.holds Tryd.pinned (OpenSpec.ofChange clockNextSpec)

/-- ITS FALSE NEIGHBOUR: 'it returns false'. Refute it at one input. -/
def clockNextWrong : ChangeSpec := { name := "clockNext", fn := fun _ => fun
  | [d1, d2] => { results := [.lit (.bool false)], args := [d1, d2] }
  | _ => none }
def ClockNextWrongFalsely : Prop := clockNextRow.holds Tryd.pinned (OpenSpec.ofChange clockNextWrong)

/-- 'homehublaw05.ClockYears': WHATEVER THE INPUT: true; the input reads as it did. -/
def clockYearsSpec : ChangeSpec := { name := "clockYears", fn := fun _ => fun
  | [d] => { results := [.lit (.bool true)], args := [d] }
  | _ => none }
def clockYearsRow : OpenClaim := { program := "ytoodfiicoplbhaadoor", sum := "f089b7836abf572a2bbf7f018988e5c0f2b8de60724fae6dfd6ef5cab75ae971", func := "homehub/homehublaw05.ClockYears", spec := "clockYears", named := ["homehub/clock.daysBefore"], apart := false, laid := [("homehub/clock.daysBefore", laid_homehub_clock_daysBefore)] }
def ClockYearsSaid : Prop := clockYearsRow.holds Tryd.pinned (OpenSpec.ofChange clockYearsSpec)

/-- ITS FALSE NEIGHBOUR: 'it returns false'. Refute it at one input. -/
def clockYearsWrong : ChangeSpec := { name := "clockYears", fn := fun _ => fun
  | [d] => { results := [.lit (.bool false)], args := [d] }
  | _ => none }
def ClockYearsWrongFalsely : Prop := clockYearsRow.holds Tryd.pinned (OpenSpec.ofChange clockYearsWrong)

/-- 'homehublaw05.ClockLeast': WHATEVER THE INPUT: true; the input reads as it did. -/
def clockLeastSpec : ChangeSpec := { name := "clockLeast", fn := fun _ => fun
  | [d1, d2, d3] => { results := [.lit (.bool true)], args := [d1, d2, d3] }
  | _ => none }
def clockLeastRow : OpenClaim := { program := "ytoodfiicoplbhaadoor", sum := "f089b7836abf572a2bbf7f018988e5c0f2b8de60724fae6dfd6ef5cab75ae971", func := "homehub/homehublaw05.ClockLeast", spec := "clockLeast", named := ["homehub/clock.daysBefore"], apart := false, laid := [("homehub/clock.daysBefore", laid_homehub_clock_daysBefore)] }
def ClockLeastSaid : Prop := clockLeastRow.holds Tryd.pinned (OpenSpec.ofChange clockLeastSpec)

/-- ITS FALSE NEIGHBOUR: 'it returns false'. Refute it at one input. -/
def clockLeastWrong : ChangeSpec := { name := "clockLeast", fn := fun _ => fun
  | [d1, d2, d3] => { results := [.lit (.bool false)], args := [d1, d2, d3] }
  | _ => none }
def ClockLeastWrongFalsely : Prop := clockLeastRow.holds Tryd.pinned (OpenSpec.ofChange clockLeastWrong)

/- THE SECOND FORM. 'bulk': how many values and letters a reading holds, each counted each time it is reached (what is shared counts as often as it is met; a slice's spare places count too). A statement '..UptoSaid' is the law's where the arguments, and the package variables that the reading takes, are together of bulk at most 1048576: NARROWER than '..Said'. Prove '..Said' where nothing that the law and all that it calls make is longer than what came in: it says more and counts as full. Else prove '..UptoSaid'. A law counts once. -/
mutual
def uptoBulk {H : Type} : DataW H → Nat
  | .lit (.string bytes) => bytes.length + 1
  | .lit _ => 1
  | .nil => 1
  | .ptr d => uptoBulk d + 1
  | .slice elems spare => uptoBulkAll elems + uptoBulkAll spare + 1
  | .agg parts => uptoBulkAll parts + 1
  | .iface _ d => uptoBulk d + 1
  | .map entries => uptoBulkEntries entries + 1
  | .held _ => 1
def uptoBulkAll {H : Type} : List (DataW H) → Nat
  | [] => 0
  | d :: r => uptoBulk d + uptoBulkAll r
def uptoBulkEntries {H : Type} : List (Lit × DataW H) → Nat
  | [] => 0
  | x :: r => uptoBulkEntry x + uptoBulkEntries r
def uptoBulkEntry {H : Type} : Lit × DataW H → Nat
  | (.string bytes, d) => bytes.length + uptoBulk d + 1
  | (_, d) => uptoBulk d + 1
 end
def uptoSmall : (H : Type) → List (DataW H) → Bool := fun _ ds => decide (uptoBulkAll ds ≤ 1048576)
def OpenSpec.upto (s : _root_.Go.ChangeSpec) : _root_.Go.OpenSpec := { _root_.Go.OpenSpec.ofChange s with cond := some uptoSmall }

/-- 'homehublaw05.ClockDates', WHERE WHAT IT READS IS OF BULK AT MOST 1048576: true; the input reads as it did. -/
def clockDatesUptoRow : OpenClaim := { program := "ytoodfiicoplbhaadoor", sum := "f089b7836abf572a2bbf7f018988e5c0f2b8de60724fae6dfd6ef5cab75ae971", func := "homehub/homehublaw05.ClockDates", spec := "clockDates", named := ["homehub/clock.daysBefore"], apart := false, laid := [("homehub/clock.daysBefore", laid_homehub_clock_daysBefore)], narrowed := true }
def ClockDatesUptoSaid : Prop := clockDatesUptoRow.holds Tryd.pinned (OpenSpec.upto clockDatesSpec)

/-- 'homehublaw05.ClockParts', WHERE WHAT IT READS IS OF BULK AT MOST 1048576: true; the input reads as it did. -/
def clockPartsUptoRow : OpenClaim := { program := "ytoodfiicoplbhaadoor", sum := "f089b7836abf572a2bbf7f018988e5c0f2b8de60724fae6dfd6ef5cab75ae971", func := "homehub/homehublaw05.ClockParts", spec := "clockParts", named := ["homehub/clock.daysBefore"], apart := false, laid := [("homehub/clock.daysBefore", laid_homehub_clock_daysBefore)], narrowed := true }
def ClockPartsUptoSaid : Prop := clockPartsUptoRow.holds Tryd.pinned (OpenSpec.upto clockPartsSpec)

/-- 'homehublaw05.ClockZones', WHERE WHAT IT READS IS OF BULK AT MOST 1048576: true; the input reads as it did. -/
def clockZonesUptoRow : OpenClaim := { program := "ytoodfiicoplbhaadoor", sum := "f089b7836abf572a2bbf7f018988e5c0f2b8de60724fae6dfd6ef5cab75ae971", func := "homehub/homehublaw05.ClockZones", spec := "clockZones", named := ["homehub/clock.daysBefore"], apart := false, laid := [("homehub/clock.daysBefore", laid_homehub_clock_daysBefore)], narrowed := true }
def ClockZonesUptoSaid : Prop := clockZonesUptoRow.holds Tryd.pinned (OpenSpec.upto clockZonesSpec)

/-- 'homehublaw05.ClockUtc', WHERE WHAT IT READS IS OF BULK AT MOST 1048576: true; the input reads as it did. -/
def clockUtcUptoRow : OpenClaim := { program := "ytoodfiicoplbhaadoor", sum := "f089b7836abf572a2bbf7f018988e5c0f2b8de60724fae6dfd6ef5cab75ae971", func := "homehub/homehublaw05.ClockUtc", spec := "clockUtc", named := ["homehub/clock.daysBefore"], apart := false, laid := [("homehub/clock.daysBefore", laid_homehub_clock_daysBefore)], narrowed := true }
def ClockUtcUptoSaid : Prop := clockUtcUptoRow.holds Tryd.pinned (OpenSpec.upto clockUtcSpec)

/-- 'homehublaw05.ClockBack', WHERE WHAT IT READS IS OF BULK AT MOST 1048576: true; the input reads as it did. -/
def clockBackUptoRow : OpenClaim := { program := "ytoodfiicoplbhaadoor", sum := "f089b7836abf572a2bbf7f018988e5c0f2b8de60724fae6dfd6ef5cab75ae971", func := "homehub/homehublaw05.ClockBack", spec := "clockBack", named := ["homehub/clock.daysBefore"], apart := false, laid := [("homehub/clock.daysBefore", laid_homehub_clock_daysBefore)], narrowed := true }
def ClockBackUptoSaid : Prop := clockBackUptoRow.holds Tryd.pinned (OpenSpec.upto clockBackSpec)

/-- 'homehublaw05.ClockNext', WHERE WHAT IT READS IS OF BULK AT MOST 1048576: true; the input reads as it did. -/
def clockNextUptoRow : OpenClaim := { program := "ytoodfiicoplbhaadoor", sum := "f089b7836abf572a2bbf7f018988e5c0f2b8de60724fae6dfd6ef5cab75ae971", func := "homehub/homehublaw05.ClockNext", spec := "clockNext", named := ["homehub/clock.daysBefore"], apart := false, laid := [("homehub/clock.daysBefore", laid_homehub_clock_daysBefore)], narrowed := true }
def ClockNextUptoSaid : Prop := clockNextUptoRow.holds Tryd.pinned (OpenSpec.upto clockNextSpec)

/-- 'homehublaw05.ClockYears', WHERE WHAT IT READS IS OF BULK AT MOST 1048576: true; the input reads as it did. -/
def clockYearsUptoRow : OpenClaim := { program := "ytoodfiicoplbhaadoor", sum := "f089b7836abf572a2bbf7f018988e5c0f2b8de60724fae6dfd6ef5cab75ae971", func := "homehub/homehublaw05.ClockYears", spec := "clockYears", named := ["homehub/clock.daysBefore"], apart := false, laid := [("homehub/clock.daysBefore", laid_homehub_clock_daysBefore)], narrowed := true }
def ClockYearsUptoSaid : Prop := clockYearsUptoRow.holds Tryd.pinned (OpenSpec.upto clockYearsSpec)

/-- 'homehublaw05.ClockLeast', WHERE WHAT IT READS IS OF BULK AT MOST 1048576: true; the input reads as it did. -/
def clockLeastUptoRow : OpenClaim := { program := "ytoodfiicoplbhaadoor", sum := "f089b7836abf572a2bbf7f018988e5c0f2b8de60724fae6dfd6ef5cab75ae971", func := "homehub/homehublaw05.ClockLeast", spec := "clockLeast", named := ["homehub/clock.daysBefore"], apart := false, laid := [("homehub/clock.daysBefore", laid_homehub_clock_daysBefore)], narrowed := true }
def ClockLeastUptoSaid : Prop := clockLeastUptoRow.holds Tryd.pinned (OpenSpec.upto clockLeastSpec)

end Rows
end Go.Proofs.YtoodfiicoplbhaaDoor
