/-
  DERIVED. GIVEN WITH THE SEED: THE CARDS: each row of YtoodfiicoplbhaaDoorRows.lean that lists a variable, with what it lists TIED to the program's text (the seventh form; the later family's looks); each row that meets fmt, with fmt's text TOLD by the authors' own Lean function (tested against real Go, not proved from fmt's source: count such statements apart). THE CARD IS WHAT COUNTS. Prove the row's statement (the work); the ties are given (YtoodfiicoplbhaaDoorTie.lean); close each card by the builder's one call (the guide's Derived/Test/ToyasCard.lean, 'card_holds'). Laid BY PROGRAM, IN A SANDBOX (cutbox-door.mjs). By AI agents, Wed Nov 11 2026. No macro, syntax, notation, axiom, sorry.
-/
import Derived.Test.YtoodfiicoplbhaaDoorRows
import GoSem.ClaimSeven
namespace Go.Proofs.YtoodfiicoplbhaaDoor
namespace Rows

/-- THE TIED CARD OF 'homehublaw05.ClockDates'. -/
def clockDatesCard : Claim7 := { stood := { row := clockDatesRow, standIns := [], harness := (true, "0cc6abdbe6c9c9f80711c28f56d2b125a2a7f794af93c6f335d18d28968c8e9e"), looks := false }, kinds := [], alts := [], laidByText := true, laidKinds := [.data], laidTests := true, laidLooks := .later }
def ClockDatesCardSaid : Prop := Claim7.holds Tryd.pinned (.plain (OpenSpec.ofChange clockDatesSpec)) clockDatesCard

/-- THE TIED CARD OF 'homehublaw05.ClockParts'. -/
def clockPartsCard : Claim7 := { stood := { row := clockPartsRow, standIns := [], harness := (true, "0cc6abdbe6c9c9f80711c28f56d2b125a2a7f794af93c6f335d18d28968c8e9e"), looks := false }, kinds := [], alts := [], laidByText := true, laidKinds := [.data], laidTests := true, laidLooks := .later }
def ClockPartsCardSaid : Prop := Claim7.holds Tryd.pinned (.plain (OpenSpec.ofChange clockPartsSpec)) clockPartsCard

/-- THE TIED CARD OF 'homehublaw05.ClockZones'. -/
def clockZonesCard : Claim7 := { stood := { row := clockZonesRow, standIns := [], harness := (true, "0cc6abdbe6c9c9f80711c28f56d2b125a2a7f794af93c6f335d18d28968c8e9e"), looks := false }, kinds := [], alts := [], laidByText := true, laidKinds := [.data], laidTests := true, laidLooks := .later }
def ClockZonesCardSaid : Prop := Claim7.holds Tryd.pinned (.plain (OpenSpec.ofChange clockZonesSpec)) clockZonesCard

/-- THE TIED CARD OF 'homehublaw05.ClockUtc'. -/
def clockUtcCard : Claim7 := { stood := { row := clockUtcRow, standIns := [], harness := (true, "0cc6abdbe6c9c9f80711c28f56d2b125a2a7f794af93c6f335d18d28968c8e9e"), looks := false }, kinds := [], alts := [], laidByText := true, laidKinds := [.data], laidTests := true, laidLooks := .later }
def ClockUtcCardSaid : Prop := Claim7.holds Tryd.pinned (.plain (OpenSpec.ofChange clockUtcSpec)) clockUtcCard

/-- THE TIED CARD OF 'homehublaw05.ClockBack'. -/
def clockBackCard : Claim7 := { stood := { row := clockBackRow, standIns := [], harness := (true, "0cc6abdbe6c9c9f80711c28f56d2b125a2a7f794af93c6f335d18d28968c8e9e"), looks := false }, kinds := [], alts := [], laidByText := true, laidKinds := [.data], laidTests := true, laidLooks := .later }
def ClockBackCardSaid : Prop := Claim7.holds Tryd.pinned (.plain (OpenSpec.ofChange clockBackSpec)) clockBackCard

/-- THE TIED CARD OF 'homehublaw05.ClockNext'. -/
def clockNextCard : Claim7 := { stood := { row := clockNextRow, standIns := [], harness := (true, "0cc6abdbe6c9c9f80711c28f56d2b125a2a7f794af93c6f335d18d28968c8e9e"), looks := false }, kinds := [], alts := [], laidByText := true, laidKinds := [.data], laidTests := true, laidLooks := .later }
def ClockNextCardSaid : Prop := Claim7.holds Tryd.pinned (.plain (OpenSpec.ofChange clockNextSpec)) clockNextCard

/-- THE TIED CARD OF 'homehublaw05.ClockYears'. -/
def clockYearsCard : Claim7 := { stood := { row := clockYearsRow, standIns := [], harness := (true, "0cc6abdbe6c9c9f80711c28f56d2b125a2a7f794af93c6f335d18d28968c8e9e"), looks := false }, kinds := [], alts := [], laidByText := true, laidKinds := [.data], laidTests := true, laidLooks := .later }
def ClockYearsCardSaid : Prop := Claim7.holds Tryd.pinned (.plain (OpenSpec.ofChange clockYearsSpec)) clockYearsCard

/-- THE TIED CARD OF 'homehublaw05.ClockLeast'. -/
def clockLeastCard : Claim7 := { stood := { row := clockLeastRow, standIns := [], harness := (true, "0cc6abdbe6c9c9f80711c28f56d2b125a2a7f794af93c6f335d18d28968c8e9e"), looks := false }, kinds := [], alts := [], laidByText := true, laidKinds := [.data], laidTests := true, laidLooks := .later }
def ClockLeastCardSaid : Prop := Claim7.holds Tryd.pinned (.plain (OpenSpec.ofChange clockLeastSpec)) clockLeastCard

/-- THE SECOND FORM's CARD OF 'homehublaw05.ClockDates'. -/
def clockDatesUptoCard : Claim7 := { stood := { row := clockDatesUptoRow, standIns := [], harness := (true, "0cc6abdbe6c9c9f80711c28f56d2b125a2a7f794af93c6f335d18d28968c8e9e"), looks := false }, kinds := [], alts := [], laidByText := true, laidKinds := [.data], laidTests := true, laidLooks := .later }
def ClockDatesUptoCardSaid : Prop := Claim7.holds Tryd.pinned (.plain (OpenSpec.upto clockDatesSpec)) clockDatesUptoCard

/-- THE SECOND FORM's CARD OF 'homehublaw05.ClockParts'. -/
def clockPartsUptoCard : Claim7 := { stood := { row := clockPartsUptoRow, standIns := [], harness := (true, "0cc6abdbe6c9c9f80711c28f56d2b125a2a7f794af93c6f335d18d28968c8e9e"), looks := false }, kinds := [], alts := [], laidByText := true, laidKinds := [.data], laidTests := true, laidLooks := .later }
def ClockPartsUptoCardSaid : Prop := Claim7.holds Tryd.pinned (.plain (OpenSpec.upto clockPartsSpec)) clockPartsUptoCard

/-- THE SECOND FORM's CARD OF 'homehublaw05.ClockZones'. -/
def clockZonesUptoCard : Claim7 := { stood := { row := clockZonesUptoRow, standIns := [], harness := (true, "0cc6abdbe6c9c9f80711c28f56d2b125a2a7f794af93c6f335d18d28968c8e9e"), looks := false }, kinds := [], alts := [], laidByText := true, laidKinds := [.data], laidTests := true, laidLooks := .later }
def ClockZonesUptoCardSaid : Prop := Claim7.holds Tryd.pinned (.plain (OpenSpec.upto clockZonesSpec)) clockZonesUptoCard

/-- THE SECOND FORM's CARD OF 'homehublaw05.ClockUtc'. -/
def clockUtcUptoCard : Claim7 := { stood := { row := clockUtcUptoRow, standIns := [], harness := (true, "0cc6abdbe6c9c9f80711c28f56d2b125a2a7f794af93c6f335d18d28968c8e9e"), looks := false }, kinds := [], alts := [], laidByText := true, laidKinds := [.data], laidTests := true, laidLooks := .later }
def ClockUtcUptoCardSaid : Prop := Claim7.holds Tryd.pinned (.plain (OpenSpec.upto clockUtcSpec)) clockUtcUptoCard

/-- THE SECOND FORM's CARD OF 'homehublaw05.ClockBack'. -/
def clockBackUptoCard : Claim7 := { stood := { row := clockBackUptoRow, standIns := [], harness := (true, "0cc6abdbe6c9c9f80711c28f56d2b125a2a7f794af93c6f335d18d28968c8e9e"), looks := false }, kinds := [], alts := [], laidByText := true, laidKinds := [.data], laidTests := true, laidLooks := .later }
def ClockBackUptoCardSaid : Prop := Claim7.holds Tryd.pinned (.plain (OpenSpec.upto clockBackSpec)) clockBackUptoCard

/-- THE SECOND FORM's CARD OF 'homehublaw05.ClockNext'. -/
def clockNextUptoCard : Claim7 := { stood := { row := clockNextUptoRow, standIns := [], harness := (true, "0cc6abdbe6c9c9f80711c28f56d2b125a2a7f794af93c6f335d18d28968c8e9e"), looks := false }, kinds := [], alts := [], laidByText := true, laidKinds := [.data], laidTests := true, laidLooks := .later }
def ClockNextUptoCardSaid : Prop := Claim7.holds Tryd.pinned (.plain (OpenSpec.upto clockNextSpec)) clockNextUptoCard

/-- THE SECOND FORM's CARD OF 'homehublaw05.ClockYears'. -/
def clockYearsUptoCard : Claim7 := { stood := { row := clockYearsUptoRow, standIns := [], harness := (true, "0cc6abdbe6c9c9f80711c28f56d2b125a2a7f794af93c6f335d18d28968c8e9e"), looks := false }, kinds := [], alts := [], laidByText := true, laidKinds := [.data], laidTests := true, laidLooks := .later }
def ClockYearsUptoCardSaid : Prop := Claim7.holds Tryd.pinned (.plain (OpenSpec.upto clockYearsSpec)) clockYearsUptoCard

/-- THE SECOND FORM's CARD OF 'homehublaw05.ClockLeast'. -/
def clockLeastUptoCard : Claim7 := { stood := { row := clockLeastUptoRow, standIns := [], harness := (true, "0cc6abdbe6c9c9f80711c28f56d2b125a2a7f794af93c6f335d18d28968c8e9e"), looks := false }, kinds := [], alts := [], laidByText := true, laidKinds := [.data], laidTests := true, laidLooks := .later }
def ClockLeastUptoCardSaid : Prop := Claim7.holds Tryd.pinned (.plain (OpenSpec.upto clockLeastSpec)) clockLeastUptoCard
end Rows
end Go.Proofs.YtoodfiicoplbhaaDoor
