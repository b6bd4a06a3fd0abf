/-
  DERIVED. GIVEN WITH THE SEED: THE CARDS: each row of YtmildkjkppnblaaDoorRows.lean that lists a variable, with what it lists TIED to the program's text (the seventh form; the later family's looks); each row that meets fmt, with fmt's text TOLD by the authors' own Lean function (tested against real Go, not proved from fmt's source: count such statements apart). THE CARD IS WHAT COUNTS. Prove the row's statement (the work); the ties are given (YtmildkjkppnblaaDoorTie.lean); close each card by the builder's one call (the guide's Derived/Test/ToyasCard.lean, 'card_holds'). Laid BY PROGRAM, IN A SANDBOX (cutbox-door.mjs). By AI agents, Wed Nov 11 2026. No macro, syntax, notation, axiom, sorry.
-/
import Derived.Test.YtmildkjkppnblaaDoorRows
import GoSem.ClaimSeven
namespace Go.Proofs.YtmildkjkppnblaaDoor
namespace Rows

/-- THE TIED CARD OF 'homehublaw04.NamesQuotes'. -/
def namesQuotesCard : Claim7 := { stood := { row := namesQuotesRow, standIns := [], harness := (true, "36757d41c027bd3cd2bc9724f47d75988fed2343e05d5cf906b7341d76e1be31"), looks := false }, kinds := [], alts := [], laidByText := true, laidKinds := [.data, .pinned], laidTests := true, laidLooks := .later }
def NamesQuotesCardSaid : Prop := Claim7.holds Tryd.pinned (.plain (OpenSpec.ofChange namesQuotesSpec)) namesQuotesCard

/-- THE TIED CARD OF 'homehublaw04.NamesBack'. -/
def namesBackCard : Claim7 := { stood := { row := namesBackRow, standIns := [], harness := (true, "36757d41c027bd3cd2bc9724f47d75988fed2343e05d5cf906b7341d76e1be31"), looks := false }, kinds := [], alts := [], laidByText := true, laidKinds := [.data, .pinned], laidTests := true, laidLooks := .later }
def NamesBackCardSaid : Prop := Claim7.holds Tryd.pinned (.plain (OpenSpec.ofChange namesBackSpec)) namesBackCard

/-- THE TIED CARD OF 'homehublaw04.NamesPrintable'. -/
def namesPrintableCard : Claim7 := { stood := { row := namesPrintableRow, standIns := [], harness := (true, "36757d41c027bd3cd2bc9724f47d75988fed2343e05d5cf906b7341d76e1be31"), looks := false }, kinds := [], alts := [], laidByText := true, laidKinds := [.data, .pinned], laidTests := true, laidLooks := .later }
def NamesPrintableCardSaid : Prop := Claim7.holds Tryd.pinned (.plain (OpenSpec.ofChange namesPrintableSpec)) namesPrintableCard

/-- THE TIED CARD OF 'homehublaw04.NamesJoined'. -/
def namesJoinedCard : Claim7 := { stood := { row := namesJoinedRow, standIns := [], harness := (true, "36757d41c027bd3cd2bc9724f47d75988fed2343e05d5cf906b7341d76e1be31"), looks := false }, kinds := [], alts := [], laidByText := true, laidKinds := [.data, .pinned], laidTests := true, laidLooks := .later }
def NamesJoinedCardSaid : Prop := Claim7.holds Tryd.pinned (.plain (OpenSpec.ofChange namesJoinedSpec)) namesJoinedCard

/-- THE SECOND FORM's CARD OF 'homehublaw04.NamesQuotes'. -/
def namesQuotesUptoCard : Claim7 := { stood := { row := namesQuotesUptoRow, standIns := [], harness := (true, "36757d41c027bd3cd2bc9724f47d75988fed2343e05d5cf906b7341d76e1be31"), looks := false }, kinds := [], alts := [], laidByText := true, laidKinds := [.data, .pinned], laidTests := true, laidLooks := .later }
def NamesQuotesUptoCardSaid : Prop := Claim7.holds Tryd.pinned (.plain (OpenSpec.upto namesQuotesSpec)) namesQuotesUptoCard

/-- THE SECOND FORM's CARD OF 'homehublaw04.NamesBack'. -/
def namesBackUptoCard : Claim7 := { stood := { row := namesBackUptoRow, standIns := [], harness := (true, "36757d41c027bd3cd2bc9724f47d75988fed2343e05d5cf906b7341d76e1be31"), looks := false }, kinds := [], alts := [], laidByText := true, laidKinds := [.data, .pinned], laidTests := true, laidLooks := .later }
def NamesBackUptoCardSaid : Prop := Claim7.holds Tryd.pinned (.plain (OpenSpec.upto namesBackSpec)) namesBackUptoCard

/-- THE SECOND FORM's CARD OF 'homehublaw04.NamesPrintable'. -/
def namesPrintableUptoCard : Claim7 := { stood := { row := namesPrintableUptoRow, standIns := [], harness := (true, "36757d41c027bd3cd2bc9724f47d75988fed2343e05d5cf906b7341d76e1be31"), looks := false }, kinds := [], alts := [], laidByText := true, laidKinds := [.data, .pinned], laidTests := true, laidLooks := .later }
def NamesPrintableUptoCardSaid : Prop := Claim7.holds Tryd.pinned (.plain (OpenSpec.upto namesPrintableSpec)) namesPrintableUptoCard

/-- THE SECOND FORM's CARD OF 'homehublaw04.NamesJoined'. -/
def namesJoinedUptoCard : Claim7 := { stood := { row := namesJoinedUptoRow, standIns := [], harness := (true, "36757d41c027bd3cd2bc9724f47d75988fed2343e05d5cf906b7341d76e1be31"), looks := false }, kinds := [], alts := [], laidByText := true, laidKinds := [.data, .pinned], laidTests := true, laidLooks := .later }
def NamesJoinedUptoCardSaid : Prop := Claim7.holds Tryd.pinned (.plain (OpenSpec.upto namesJoinedSpec)) namesJoinedUptoCard
end Rows
end Go.Proofs.YtmildkjkppnblaaDoor
