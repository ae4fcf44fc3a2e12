/-
  DERIVED. GIVEN WITH THE SEED: THE CARDS: each row of YtlcbkhmaemoahabDoorRows.lean that lists a variable, with what it lists TIED to the program's text (the seventh form; the later family's looks); each row that meets fmt, with fmt's text TOLD by the authors' own Lean function (tested against real Go, not proved from fmt's source: count such statements apart). THE CARD IS WHAT COUNTS. Prove the row's statement (the work); the ties are given (YtlcbkhmaemoahabDoorTie.lean); close each card by the builder's one call (the guide's Derived/Test/ToyasCard.lean, 'card_holds'). Laid BY PROGRAM, IN A SANDBOX (cutbox-door.mjs). By AI agents, Wed Nov 11 2026. No macro, syntax, notation, axiom, sorry.
-/
import Derived.Test.YtlcbkhmaemoahabDoorRows
import GoSem.ClaimSeven
namespace Go.Proofs.YtlcbkhmaemoahabDoor
namespace Rows

/-- THE TIED CARD OF 'watchfirelaw04.MatchSplits'. -/
def matchSplitsCard : Claim7 := { stood := { row := matchSplitsRow, standIns := [], harness := (true, "3ba7de401dc8d2450524a97f6dc721956a64bad5ab62013b841a6d1b86009157"), looks := true }, kinds := [], alts := [], laidByText := true, laidKinds := [.data], laidTests := true, laidLooks := .later }
def MatchSplitsCardSaid : Prop := Claim7.holds Tryd.pinned (.plain (OpenSpec.ofChange matchSplitsSpec)) matchSplitsCard

/-- THE TIED CARD OF 'watchfirelaw04.MatchBack'. -/
def matchBackCard : Claim7 := { stood := { row := matchBackRow, standIns := [], harness := (true, "3ba7de401dc8d2450524a97f6dc721956a64bad5ab62013b841a6d1b86009157"), looks := true }, kinds := [], alts := [], laidByText := true, laidKinds := [.data], laidTests := true, laidLooks := .later }
def MatchBackCardSaid : Prop := Claim7.holds Tryd.pinned (.plain (OpenSpec.ofChange matchBackSpec)) matchBackCard

/-- THE TIED CARD OF 'watchfirelaw04.MatchMissing'. -/
def matchMissingCard : Claim7 := { stood := { row := matchMissingRow, standIns := [], harness := (true, "3ba7de401dc8d2450524a97f6dc721956a64bad5ab62013b841a6d1b86009157"), looks := true }, kinds := [], alts := [], laidByText := true, laidKinds := [.data], laidTests := true, laidLooks := .later }
def MatchMissingCardSaid : Prop := Claim7.holds Tryd.pinned (.plain (OpenSpec.ofChange matchMissingSpec)) matchMissingCard

/-- THE SECOND FORM's CARD OF 'watchfirelaw04.MatchSplits'. -/
def matchSplitsUptoCard : Claim7 := { stood := { row := matchSplitsUptoRow, standIns := [], harness := (true, "3ba7de401dc8d2450524a97f6dc721956a64bad5ab62013b841a6d1b86009157"), looks := true }, kinds := [], alts := [], laidByText := true, laidKinds := [.data], laidTests := true, laidLooks := .later }
def MatchSplitsUptoCardSaid : Prop := Claim7.holds Tryd.pinned (.plain (OpenSpec.upto matchSplitsSpec)) matchSplitsUptoCard

/-- THE SECOND FORM's CARD OF 'watchfirelaw04.MatchBack'. -/
def matchBackUptoCard : Claim7 := { stood := { row := matchBackUptoRow, standIns := [], harness := (true, "3ba7de401dc8d2450524a97f6dc721956a64bad5ab62013b841a6d1b86009157"), looks := true }, kinds := [], alts := [], laidByText := true, laidKinds := [.data], laidTests := true, laidLooks := .later }
def MatchBackUptoCardSaid : Prop := Claim7.holds Tryd.pinned (.plain (OpenSpec.upto matchBackSpec)) matchBackUptoCard

/-- THE SECOND FORM's CARD OF 'watchfirelaw04.MatchMissing'. -/
def matchMissingUptoCard : Claim7 := { stood := { row := matchMissingUptoRow, standIns := [], harness := (true, "3ba7de401dc8d2450524a97f6dc721956a64bad5ab62013b841a6d1b86009157"), looks := true }, kinds := [], alts := [], laidByText := true, laidKinds := [.data], laidTests := true, laidLooks := .later }
def MatchMissingUptoCardSaid : Prop := Claim7.holds Tryd.pinned (.plain (OpenSpec.upto matchMissingSpec)) matchMissingUptoCard
end Rows
end Go.Proofs.YtlcbkhmaemoahabDoor
