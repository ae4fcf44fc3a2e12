/-
  DERIVED. GIVEN WITH THE SEED: THE CARDS: each row of YtphffnlbcppckabDoorRows.lean that lists a variable, with what it lists TIED to the program's text (the seventh form; the later family's looks); each row that meets fmt, with fmt's text TOLD by the authors' own Lean function (tested against real Go, not proved from fmt's source: count such statements apart). THE CARD IS WHAT COUNTS. Prove the row's statement (the work); the ties are given (YtphffnlbcppckabDoorTie.lean); close each card by the builder's one call (the guide's Derived/Test/ToyasCard.lean, 'card_holds'). Laid BY PROGRAM, IN A SANDBOX (cutbox-door.mjs). By AI agents, Wed Nov 11 2026. No macro, syntax, notation, axiom, sorry.
-/
import Derived.Test.YtphffnlbcppckabDoorRows
import GoSem.ClaimSeven
namespace Go.Proofs.YtphffnlbcppckabDoor
namespace Rows

/-- THE TIED CARD OF 'watchfirelaw03.RegexStar'. -/
def regexStarCard : Claim7 := { stood := { row := regexStarRow, standIns := [], harness := (true, "b7fe480de60b029b52c4067472daf40cafb20a7faac150bb9c8f81db309ef046"), looks := true }, kinds := [], alts := [], laidByText := true, laidKinds := [.data], laidTests := true, laidLooks := .later }
def RegexStarCardSaid : Prop := Claim7.holds Tryd.pinned (.plain (OpenSpec.ofChange regexStarSpec)) regexStarCard

/-- THE TIED CARD OF 'watchfirelaw03.RegexSets'. -/
def regexSetsCard : Claim7 := { stood := { row := regexSetsRow, standIns := [], harness := (true, "b7fe480de60b029b52c4067472daf40cafb20a7faac150bb9c8f81db309ef046"), looks := true }, kinds := [], alts := [], laidByText := true, laidKinds := [.data], laidTests := true, laidLooks := .later }
def RegexSetsCardSaid : Prop := Claim7.holds Tryd.pinned (.plain (OpenSpec.ofChange regexSetsSpec)) regexSetsCard

/-- THE SECOND FORM's CARD OF 'watchfirelaw03.RegexStar'. -/
def regexStarUptoCard : Claim7 := { stood := { row := regexStarUptoRow, standIns := [], harness := (true, "b7fe480de60b029b52c4067472daf40cafb20a7faac150bb9c8f81db309ef046"), looks := true }, kinds := [], alts := [], laidByText := true, laidKinds := [.data], laidTests := true, laidLooks := .later }
def RegexStarUptoCardSaid : Prop := Claim7.holds Tryd.pinned (.plain (OpenSpec.upto regexStarSpec)) regexStarUptoCard

/-- THE SECOND FORM's CARD OF 'watchfirelaw03.RegexSets'. -/
def regexSetsUptoCard : Claim7 := { stood := { row := regexSetsUptoRow, standIns := [], harness := (true, "b7fe480de60b029b52c4067472daf40cafb20a7faac150bb9c8f81db309ef046"), looks := true }, kinds := [], alts := [], laidByText := true, laidKinds := [.data], laidTests := true, laidLooks := .later }
def RegexSetsUptoCardSaid : Prop := Claim7.holds Tryd.pinned (.plain (OpenSpec.upto regexSetsSpec)) regexSetsUptoCard
end Rows
end Go.Proofs.YtphffnlbcppckabDoor
