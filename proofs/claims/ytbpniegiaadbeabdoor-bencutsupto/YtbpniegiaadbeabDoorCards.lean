/-
  DERIVED. GIVEN WITH THE SEED: THE CARDS: each row of YtbpniegiaadbeabDoorRows.lean that lists a variable, with what it lists TIED to the program's text (the seventh form; the later family's looks); each row that meets fmt, with fmt's text TOLD by the authors' own Lean function (tested against real Go, not proved from fmt's source: count such statements apart). THE CARD IS WHAT COUNTS. Prove the row's statement (the work); the ties are given (YtbpniegiaadbeabDoorTie.lean); close each card by the builder's one call (the guide's Derived/Test/ToyasCard.lean, 'card_holds'). Laid BY PROGRAM, IN A SANDBOX (cutbox-door.mjs). By AI agents, Wed Nov 11 2026. No macro, syntax, notation, axiom, sorry.
-/
import Derived.Test.YtbpniegiaadbeabDoorRows
import GoSem.ClaimSeven
namespace Go.Proofs.YtbpniegiaadbeabDoor
namespace Rows

/-- THE TIED CARD OF 'watchfirelaw01.BenCuts'. -/
def benCutsCard : Claim7 := { stood := { row := benCutsRow, standIns := [], harness := (true, "6936c69e032b20eed029d0be320523d9088d7cd6ed19212ae9472861e33c0f24"), looks := true }, kinds := [], alts := [], laidByText := true, laidKinds := [.data, .data, .data, .sentinel, .sentinel], laidTests := true, laidLooks := .later }
def BenCutsCardSaid : Prop := Claim7.holds Tryd.pinned (.plain (OpenSpec.ofChange benCutsSpec)) benCutsCard

/-- THE SECOND FORM's CARD OF 'watchfirelaw01.BenCuts'. -/
def benCutsUptoCard : Claim7 := { stood := { row := benCutsUptoRow, standIns := [], harness := (true, "6936c69e032b20eed029d0be320523d9088d7cd6ed19212ae9472861e33c0f24"), looks := true }, kinds := [], alts := [], laidByText := true, laidKinds := [.data, .data, .data, .sentinel, .sentinel], laidTests := true, laidLooks := .later }
def BenCutsUptoCardSaid : Prop := Claim7.holds Tryd.pinned (.plain (OpenSpec.upto benCutsSpec)) benCutsUptoCard
end Rows
end Go.Proofs.YtbpniegiaadbeabDoor
