/-
  DERIVED. GIVEN WITH THE SEED: THE CARDS: each row of YthaimnmbcbhioabDoorRows.lean that lists a variable, with what it lists TIED to the program's text (the seventh form; the later family's looks); each row that meets fmt, with fmt's text TOLD by the authors' own Lean function (tested against real Go, not proved from fmt's source: count such statements apart). THE CARD IS WHAT COUNTS. Prove the row's statement (the work); the ties are given (YthaimnmbcbhioabDoorTie.lean); close each card by the builder's one call (the guide's Derived/Test/ToyasCard.lean, 'card_holds'). Laid BY PROGRAM, IN A SANDBOX (cutbox-door.mjs). By AI agents, Wed Nov 11 2026. No macro, syntax, notation, axiom, sorry.
-/
import Derived.Test.YthaimnmbcbhioabDoorRows
import GoSem.ClaimSeven
namespace Go.Proofs.YthaimnmbcbhioabDoor
namespace Rows

/-- THE TIED CARD OF 'watchfirelaw06.InhibitEqual'. -/
def inhibitEqualCard : Claim7 := { stood := { row := inhibitEqualRow, standIns := [], harness := (true, "e719f32e215ce48303ca09513a827f44786772aa6305727d0b5ede38d10139fb"), looks := true }, kinds := [], alts := [], laidByText := true, laidKinds := [.data], laidTests := true, laidLooks := .later }
def InhibitEqualCardSaid : Prop := Claim7.holds Tryd.pinned (.plain (OpenSpec.ofChange inhibitEqualSpec)) inhibitEqualCard

/-- THE SECOND FORM's CARD OF 'watchfirelaw06.InhibitEqual'. -/
def inhibitEqualUptoCard : Claim7 := { stood := { row := inhibitEqualUptoRow, standIns := [], harness := (true, "e719f32e215ce48303ca09513a827f44786772aa6305727d0b5ede38d10139fb"), looks := true }, kinds := [], alts := [], laidByText := true, laidKinds := [.data], laidTests := true, laidLooks := .later }
def InhibitEqualUptoCardSaid : Prop := Claim7.holds Tryd.pinned (.plain (OpenSpec.upto inhibitEqualSpec)) inhibitEqualUptoCard
end Rows
end Go.Proofs.YthaimnmbcbhioabDoor
