/-
  DERIVED. GIVEN WITH THE SEED: THE CARDS: each row of YtfaijnghiamgoaaDoorRows.lean that lists a variable, with what it lists TIED to the program's text (the seventh form; the later family's looks); each row that meets fmt, with fmt's text TOLD by the authors' own Lean function (tested against real Go, not proved from fmt's source: count such statements apart). THE CARD IS WHAT COUNTS. Prove the row's statement (the work); the ties are given (YtfaijnghiamgoaaDoorTie.lean); close each card by the builder's one call (the guide's Derived/Test/ToyasCard.lean, 'card_holds'). Laid BY PROGRAM, IN A SANDBOX (cutbox-door.mjs). By AI agents, Wed Nov 11 2026. No macro, syntax, notation, axiom, sorry.
-/
import Derived.Test.YtfaijnghiamgoaaDoorRows
import GoSem.ClaimSeven
namespace Go.Proofs.YtfaijnghiamgoaaDoor
namespace Rows

/-- THE TIED CARD OF 'watchfirelaw01.BenReads'. -/
def benReadsCard : Claim7 := { stood := { row := benReadsRow, standIns := [], harness := (true, "8f85bdab26060047f3a9dd73fab665ee85cdcc0c1fc93b2b3930e5a99be0301a"), looks := true }, kinds := [], alts := [], laidByText := true, laidKinds := [.data, .data, .data, .sentinel, .sentinel], laidTests := true, laidLooks := .later }
def BenReadsCardSaid : Prop := Claim7.holds Tryd.pinned (.plain (OpenSpec.ofChange benReadsSpec)) benReadsCard

/-- THE SECOND FORM's CARD OF 'watchfirelaw01.BenReads'. -/
def benReadsUptoCard : Claim7 := { stood := { row := benReadsUptoRow, standIns := [], harness := (true, "8f85bdab26060047f3a9dd73fab665ee85cdcc0c1fc93b2b3930e5a99be0301a"), looks := true }, kinds := [], alts := [], laidByText := true, laidKinds := [.data, .data, .data, .sentinel, .sentinel], laidTests := true, laidLooks := .later }
def BenReadsUptoCardSaid : Prop := Claim7.holds Tryd.pinned (.plain (OpenSpec.upto benReadsSpec)) benReadsUptoCard
end Rows
end Go.Proofs.YtfaijnghiamgoaaDoor
