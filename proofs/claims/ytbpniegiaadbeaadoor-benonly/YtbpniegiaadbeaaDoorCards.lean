/-
  DERIVED. GIVEN WITH THE SEED: THE CARDS: each row of YtbpniegiaadbeaaDoorRows.lean that lists a variable, with what it lists TIED to the program's text (the seventh form; the later family's looks); each row that meets fmt, with fmt's text TOLD by the authors' own Lean function (tested against real Go, not proved from fmt's source: count such statements apart). THE CARD IS WHAT COUNTS. Prove the row's statement (the work); the ties are given (YtbpniegiaadbeaaDoorTie.lean); close each card by the builder's one call (the guide's Derived/Test/ToyasCard.lean, 'card_holds'). Laid BY PROGRAM, IN A SANDBOX (cutbox-door.mjs). By AI agents, Wed Nov 11 2026. No macro, syntax, notation, axiom, sorry.
-/
import Derived.Test.YtbpniegiaadbeaaDoorRows
import GoSem.ClaimSeven
namespace Go.Proofs.YtbpniegiaadbeaaDoor
namespace Rows

/-- THE TIED CARD OF 'watchfirelaw01.BenPuts'. -/
def benPutsCard : Claim7 := { stood := { row := benPutsRow, standIns := [], harness := (true, "3f5ff4415266f11a7187edce158fa9815f72e79a403a245d6ee4d4e52c90a0e2"), looks := true }, kinds := [], alts := [], laidByText := true, laidKinds := [.data, .data, .data, .sentinel, .sentinel], laidTests := true, laidLooks := .later }
def BenPutsCardSaid : Prop := Claim7.holds Tryd.pinned (.plain (OpenSpec.ofChange benPutsSpec)) benPutsCard

/-- THE TIED CARD OF 'watchfirelaw01.BenReads'. -/
def benReadsCard : Claim7 := { stood := { row := benReadsRow, standIns := [], harness := (true, "3f5ff4415266f11a7187edce158fa9815f72e79a403a245d6ee4d4e52c90a0e2"), looks := true }, kinds := [], alts := [], laidByText := true, laidKinds := [.data, .data, .data, .sentinel, .sentinel], laidTests := true, laidLooks := .later }
def BenReadsCardSaid : Prop := Claim7.holds Tryd.pinned (.plain (OpenSpec.ofChange benReadsSpec)) benReadsCard

/-- THE TIED CARD OF 'watchfirelaw01.BenBack'. -/
def benBackCard : Claim7 := { stood := { row := benBackRow, standIns := [], harness := (true, "3f5ff4415266f11a7187edce158fa9815f72e79a403a245d6ee4d4e52c90a0e2"), looks := true }, kinds := [], alts := [], laidByText := true, laidKinds := [.data, .data, .data, .sentinel, .sentinel], laidTests := true, laidLooks := .later }
def BenBackCardSaid : Prop := Claim7.holds Tryd.pinned (.plain (OpenSpec.ofChange benBackSpec)) benBackCard

/-- THE TIED CARD OF 'watchfirelaw01.BenOnly'. -/
def benOnlyCard : Claim7 := { stood := { row := benOnlyRow, standIns := [], harness := (true, "3f5ff4415266f11a7187edce158fa9815f72e79a403a245d6ee4d4e52c90a0e2"), looks := true }, kinds := [], alts := [], laidByText := true, laidKinds := [.data, .data, .data, .sentinel, .sentinel], laidTests := true, laidLooks := .later }
def BenOnlyCardSaid : Prop := Claim7.holds Tryd.pinned (.plain (OpenSpec.ofChange benOnlySpec)) benOnlyCard

/-- THE TIED CARD OF 'watchfirelaw01.BenStops'. -/
def benStopsCard : Claim7 := { stood := { row := benStopsRow, standIns := [], harness := (true, "3f5ff4415266f11a7187edce158fa9815f72e79a403a245d6ee4d4e52c90a0e2"), looks := true }, kinds := [], alts := [], laidByText := true, laidKinds := [.data, .data, .data, .sentinel, .sentinel], laidTests := true, laidLooks := .later }
def BenStopsCardSaid : Prop := Claim7.holds Tryd.pinned (.plain (OpenSpec.ofChange benStopsSpec)) benStopsCard

/-- THE TIED CARD OF 'watchfirelaw01.BenNested'. -/
def benNestedCard : Claim7 := { stood := { row := benNestedRow, standIns := [], harness := (true, "3f5ff4415266f11a7187edce158fa9815f72e79a403a245d6ee4d4e52c90a0e2"), looks := true }, kinds := [], alts := [], laidByText := true, laidKinds := [.data, .data, .data, .sentinel, .sentinel], laidTests := true, laidLooks := .later }
def BenNestedCardSaid : Prop := Claim7.holds Tryd.pinned (.plain (OpenSpec.ofChange benNestedSpec)) benNestedCard

/-- THE SECOND FORM's CARD OF 'watchfirelaw01.BenPuts'. -/
def benPutsUptoCard : Claim7 := { stood := { row := benPutsUptoRow, standIns := [], harness := (true, "3f5ff4415266f11a7187edce158fa9815f72e79a403a245d6ee4d4e52c90a0e2"), looks := true }, kinds := [], alts := [], laidByText := true, laidKinds := [.data, .data, .data, .sentinel, .sentinel], laidTests := true, laidLooks := .later }
def BenPutsUptoCardSaid : Prop := Claim7.holds Tryd.pinned (.plain (OpenSpec.upto benPutsSpec)) benPutsUptoCard

/-- THE SECOND FORM's CARD OF 'watchfirelaw01.BenReads'. -/
def benReadsUptoCard : Claim7 := { stood := { row := benReadsUptoRow, standIns := [], harness := (true, "3f5ff4415266f11a7187edce158fa9815f72e79a403a245d6ee4d4e52c90a0e2"), looks := true }, kinds := [], alts := [], laidByText := true, laidKinds := [.data, .data, .data, .sentinel, .sentinel], laidTests := true, laidLooks := .later }
def BenReadsUptoCardSaid : Prop := Claim7.holds Tryd.pinned (.plain (OpenSpec.upto benReadsSpec)) benReadsUptoCard

/-- THE SECOND FORM's CARD OF 'watchfirelaw01.BenBack'. -/
def benBackUptoCard : Claim7 := { stood := { row := benBackUptoRow, standIns := [], harness := (true, "3f5ff4415266f11a7187edce158fa9815f72e79a403a245d6ee4d4e52c90a0e2"), looks := true }, kinds := [], alts := [], laidByText := true, laidKinds := [.data, .data, .data, .sentinel, .sentinel], laidTests := true, laidLooks := .later }
def BenBackUptoCardSaid : Prop := Claim7.holds Tryd.pinned (.plain (OpenSpec.upto benBackSpec)) benBackUptoCard

/-- THE SECOND FORM's CARD OF 'watchfirelaw01.BenOnly'. -/
def benOnlyUptoCard : Claim7 := { stood := { row := benOnlyUptoRow, standIns := [], harness := (true, "3f5ff4415266f11a7187edce158fa9815f72e79a403a245d6ee4d4e52c90a0e2"), looks := true }, kinds := [], alts := [], laidByText := true, laidKinds := [.data, .data, .data, .sentinel, .sentinel], laidTests := true, laidLooks := .later }
def BenOnlyUptoCardSaid : Prop := Claim7.holds Tryd.pinned (.plain (OpenSpec.upto benOnlySpec)) benOnlyUptoCard

/-- THE SECOND FORM's CARD OF 'watchfirelaw01.BenStops'. -/
def benStopsUptoCard : Claim7 := { stood := { row := benStopsUptoRow, standIns := [], harness := (true, "3f5ff4415266f11a7187edce158fa9815f72e79a403a245d6ee4d4e52c90a0e2"), looks := true }, kinds := [], alts := [], laidByText := true, laidKinds := [.data, .data, .data, .sentinel, .sentinel], laidTests := true, laidLooks := .later }
def BenStopsUptoCardSaid : Prop := Claim7.holds Tryd.pinned (.plain (OpenSpec.upto benStopsSpec)) benStopsUptoCard

/-- THE SECOND FORM's CARD OF 'watchfirelaw01.BenNested'. -/
def benNestedUptoCard : Claim7 := { stood := { row := benNestedUptoRow, standIns := [], harness := (true, "3f5ff4415266f11a7187edce158fa9815f72e79a403a245d6ee4d4e52c90a0e2"), looks := true }, kinds := [], alts := [], laidByText := true, laidKinds := [.data, .data, .data, .sentinel, .sentinel], laidTests := true, laidLooks := .later }
def BenNestedUptoCardSaid : Prop := Claim7.holds Tryd.pinned (.plain (OpenSpec.upto benNestedSpec)) benNestedUptoCard
end Rows
end Go.Proofs.YtbpniegiaadbeaaDoor
