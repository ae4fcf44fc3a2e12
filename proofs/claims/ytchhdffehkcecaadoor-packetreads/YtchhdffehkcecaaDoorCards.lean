/-
  DERIVED. GIVEN WITH THE SEED: THE CARDS: each row of YtchhdffehkcecaaDoorRows.lean that lists a variable, with what it lists TIED to the program's text (the seventh form; the later family's looks); each row that meets fmt, with fmt's text TOLD by the authors' own Lean function (tested against real Go, not proved from fmt's source: count such statements apart). THE CARD IS WHAT COUNTS. Prove the row's statement (the work); the ties are given (YtchhdffehkcecaaDoorTie.lean); close each card by the builder's one call (the guide's Derived/Test/ToyasCard.lean, 'card_holds'). Laid BY PROGRAM, IN A SANDBOX (cutbox-door.mjs). By AI agents, Wed Nov 11 2026. No macro, syntax, notation, axiom, sorry.
-/
import Derived.Test.YtchhdffehkcecaaDoorRows
import GoSem.ClaimSeven
namespace Go.Proofs.YtchhdffehkcecaaDoor
namespace Rows

/-- THE TIED CARD OF 'watchfirelaw13.PacketPuts'. -/
def packetPutsCard : Claim7 := { stood := { row := packetPutsRow, standIns := [], harness := (true, "713f8cc37a783b1a9072e04e7289997d5619a2cf9f1f656a93ccdc3d1501d982"), looks := true }, kinds := [], alts := [], laidByText := true, laidKinds := [.data, .data, .data, .sentinel, .sentinel], laidTests := true, laidLooks := .later }
def PacketPutsCardSaid : Prop := Claim7.holds Tryd.pinned (.plain (OpenSpec.ofChange packetPutsSpec)) packetPutsCard

/-- THE TIED CARD OF 'watchfirelaw13.PacketReads'. -/
def packetReadsCard : Claim7 := { stood := { row := packetReadsRow, standIns := [], harness := (true, "713f8cc37a783b1a9072e04e7289997d5619a2cf9f1f656a93ccdc3d1501d982"), looks := true }, kinds := [], alts := [], laidByText := true, laidKinds := [.data, .data, .data, .sentinel, .sentinel], laidTests := true, laidLooks := .later }
def PacketReadsCardSaid : Prop := Claim7.holds Tryd.pinned (.plain (OpenSpec.ofChange packetReadsSpec)) packetReadsCard

/-- THE TIED CARD OF 'watchfirelaw13.PacketSames'. -/
def packetSamesCard : Claim7 := { stood := { row := packetSamesRow, standIns := [], harness := (true, "713f8cc37a783b1a9072e04e7289997d5619a2cf9f1f656a93ccdc3d1501d982"), looks := true }, kinds := [], alts := [], laidByText := true, laidKinds := [.data, .data, .data, .sentinel, .sentinel], laidTests := true, laidLooks := .later }
def PacketSamesCardSaid : Prop := Claim7.holds Tryd.pinned (.plain (OpenSpec.ofChange packetSamesSpec)) packetSamesCard

/-- THE TIED CARD OF 'watchfirelaw13.PacketBack'. -/
def packetBackCard : Claim7 := { stood := { row := packetBackRow, standIns := [], harness := (true, "713f8cc37a783b1a9072e04e7289997d5619a2cf9f1f656a93ccdc3d1501d982"), looks := true }, kinds := [], alts := [], laidByText := true, laidKinds := [.data, .data, .data, .sentinel, .sentinel], laidTests := true, laidLooks := .later }
def PacketBackCardSaid : Prop := Claim7.holds Tryd.pinned (.plain (OpenSpec.ofChange packetBackSpec)) packetBackCard

/-- THE TIED CARD OF 'watchfirelaw13.PacketMore'. -/
def packetMoreCard : Claim7 := { stood := { row := packetMoreRow, standIns := [], harness := (true, "713f8cc37a783b1a9072e04e7289997d5619a2cf9f1f656a93ccdc3d1501d982"), looks := true }, kinds := [], alts := [], laidByText := true, laidKinds := [.data, .data, .data, .sentinel, .sentinel], laidTests := true, laidLooks := .later }
def PacketMoreCardSaid : Prop := Claim7.holds Tryd.pinned (.plain (OpenSpec.ofChange packetMoreSpec)) packetMoreCard

/-- THE SECOND FORM's CARD OF 'watchfirelaw13.PacketPuts'. -/
def packetPutsUptoCard : Claim7 := { stood := { row := packetPutsUptoRow, standIns := [], harness := (true, "713f8cc37a783b1a9072e04e7289997d5619a2cf9f1f656a93ccdc3d1501d982"), looks := true }, kinds := [], alts := [], laidByText := true, laidKinds := [.data, .data, .data, .sentinel, .sentinel], laidTests := true, laidLooks := .later }
def PacketPutsUptoCardSaid : Prop := Claim7.holds Tryd.pinned (.plain (OpenSpec.upto packetPutsSpec)) packetPutsUptoCard

/-- THE SECOND FORM's CARD OF 'watchfirelaw13.PacketReads'. -/
def packetReadsUptoCard : Claim7 := { stood := { row := packetReadsUptoRow, standIns := [], harness := (true, "713f8cc37a783b1a9072e04e7289997d5619a2cf9f1f656a93ccdc3d1501d982"), looks := true }, kinds := [], alts := [], laidByText := true, laidKinds := [.data, .data, .data, .sentinel, .sentinel], laidTests := true, laidLooks := .later }
def PacketReadsUptoCardSaid : Prop := Claim7.holds Tryd.pinned (.plain (OpenSpec.upto packetReadsSpec)) packetReadsUptoCard

/-- THE SECOND FORM's CARD OF 'watchfirelaw13.PacketSames'. -/
def packetSamesUptoCard : Claim7 := { stood := { row := packetSamesUptoRow, standIns := [], harness := (true, "713f8cc37a783b1a9072e04e7289997d5619a2cf9f1f656a93ccdc3d1501d982"), looks := true }, kinds := [], alts := [], laidByText := true, laidKinds := [.data, .data, .data, .sentinel, .sentinel], laidTests := true, laidLooks := .later }
def PacketSamesUptoCardSaid : Prop := Claim7.holds Tryd.pinned (.plain (OpenSpec.upto packetSamesSpec)) packetSamesUptoCard

/-- THE SECOND FORM's CARD OF 'watchfirelaw13.PacketBack'. -/
def packetBackUptoCard : Claim7 := { stood := { row := packetBackUptoRow, standIns := [], harness := (true, "713f8cc37a783b1a9072e04e7289997d5619a2cf9f1f656a93ccdc3d1501d982"), looks := true }, kinds := [], alts := [], laidByText := true, laidKinds := [.data, .data, .data, .sentinel, .sentinel], laidTests := true, laidLooks := .later }
def PacketBackUptoCardSaid : Prop := Claim7.holds Tryd.pinned (.plain (OpenSpec.upto packetBackSpec)) packetBackUptoCard

/-- THE SECOND FORM's CARD OF 'watchfirelaw13.PacketMore'. -/
def packetMoreUptoCard : Claim7 := { stood := { row := packetMoreUptoRow, standIns := [], harness := (true, "713f8cc37a783b1a9072e04e7289997d5619a2cf9f1f656a93ccdc3d1501d982"), looks := true }, kinds := [], alts := [], laidByText := true, laidKinds := [.data, .data, .data, .sentinel, .sentinel], laidTests := true, laidLooks := .later }
def PacketMoreUptoCardSaid : Prop := Claim7.holds Tryd.pinned (.plain (OpenSpec.upto packetMoreSpec)) packetMoreUptoCard
end Rows
end Go.Proofs.YtchhdffehkcecaaDoor
