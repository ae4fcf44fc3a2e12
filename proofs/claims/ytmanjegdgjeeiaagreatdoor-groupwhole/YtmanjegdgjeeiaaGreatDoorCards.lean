/-
  DERIVED. GIVEN WITH THE SEED: THE CARDS: each row of YtmanjegdgjeeiaaGreatDoorRows.lean that lists a variable, with what it lists TIED to the program's text (the seventh form; the later family's looks); each row that meets fmt, with fmt's text TOLD by the authors' own Lean function (tested against real Go, not proved from fmt's source: count such statements apart). THE CARD IS WHAT COUNTS. Prove the row's statement (the work); the ties are given (YtmanjegdgjeeiaaGreatDoorTie.lean); close each card by the builder's one call (the guide's Derived/Test/ToyasCard.lean, 'card_holds'). Laid BY PROGRAM, IN A SANDBOX (cutbox-door.mjs). By AI agents, Wed Nov 11 2026. No macro, syntax, notation, axiom, sorry.
-/
import Derived.Test.YtmanjegdgjeeiaaGreatDoorRows
import GoSem.ClaimSeven
namespace Go.Proofs.YtmanjegdgjeeiaaGreatDoor
namespace Rows

/-- THE TIED CARD OF 'watchfirelaw08.GroupOfs'. -/
def groupOfsCard : Claim7 := { stood := { row := groupOfsRow, standIns := [], harness := (true, "b0ec1657cd0c053671e590ce18895932cec8f85dc451fc49f9e1a31198bfae58"), looks := true }, kinds := [], alts := [], laidByText := true, laidKinds := [.data, .data, .data, .sentinel, .sentinel], laidTests := true, laidLooks := .later }
def GroupOfsCardSaid : Prop := Claim7.holds Tryz.pinned (.plain (OpenSpec.ofChange groupOfsSpec)) groupOfsCard

/-- THE TIED CARD OF 'watchfirelaw08.GroupWhole'. -/
def groupWholeCard : Claim7 := { stood := { row := groupWholeRow, standIns := [], harness := (true, "b0ec1657cd0c053671e590ce18895932cec8f85dc451fc49f9e1a31198bfae58"), looks := true }, kinds := [], alts := [], laidByText := true, laidKinds := [.data, .data, .data, .sentinel, .sentinel], laidTests := true, laidLooks := .later }
def GroupWholeCardSaid : Prop := Claim7.holds Tryz.pinned (.plain (OpenSpec.ofChange groupWholeSpec)) groupWholeCard

/-- THE TIED CARD OF 'watchfirelaw08.GroupOrder'. -/
def groupOrderCard : Claim7 := { stood := { row := groupOrderRow, standIns := [], harness := (true, "b0ec1657cd0c053671e590ce18895932cec8f85dc451fc49f9e1a31198bfae58"), looks := true }, kinds := [], alts := [], laidByText := true, laidKinds := [.data, .data, .data, .sentinel, .sentinel], laidTests := true, laidLooks := .later }
def GroupOrderCardSaid : Prop := Claim7.holds Tryz.pinned (.plain (OpenSpec.ofChange groupOrderSpec)) groupOrderCard

/-- THE SECOND FORM's CARD OF 'watchfirelaw08.GroupOfs'. -/
def groupOfsUptoCard : Claim7 := { stood := { row := groupOfsUptoRow, standIns := [], harness := (true, "b0ec1657cd0c053671e590ce18895932cec8f85dc451fc49f9e1a31198bfae58"), looks := true }, kinds := [], alts := [], laidByText := true, laidKinds := [.data, .data, .data, .sentinel, .sentinel], laidTests := true, laidLooks := .later }
def GroupOfsUptoCardSaid : Prop := Claim7.holds Tryz.pinned (.plain (OpenSpec.upto groupOfsSpec)) groupOfsUptoCard

/-- THE SECOND FORM's CARD OF 'watchfirelaw08.GroupWhole'. -/
def groupWholeUptoCard : Claim7 := { stood := { row := groupWholeUptoRow, standIns := [], harness := (true, "b0ec1657cd0c053671e590ce18895932cec8f85dc451fc49f9e1a31198bfae58"), looks := true }, kinds := [], alts := [], laidByText := true, laidKinds := [.data, .data, .data, .sentinel, .sentinel], laidTests := true, laidLooks := .later }
def GroupWholeUptoCardSaid : Prop := Claim7.holds Tryz.pinned (.plain (OpenSpec.upto groupWholeSpec)) groupWholeUptoCard

/-- THE SECOND FORM's CARD OF 'watchfirelaw08.GroupOrder'. -/
def groupOrderUptoCard : Claim7 := { stood := { row := groupOrderUptoRow, standIns := [], harness := (true, "b0ec1657cd0c053671e590ce18895932cec8f85dc451fc49f9e1a31198bfae58"), looks := true }, kinds := [], alts := [], laidByText := true, laidKinds := [.data, .data, .data, .sentinel, .sentinel], laidTests := true, laidLooks := .later }
def GroupOrderUptoCardSaid : Prop := Claim7.holds Tryz.pinned (.plain (OpenSpec.upto groupOrderSpec)) groupOrderUptoCard
end Rows
end Go.Proofs.YtmanjegdgjeeiaaGreatDoor
