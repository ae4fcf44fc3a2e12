/-
  DERIVED. GIVEN WITH THE SEED: THE CARDS: each row of YtcngifkoopcmeaaGreatDoorRows.lean that lists a variable, with what it lists TIED to the program's text (the seventh form; the later family's looks); each row that meets fmt, with fmt's text TOLD by the authors' own Lean function (tested against real Go, not proved from fmt's source: count such statements apart). THE CARD IS WHAT COUNTS. Prove the row's statement (the work); the ties are given (YtcngifkoopcmeaaGreatDoorTie.lean); close each card by the builder's one call (the guide's Derived/Test/ToyasCard.lean, 'card_holds'). Laid BY PROGRAM, IN A SANDBOX (cutbox-door.mjs). By AI agents, Wed Nov 11 2026. No macro, syntax, notation, axiom, sorry.
-/
import Derived.Test.YtcngifkoopcmeaaGreatDoorRows
import GoSem.ClaimSeven
namespace Go.Proofs.YtcngifkoopcmeaaGreatDoor
namespace Rows

/-- THE TIED CARD OF 'watchfirelaw08.GroupOfs'. -/
def groupOfsCard : Claim7 := { stood := { row := groupOfsRow, standIns := [], harness := (true, "bbc5d1860d3c25be5a7c82786f2d7e5c4bf8044ca3c773471537e7240634aae8"), looks := true }, kinds := [], alts := [], laidByText := true, laidKinds := [.data, .data, .data, .sentinel, .sentinel], laidTests := true, laidLooks := .later }
def GroupOfsCardSaid : Prop := Claim7.holds Tryz.pinned (.plain (OpenSpec.ofChange groupOfsSpec)) groupOfsCard

/-- THE TIED CARD OF 'watchfirelaw08.GroupWhole'. -/
def groupWholeCard : Claim7 := { stood := { row := groupWholeRow, standIns := [], harness := (true, "bbc5d1860d3c25be5a7c82786f2d7e5c4bf8044ca3c773471537e7240634aae8"), looks := true }, kinds := [], alts := [], laidByText := true, laidKinds := [.data, .data, .data, .sentinel, .sentinel], laidTests := true, laidLooks := .later }
def GroupWholeCardSaid : Prop := Claim7.holds Tryz.pinned (.plain (OpenSpec.ofChange groupWholeSpec)) groupWholeCard

/-- THE TIED CARD OF 'watchfirelaw08.GroupOrder'. -/
def groupOrderCard : Claim7 := { stood := { row := groupOrderRow, standIns := [], harness := (true, "bbc5d1860d3c25be5a7c82786f2d7e5c4bf8044ca3c773471537e7240634aae8"), looks := true }, kinds := [], alts := [], laidByText := true, laidKinds := [.data, .data, .data, .sentinel, .sentinel], laidTests := true, laidLooks := .later }
def GroupOrderCardSaid : Prop := Claim7.holds Tryz.pinned (.plain (OpenSpec.ofChange groupOrderSpec)) groupOrderCard

/-- THE TIED CARD OF 'watchfirelaw11.SilenceEntries'. -/
def silenceEntriesCard : Claim7 := { stood := { row := silenceEntriesRow, standIns := [], harness := (true, "bbc5d1860d3c25be5a7c82786f2d7e5c4bf8044ca3c773471537e7240634aae8"), looks := true }, kinds := [], alts := [], laidByText := true, laidKinds := [.data, .data, .data, .sentinel, .sentinel], laidTests := true, laidLooks := .later }
def SilenceEntriesCardSaid : Prop := Claim7.holds Tryz.pinned (.plain (OpenSpec.ofChange silenceEntriesSpec)) silenceEntriesCard

/-- THE TIED CARD OF 'watchfirelaw11.SilenceOfs'. -/
def silenceOfsCard : Claim7 := { stood := { row := silenceOfsRow, standIns := [], harness := (true, "bbc5d1860d3c25be5a7c82786f2d7e5c4bf8044ca3c773471537e7240634aae8"), looks := true }, kinds := [], alts := [], laidByText := true, laidKinds := [.data, .data, .data, .sentinel, .sentinel], laidTests := true, laidLooks := .later }
def SilenceOfsCardSaid : Prop := Claim7.holds Tryz.pinned (.plain (OpenSpec.ofChange silenceOfsSpec)) silenceOfsCard

/-- THE TIED CARD OF 'watchfirelaw11.SilenceActives'. -/
def silenceActivesCard : Claim7 := { stood := { row := silenceActivesRow, standIns := [], harness := (true, "bbc5d1860d3c25be5a7c82786f2d7e5c4bf8044ca3c773471537e7240634aae8"), looks := true }, kinds := [], alts := [], laidByText := true, laidKinds := [.data, .data, .data, .sentinel, .sentinel], laidTests := true, laidLooks := .later }
def SilenceActivesCardSaid : Prop := Claim7.holds Tryz.pinned (.plain (OpenSpec.ofChange silenceActivesSpec)) silenceActivesCard

/-- THE SECOND FORM's CARD OF 'watchfirelaw08.GroupOfs'. -/
def groupOfsUptoCard : Claim7 := { stood := { row := groupOfsUptoRow, standIns := [], harness := (true, "bbc5d1860d3c25be5a7c82786f2d7e5c4bf8044ca3c773471537e7240634aae8"), looks := true }, kinds := [], alts := [], laidByText := true, laidKinds := [.data, .data, .data, .sentinel, .sentinel], laidTests := true, laidLooks := .later }
def GroupOfsUptoCardSaid : Prop := Claim7.holds Tryz.pinned (.plain (OpenSpec.upto groupOfsSpec)) groupOfsUptoCard

/-- THE SECOND FORM's CARD OF 'watchfirelaw08.GroupWhole'. -/
def groupWholeUptoCard : Claim7 := { stood := { row := groupWholeUptoRow, standIns := [], harness := (true, "bbc5d1860d3c25be5a7c82786f2d7e5c4bf8044ca3c773471537e7240634aae8"), looks := true }, kinds := [], alts := [], laidByText := true, laidKinds := [.data, .data, .data, .sentinel, .sentinel], laidTests := true, laidLooks := .later }
def GroupWholeUptoCardSaid : Prop := Claim7.holds Tryz.pinned (.plain (OpenSpec.upto groupWholeSpec)) groupWholeUptoCard

/-- THE SECOND FORM's CARD OF 'watchfirelaw08.GroupOrder'. -/
def groupOrderUptoCard : Claim7 := { stood := { row := groupOrderUptoRow, standIns := [], harness := (true, "bbc5d1860d3c25be5a7c82786f2d7e5c4bf8044ca3c773471537e7240634aae8"), looks := true }, kinds := [], alts := [], laidByText := true, laidKinds := [.data, .data, .data, .sentinel, .sentinel], laidTests := true, laidLooks := .later }
def GroupOrderUptoCardSaid : Prop := Claim7.holds Tryz.pinned (.plain (OpenSpec.upto groupOrderSpec)) groupOrderUptoCard

/-- THE SECOND FORM's CARD OF 'watchfirelaw11.SilenceEntries'. -/
def silenceEntriesUptoCard : Claim7 := { stood := { row := silenceEntriesUptoRow, standIns := [], harness := (true, "bbc5d1860d3c25be5a7c82786f2d7e5c4bf8044ca3c773471537e7240634aae8"), looks := true }, kinds := [], alts := [], laidByText := true, laidKinds := [.data, .data, .data, .sentinel, .sentinel], laidTests := true, laidLooks := .later }
def SilenceEntriesUptoCardSaid : Prop := Claim7.holds Tryz.pinned (.plain (OpenSpec.upto silenceEntriesSpec)) silenceEntriesUptoCard

/-- THE SECOND FORM's CARD OF 'watchfirelaw11.SilenceOfs'. -/
def silenceOfsUptoCard : Claim7 := { stood := { row := silenceOfsUptoRow, standIns := [], harness := (true, "bbc5d1860d3c25be5a7c82786f2d7e5c4bf8044ca3c773471537e7240634aae8"), looks := true }, kinds := [], alts := [], laidByText := true, laidKinds := [.data, .data, .data, .sentinel, .sentinel], laidTests := true, laidLooks := .later }
def SilenceOfsUptoCardSaid : Prop := Claim7.holds Tryz.pinned (.plain (OpenSpec.upto silenceOfsSpec)) silenceOfsUptoCard

/-- THE SECOND FORM's CARD OF 'watchfirelaw11.SilenceActives'. -/
def silenceActivesUptoCard : Claim7 := { stood := { row := silenceActivesUptoRow, standIns := [], harness := (true, "bbc5d1860d3c25be5a7c82786f2d7e5c4bf8044ca3c773471537e7240634aae8"), looks := true }, kinds := [], alts := [], laidByText := true, laidKinds := [.data, .data, .data, .sentinel, .sentinel], laidTests := true, laidLooks := .later }
def SilenceActivesUptoCardSaid : Prop := Claim7.holds Tryz.pinned (.plain (OpenSpec.upto silenceActivesSpec)) silenceActivesUptoCard
end Rows
end Go.Proofs.YtcngifkoopcmeaaGreatDoor
