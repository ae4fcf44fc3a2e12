/-
  DERIVED. GIVEN WITH THE SEED: THE CARDS: each row of YtjkhonelidhakaaDoorRows.lean that lists a variable, with what it lists TIED to the program's text (the seventh form; the later family's looks); each row that meets fmt, with fmt's text TOLD by the authors' own Lean function (tested against real Go, not proved from fmt's source: count such statements apart). THE CARD IS WHAT COUNTS. Prove the row's statement (the work); the ties are given (YtjkhonelidhakaaDoorTie.lean); close each card by the builder's one call (the guide's Derived/Test/ToyasCard.lean, 'card_holds'). Laid BY PROGRAM, IN A SANDBOX (cutbox-door.mjs). By AI agents, Wed Nov 11 2026. No macro, syntax, notation, axiom, sorry.
-/
import Derived.Test.YtjkhonelidhakaaDoorRows
import GoSem.ClaimSeven
namespace Go.Proofs.YtjkhonelidhakaaDoor
namespace Rows

/-- THE TIED CARD OF 'watchfirelaw09.EntryAbove'. -/
def entryAboveCard : Claim7 := { stood := { row := entryAboveRow, standIns := [], harness := (true, "c52820d31a650a55ba372e09a01e478c926147b1a651646f912c088763f730d4"), looks := true }, kinds := [], alts := [], laidByText := true, laidKinds := [.data, .data, .data], laidTests := true, laidLooks := .later }
def EntryAboveCardSaid : Prop := Claim7.holds Tryd.pinned (.plain (OpenSpec.ofChange entryAboveSpec)) entryAboveCard

/-- THE TIED CARD OF 'watchfirelaw09.EntryBack'. -/
def entryBackCard : Claim7 := { stood := { row := entryBackRow, standIns := [], harness := (true, "c52820d31a650a55ba372e09a01e478c926147b1a651646f912c088763f730d4"), looks := true }, kinds := [], alts := [], laidByText := true, laidKinds := [.data, .data, .data, .sentinel, .sentinel], laidTests := true, laidLooks := .later }
def EntryBackCardSaid : Prop := Claim7.holds Tryd.pinned (.plain (OpenSpec.ofChange entryBackSpec)) entryBackCard

/-- THE TIED CARD OF 'watchfirelaw09.EntryOrder'. -/
def entryOrderCard : Claim7 := { stood := { row := entryOrderRow, standIns := [], harness := (true, "c52820d31a650a55ba372e09a01e478c926147b1a651646f912c088763f730d4"), looks := true }, kinds := [], alts := [], laidByText := true, laidKinds := [.data, .data, .data], laidTests := true, laidLooks := .later }
def EntryOrderCardSaid : Prop := Claim7.holds Tryd.pinned (.plain (OpenSpec.ofChange entryOrderSpec)) entryOrderCard

/-- THE TIED CARD OF 'watchfirelaw09.EntryLater'. -/
def entryLaterCard : Claim7 := { stood := { row := entryLaterRow, standIns := [], harness := (true, "c52820d31a650a55ba372e09a01e478c926147b1a651646f912c088763f730d4"), looks := true }, kinds := [], alts := [], laidByText := true, laidKinds := [.data, .data, .data], laidTests := true, laidLooks := .later }
def EntryLaterCardSaid : Prop := Claim7.holds Tryd.pinned (.plain (OpenSpec.ofChange entryLaterSpec)) entryLaterCard

/-- THE SECOND FORM's CARD OF 'watchfirelaw09.EntryAbove'. -/
def entryAboveUptoCard : Claim7 := { stood := { row := entryAboveUptoRow, standIns := [], harness := (true, "c52820d31a650a55ba372e09a01e478c926147b1a651646f912c088763f730d4"), looks := true }, kinds := [], alts := [], laidByText := true, laidKinds := [.data, .data, .data], laidTests := true, laidLooks := .later }
def EntryAboveUptoCardSaid : Prop := Claim7.holds Tryd.pinned (.plain (OpenSpec.upto entryAboveSpec)) entryAboveUptoCard

/-- THE SECOND FORM's CARD OF 'watchfirelaw09.EntryBack'. -/
def entryBackUptoCard : Claim7 := { stood := { row := entryBackUptoRow, standIns := [], harness := (true, "c52820d31a650a55ba372e09a01e478c926147b1a651646f912c088763f730d4"), looks := true }, kinds := [], alts := [], laidByText := true, laidKinds := [.data, .data, .data, .sentinel, .sentinel], laidTests := true, laidLooks := .later }
def EntryBackUptoCardSaid : Prop := Claim7.holds Tryd.pinned (.plain (OpenSpec.upto entryBackSpec)) entryBackUptoCard

/-- THE SECOND FORM's CARD OF 'watchfirelaw09.EntryOrder'. -/
def entryOrderUptoCard : Claim7 := { stood := { row := entryOrderUptoRow, standIns := [], harness := (true, "c52820d31a650a55ba372e09a01e478c926147b1a651646f912c088763f730d4"), looks := true }, kinds := [], alts := [], laidByText := true, laidKinds := [.data, .data, .data], laidTests := true, laidLooks := .later }
def EntryOrderUptoCardSaid : Prop := Claim7.holds Tryd.pinned (.plain (OpenSpec.upto entryOrderSpec)) entryOrderUptoCard

/-- THE SECOND FORM's CARD OF 'watchfirelaw09.EntryLater'. -/
def entryLaterUptoCard : Claim7 := { stood := { row := entryLaterUptoRow, standIns := [], harness := (true, "c52820d31a650a55ba372e09a01e478c926147b1a651646f912c088763f730d4"), looks := true }, kinds := [], alts := [], laidByText := true, laidKinds := [.data, .data, .data], laidTests := true, laidLooks := .later }
def EntryLaterUptoCardSaid : Prop := Claim7.holds Tryd.pinned (.plain (OpenSpec.upto entryLaterSpec)) entryLaterUptoCard
end Rows
end Go.Proofs.YtjkhonelidhakaaDoor
