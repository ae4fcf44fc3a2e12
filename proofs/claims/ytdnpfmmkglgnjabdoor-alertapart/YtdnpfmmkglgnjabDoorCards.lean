/-
  DERIVED. GIVEN WITH THE SEED: THE CARDS: each row of YtdnpfmmkglgnjabDoorRows.lean that lists a variable, with what it lists TIED to the program's text (the seventh form; the later family's looks); each row that meets fmt, with fmt's text TOLD by the authors' own Lean function (tested against real Go, not proved from fmt's source: count such statements apart). THE CARD IS WHAT COUNTS. Prove the row's statement (the work); the ties are given (YtdnpfmmkglgnjabDoorTie.lean); close each card by the builder's one call (the guide's Derived/Test/ToyasCard.lean, 'card_holds'). Laid BY PROGRAM, IN A SANDBOX (cutbox-door.mjs). By AI agents, Wed Nov 11 2026. No macro, syntax, notation, axiom, sorry.
-/
import Derived.Test.YtdnpfmmkglgnjabDoorRows
import GoSem.ClaimSeven
namespace Go.Proofs.YtdnpfmmkglgnjabDoor
namespace Rows

/-- THE TIED CARD OF 'watchfirelaw07.AlertApart'. -/
def alertApartCard : Claim7 := { stood := { row := alertApartRow, standIns := [], harness := (true, "5fc3b9d107e91130e39dc87067fdafcb899899a2e23ce77baa4f343a5203c018"), looks := false }, kinds := [], alts := [], laidByText := true, laidKinds := [.data, .data, .data], laidTests := true, laidLooks := .later }
def AlertApartCardSaid : Prop := Claim7.holds Tryd.pinned (.plain (OpenSpec.ofChange alertApartSpec)) alertApartCard

/-- THE SECOND FORM's CARD OF 'watchfirelaw07.AlertApart'. -/
def alertApartUptoCard : Claim7 := { stood := { row := alertApartUptoRow, standIns := [], harness := (true, "5fc3b9d107e91130e39dc87067fdafcb899899a2e23ce77baa4f343a5203c018"), looks := false }, kinds := [], alts := [], laidByText := true, laidKinds := [.data, .data, .data], laidTests := true, laidLooks := .later }
def AlertApartUptoCardSaid : Prop := Claim7.holds Tryd.pinned (.plain (OpenSpec.upto alertApartSpec)) alertApartUptoCard
end Rows
end Go.Proofs.YtdnpfmmkglgnjabDoor
