/-
  DERIVED. GIVEN WITH THE SEED: THE CARDS: each row of YtbkejafjlapmnabDoorRows.lean that lists a variable, with what it lists TIED to the program's text (the seventh form; the later family's looks); each row that meets fmt, with fmt's text TOLD by the authors' own Lean function (tested against real Go, not proved from fmt's source: count such statements apart). THE CARD IS WHAT COUNTS. Prove the row's statement (the work); the ties are given (YtbkejafjlapmnabDoorTie.lean); close each card by the builder's one call (the guide's Derived/Test/ToyasCard.lean, 'card_holds'). Laid BY PROGRAM, IN A SANDBOX (cutbox-door.mjs). By AI agents, Wed Nov 11 2026. No macro, syntax, notation, axiom, sorry.
-/
import Derived.Test.YtbkejafjlapmnabDoorRows
import GoSem.ClaimSeven
namespace Go.Proofs.YtbkejafjlapmnabDoor
namespace Rows

/-- THE TIED CARD OF 'watchfirelaw05.RouteDeepest'. -/
def routeDeepestCard : Claim7 := { stood := { row := routeDeepestRow, standIns := [], harness := (true, "ebaff2a7fada9e81d2baa6f47cd719da16f31c99f9ab3d6bf38764076ac81a6c"), looks := true }, kinds := [], alts := [], laidByText := true, laidKinds := [.data], laidTests := true, laidLooks := .later }
def RouteDeepestCardSaid : Prop := Claim7.holds Tryd.pinned (.plain (OpenSpec.ofChange routeDeepestSpec)) routeDeepestCard

/-- THE TIED CARD OF 'watchfirelaw05.RouteMore'. -/
def routeMoreCard : Claim7 := { stood := { row := routeMoreRow, standIns := [], harness := (true, "ebaff2a7fada9e81d2baa6f47cd719da16f31c99f9ab3d6bf38764076ac81a6c"), looks := true }, kinds := [], alts := [], laidByText := true, laidKinds := [.data], laidTests := true, laidLooks := .later }
def RouteMoreCardSaid : Prop := Claim7.holds Tryd.pinned (.plain (OpenSpec.ofChange routeMoreSpec)) routeMoreCard

/-- THE SECOND FORM's CARD OF 'watchfirelaw05.RouteDeepest'. -/
def routeDeepestUptoCard : Claim7 := { stood := { row := routeDeepestUptoRow, standIns := [], harness := (true, "ebaff2a7fada9e81d2baa6f47cd719da16f31c99f9ab3d6bf38764076ac81a6c"), looks := true }, kinds := [], alts := [], laidByText := true, laidKinds := [.data], laidTests := true, laidLooks := .later }
def RouteDeepestUptoCardSaid : Prop := Claim7.holds Tryd.pinned (.plain (OpenSpec.upto routeDeepestSpec)) routeDeepestUptoCard

/-- THE SECOND FORM's CARD OF 'watchfirelaw05.RouteMore'. -/
def routeMoreUptoCard : Claim7 := { stood := { row := routeMoreUptoRow, standIns := [], harness := (true, "ebaff2a7fada9e81d2baa6f47cd719da16f31c99f9ab3d6bf38764076ac81a6c"), looks := true }, kinds := [], alts := [], laidByText := true, laidKinds := [.data], laidTests := true, laidLooks := .later }
def RouteMoreUptoCardSaid : Prop := Claim7.holds Tryd.pinned (.plain (OpenSpec.upto routeMoreSpec)) routeMoreUptoCard
end Rows
end Go.Proofs.YtbkejafjlapmnabDoor
