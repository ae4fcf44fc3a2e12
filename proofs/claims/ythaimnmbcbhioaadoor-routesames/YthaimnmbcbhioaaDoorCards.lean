/-
  DERIVED. GIVEN WITH THE SEED: THE CARDS: each row of YthaimnmbcbhioaaDoorRows.lean that lists a variable, with what it lists TIED to the program's text (the seventh form; the later family's looks); each row that meets fmt, with fmt's text TOLD by the authors' own Lean function (tested against real Go, not proved from fmt's source: count such statements apart). THE CARD IS WHAT COUNTS. Prove the row's statement (the work); the ties are given (YthaimnmbcbhioaaDoorTie.lean); close each card by the builder's one call (the guide's Derived/Test/ToyasCard.lean, 'card_holds'). Laid BY PROGRAM, IN A SANDBOX (cutbox-door.mjs). By AI agents, Wed Nov 11 2026. No macro, syntax, notation, axiom, sorry.
-/
import Derived.Test.YthaimnmbcbhioaaDoorRows
import GoSem.ClaimSeven
namespace Go.Proofs.YthaimnmbcbhioaaDoor
namespace Rows

/-- THE TIED CARD OF 'watchfirelaw05.RouteSames'. -/
def routeSamesCard : Claim7 := { stood := { row := routeSamesRow, standIns := [], harness := (true, "556b45ed1065b3c8775b3c1b7c9cafd99d14fc90376a384454eb781fcc078495"), looks := true }, kinds := [], alts := [], laidByText := true, laidKinds := [.data], laidTests := true, laidLooks := .later }
def RouteSamesCardSaid : Prop := Claim7.holds Tryd.pinned (.plain (OpenSpec.ofChange routeSamesSpec)) routeSamesCard

/-- THE TIED CARD OF 'watchfirelaw05.RouteMore'. -/
def routeMoreCard : Claim7 := { stood := { row := routeMoreRow, standIns := [], harness := (true, "556b45ed1065b3c8775b3c1b7c9cafd99d14fc90376a384454eb781fcc078495"), looks := true }, kinds := [], alts := [], laidByText := true, laidKinds := [.data], laidTests := true, laidLooks := .later }
def RouteMoreCardSaid : Prop := Claim7.holds Tryd.pinned (.plain (OpenSpec.ofChange routeMoreSpec)) routeMoreCard

/-- THE TIED CARD OF 'watchfirelaw06.InhibitBy'. -/
def inhibitByCard : Claim7 := { stood := { row := inhibitByRow, standIns := [], harness := (true, "556b45ed1065b3c8775b3c1b7c9cafd99d14fc90376a384454eb781fcc078495"), looks := true }, kinds := [], alts := [], laidByText := true, laidKinds := [.data], laidTests := true, laidLooks := .later }
def InhibitByCardSaid : Prop := Claim7.holds Tryd.pinned (.plain (OpenSpec.ofChange inhibitBySpec)) inhibitByCard

/-- THE TIED CARD OF 'watchfirelaw06.InhibitMutes'. -/
def inhibitMutesCard : Claim7 := { stood := { row := inhibitMutesRow, standIns := [], harness := (true, "556b45ed1065b3c8775b3c1b7c9cafd99d14fc90376a384454eb781fcc078495"), looks := true }, kinds := [], alts := [], laidByText := true, laidKinds := [.data], laidTests := true, laidLooks := .later }
def InhibitMutesCardSaid : Prop := Claim7.holds Tryd.pinned (.plain (OpenSpec.ofChange inhibitMutesSpec)) inhibitMutesCard

/-- THE TIED CARD OF 'watchfirelaw06.InhibitSelf'. -/
def inhibitSelfCard : Claim7 := { stood := { row := inhibitSelfRow, standIns := [], harness := (true, "556b45ed1065b3c8775b3c1b7c9cafd99d14fc90376a384454eb781fcc078495"), looks := true }, kinds := [], alts := [], laidByText := true, laidKinds := [.data], laidTests := true, laidLooks := .later }
def InhibitSelfCardSaid : Prop := Claim7.holds Tryd.pinned (.plain (OpenSpec.ofChange inhibitSelfSpec)) inhibitSelfCard

/-- THE TIED CARD OF 'watchfirelaw06.InhibitMore'. -/
def inhibitMoreCard : Claim7 := { stood := { row := inhibitMoreRow, standIns := [], harness := (true, "556b45ed1065b3c8775b3c1b7c9cafd99d14fc90376a384454eb781fcc078495"), looks := true }, kinds := [], alts := [], laidByText := true, laidKinds := [.data], laidTests := true, laidLooks := .later }
def InhibitMoreCardSaid : Prop := Claim7.holds Tryd.pinned (.plain (OpenSpec.ofChange inhibitMoreSpec)) inhibitMoreCard

/-- THE SECOND FORM's CARD OF 'watchfirelaw05.RouteSames'. -/
def routeSamesUptoCard : Claim7 := { stood := { row := routeSamesUptoRow, standIns := [], harness := (true, "556b45ed1065b3c8775b3c1b7c9cafd99d14fc90376a384454eb781fcc078495"), looks := true }, kinds := [], alts := [], laidByText := true, laidKinds := [.data], laidTests := true, laidLooks := .later }
def RouteSamesUptoCardSaid : Prop := Claim7.holds Tryd.pinned (.plain (OpenSpec.upto routeSamesSpec)) routeSamesUptoCard

/-- THE SECOND FORM's CARD OF 'watchfirelaw05.RouteMore'. -/
def routeMoreUptoCard : Claim7 := { stood := { row := routeMoreUptoRow, standIns := [], harness := (true, "556b45ed1065b3c8775b3c1b7c9cafd99d14fc90376a384454eb781fcc078495"), looks := true }, kinds := [], alts := [], laidByText := true, laidKinds := [.data], laidTests := true, laidLooks := .later }
def RouteMoreUptoCardSaid : Prop := Claim7.holds Tryd.pinned (.plain (OpenSpec.upto routeMoreSpec)) routeMoreUptoCard

/-- THE SECOND FORM's CARD OF 'watchfirelaw06.InhibitBy'. -/
def inhibitByUptoCard : Claim7 := { stood := { row := inhibitByUptoRow, standIns := [], harness := (true, "556b45ed1065b3c8775b3c1b7c9cafd99d14fc90376a384454eb781fcc078495"), looks := true }, kinds := [], alts := [], laidByText := true, laidKinds := [.data], laidTests := true, laidLooks := .later }
def InhibitByUptoCardSaid : Prop := Claim7.holds Tryd.pinned (.plain (OpenSpec.upto inhibitBySpec)) inhibitByUptoCard

/-- THE SECOND FORM's CARD OF 'watchfirelaw06.InhibitMutes'. -/
def inhibitMutesUptoCard : Claim7 := { stood := { row := inhibitMutesUptoRow, standIns := [], harness := (true, "556b45ed1065b3c8775b3c1b7c9cafd99d14fc90376a384454eb781fcc078495"), looks := true }, kinds := [], alts := [], laidByText := true, laidKinds := [.data], laidTests := true, laidLooks := .later }
def InhibitMutesUptoCardSaid : Prop := Claim7.holds Tryd.pinned (.plain (OpenSpec.upto inhibitMutesSpec)) inhibitMutesUptoCard

/-- THE SECOND FORM's CARD OF 'watchfirelaw06.InhibitSelf'. -/
def inhibitSelfUptoCard : Claim7 := { stood := { row := inhibitSelfUptoRow, standIns := [], harness := (true, "556b45ed1065b3c8775b3c1b7c9cafd99d14fc90376a384454eb781fcc078495"), looks := true }, kinds := [], alts := [], laidByText := true, laidKinds := [.data], laidTests := true, laidLooks := .later }
def InhibitSelfUptoCardSaid : Prop := Claim7.holds Tryd.pinned (.plain (OpenSpec.upto inhibitSelfSpec)) inhibitSelfUptoCard

/-- THE SECOND FORM's CARD OF 'watchfirelaw06.InhibitMore'. -/
def inhibitMoreUptoCard : Claim7 := { stood := { row := inhibitMoreUptoRow, standIns := [], harness := (true, "556b45ed1065b3c8775b3c1b7c9cafd99d14fc90376a384454eb781fcc078495"), looks := true }, kinds := [], alts := [], laidByText := true, laidKinds := [.data], laidTests := true, laidLooks := .later }
def InhibitMoreUptoCardSaid : Prop := Claim7.holds Tryd.pinned (.plain (OpenSpec.upto inhibitMoreSpec)) inhibitMoreUptoCard
end Rows
end Go.Proofs.YthaimnmbcbhioaaDoor
