/-
  DERIVED. GIVEN WITH THE SEED: THE CARDS: each row of YtbkejafjlapmnaaDoorRows.lean that lists a variable, with what it lists TIED to the program's text (the seventh form; the later family's looks); each row that meets fmt, with fmt's text TOLD by the authors' own Lean function (tested against real Go, not proved from fmt's source: count such statements apart). THE CARD IS WHAT COUNTS. Prove the row's statement (the work); the ties are given (YtbkejafjlapmnaaDoorTie.lean); close each card by the builder's one call (the guide's Derived/Test/ToyasCard.lean, 'card_holds'). Laid BY PROGRAM, IN A SANDBOX (cutbox-door.mjs). By AI agents, Wed Nov 11 2026. No macro, syntax, notation, axiom, sorry.
-/
import Derived.Test.YtbkejafjlapmnaaDoorRows
import GoSem.ClaimSeven
namespace Go.Proofs.YtbkejafjlapmnaaDoor
namespace Rows

/-- THE TIED CARD OF 'watchfirelaw04.MatchTexts'. -/
def matchTextsCard : Claim7 := { stood := { row := matchTextsRow, standIns := [], harness := (true, "bf2cf15a8d245374691c8cb44c2c99c341162c5730be62fea706732106178da1"), looks := true }, kinds := [], alts := [], laidByText := true, laidKinds := [.data], laidTests := true, laidLooks := .later }
def MatchTextsCardSaid : Prop := Claim7.holds Tryd.pinned (.plain (OpenSpec.ofChange matchTextsSpec)) matchTextsCard

/-- THE TIED CARD OF 'watchfirelaw04.MatchBack'. -/
def matchBackCard : Claim7 := { stood := { row := matchBackRow, standIns := [], harness := (true, "bf2cf15a8d245374691c8cb44c2c99c341162c5730be62fea706732106178da1"), looks := true }, kinds := [], alts := [], laidByText := true, laidKinds := [.data], laidTests := true, laidLooks := .later }
def MatchBackCardSaid : Prop := Claim7.holds Tryd.pinned (.plain (OpenSpec.ofChange matchBackSpec)) matchBackCard

/-- THE TIED CARD OF 'watchfirelaw05.RouteChecks'. -/
def routeChecksCard : Claim7 := { stood := { row := routeChecksRow, standIns := [], harness := (true, "bf2cf15a8d245374691c8cb44c2c99c341162c5730be62fea706732106178da1"), looks := true }, kinds := [], alts := [], laidByText := true, laidKinds := [.data], laidTests := true, laidLooks := .later }
def RouteChecksCardSaid : Prop := Claim7.holds Tryd.pinned (.plain (OpenSpec.ofChange routeChecksSpec)) routeChecksCard

/-- THE TIED CARD OF 'watchfirelaw05.RouteWalks'. -/
def routeWalksCard : Claim7 := { stood := { row := routeWalksRow, standIns := [], harness := (true, "bf2cf15a8d245374691c8cb44c2c99c341162c5730be62fea706732106178da1"), looks := true }, kinds := [], alts := [], laidByText := true, laidKinds := [.data], laidTests := true, laidLooks := .later }
def RouteWalksCardSaid : Prop := Claim7.holds Tryd.pinned (.plain (OpenSpec.ofChange routeWalksSpec)) routeWalksCard

/-- THE TIED CARD OF 'watchfirelaw05.RouteSames'. -/
def routeSamesCard : Claim7 := { stood := { row := routeSamesRow, standIns := [], harness := (true, "bf2cf15a8d245374691c8cb44c2c99c341162c5730be62fea706732106178da1"), looks := true }, kinds := [], alts := [], laidByText := true, laidKinds := [.data], laidTests := true, laidLooks := .later }
def RouteSamesCardSaid : Prop := Claim7.holds Tryd.pinned (.plain (OpenSpec.ofChange routeSamesSpec)) routeSamesCard

/-- THE TIED CARD OF 'watchfirelaw05.RouteSomewhere'. -/
def routeSomewhereCard : Claim7 := { stood := { row := routeSomewhereRow, standIns := [], harness := (true, "bf2cf15a8d245374691c8cb44c2c99c341162c5730be62fea706732106178da1"), looks := true }, kinds := [], alts := [], laidByText := true, laidKinds := [.data], laidTests := true, laidLooks := .later }
def RouteSomewhereCardSaid : Prop := Claim7.holds Tryd.pinned (.plain (OpenSpec.ofChange routeSomewhereSpec)) routeSomewhereCard

/-- THE SECOND FORM's CARD OF 'watchfirelaw04.MatchTexts'. -/
def matchTextsUptoCard : Claim7 := { stood := { row := matchTextsUptoRow, standIns := [], harness := (true, "bf2cf15a8d245374691c8cb44c2c99c341162c5730be62fea706732106178da1"), looks := true }, kinds := [], alts := [], laidByText := true, laidKinds := [.data], laidTests := true, laidLooks := .later }
def MatchTextsUptoCardSaid : Prop := Claim7.holds Tryd.pinned (.plain (OpenSpec.upto matchTextsSpec)) matchTextsUptoCard

/-- THE SECOND FORM's CARD OF 'watchfirelaw04.MatchBack'. -/
def matchBackUptoCard : Claim7 := { stood := { row := matchBackUptoRow, standIns := [], harness := (true, "bf2cf15a8d245374691c8cb44c2c99c341162c5730be62fea706732106178da1"), looks := true }, kinds := [], alts := [], laidByText := true, laidKinds := [.data], laidTests := true, laidLooks := .later }
def MatchBackUptoCardSaid : Prop := Claim7.holds Tryd.pinned (.plain (OpenSpec.upto matchBackSpec)) matchBackUptoCard

/-- THE SECOND FORM's CARD OF 'watchfirelaw05.RouteChecks'. -/
def routeChecksUptoCard : Claim7 := { stood := { row := routeChecksUptoRow, standIns := [], harness := (true, "bf2cf15a8d245374691c8cb44c2c99c341162c5730be62fea706732106178da1"), looks := true }, kinds := [], alts := [], laidByText := true, laidKinds := [.data], laidTests := true, laidLooks := .later }
def RouteChecksUptoCardSaid : Prop := Claim7.holds Tryd.pinned (.plain (OpenSpec.upto routeChecksSpec)) routeChecksUptoCard

/-- THE SECOND FORM's CARD OF 'watchfirelaw05.RouteWalks'. -/
def routeWalksUptoCard : Claim7 := { stood := { row := routeWalksUptoRow, standIns := [], harness := (true, "bf2cf15a8d245374691c8cb44c2c99c341162c5730be62fea706732106178da1"), looks := true }, kinds := [], alts := [], laidByText := true, laidKinds := [.data], laidTests := true, laidLooks := .later }
def RouteWalksUptoCardSaid : Prop := Claim7.holds Tryd.pinned (.plain (OpenSpec.upto routeWalksSpec)) routeWalksUptoCard

/-- THE SECOND FORM's CARD OF 'watchfirelaw05.RouteSames'. -/
def routeSamesUptoCard : Claim7 := { stood := { row := routeSamesUptoRow, standIns := [], harness := (true, "bf2cf15a8d245374691c8cb44c2c99c341162c5730be62fea706732106178da1"), looks := true }, kinds := [], alts := [], laidByText := true, laidKinds := [.data], laidTests := true, laidLooks := .later }
def RouteSamesUptoCardSaid : Prop := Claim7.holds Tryd.pinned (.plain (OpenSpec.upto routeSamesSpec)) routeSamesUptoCard

/-- THE SECOND FORM's CARD OF 'watchfirelaw05.RouteSomewhere'. -/
def routeSomewhereUptoCard : Claim7 := { stood := { row := routeSomewhereUptoRow, standIns := [], harness := (true, "bf2cf15a8d245374691c8cb44c2c99c341162c5730be62fea706732106178da1"), looks := true }, kinds := [], alts := [], laidByText := true, laidKinds := [.data], laidTests := true, laidLooks := .later }
def RouteSomewhereUptoCardSaid : Prop := Claim7.holds Tryd.pinned (.plain (OpenSpec.upto routeSomewhereSpec)) routeSomewhereUptoCard
end Rows
end Go.Proofs.YtbkejafjlapmnaaDoor
