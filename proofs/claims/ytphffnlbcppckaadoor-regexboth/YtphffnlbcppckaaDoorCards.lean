/-
  DERIVED. GIVEN WITH THE SEED: THE CARDS: each row of YtphffnlbcppckaaDoorRows.lean that lists a variable, with what it lists TIED to the program's text (the seventh form; the later family's looks); each row that meets fmt, with fmt's text TOLD by the authors' own Lean function (tested against real Go, not proved from fmt's source: count such statements apart). THE CARD IS WHAT COUNTS. Prove the row's statement (the work); the ties are given (YtphffnlbcppckaaDoorTie.lean); close each card by the builder's one call (the guide's Derived/Test/ToyasCard.lean, 'card_holds'). Laid BY PROGRAM, IN A SANDBOX (cutbox-door.mjs). By AI agents, Wed Nov 11 2026. No macro, syntax, notation, axiom, sorry.
-/
import Derived.Test.YtphffnlbcppckaaDoorRows
import GoSem.ClaimSeven
namespace Go.Proofs.YtphffnlbcppckaaDoor
namespace Rows

/-- THE TIED CARD OF 'watchfirelaw03.RegexChecks'. -/
def regexChecksCard : Claim7 := { stood := { row := regexChecksRow, standIns := [], harness := (true, "43cd54609d66d6c357e00fb26b156981de6d206083fc73f50c19b20a64827e46"), looks := true }, kinds := [], alts := [], laidByText := true, laidKinds := [.data], laidTests := true, laidLooks := .later }
def RegexChecksCardSaid : Prop := Claim7.holds Tryd.pinned (.plain (OpenSpec.ofChange regexChecksSpec)) regexChecksCard

/-- THE TIED CARD OF 'watchfirelaw03.RegexMatches'. -/
def regexMatchesCard : Claim7 := { stood := { row := regexMatchesRow, standIns := [], harness := (true, "43cd54609d66d6c357e00fb26b156981de6d206083fc73f50c19b20a64827e46"), looks := true }, kinds := [], alts := [], laidByText := true, laidKinds := [.data], laidTests := true, laidLooks := .later }
def RegexMatchesCardSaid : Prop := Claim7.holds Tryd.pinned (.plain (OpenSpec.ofChange regexMatchesSpec)) regexMatchesCard

/-- THE TIED CARD OF 'watchfirelaw03.RegexQuotes'. -/
def regexQuotesCard : Claim7 := { stood := { row := regexQuotesRow, standIns := [], harness := (true, "43cd54609d66d6c357e00fb26b156981de6d206083fc73f50c19b20a64827e46"), looks := true }, kinds := [], alts := [], laidByText := true, laidKinds := [.data], laidTests := true, laidLooks := .later }
def RegexQuotesCardSaid : Prop := Claim7.holds Tryd.pinned (.plain (OpenSpec.ofChange regexQuotesSpec)) regexQuotesCard

/-- THE TIED CARD OF 'watchfirelaw03.RegexPlain'. -/
def regexPlainCard : Claim7 := { stood := { row := regexPlainRow, standIns := [], harness := (true, "43cd54609d66d6c357e00fb26b156981de6d206083fc73f50c19b20a64827e46"), looks := true }, kinds := [], alts := [], laidByText := true, laidKinds := [.data], laidTests := true, laidLooks := .later }
def RegexPlainCardSaid : Prop := Claim7.holds Tryd.pinned (.plain (OpenSpec.ofChange regexPlainSpec)) regexPlainCard

/-- THE TIED CARD OF 'watchfirelaw03.RegexOr'. -/
def regexOrCard : Claim7 := { stood := { row := regexOrRow, standIns := [], harness := (true, "43cd54609d66d6c357e00fb26b156981de6d206083fc73f50c19b20a64827e46"), looks := true }, kinds := [], alts := [], laidByText := true, laidKinds := [.data], laidTests := true, laidLooks := .later }
def RegexOrCardSaid : Prop := Claim7.holds Tryd.pinned (.plain (OpenSpec.ofChange regexOrSpec)) regexOrCard

/-- THE TIED CARD OF 'watchfirelaw03.RegexBoth'. -/
def regexBothCard : Claim7 := { stood := { row := regexBothRow, standIns := [], harness := (true, "43cd54609d66d6c357e00fb26b156981de6d206083fc73f50c19b20a64827e46"), looks := true }, kinds := [], alts := [], laidByText := true, laidKinds := [.data], laidTests := true, laidLooks := .later }
def RegexBothCardSaid : Prop := Claim7.holds Tryd.pinned (.plain (OpenSpec.ofChange regexBothSpec)) regexBothCard

/-- THE SECOND FORM's CARD OF 'watchfirelaw03.RegexChecks'. -/
def regexChecksUptoCard : Claim7 := { stood := { row := regexChecksUptoRow, standIns := [], harness := (true, "43cd54609d66d6c357e00fb26b156981de6d206083fc73f50c19b20a64827e46"), looks := true }, kinds := [], alts := [], laidByText := true, laidKinds := [.data], laidTests := true, laidLooks := .later }
def RegexChecksUptoCardSaid : Prop := Claim7.holds Tryd.pinned (.plain (OpenSpec.upto regexChecksSpec)) regexChecksUptoCard

/-- THE SECOND FORM's CARD OF 'watchfirelaw03.RegexMatches'. -/
def regexMatchesUptoCard : Claim7 := { stood := { row := regexMatchesUptoRow, standIns := [], harness := (true, "43cd54609d66d6c357e00fb26b156981de6d206083fc73f50c19b20a64827e46"), looks := true }, kinds := [], alts := [], laidByText := true, laidKinds := [.data], laidTests := true, laidLooks := .later }
def RegexMatchesUptoCardSaid : Prop := Claim7.holds Tryd.pinned (.plain (OpenSpec.upto regexMatchesSpec)) regexMatchesUptoCard

/-- THE SECOND FORM's CARD OF 'watchfirelaw03.RegexQuotes'. -/
def regexQuotesUptoCard : Claim7 := { stood := { row := regexQuotesUptoRow, standIns := [], harness := (true, "43cd54609d66d6c357e00fb26b156981de6d206083fc73f50c19b20a64827e46"), looks := true }, kinds := [], alts := [], laidByText := true, laidKinds := [.data], laidTests := true, laidLooks := .later }
def RegexQuotesUptoCardSaid : Prop := Claim7.holds Tryd.pinned (.plain (OpenSpec.upto regexQuotesSpec)) regexQuotesUptoCard

/-- THE SECOND FORM's CARD OF 'watchfirelaw03.RegexPlain'. -/
def regexPlainUptoCard : Claim7 := { stood := { row := regexPlainUptoRow, standIns := [], harness := (true, "43cd54609d66d6c357e00fb26b156981de6d206083fc73f50c19b20a64827e46"), looks := true }, kinds := [], alts := [], laidByText := true, laidKinds := [.data], laidTests := true, laidLooks := .later }
def RegexPlainUptoCardSaid : Prop := Claim7.holds Tryd.pinned (.plain (OpenSpec.upto regexPlainSpec)) regexPlainUptoCard

/-- THE SECOND FORM's CARD OF 'watchfirelaw03.RegexOr'. -/
def regexOrUptoCard : Claim7 := { stood := { row := regexOrUptoRow, standIns := [], harness := (true, "43cd54609d66d6c357e00fb26b156981de6d206083fc73f50c19b20a64827e46"), looks := true }, kinds := [], alts := [], laidByText := true, laidKinds := [.data], laidTests := true, laidLooks := .later }
def RegexOrUptoCardSaid : Prop := Claim7.holds Tryd.pinned (.plain (OpenSpec.upto regexOrSpec)) regexOrUptoCard

/-- THE SECOND FORM's CARD OF 'watchfirelaw03.RegexBoth'. -/
def regexBothUptoCard : Claim7 := { stood := { row := regexBothUptoRow, standIns := [], harness := (true, "43cd54609d66d6c357e00fb26b156981de6d206083fc73f50c19b20a64827e46"), looks := true }, kinds := [], alts := [], laidByText := true, laidKinds := [.data], laidTests := true, laidLooks := .later }
def RegexBothUptoCardSaid : Prop := Claim7.holds Tryd.pinned (.plain (OpenSpec.upto regexBothSpec)) regexBothUptoCard
end Rows
end Go.Proofs.YtphffnlbcppckaaDoor
