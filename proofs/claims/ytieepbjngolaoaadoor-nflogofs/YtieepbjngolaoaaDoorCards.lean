/-
  DERIVED. GIVEN WITH THE SEED: THE CARDS: each row of YtieepbjngolaoaaDoorRows.lean that lists a variable, with what it lists TIED to the program's text (the seventh form; the later family's looks); each row that meets fmt, with fmt's text TOLD by the authors' own Lean function (tested against real Go, not proved from fmt's source: count such statements apart). THE CARD IS WHAT COUNTS. Prove the row's statement (the work); the ties are given (YtieepbjngolaoaaDoorTie.lean); close each card by the builder's one call (the guide's Derived/Test/ToyasCard.lean, 'card_holds'). Laid BY PROGRAM, IN A SANDBOX (cutbox-door.mjs). By AI agents, Wed Nov 11 2026. No macro, syntax, notation, axiom, sorry.
-/
import Derived.Test.YtieepbjngolaoaaDoorRows
import GoSem.ClaimSeven
namespace Go.Proofs.YtieepbjngolaoaaDoor
namespace Rows

/-- THE TIED CARD OF 'watchfirelaw12.NflogCalm'. -/
def nflogCalmCard : Claim7 := { stood := { row := nflogCalmRow, standIns := [], harness := (true, "a448f4f1ebdf4b4e67fc9b5d83e42513f433535b415f72e3cd3f8cb5943850ab"), looks := true }, kinds := [], alts := [], laidByText := true, laidKinds := [.data, .data, .data, .sentinel, .sentinel], laidTests := true, laidLooks := .later }
def NflogCalmCardSaid : Prop := Claim7.holds Tryd.pinned (.plain (OpenSpec.ofChange nflogCalmSpec)) nflogCalmCard

/-- THE TIED CARD OF 'watchfirelaw12.NflogEntries'. -/
def nflogEntriesCard : Claim7 := { stood := { row := nflogEntriesRow, standIns := [], harness := (true, "a448f4f1ebdf4b4e67fc9b5d83e42513f433535b415f72e3cd3f8cb5943850ab"), looks := true }, kinds := [], alts := [], laidByText := true, laidKinds := [.data, .data, .data, .sentinel, .sentinel], laidTests := true, laidLooks := .later }
def NflogEntriesCardSaid : Prop := Claim7.holds Tryd.pinned (.plain (OpenSpec.ofChange nflogEntriesSpec)) nflogEntriesCard

/-- THE TIED CARD OF 'watchfirelaw12.NflogOfs'. -/
def nflogOfsCard : Claim7 := { stood := { row := nflogOfsRow, standIns := [], harness := (true, "a448f4f1ebdf4b4e67fc9b5d83e42513f433535b415f72e3cd3f8cb5943850ab"), looks := true }, kinds := [], alts := [], laidByText := true, laidKinds := [.data, .data, .data, .sentinel, .sentinel], laidTests := true, laidLooks := .later }
def NflogOfsCardSaid : Prop := Claim7.holds Tryd.pinned (.plain (OpenSpec.ofChange nflogOfsSpec)) nflogOfsCard

/-- THE TIED CARD OF 'watchfirelaw12.NflogBack'. -/
def nflogBackCard : Claim7 := { stood := { row := nflogBackRow, standIns := [], harness := (true, "a448f4f1ebdf4b4e67fc9b5d83e42513f433535b415f72e3cd3f8cb5943850ab"), looks := true }, kinds := [], alts := [], laidByText := true, laidKinds := [.data, .data, .data, .sentinel, .sentinel], laidTests := true, laidLooks := .later }
def NflogBackCardSaid : Prop := Claim7.holds Tryd.pinned (.plain (OpenSpec.ofChange nflogBackSpec)) nflogBackCard

/-- THE SECOND FORM's CARD OF 'watchfirelaw12.NflogCalm'. -/
def nflogCalmUptoCard : Claim7 := { stood := { row := nflogCalmUptoRow, standIns := [], harness := (true, "a448f4f1ebdf4b4e67fc9b5d83e42513f433535b415f72e3cd3f8cb5943850ab"), looks := true }, kinds := [], alts := [], laidByText := true, laidKinds := [.data, .data, .data, .sentinel, .sentinel], laidTests := true, laidLooks := .later }
def NflogCalmUptoCardSaid : Prop := Claim7.holds Tryd.pinned (.plain (OpenSpec.upto nflogCalmSpec)) nflogCalmUptoCard

/-- THE SECOND FORM's CARD OF 'watchfirelaw12.NflogEntries'. -/
def nflogEntriesUptoCard : Claim7 := { stood := { row := nflogEntriesUptoRow, standIns := [], harness := (true, "a448f4f1ebdf4b4e67fc9b5d83e42513f433535b415f72e3cd3f8cb5943850ab"), looks := true }, kinds := [], alts := [], laidByText := true, laidKinds := [.data, .data, .data, .sentinel, .sentinel], laidTests := true, laidLooks := .later }
def NflogEntriesUptoCardSaid : Prop := Claim7.holds Tryd.pinned (.plain (OpenSpec.upto nflogEntriesSpec)) nflogEntriesUptoCard

/-- THE SECOND FORM's CARD OF 'watchfirelaw12.NflogOfs'. -/
def nflogOfsUptoCard : Claim7 := { stood := { row := nflogOfsUptoRow, standIns := [], harness := (true, "a448f4f1ebdf4b4e67fc9b5d83e42513f433535b415f72e3cd3f8cb5943850ab"), looks := true }, kinds := [], alts := [], laidByText := true, laidKinds := [.data, .data, .data, .sentinel, .sentinel], laidTests := true, laidLooks := .later }
def NflogOfsUptoCardSaid : Prop := Claim7.holds Tryd.pinned (.plain (OpenSpec.upto nflogOfsSpec)) nflogOfsUptoCard

/-- THE SECOND FORM's CARD OF 'watchfirelaw12.NflogBack'. -/
def nflogBackUptoCard : Claim7 := { stood := { row := nflogBackUptoRow, standIns := [], harness := (true, "a448f4f1ebdf4b4e67fc9b5d83e42513f433535b415f72e3cd3f8cb5943850ab"), looks := true }, kinds := [], alts := [], laidByText := true, laidKinds := [.data, .data, .data, .sentinel, .sentinel], laidTests := true, laidLooks := .later }
def NflogBackUptoCardSaid : Prop := Claim7.holds Tryd.pinned (.plain (OpenSpec.upto nflogBackSpec)) nflogBackUptoCard
end Rows
end Go.Proofs.YtieepbjngolaoaaDoor
