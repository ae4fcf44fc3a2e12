/-
  DERIVED. GIVEN WITH THE SEED: THE CARDS: each row of YtcdlalbmafipdaaDoorRows.lean that lists a variable, with what it lists TIED to the program's text (the seventh form; the later family's looks); each row that meets fmt, with fmt's text TOLD by the authors' own Lean function (tested against real Go, not proved from fmt's source: count such statements apart). THE CARD IS WHAT COUNTS. Prove the row's statement (the work); the ties are given (YtcdlalbmafipdaaDoorTie.lean); close each card by the builder's one call (the guide's Derived/Test/ToyasCard.lean, 'card_holds'). Laid BY PROGRAM, IN A SANDBOX (cutbox-door.mjs). By AI agents, Wed Nov 11 2026. No macro, syntax, notation, axiom, sorry.
-/
import Derived.Test.YtcdlalbmafipdaaDoorRows
import GoSem.ClaimSeven
namespace Go.Proofs.YtcdlalbmafipdaaDoor
namespace Rows

/-- THE TIED CARD OF 'watchfirelaw12.NflogEntries'. -/
def nflogEntriesCard : Claim7 := { stood := { row := nflogEntriesRow, standIns := [], harness := (true, "7a73e745f578167806565c2635eda9aa23e52328ca3912f9d1243324203ccaad"), looks := true }, kinds := [], alts := [], laidByText := true, laidKinds := [.data, .data, .data, .sentinel, .sentinel], laidTests := true, laidLooks := .later }
def NflogEntriesCardSaid : Prop := Claim7.holds Tryd.pinned (.plain (OpenSpec.ofChange nflogEntriesSpec)) nflogEntriesCard

/-- THE TIED CARD OF 'watchfirelaw12.NflogOfs'. -/
def nflogOfsCard : Claim7 := { stood := { row := nflogOfsRow, standIns := [], harness := (true, "7a73e745f578167806565c2635eda9aa23e52328ca3912f9d1243324203ccaad"), looks := true }, kinds := [], alts := [], laidByText := true, laidKinds := [.data, .data, .data, .sentinel, .sentinel], laidTests := true, laidLooks := .later }
def NflogOfsCardSaid : Prop := Claim7.holds Tryd.pinned (.plain (OpenSpec.ofChange nflogOfsSpec)) nflogOfsCard

/-- THE TIED CARD OF 'watchfirelaw12.NflogNeeds'. -/
def nflogNeedsCard : Claim7 := { stood := { row := nflogNeedsRow, standIns := [], harness := (true, "7a73e745f578167806565c2635eda9aa23e52328ca3912f9d1243324203ccaad"), looks := true }, kinds := [], alts := [], laidByText := true, laidKinds := [.data, .data, .data, .sentinel, .sentinel], laidTests := true, laidLooks := .later }
def NflogNeedsCardSaid : Prop := Claim7.holds Tryd.pinned (.plain (OpenSpec.ofChange nflogNeedsSpec)) nflogNeedsCard

/-- THE TIED CARD OF 'watchfirelaw12.NflogBack'. -/
def nflogBackCard : Claim7 := { stood := { row := nflogBackRow, standIns := [], harness := (true, "7a73e745f578167806565c2635eda9aa23e52328ca3912f9d1243324203ccaad"), looks := true }, kinds := [], alts := [], laidByText := true, laidKinds := [.data, .data, .data, .sentinel, .sentinel], laidTests := true, laidLooks := .later }
def NflogBackCardSaid : Prop := Claim7.holds Tryd.pinned (.plain (OpenSpec.ofChange nflogBackSpec)) nflogBackCard

/-- THE TIED CARD OF 'watchfirelaw12.NflogKeys'. -/
def nflogKeysCard : Claim7 := { stood := { row := nflogKeysRow, standIns := [], harness := (true, "7a73e745f578167806565c2635eda9aa23e52328ca3912f9d1243324203ccaad"), looks := true }, kinds := [], alts := [], laidByText := true, laidKinds := [.data, .data, .data, .sentinel, .sentinel], laidTests := true, laidLooks := .later }
def NflogKeysCardSaid : Prop := Claim7.holds Tryd.pinned (.plain (OpenSpec.ofChange nflogKeysSpec)) nflogKeysCard

/-- THE TIED CARD OF 'watchfirelaw12.NflogWaits'. -/
def nflogWaitsCard : Claim7 := { stood := { row := nflogWaitsRow, standIns := [], harness := (true, "7a73e745f578167806565c2635eda9aa23e52328ca3912f9d1243324203ccaad"), looks := true }, kinds := [], alts := [], laidByText := true, laidKinds := [.data, .data, .data, .sentinel, .sentinel], laidTests := true, laidLooks := .later }
def NflogWaitsCardSaid : Prop := Claim7.holds Tryd.pinned (.plain (OpenSpec.ofChange nflogWaitsSpec)) nflogWaitsCard

/-- THE SECOND FORM's CARD OF 'watchfirelaw12.NflogEntries'. -/
def nflogEntriesUptoCard : Claim7 := { stood := { row := nflogEntriesUptoRow, standIns := [], harness := (true, "7a73e745f578167806565c2635eda9aa23e52328ca3912f9d1243324203ccaad"), looks := true }, kinds := [], alts := [], laidByText := true, laidKinds := [.data, .data, .data, .sentinel, .sentinel], laidTests := true, laidLooks := .later }
def NflogEntriesUptoCardSaid : Prop := Claim7.holds Tryd.pinned (.plain (OpenSpec.upto nflogEntriesSpec)) nflogEntriesUptoCard

/-- THE SECOND FORM's CARD OF 'watchfirelaw12.NflogOfs'. -/
def nflogOfsUptoCard : Claim7 := { stood := { row := nflogOfsUptoRow, standIns := [], harness := (true, "7a73e745f578167806565c2635eda9aa23e52328ca3912f9d1243324203ccaad"), looks := true }, kinds := [], alts := [], laidByText := true, laidKinds := [.data, .data, .data, .sentinel, .sentinel], laidTests := true, laidLooks := .later }
def NflogOfsUptoCardSaid : Prop := Claim7.holds Tryd.pinned (.plain (OpenSpec.upto nflogOfsSpec)) nflogOfsUptoCard

/-- THE SECOND FORM's CARD OF 'watchfirelaw12.NflogNeeds'. -/
def nflogNeedsUptoCard : Claim7 := { stood := { row := nflogNeedsUptoRow, standIns := [], harness := (true, "7a73e745f578167806565c2635eda9aa23e52328ca3912f9d1243324203ccaad"), looks := true }, kinds := [], alts := [], laidByText := true, laidKinds := [.data, .data, .data, .sentinel, .sentinel], laidTests := true, laidLooks := .later }
def NflogNeedsUptoCardSaid : Prop := Claim7.holds Tryd.pinned (.plain (OpenSpec.upto nflogNeedsSpec)) nflogNeedsUptoCard

/-- THE SECOND FORM's CARD OF 'watchfirelaw12.NflogBack'. -/
def nflogBackUptoCard : Claim7 := { stood := { row := nflogBackUptoRow, standIns := [], harness := (true, "7a73e745f578167806565c2635eda9aa23e52328ca3912f9d1243324203ccaad"), looks := true }, kinds := [], alts := [], laidByText := true, laidKinds := [.data, .data, .data, .sentinel, .sentinel], laidTests := true, laidLooks := .later }
def NflogBackUptoCardSaid : Prop := Claim7.holds Tryd.pinned (.plain (OpenSpec.upto nflogBackSpec)) nflogBackUptoCard

/-- THE SECOND FORM's CARD OF 'watchfirelaw12.NflogKeys'. -/
def nflogKeysUptoCard : Claim7 := { stood := { row := nflogKeysUptoRow, standIns := [], harness := (true, "7a73e745f578167806565c2635eda9aa23e52328ca3912f9d1243324203ccaad"), looks := true }, kinds := [], alts := [], laidByText := true, laidKinds := [.data, .data, .data, .sentinel, .sentinel], laidTests := true, laidLooks := .later }
def NflogKeysUptoCardSaid : Prop := Claim7.holds Tryd.pinned (.plain (OpenSpec.upto nflogKeysSpec)) nflogKeysUptoCard

/-- THE SECOND FORM's CARD OF 'watchfirelaw12.NflogWaits'. -/
def nflogWaitsUptoCard : Claim7 := { stood := { row := nflogWaitsUptoRow, standIns := [], harness := (true, "7a73e745f578167806565c2635eda9aa23e52328ca3912f9d1243324203ccaad"), looks := true }, kinds := [], alts := [], laidByText := true, laidKinds := [.data, .data, .data, .sentinel, .sentinel], laidTests := true, laidLooks := .later }
def NflogWaitsUptoCardSaid : Prop := Claim7.holds Tryd.pinned (.plain (OpenSpec.upto nflogWaitsSpec)) nflogWaitsUptoCard
end Rows
end Go.Proofs.YtcdlalbmafipdaaDoor
