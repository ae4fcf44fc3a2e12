/-
  DERIVED. GIVEN WITH THE SEED: THE CARDS: each row of YtkbonifbnbdbkaaDoorRows.lean that lists a variable, with what it lists TIED to the program's text (the seventh form; the later family's looks); each row that meets fmt, with fmt's text TOLD by the authors' own Lean function (tested against real Go, not proved from fmt's source: count such statements apart). THE CARD IS WHAT COUNTS. Prove the row's statement (the work); the ties are given (YtkbonifbnbdbkaaDoorTie.lean); close each card by the builder's one call (the guide's Derived/Test/ToyasCard.lean, 'card_holds'). Laid BY PROGRAM, IN A SANDBOX (cutbox-door.mjs). By AI agents, Wed Nov 11 2026. No macro, syntax, notation, axiom, sorry.
-/
import Derived.Test.YtkbonifbnbdbkaaDoorRows
import GoSem.ClaimSeven
namespace Go.Proofs.YtkbonifbnbdbkaaDoor
namespace Rows

/-- THE TIED CARD OF 'watchfirelaw14.QueueOften'. -/
def queueOftenCard : Claim7 := { stood := { row := queueOftenRow, standIns := [], harness := (true, "2fc3b729b501be8da27a6a59a9a0031ae13c25180502bfc3467801a5c90d515e"), looks := false }, kinds := [], alts := [], laidByText := true, laidKinds := [.data, .data, .data], laidTests := true, laidLooks := .later }
def QueueOftenCardSaid : Prop := Claim7.holds Tryd.pinned (.plain (OpenSpec.ofChange queueOftenSpec)) queueOftenCard

/-- THE TIED CARD OF 'watchfirelaw14.QueueRoom'. -/
def queueRoomCard : Claim7 := { stood := { row := queueRoomRow, standIns := [], harness := (true, "2fc3b729b501be8da27a6a59a9a0031ae13c25180502bfc3467801a5c90d515e"), looks := false }, kinds := [], alts := [], laidByText := true, laidKinds := [.data, .data, .data], laidTests := true, laidLooks := .later }
def QueueRoomCardSaid : Prop := Claim7.holds Tryd.pinned (.plain (OpenSpec.ofChange queueRoomSpec)) queueRoomCard

/-- THE TIED CARD OF 'watchfirelaw14.QueueKeys'. -/
def queueKeysCard : Claim7 := { stood := { row := queueKeysRow, standIns := [], harness := (true, "2fc3b729b501be8da27a6a59a9a0031ae13c25180502bfc3467801a5c90d515e"), looks := false }, kinds := [], alts := [], laidByText := true, laidKinds := [.data, .data, .data], laidTests := true, laidLooks := .later }
def QueueKeysCardSaid : Prop := Claim7.holds Tryd.pinned (.plain (OpenSpec.ofChange queueKeysSpec)) queueKeysCard

/-- THE TIED CARD OF 'watchfirelaw14.QueueLeast'. -/
def queueLeastCard : Claim7 := { stood := { row := queueLeastRow, standIns := [], harness := (true, "2fc3b729b501be8da27a6a59a9a0031ae13c25180502bfc3467801a5c90d515e"), looks := false }, kinds := [], alts := [], laidByText := true, laidKinds := [.data, .data, .data], laidTests := true, laidLooks := .later }
def QueueLeastCardSaid : Prop := Claim7.holds Tryd.pinned (.plain (OpenSpec.ofChange queueLeastSpec)) queueLeastCard

/-- THE SECOND FORM's CARD OF 'watchfirelaw14.QueueOften'. -/
def queueOftenUptoCard : Claim7 := { stood := { row := queueOftenUptoRow, standIns := [], harness := (true, "2fc3b729b501be8da27a6a59a9a0031ae13c25180502bfc3467801a5c90d515e"), looks := false }, kinds := [], alts := [], laidByText := true, laidKinds := [.data, .data, .data], laidTests := true, laidLooks := .later }
def QueueOftenUptoCardSaid : Prop := Claim7.holds Tryd.pinned (.plain (OpenSpec.upto queueOftenSpec)) queueOftenUptoCard

/-- THE SECOND FORM's CARD OF 'watchfirelaw14.QueueRoom'. -/
def queueRoomUptoCard : Claim7 := { stood := { row := queueRoomUptoRow, standIns := [], harness := (true, "2fc3b729b501be8da27a6a59a9a0031ae13c25180502bfc3467801a5c90d515e"), looks := false }, kinds := [], alts := [], laidByText := true, laidKinds := [.data, .data, .data], laidTests := true, laidLooks := .later }
def QueueRoomUptoCardSaid : Prop := Claim7.holds Tryd.pinned (.plain (OpenSpec.upto queueRoomSpec)) queueRoomUptoCard

/-- THE SECOND FORM's CARD OF 'watchfirelaw14.QueueKeys'. -/
def queueKeysUptoCard : Claim7 := { stood := { row := queueKeysUptoRow, standIns := [], harness := (true, "2fc3b729b501be8da27a6a59a9a0031ae13c25180502bfc3467801a5c90d515e"), looks := false }, kinds := [], alts := [], laidByText := true, laidKinds := [.data, .data, .data], laidTests := true, laidLooks := .later }
def QueueKeysUptoCardSaid : Prop := Claim7.holds Tryd.pinned (.plain (OpenSpec.upto queueKeysSpec)) queueKeysUptoCard

/-- THE SECOND FORM's CARD OF 'watchfirelaw14.QueueLeast'. -/
def queueLeastUptoCard : Claim7 := { stood := { row := queueLeastUptoRow, standIns := [], harness := (true, "2fc3b729b501be8da27a6a59a9a0031ae13c25180502bfc3467801a5c90d515e"), looks := false }, kinds := [], alts := [], laidByText := true, laidKinds := [.data, .data, .data], laidTests := true, laidLooks := .later }
def QueueLeastUptoCardSaid : Prop := Claim7.holds Tryd.pinned (.plain (OpenSpec.upto queueLeastSpec)) queueLeastUptoCard
end Rows
end Go.Proofs.YtkbonifbnbdbkaaDoor
