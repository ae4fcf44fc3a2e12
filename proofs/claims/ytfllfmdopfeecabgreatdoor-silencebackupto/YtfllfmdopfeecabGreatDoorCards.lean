/-
  DERIVED. GIVEN WITH THE SEED: THE CARDS: each row of YtfllfmdopfeecabGreatDoorRows.lean that lists a variable, with what it lists TIED to the program's text (the seventh form; the later family's looks); each row that meets fmt, with fmt's text TOLD by the authors' own Lean function (tested against real Go, not proved from fmt's source: count such statements apart). THE CARD IS WHAT COUNTS. Prove the row's statement (the work); the ties are given (YtfllfmdopfeecabGreatDoorTie.lean); close each card by the builder's one call (the guide's Derived/Test/ToyasCard.lean, 'card_holds'). Laid BY PROGRAM, IN A SANDBOX (cutbox-door.mjs). By AI agents, Wed Nov 11 2026. No macro, syntax, notation, axiom, sorry.
-/
import Derived.Test.YtfllfmdopfeecabGreatDoorRows
import GoSem.ClaimSeven
namespace Go.Proofs.YtfllfmdopfeecabGreatDoor
namespace Rows

/-- THE TIED CARD OF 'watchfirelaw11.SilenceOfs'. -/
def silenceOfsCard : Claim7 := { stood := { row := silenceOfsRow, standIns := [], harness := (true, "a55e9e34d3f0c8344ef0a67d190a6742b0662c1a0d2dc3aa7b7e44f0ec5d5351"), looks := true }, kinds := [], alts := [], laidByText := true, laidKinds := [.data, .data, .data, .sentinel, .sentinel], laidTests := true, laidLooks := .later }
def SilenceOfsCardSaid : Prop := Claim7.holds Tryz.pinned (.plain (OpenSpec.ofChange silenceOfsSpec)) silenceOfsCard

/-- THE TIED CARD OF 'watchfirelaw11.SilenceActives'. -/
def silenceActivesCard : Claim7 := { stood := { row := silenceActivesRow, standIns := [], harness := (true, "a55e9e34d3f0c8344ef0a67d190a6742b0662c1a0d2dc3aa7b7e44f0ec5d5351"), looks := true }, kinds := [], alts := [], laidByText := true, laidKinds := [.data, .data, .data, .sentinel, .sentinel], laidTests := true, laidLooks := .later }
def SilenceActivesCardSaid : Prop := Claim7.holds Tryz.pinned (.plain (OpenSpec.ofChange silenceActivesSpec)) silenceActivesCard

/-- THE TIED CARD OF 'watchfirelaw11.SilenceBack'. -/
def silenceBackCard : Claim7 := { stood := { row := silenceBackRow, standIns := [], harness := (true, "a55e9e34d3f0c8344ef0a67d190a6742b0662c1a0d2dc3aa7b7e44f0ec5d5351"), looks := true }, kinds := [], alts := [], laidByText := true, laidKinds := [.data, .data, .data, .sentinel, .sentinel], laidTests := true, laidLooks := .later }
def SilenceBackCardSaid : Prop := Claim7.holds Tryz.pinned (.plain (OpenSpec.ofChange silenceBackSpec)) silenceBackCard

/-- THE TIED CARD OF 'watchfirelaw11.SilenceEnds'. -/
def silenceEndsCard : Claim7 := { stood := { row := silenceEndsRow, standIns := [], harness := (true, "a55e9e34d3f0c8344ef0a67d190a6742b0662c1a0d2dc3aa7b7e44f0ec5d5351"), looks := true }, kinds := [], alts := [], laidByText := true, laidKinds := [.data, .data, .data, .sentinel, .sentinel], laidTests := true, laidLooks := .later }
def SilenceEndsCardSaid : Prop := Claim7.holds Tryz.pinned (.plain (OpenSpec.ofChange silenceEndsSpec)) silenceEndsCard

/-- THE TIED CARD OF 'watchfirelaw11.SilenceSome'. -/
def silenceSomeCard : Claim7 := { stood := { row := silenceSomeRow, standIns := [], harness := (true, "a55e9e34d3f0c8344ef0a67d190a6742b0662c1a0d2dc3aa7b7e44f0ec5d5351"), looks := true }, kinds := [], alts := [], laidByText := true, laidKinds := [.data, .data, .data, .sentinel, .sentinel], laidTests := true, laidLooks := .later }
def SilenceSomeCardSaid : Prop := Claim7.holds Tryz.pinned (.plain (OpenSpec.ofChange silenceSomeSpec)) silenceSomeCard

/-- THE SECOND FORM's CARD OF 'watchfirelaw11.SilenceOfs'. -/
def silenceOfsUptoCard : Claim7 := { stood := { row := silenceOfsUptoRow, standIns := [], harness := (true, "a55e9e34d3f0c8344ef0a67d190a6742b0662c1a0d2dc3aa7b7e44f0ec5d5351"), looks := true }, kinds := [], alts := [], laidByText := true, laidKinds := [.data, .data, .data, .sentinel, .sentinel], laidTests := true, laidLooks := .later }
def SilenceOfsUptoCardSaid : Prop := Claim7.holds Tryz.pinned (.plain (OpenSpec.upto silenceOfsSpec)) silenceOfsUptoCard

/-- THE SECOND FORM's CARD OF 'watchfirelaw11.SilenceActives'. -/
def silenceActivesUptoCard : Claim7 := { stood := { row := silenceActivesUptoRow, standIns := [], harness := (true, "a55e9e34d3f0c8344ef0a67d190a6742b0662c1a0d2dc3aa7b7e44f0ec5d5351"), looks := true }, kinds := [], alts := [], laidByText := true, laidKinds := [.data, .data, .data, .sentinel, .sentinel], laidTests := true, laidLooks := .later }
def SilenceActivesUptoCardSaid : Prop := Claim7.holds Tryz.pinned (.plain (OpenSpec.upto silenceActivesSpec)) silenceActivesUptoCard

/-- THE SECOND FORM's CARD OF 'watchfirelaw11.SilenceBack'. -/
def silenceBackUptoCard : Claim7 := { stood := { row := silenceBackUptoRow, standIns := [], harness := (true, "a55e9e34d3f0c8344ef0a67d190a6742b0662c1a0d2dc3aa7b7e44f0ec5d5351"), looks := true }, kinds := [], alts := [], laidByText := true, laidKinds := [.data, .data, .data, .sentinel, .sentinel], laidTests := true, laidLooks := .later }
def SilenceBackUptoCardSaid : Prop := Claim7.holds Tryz.pinned (.plain (OpenSpec.upto silenceBackSpec)) silenceBackUptoCard

/-- THE SECOND FORM's CARD OF 'watchfirelaw11.SilenceEnds'. -/
def silenceEndsUptoCard : Claim7 := { stood := { row := silenceEndsUptoRow, standIns := [], harness := (true, "a55e9e34d3f0c8344ef0a67d190a6742b0662c1a0d2dc3aa7b7e44f0ec5d5351"), looks := true }, kinds := [], alts := [], laidByText := true, laidKinds := [.data, .data, .data, .sentinel, .sentinel], laidTests := true, laidLooks := .later }
def SilenceEndsUptoCardSaid : Prop := Claim7.holds Tryz.pinned (.plain (OpenSpec.upto silenceEndsSpec)) silenceEndsUptoCard

/-- THE SECOND FORM's CARD OF 'watchfirelaw11.SilenceSome'. -/
def silenceSomeUptoCard : Claim7 := { stood := { row := silenceSomeUptoRow, standIns := [], harness := (true, "a55e9e34d3f0c8344ef0a67d190a6742b0662c1a0d2dc3aa7b7e44f0ec5d5351"), looks := true }, kinds := [], alts := [], laidByText := true, laidKinds := [.data, .data, .data, .sentinel, .sentinel], laidTests := true, laidLooks := .later }
def SilenceSomeUptoCardSaid : Prop := Claim7.holds Tryz.pinned (.plain (OpenSpec.upto silenceSomeSpec)) silenceSomeUptoCard
end Rows
end Go.Proofs.YtfllfmdopfeecabGreatDoor
