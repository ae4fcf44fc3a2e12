/-
  What the row's list of package-level variables gives the walks, and a start that meets it; how much the arguments hold in the second form.
-/
import Derived.Test.YtfllfmdopfeecabGreatDoorXTz
import Derived.ProofKit
import Derived.OpenShut
import Derived.LaidMore
import Derived.LaidHandle
import Derived.Stop.LaidErr
import Derived.Stop.Joined
import Derived.Lib.LaidTab
import Derived.MakeChecks
import Derived.Deep.SlicePairs
import Derived.SizedLaws
namespace Go.Proofs.YtfllfmdopfeecabGreatDoor
open Go.ChangeShapes Go.WideShapes Go.ChangeAt Go.RowKit

theorem own : ownKnob Tryz.prog.godebug = none := by kernel_rfl
theorem laidOut : laidOutB Tryz.prog = true := by kernel_rfl
theorem gTab : Tryz.prog.globalNamed "math/bits.deBruijn64tab" = some 4 := by kernel_rfl
theorem gTabT : (Tryz.prog.globals[4]?).map (·.type) = some 189 := by kernel_rfl
theorem cellsTab : Tryz.prog.cellsOf 189 = 64 := by kernel_rfl
theorem cellsU8 : Tryz.prog.cellsOf 5 = 1 := by kernel_rfl

/-- The list that every row of this seat bears. -/
def laidL : List (String × DataW Unit) := [("math/bits.deBruijn64tab", Rows.laid_math_bits_deBruijn64tab)]

theorem tab_of_laid {W : World} (h : laidMetH Tryz.prog laidL W) : TabW W := by
  rw [Go.MakeChecks.laidMetH_plain _ _ _ (by kernel_rfl)] at h
  have htab : Lib.TabIs Tryz.prog W "math/bits.deBruijn64tab" .u8 (Lib.deBruijn64tab.map fun (n : Nat) => (n : Int)) :=
    Lib.tabIs_of_head gTab gTabT Tryz.underlying189 Tryz.underlying5 cellsU8 cellsTab h
  intro j hj
  unfold Lib.TabIs World.var? at htab
  simp only [gTab, Option.bind_some] at htab
  split at htab
  · rename_i cs t fr hb
    injection htab with htab
    subst htab
    rw [cell_heap' hb]
    have hl : j < Lib.deBruijn64tab.length := hj
    simp [List.getD, hl]
  · cases htab

theorem door_met (os : Os) (args : Array Value) : laidMet Tryz.prog laidL ((World.doorLaid Tryz.prog 62 os).forCall (fun _ _ => 0) ⟨#[], args, []⟩).memory :=
  laidMet_of_run' 8 (by kernel_rfl) (by kernel_rfl)

theorem bulk_pos {H : Type} (d : DataW H) : 1 ≤ Rows.uptoBulk d := by
  cases d with
  | lit l => cases l <;> simp [Rows.uptoBulk]
  | _ => simp [Rows.uptoBulk]
theorem bulk_mem {H : Type} {d : DataW H} : ∀ {ds : List (DataW H)}, d ∈ ds → Rows.uptoBulk d ≤ Rows.uptoBulkAll ds
  | x :: ds, h => by
    simp only [Rows.uptoBulkAll]
    rcases List.mem_cons.1 h with rfl | h
    · omega
    · have := bulk_mem h; omega
theorem small_bound {H : Type} {ds : List (DataW H)} (h : Rows.uptoSmall H ds = true) : Rows.uptoBulkAll ds ≤ 1048576 := of_decide_eq_true h
theorem string_bound {H : Type} {ds : List (DataW H)} {bs : List UInt8} (h : Rows.uptoBulkAll ds ≤ 1048576) (hm : DataW.lit (.string bs) ∈ ds) : bs.length ≤ 1048576 := by
  have h1 := bulk_mem hm
  simp only [Rows.uptoBulk] at h1
  omega

end Go.Proofs.YtfllfmdopfeecabGreatDoor
