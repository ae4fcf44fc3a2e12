/-
  What the rows' shorter list of package-level variables gives the walks, and a start that meets it.
-/
import Derived.Test.YtdnpfmmkglgnjabDoorVars
import Derived.Test.YtdnpfmmkglgnjabDoorRow
namespace Go.Proofs.YtdnpfmmkglgnjabDoor
open Go.ChangeShapes Go.WideShapes Go.ChangeAt Go.RowKit

/-- The list of the rows that read no key. -/
def laidS : List (String × DataW Unit) := [("math/bits.deBruijn32tab", Rows.laid_math_bits_deBruijn32tab), ("math/bits.deBruijn64tab", Rows.laid_math_bits_deBruijn64tab), ("internal/strconv.uint64pow10", Rows.laid_internal_strconv_uint64pow10)]

theorem tab_of_laid {W : World} (h : laidMetH Tryd.prog laidS W) : TabOk W.heap.size W := by
  rw [Go.MakeChecks.laidMetH_plain _ _ _ (by kernel_rfl)] at h
  have h3 := h.tail.tail
  have htab : Lib.TabIs Tryd.prog W "internal/strconv.uint64pow10" .u64 Lib.pow10Tab :=
    Lib.tabIs_of_head gPow gPowT Tryd.underlying115 Tryd.underlying85 cellsU64 cellsPow h3
  exact fun w' hb => Lib.tabBelow_of_tabIs htab w' hb

theorem door_metS (os : Os) (args : Array Value) : laidMet Tryd.prog laidS ((World.doorLaid Tryd.prog 62 os).forCall (fun _ _ => 0) ⟨#[], args, []⟩).memory :=
  laidMet_of_run' 8 (by kernel_rfl) (by kernel_rfl)

end Go.Proofs.YtdnpfmmkglgnjabDoor
