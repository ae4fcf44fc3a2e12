/-
  What the rows' shorter list of package-level variables gives the walks of layer 9, and a start that meets it.
-/
import Derived.Test.YtjkhonelidhakaaDoorVars
import Derived.Test.YtjkhonelidhakaaDoorE4
namespace Go.Proofs.YtjkhonelidhakaaDoor
open Go.ChangeShapes Go.WideShapes Go.ChangeAt Go.RowKit

/-- The list of the rows that read nothing. -/
def laidS : List (String × DataW Unit) := [("math/bits.deBruijn32tab", Rows.laid_math_bits_deBruijn32tab), ("math/bits.deBruijn64tab", Rows.laid_math_bits_deBruijn64tab), ("internal/strconv.uint64pow10", Rows.laid_internal_strconv_uint64pow10)]

theorem tab_of_laid {W : World} (h : laidMetH Tryd.prog laidS W) : TabE W.heap.size W := by
  rw [Go.MakeChecks.laidMetH_plain _ _ _ (by kernel_rfl)] at h
  have h3 := h.tail.tail
  have htab : Lib.TabIs Tryd.prog W "internal/strconv.uint64pow10" .u64 Lib.pow10Tab :=
    Lib.tabIs_of_head gPow gPowT Tryd.underlying90 Tryd.underlying72 cellsU64 cellsPow h3
  exact fun w' hb => Lib.tabBelow_of_tabIs htab w' hb

theorem door_metS (os : Os) (args : Array Value) : laidMet Tryd.prog laidS ((World.doorLaid Tryd.prog 62 os).forCall (fun _ _ => 0) ⟨#[], args, []⟩).memory :=
  laidMet_of_run' 8 (by kernel_rfl) (by kernel_rfl)

end Go.Proofs.YtjkhonelidhakaaDoor
