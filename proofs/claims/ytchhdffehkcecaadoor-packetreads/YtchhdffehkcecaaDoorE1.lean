/-
  What the small calls of package entry do: numbers and texts compared, the first that differs.
-/
import Derived.Test.YtchhdffehkcecaaDoorPut2
import Derived.Test.YtchhdffehkcecaaDoorRows
import Derived.Lib.Hide
import Derived.WalkKit
import Derived.WalkSpells
import Derived.WalkLawsBesides
import Derived.Lib.Slices
import Derived.Lib.AppendStr
import Derived.OwnWalk
import Derived.BigCall
namespace Go.Proofs.YtchhdffehkcecaaDoor
open Go.RowKit

theorem cellE {w : World} {b j : Nat} {cs : Array Value} {t : TypeId} {fr : Nat × Nat} (h : w.heap[b]? = some (.cells cs t fr)) : w.cell? ⟨b, j, none⟩ = cs[j]? := by simp [World.cell?, h]
theorem newE (w : World) (o : Obj) : (w.alloc o).heap[w.heap.size]? = some o := by
  show (w.heap.push o)[w.heap.size]? = some o
  exact Array.getElem?_push_size
theorem ltE {w : World} {b : Nat} {o : Obj} (h : w.heap[b]? = some o) : b < w.heap.size := (Array.getElem?_eq_some_iff.1 h).1

/-- Numbers compared. -/
def cmpIE (x y : Int) : Int := if x < y then -1 else if y < x then 1 else 0

/-- Whether the first number that is not 0 is above 0. -/
def firstP : List Int → Bool
  | [] => false
  | x :: l => if x = 0 then firstP l else decide (0 < x)

end Go.Proofs.YtchhdffehkcecaaDoor
