/-
  What the small calls of package label do: isDigit, isLetter, Name, checkParts, rise, Check. Pairs lie at an address, two cells each.
-/
import Derived.Test.YtdnpfmmkglgnjaaDoorRows
import Derived.Test.YtdnpfmmkglgnjaaDoorLPlain
import Derived.WalkKit
import Derived.WalkSpells
import Derived.WalkLawsBesides
import Derived.Lib.Hide
import Derived.OwnWalk
namespace Go.Proofs.YtdnpfmmkglgnjaaDoor
open Go.RowKit

theorem upto_succ {p : Nat → Prop} {k : Nat} (h : ∀ j, j < k → p j) (hk : p k) (j : Nat) (hj : j < k + 1) : p j := by
  rcases Nat.lt_succ_iff_lt_or_eq.1 hj with h1 | rfl
  · exact h j h1
  · exact hk

end Go.Proofs.YtdnpfmmkglgnjaaDoor
