/-
  An argument of type []string, opened; a list of pairs that is not there has no room.
-/
import Derived.Test.YtdnpfmmkglgnjaaDoorLOpen
import Derived.Test.YtdnpfmmkglgnjaaDoorLPick
import Derived.SliceStrings
namespace Go.Proofs.YtdnpfmmkglgnjaaDoor
open Go.ChangeShapes Go.WideShapes Go.ChangeAt Go.RowKit Go.Deep

theorem open_pairs_nil {H : Type} {enc : TypeId × Value → H} {W : World} {base : Nat} {sp : Nat → Bool} {held : Bool} {fuel : Nat} {a : Option Addr} {len cap : Nat} {x : DataW H × List MemPlace}
    (h : DataW.trod enc Tryd.prog W base sp held fuel 22 [.slice a len cap] = some x) : a = none → cap = 0 := by
  rintro rfl
  rcases open_slice_pairs Tryd.underlying22 Tryd.underlying41 cellsPair rfl rfl (by kernel_rfl) (by kernel_rfl) h with ⟨hcs, hx⟩ | ⟨q, len', cap', m, n, V0, V1, D0, D1, P0, P1, hcs, _⟩
  · simp only [List.cons.injEq, Value.slice.injEq, and_true] at hcs
    exact hcs.2.2
  · simp at hcs


end Go.Proofs.YtdnpfmmkglgnjaaDoor
