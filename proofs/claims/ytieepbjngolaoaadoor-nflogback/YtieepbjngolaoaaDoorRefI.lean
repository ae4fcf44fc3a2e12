/-
  Int of the reference's reader, walked.
-/
import Derived.Test.YtieepbjngolaoaaDoorRef6
namespace Go.Proofs.YtieepbjngolaoaaDoor
open Go.RowKit

/-- A number or none, with what is left: as the reader tells it. -/
abbrev refInts (w w' : World) (a0 : Option Addr) (r : Ending) (res : List UInt8 × Int × Int) : Prop :=
  (∃ a c, r = .returned (.tuple #[.agg #[.slice a res.1.length c, .int .i64 res.2.1], .int .i64 res.2.2]) ∧ SrcAt w' (.slice a res.1.length c) res.1 ∧ res.1.length ≤ c ∧ ∀ q, a = some q → ∃ q0, a0 = some q0 ∧ q.block = q0.block) ∧ Below w.heap.size w w'

theorem ints_stop {w w' : World} {r : Ending} {E : Int} (h : r = .returned (.tuple #[.agg #[.slice none 0 0, .int .i64 E], .int .i64 0]) ∧ Below w.heap.size w w') {res : List UInt8 × Int × Int} {a0 : Option Addr} (e : res = ([], E, 0)) : refInts w w' a0 r res := by
  subst e
  exact ⟨⟨none, 0, h.1, .inl ⟨rfl, rfl⟩, Nat.le_refl _, fun q hq => by cases hq⟩, h.2⟩

end Go.Proofs.YtieepbjngolaoaaDoor
