/-
  What Read does: the pairs that may be and have this key, or ErrForm.
-/
import Derived.Test.YtdnpfmmkglgnjaaDoorLRPlain
import Derived.Test.YtdnpfmmkglgnjaaDoorLPick
namespace Go.Proofs.YtdnpfmmkglgnjaaDoor
open Go.RowKit

theorem bytes_of_string (w : World) (s : ByteArray) : ∃ a c w', (convert 9 37 (.string s)).run Tryd.prog w = .ok (.slice (some a) s.size c) w' ∧ SrcAt w' (.slice (some a) s.size c) s.data.toList ∧ Below w.heap.size w w' := by
  refine ⟨⟨w.heap.size, 0, none⟩, _, _, Lib.run_convert_string_bytes w 9 37 5 s Tryd.underlying9 Tryd.underlying37 Tryd.underlying5, .inr ⟨_, _, rfl, fun i hi => ?_⟩, Lib.bytesWorld_below _ _ _⟩
  rw [Go.WideShapes.add_plain, Nat.zero_add, Lib.bytesWorld_cell w 5 s i (by show i < s.data.size; simpa using hi)]
  rw [List.getD_eq_getElem?_getD, List.getElem?_eq_getElem hi]
  rfl

theorem own_above {w : World} {B rb : Nat} {v : Value} {ps : List Pr} (h : OwnP w B v ps) (hr : rb < B) : v.ownBlock = none ∨ v.ownBlock ≠ some rb := by
  refine .inr fun e => ?_
  have := (World.ownsRow.lt h rb e).1
  omega

theorem OwnP.le {w : World} {B B' : Nat} {v : Value} {ps : List Pr} (h : OwnP w B v ps) (hB : B' ≤ B) : OwnP w B' v ps :=
  ⟨h.1, h.2.imp id fun ⟨g, cap, cur, h1, h2, h3⟩ => ⟨g, cap, cur, h1, Nat.le_trans hB h2, h3⟩⟩

/-- Read's answer: the pairs, or none. -/
def ReadAns (w w' : World) (key : List UInt8) (e : Ending) : Prop :=
  (∃ a c, ∃ ps : List Pr, e = .returned (.tuple #[.slice a ps.length c, .int .i64 0]) ∧ OwnP w' w.heap.size (.slice a ps.length c) ps ∧ checkE ps = 0 ∧ key = keyL ps) ∨
  (e = .returned (.tuple #[.slice none 0 0, .int .i64 4]) ∧ ∀ qs, checkE qs = 0 → key ≠ keyL qs)

end Go.Proofs.YtdnpfmmkglgnjaaDoor
