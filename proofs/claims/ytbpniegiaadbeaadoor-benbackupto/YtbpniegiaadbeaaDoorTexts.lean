/-
  An argument of type []string, opened.
-/
import Derived.Test.YtbpniegiaadbeaaDoorBulk
import Derived.Test.YtbpniegiaadbeaaDoorBack
import Derived.SliceStrings
namespace Go.Proofs.YtbpniegiaadbeaaDoor
open Go.ChangeShapes Go.WideShapes Go.ChangeAt Go.RowKit Go.Deep

theorem bulk_strs {H : Type} : ∀ (ss : List ByteArray), Rows.uptoBulkAll (strs (H := H) ss) = sizes ss + ss.length
  | [] => by simp [strs, Rows.uptoBulkAll, sizes]
  | s :: ss => by
    have ih := bulk_strs (H := H) ss
    have h3 : s.data.toList.length = s.size := rfl
    simp only [strs, sizes, List.map_cons, Rows.uptoBulkAll, Rows.uptoBulk, List.sum_cons, List.length_cons] at ih ⊢
    omega

theorem open_texts {H : Type} {enc : TypeId × Value → H} {W : World} {base : Nat} {sp : Nat → Bool} {held : Bool} {fuel : Nat} {a : Option Addr} {len cap : Nat} {x : DataW H × List MemPlace}
    (h : DataW.trod enc Tryd.prog W base sp held fuel 44 [.slice a len cap] = some x) :
    ∃ ss : List ByteArray, ss.length = len ∧ StrsAt W a ss ∧ (x.1 = .nil ∧ ss = [] ∨ ∃ elems spare, x.1 = .slice elems spare ∧ Rows.uptoBulkAll elems = sizes ss + ss.length) := by
  rcases open_strings Tryd.underlying44 Tryd.underlying9 cellsStr h with ⟨hcs, hx⟩ | ⟨p, len', cap', ss, hcs, _, hl, hm, hz, hx, hcell, hws⟩
  · simp only [List.cons.injEq, Value.slice.injEq, and_true] at hcs
    obtain ⟨rfl, rfl, rfl⟩ := hcs
    exact ⟨[], rfl, fun i hi => absurd hi (Nat.not_lt_zero _), .inl ⟨by rw [hx], rfl⟩⟩
  · simp only [List.cons.injEq, Value.slice.injEq, and_true] at hcs
    obtain ⟨rfl, rfl, rfl⟩ := hcs
    have hlen : len ≤ ss.length := by split at hz <;> omega
    refine ⟨ss.take len, by simp; omega, fun i hi => ?_, .inr ⟨_, _, by rw [hx], bulk_strs _⟩⟩
    have hi2 : i < len := by simp at hi; omega
    obtain ⟨b, o, s⟩ := p
    have h0 := hcell 0 (by omega)
    obtain rfl : s = none := by simpa [Addr.add] using World.cell?_spot h0
    have h1 := hcell i (by omega)
    rw [Go.WideShapes.add_plain] at h1
    refine ⟨b, o, rfl, ?_⟩
    rw [h1]
    simp [List.getD, show i < ss.length by omega]

end Go.Proofs.YtbpniegiaadbeaaDoor
