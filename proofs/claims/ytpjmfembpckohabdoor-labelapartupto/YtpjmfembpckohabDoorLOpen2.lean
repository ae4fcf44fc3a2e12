/-
  An argument of type []string, opened; a list of pairs that is not there has no room.
-/
import Derived.Test.YtpjmfembpckohabDoorLOpen
import Derived.Test.YtpjmfembpckohabDoorLPick
import Derived.SliceStrings
namespace Go.Proofs.YtpjmfembpckohabDoor
open Go.ChangeShapes Go.WideShapes Go.ChangeAt Go.RowKit Go.Deep

theorem open_pairs_nil {H : Type} {enc : TypeId × Value → H} {W : World} {base : Nat} {sp : Nat → Bool} {held : Bool} {fuel : Nat} {a : Option Addr} {len cap : Nat} {x : DataW H × List MemPlace}
    (h : DataW.trod enc Tryd.prog W base sp held fuel 22 [.slice a len cap] = some x) : a = none → cap = 0 := by
  rintro rfl
  rcases open_slice_pairs Tryd.underlying22 Tryd.underlying25 cellsPair rfl rfl (by kernel_rfl) (by kernel_rfl) h with ⟨hcs, hx⟩ | ⟨q, len', cap', m, n, V0, V1, D0, D1, P0, P1, hcs, _⟩
  · simp only [List.cons.injEq, Value.slice.injEq, and_true] at hcs
    exact hcs.2.2
  · simp at hcs

theorem open_names {H : Type} {enc : TypeId × Value → H} {W : World} {base : Nat} {sp : Nat → Bool} {held : Bool} {fuel : Nat} {a : Option Addr} {len cap : Nat} {x : DataW H × List MemPlace}
    (h : DataW.trod enc Tryd.prog W base sp held fuel 23 [.slice a len cap] = some x) :
    ∃ ss : List ByteArray, ss.length = len ∧ TextsAt W a ss ∧ len ≤ maxLen ∧ (x.1 = .nil ∧ ss = [] ∨ ∃ elems spare, x.1 = .slice elems spare ∧ elems.length = ss.length) := by
  rcases open_strings Tryd.underlying23 Tryd.underlying9 (by kernel_rfl) h with ⟨hcs, hx⟩ | ⟨p, len', cap', ss, hcs, _, hl, hm, hz, hx, hcell, hws⟩
  · simp only [List.cons.injEq, Value.slice.injEq, and_true] at hcs
    obtain ⟨rfl, rfl, rfl⟩ := hcs
    exact ⟨[], rfl, fun hi => absurd hi (Nat.not_lt_zero _), Nat.zero_le _, .inl ⟨by rw [hx], rfl⟩⟩
  · simp only [List.cons.injEq, Value.slice.injEq, and_true] at hcs
    obtain ⟨rfl, rfl, rfl⟩ := hcs
    have hlen : len ≤ ss.length := by split at hz <;> omega
    refine ⟨ss.take len, by simp; omega, fun hi => ?_, by omega, .inr ⟨_, _, by rw [hx], by simp [strs]⟩⟩
    have hi2 : 0 < len := by simp at hi; omega
    obtain ⟨b, o, s⟩ := p
    have h0 := hcell 0 (by omega)
    obtain rfl : s = none := by simpa [Addr.add] using World.cell?_spot h0
    refine ⟨b, o, rfl, fun i hi => ?_⟩
    have hi3 : i < len := by simp at hi; omega
    have h1 := hcell i (by omega)
    rw [Go.WideShapes.add_plain] at h1
    rw [h1]
    simp [List.getD, show i < ss.length by omega]

end Go.Proofs.YtpjmfembpckohabDoor
