/-
  Arguments of layer 7, opened: lists of numbers of two bytes.
-/
import Derived.Test.YtinohakjemjkhaaDoorAFires
import Derived.Test.YtinohakjemjkhaaDoorLOpen
namespace Go.Proofs.YtinohakjemjkhaaDoor
open Go.ChangeShapes Go.WideShapes Go.ChangeAt Go.RowKit Go.Deep

theorem open_u16s {H : Type} {enc : TypeId × Value → H} {W : World} {base : Nat} {sp : Nat → Bool} {held : Bool} {fuel : Nat} {a : Option Addr} {len cap : Nat} {x : DataW H × List MemPlace}
    (h : DataW.trod enc Tryd.prog W base sp held fuel 54 [.slice a len cap] = some x) :
    ∃ zs : List Int, zs.length = len ∧ U16At W a zs ∧ zs.length ≤ 9223372036854775807 := by
  rcases open_ints Tryd.underlying54 Tryd.underlying56 (by kernel_rfl) h with ⟨hcs, hx⟩ | ⟨p, len', cap', zs, hcs, _, hl, hm, hz, hx, hcell, hwz⟩
  · simp only [List.cons.injEq, Value.slice.injEq, and_true] at hcs
    obtain ⟨rfl, rfl, rfl⟩ := hcs
    exact ⟨[], rfl, fun hi => absurd hi (Nat.not_lt_zero _), by simp⟩
  · simp only [List.cons.injEq, Value.slice.injEq, and_true] at hcs
    obtain ⟨rfl, rfl, rfl⟩ := hcs
    have hlen : len ≤ zs.length := by split at hz <;> omega
    have kM : maxLen = 9223372036854775807 := rfl
    refine ⟨zs.take len, by simp; omega, fun hn => ?_, by simp; omega⟩
    obtain ⟨b, o, s⟩ := p
    have h0 := hcell 0 (by simp at hn; omega)
    obtain rfl : s = none := by simpa [Addr.add] using World.cell?_spot h0
    refine ⟨b, o, rfl, World.block_lt_of_cell? W _ h0, fun i hi => ?_⟩
    have hi2 : i < len := by simp at hi; omega
    have h1 := hcell i (by omega)
    rw [Go.WideShapes.add_plain] at h1
    refine ⟨by rw [h1]; simp [List.getD, show i < zs.length by omega], ?_⟩
    have hw := hwz _ (List.mem_of_mem_take (List.getElem_mem hi))
    have h3 : IntKind.u16.min = 0 := rfl
    have h2 : IntKind.u16.max = 65535 := rfl
    simp only [Lit.wf, Bool.and_eq_true, decide_eq_true_eq] at hw
    omega

end Go.Proofs.YtinohakjemjkhaaDoor
