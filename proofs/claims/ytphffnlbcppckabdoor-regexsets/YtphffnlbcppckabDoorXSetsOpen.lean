/-
  How the arguments of RegexSets are opened: bytes, and a byte.
-/
import Derived.Test.YtphffnlbcppckabDoorXVars
import Derived.Test.YtphffnlbcppckabDoorXSets
namespace Go.Proofs.YtphffnlbcppckabDoor
open Go.ChangeShapes Go.WideShapes Go.ChangeAt Go.RowKit Go.Deep

/-- An argument of type []byte. -/
theorem open_bytesIn {H : Type} {enc : TypeId × Value → H} {W : World} {base : Nat} {sp : Nat → Bool} {held : Bool} {fuel : Nat} {a0 : Option Addr} {len0 cap0 : Nat} {x : DataW H × List MemPlace}
    (h : DataW.trod enc Tryd.prog W base sp held fuel 29 [.slice a0 len0 cap0] = some x) :
    ∃ l : List UInt8, len0 = l.length ∧ BytesIn W a0 l ∧ l.length ≤ 9223372036854775807 := by
  rcases open_ints Tryd.underlying29 Tryd.underlying5 cellsU8 h with ⟨hcs, hx⟩ | ⟨a, len, cap, zs, hcs, _, hl, hm, hz, hx, hcell, hwz⟩
  · simp only [List.cons.injEq, and_true, Value.slice.injEq] at hcs
    exact ⟨[], hcs.2.1, (fun i hi => by cases hi), by simp⟩
  · simp only [List.cons.injEq, and_true, Value.slice.injEq] at hcs
    obtain ⟨rfl, rfl, rfl⟩ := hcs
    have hlen : len0 ≤ zs.length := by split at hz <;> omega
    have e : (Lib.bytesOf (zs.take len0)).length = len0 := by simp [Lib.bytesOf]; omega
    refine ⟨Lib.bytesOf (zs.take len0), e.symm, fun i hi => ⟨a, rfl, ?_⟩, ?_⟩
    · have hi2 : i < len0 := by omega
      rw [hcell i (by omega)]
      have hw := hwz (zs[i]'(by omega)) (List.getElem_mem _)
      have h1 : IntKind.u8.min = 0 := rfl
      have h2 : IntKind.u8.max = 255 := rfl
      simp only [Lit.wf, Bool.and_eq_true, decide_eq_true_eq] at hw
      have hb : 0 ≤ zs[i]'(by omega) ∧ zs[i]'(by omega) < 256 := by omega
      simp only [Lib.bytesOf, List.getElem_map, List.getElem_take]
      have e2 : zs.getD i 0 = zs[i]'(by omega) := by simp [List.getD, show i < zs.length by omega]
      rw [e2]
      congr 2
      simp only [UInt8.toNat_ofNat']
      omega
    · have hmx : maxLen = 9223372036854775807 := by decide
      omega

end Go.Proofs.YtphffnlbcppckabDoor
