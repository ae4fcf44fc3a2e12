/-
  How the arguments of a row of this seat are opened for the walks: bytes, strings, slices of numbers, of strings, of calls, of bytes.
-/
import Derived.Test.YtchhdffehkcecaaDoorVars
import Derived.Test.YtchhdffehkcecaaDoorPut2
import Derived.Deep.SlicePairs
import Derived.SizedLaws
namespace Go.Proofs.YtchhdffehkcecaaDoor
open Go.ChangeShapes Go.WideShapes Go.ChangeAt Go.RowKit Go.Deep

theorem laidOut : laidOutB Tryd.prog = true := by kernel_rfl

/-- An argument of type []byte. -/
theorem open_bytes {H : Type} {enc : TypeId × Value → H} {W : World} {base : Nat} {sp : Nat → Bool} {held : Bool} {fuel : Nat} {v : Value} {x : DataW H × List MemPlace}
    (h : DataW.trod enc Tryd.prog W base sp held fuel 30 [v] = some x) :
    ∃ l : List UInt8, SrcAt W v l ∧ (x.1 = .nil ∧ l = [] ∨ ∃ elems spare, x.1 = .slice elems spare ∧ elems.length = l.length) := by
  rcases open_ints Tryd.underlying30 Tryd.underlying5 cellsU8 h with ⟨hcs, hx⟩ | ⟨a, len, cap, zs, hcs, _, hl, hm, hz, hx, hcell, hwz⟩
  · simp only [List.cons.injEq, and_true] at hcs
    subst hcs
    exact ⟨[], .inl ⟨rfl, rfl⟩, .inl ⟨by rw [hx], rfl⟩⟩
  · simp only [List.cons.injEq, and_true] at hcs
    subst hcs
    have hlen : len ≤ zs.length := by split at hz <;> omega
    refine ⟨Lib.bytesOf (zs.take len), .inr ⟨a, cap, ?_, fun i hi => ?_⟩, .inr ⟨_, _, by rw [hx], ?_⟩⟩
    · have e : (Lib.bytesOf (zs.take len)).length = len := by simp [Lib.bytesOf]; omega
      rw [e]
    · have hi2 : i < len := by simp [Lib.bytesOf] at hi; omega
      rw [hcell i (by omega)]
      have hw := hwz (zs[i]'(by omega)) (List.getElem_mem _)
      have h1 : IntKind.u8.min = 0 := rfl
      have h2 : IntKind.u8.max = 255 := rfl
      simp only [Lit.wf, Bool.and_eq_true, decide_eq_true_eq] at hw
      have hb : 0 ≤ zs[i]'(by omega) ∧ zs[i]'(by omega) < 256 := by omega
      simp only [Lib.bytesOf, List.getElem_map, List.getElem_take]
      have e2 : zs.getD i 0 = zs[i]'(by omega) := by simp [List.getD, show i < zs.length by omega]
      rw [e2]
      congr 2
      simp only [UInt8.toNat_ofNat']
      omega
    · simp [lits, Lib.bytesOf]

theorem bytes_u8 : Tryd.prog.bytesOf 5 = 1 := by kernel_rfl
/-- .. and how many bytes it may have. -/
theorem reach_bytes {H : Type} {ts : List TypeId} {ds : List (DataW H)} (hsz : (DataW.weightsEach Tryd.prog ts ds).all (· ≤ reachBytes) = true) {j : Nat} {d : DataW H} (ht : ts[j]? = some 30) (hd : ds[j]? = some d) {l : List UInt8}
    (h : d = .nil ∧ l = [] ∨ ∃ elems spare, d = .slice elems spare ∧ elems.length = l.length) : l.length ≤ 140737488351232 := by
  rcases h with ⟨_, rfl⟩ | ⟨elems, spare, rfl, e⟩
  · simp
  · have h1 := sized_slice hsz ht hd Tryd.underlying30
    rw [bytes_u8] at h1
    have h2 : reachBytes = 140737488351232 := by decide
    omega

end Go.Proofs.YtchhdffehkcecaaDoor
