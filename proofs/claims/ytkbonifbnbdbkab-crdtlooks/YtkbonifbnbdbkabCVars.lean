/-
  What every law of this seat needs for its statement: how the program lies, and how many entries an argument may have.
-/
import Derived.Test.YtkbonifbnbdbkabEOpen
import Derived.ProofKit
import Derived.OpenShut
import Derived.LaidMore
import Derived.MakeChecks
import Derived.SizedLaws
namespace Go.Proofs.Ytkbonifbnbdbkab
open Go.ChangeShapes Go.WideShapes Go.ChangeAt Go.RowKit Go.Deep

theorem ownC : ownKnob Try.prog.godebug = none := by kernel_rfl
theorem laidOutC : laidOutB Try.prog = true := by kernel_rfl
theorem door_metC (os : Os) (args : Array Value) : laidMet Try.prog [] ((World.doorLaid Try.prog 62 os).forCall (fun _ _ => 0) ⟨#[], args, []⟩).memory :=
  laidMet_of_run' 8 (by kernel_rfl) (by kernel_rfl)
theorem bytesEn : Try.prog.bytesOf 36 = 56 := by kernel_rfl
/-- Entries as they are read, and how many there are. -/
theorem open_entries2 {H : Type} {enc : TypeId × Value → H} {W : World} {base : Nat} {sp : Nat → Bool} {held : Bool} {fuel : Nat} {x : DataW H × List MemPlace} {a : Option Addr} {len cap : Nat} (h : DataW.trod enc Try.prog W base sp held fuel 22 [.slice a len cap] = some x) :
    ∃ l : List Ent, l.length = len ∧ EntsAt W a l ∧ l.length ≤ 9223372036854775807 ∧ (∀ y ∈ l, EntFit y) ∧ (x.1 = .nil ∧ l = [] ∨ ∃ elems spare, x.1 = .slice elems spare ∧ elems.length = l.length) ∧ (a = none → cap = 0) := by
  obtain ⟨l, h1, h2, h3, h4⟩ := open_entries h
  refine ⟨l, h1, h2, h3, h4, ?_⟩
  rcases open_slice Try.underlying22 h with ⟨hcs, hx⟩ | ⟨q, len', cap', m, n, D, Pl, hcs, hb, hl, hm, hmm, hx, hc⟩
  · simp only [List.cons.injEq, Value.slice.injEq, and_true] at hcs
    obtain ⟨rfl, rfl, rfl⟩ := hcs
    exact ⟨.inl ⟨by rw [hx], List.eq_nil_of_length_eq_zero h1⟩, fun _ => rfl⟩
  · simp only [List.cons.injEq, Value.slice.injEq, and_true] at hcs
    obtain ⟨rfl, rfl, rfl⟩ := hcs
    refine ⟨.inr ⟨_, _, by rw [hx], ?_⟩, fun e => by cases e⟩
    have hlm : len ≤ m := by split at hmm <;> omega
    simp
    omega
theorem reach_entries {H : Type} {ts : List TypeId} {ds : List (DataW H)} (hsz : (DataW.weightsEach Try.prog ts ds).all (· ≤ reachBytes) = true) {j : Nat} {d : DataW H} (ht : ts[j]? = some 22) (hd : ds[j]? = some d) {l : List Ent}
    (h : d = .nil ∧ l = [] ∨ ∃ elems spare, d = .slice elems spare ∧ elems.length = l.length) : l.length ≤ 140737488351232 := by
  rcases h with ⟨_, rfl⟩ | ⟨elems, spare, rfl, e⟩
  · simp
  · have h1 := sized_slice hsz ht hd Try.underlying22
    rw [bytesEn] at h1
    have h2 : reachBytes = 140737488351232 := by decide
    omega

end Go.Proofs.Ytkbonifbnbdbkab
