/-
  An argument of type []api.Pair, opened.
-/
import Derived.Test.YtdnpfmmkglgnjabDoorOpen
import Derived.Test.YtdnpfmmkglgnjabDoorLab2
namespace Go.Proofs.YtdnpfmmkglgnjabDoor
open Go.ChangeShapes Go.WideShapes Go.ChangeAt Go.RowKit Go.Deep

theorem cellsPair : Tryd.prog.cellsOf 52 = 2 := by kernel_rfl
/-- The text that a cell holds. -/
def strOf : Value → ByteArray
  | .string s => s
  | _ => ⟨#[]⟩

theorem open_pairs {H : Type} {enc : TypeId × Value → H} {W : World} {base : Nat} {sp : Nat → Bool} {held : Bool} {fuel : Nat} {a : Option Addr} {len cap : Nat} {x : DataW H × List MemPlace}
    (h : DataW.trod enc Tryd.prog W base sp held fuel 23 [.slice a len cap] = some x) :
    ∃ ps : List Pr, ps.length = len ∧ PairsAt W a ps ∧ len ≤ maxLen ∧ (∀ p ∈ ps, p.1.size ≤ maxLen ∧ p.2.size ≤ maxLen) ∧
      (x.1 = .nil ∧ ps = [] ∨ ∃ spare, x.1 = .slice (ps.map fun p => .agg [.lit (.string p.1.data.toList), .lit (.string p.2.data.toList)]) spare) := by
  rcases open_slice_pairs Tryd.underlying23 Tryd.underlying52 cellsPair rfl rfl (by kernel_rfl) (by kernel_rfl) h with ⟨hcs, hx⟩ | ⟨q, len', cap', m, n, V0, V1, D0, D1, P0, P1, hcs, _, hl, hm, hmm, hx, hc⟩
  · simp only [List.cons.injEq, Value.slice.injEq, and_true] at hcs
    obtain ⟨rfl, rfl, rfl⟩ := hcs
    exact ⟨[], rfl, fun hi => absurd hi (by simp), Nat.zero_le _, (fun p hp => by cases hp), .inl ⟨by rw [hx], rfl⟩⟩
  · simp only [List.cons.injEq, Value.slice.injEq, and_true] at hcs
    obtain ⟨rfl, rfl, rfl⟩ := hcs
    have hlm : len ≤ m := by split at hmm <;> omega
    have hstr : ∀ i, i < m → V0 i = .string (strOf (V0 i)) ∧ V1 i = .string (strOf (V1 i)) ∧ (strOf (V0 i)).size ≤ maxLen ∧ (strOf (V1 i)).size ≤ maxLen ∧ D0 i = .lit (.string (strOf (V0 i)).data.toList) ∧ D1 i = .lit (.string (strOf (V1 i)).data.toList) := fun i hi => by
      obtain ⟨-, -, h0, h1⟩ := hc i hi
      obtain ⟨s0, e0, f0, g0⟩ := DataW.trod_string Tryd.underlying9 h0
      obtain ⟨s1, e1, f1, g1⟩ := DataW.trod_string Tryd.underlying9 h1
      simp only [List.cons.injEq, and_true] at e0 e1
      simp only [Prod.mk.injEq] at f0 f1
      rw [e0, e1]
      exact ⟨rfl, rfl, g0, g1, f0.1, f1.1⟩
    refine ⟨(List.range len).map fun i => (strOf (V0 i), strOf (V1 i)), by simp, fun hn => ?_, by omega, fun p hp => ?_, .inr ⟨_, by
      rw [hx]
      simp only [List.map_map]
      congr 1
      refine List.map_congr_left fun i hi => ?_
      have := hstr i (by have := List.mem_range.1 hi; omega)
      simp only [Function.comp, this.2.2.2.2.1, this.2.2.2.2.2]⟩⟩
    · simp only [List.length_map, List.length_range] at hn
      obtain ⟨hc0, -, -, -⟩ := hc 0 (by omega)
      obtain ⟨b, o, s⟩ := q
      obtain rfl : s = none := by simpa [Addr.add] using World.cell?_spot hc0
      refine ⟨b, o, rfl, fun i hi => ?_⟩
      simp only [List.length_map, List.length_range] at hi
      obtain ⟨c0, c1, -, -⟩ := hc i (by omega)
      obtain ⟨e0, e1, -⟩ := hstr i (by omega)
      rw [Go.WideShapes.add_plain, e0] at c0
      rw [Go.WideShapes.add_plain, e1] at c1
      simp only [List.getElem_map, List.getElem_range]
      exact ⟨c0, c1⟩
    · obtain ⟨i, hi, rfl⟩ := List.mem_map.1 hp
      have := hstr i (by have := List.mem_range.1 hi; omega)
      exact ⟨this.2.2.1, this.2.2.2.1⟩

theorem bytes_pair : Tryd.prog.bytesOf 52 = 32 := by kernel_rfl
/-- .. and how many pairs it may have. -/
theorem reach_pairs {H : Type} {ts : List TypeId} {ds : List (DataW H)} (hsz : (DataW.weightsEach Tryd.prog ts ds).all (· ≤ reachBytes) = true) {j : Nat} {d : DataW H} (ht : ts[j]? = some 23) (hd : ds[j]? = some d) {ps : List Pr}
    (h : d = .nil ∧ ps = [] ∨ ∃ spare, d = .slice (ps.map fun p => .agg [.lit (.string p.1.data.toList), .lit (.string p.2.data.toList)]) spare) : ps.length ≤ 4398046510976 := by
  rcases h with ⟨_, rfl⟩ | ⟨spare, rfl⟩
  · simp
  · have h1 := sized_slice hsz ht hd Tryd.underlying23
    rw [bytes_pair, List.length_map] at h1
    have h2 : reachBytes = 140737488351232 := by decide
    omega

end Go.Proofs.YtdnpfmmkglgnjabDoor
