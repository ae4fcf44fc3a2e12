/-
  What the statements of layer 6 begin with; the walk of InhibitSelf.
-/
import Derived.Test.YthaimnmbcbhioabDoorI2
namespace Go.Proofs.YthaimnmbcbhioabDoor
open Go.RowKit

theorem rls_one {w : World} {B : Nat} {r : Rl} (h : RlBlk w B r) (hr : RlAt w r) : RlsAt w (some ⟨B, 0, none⟩) [r] := fun _ => ⟨B, 0, rfl, lt_of_block h, fun i hi => by
  obtain rfl : i = 0 := by simpa using hi
  refine ⟨fun j v hv => ?_, hr⟩
  have hj : j < 3 := (List.getElem?_eq_some_iff.1 hv).1
  rcases (by omega : j = 0 ∨ j = 1 ∨ j = 2) with rfl | rfl | rfl
  · rw [← hv]; exact h.c0
  · rw [← hv]; exact h.c1
  · rw [← hv]; exact h.c2⟩
theorem lbs_one {w : World} {B : Nat} {x : Lb} (h : w.heap[B]? = some (.cells #[.slice x.a x.ps.length x.c] 26 (0, 0))) (hx : PairsAt w x.a x.ps) : LbsAt w (some ⟨B, 0, none⟩) [x] := fun _ => ⟨B, 0, rfl, lt_of_block h, fun i hi => by
  obtain rfl : i = 0 := by simpa using hi
  exact ⟨cell_heap h, hx⟩⟩
theorem lbs_two {w : World} {B : Nat} {x y : Lb} (h : w.heap[B]? = some (.cells #[.slice x.a x.ps.length x.c, .slice y.a y.ps.length y.c] 26 (0, 0))) (hx : PairsAt w x.a x.ps) (hy : PairsAt w y.a y.ps) : LbsAt w (some ⟨B, 0, none⟩) [x, y] := fun _ => ⟨B, 0, rfl, lt_of_block h, fun i hi => by
  rcases (by simp at hi; omega : i = 0 ∨ i = 1) with rfl | rfl
  · exact ⟨cell_heap h, hx⟩
  · exact ⟨cell_heap h, hy⟩⟩
/-- What is light, of a rule and two. -/
theorem light_two {r : Rl} {x y : Lb} (h : LightI [r] [x, y]) : (∀ p ∈ x.ps, p.2.size ≤ 200) ∧ ∀ p ∈ y.ps, p.2.size ≤ 200 := ⟨(h.2.2.1 0 (by simp)).2.2, (h.2.2.1 1 (by simp)).2.2⟩
theorem by_self (r : Rl) (ps : List Pr) : ¬ byP r ps ps := fun ⟨_, h1, h2, h3⟩ => h3 ⟨h2, h1⟩
theorem by_both {r : Rl} {ps qs : List Pr} (h : byP r ps qs) : ¬ byP r qs ps := fun ⟨_, h1, h2, _⟩ => h.2.2.2 ⟨h2, h1⟩

end Go.Proofs.YthaimnmbcbhioabDoor
