/-
  Entries that are stored into a row of a call's own, one by one.
-/
import Derived.Test.YtkbonifbnbdbkabC11
import Derived.Laws.OwnMore
namespace Go.Proofs.Ytkbonifbnbdbkab
open Go.RowKit Go.Maps

/-- The five cells from a place on are those of an entry. -/
def stRow (w : World) (g p : Nat) (y : Ent) : World := ((((w.setCell ⟨g, p, none⟩ (.string y.k)).setCell ⟨g, p + 1, none⟩ (.int .i64 y.t)).setCell ⟨g, p + 2, none⟩ (.int .u16 y.o)).setCell ⟨g, p + 3, none⟩ (.string y.v)).setCell ⟨g, p + 4, none⟩ (.int .i64 y.u)
theorem cellsC_set : ∀ (L : List Ent) (k : Nat) (_ : k < L.length) (y : Ent), (((((cellsC L).set (k * 5) (.string y.k)).set (k * 5 + 1) (.int .i64 y.t)).set (k * 5 + 2) (.int .u16 y.o)).set (k * 5 + 3) (.string y.v)).set (k * 5 + 4) (.int .i64 y.u) = cellsC (L.set k y)
  | p :: r, 0, _, y => rfl
  | p :: r, k + 1, hk, y => by
    have ih := cellsC_set r k (by simpa using hk) y
    have e : ∀ (p : Ent) (r : List Ent), cellsC (p :: r) = .string p.k :: .int .i64 p.t :: .int .u16 p.o :: .string p.v :: .int .i64 p.u :: cellsC r := fun _ _ => rfl
    have e0 : (k + 1) * 5 = k * 5 + 1 + 1 + 1 + 1 + 1 := by omega
    have e1 : (k + 1) * 5 + 1 = (k * 5 + 1) + 1 + 1 + 1 + 1 + 1 := by omega
    have e2 : (k + 1) * 5 + 2 = (k * 5 + 2) + 1 + 1 + 1 + 1 + 1 := by omega
    have e3 : (k + 1) * 5 + 3 = (k * 5 + 3) + 1 + 1 + 1 + 1 + 1 := by omega
    have e4 : (k + 1) * 5 + 4 = (k * 5 + 4) + 1 + 1 + 1 + 1 + 1 := by omega
    rw [e, e1, e2, e3, e4, e0]
    simp only [List.set_cons_succ]
    rw [ih, e]
/-- An entry is stored at a place of a row of the call's own. -/
theorem OwnC.put {w : World} {B g c : Nat} {L : List Ent} (h : OwnC w B (.slice (some ⟨g, 0, none⟩) L.length c) L) (k : Nat) (hk : k < L.length) (y : Ent) :
    OwnC (stRow w g (k * 5) y) B (.slice (some ⟨g, 0, none⟩) L.length c) (L.set k y) ∧ w.grownBy (stRow w g (k * 5) y) (some g) := by
  obtain ⟨h0, g0⟩ := World.ownsRow.stored h (k * 5) (.string y.k)
  obtain ⟨h1, g1⟩ := World.ownsRow.stored h0 (k * 5 + 1) (.int .i64 y.t)
  obtain ⟨h2, g2⟩ := World.ownsRow.stored h1 (k * 5 + 2) (.int .u16 y.o)
  obtain ⟨h3, g3⟩ := World.ownsRow.stored h2 (k * 5 + 3) (.string y.v)
  obtain ⟨h4, g4⟩ := World.ownsRow.stored h3 (k * 5 + 4) (.int .i64 y.u)
  refine ⟨?_, ?_⟩
  · unfold OwnC
    rw [← cellsC_set L k hk y, List.length_set]
    exact h4
  · exact (((g0.andThen g1 (fun j hj => .inr hj)).andThen g2 (fun j hj => .inr hj)).andThen g3 (fun j hj => .inr hj)).andThen g4 (fun j hj => .inr hj)

end Go.Proofs.Ytkbonifbnbdbkab
