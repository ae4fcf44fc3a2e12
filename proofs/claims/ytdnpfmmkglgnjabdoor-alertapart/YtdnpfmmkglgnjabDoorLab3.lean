/-
  Pairs in memory of a call's own; what slices.Clone, SortFunc and Equal do at them.
-/
import Derived.Test.YtdnpfmmkglgnjabDoorLab2
import Derived.Test.YtdnpfmmkglgnjabDoorLShelf
import Derived.Laws.StructEq
namespace Go.Proofs.YtdnpfmmkglgnjabDoor
open Go.RowKit

/-- A pair's two cells. -/
def encP (x : Pr) : List Value := [.string x.1, .string x.2]
def cellsP (ps : List Pr) : List Value := ps.flatMap encP

theorem cellsP_len : ∀ ps : List Pr, (cellsP ps).length = ps.length * 2
  | [] => rfl
  | p :: r => by
    have := cellsP_len r
    simp only [cellsP, List.flatMap_cons, List.length_append, List.length_cons] at *
    rw [this]
    simp [encP]
    omega
theorem cellsP_append (ps qs : List Pr) : cellsP (ps ++ qs) = cellsP ps ++ cellsP qs := List.flatMap_append
theorem cellsP_get : ∀ (ps : List Pr) (i : Nat) (hi : i < ps.length), (cellsP ps)[i * 2]? = some (.string ps[i].1) ∧ (cellsP ps)[i * 2 + 1]? = some (.string ps[i].2)
  | p :: r, 0, _ => ⟨rfl, rfl⟩
  | p :: r, i + 1, hi => by
    have := cellsP_get r i (by simpa using hi)
    have e : cellsP (p :: r) = [.string p.1, .string p.2] ++ cellsP r := rfl
    rw [e, List.getElem?_append_right (by simp; omega), List.getElem?_append_right (by simp; omega)]
    simpa [show (i + 1) * 2 - 2 = i * 2 by omega, show (i + 1) * 2 + 1 - 2 = i * 2 + 1 by omega] using this
theorem cellsP_at (ps : List Pr) (j : Nat) (u : Value) (h : (cellsP ps)[j]? = some u) : ∃ i, ∃ hi : i < ps.length, (j = i * 2 ∧ u = .string ps[i].1) ∨ (j = i * 2 + 1 ∧ u = .string ps[i].2) := by
  have hj : j < ps.length * 2 := by
    have := (List.getElem?_eq_some_iff.1 h).1
    rwa [cellsP_len] at this
  obtain ⟨i, hi⟩ : ∃ i, j = i * 2 ∨ j = i * 2 + 1 := ⟨j / 2, by omega⟩
  have hi' : i < ps.length := by omega
  obtain ⟨h0, h1⟩ := cellsP_get ps i hi'
  refine ⟨i, hi', ?_⟩
  rcases hi with rfl | rfl
  · exact .inl ⟨rfl, (Option.some.inj (h0.symm.trans h)).symm⟩
  · exact .inr ⟨rfl, (Option.some.inj (h1.symm.trans h)).symm⟩
theorem cellsP_one (ps : List Pr) (u : Value) (h : u ∈ cellsP ps) : u.oneCell' = true := by
  obtain ⟨j, hj⟩ := List.getElem?_of_mem h
  obtain ⟨i, hi, ⟨-, rfl⟩ | ⟨-, rfl⟩⟩ := cellsP_at ps j u hj <;> rfl

/-- A slice of pairs in blocks from B on. -/
def OwnP (w : World) (B : Nat) (v : Value) (ps : List Pr) : Prop := w.ownsRow B 52 2 v ps.length (cellsP ps)

theorem infoPair : (Tryd.prog.info? 52).map (fun i => (i.zero, i.size, i.bytes)) = some (some (.agg #[.string ⟨#[]⟩, .string ⟨#[]⟩]), 2, 32) := by kernel_rfl

theorem PairsAt.cells {w : World} {b o : Nat} {ps : List Pr} (h : ∀ i (hi : i < ps.length), w.cell? ⟨b, o + i * 2, none⟩ = some (.string ps[i].1) ∧ w.cell? ⟨b, o + i * 2 + 1, none⟩ = some (.string ps[i].2)) (j : Nat) (u : Value) (hj : (cellsP ps)[j]? = some u) : w.cell? ⟨b, o + j, none⟩ = some u := by
  obtain ⟨i, hi, ⟨rfl, rfl⟩ | ⟨rfl, rfl⟩⟩ := cellsP_at ps j u hj
  · exact (h i hi).1
  · exact (h i hi).2

/-- What is owned lies there. -/
theorem OwnP.form {w : World} {B : Nat} {v : Value} {ps : List Pr} (h : OwnP w B v ps) : ∃ a c, v = .slice a ps.length c ∧ PairsAt w a ps ∧ (a = none → c = 0) ∧ ∀ q, a = some q → B ≤ q.block ∧ q.block < w.heap.size ∧ q = ⟨q.block, 0, none⟩ := by
  have hcl := fun g hg j u hj => World.ownsRow.cells h (g := g) hg j u hj
  rcases h.2 with ⟨rfl, h0⟩ | ⟨g, cap, cur, rfl, hg0, hg1, hcap, hmax, hcs, htk⟩
  · exact ⟨none, 0, by rw [h0], fun hn => absurd hn (by omega), fun _ => rfl, fun q hq => by cases hq⟩
  · refine ⟨_, _, rfl, fun _ => ⟨g, 0, rfl, fun i hi => ?_⟩, (fun h => by cases h), fun q hq => ?_⟩
    · obtain ⟨h0, h1⟩ := cellsP_get ps i hi
      have e0 := hcl g rfl _ _ h0
      have e1 := hcl g rfl _ _ h1
      rw [Go.WideShapes.add_plain] at e0 e1
      exact ⟨e0, e1⟩
    · obtain rfl := Option.some.inj hq
      exact ⟨hg0, (Array.getElem?_eq_some_iff.1 hg1).1, rfl⟩


end Go.Proofs.YtdnpfmmkglgnjabDoor
