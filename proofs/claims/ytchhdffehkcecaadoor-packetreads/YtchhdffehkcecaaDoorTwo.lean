/-
  A block of two cells; bytes that lie below what turns.
-/
import Derived.Test.YtchhdffehkcecaaDoorSrc
import Derived.Laws.Rows
namespace Go.Proofs.YtchhdffehkcecaaDoor
open Go.RowKit

/-- A block of two cells. -/
def Two (w : World) (b : Nat) (t : TypeId) (x y : Value) : Prop := w.heap[b]? = some (.cells #[x, y] t (0, 0))
theorem Two.c0 {w : World} {b : Nat} {t : TypeId} {x y : Value} (h : Two w b t x y) : w.cell? ⟨b, 0, none⟩ = some x := by rw [cell_of_row _ _ _ _ _ _ h]; rfl
theorem Two.c1 {w : World} {b : Nat} {t : TypeId} {x y : Value} (h : Two w b t x y) : w.cell? ⟨b, 1, none⟩ = some y := by rw [cell_of_row _ _ _ _ _ _ h]; rfl
theorem Two.fr {w : World} {b : Nat} {t : TypeId} {x y : Value} (h : Two w b t x y) (i : Nat) : w.frozen? ⟨b, i, none⟩ = false := frozen_of_row _ _ _ _ _ h
theorem Two.lt {w : World} {b : Nat} {t : TypeId} {x y : Value} (h : Two w b t x y) : b < w.heap.size := (Array.getElem?_eq_some_iff.1 h).1
theorem Two.set0 {w : World} {b : Nat} {t : TypeId} {x y : Value} (h : Two w b t x y) (v : Value) : Two (w.setCell ⟨b, 0, none⟩ v) b t v y := heap_setCell_same w b 0 _ t v h
theorem Two.set1 {w : World} {b : Nat} {t : TypeId} {x y : Value} (h : Two w b t x y) (v : Value) : Two (w.setCell ⟨b, 1, none⟩ v) b t x v := heap_setCell_same w b 1 _ t v h
theorem Two.far {w : World} {b : Nat} {t : TypeId} {x y : Value} (h : Two w b t x y) (p : Addr) (hp : b ≠ p.block) (v : Value) : Two (w.setCell p v) b t x y := (heap_setCell_other w p b v hp).trans h
theorem Two.below {w w' : World} {b B : Nat} {t : TypeId} {x y : Value} (h : Two w b t x y) (hb : Below B w w') (hB : b < B) : Two w' b t x y := (hb.block b hB).trans h
theorem Two.grown {w w' : World} {b : Nat} {t : TypeId} {x y : Value} {r : Option Nat} (h : Two w b t x y) (hg : w.grownBy w' r) (hr : some b ≠ r) : Two w' b t x y := (hg.block b h.lt hr).trans h
theorem Two.new (w : World) (t : TypeId) (x y : Value) : Two (w.alloc (.cells #[x, y] t)) w.heap.size t x y := heap_alloc_new _ _

theorem SrcAt.low {w w' : World} {a : Option Addr} {n c B : Nat} {l : List UInt8} (h : SrcAt w (.slice a n c) l) (hb : Below B w w') (hq : ∀ q, a = some q → q.block < B) : SrcAt w' (.slice a n c) l := by
  rcases h with h | ⟨q, c', e, hc⟩
  · exact .inl h
  · refine .inr ⟨q, c', e, fun i hi => ?_⟩
    have hq' : q.block < B := hq q (by simp only [Value.slice.injEq] at e; exact e.1)
    rw [hb.cell (p := q.add i) (by rw [add_block]; exact hq')]
    exact hc i hi

end Go.Proofs.YtchhdffehkcecaaDoor
