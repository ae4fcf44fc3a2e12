/-
  What Position of package member tells.
-/
import Derived.Test.YtnoconampcemoaaB8
namespace Go.Proofs.Ytnoconampcemoaa
open Go Go.RowKit Go.Shelf

theorem posL_all {s : Nat} {l : List Int} (h : ∀ y ∈ l, y < (s : Int)) : posL s l = l.length := by
  unfold posL
  rw [List.countP_eq_length]
  intro y hy
  simpa using h y hy
theorem posL_cut {s : Nat} {l pre : List Int} {x : Int} (hp : pre ++ [x] <+: l) (hs : l.Pairwise (· < ·)) (h : ∀ y ∈ pre, y < (s : Int)) (hx : ¬ x < (s : Int)) : posL s l = pre.length := by
  obtain ⟨t, rfl⟩ := hp
  rw [List.append_assoc, List.pairwise_append] at hs
  unfold posL
  rw [List.append_assoc, List.countP_append]
  have h1 : pre.countP (fun n => decide (n < (s : Int))) = pre.length := posL_all h
  have h2 : ([x] ++ t).countP (fun n => decide (n < (s : Int))) = 0 := by
    rw [List.countP_eq_zero]
    intro y hy
    have hge : x ≤ y := by
      rcases List.mem_cons.1 (show y ∈ x :: t from hy) with rfl | hy
      · exact Int.le_refl _
      · have := hs.2.1
        rw [List.singleton_append, List.pairwise_cons] at this
        exact Int.le_of_lt (this.1 y hy)
    simp; omega
  rw [h1, h2]
  rfl

attribute [local go_sem] Oper.semAt_some

/-- What the loop of Position holds. -/
def PosI (w : World) (rv : Option Addr) (n : Nat) (V : World) : Prop := Boxed V w.heap.size 29 (.pointer rv) ∧ Boxed V (w.heap.size + 1) 3 (.int .i64 (n : Int)) ∧ Below w.heap.size w V
theorem PosI.ab {w A B : World} {rv : Option Addr} {n n0 : Nat} (h : PosI w rv n A) (g : AbB n0 A B) (hn : w.heap.size ≤ n0) : PosI w rv n B := ⟨g.cells h.1, g.cells h.2.1, g.below h.2.2 (Nat.le_refl _) hn⟩

end Go.Proofs.Ytnoconampcemoaa
