/-
  What Get does: the value of the first pair of a name.
-/
import Derived.Test.YtdnpfmmkglgnjabDoorLab2
namespace Go.Proofs.YtdnpfmmkglgnjabDoor
open Go.RowKit

/-- None of the first k pairs has this name. -/
theorem getV_skip (ps : List Pr) (n : List UInt8) (k : Nat) (hk : k ≤ ps.length) (h : ∀ j, j < k → ∀ hj : j < ps.length, nm ps[j] ≠ n) : getV ps n = getV (ps.drop k) n := by
  induction k with
  | zero => simp
  | succ k ih =>
    rw [ih (by omega) (fun j hj => h j (by omega)), List.drop_eq_getElem_cons (by omega : k < ps.length)]
    unfold getV
    rw [List.find?_cons]
    have := h k (by omega) (by omega)
    simp only [beq_eq_false_iff_ne.2 this]
theorem getV_hit (ps : List Pr) (n : List UInt8) (k : Nat) (hk : k < ps.length) (h : ∀ j, j < k → ∀ hj : j < ps.length, nm ps[j] ≠ n) (he : nm ps[k] = n) : getV ps n = ps[k].2 := by
  rw [getV_skip ps n k (by omega) h, List.drop_eq_getElem_cons hk]
  unfold getV
  rw [List.find?_cons]
  simp only [beq_iff_eq.2 he]

end Go.Proofs.YtdnpfmmkglgnjabDoor
