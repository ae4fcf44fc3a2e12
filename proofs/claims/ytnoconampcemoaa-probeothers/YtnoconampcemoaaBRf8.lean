/-
  The reference of layer 15: Merge.
-/
import Derived.Test.YtnoconampcemoaaBRf7
import Derived.Deep.Cut
namespace Go.Proofs.Ytnoconampcemoaa
open Go Go.RowKit

/-- What Merge of the reference tells, where its list is a table's. -/
def MergeRPost (a : Option Addr) (T : Tb) (l : List Mem) (w : World) (e : Ending) (w' : World) : Prop :=
  ∃ a' n' c' ao no co, e = .returned (.tuple #[.agg #[.int .u16 (T.s : Int), .slice a' n' c'], .slice ao no co]) ∧ n' = (memsB (mergeB T l)).length ∧ MemsAt w' a' (memsB (mergeB T l)) ∧ (∀ q, a' = some q → a = some q ∨ w.heap.size ≤ q.block) ∧
    no = (mergeM T l).length ∧ OwnMx w' w.heap.size (.slice ao no co) (mergeM T l) ∧ Below w.heap.size w w'
/-- What the loop of Merge holds. -/
structure RmSt (w : World) (N : Nat) (T : Tb) (a : Option Addr) (wr : World) (l : List Mem) (a2 : Option Addr) (n2 c2 : Nat) (v : Value) : Prop where
  box : RtB wr w.heap.size (T.s : Int) a2 n2 c2
  res : RtB wr (w.heap.size + 1) 0 none 0 0
  len : n2 = (memsB (mergeB T l)).length
  mems : MemsAt wr a2 (memsB (mergeB T l))
  sep : ∀ q, a2 = some q → a = some q ∨ N ≤ q.block
  own : OwnMx wr N v (mergeM T l)
  ap : ∀ q j, a2 = some q → v.ownBlock = some j → q.block ≠ j
  le : N ≤ wr.heap.size
  below : Below w.heap.size w wr
theorem MemsAt.far {w u : World} {a : Option Addr} {l : List Mem} {r : Option Nat} (h : MemsAt w a l) (g : w.grownBy u r) (hne : ∀ q j, a = some q → r = some j → q.block ≠ j) : MemsAt u a l := fun hn => by
  obtain ⟨c, o, rfl, hlt, hc⟩ := h hn
  exact ⟨c, o, rfl, Nat.lt_of_lt_of_le hlt g.size, fun i hi j v hv => (g.cell (hc i hi j v hv) (by
    intro e
    exact hne _ _ rfl e.symm rfl))⟩
theorem mergeM_take (T : Tb) (l : List Mem) (k : Nat) (hk : k < l.length) : mergeM T (l.take (k + 1)) = mergeM T (l.take k) ++ tellM (mergeB T (l.take k)) l[k] ∧ mergeB T (l.take (k + 1)) = hearB (mergeB T (l.take k)) l[k] := by
  rw [List.take_succ_eq_append_getElem hk, mergeM_snoc, mergeB_snoc]
  exact ⟨rfl, rfl⟩

end Go.Proofs.Ytnoconampcemoaa
