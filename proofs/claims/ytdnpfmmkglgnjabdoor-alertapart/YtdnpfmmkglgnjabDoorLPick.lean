/-
  What Pick does, and the reference's In, Pick, Get and Same.
-/
import Derived.Test.YtdnpfmmkglgnjabDoorLab6
import Derived.Test.YtdnpfmmkglgnjabDoorLSame
import Derived.Deep.AppendLies
import Derived.Laws.OwnMore
namespace Go.Proofs.YtdnpfmmkglgnjabDoor
open Go.RowKit

/-- Texts lie at an address; where there are none, anywhere. -/
def TextsAt (w : World) (a : Option Addr) (ss : List ByteArray) : Prop :=
  0 < ss.length → ∃ b o, a = some ⟨b, o, none⟩ ∧ ∀ i (hi : i < ss.length), w.cell? ⟨b, o + i, none⟩ = some (.string ss[i])
theorem TextsAt.below {w w' : World} {a : Option Addr} {ss : List ByteArray} {B : Nat} (h : TextsAt w a ss) (hb : Below B w w') (hB : w.heap.size ≤ B) : TextsAt w' a ss := fun hn => by
  obtain ⟨b, o, rfl, hc⟩ := h hn
  exact ⟨b, o, rfl, fun i hi => by rw [hb.cell (Nat.lt_of_lt_of_le (World.block_lt_of_cell? w _ (hc i hi)) hB)]; exact hc i hi⟩

/-- A text is one of some. -/
def inB (s : ByteArray) (ns : List ByteArray) : Bool := ns.any fun x => decide (x = s)
theorem inB_iff {s : ByteArray} {ns : List ByteArray} : inB s ns = true ↔ s ∈ ns := by
  unfold inB
  rw [List.any_eq_true]
  exact ⟨fun ⟨x, hx, e⟩ => of_decide_eq_true e ▸ hx, fun h => ⟨s, h, decide_eq_true rfl⟩⟩
theorem inB_yes {s : ByteArray} {ns : List ByteArray} (h : s ∈ ns) : inB s ns = true := inB_iff.2 h
theorem inB_no {s : ByteArray} {ns : List ByteArray} (h : ¬ s ∈ ns) : inB s ns = false := by
  cases e : inB s ns with
  | false => rfl
  | true => exact absurd (inB_iff.1 e) h

/-- The pairs of some names. -/
def pickL (ps : List Pr) (ns : List ByteArray) : List Pr := ps.filter fun p => inB p.1 ns
theorem pickL_in (ps : List Pr) (ns : List ByteArray) (k : Nat) (hk : k < ps.length) (h : ps[k].1 ∈ ns) : pickL (ps.take (k + 1)) ns = pickL (ps.take k) ns ++ [ps[k]] := by
  unfold pickL
  rw [List.take_succ_eq_append_getElem hk, List.filter_append]
  simp [inB_yes h]
theorem pickL_out (ps : List Pr) (ns : List ByteArray) (k : Nat) (hk : k < ps.length) (h : ¬ ps[k].1 ∈ ns) : pickL (ps.take (k + 1)) ns = pickL (ps.take k) ns := by
  unfold pickL
  rw [List.take_succ_eq_append_getElem hk, List.filter_append]
  simp [inB_no h]
theorem pickL_len (ps : List Pr) (ns : List ByteArray) : (pickL ps ns).length ≤ ps.length := List.length_filter_le _ _

theorem str_beq (x y : ByteArray) : (x.toList == y.toList) = decide (x = y) := by
  rw [ByteArray.toList_eq, ByteArray.toList_eq, Bool.eq_iff_iff, beq_iff_eq, decide_eq_true_eq]
  exact ⟨fun h => Go.WideShapes.bytes_inj h, fun h => by rw [h]⟩

theorem OwnP.push {w : World} {B : Nat} {v : Value} {rs : List Pr} {s1 s2 : ByteArray} (h : w.ownsRow B 52 2 v (rs.length + 1) (cellsP rs ++ [.string s1, .string s2])) : OwnP w B v (rs ++ [(s1, s2)]) := by
  unfold OwnP
  rw [cellsP_append, List.length_append]
  exact h

end Go.Proofs.YtdnpfmmkglgnjabDoor
