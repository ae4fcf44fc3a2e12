/-
  New, and what a reader of package ben does to read a row of digits (row), a number (number) and Int.
-/
import Derived.Test.YtkbonifbnbdbkaaDoorRd
import Derived.Test.YtkbonifbnbdbkaaDoorShelf
import Derived.Lib.Hide
import Derived.Lib.Bytes
import Derived.Lib.IndexLaws
import Derived.Lib.ItoaLen
import Derived.Lib.AppendIntMem
import Derived.Lib.AtoiErrMem
import Derived.WalkSmall
import Derived.Laws.IdiomStrings
import Derived.Deep.QuietTactic
import Derived.BigQuiet
namespace Go.Proofs.YtkbonifbnbdbkaaDoor
open Go.RowKit

theorem grownBy_drewN (w : World) (n : Nat) (r : Option Nat) : w.grownBy (w.drewN n) r := ⟨rfl, rfl, rfl, Nat.le_refl _, fun _ _ _ => rfl⟩
theorem BytesAt.cells {w : World} {p : Addr} {l : List UInt8} (h : BytesAt w (some p) l) : ∀ i (hi : i < l.length), w.cell? (p.add i) = some (.int .u8 (l[i].toNat : Int)) := by
  intro i hi
  obtain ⟨b, o, hp, hc⟩ := h (by omega)
  obtain rfl := Option.some.inj hp
  rw [Go.WideShapes.add_plain, hc i hi]
  simp [List.getD, hi]

theorem bytesOf_nums (l : List UInt8) : Lib.bytesOf (l.map fun b => (b.toNat : Int)) = l := by
  unfold Lib.bytesOf
  rw [List.map_map]
  conv => rhs; rw [← List.map_id l]
  refine List.map_congr_left fun b _ => ?_
  simp

theorem take_min (l : List UInt8) (m : Nat) : l.take (min l.length (m + 1)) = l.take (m + 1) := by
  rw [List.take_eq_take_iff]; omega

theorem hit_facts {l : List UInt8} {m : Nat} {ch : UInt8} {k : Nat} (hidx : Lib.indexByte (l.take (m + 1)) ch = k) : k < l.length ∧ k ≤ m ∧ l[k]? = some ch := by
  obtain ⟨h1, _⟩ := Lib.indexByte_some hidx
  have h2 := (List.getElem?_eq_some_iff.1 h1).1
  simp only [List.length_take] at h2
  refine ⟨by omega, by omega, ?_⟩
  rw [List.getElem?_take] at h1
  split at h1
  · exact h1
  · cases h1

/-- string(b[:k]) of what is left. -/
theorem convert_take {w : World} {p : Addr} {l : List UInt8} (h : BytesAt w (some p) l) (k c nq : Nat) (hk : k ≤ l.length) :
    (convert 29 9 (.slice (some p) k c)).run Tryd.prog (w.drewN nq) = .ok (.string ⟨(l.take k).toArray⟩) (w.drewN nq) := by
  have hl : (l.take k).length = k := by simp; omega
  have := run_convert_bytes_back (P := Tryd.prog) (w.drewN nq) 29 9 5 p c (l.take k) Tryd.underlying29 Tryd.underlying5 Tryd.underlying9 (fun j hj => by
    rw [List.length_take] at hj
    rw [List.getElem_take]
    exact h.cells j (by omega))
  rw [hl] at this
  exact this

/-- What the library's variables hold, now and whatever is done at blocks from B on. -/
def VarsOk (B : Nat) (w : World) : Prop := ∀ w', Below B w w' →
  Lib.TabIs Tryd.prog w' "internal/strconv.uint64pow10" .u64 Lib.pow10Tab ∧ (∃ tp p, w'.var? Tryd.prog "strconv.ErrSyntax" = some #[.iface tp p]) ∧ (∃ tp p, w'.var? Tryd.prog "strconv.ErrRange" = some #[.iface tp p])
theorem VarsOk.on {B : Nat} {w w' : World} (h : VarsOk B w) (hb : Below B w w') : VarsOk B w' := fun w2 h2 => h w2 (hb.trans h2)
theorem VarsOk.here {B : Nat} {w : World} (h : VarsOk B w) : Lib.TabIs Tryd.prog w "internal/strconv.uint64pow10" .u64 Lib.pow10Tab ∧ (∃ tp p, w.var? Tryd.prog "strconv.ErrSyntax" = some #[.iface tp p]) ∧ (∃ tp p, w.var? Tryd.prog "strconv.ErrRange" = some #[.iface tp p]) := h w (Below.refl _ _)
theorem VarsOk.tab {B : Nat} {w : World} (h : VarsOk B w) : Lib.TabBelow Tryd.prog B w "internal/strconv.uint64pow10" .u64 Lib.pow10Tab := fun w2 h2 => (h w2 h2).1
theorem below_of_grownBy {B rb : Nat} {w w' : World} (h : w.grownBy w' (some rb)) (hr : B ≤ rb) (hB : B ≤ w.heap.size) : Below B w w' :=
  (Below.refl B w).grown h hB (fun k hk => by cases hk; exact hr)

end Go.Proofs.YtkbonifbnbdbkaaDoor
