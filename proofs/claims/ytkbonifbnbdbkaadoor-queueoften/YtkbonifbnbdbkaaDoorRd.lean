/-
  What a reader of package ben is in memory, and what its small calls (fail, first, take, Open, Close, More, Left, Err) do to it.
  A reader lies in a block of its own, two cells: the bytes that are left, and the first error.
-/
import Derived.Test.YtkbonifbnbdbkaaDoorRows
import Derived.WalkKit
import Derived.WalkSpells
import Derived.WalkLawsBesides
namespace Go.Proofs.YtkbonifbnbdbkaaDoor
open Go.RowKit

theorem grownBy_setCell (w : World) (rb i : Nat) (v : Value) : w.grownBy (w.setCell ⟨rb, i, none⟩ v) (some rb) :=
  ⟨rfl, rfl, rfl, by simp [World.setCell], fun k _ hk => Below.heap_setCell _ _ _ _ (by intro e; exact hk (by rw [e]))⟩
theorem grownBy_refl (w : World) (r : Option Nat) : w.grownBy w r := ⟨rfl, rfl, rfl, Nat.le_refl _, fun _ _ _ => rfl⟩
theorem grownBy_trans {a b c : World} {r : Option Nat} (h : a.grownBy b r) (k : b.grownBy c r) : a.grownBy c r :=
  ⟨k.os.trans h.os, k.tape.trans h.tape, k.output.trans h.output, Nat.le_trans h.size k.size, fun i hi hr => (k.block i (Nat.lt_of_lt_of_le hi h.size) hr).trans (h.block i hi hr)⟩
theorem grownBy_of_below {w w' : World} {r : Option Nat} (h : Below w.heap.size w w') : w.grownBy w' r := ⟨h.os, h.tape, h.output, h.size, fun k hk _ => h.block k hk⟩

/-- The bytes of a list lie at an address; where there is none, anywhere. -/
def BytesAt (w : World) (a : Option Addr) (l : List UInt8) : Prop :=
  0 < l.length → ∃ b o, a = some ⟨b, o, none⟩ ∧ ∀ i, i < l.length → w.cell? ⟨b, o + i, none⟩ = some (.int .u8 (l.getD i 0).toNat)

theorem BytesAt.mono {w w' : World} {a : Option Addr} {l : List UInt8} {r : Option Nat} (h : BytesAt w a l) (hg : w.grownBy w' r) (hne : ∀ p, a = some p → some p.block ≠ r) : BytesAt w' a l := fun hn => by
  obtain ⟨b, o, rfl, hc⟩ := h hn
  exact ⟨b, o, rfl, fun i hi => hg.cell (hc i hi) (hne ⟨b, o, none⟩ rfl)⟩

theorem add_block (q : Addr) (k : Nat) : (q.add k).block = q.block := by unfold Addr.add; split <;> rfl
theorem sizeOf_u8 (w : World) : (Go.sizeOf 5).run Tryd.prog w = .ok 1 w := by kernel_rfl
theorem elem_bytes : Tryd.prog.elem 29 = 5 := by simp [Program.elem, Tryd.underlying29]
theorem slice_from (a : Option Addr) (n c k : Nat) (w : World) (hk : k ≤ n) :
    (Instr.slice 29 (.slice a n c) (some (.int .i64 (k : Int))) none none).run Tryd.prog w = .ok (.slice (if c = k then a else a.map (·.add (k * 1))) (n - k) (c - k)) w := by
  rw [run_slice_l w 29 _ _ _ (by rw [elem_bytes]; exact Tryd.underlying29) .i64 _ (by omega) (by omega), elem_bytes, sizeOf_u8]
  simp [Result.andThen, sliced]
theorem slice_to (a : Option Addr) (n c k : Nat) (w : World) (hk : k ≤ c) :
    (Instr.slice 29 (.slice a n c) none (some (.int .i64 (k : Int))) none).run Tryd.prog w = .ok (.slice a k c) w := by
  rw [run_slice_h w 29 _ _ _ (by rw [elem_bytes]; exact Tryd.underlying29) .i64 _ (by omega) (by omega), elem_bytes, sizeOf_u8]
  have e : (a.map fun x => x.add 0) = a := by cases a <;> simp [Addr.add]
  simp [Result.andThen, sliced, e]

/- first -/
/- take -/
/- Open, Close, More, Left, Err -/
/-- Whether a list goes on. -/
def moreB : List UInt8 → Bool
  | [] => false
  | x :: _ => (x.toNat : Int) != 101
end Go.Proofs.YtkbonifbnbdbkaaDoor
