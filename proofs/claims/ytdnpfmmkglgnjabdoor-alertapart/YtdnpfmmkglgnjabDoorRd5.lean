/-
  What Open, Close and Text of a reader make of what is left, each in one contract.
-/
import Derived.Test.YtdnpfmmkglgnjabDoorRd4
namespace Go.Proofs.YtdnpfmmkglgnjabDoor
open Go.RowKit

/-- What Open, or Close, makes of what is left, where there was no error. -/
def rdByte (ch : UInt8) : List UInt8 → List UInt8 × Int
  | [] => ([], 3)
  | x :: l => if x = ch then (l, 0) else ([], 4)

theorem ne_byte {x ch : UInt8} {n : Nat} (hn : ch.toNat = n) (h : ¬ x = ch) : ((x.toNat : Int) != n) = true := by
  have : x.toNat ≠ ch.toNat := fun e => h (UInt8.toNat_inj.1 e)
  simp
  omega

/-- How many bytes are left, as memory tells it. -/
def leftN (rb : Nat) (w : World) : Nat := match w.cell? ⟨rb, 0, none⟩ with | some (.slice _ n _) => n | _ => 0
end Go.Proofs.YtdnpfmmkglgnjabDoor
