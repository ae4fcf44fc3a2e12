/-
  What a reader of package ben does to read a number (number), and Int: in the words of a list of bytes.
-/
import Derived.Test.YtkbonifbnbdbkaaDoorRd2
import Derived.Lib.ParseIntB
namespace Go.Proofs.YtkbonifbnbdbkaaDoor
open Go.RowKit

/-- The number whose digits these are, if there is one. -/
def numOf (d : List UInt8) : Option Int :=
  match Lib.parseIntB 64 d with
  | .ok n => if Lib.itoa n = d then some n else none
  | _ => none

theorem numOf_some {d : List UInt8} {n : Int} (h : numOf d = some n) : Lib.parseIntB 64 d = .ok n ∧ Lib.itoa n = d := by
  unfold numOf at h
  split at h
  · split at h
    · cases h; exact ⟨by assumption, by assumption⟩
    · cases h
  · cases h

/- Int -/
/-- What Int makes of what is left: what is left then, the error, the number. -/
def rdInt : List UInt8 → List UInt8 × Int × Int
  | [] => ([], 3, 0)
  | x :: l => if x ≠ 105 then ([], 4, 0) else
    if Lib.indexByte (l.take 21) 101 = -1 then (if 20 < l.length then ([], 4, 0) else ([], 3, 0)) else
    match numOf (l.take (Lib.indexByte (l.take 21) 101).toNat) with
    | some n => (l.drop ((Lib.indexByte (l.take 21) 101).toNat + 1), 0, n)
    | none => ([], 4, 0)


end Go.Proofs.YtkbonifbnbdbkaaDoor
