/-
  What Text of a reader of package ben does, in the words of a list of bytes.
-/
import Derived.Test.YtkbonifbnbdbkaaDoorRd3
namespace Go.Proofs.YtkbonifbnbdbkaaDoor
open Go.RowKit

/-- What Text makes of what is left: what is left then, the error, the text. -/
def rdText (most : Int) : List UInt8 → List UInt8 × Int × List UInt8
  | [] => ([], 3, [])
  | x :: l => if x.toNat < 48 ∨ 57 < x.toNat then ([], 4, []) else
    if Lib.indexByte ((x :: l).take 11) 58 = -1 then (if 10 < l.length + 1 then ([], 4, []) else ([], 3, [])) else
    match numOf ((x :: l).take (Lib.indexByte ((x :: l).take 11) 58).toNat) with
    | none => ([], 4, [])
    | some n => if 1000000000 < n then ([], 4, []) else if most < n then ([], 5, []) else
      if (((x :: l).drop ((Lib.indexByte ((x :: l).take 11) 58).toNat + 1)).length : Int) < n then ([], 3, []) else
      (((x :: l).drop ((Lib.indexByte ((x :: l).take 11) 58).toNat + 1)).drop n.toNat, 0, ((x :: l).drop ((Lib.indexByte ((x :: l).take 11) 58).toNat + 1)).take n.toNat)

/-- Digits of which the first is one are no number below 0. -/
theorem numOf_digit {x : UInt8} {l : List UInt8} {k : Nat} {n : Int} (hx : 48 ≤ x.toNat) (h : numOf ((x :: l).take k) = some n) : 0 ≤ n := by
  obtain ⟨_, hd⟩ := numOf_some h
  rcases Int.lt_or_le n 0 with hn | hn
  · unfold Lib.itoa at hd
    rw [if_pos hn] at hd
    cases k with
    | zero => simp at hd
    | succ k => simp only [List.take_succ_cons, List.cons.injEq] at hd; have := hd.1; subst this; simp at hx
  · exact hn

end Go.Proofs.YtkbonifbnbdbkaaDoor
