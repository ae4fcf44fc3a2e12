/-
  A configuration, opened: its own two lists that lie nowhere have no room either.
-/
import Derived.Test.YthaimnmbcbhioaaDoorROpen2
namespace Go.Proofs.YthaimnmbcbhioaaDoor
open Go.ChangeAt Go.ChangeShapes Go.Deep Go.RowKit Go.WideShapes

section
variable {H : Type} {enc : TypeId × Value → H} {W : World} {base : Nat} {sp : Nat → Bool} {held : Bool} {fuel : Nat} {x : DataW H × List MemPlace}

set_option maxRecDepth 20000 in
theorem open_config3 {base' : Nat} {r : Reach} {v : Value} (hv : Value.okWide Tryd.prog W r base' 25 v) (h : DataW.trod enc Tryd.prog W base sp held fuel 25 v.cells.toList = some x) :
    ∃ (a : Option Addr) (c : Nat) (l : List Rt) (b : Option Addr) (d : Nat) (ls : List Rl) (pt rs : Int), v = .agg #[.slice a l.length c, .slice b ls.length d, .int .i64 pt, .int .i64 rs] ∧
      (RtsAt W a l ∧ l.length ≤ maxLen ∧ (∀ r ∈ l, RtOk r) ∧ ∀ r ∈ l, RtNil r) ∧ (RlsAt W b ls ∧ ls.length ≤ maxLen ∧ (∀ r ∈ ls, RlOk r) ∧ ∀ r ∈ ls, RlNil r) ∧ (a = none → c = 0) ∧ (b = none → d = 0) := by
  obtain ⟨a, c, l, b, d, ls, z2, z3, rfl, k0, k1⟩ := open_config2 hv h
  obtain ⟨y0, y1, y2, y3, n, -, -, h0, h1, -, -⟩ := Go.Joins.trod_struct4 Tryd.underlying25 h
  simp [Value.cells, cellsRts1, cellsRls1] at h0 h1
  exact ⟨a, c, l, b, d, ls, z2, z3, rfl, k0, k1, (open_cap Tryd.underlying22 h0).2, (open_cap Tryd.underlying23 h1).2⟩
end

end Go.Proofs.YthaimnmbcbhioaaDoor
