/-
  Arguments of layer 12, opened: a revision and two times.
-/
import Derived.Test.YtieepbjngolaoaaDoorNOpen
import Derived.Test.YtieepbjngolaoaaDoorEOpen
namespace Go.Proofs.YtieepbjngolaoaaDoor
open Go.ChangeShapes Go.WideShapes Go.ChangeAt Go.RowKit Go.Deep

theorem cellsSp12 : Tryd.prog.cellsOf 26 = 3 := by kernel_rfl
theorem arrayThree {cs : Array Value} (h : cs.size = 3) : ∃ c0 c1 c2, cs = #[c0, c1, c2] := by
  obtain ⟨l⟩ := cs
  match l, h with
  | [c0, c1, c2], _ => exact ⟨c0, c1, c2, rfl⟩
section
variable {H : Type} {enc : TypeId × Value → H} {W : World} {base : Nat} {sp : Nat → Bool} {held : Bool} {fuel : Nat} {x : DataW H × List MemPlace}
set_option maxRecDepth 20000 in
theorem open_spot12 {base' : Nat} {r0 : Reach} {v : Value} (hv : Value.okWide Tryd.prog W r0 base' 26 v) (h : DataW.trod enc Tryd.prog W base sp held fuel 26 v.cells.toList = some x) :
    ∃ (s : ByteArray) (n m : Int), v = .agg #[.string s, .int .i64 n, .int .i64 m] := by
  obtain ⟨cs, rfl, hsz⟩ := okWide_struct Tryd.underlying26 hv
  obtain ⟨v0, v1, v2, rfl⟩ := arrayThree (hsz.trans cellsSp12)
  obtain ⟨y0, y1, y2, n, -, -, h0, h1, h2⟩ := trod_struct3 Tryd.underlying26 h
  simp [Value.cells, cellsInE, cellsStE] at h0 h1 h2
  obtain ⟨s, e0, -⟩ := DataW.trod_string Tryd.underlying9 h0
  obtain ⟨a, e1, -⟩ := DataW.trod_int Tryd.underlying3 h1
  obtain ⟨b, e2, -⟩ := DataW.trod_int Tryd.underlying3 h2
  simp only [List.cons.injEq, and_true] at e0 e1 e2
  subst e0 e1 e2
  exact ⟨s, a, b, rfl⟩
end

end Go.Proofs.YtieepbjngolaoaaDoor
