/-
  Arguments of layer 12, opened: a sending.
-/
import Derived.Test.YtieepbjngolaoaaDoorNOpen2
import Derived.Test.YtieepbjngolaoaaDoorN1
import Derived.Lib.SmallJoins
namespace Go.Proofs.YtieepbjngolaoaaDoor
open Go.ChangeShapes Go.WideShapes Go.ChangeAt Go.RowKit Go.Deep

theorem i64_wf {z : Int} (h : (Lit.int .i64 z).wf = true) : -9223372036854775808 ≤ z ∧ z ≤ 9223372036854775807 := by
  have q5 : IntKind.i64.min = -9223372036854775808 := rfl
  have q6 : IntKind.i64.max = 9223372036854775807 := rfl
  simp only [Lit.wf, Bool.and_eq_true, decide_eq_true_eq] at h
  omega
theorem cellsSend : Tryd.prog.cellsOf 33 = 4 := by kernel_rfl
section
variable {H : Type} {enc : TypeId × Value → H} {W : World} {base : Nat} {sp : Nat → Bool} {held : Bool} {fuel : Nat} {x : DataW H × List MemPlace}
set_option maxRecDepth 20000 in
theorem open_send {base' : Nat} {r0 : Reach} {v : Value} (hv : Value.okWide Tryd.prog W r0 base' 33 v) (h : DataW.trod enc Tryd.prog W base sp held fuel 33 v.cells.toList = some x) :
    ∃ s : Snd, v = .agg #[.string s.r, .string s.k, .string s.v, .int .i64 s.t] ∧ (-9223372036854775808 ≤ s.t ∧ s.t ≤ 9223372036854775807) := by
  obtain ⟨cs, rfl, hsz⟩ := okWide_struct Tryd.underlying33 hv
  obtain ⟨v0, v1, v2, v3, rfl⟩ := Go.Joins.array4 (hsz.trans cellsSend)
  obtain ⟨y0, y1, y2, y3, n, -, -, h0, h1, h2, h3⟩ := Go.Joins.trod_struct4 Tryd.underlying33 h
  simp [Value.cells, cellsInE, cellsStE] at h0 h1 h2 h3
  obtain ⟨s0, e0, -⟩ := DataW.trod_string Tryd.underlying9 h0
  obtain ⟨s1, e1, -⟩ := DataW.trod_string Tryd.underlying9 h1
  obtain ⟨s2, e2, -⟩ := DataW.trod_string Tryd.underlying9 h2
  obtain ⟨z3, e3, -, g3⟩ := DataW.trod_int Tryd.underlying3 h3
  simp only [List.cons.injEq, and_true] at e0 e1 e2 e3
  subst e0 e1 e2 e3
  exact ⟨⟨s0, s1, s2, z3⟩, rfl, i64_wf g3⟩
end

end Go.Proofs.YtieepbjngolaoaaDoor
