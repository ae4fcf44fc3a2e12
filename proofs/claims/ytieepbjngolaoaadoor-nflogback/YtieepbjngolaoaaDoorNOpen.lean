/-
  Arguments of layer 12, opened: two truth values.
-/
import Derived.Test.YtieepbjngolaoaaDoorVars
import Derived.Test.YtieepbjngolaoaaDoorOpen
import Derived.Test.YtieepbjngolaoaaDoorE3
namespace Go.Proofs.YtieepbjngolaoaaDoor
open Go.ChangeShapes Go.WideShapes Go.ChangeAt Go.RowKit Go.Deep

theorem u32_wf {z : Int} (h : (Lit.int .u32 z).wf = true) : 0 ≤ z ∧ z ≤ 4294967295 := by
  have q5 : IntKind.u32.min = 0 := rfl
  have q6 : IntKind.u32.max = 4294967295 := rfl
  simp only [Lit.wf, Bool.and_eq_true, decide_eq_true_eq] at h
  omega
theorem cellsBo1 : Tryd.prog.cellsOf 4 = 1 := by kernel_rfl
section
variable {H : Type} {enc : TypeId × Value → H} {W : World} {base : Nat} {sp : Nat → Bool} {held : Bool} {fuel : Nat} {x : DataW H × List MemPlace}
end
end Go.Proofs.YtieepbjngolaoaaDoor
