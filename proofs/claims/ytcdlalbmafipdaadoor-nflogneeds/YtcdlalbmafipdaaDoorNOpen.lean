/-
  Arguments of layer 12, opened: two truth values.
-/
import Derived.Test.YtcdlalbmafipdaaDoorVars
import Derived.Test.YtcdlalbmafipdaaDoorOpen
import Derived.Test.YtcdlalbmafipdaaDoorE3
namespace Go.Proofs.YtcdlalbmafipdaaDoor
open Go.ChangeShapes Go.WideShapes Go.ChangeAt Go.RowKit Go.Deep

theorem u32_wf {z : Int} (h : (Lit.int .u32 z).wf = true) : 0 ≤ z ∧ z ≤ 4294967295 := by
  have q5 : IntKind.u32.min = 0 := rfl
  have q6 : IntKind.u32.max = 4294967295 := rfl
  simp only [Lit.wf, Bool.and_eq_true, decide_eq_true_eq] at h
  omega
theorem cellsBo1 : Tryd.prog.cellsOf 4 = 1 := by kernel_rfl
section
variable {H : Type} {enc : TypeId × Value → H} {W : World} {base : Nat} {sp : Nat → Bool} {held : Bool} {fuel : Nat} {x : DataW H × List MemPlace}
set_option maxRecDepth 20000 in
theorem open_bools2 {base' : Nat} {r : Reach} {v : Value} (hv : Value.okWide Tryd.prog W r base' 47 v) (h : DataW.trod enc Tryd.prog W base sp held fuel 47 v.cells.toList = some x) :
    ∃ f g : Bool, v = .agg #[.bool f, .bool g] := by
  simp only [Value.okWide, Tryd.underlying47] at hv
  obtain ⟨cs, rfl, -, -⟩ := hv
  obtain ⟨xs, m, -, -, hl, hxs, hx⟩ := DataW.trod_array Tryd.underlying47 h
  have hl2 : cs.toList.length = 2 := hl.trans (by kernel_rfl)
  rw [cellsBo1] at hx
  match cs, hl2 with
  | ⟨[v0, v1]⟩, _ =>
    have g0 := hx 0 (by decide)
    have g1 := hx 1 (by decide)
    match xs, hxs with
    | [y0, y1], _ =>
      simp [Value.cells] at g0 g1
      obtain ⟨f, e, -⟩ := DataW.trod_bool Tryd.underlying4 g0
      obtain ⟨g, e', -⟩ := DataW.trod_bool Tryd.underlying4 g1
      simp only [List.cons.injEq, and_true] at e e'
      subst e e'
      exact ⟨f, g, rfl⟩
set_option maxRecDepth 20000 in
theorem open_strs2 {base' : Nat} {r : Reach} {v : Value} (hv : Value.okWide Tryd.prog W r base' 44 v) (h : DataW.trod enc Tryd.prog W base sp held fuel 44 v.cells.toList = some x) :
    ∃ f g : ByteArray, v = .agg #[.string f, .string g] ∧ x.1 = .agg [.lit (.string f.data.toList), .lit (.string g.data.toList)] := by
  simp only [Value.okWide, Tryd.underlying44] at hv
  obtain ⟨cs, rfl, -, -⟩ := hv
  obtain ⟨xs, m, -, hq, hl, hxs, hx⟩ := DataW.trod_array Tryd.underlying44 h
  have hl2 : cs.toList.length = 2 := hl.trans (by kernel_rfl)
  rw [cellsStr] at hx
  match cs, hl2 with
  | ⟨[v0, v1]⟩, _ =>
    have g0 := hx 0 (by decide)
    have g1 := hx 1 (by decide)
    match xs, hxs with
    | [y0, y1], _ =>
      simp [Value.cells] at g0 g1
      obtain ⟨f, e, k, -⟩ := DataW.trod_string Tryd.underlying9 g0
      obtain ⟨g, e', k', -⟩ := DataW.trod_string Tryd.underlying9 g1
      simp only [List.cons.injEq, and_true] at e e'
      subst e e'
      refine ⟨f, g, rfl, ?_⟩
      rw [hq, k, k']
      simp
end
theorem reach_strs2 {H : Type} {ts : List TypeId} {ds : List (DataW H)} (hsz : (DataW.weightsEach Tryd.prog ts ds).all (· ≤ reachBytes) = true) {j : Nat} {d : DataW H} (ht : ts[j]? = some 44) (hd : ds[j]? = some d) {f g : ByteArray}
    (h : d = .agg [.lit (.string f.data.toList), .lit (.string g.data.toList)]) : f.size + g.size ≤ 281474976710656 := by
  subst h
  have h2 : reachBytes = 140737488351232 := by decide
  have q1 := List.all_eq_true.1 hsz _ (DataW.weights_mem_each ht hd f.data.toList.length (by simp [DataW.weights, DataW.weightsAll, Tryd.underlying44]))
  have q2 := List.all_eq_true.1 hsz _ (DataW.weights_mem_each ht hd g.data.toList.length (by simp [DataW.weights, DataW.weightsAll, Tryd.underlying44]))
  have e1 : f.data.toList.length = f.size := rfl
  have e2 : g.data.toList.length = g.size := rfl
  simp only [decide_eq_true_eq] at q1 q2
  omega

end Go.Proofs.YtcdlalbmafipdaaDoor
