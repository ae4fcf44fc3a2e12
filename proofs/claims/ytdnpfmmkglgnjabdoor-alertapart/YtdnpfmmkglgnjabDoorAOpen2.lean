/-
  Arguments of layer 7, opened: calls, and an alert.
-/
import Derived.Test.YtdnpfmmkglgnjabDoorA14
import Derived.Test.YtdnpfmmkglgnjabDoorLOpen
import Derived.Lib.SmallJoins
import Derived.Deep.Strs
namespace Go.Proofs.YtdnpfmmkglgnjabDoor
open Go.ChangeShapes Go.WideShapes Go.ChangeAt Go.RowKit Go.Deep

section
variable {H : Type} {enc : TypeId × Value → H} {W : World} {base : Nat} {sp : Nat → Bool} {held : Bool} {fuel : Nat} {x : DataW H × List MemPlace}

theorem aopen_cap {t e : TypeId} {a : Option Addr} {len cap : Nat} (ht : Tryd.prog.underlying t = some (.slice e)) (h : DataW.trod enc Tryd.prog W base sp held fuel t [.slice a len cap] = some x) : len ≤ cap ∧ (a = none → cap = 0) := by
  rcases open_slice ht h with ⟨hcs, -⟩ | ⟨q, len', cap', m, n, D, Pl, hcs, hb, hl, hm, hmm, -, hc⟩
  · simp only [List.cons.injEq, Value.slice.injEq, and_true] at hcs
    obtain ⟨rfl, rfl, rfl⟩ := hcs
    exact ⟨Nat.le_refl _, fun _ => rfl⟩
  · simp only [List.cons.injEq, Value.slice.injEq, and_true] at hcs
    obtain ⟨rfl, rfl, rfl⟩ := hcs
    exact ⟨hl, fun h => by cases h⟩
theorem aslice_cs {t e : TypeId} {cs : List Value} (ht : Tryd.prog.underlying t = some (.slice e)) (h : DataW.trod enc Tryd.prog W base sp held fuel t cs = some x) : ∃ a len cap, cs = [.slice a len cap] := by
  rcases open_slice ht h with ⟨rfl, -⟩ | ⟨a, len, cap, -, -, -, -, rfl, -⟩
  · exact ⟨_, _, _, rfl⟩
  · exact ⟨_, _, _, rfl⟩
theorem cellsAl : Tryd.prog.cellsOf 25 = 3 := by kernel_rfl
theorem cellsAc : Tryd.prog.cellsOf 36 = 5 := by kernel_rfl
theorem cellsI : Tryd.prog.cellsOf 3 = 1 := by kernel_rfl
theorem cellsU8a : Tryd.prog.cellsOf 5 = 1 := by kernel_rfl
theorem cellsPs : Tryd.prog.cellsOf 23 = 1 := by kernel_rfl
/-- An alert's labels and numbers, as they fit. -/
def RwFit (r : Rw) : Prop := (r.ad = none → r.cp = 0) ∧ r.ps.length ≤ maxLen ∧ ∀ p ∈ r.ps, p.1.size ≤ maxLen ∧ p.2.size ≤ maxLen

set_option maxRecDepth 20000 in
theorem open_alertC {cs : List Value} (h : DataW.trod enc Tryd.prog W base sp held fuel 25 cs = some x) : ∃ r : Rw, cs = encW r ∧ PairsAt W r.ad r.ps ∧ RwFit r ∧ ∃ d, x.1 = .agg [d, .lit (.int .i64 r.st), .lit (.int .i64 r.en)] ∧ (d = .nil ∧ r.ps = [] ∨ ∃ spare, d = .slice (r.ps.map fun p => .agg [.lit (.string p.1.data.toList), .lit (.string p.2.data.toList)]) spare) := by
  obtain ⟨y0, y1, y2, n, hx, hl, h0, h1, h2⟩ := trod_struct3 Tryd.underlying25 h
  rw [cellsAl] at hl
  match cs, hl with
  | [v0, v1, v2], _ =>
    simp [cellsPs, cellsI] at h0 h1 h2
    obtain ⟨a0, n0, c0, e0⟩ := aslice_cs Tryd.underlying23 h0
    rw [e0] at h0
    have hc := aopen_cap Tryd.underlying23 h0
    obtain ⟨ps, rfl, k0, k1, k2, k3⟩ := open_pairs h0
    obtain ⟨z1, e1, f1, -⟩ := DataW.trod_int Tryd.underlying3 h1
    obtain ⟨z2, e2, f2, -⟩ := DataW.trod_int Tryd.underlying3 h2
    simp only [List.cons.injEq, and_true] at e0 e1 e2
    subst e0 e1 e2
    exact ⟨⟨ps, z1, z2, a0, c0⟩, rfl, k0, ⟨hc.2, k1, k2⟩, y0.1, by rw [hx, f1, f2], k3⟩
set_option maxRecDepth 20000 in
theorem open_actC {cs : List Value} (h : DataW.trod enc Tryd.prog W base sp held fuel 36 cs = some x) : ∃ y : Ac, cs = encAc y ∧ PairsAt W y.al.ad y.al.ps ∧ AcOk y := by
  obtain ⟨y0, y1, y2, n, -, hl, h0, h1, h2⟩ := trod_struct3 Tryd.underlying36 h
  rw [cellsAc] at hl
  match cs, hl with
  | [v0, v1, v2, v3, v4], _ =>
    simp [cellsAl, cellsI, cellsU8a] at h0 h1 h2
    obtain ⟨z0, e0, -, g0⟩ := DataW.trod_int Tryd.underlying5 h0
    obtain ⟨r, e1, k1, k2, -⟩ := open_alertC h1
    obtain ⟨z2, e2, -, -⟩ := DataW.trod_int Tryd.underlying3 h2
    simp only [encW, List.cons.injEq, and_true] at e0 e1 e2
    obtain ⟨rfl, rfl, rfl⟩ := e1
    subst e0 e2
    have kM : maxLen = 9223372036854775807 := rfl
    have h3 : IntKind.u8.min = 0 := rfl
    have h4 : IntKind.u8.max = 255 := rfl
    simp only [Lit.wf, Bool.and_eq_true, decide_eq_true_eq] at g0
    exact ⟨⟨z0, r, z2⟩, rfl, k1, ⟨by show 0 ≤ z0; omega, by show z0 < 256; omega⟩, k2.1, by have := k2.2.1; show r.ps.length ≤ _; omega, fun p hp => by have := (k2.2.2 p hp).1; omega⟩
set_option maxRecDepth 20000 in
theorem open_aacts {a : Option Addr} {len cap : Nat} (h : DataW.trod enc Tryd.prog W base sp held fuel 22 [.slice a len cap] = some x) :
    ∃ l : List Ac, l.length = len ∧ AcsAt W a l ∧ l.length ≤ 9223372036854775807 ∧ ∀ y ∈ l, AcOk y := by
  have kM : maxLen = 9223372036854775807 := rfl
  rcases open_slice Tryd.underlying22 h with ⟨hcs, -⟩ | ⟨q, len', cap', m, n, D, Pl, hcs, hb, hl, hm, hmm, -, hc⟩
  · simp only [List.cons.injEq, Value.slice.injEq, and_true] at hcs
    obtain ⟨rfl, rfl, rfl⟩ := hcs
    exact ⟨[], rfl, fun hi => absurd hi (by simp), Nat.zero_le _, fun p hp => by cases hp⟩
  · simp only [List.cons.injEq, Value.slice.injEq, and_true] at hcs
    obtain ⟨rfl, rfl, rfl⟩ := hcs
    rw [cellsAc] at hc
    haveI : Inhabited Ac := ⟨⟨0, ⟨[], 0, 0, none, 0⟩, 0⟩⟩
    have each : ∀ i, i < m → ∃ y : Ac, W.cells? base (q.add (i * 5)) 5 = some (encAc y) ∧ PairsAt W y.al.ad y.al.ps ∧ AcOk y := fun i hi => by
      obtain ⟨cs', h1, h2⟩ := hc i hi
      obtain ⟨y, rfl, h3, h4⟩ := open_actC h2
      exact ⟨y, h1, h3, h4⟩
    obtain ⟨f, hf⟩ := choose_lt each
    have hlm : len ≤ m := by split at hmm <;> omega
    refine ⟨(List.range len).map f, by simp, fun hn => ?_, by simp; omega, fun y hy => ?_⟩
    · simp only [List.length_map, List.length_range] at hn
      obtain ⟨hc0, -⟩ := hf 0 (by omega)
      have hc00 := (World.cells?_some hc0).2.2 0 (by decide)
      obtain ⟨b, o, s⟩ := q
      obtain rfl : s = none := by simpa [Addr.add] using World.cell?_spot hc00
      refine ⟨b, o, rfl, ?_, fun i hi => ?_⟩
      · have := World.block_lt_of_cell? W _ hc00
        simpa [Addr.add] using this
      · simp only [List.length_map, List.length_range] at hi
        obtain ⟨c0, c1, -⟩ := hf i (by omega)
        simp only [List.getElem_map, List.getElem_range]
        refine ⟨fun j v hv => ?_, c1⟩
        obtain ⟨-, hk, hcell⟩ := World.cells?_some c0
        have hj := (List.getElem?_eq_some_iff.1 hv).1
        have := (hcell j (by omega)).trans hv
        rw [Go.WideShapes.add_plain, Go.WideShapes.add_plain] at this
        exact this
    · obtain ⟨i, hi, rfl⟩ := List.mem_map.1 hy
      exact (hf i (by have := List.mem_range.1 hi; omega)).2.2
set_option maxRecDepth 20000 in
theorem open_alert {base' : Nat} {r0 : Reach} {v : Value} (hv : Value.okWide Tryd.prog W r0 base' 25 v) (h : DataW.trod enc Tryd.prog W base sp held fuel 25 v.cells.toList = some x) :
    ∃ r : Rw, v = .agg #[.slice r.ad r.ps.length r.cp, .int .i64 r.st, .int .i64 r.en] ∧ PairsAt W r.ad r.ps ∧ RwFit r ∧ ∃ d, x.1 = .agg [d, .lit (.int .i64 r.st), .lit (.int .i64 r.en)] ∧ (d = .nil ∧ r.ps = [] ∨ ∃ spare, d = .slice (r.ps.map fun p => .agg [.lit (.string p.1.data.toList), .lit (.string p.2.data.toList)]) spare) := by
  obtain ⟨cs, rfl, hsz⟩ := okWide_struct Tryd.underlying25 hv
  obtain ⟨v0, v1, v2, rfl⟩ := Go.Joins.array3 (hsz.trans cellsAl)
  obtain ⟨r, e, h1, h2, h3⟩ := open_alertC h
  simp only [Value.cells, encW, List.cons.injEq, and_true] at e
  obtain ⟨rfl, rfl, rfl⟩ := e
  exact ⟨r, rfl, h1, h2, h3⟩

end

end Go.Proofs.YtdnpfmmkglgnjabDoor
