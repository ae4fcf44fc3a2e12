/-
  Arguments of layer 8, opened: alerts.
-/
import Derived.Test.YtdnpfmmkglgnjaaDoorG1
import Derived.Test.YtdnpfmmkglgnjaaDoorLOpen
import Derived.Lib.SmallJoins
import Derived.Deep.Strs
namespace Go.Proofs.YtdnpfmmkglgnjaaDoor
open Go.ChangeShapes Go.WideShapes Go.ChangeAt Go.RowKit Go.Deep

section
variable {H : Type} {enc : TypeId × Value → H} {W : World} {base : Nat} {sp : Nat → Bool} {held : Bool} {fuel : Nat} {x : DataW H × List MemPlace}

theorem aopen_cap {t e : TypeId} {a : Option Addr} {len cap : Nat} (ht : Tryd.prog.underlying t = some (.slice e)) (h : DataW.trod enc Tryd.prog W base sp held fuel t [.slice a len cap] = some x) : len ≤ cap ∧ (a = none → cap = 0) := by
  rcases open_slice ht h with ⟨hcs, -⟩ | ⟨q, len', cap', m, n, D, Pl, hcs, hb, hl, hm, hmm, -, hc⟩
  · simp only [List.cons.injEq, Value.slice.injEq, and_true] at hcs
    obtain ⟨rfl, rfl, rfl⟩ := hcs
    exact ⟨Nat.le_refl _, fun _ => rfl⟩
  · simp only [List.cons.injEq, Value.slice.injEq, and_true] at hcs
    obtain ⟨rfl, rfl, rfl⟩ := hcs
    exact ⟨hl, fun h => by cases h⟩
theorem aslice_cs {t e : TypeId} {cs : List Value} (ht : Tryd.prog.underlying t = some (.slice e)) (h : DataW.trod enc Tryd.prog W base sp held fuel t cs = some x) : ∃ a len cap, cs = [.slice a len cap] := by
  rcases open_slice ht h with ⟨rfl, -⟩ | ⟨a, len, cap, -, -, -, -, rfl, -⟩
  · exact ⟨_, _, _, rfl⟩
  · exact ⟨_, _, _, rfl⟩
theorem cellsAl : Tryd.prog.cellsOf 34 = 3 := by kernel_rfl
theorem cellsI : Tryd.prog.cellsOf 3 = 1 := by kernel_rfl
theorem cellsPs : Tryd.prog.cellsOf 22 = 1 := by kernel_rfl
/-- An alert's labels and numbers, as they fit. -/
def RwFit (r : Rw) : Prop := (r.ad = none → r.cp = 0) ∧ r.ps.length ≤ maxLen ∧ ∀ p ∈ r.ps, p.1.size ≤ maxLen ∧ p.2.size ≤ maxLen

set_option maxRecDepth 20000 in
theorem open_alertC {cs : List Value} (h : DataW.trod enc Tryd.prog W base sp held fuel 34 cs = some x) : ∃ r : Rw, cs = encW r ∧ PairsAt W r.ad r.ps ∧ RwFit r ∧ ∃ d, x.1 = .agg [d, .lit (.int .i64 r.st), .lit (.int .i64 r.en)] ∧ (d = .nil ∧ r.ps = [] ∨ ∃ spare, d = .slice (r.ps.map fun p => .agg [.lit (.string p.1.data.toList), .lit (.string p.2.data.toList)]) spare) := by
  obtain ⟨y0, y1, y2, n, hx, hl, h0, h1, h2⟩ := trod_struct3 Tryd.underlying34 h
  rw [cellsAl] at hl
  match cs, hl with
  | [v0, v1, v2], _ =>
    simp [cellsPs, cellsI] at h0 h1 h2
    obtain ⟨a0, n0, c0, e0⟩ := aslice_cs Tryd.underlying22 h0
    rw [e0] at h0
    have hc := aopen_cap Tryd.underlying22 h0
    obtain ⟨ps, rfl, k0, k1, k2, k3⟩ := open_pairs h0
    obtain ⟨z1, e1, f1, -⟩ := DataW.trod_int Tryd.underlying3 h1
    obtain ⟨z2, e2, f2, -⟩ := DataW.trod_int Tryd.underlying3 h2
    simp only [List.cons.injEq, and_true] at e0 e1 e2
    subst e0 e1 e2
    exact ⟨⟨ps, z1, z2, a0, c0⟩, rfl, k0, ⟨hc.2, k1, k2⟩, y0.1, by rw [hx, f1, f2], k3⟩
set_option maxRecDepth 20000 in
theorem open_alerts {a : Option Addr} {len cap : Nat} (h : DataW.trod enc Tryd.prog W base sp held fuel 26 [.slice a len cap] = some x) :
    ∃ l : List Rw, l.length = len ∧ AlsAt W a l ∧ l.length ≤ 9223372036854775807 ∧ ∀ y ∈ l, RwFit y := by
  have kM : maxLen = 9223372036854775807 := rfl
  rcases open_slice Tryd.underlying26 h with ⟨hcs, -⟩ | ⟨q, len', cap', m, n, D, Pl, hcs, hb, hl, hm, hmm, -, hc⟩
  · simp only [List.cons.injEq, Value.slice.injEq, and_true] at hcs
    obtain ⟨rfl, rfl, rfl⟩ := hcs
    exact ⟨[], rfl, fun hi => absurd hi (by simp), Nat.zero_le _, fun p hp => by cases hp⟩
  · simp only [List.cons.injEq, Value.slice.injEq, and_true] at hcs
    obtain ⟨rfl, rfl, rfl⟩ := hcs
    rw [cellsAl] at hc
    haveI : Inhabited Rw := ⟨⟨[], 0, 0, none, 0⟩⟩
    have each : ∀ i, i < m → ∃ y : Rw, W.cells? base (q.add (i * 3)) 3 = some (encW y) ∧ PairsAt W y.ad y.ps ∧ RwFit y := fun i hi => by
      obtain ⟨cs', h1, h2⟩ := hc i hi
      obtain ⟨y, rfl, h3, h4, -⟩ := open_alertC h2
      exact ⟨y, h1, h3, h4⟩
    obtain ⟨f, hf⟩ := choose_lt each
    have hlm : len ≤ m := by split at hmm <;> omega
    refine ⟨(List.range len).map f, by simp, fun hn => ?_, by simp; omega, fun y hy => ?_⟩
    · simp only [List.length_map, List.length_range] at hn
      obtain ⟨hc0, -⟩ := hf 0 (by omega)
      have hc00 := (World.cells?_some hc0).2.2 0 (by decide)
      obtain ⟨b, o, s⟩ := q
      obtain rfl : s = none := by simpa [Addr.add] using World.cell?_spot hc00
      refine ⟨b, o, rfl, ?_, fun i hi => ?_⟩
      · have := World.block_lt_of_cell? W _ hc00
        simpa [Addr.add] using this
      · simp only [List.length_map, List.length_range] at hi
        obtain ⟨c0, c1, -⟩ := hf i (by omega)
        simp only [List.getElem_map, List.getElem_range]
        obtain ⟨-, hk, hcell⟩ := World.cells?_some c0
        have g : ∀ j v, (encW (f i))[j]? = some v → W.cell? ⟨b, o + i * 3 + j, none⟩ = some v := fun j v hv => by
          have hj := (List.getElem?_eq_some_iff.1 hv).1
          have := (hcell j (by omega)).trans hv
          rw [Go.WideShapes.add_plain, Go.WideShapes.add_plain] at this
          exact this
        exact ⟨g 0 _ rfl, g 1 _ rfl, g 2 _ rfl, c1⟩
    · obtain ⟨i, hi, rfl⟩ := List.mem_map.1 hy
      exact (hf i (by have := List.mem_range.1 hi; omega)).2.2

end

end Go.Proofs.YtdnpfmmkglgnjaaDoor
