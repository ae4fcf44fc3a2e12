/-
  Arguments of layer 13, opened: a packet.
-/
import Derived.Test.YtchhdffehkcecaaDoorVars
import Derived.Test.YtchhdffehkcecaaDoorOpen
import Derived.Test.YtchhdffehkcecaaDoorP3
import Derived.Lib.SmallJoins
namespace Go.Proofs.YtchhdffehkcecaaDoor
open Go.ChangeShapes Go.WideShapes Go.ChangeAt Go.RowKit Go.Deep

theorem cellsMem : Tryd.prog.cellsOf 45 = 3 := by kernel_rfl
theorem cellsPkt : Tryd.prog.cellsOf 26 = 6 := by kernel_rfl
theorem cellsSta : Tryd.prog.cellsOf 43 = 1 := by kernel_rfl
theorem cellsU81 : Tryd.prog.cellsOf 5 = 1 := by kernel_rfl
theorem cellsMms : Tryd.prog.cellsOf 23 = 1 := by kernel_rfl
theorem cellsEns : Tryd.prog.cellsOf 24 = 1 := by kernel_rfl
theorem arraySix {cs : Array Value} (h : cs.size = 6) : ∃ c0 c1 c2 c3 c4 c5, cs = #[c0, c1, c2, c3, c4, c5] := by
  obtain ⟨l⟩ := cs
  match l, h with
  | [c0, c1, c2, c3, c4, c5], _ => exact ⟨c0, c1, c2, c3, c4, c5, rfl⟩
section
variable {H : Type} {enc : TypeId × Value → H} {W : World} {base : Nat} {sp : Nat → Bool} {held : Bool} {fuel : Nat} {x : DataW H × List MemPlace}
theorem trod_six {t : TypeId} {f0 f1 f2 f3 f4 f5 : Field} {cs : List Value} (ht : Tryd.prog.underlying t = some (.struct #[f0, f1, f2, f3, f4, f5])) (h : DataW.trod enc Tryd.prog W base sp held fuel t cs = some x) :
    ∃ y0 y1 y2 y3 y4 y5 n, cs.length = Tryd.prog.cellsOf t ∧ DataW.trod enc Tryd.prog W base sp held n f0.type ((cs.drop f0.offset).take (Tryd.prog.cellsOf f0.type)) = some y0 ∧
      DataW.trod enc Tryd.prog W base sp held n f1.type ((cs.drop f1.offset).take (Tryd.prog.cellsOf f1.type)) = some y1 ∧ DataW.trod enc Tryd.prog W base sp held n f2.type ((cs.drop f2.offset).take (Tryd.prog.cellsOf f2.type)) = some y2 ∧
      DataW.trod enc Tryd.prog W base sp held n f3.type ((cs.drop f3.offset).take (Tryd.prog.cellsOf f3.type)) = some y3 ∧ DataW.trod enc Tryd.prog W base sp held n f4.type ((cs.drop f4.offset).take (Tryd.prog.cellsOf f4.type)) = some y4 ∧
      DataW.trod enc Tryd.prog W base sp held n f5.type ((cs.drop f5.offset).take (Tryd.prog.cellsOf f5.type)) = some y5 := by
  obtain ⟨xs, n, _, -, hl, hlen, hf⟩ := DataW.trod_struct ht h
  match xs, hlen with
  | [y0, y1, y2, y3, y4, y5], _ => exact ⟨y0, y1, y2, y3, y4, y5, n, hl, by simpa using hf 0 f0 rfl, by simpa using hf 1 f1 rfl, by simpa using hf 2 f2 rfl, by simpa using hf 3 f3 rfl, by simpa using hf 4 f4 rfl, by simpa using hf 5 f5 rfl⟩
theorem slice_csP {t e : TypeId} {cs : List Value} (ht : Tryd.prog.underlying t = some (.slice e)) (h : DataW.trod enc Tryd.prog W base sp held fuel t cs = some x) : ∃ a len cap, cs = [.slice a len cap] := by
  rcases open_slice ht h with ⟨hcs, -⟩ | ⟨q, len', cap', m, n, D, Pl, hcs, -⟩
  · exact ⟨_, _, _, hcs⟩
  · exact ⟨_, _, _, hcs⟩
theorem popen_cap {t e : TypeId} {a : Option Addr} {len cap : Nat} (ht : Tryd.prog.underlying t = some (.slice e)) (h : DataW.trod enc Tryd.prog W base sp held fuel t [.slice a len cap] = some x) : a = none → cap = 0 := by
  rcases open_slice ht h with ⟨hcs, -⟩ | ⟨q, len', cap', m, n, D, Pl, hcs, -⟩
  · simp only [List.cons.injEq, Value.slice.injEq, and_true] at hcs
    exact fun _ => hcs.2.2
  · simp only [List.cons.injEq, Value.slice.injEq, and_true] at hcs
    exact fun h0 => by rw [h0] at hcs; cases hcs.1
set_option maxRecDepth 20000 in
theorem open_memC {cs : List Value} (h : DataW.trod enc Tryd.prog W base sp held fuel 45 cs = some x) : ∃ m : Mem, cs = encM m ∧ m.Ok := by
  obtain ⟨y0, y1, y2, n, -, hl, h0, h1, h2⟩ := trod_struct3 Tryd.underlying45 h
  rw [cellsMem] at hl
  match cs, hl with
  | [v0, v1, v2], _ =>
    simp [cellsU16E, cellsSta, cellsInE] at h0 h1 h2
    obtain ⟨z0, e0, -, g0⟩ := DataW.trod_int Tryd.underlying22 h0
    obtain ⟨z1, e1, -, g1⟩ := DataW.trod_int Tryd.underlying43 h1
    obtain ⟨z2, e2, -, g2⟩ := DataW.trod_int Tryd.underlying3 h2
    simp only [List.cons.injEq, and_true] at e0 e1 e2
    subst e0 e1 e2
    have q1 : IntKind.u16.min = 0 := rfl
    have q2 : IntKind.u16.max = 65535 := rfl
    have q3 : IntKind.u8.min = 0 := rfl
    have q4 : IntKind.u8.max = 255 := rfl
    have q5 : IntKind.i64.min = -9223372036854775808 := rfl
    have q6 : IntKind.i64.max = 9223372036854775807 := rfl
    simp only [Lit.wf, Bool.and_eq_true, decide_eq_true_eq] at g0 g1 g2
    exact ⟨⟨z0, z1, z2⟩, rfl, ⟨by dsimp only; omega, by dsimp only; omega⟩, ⟨by dsimp only; omega, by dsimp only; omega⟩, by dsimp only; omega, by dsimp only; omega⟩
set_option maxRecDepth 20000 in
theorem open_members {a : Option Addr} {len cap : Nat} (h : DataW.trod enc Tryd.prog W base sp held fuel 23 [.slice a len cap] = some x) :
    ∃ l : List Mem, l.length = len ∧ MemsAt W a l ∧ l.length ≤ 9223372036854775807 ∧ ∀ y ∈ l, y.Ok := by
  have kM : maxLen = 9223372036854775807 := rfl
  rcases open_slice Tryd.underlying23 h with ⟨hcs, -⟩ | ⟨q, len', cap', m, n, D, Pl, hcs, hb, hl, hm, hmm, -, hc⟩
  · simp only [List.cons.injEq, Value.slice.injEq, and_true] at hcs
    obtain ⟨rfl, rfl, rfl⟩ := hcs
    exact ⟨[], rfl, fun hi => absurd hi (by simp), Nat.zero_le _, fun p hp => by cases hp⟩
  · simp only [List.cons.injEq, Value.slice.injEq, and_true] at hcs
    obtain ⟨rfl, rfl, rfl⟩ := hcs
    rw [cellsMem] at hc
    haveI : Inhabited Mem := ⟨⟨0, 0, 0⟩⟩
    have each : ∀ i, i < m → ∃ y : Mem, W.cells? base (q.add (i * 3)) 3 = some (encM y) ∧ y.Ok := fun i hi => by
      obtain ⟨cs', h1, h2⟩ := hc i hi
      obtain ⟨y, rfl, h3⟩ := open_memC h2
      exact ⟨y, h1, h3⟩
    obtain ⟨f, hf⟩ := choose_lt each
    have hlm : len ≤ m := by split at hmm <;> omega
    refine ⟨(List.range len).map f, by simp, fun hn => ?_, by simp; omega, fun y hy => ?_⟩
    · simp only [List.length_map, List.length_range] at hn
      obtain ⟨hc0, -⟩ := hf 0 (by omega)
      have hc00 := (World.cells?_some hc0).2.2 0 (by decide)
      obtain ⟨b, o, s⟩ := q
      obtain rfl : s = none := by simpa [Addr.add] using World.cell?_spot hc00
      refine ⟨b, o, rfl, ?_, fun i hi => ?_⟩
      · have := World.block_lt_of_cell? W _ hc00
        simpa [Addr.add] using this
      · simp only [List.length_map, List.length_range] at hi
        obtain ⟨c0, -⟩ := hf i (by omega)
        simp only [List.getElem_map, List.getElem_range]
        intro j v hv
        obtain ⟨-, hk, hcell⟩ := World.cells?_some c0
        have hj := (List.getElem?_eq_some_iff.1 hv).1
        have := (hcell j (by omega)).trans hv
        rw [Go.WideShapes.add_plain, Go.WideShapes.add_plain] at this
        exact this
    · obtain ⟨i, hi, rfl⟩ := List.mem_map.1 hy
      exact (hf i (by have := List.mem_range.1 hi; omega)).2
set_option maxRecDepth 20000 in
theorem open_packet {base' : Nat} {r0 : Reach} {v : Value} (hv : Value.okWide Tryd.prog W r0 base' 26 v) (h : DataW.trod enc Tryd.prog W base sp held fuel 26 v.cells.toList = some x) :
    ∃ (p : Pk) (am : Option Addr) (cm : Nat) (ae : Option Addr) (ce : Nat), v = .agg #[.int .u8 p.k, .int .u16 p.f, .int .u16 p.a, .int .i64 p.q, .slice am p.ms.length cm, .slice ae p.es.length ce] ∧ MemsAt W am p.ms ∧ EntsAt W ae p.es ∧ p.Ok ∧ p.ms.length ≤ 9223372036854775807 ∧ p.es.length ≤ 9223372036854775807 ∧ (am = none → cm = 0) ∧ (ae = none → ce = 0) := by
  obtain ⟨cs, rfl, hsz⟩ := okWide_struct Tryd.underlying26 hv
  obtain ⟨v0, v1, v2, v3, v4, v5, rfl⟩ := arraySix (hsz.trans cellsPkt)
  obtain ⟨y0, y1, y2, y3, y4, y5, n, -, h0, h1, h2, h3, h4, h5⟩ := trod_six Tryd.underlying26 h
  simp [Value.cells, cellsU81, cellsU16E, cellsInE, cellsMms, cellsEns] at h0 h1 h2 h3 h4 h5
  obtain ⟨z0, e0, -, g0⟩ := DataW.trod_int Tryd.underlying5 h0
  obtain ⟨z1, e1, -, g1⟩ := DataW.trod_int Tryd.underlying22 h1
  obtain ⟨z2, e2, -, g2⟩ := DataW.trod_int Tryd.underlying22 h2
  obtain ⟨z3, e3, -, g3⟩ := DataW.trod_int Tryd.underlying3 h3
  obtain ⟨am, lm, cm, e4⟩ := slice_csP Tryd.underlying23 h4
  obtain ⟨ae, le, ce, e5⟩ := slice_csP Tryd.underlying24 h5
  simp only [List.cons.injEq, and_true] at e0 e1 e2 e3 e4 e5
  subst e0 e1 e2 e3 e4 e5
  have n4 := popen_cap Tryd.underlying23 h4
  have n5 := popen_cap Tryd.underlying24 h5
  obtain ⟨ms, rfl, hM, hm1, hm2⟩ := open_members h4
  obtain ⟨es, rfl, hE, he1, he2⟩ := open_entries h5
  have q1 : IntKind.u16.min = 0 := rfl
  have q2 : IntKind.u16.max = 65535 := rfl
  have q3 : IntKind.u8.min = 0 := rfl
  have q4 : IntKind.u8.max = 255 := rfl
  have q5 : IntKind.i64.min = -9223372036854775808 := rfl
  have q6 : IntKind.i64.max = 9223372036854775807 := rfl
  simp only [Lit.wf, Bool.and_eq_true, decide_eq_true_eq] at g0 g1 g2 g3
  exact ⟨⟨z0, z1, z2, z3, ms, es⟩, am, cm, ae, ce, rfl, hM, hE, ⟨⟨by dsimp only; omega, by dsimp only; omega⟩, ⟨by dsimp only; omega, by dsimp only; omega⟩, ⟨by dsimp only; omega, by dsimp only; omega⟩, ⟨by dsimp only; omega, by dsimp only; omega⟩, hm2, fun y hy => (he2 y hy).2⟩, hm1, he1, n4, n5⟩
set_option maxRecDepth 20000 in
theorem open_member1 {base' : Nat} {r0 : Reach} {v : Value} (hv : Value.okWide Tryd.prog W r0 base' 45 v) (h : DataW.trod enc Tryd.prog W base sp held fuel 45 v.cells.toList = some x) : ∃ m : Mem, v = .agg #[.int .u16 m.n, .int .u8 m.s, .int .i64 m.i] ∧ m.Ok := by
  obtain ⟨cs, rfl, hsz⟩ := okWide_struct Tryd.underlying45 hv
  obtain ⟨m, e, hm⟩ := open_memC h
  obtain ⟨l⟩ := cs
  simp only [Value.cells] at e
  exact ⟨m, by rw [show l = encM m from e]; rfl, hm⟩
end

end Go.Proofs.YtchhdffehkcecaaDoor
