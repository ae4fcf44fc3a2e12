/-
  Arguments of layer 16, opened: acts, numbers of four bytes, two numbers.
-/
import Derived.Test.YtnoconampcemoaaPActs
import Derived.Test.YtnoconampcemoaaBOpen
namespace Go.Proofs.Ytnoconampcemoaa
open Go.ChangeShapes Go.WideShapes Go.ChangeAt Go.RowKit Go.Deep

theorem cellsAxB : Try.prog.cellsOf 45 = 7 := by kernel_rfl
theorem cellsU8B : Try.prog.cellsOf 5 = 1 := by kernel_rfl
theorem cellsU32B : Try.prog.cellsOf 40 = 1 := by kernel_rfl
section
variable {H : Type} {enc : TypeId × Value → H} {W : World} {base : Nat} {sp : Nat → Bool} {held : Bool} {fuel : Nat} {x : DataW H × List MemPlace}
theorem trod_struct5 {t : TypeId} {f0 f1 f2 f3 f4 : Field} {cs : List Value} (ht : Try.prog.underlying t = some (.struct #[f0, f1, f2, f3, f4])) (h : DataW.trod enc Try.prog W base sp held fuel t cs = some x) :
    ∃ y0 y1 y2 y3 y4 n, cs.length = Try.prog.cellsOf t ∧ DataW.trod enc Try.prog W base sp held n f0.type ((cs.drop f0.offset).take (Try.prog.cellsOf f0.type)) = some y0 ∧
      DataW.trod enc Try.prog W base sp held n f1.type ((cs.drop f1.offset).take (Try.prog.cellsOf f1.type)) = some y1 ∧ DataW.trod enc Try.prog W base sp held n f2.type ((cs.drop f2.offset).take (Try.prog.cellsOf f2.type)) = some y2 ∧
      DataW.trod enc Try.prog W base sp held n f3.type ((cs.drop f3.offset).take (Try.prog.cellsOf f3.type)) = some y3 ∧ DataW.trod enc Try.prog W base sp held n f4.type ((cs.drop f4.offset).take (Try.prog.cellsOf f4.type)) = some y4 := by
  obtain ⟨xs, n, _, -, hl, hlen, hf⟩ := DataW.trod_struct ht h
  match xs, hlen with
  | [y0, y1, y2, y3, y4], _ => exact ⟨y0, y1, y2, y3, y4, n, hl, by simpa using hf 0 f0 rfl, by simpa using hf 1 f1 rfl, by simpa using hf 2 f2 rfl, by simpa using hf 3 f3 rfl, by simpa using hf 4 f4 rfl⟩
set_option maxRecDepth 20000 in
theorem open_actP {cs : List Value} (h : DataW.trod enc Try.prog W base sp held fuel 45 cs = some x) : ∃ y : Ax, cs = encAx y ∧ AxFit y := by
  obtain ⟨y0, y1, y2, y3, y4, n, hl, h0, h1, h2, h3, h4⟩ := trod_struct5 Try.underlying45 h
  rw [cellsAxB] at hl
  match cs, hl with
  | [v0, v1, v2, v3, v4, v5, v6], _ =>
    simp [cellsU8B, cellsU32B, cellsMemB, cellsInB] at h0 h1 h2 h3 h4
    obtain ⟨z0, e0, -, g0⟩ := DataW.trod_int Try.underlying5 h0
    obtain ⟨z1, e1, -, g1⟩ := DataW.trod_int Try.underlying5 h1
    obtain ⟨z2, e2, -, g2⟩ := DataW.trod_int Try.underlying40 h2
    obtain ⟨m, e3, g3⟩ := open_memB h3
    obtain ⟨z4, e4, -, -⟩ := DataW.trod_int Try.underlying3 h4
    simp only [encM, List.cons.injEq, and_true] at e0 e1 e2 e3 e4
    obtain ⟨rfl, rfl, rfl⟩ := e3
    subst e0 e1 e2 e4
    have q3 : IntKind.u8.min = 0 := rfl
    have q4 : IntKind.u8.max = 255 := rfl
    have q5 : IntKind.u32.min = 0 := rfl
    have q6 : IntKind.u32.max = 4294967295 := rfl
    simp only [Lit.wf, Bool.and_eq_true, decide_eq_true_eq] at g0 g1 g2
    obtain ⟨k0, rfl⟩ : ∃ k : Nat, z0 = (k : Int) := ⟨z0.toNat, by omega⟩
    obtain ⟨k1, rfl⟩ : ∃ k : Nat, z1 = (k : Int) := ⟨z1.toNat, by omega⟩
    obtain ⟨k2, rfl⟩ : ∃ k : Nat, z2 = (k : Int) := ⟨z2.toNat, by omega⟩
    exact ⟨⟨k0, k1, k2, m, z4⟩, rfl, ⟨by dsimp only; omega, by dsimp only; omega, by dsimp only; omega, g3.n, g3.s⟩⟩
set_option maxRecDepth 20000 in
theorem open_actsP {a : Option Addr} {len cap : Nat} (h : DataW.trod enc Try.prog W base sp held fuel 24 [.slice a len cap] = some x) :
    ∃ l : List Ax, l.length = len ∧ AxsAt W a l ∧ ∀ y ∈ l, AxFit y := by
  rcases open_slice Try.underlying24 h with ⟨hcs, -⟩ | ⟨q, len', cap', m, n, D, Pl, hcs, hb, hl, hm, hmm, -, hc⟩
  · simp only [List.cons.injEq, Value.slice.injEq, and_true] at hcs
    obtain ⟨rfl, rfl, rfl⟩ := hcs
    exact ⟨[], rfl, fun hi => absurd hi (by simp), fun p hp => by cases hp⟩
  · simp only [List.cons.injEq, Value.slice.injEq, and_true] at hcs
    obtain ⟨rfl, rfl, rfl⟩ := hcs
    rw [cellsAxB] at hc
    haveI : Inhabited Ax := ⟨⟨0, 0, 0, ⟨0, 0, 0⟩, 0⟩⟩
    have each : ∀ i, i < m → ∃ y : Ax, W.cells? base (q.add (i * 7)) 7 = some (encAx y) ∧ AxFit y := fun i hi => by
      obtain ⟨cs', h1, h2⟩ := hc i hi
      obtain ⟨y, rfl, h3⟩ := open_actP h2
      exact ⟨y, h1, h3⟩
    obtain ⟨f, hf⟩ := choose_lt each
    have hlm : len ≤ m := by split at hmm <;> omega
    refine ⟨(List.range len).map f, by simp, fun hn => ?_, fun y hy => ?_⟩
    · simp only [List.length_map, List.length_range] at hn
      obtain ⟨hc0, -⟩ := hf 0 (by omega)
      have hc00 := (World.cells?_some hc0).2.2 0 (by decide)
      obtain ⟨b, o, s⟩ := q
      obtain rfl : s = none := by simpa [Addr.add] using World.cell?_spot hc00
      refine ⟨b, o, rfl, ?_, fun i hi => ?_⟩
      · have := World.block_lt_of_cell? W _ hc00
        simpa [Addr.add] using this
      · simp only [List.length_map, List.length_range] at hi
        obtain ⟨c0, -⟩ := hf i (by omega)
        simp only [List.getElem_map, List.getElem_range]
        intro j v hv
        obtain ⟨-, hk, hcell⟩ := World.cells?_some c0
        have hj := (List.getElem?_eq_some_iff.1 hv).1
        have := (hcell j (by omega)).trans hv
        rw [Go.WideShapes.add_plain, Go.WideShapes.add_plain] at this
        exact this
    · obtain ⟨i, hi, rfl⟩ := List.mem_map.1 hy
      exact (hf i (by have := List.mem_range.1 hi; omega)).2
theorem open_u32sP {a : Option Addr} {len cap : Nat} (h : DataW.trod enc Try.prog W base sp held fuel 57 [.slice a len cap] = some x) :
    ∃ zs : List Int, zs.length = len ∧ U32At W a zs ∧ zs.length ≤ 9223372036854775807 := by
  rcases open_ints Try.underlying57 Try.underlying40 (by kernel_rfl) h with ⟨hcs, hx⟩ | ⟨p, len', cap', zs, hcs, _, hl, hm, hz, hx, hcell, hwz⟩
  · simp only [List.cons.injEq, Value.slice.injEq, and_true] at hcs
    obtain ⟨rfl, rfl, rfl⟩ := hcs
    exact ⟨[], rfl, fun hi => absurd hi (Nat.not_lt_zero _), by simp⟩
  · simp only [List.cons.injEq, Value.slice.injEq, and_true] at hcs
    obtain ⟨rfl, rfl, rfl⟩ := hcs
    have hlen : len ≤ zs.length := by split at hz <;> omega
    have kM : maxLen = 9223372036854775807 := rfl
    refine ⟨zs.take len, by simp; omega, fun hn => ?_, by simp; omega⟩
    obtain ⟨b, o, s⟩ := p
    have h0 := hcell 0 (by simp at hn; omega)
    obtain rfl : s = none := by simpa [Addr.add] using World.cell?_spot h0
    refine ⟨b, o, rfl, World.block_lt_of_cell? W _ h0, fun i hi => ?_⟩
    have hi2 : i < len := by simp at hi; omega
    have h1 := hcell i (by omega)
    rw [Go.WideShapes.add_plain] at h1
    refine ⟨by rw [h1]; simp [List.getD, show i < zs.length by omega], ?_⟩
    have hw := hwz _ (List.mem_of_mem_take (List.getElem_mem hi))
    have h3 : IntKind.u32.min = 0 := rfl
    have h2 : IntKind.u32.max = 4294967295 := rfl
    simp only [Lit.wf, Bool.and_eq_true, decide_eq_true_eq] at hw
    omega
set_option maxRecDepth 20000 in
theorem open_ints2P {base' : Nat} {r : Reach} {v : Value} (hv : Value.okWide Try.prog W r base' 23 v) (h : DataW.trod enc Try.prog W base sp held fuel 23 v.cells.toList = some x) :
    ∃ f g : Int, v = .agg #[.int .i64 f, .int .i64 g] := by
  simp only [Value.okWide, Try.underlying23] at hv
  obtain ⟨cs, rfl, -, -⟩ := hv
  obtain ⟨xs, m, -, -, hl, hxs, hx⟩ := DataW.trod_array Try.underlying23 h
  have hl2 : cs.toList.length = 2 := hl.trans (by kernel_rfl)
  rw [cellsInB] at hx
  match cs, hl2 with
  | ⟨[v0, v1]⟩, _ =>
    have g0 := hx 0 (by decide)
    have g1 := hx 1 (by decide)
    match xs, hxs with
    | [y0, y1], _ =>
      simp [Value.cells] at g0 g1
      obtain ⟨f, e, -⟩ := DataW.trod_int Try.underlying3 g0
      obtain ⟨g, e', -⟩ := DataW.trod_int Try.underlying3 g1
      simp only [List.cons.injEq, and_true] at e e'
      subst e e'
      exact ⟨f, g, rfl⟩
theorem u8_nat {z : Int} (h : (Lit.int .u8 z).wf = true) : ∃ k : Nat, z = (k : Int) ∧ k < 256 := by
  have q1 : IntKind.u8.min = 0 := rfl
  have q2 : IntKind.u8.max = 255 := rfl
  simp only [Lit.wf, Bool.and_eq_true, decide_eq_true_eq] at h
  exact ⟨z.toNat, by omega, by omega⟩
end

end Go.Proofs.Ytnoconampcemoaa
