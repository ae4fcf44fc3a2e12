/-
  Arguments of layers 9 and 10, opened: an entry, and a list of entries.
-/
import Derived.Test.YtkbonifbnbdbkabE3
import Derived.Deep.Strs
import Derived.Deep.Slices
import Derived.ProofKit
import Derived.OpenShut
namespace Go.Proofs.Ytkbonifbnbdbkab
open Go.ChangeShapes Go.WideShapes Go.ChangeAt Go.RowKit Go.Deep

/-- An entry's five cells. -/
def encE (x : Ent) : List Value := [.string x.k, .int .i64 x.t, .int .u16 x.o, .string x.v, .int .i64 x.u]
/-- Its texts and numbers, as they fit. -/
def EntFit (x : Ent) : Prop := (x.k.size ≤ 9223372036854775807 ∧ x.v.size ≤ 9223372036854775807) ∧ (-9223372036854775808 ≤ x.t ∧ x.t ≤ 9223372036854775807) ∧ (0 ≤ x.o ∧ x.o ≤ 65535) ∧ (-9223372036854775808 ≤ x.u ∧ x.u ≤ 9223372036854775807)
/-- An entry as it is read. -/
def datE {H : Type} (x : Ent) : DataW H := .agg [.lit (.string x.k.data.toList), .lit (.int .i64 x.t), .lit (.int .u16 x.o), .lit (.string x.v.data.toList), .lit (.int .i64 x.u)]

section
variable {H : Type} {enc : TypeId × Value → H} {W : World} {base : Nat} {sp : Nat → Bool} {held : Bool} {fuel : Nat} {x : DataW H × List MemPlace}

theorem trod_five {t : TypeId} {f0 f1 f2 f3 f4 : Field} {cs : List Value} (ht : Try.prog.underlying t = some (.struct #[f0, f1, f2, f3, f4])) (h : DataW.trod enc Try.prog W base sp held fuel t cs = some x) :
    ∃ y0 y1 y2 y3 y4 n, x = (.agg [y0.1, y1.1, y2.1, y3.1, y4.1], y0.2 ++ (y1.2 ++ (y2.2 ++ (y3.2 ++ y4.2)))) ∧ cs.length = Try.prog.cellsOf t ∧ DataW.trod enc Try.prog W base sp held n f0.type ((cs.drop f0.offset).take (Try.prog.cellsOf f0.type)) = some y0 ∧
      DataW.trod enc Try.prog W base sp held n f1.type ((cs.drop f1.offset).take (Try.prog.cellsOf f1.type)) = some y1 ∧ DataW.trod enc Try.prog W base sp held n f2.type ((cs.drop f2.offset).take (Try.prog.cellsOf f2.type)) = some y2 ∧
      DataW.trod enc Try.prog W base sp held n f3.type ((cs.drop f3.offset).take (Try.prog.cellsOf f3.type)) = some y3 ∧ DataW.trod enc Try.prog W base sp held n f4.type ((cs.drop f4.offset).take (Try.prog.cellsOf f4.type)) = some y4 := by
  obtain ⟨xs, n, _, rfl, hl, hlen, hf⟩ := DataW.trod_struct ht h
  match xs, hlen with
  | [y0, y1, y2, y3, y4], _ => exact ⟨y0, y1, y2, y3, y4, n, by simp, hl, by simpa using hf 0 f0 rfl, by simpa using hf 1 f1 rfl, by simpa using hf 2 f2 rfl, by simpa using hf 3 f3 rfl, by simpa using hf 4 f4 rfl⟩
theorem arrayFive {cs : Array Value} (h : cs.size = 5) : ∃ c0 c1 c2 c3 c4, cs = #[c0, c1, c2, c3, c4] := by
  obtain ⟨l⟩ := cs
  match l, h with
  | [c0, c1, c2, c3, c4], _ => exact ⟨c0, c1, c2, c3, c4, rfl⟩
theorem cellsEn : Try.prog.cellsOf 36 = 5 := by kernel_rfl
theorem cellsInE : Try.prog.cellsOf 3 = 1 := by kernel_rfl
theorem cellsU16E : Try.prog.cellsOf 34 = 1 := by kernel_rfl
theorem cellsStE : Try.prog.cellsOf 9 = 1 := by kernel_rfl

set_option maxRecDepth 20000 in
theorem open_entryC {cs : List Value} (h : DataW.trod enc Try.prog W base sp held fuel 36 cs = some x) : ∃ r : Ent, cs = encE r ∧ EntFit r ∧ x = (datE r, []) := by
  obtain ⟨y0, y1, y2, y3, y4, n, hx, hl, h0, h1, h2, h3, h4⟩ := trod_five Try.underlying36 h
  rw [cellsEn] at hl
  match cs, hl with
  | [v0, v1, v2, v3, v4], _ =>
    simp [cellsInE, cellsU16E, cellsStE] at h0 h1 h2 h3 h4
    obtain ⟨z0, e0, f0, g0⟩ := DataW.trod_string Try.underlying9 h0
    obtain ⟨z1, e1, f1, g1⟩ := DataW.trod_int Try.underlying3 h1
    obtain ⟨z2, e2, f2, g2⟩ := DataW.trod_int Try.underlying34 h2
    obtain ⟨z3, e3, f3, g3⟩ := DataW.trod_string Try.underlying9 h3
    obtain ⟨z4, e4, f4, g4⟩ := DataW.trod_int Try.underlying3 h4
    simp only [List.cons.injEq, and_true] at e0 e1 e2 e3 e4
    subst e0 e1 e2 e3 e4
    have q3 : IntKind.i64.min = -9223372036854775808 := rfl
    have q4 : IntKind.i64.max = 9223372036854775807 := rfl
    have q5 : IntKind.u16.min = 0 := rfl
    have q6 : IntKind.u16.max = 65535 := rfl
    have q7 : maxLen = 9223372036854775807 := rfl
    simp only [Lit.wf, Bool.and_eq_true, decide_eq_true_eq] at g1 g2 g4
    refine ⟨⟨z0, z1, z2, z3, z4⟩, rfl, ⟨⟨by dsimp only; omega, by dsimp only; omega⟩, ⟨by dsimp only; omega, by dsimp only; omega⟩, ⟨by dsimp only; omega, by dsimp only; omega⟩, by dsimp only; omega, by dsimp only; omega⟩, ?_⟩
    rw [hx, f0, f1, f2, f3, f4]
    rfl
set_option maxRecDepth 20000 in
theorem open_entry {base' : Nat} {r0 : Reach} {v : Value} (hv : Value.okWide Try.prog W r0 base' 36 v) (h : DataW.trod enc Try.prog W base sp held fuel 36 v.cells.toList = some x) :
    ∃ r : Ent, v = .agg #[.string r.k, .int .i64 r.t, .int .u16 r.o, .string r.v, .int .i64 r.u] ∧ EntFit r ∧ x = (datE r, []) := by
  obtain ⟨cs, rfl, hsz⟩ := okWide_struct Try.underlying36 hv
  obtain ⟨v0, v1, v2, v3, v4, rfl⟩ := arrayFive (hsz.trans cellsEn)
  obtain ⟨r, e, h1, h2⟩ := open_entryC h
  simp only [Value.cells, encE, List.cons.injEq, and_true] at e
  obtain ⟨rfl, rfl, rfl, rfl, rfl⟩ := e
  exact ⟨r, rfl, h1, h2⟩
end

/-- Entries in a row somewhere. -/
def EntsAt (w : World) (a : Option Addr) (l : List Ent) : Prop := 0 < l.length → ∃ b o, a = some ⟨b, o, none⟩ ∧ b < w.heap.size ∧ ∀ i (hi : i < l.length), ∀ j v, (encE l[i])[j]? = some v → w.cell? ⟨b, o + i * 5 + j, none⟩ = some v
section
variable {H : Type} {enc : TypeId × Value → H} {W : World} {base : Nat} {sp : Nat → Bool} {held : Bool} {fuel : Nat} {x : DataW H × List MemPlace}
set_option maxRecDepth 20000 in
theorem open_entries {a : Option Addr} {len cap : Nat} (h : DataW.trod enc Try.prog W base sp held fuel 22 [.slice a len cap] = some x) :
    ∃ l : List Ent, l.length = len ∧ EntsAt W a l ∧ l.length ≤ 9223372036854775807 ∧ ∀ y ∈ l, EntFit y := by
  have kM : maxLen = 9223372036854775807 := rfl
  rcases open_slice Try.underlying22 h with ⟨hcs, -⟩ | ⟨q, len', cap', m, n, D, Pl, hcs, hb, hl, hm, hmm, -, hc⟩
  · simp only [List.cons.injEq, Value.slice.injEq, and_true] at hcs
    obtain ⟨rfl, rfl, rfl⟩ := hcs
    exact ⟨[], rfl, fun hi => absurd hi (by simp), Nat.zero_le _, fun p hp => by cases hp⟩
  · simp only [List.cons.injEq, Value.slice.injEq, and_true] at hcs
    obtain ⟨rfl, rfl, rfl⟩ := hcs
    rw [cellsEn] at hc
    haveI : Inhabited Ent := ⟨zeroE⟩
    have each : ∀ i, i < m → ∃ y : Ent, W.cells? base (q.add (i * 5)) 5 = some (encE y) ∧ EntFit y := fun i hi => by
      obtain ⟨cs', h1, h2⟩ := hc i hi
      obtain ⟨y, rfl, h3, -⟩ := open_entryC h2
      exact ⟨y, h1, h3⟩
    obtain ⟨f, hf⟩ := choose_lt each
    have hlm : len ≤ m := by split at hmm <;> omega
    refine ⟨(List.range len).map f, by simp, fun hn => ?_, by simp; omega, fun y hy => ?_⟩
    · simp only [List.length_map, List.length_range] at hn
      obtain ⟨hc0, -⟩ := hf 0 (by omega)
      have hc00 := (World.cells?_some hc0).2.2 0 (by decide)
      obtain ⟨b, o, s⟩ := q
      obtain rfl : s = none := by simpa [Addr.add] using World.cell?_spot hc00
      refine ⟨b, o, rfl, ?_, fun i hi => ?_⟩
      · have := World.block_lt_of_cell? W _ hc00
        simpa [Addr.add] using this
      · simp only [List.length_map, List.length_range] at hi
        obtain ⟨c0, -⟩ := hf i (by omega)
        simp only [List.getElem_map, List.getElem_range]
        intro j v hv
        obtain ⟨-, hk, hcell⟩ := World.cells?_some c0
        have hj := (List.getElem?_eq_some_iff.1 hv).1
        have := (hcell j (by omega)).trans hv
        rw [Go.WideShapes.add_plain, Go.WideShapes.add_plain] at this
        exact this
    · obtain ⟨i, hi, rfl⟩ := List.mem_map.1 hy
      exact (hf i (by have := List.mem_range.1 hi; omega)).2
end

end Go.Proofs.Ytkbonifbnbdbkab
