/-
  What every law of layer 15 needs for its statement: how the program lies; members as they are read.
-/
import Derived.Test.YtnoconampcemoaaPMem
import Derived.Deep.Strs
import Derived.Deep.Slices
import Derived.ProofKit
import Derived.OpenShut
import Derived.LaidMore
import Derived.MakeChecks
import Derived.SizedLaws
namespace Go.Proofs.Ytnoconampcemoaa
open Go.ChangeShapes Go.WideShapes Go.ChangeAt Go.RowKit Go.Deep

theorem ownC : ownKnob Try.prog.godebug = none := by kernel_rfl
theorem laidOutC : laidOutB Try.prog = true := by kernel_rfl
theorem door_metC (os : Os) (args : Array Value) : laidMet Try.prog [] ((World.doorLaid Try.prog 62 os).forCall (fun _ _ => 0) ⟨#[], args, []⟩).memory :=
  laidMet_of_run' 8 (by kernel_rfl) (by kernel_rfl)
theorem cellsMemB : Try.prog.cellsOf 43 = 3 := by kernel_rfl
theorem cellsStaB : Try.prog.cellsOf 41 = 1 := by kernel_rfl
theorem cellsU16B : Try.prog.cellsOf 22 = 1 := by kernel_rfl
theorem cellsInB : Try.prog.cellsOf 3 = 1 := by kernel_rfl
/-- A member that fits. -/
structure Mem.Fits (m : Mem) : Prop where
  n : 0 ≤ m.n ∧ m.n ≤ 65535
  s : 0 ≤ m.s ∧ m.s ≤ 255
  i : -9223372036854775808 ≤ m.i ∧ m.i ≤ 9223372036854775807
section
variable {H : Type} {enc : TypeId × Value → H} {W : World} {base : Nat} {sp : Nat → Bool} {held : Bool} {fuel : Nat} {x : DataW H × List MemPlace}
set_option maxRecDepth 20000 in
theorem open_memB {cs : List Value} (h : DataW.trod enc Try.prog W base sp held fuel 43 cs = some x) : ∃ m : Mem, cs = encM m ∧ m.Fits := by
  obtain ⟨y0, y1, y2, n, -, hl, h0, h1, h2⟩ := trod_struct3 Try.underlying43 h
  rw [cellsMemB] at hl
  match cs, hl with
  | [v0, v1, v2], _ =>
    simp [cellsU16B, cellsStaB, cellsInB] at h0 h1 h2
    obtain ⟨z0, e0, -, g0⟩ := DataW.trod_int Try.underlying22 h0
    obtain ⟨z1, e1, -, g1⟩ := DataW.trod_int Try.underlying41 h1
    obtain ⟨z2, e2, -, g2⟩ := DataW.trod_int Try.underlying3 h2
    simp only [List.cons.injEq, and_true] at e0 e1 e2
    subst e0 e1 e2
    have q1 : IntKind.u16.min = 0 := rfl
    have q2 : IntKind.u16.max = 65535 := rfl
    have q3 : IntKind.u8.min = 0 := rfl
    have q4 : IntKind.u8.max = 255 := rfl
    have q5 : IntKind.i64.min = -9223372036854775808 := rfl
    have q6 : IntKind.i64.max = 9223372036854775807 := rfl
    simp only [Lit.wf, Bool.and_eq_true, decide_eq_true_eq] at g0 g1 g2
    exact ⟨⟨z0, z1, z2⟩, rfl, ⟨by dsimp only; omega, by dsimp only; omega⟩, ⟨by dsimp only; omega, by dsimp only; omega⟩, by dsimp only; omega, by dsimp only; omega⟩
set_option maxRecDepth 20000 in
theorem open_membersB {a : Option Addr} {len cap : Nat} (h : DataW.trod enc Try.prog W base sp held fuel 33 [.slice a len cap] = some x) :
    ∃ l : List Mem, l.length = len ∧ MemsAt W a l ∧ ∀ y ∈ l, y.Fits := by
  rcases open_slice Try.underlying33 h with ⟨hcs, -⟩ | ⟨q, len', cap', m, n, D, Pl, hcs, hb, hl, hm, hmm, -, hc⟩
  · simp only [List.cons.injEq, Value.slice.injEq, and_true] at hcs
    obtain ⟨rfl, rfl, rfl⟩ := hcs
    exact ⟨[], rfl, fun hi => absurd hi (by simp), fun p hp => by cases hp⟩
  · simp only [List.cons.injEq, Value.slice.injEq, and_true] at hcs
    obtain ⟨rfl, rfl, rfl⟩ := hcs
    rw [cellsMemB] at hc
    haveI : Inhabited Mem := ⟨⟨0, 0, 0⟩⟩
    have each : ∀ i, i < m → ∃ y : Mem, W.cells? base (q.add (i * 3)) 3 = some (encM y) ∧ y.Fits := fun i hi => by
      obtain ⟨cs', h1, h2⟩ := hc i hi
      obtain ⟨y, rfl, h3⟩ := open_memB h2
      exact ⟨y, h1, h3⟩
    obtain ⟨f, hf⟩ := choose_lt each
    have hlm : len ≤ m := by split at hmm <;> omega
    refine ⟨(List.range len).map f, by simp, fun hn => ?_, fun y hy => ?_⟩
    · simp only [List.length_map, List.length_range] at hn
      obtain ⟨hc0, -⟩ := hf 0 (by omega)
      have hc00 := (World.cells?_some hc0).2.2 0 (by decide)
      obtain ⟨b, o, s⟩ := q
      obtain rfl : s = none := by simpa [Addr.add] using World.cell?_spot hc00
      refine ⟨b, o, rfl, ?_, fun i hi => ?_⟩
      · have := World.block_lt_of_cell? W _ hc00
        simpa [Addr.add] using this
      · simp only [List.length_map, List.length_range] at hi
        obtain ⟨c0, -⟩ := hf i (by omega)
        simp only [List.getElem_map, List.getElem_range]
        intro j v hv
        obtain ⟨-, hk, hcell⟩ := World.cells?_some c0
        have hj := (List.getElem?_eq_some_iff.1 hv).1
        have := (hcell j (by omega)).trans hv
        rw [Go.WideShapes.add_plain, Go.WideShapes.add_plain] at this
        exact this
    · obtain ⟨i, hi, rfl⟩ := List.mem_map.1 hy
      exact (hf i (by have := List.mem_range.1 hi; omega)).2
set_option maxRecDepth 20000 in
theorem open_member1B {base' : Nat} {r0 : Reach} {v : Value} (hv : Value.okWide Try.prog W r0 base' 43 v) (h : DataW.trod enc Try.prog W base sp held fuel 43 v.cells.toList = some x) : ∃ m : Mem, v = .agg #[.int .u16 m.n, .int .u8 m.s, .int .i64 m.i] ∧ m.Fits := by
  obtain ⟨cs, rfl, hsz⟩ := okWide_struct Try.underlying43 hv
  obtain ⟨m, e, hm⟩ := open_memB h
  obtain ⟨l⟩ := cs
  simp only [Value.cells] at e
  exact ⟨m, by rw [show l = encM m from e]; rfl, hm⟩
theorem u16_nat {z : Int} (h : (Lit.int .u16 z).wf = true) : ∃ k : Nat, z = (k : Int) ∧ k < 65536 := by
  have q1 : IntKind.u16.min = 0 := rfl
  have q2 : IntKind.u16.max = 65535 := rfl
  simp only [Lit.wf, Bool.and_eq_true, decide_eq_true_eq] at h
  exact ⟨z.toNat, by omega, by omega⟩
end

end Go.Proofs.Ytnoconampcemoaa
