/-
  Arguments of layer 4, opened: a matcher, matchers, labels.
-/
import Derived.Test.YtfllfmdopfeecabGreatDoorM5
import Derived.Test.YtfllfmdopfeecabGreatDoorXVars
import Derived.Deep.SlicePairs
import Derived.Deep.Strs
import Derived.SizedLaws
namespace Go.Proofs.YtfllfmdopfeecabGreatDoor
open Go.ChangeShapes Go.WideShapes Go.ChangeAt Go.RowKit Go.Deep

theorem mcellsPair : Tryz.prog.cellsOf 71 = 2 := by kernel_rfl
/-- The text that a cell holds. -/
def mstrOf : Value → ByteArray
  | .string s => s
  | _ => ⟨#[]⟩

theorem open_pairsM {H : Type} {enc : TypeId × Value → H} {W : World} {base : Nat} {sp : Nat → Bool} {held : Bool} {fuel : Nat} {a : Option Addr} {len cap : Nat} {x : DataW H × List MemPlace}
    (h : DataW.trod enc Tryz.prog W base sp held fuel 35 [.slice a len cap] = some x) :
    ∃ ps : List Pr, ps.length = len ∧ PairsAt W a ps ∧ len ≤ maxLen ∧ (∀ p ∈ ps, p.1.size ≤ maxLen ∧ p.2.size ≤ maxLen) ∧
      (x.1 = .nil ∧ ps = [] ∨ ∃ spare, x.1 = .slice (ps.map fun p => .agg [.lit (.string p.1.data.toList), .lit (.string p.2.data.toList)]) spare) := by
  rcases open_slice_pairs Tryz.underlying35 Tryz.underlying71 mcellsPair rfl rfl (by kernel_rfl) (by kernel_rfl) h with ⟨hcs, hx⟩ | ⟨q, len', cap', m, n, V0, V1, D0, D1, P0, P1, hcs, _, hl, hm, hmm, hx, hc⟩
  · simp only [List.cons.injEq, Value.slice.injEq, and_true] at hcs
    obtain ⟨rfl, rfl, rfl⟩ := hcs
    exact ⟨[], rfl, fun hi => absurd hi (by simp), Nat.zero_le _, (fun p hp => by cases hp), .inl ⟨by rw [hx], rfl⟩⟩
  · simp only [List.cons.injEq, Value.slice.injEq, and_true] at hcs
    obtain ⟨rfl, rfl, rfl⟩ := hcs
    have hlm : len ≤ m := by split at hmm <;> omega
    have hstr : ∀ i, i < m → V0 i = .string (mstrOf (V0 i)) ∧ V1 i = .string (mstrOf (V1 i)) ∧ (mstrOf (V0 i)).size ≤ maxLen ∧ (mstrOf (V1 i)).size ≤ maxLen ∧ D0 i = .lit (.string (mstrOf (V0 i)).data.toList) ∧ D1 i = .lit (.string (mstrOf (V1 i)).data.toList) := fun i hi => by
      obtain ⟨-, -, h0, h1⟩ := hc i hi
      obtain ⟨s0, e0, f0, g0⟩ := DataW.trod_string Tryz.underlying9 h0
      obtain ⟨s1, e1, f1, g1⟩ := DataW.trod_string Tryz.underlying9 h1
      simp only [List.cons.injEq, and_true] at e0 e1
      simp only [Prod.mk.injEq] at f0 f1
      rw [e0, e1]
      exact ⟨rfl, rfl, g0, g1, f0.1, f1.1⟩
    refine ⟨(List.range len).map fun i => (mstrOf (V0 i), mstrOf (V1 i)), by simp, fun hn => ?_, by omega, fun p hp => ?_, .inr ⟨_, by
      rw [hx]
      simp only [List.map_map]
      congr 1
      refine List.map_congr_left fun i hi => ?_
      have := hstr i (by have := List.mem_range.1 hi; omega)
      simp only [Function.comp, this.2.2.2.2.1, this.2.2.2.2.2]⟩⟩
    · simp only [List.length_map, List.length_range] at hn
      obtain ⟨hc0, -, -, -⟩ := hc 0 (by omega)
      obtain ⟨b, o, s⟩ := q
      obtain rfl : s = none := by simpa [Addr.add] using World.cell?_spot hc0
      refine ⟨b, o, rfl, fun i hi => ?_⟩
      simp only [List.length_map, List.length_range] at hi
      obtain ⟨c0, c1, -, -⟩ := hc i (by omega)
      obtain ⟨e0, e1, -⟩ := hstr i (by omega)
      rw [Go.WideShapes.add_plain, e0] at c0
      rw [Go.WideShapes.add_plain, e1] at c1
      simp only [List.getElem_map, List.getElem_range]
      exact ⟨c0, c1⟩
    · obtain ⟨i, hi, rfl⟩ := List.mem_map.1 hp
      have := hstr i (by have := List.mem_range.1 hi; omega)
      exact ⟨this.2.2.1, this.2.2.2.1⟩

theorem mbytes_pair : Tryz.prog.bytesOf 71 = 32 := by kernel_rfl
/-- .. and how many pairs it may have. -/
theorem mreach_pairs {H : Type} {ts : List TypeId} {ds : List (DataW H)} (hsz : (DataW.weightsEach Tryz.prog ts ds).all (· ≤ reachBytes) = true) {j : Nat} {d : DataW H} (ht : ts[j]? = some 35) (hd : ds[j]? = some d) {ps : List Pr}
    (h : d = .nil ∧ ps = [] ∨ ∃ spare, d = .slice (ps.map fun p => .agg [.lit (.string p.1.data.toList), .lit (.string p.2.data.toList)]) spare) : ps.length ≤ 4398046510976 := by
  rcases h with ⟨_, rfl⟩ | ⟨spare, rfl⟩
  · simp
  · have h1 := sized_slice hsz ht hd Tryz.underlying35
    rw [mbytes_pair, List.length_map] at h1
    have h2 : reachBytes = 140737488351232 := by decide
    omega


theorem cellsMt : Tryz.prog.cellsOf 61 = 3 := by kernel_rfl
theorem cellsStr1 : Tryz.prog.cellsOf 9 = 1 := by kernel_rfl
theorem cellsOp1 : Tryz.prog.cellsOf 59 = 1 := by kernel_rfl
/-- A matcher as data. -/
def dataM {H : Type} (m : Mt) : DataW H := .agg [.lit (.string m.1.data.toList), .lit (.int .u8 (m.2.1 : Int)), .lit (.string m.2.2.data.toList)]

set_option maxRecDepth 20000 in
theorem open_cells3 {H : Type} {enc : TypeId × Value → H} {W : World} {base : Nat} {sp : Nat → Bool} {held : Bool} {fuel : Nat} {cs : List Value} {x : DataW H × List MemPlace}
    (h : DataW.trod enc Tryz.prog W base sp held fuel 61 cs = some x) :
    ∃ m : Mt, cs = [.string m.1, .int .u8 (m.2.1 : Int), .string m.2.2] ∧ x = (dataM m, []) ∧ m.2.1 < 256 ∧ m.1.size ≤ maxLen ∧ m.2.2.size ≤ maxLen := by
  obtain ⟨y0, y1, y2, n, rfl, hl, h0, h1, h2⟩ := trod_struct3 Tryz.underlying61 h
  rw [cellsMt] at hl
  match cs, hl with
  | [v0, v1, v2], _ =>
    simp [cellsStr1, cellsOp1] at h0 h1 h2
    obtain ⟨s0, e0, f0, g0⟩ := DataW.trod_string Tryz.underlying9 h0
    obtain ⟨z, e1, f1, g1⟩ := DataW.trod_int Tryz.underlying59 h1
    obtain ⟨s2, e2, f2, g2⟩ := DataW.trod_string Tryz.underlying9 h2
    simp only [List.cons.injEq, and_true] at e0 e1 e2
    subst e0 e1 e2 f0 f1 f2
    have k1 : IntKind.u8.min = 0 := rfl
    have k2 : IntKind.u8.max = 255 := rfl
    simp only [Lit.wf, Bool.and_eq_true, decide_eq_true_eq] at g1
    refine ⟨(s0, z.toNat, s2), ?_, ?_, ?_, g0, g2⟩
    · show [Value.string s0, .int .u8 z, .string s2] = [Value.string s0, .int .u8 (z.toNat : Int), .string s2]
      rw [Int.toNat_of_nonneg (by omega)]
    · unfold dataM
      simp only [Prod.mk.injEq]
      rw [Int.toNat_of_nonneg (by omega)]
      exact ⟨rfl, rfl⟩
    · show z.toNat < 256
      omega
set_option maxRecDepth 20000 in
theorem open_matcher {H : Type} {enc : TypeId × Value → H} {W : World} {base base' : Nat} {sp : Nat → Bool} {held : Bool} {fuel : Nat} {r : Reach} {v : Value} {x : DataW H × List MemPlace} (hv : Value.okWide Tryz.prog W r base' 61 v)
    (h : DataW.trod enc Tryz.prog W base sp held fuel 61 v.cells.toList = some x) :
    ∃ m : Mt, v = .agg #[.string m.1, .int .u8 (m.2.1 : Int), .string m.2.2] ∧ x = (dataM m, []) ∧ m.2.1 < 256 ∧ m.1.size ≤ maxLen ∧ m.2.2.size ≤ maxLen := by
  obtain ⟨cs, rfl, -⟩ := okWide_struct Tryz.underlying61 hv
  obtain ⟨m, h1, h2⟩ := open_cells3 (cs := cs.toList) (by simpa [Value.cells] using h)
  refine ⟨m, ?_, h2⟩
  rw [← Array.toList_inj.1 (show cs.toList = #[Value.string m.1, .int .u8 (m.2.1 : Int), .string m.2.2].toList from h1)]

set_option maxRecDepth 20000 in
theorem open_matchers {H : Type} {enc : TypeId × Value → H} {W : World} {base : Nat} {sp : Nat → Bool} {held : Bool} {fuel : Nat} {a : Option Addr} {len cap : Nat} {x : DataW H × List MemPlace}
    (h : DataW.trod enc Tryz.prog W base sp held fuel 25 [.slice a len cap] = some x) :
    ∃ ms : List Mt, ms.length = len ∧ MtsAt W a ms ∧ len ≤ maxLen ∧ ((a = none → len = 0 ∧ cap = 0) ∧ ∀ m ∈ ms, m.1.size ≤ maxLen ∧ m.2.2.size ≤ maxLen) ∧
      (x.1 = .nil ∧ ms = [] ∨ ∃ spare, x.1 = .slice (ms.map dataM) spare) := by
  rcases open_slice Tryz.underlying25 h with ⟨hcs, hx⟩ | ⟨q, len', cap', m, n, D, Pl, hcs, hb, hl, hm, hmm, hx, hc⟩
  · simp only [List.cons.injEq, Value.slice.injEq, and_true] at hcs
    obtain ⟨rfl, rfl, rfl⟩ := hcs
    exact ⟨[], rfl, fun hi => absurd hi (by simp), Nat.zero_le _, ⟨fun _ => ⟨rfl, rfl⟩, fun p hp => by cases hp⟩, .inl ⟨by rw [hx], rfl⟩⟩
  · simp only [List.cons.injEq, Value.slice.injEq, and_true] at hcs
    obtain ⟨rfl, rfl, rfl⟩ := hcs
    rw [cellsMt] at hc
    have each : ∀ i, i < m → ∃ y : Mt, (W.cell? ((q.add (i * 3)).add 0) = some (.string y.1) ∧ W.cell? ((q.add (i * 3)).add 1) = some (.int .u8 (y.2.1 : Int)) ∧ W.cell? ((q.add (i * 3)).add 2) = some (.string y.2.2)) ∧ D i = dataM y ∧ y.1.size ≤ maxLen ∧ y.2.2.size ≤ maxLen := fun i hi => by
      obtain ⟨cs', h1, h2⟩ := hc i hi
      obtain ⟨-, -, hcell⟩ := World.cells?_some h1
      obtain ⟨y, rfl, hy, -, hz1, hz2⟩ := open_cells3 h2
      simp only [Prod.mk.injEq] at hy
      exact ⟨y, ⟨hcell 0 (by omega), hcell 1 (by omega), hcell 2 (by omega)⟩, hy.1, hz1, hz2⟩
    obtain ⟨f, hf⟩ := choose_lt each
    have hlm : len ≤ m := by split at hmm <;> omega
    refine ⟨(List.range len).map f, by simp, fun hn => ?_, by omega, ⟨(fun e => by cases e), fun y hy => ?_⟩, .inr ⟨_, by
      rw [hx]
      simp only [List.map_map]
      congr 1
      refine List.map_congr_left fun i hi => ?_
      exact (hf i (by have := List.mem_range.1 hi; omega)).2.1⟩⟩
    · simp only [List.length_map, List.length_range] at hn
      obtain ⟨⟨hc0, -, -⟩, -⟩ := hf 0 (by omega)
      obtain ⟨b, o, s⟩ := q
      obtain rfl : s = none := by simpa [Addr.add] using World.cell?_spot hc0
      refine ⟨b, o, rfl, ?_, fun i hi => ?_⟩
      · have := World.block_lt_of_cell? W _ hc0
        simpa [Addr.add] using this
      · simp only [List.length_map, List.length_range] at hi
        obtain ⟨⟨c0, c1, c2⟩, -⟩ := hf i (by omega)
        rw [Go.WideShapes.add_plain, Go.WideShapes.add_plain] at c0 c1 c2
        simp only [List.getElem_map, List.getElem_range]
        exact ⟨c0, c1, c2⟩
    · obtain ⟨i, hi, rfl⟩ := List.mem_map.1 hy
      exact (hf i (by have := List.mem_range.1 hi; omega)).2.2

theorem bytes_matcher : Tryz.prog.bytesOf 61 = 40 := by kernel_rfl
/-- .. and how many matchers it may have. -/
theorem reach_matchers {H : Type} {ts : List TypeId} {ds : List (DataW H)} (hsz : (DataW.weightsEach Tryz.prog ts ds).all (· ≤ reachBytes) = true) {j : Nat} {d : DataW H} (ht : ts[j]? = some 25) (hd : ds[j]? = some d) {ms : List Mt}
    (h : d = .nil ∧ ms = [] ∨ ∃ spare, d = .slice (ms.map dataM) spare) : ms.length ≤ 4398046510976 := by
  rcases h with ⟨_, rfl⟩ | ⟨spare, rfl⟩
  · simp
  · have h1 := sized_slice hsz ht hd Tryz.underlying25
    rw [bytes_matcher, List.length_map] at h1
    have h2 : reachBytes = 140737488351232 := by decide
    omega

end Go.Proofs.YtfllfmdopfeecabGreatDoor
