/-
  A configuration, opened: lists that lie nowhere have no room.
-/
import Derived.Test.YthaimnmbcbhioaaDoorROpen
namespace Go.Proofs.YthaimnmbcbhioaaDoor
open Go.ChangeAt Go.ChangeShapes Go.Deep Go.RowKit Go.WideShapes

section
variable {H : Type} {enc : TypeId × Value → H} {W : World} {base : Nat} {sp : Nat → Bool} {held : Bool} {fuel : Nat} {x : DataW H × List MemPlace}

theorem open_cap {t e : TypeId} {a : Option Addr} {len cap : Nat} (ht : Tryd.prog.underlying t = some (.slice e)) (h : DataW.trod enc Tryd.prog W base sp held fuel t [.slice a len cap] = some x) : len ≤ cap ∧ (a = none → cap = 0) := by
  rcases open_slice ht h with ⟨hcs, -⟩ | ⟨q, len', cap', m, n, D, Pl, hcs, hb, hl, hm, hmm, -, hc⟩
  · simp only [List.cons.injEq, Value.slice.injEq, and_true] at hcs
    obtain ⟨rfl, rfl, rfl⟩ := hcs
    exact ⟨Nat.le_refl _, fun _ => rfl⟩
  · simp only [List.cons.injEq, Value.slice.injEq, and_true] at hcs
    obtain ⟨rfl, rfl, rfl⟩ := hcs
    exact ⟨hl, fun h => by cases h⟩
/-- A route's lists that lie nowhere. -/
abbrev RtNil (r : Rt) : Prop := (r.ma = none → r.mc = 0) ∧ (r.ba = none → r.bc = 0)
abbrev RlNil (r : Rl) : Prop := (r.sa = none → r.sc = 0) ∧ (r.ta = none → r.tc = 0) ∧ (r.ea = none → r.ec = 0)
set_option maxRecDepth 20000 in
theorem route_nil {r : Rt} (h : DataW.trod enc Tryd.prog W base sp held fuel 33 (encR r) = some x) : RtNil r := by
  obtain ⟨y0, y1, y2, y3, y4, y5, y6, y7, n, hl, h0, h1, h2, h3, h4, h5, h6, h7⟩ := trod_struct8 Tryd.underlying33 h
  simp [encR, cellsMts1, cellsStrs1] at h1 h3
  exact ⟨(open_cap Tryd.underlying30 h1).2, (open_cap Tryd.underlying31 h3).2⟩
set_option maxRecDepth 20000 in
theorem rule_nil {r : Rl} (h : DataW.trod enc Tryd.prog W base sp held fuel 38 (encL r) = some x) : RlNil r := by
  obtain ⟨y0, y1, y2, n, -, hl, h0, h1, h2⟩ := trod_struct3 Tryd.underlying38 h
  simp [encL, cellsMts1, cellsStrs1] at h0 h1 h2
  exact ⟨(open_cap Tryd.underlying30 h0).2, (open_cap Tryd.underlying30 h1).2, (open_cap Tryd.underlying31 h2).2⟩
set_option maxRecDepth 20000 in
theorem open_routes2 {cs : List Value} (h : DataW.trod enc Tryd.prog W base sp held fuel 22 cs = some x) :
    ∃ (a : Option Addr) (c : Nat) (l : List Rt), cs = [.slice a l.length c] ∧ RtsAt W a l ∧ l.length ≤ maxLen ∧ (∀ r ∈ l, RtOk r) ∧ ∀ r ∈ l, RtNil r := by
  rcases open_slice Tryd.underlying22 h with ⟨rfl, -⟩ | ⟨q, len, cap, m, n, D, Pl, rfl, hb, hl, hm, hmm, -, hc⟩
  · exact ⟨none, 0, [], rfl, (fun hi => absurd hi (by simp)), Nat.zero_le _, (fun p hp => by cases hp), fun p hp => by cases hp⟩
  · rw [cellsRt] at hc
    haveI : Inhabited Rt := ⟨⟨0, none, 0, [], false, none, 0, [], ⟨#[]⟩, 0, 0, 0⟩⟩
    have each : ∀ i, i < m → ∃ y : Rt, W.cells? base (q.add (i * 8)) 8 = some (encR y) ∧ (MtsAt W y.ma y.ms ∧ StrsAt W y.ba y.bys) ∧ RtOk y ∧ RtNil y := fun i hi => by
      obtain ⟨cs', h1, h2⟩ := hc i hi
      obtain ⟨y, rfl, h3, h4⟩ := open_route h2
      exact ⟨y, h1, h3, h4, route_nil h2⟩
    obtain ⟨f, hf⟩ := choose_lt each
    have hlm : len ≤ m := by split at hmm <;> omega
    refine ⟨some q, cap, (List.range len).map f, by simp, fun hn => ?_, by simp; omega, fun y hy => ?_, fun y hy => ?_⟩
    · simp only [List.length_map, List.length_range] at hn
      obtain ⟨hc0, -⟩ := hf 0 (by omega)
      have hc00 := (World.cells?_some hc0).2.2 0 (by decide)
      obtain ⟨b, o, s⟩ := q
      obtain rfl : s = none := by simpa [Addr.add] using World.cell?_spot hc00
      refine ⟨b, o, rfl, ?_, fun i hi => ?_⟩
      · have := World.block_lt_of_cell? W _ hc00
        simpa [Addr.add] using this
      · simp only [List.length_map, List.length_range] at hi
        obtain ⟨c0, c1, -⟩ := hf i (by omega)
        simp only [List.getElem_map, List.getElem_range]
        exact ⟨cellsAt_of c0 b (o + i * 8) (Go.WideShapes.add_plain ..), c1⟩
    · obtain ⟨i, hi, rfl⟩ := List.mem_map.1 hy
      exact (hf i (by have := List.mem_range.1 hi; omega)).2.2.1
    · obtain ⟨i, hi, rfl⟩ := List.mem_map.1 hy
      exact (hf i (by have := List.mem_range.1 hi; omega)).2.2.2
set_option maxRecDepth 20000 in
theorem open_rules2 {cs : List Value} (h : DataW.trod enc Tryd.prog W base sp held fuel 23 cs = some x) :
    ∃ (a : Option Addr) (c : Nat) (l : List Rl), cs = [.slice a l.length c] ∧ RlsAt W a l ∧ l.length ≤ maxLen ∧ (∀ r ∈ l, RlOk r) ∧ ∀ r ∈ l, RlNil r := by
  rcases open_slice Tryd.underlying23 h with ⟨rfl, -⟩ | ⟨q, len, cap, m, n, D, Pl, rfl, hb, hl, hm, hmm, -, hc⟩
  · exact ⟨none, 0, [], rfl, (fun hi => absurd hi (by simp)), Nat.zero_le _, (fun p hp => by cases hp), fun p hp => by cases hp⟩
  · rw [cellsRl] at hc
    haveI : Inhabited Rl := ⟨⟨none, 0, [], none, 0, [], none, 0, []⟩⟩
    have each : ∀ i, i < m → ∃ y : Rl, W.cells? base (q.add (i * 3)) 3 = some (encL y) ∧ (MtsAt W y.sa y.src ∧ MtsAt W y.ta y.tgt ∧ StrsAt W y.ea y.eqs) ∧ RlOk y ∧ RlNil y := fun i hi => by
      obtain ⟨cs', h1, h2⟩ := hc i hi
      obtain ⟨y, rfl, h3, h4⟩ := open_rule h2
      exact ⟨y, h1, h3, h4, rule_nil h2⟩
    obtain ⟨f, hf⟩ := choose_lt each
    have hlm : len ≤ m := by split at hmm <;> omega
    refine ⟨some q, cap, (List.range len).map f, by simp, fun hn => ?_, by simp; omega, fun y hy => ?_, fun y hy => ?_⟩
    · simp only [List.length_map, List.length_range] at hn
      obtain ⟨hc0, -⟩ := hf 0 (by omega)
      have hc00 := (World.cells?_some hc0).2.2 0 (by decide)
      obtain ⟨b, o, s⟩ := q
      obtain rfl : s = none := by simpa [Addr.add] using World.cell?_spot hc00
      refine ⟨b, o, rfl, ?_, fun i hi => ?_⟩
      · have := World.block_lt_of_cell? W _ hc00
        simpa [Addr.add] using this
      · simp only [List.length_map, List.length_range] at hi
        obtain ⟨c0, c1, -⟩ := hf i (by omega)
        simp only [List.getElem_map, List.getElem_range]
        exact ⟨cellsAt_of c0 b (o + i * 3) (Go.WideShapes.add_plain ..), c1⟩
    · obtain ⟨i, hi, rfl⟩ := List.mem_map.1 hy
      exact (hf i (by have := List.mem_range.1 hi; omega)).2.2.1
    · obtain ⟨i, hi, rfl⟩ := List.mem_map.1 hy
      exact (hf i (by have := List.mem_range.1 hi; omega)).2.2.2
set_option maxRecDepth 20000 in
theorem open_config2 {base' : Nat} {r : Reach} {v : Value} (hv : Value.okWide Tryd.prog W r base' 25 v) (h : DataW.trod enc Tryd.prog W base sp held fuel 25 v.cells.toList = some x) :
    ∃ (a : Option Addr) (c : Nat) (l : List Rt) (b : Option Addr) (d : Nat) (ls : List Rl) (pt rs : Int), v = .agg #[.slice a l.length c, .slice b ls.length d, .int .i64 pt, .int .i64 rs] ∧
      (RtsAt W a l ∧ l.length ≤ maxLen ∧ (∀ r ∈ l, RtOk r) ∧ ∀ r ∈ l, RtNil r) ∧ (RlsAt W b ls ∧ ls.length ≤ maxLen ∧ (∀ r ∈ ls, RlOk r) ∧ ∀ r ∈ ls, RlNil r) := by
  obtain ⟨cs, rfl, hsz⟩ := okWide_struct Tryd.underlying25 hv
  obtain ⟨v0, v1, v2, v3, rfl⟩ := Go.Joins.array4 (hsz.trans cellsCf)
  obtain ⟨y0, y1, y2, y3, n, -, -, h0, h1, h2, h3⟩ := Go.Joins.trod_struct4 Tryd.underlying25 h
  simp [Value.cells, cellsRts1, cellsRls1, cellsInt1] at h0 h1 h2 h3
  obtain ⟨a, c, l, e0, k0⟩ := open_routes2 h0
  obtain ⟨b, d, ls, e1, k1⟩ := open_rules2 h1
  obtain ⟨z2, e2, -, -⟩ := DataW.trod_int Tryd.underlying3 h2
  obtain ⟨z3, e3, -, -⟩ := DataW.trod_int Tryd.underlying3 h3
  simp only [List.cons.injEq, and_true] at e0 e1 e2 e3
  subst e0 e1 e2 e3
  exact ⟨a, c, l, b, d, ls, z2, z3, rfl, k0, k1⟩
end

end Go.Proofs.YthaimnmbcbhioaaDoor
