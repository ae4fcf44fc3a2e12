/-
  Arguments of layer 8, opened beside a configuration: alerts (GOpen over MOpen in LOpen's place). Routes, plainly: a route's children, and where labels go. Arguments of layer 5, opened: routes, rules, a configuration. A configuration, opened: lists that lie nowhere have no room. A configuration, opened: its own two lists that lie nowhere have no room either.
-/
import Derived.Test.YtmanjegdgjeeiaaGreatDoorKW08
import Derived.Test.YtmanjegdgjeeiaaGreatDoorKW15
import Derived.Lib.SmallJoins
import Derived.Deep.Strs
namespace Go.Proofs.YtmanjegdgjeeiaaGreatDoor
open Go.ChangeShapes Go.WideShapes Go.ChangeAt Go.RowKit Go.Deep

section
variable {H : Type} {enc : TypeId × Value → H} {W : World} {base : Nat} {sp : Nat → Bool} {held : Bool} {fuel : Nat} {x : DataW H × List MemPlace}

theorem aopen_cap {t e : TypeId} {a : Option Addr} {len cap : Nat} (ht : Tryz.prog.underlying t = some (.slice e)) (h : DataW.trod enc Tryz.prog W base sp held fuel t [.slice a len cap] = some x) : len ≤ cap ∧ (a = none → cap = 0) := by
  rcases open_slice ht h with ⟨hcs, -⟩ | ⟨q, len', cap', m, n, D, Pl, hcs, hb, hl, hm, hmm, -, hc⟩
  · simp only [List.cons.injEq, Value.slice.injEq, and_true] at hcs
    obtain ⟨rfl, rfl, rfl⟩ := hcs
    exact ⟨Nat.le_refl _, fun _ => rfl⟩
  · simp only [List.cons.injEq, Value.slice.injEq, and_true] at hcs
    obtain ⟨rfl, rfl, rfl⟩ := hcs
    exact ⟨hl, fun h => by cases h⟩
theorem aslice_cs {t e : TypeId} {cs : List Value} (ht : Tryz.prog.underlying t = some (.slice e)) (h : DataW.trod enc Tryz.prog W base sp held fuel t cs = some x) : ∃ a len cap, cs = [.slice a len cap] := by
  rcases open_slice ht h with ⟨rfl, -⟩ | ⟨a, len, cap, -, -, -, -, rfl, -⟩
  · exact ⟨_, _, _, rfl⟩
  · exact ⟨_, _, _, rfl⟩
theorem cellsAl : Tryz.prog.cellsOf 42 = 3 := by kernel_rfl
theorem cellsI : Tryz.prog.cellsOf 3 = 1 := by kernel_rfl
theorem cellsPs : Tryz.prog.cellsOf 40 = 1 := by kernel_rfl
/-- An alert's labels and numbers, as they fit. -/
def RwFit (r : Rw) : Prop := (r.ad = none → r.cp = 0) ∧ r.ps.length ≤ maxLen ∧ ∀ p ∈ r.ps, p.1.size ≤ maxLen ∧ p.2.size ≤ maxLen

set_option maxRecDepth 20000 in
theorem open_alertC {cs : List Value} (h : DataW.trod enc Tryz.prog W base sp held fuel 42 cs = some x) : ∃ r : Rw, cs = encW r ∧ PairsAt W r.ad r.ps ∧ RwFit r ∧ ∃ d, x.1 = .agg [d, .lit (.int .i64 r.st), .lit (.int .i64 r.en)] ∧ (d = .nil ∧ r.ps = [] ∨ ∃ spare, d = .slice (r.ps.map fun p => .agg [.lit (.string p.1.data.toList), .lit (.string p.2.data.toList)]) spare) := by
  obtain ⟨y0, y1, y2, n, hx, hl, h0, h1, h2⟩ := trod_struct3 Tryz.underlying42 h
  rw [cellsAl] at hl
  match cs, hl with
  | [v0, v1, v2], _ =>
    simp [cellsPs, cellsI] at h0 h1 h2
    obtain ⟨a0, n0, c0, e0⟩ := aslice_cs Tryz.underlying40 h0
    rw [e0] at h0
    have hc := aopen_cap Tryz.underlying40 h0
    obtain ⟨ps, rfl, k0, k1, k2, k3⟩ := open_pairsM h0
    obtain ⟨z1, e1, f1, -⟩ := DataW.trod_int Tryz.underlying3 h1
    obtain ⟨z2, e2, f2, -⟩ := DataW.trod_int Tryz.underlying3 h2
    simp only [List.cons.injEq, and_true] at e0 e1 e2
    subst e0 e1 e2
    exact ⟨⟨ps, z1, z2, a0, c0⟩, rfl, k0, ⟨hc.2, k1, k2⟩, y0.1, by rw [hx, f1, f2], k3⟩
set_option maxRecDepth 20000 in
theorem open_alerts {a : Option Addr} {len cap : Nat} (h : DataW.trod enc Tryz.prog W base sp held fuel 26 [.slice a len cap] = some x) :
    ∃ l : List Rw, l.length = len ∧ AlsAt W a l ∧ l.length ≤ 9223372036854775807 ∧ ∀ y ∈ l, RwFit y := by
  have kM : maxLen = 9223372036854775807 := rfl
  rcases open_slice Tryz.underlying26 h with ⟨hcs, -⟩ | ⟨q, len', cap', m, n, D, Pl, hcs, hb, hl, hm, hmm, -, hc⟩
  · simp only [List.cons.injEq, Value.slice.injEq, and_true] at hcs
    obtain ⟨rfl, rfl, rfl⟩ := hcs
    exact ⟨[], rfl, fun hi => absurd hi (by simp), Nat.zero_le _, fun p hp => by cases hp⟩
  · simp only [List.cons.injEq, Value.slice.injEq, and_true] at hcs
    obtain ⟨rfl, rfl, rfl⟩ := hcs
    rw [cellsAl] at hc
    haveI : Inhabited Rw := ⟨⟨[], 0, 0, none, 0⟩⟩
    have each : ∀ i, i < m → ∃ y : Rw, W.cells? base (q.add (i * 3)) 3 = some (encW y) ∧ PairsAt W y.ad y.ps ∧ RwFit y := fun i hi => by
      obtain ⟨cs', h1, h2⟩ := hc i hi
      obtain ⟨y, rfl, h3, h4, -⟩ := open_alertC h2
      exact ⟨y, h1, h3, h4⟩
    obtain ⟨f, hf⟩ := choose_lt each
    have hlm : len ≤ m := by split at hmm <;> omega
    refine ⟨(List.range len).map f, by simp, fun hn => ?_, by simp; omega, fun y hy => ?_⟩
    · simp only [List.length_map, List.length_range] at hn
      obtain ⟨hc0, -⟩ := hf 0 (by omega)
      have hc00 := (World.cells?_some hc0).2.2 0 (by decide)
      obtain ⟨b, o, s⟩ := q
      obtain rfl : s = none := by simpa [Addr.add] using World.cell?_spot hc00
      refine ⟨b, o, rfl, ?_, fun i hi => ?_⟩
      · have := World.block_lt_of_cell? W _ hc00
        simpa [Addr.add] using this
      · simp only [List.length_map, List.length_range] at hi
        obtain ⟨c0, c1, -⟩ := hf i (by omega)
        simp only [List.getElem_map, List.getElem_range]
        obtain ⟨-, hk, hcell⟩ := World.cells?_some c0
        have g : ∀ j v, (encW (f i))[j]? = some v → W.cell? ⟨b, o + i * 3 + j, none⟩ = some v := fun j v hv => by
          have hj := (List.getElem?_eq_some_iff.1 hv).1
          have := (hcell j (by omega)).trans hv
          rw [Go.WideShapes.add_plain, Go.WideShapes.add_plain] at this
          exact this
        exact ⟨g 0 _ rfl, g 1 _ rfl, g 2 _ rfl, c1⟩
    · obtain ⟨i, hi, rfl⟩ := List.mem_map.1 hy
      exact (hf i (by have := List.mem_range.1 hi; omega)).2.2

end

end Go.Proofs.YtmanjegdgjeeiaaGreatDoor
namespace Go.Proofs.YtmanjegdgjeeiaaGreatDoor
open Go.ChangeAt Go.ChangeShapes Go.Deep Go.RowKit Go.WideShapes

/-- A route: its fields, and where its lists lie. -/
structure Rt where
  par : Int
  ma : Option Addr
  mc : Nat
  ms : List Mt
  co : Bool
  ba : Option Addr
  bc : Nat
  bys : List ByteArray
  rc : ByteArray
  wt : Int
  iv : Int
  rp : Int
/-- A route's cells. -/
def encR (r : Rt) : List Value := [.int .i64 r.par, .slice r.ma r.ms.length r.mc, .bool r.co, .slice r.ba r.bys.length r.bc, .string r.rc, .int .i64 r.wt, .int .i64 r.iv, .int .i64 r.rp]
/-- Texts lie at an address. -/
def StrsAt (w : World) (a : Option Addr) (l : List ByteArray) : Prop :=
  0 < l.length → ∃ b o, a = some ⟨b, o, none⟩ ∧ b < w.heap.size ∧ ∀ i (hi : i < l.length), w.cell? ⟨b, o + i, none⟩ = some (.string l[i])
theorem StrsAt.below {w w' : World} {a : Option Addr} {l : List ByteArray} {B : Nat} (h : StrsAt w a l) (hb : Below B w w') (hB : w.heap.size ≤ B) : StrsAt w' a l := fun hn => by
  obtain ⟨b, o, rfl, hbl, hc⟩ := h hn
  refine ⟨b, o, rfl, Nat.lt_of_lt_of_le hbl hb.size, fun i hi => ?_⟩
  rw [hb.cell (p := ⟨b, o + i, none⟩) (Nat.lt_of_lt_of_le hbl hB)]
  exact hc i hi
/-- A route's cells lie at a place. -/
def CellsAt (w : World) (b p : Nat) (l : List Value) : Prop := ∀ j v, l[j]? = some v → w.cell? ⟨b, p + j, none⟩ = some v
/-- Routes lie at an address, and their lists where they say. -/
def RtsAt (w : World) (a : Option Addr) (l : List Rt) : Prop :=
  0 < l.length → ∃ b o, a = some ⟨b, o, none⟩ ∧ b < w.heap.size ∧ ∀ i (hi : i < l.length), CellsAt w b (o + i * 8) (encR l[i]) ∧ MtsAt w l[i].ma l[i].ms ∧ StrsAt w l[i].ba l[i].bys
theorem RtsAt.below {w w' : World} {a : Option Addr} {l : List Rt} {B : Nat} (h : RtsAt w a l) (hb : Below B w w') (hB : w.heap.size ≤ B) : RtsAt w' a l := fun hn => by
  obtain ⟨b, o, rfl, hbl, hc⟩ := h hn
  refine ⟨b, o, rfl, Nat.lt_of_lt_of_le hbl hb.size, fun i hi => ?_⟩
  obtain ⟨h1, h2, h3⟩ := hc i hi
  refine ⟨fun j v hv => ?_, h2.below hb hB, h3.below hb hB⟩
  rw [hb.cell (p := ⟨b, o + i * 8 + j, none⟩) (Nat.lt_of_lt_of_le hbl hB)]
  exact h1 j v hv

/-- A route's children among the first n. -/
def kidsTo (l : List Rt) (i n : Nat) : List Nat := (List.range n).filter fun k => (l[k]?.map Rt.par) == some (i : Int)
def kidsP (l : List Rt) (i : Nat) : List Nat := kidsTo l i l.length
theorem kidsTo_succ_yes {l : List Rt} {i n : Nat} (hn : n < l.length) (h : l[n].par = (i : Int)) : kidsTo l i (n + 1) = kidsTo l i n ++ [n] := by
  unfold kidsTo
  rw [List.range_succ, List.filter_append]
  simp [hn, h]
theorem kidsTo_succ_no {l : List Rt} {i n : Nat} (hn : n < l.length) (h : l[n].par ≠ (i : Int)) : kidsTo l i (n + 1) = kidsTo l i n := by
  unfold kidsTo
  rw [List.range_succ, List.filter_append]
  simp [hn, h]
theorem kids_lt {l : List Rt} {i n k : Nat} (h : k ∈ kidsTo l i n) : k < n := by
  unfold kidsTo at h
  exact List.mem_range.1 (List.mem_filter.1 h).1
theorem kids_len (l : List Rt) (i n : Nat) : (kidsTo l i n).length ≤ n := by
  unfold kidsTo
  exact Nat.le_trans (List.length_filter_le _ _) (by simp)

/-- What children hand on, each telling by g, in their order, up to one that took labels and does not continue. -/
def runKids (g : Nat → List Nat) (co : Nat → Bool) : List Nat → List Nat
  | [] => []
  | k :: r => if g k = [] then runKids g co r else if co k then g k ++ runKids g co r else g k
/-- What a route tells (nothing: it does not take the labels), where no more than so many routes may lead on. -/
def walkP (tk co : Nat → Bool) (kids : Nat → List Nat) : Nat → Nat → List Nat
  | 0, _ => []
  | f + 1, a => if tk a then (if runKids (walkP tk co kids f) co (kids a) = [] then [a] else runKids (walkP tk co kids f) co (kids a)) else []


/-- A rule: where its lists lie, and what they are. -/
structure Rl where
  sa : Option Addr
  sc : Nat
  src : List Mt
  ta : Option Addr
  tc : Nat
  tgt : List Mt
  ea : Option Addr
  ec : Nat
  eqs : List ByteArray
def encL (r : Rl) : List Value := [.slice r.sa r.src.length r.sc, .slice r.ta r.tgt.length r.tc, .slice r.ea r.eqs.length r.ec]
/-- Rules lie at an address. -/
def RlsAt (w : World) (a : Option Addr) (l : List Rl) : Prop :=
  0 < l.length → ∃ b o, a = some ⟨b, o, none⟩ ∧ b < w.heap.size ∧ ∀ i (hi : i < l.length), CellsAt w b (o + i * 3) (encL l[i]) ∧ MtsAt w l[i].sa l[i].src ∧ MtsAt w l[i].ta l[i].tgt ∧ StrsAt w l[i].ea l[i].eqs
theorem RlsAt.below {w w' : World} {a : Option Addr} {l : List Rl} {B : Nat} (h : RlsAt w a l) (hb : Below B w w') (hB : w.heap.size ≤ B) : RlsAt w' a l := fun hn => by
  obtain ⟨b, o, rfl, hbl, hc⟩ := h hn
  refine ⟨b, o, rfl, Nat.lt_of_lt_of_le hbl hb.size, fun i hi => ?_⟩
  obtain ⟨h1, h2, h3, h4⟩ := hc i hi
  refine ⟨fun j v hv => ?_, h2.below hb hB, h3.below hb hB, h4.below hb hB⟩
  rw [hb.cell (p := ⟨b, o + i * 3 + j, none⟩) (Nat.lt_of_lt_of_le hbl hB)]
  exact h1 j v hv

/-- Matchers and texts that fit into a machine. -/
abbrev MtsOk (ms : List Mt) : Prop := ms.length ≤ maxLen ∧ ∀ m ∈ ms, m.1.size ≤ maxLen ∧ m.2.2.size ≤ maxLen
abbrev StrsOk (l : List ByteArray) : Prop := l.length ≤ maxLen ∧ ∀ s ∈ l, s.size ≤ maxLen
abbrev RtOk (r : Rt) : Prop := MtsOk r.ms ∧ (StrsOk r.bys ∧ r.bys.length ≤ r.bc) ∧ r.rc.size ≤ maxLen
abbrev RlOk (r : Rl) : Prop := MtsOk r.src ∧ MtsOk r.tgt ∧ StrsOk r.eqs ∧ r.eqs.length ≤ r.ec

section
variable {H : Type} {enc : TypeId × Value → H} {W : World} {base : Nat} {sp : Nat → Bool} {held : Bool} {fuel : Nat} {x : DataW H × List MemPlace}

theorem slice_cs {t e : TypeId} {cs : List Value} (ht : Tryz.prog.underlying t = some (.slice e)) (h : DataW.trod enc Tryz.prog W base sp held fuel t cs = some x) : ∃ a len cap, cs = [.slice a len cap] := by
  rcases open_slice ht h with ⟨rfl, -⟩ | ⟨a, len, cap, -, -, -, -, rfl, -⟩
  · exact ⟨_, _, _, rfl⟩
  · exact ⟨_, _, _, rfl⟩

set_option maxRecDepth 20000 in
theorem open_strs {a : Option Addr} {len cap : Nat} (h : DataW.trod enc Tryz.prog W base sp held fuel 49 [.slice a len cap] = some x) :
    ∃ l : List ByteArray, l.length = len ∧ StrsAt W a l ∧ StrsOk l ∧ len ≤ cap := by
  rcases open_slice Tryz.underlying49 h with ⟨hcs, -⟩ | ⟨q, len', cap', m, n, D, Pl, hcs, hb, hl, hm, hmm, -, hc⟩
  · simp only [List.cons.injEq, Value.slice.injEq, and_true] at hcs
    obtain ⟨rfl, rfl, rfl⟩ := hcs
    exact ⟨[], rfl, fun hi => absurd hi (by simp), ⟨Nat.zero_le _, fun p hp => by cases hp⟩, Nat.zero_le _⟩
  · simp only [List.cons.injEq, Value.slice.injEq, and_true] at hcs
    obtain ⟨rfl, rfl, rfl⟩ := hcs
    rw [cellsStr1] at hc
    have each : ∀ i, i < m → ∃ y : ByteArray, W.cell? ((q.add (i * 1)).add 0) = some (.string y) ∧ y.size ≤ maxLen := fun i hi => by
      obtain ⟨cs', h1, h2⟩ := hc i hi
      obtain ⟨-, -, hcell⟩ := World.cells?_some h1
      obtain ⟨s0, rfl, -, g0⟩ := DataW.trod_string Tryz.underlying9 h2
      exact ⟨s0, hcell 0 (by omega), g0⟩
    obtain ⟨f, hf⟩ := choose_lt each
    have hlm : len ≤ m := by split at hmm <;> omega
    refine ⟨(List.range len).map f, by simp, fun hn => ?_, ⟨by simp; omega, fun y hy => ?_⟩, hl⟩
    · simp only [List.length_map, List.length_range] at hn
      obtain ⟨hc0, -⟩ := hf 0 (by omega)
      obtain ⟨b, o, s⟩ := q
      obtain rfl : s = none := by simpa [Addr.add] using World.cell?_spot hc0
      refine ⟨b, o, rfl, ?_, fun i hi => ?_⟩
      · have := World.block_lt_of_cell? W _ hc0
        simpa [Addr.add] using this
      · simp only [List.length_map, List.length_range] at hi
        obtain ⟨c0, -⟩ := hf i (by omega)
        rw [Go.WideShapes.add_plain, Go.WideShapes.add_plain] at c0
        simp only [List.getElem_map, List.getElem_range]
        simpa using c0
    · obtain ⟨i, hi, rfl⟩ := List.mem_map.1 hy
      exact (hf i (by have := List.mem_range.1 hi; omega)).2

theorem open_mts {cs : List Value} (h : DataW.trod enc Tryz.prog W base sp held fuel 48 cs = some x) : ∃ (a : Option Addr) (c : Nat) (ms : List Mt), cs = [.slice a ms.length c] ∧ MtsAt W a ms ∧ MtsOk ms := by
  obtain ⟨a, len, cap, rfl⟩ := slice_cs Tryz.underlying48 h
  obtain ⟨ms, rfl, h1, h2, ⟨-, h3⟩, -⟩ := open_matchers h
  exact ⟨a, cap, ms, rfl, h1, h2, h3⟩
theorem open_sts {cs : List Value} (h : DataW.trod enc Tryz.prog W base sp held fuel 49 cs = some x) : ∃ (a : Option Addr) (c : Nat) (l : List ByteArray), cs = [.slice a l.length c] ∧ StrsAt W a l ∧ StrsOk l ∧ l.length ≤ c := by
  obtain ⟨a, len, cap, rfl⟩ := slice_cs Tryz.underlying49 h
  obtain ⟨l, rfl, h1, h2⟩ := open_strs h
  exact ⟨a, cap, l, rfl, h1, h2⟩

theorem trod_struct8 {t : TypeId} {f0 f1 f2 f3 f4 f5 f6 f7 : Field} {cs : List Value} (ht : Tryz.prog.underlying t = some (.struct #[f0, f1, f2, f3, f4, f5, f6, f7])) (h : DataW.trod enc Tryz.prog W base sp held fuel t cs = some x) :
    ∃ y0 y1 y2 y3 y4 y5 y6 y7 n, cs.length = Tryz.prog.cellsOf t ∧ DataW.trod enc Tryz.prog W base sp held n f0.type ((cs.drop f0.offset).take (Tryz.prog.cellsOf f0.type)) = some y0 ∧
      DataW.trod enc Tryz.prog W base sp held n f1.type ((cs.drop f1.offset).take (Tryz.prog.cellsOf f1.type)) = some y1 ∧ DataW.trod enc Tryz.prog W base sp held n f2.type ((cs.drop f2.offset).take (Tryz.prog.cellsOf f2.type)) = some y2 ∧
      DataW.trod enc Tryz.prog W base sp held n f3.type ((cs.drop f3.offset).take (Tryz.prog.cellsOf f3.type)) = some y3 ∧ DataW.trod enc Tryz.prog W base sp held n f4.type ((cs.drop f4.offset).take (Tryz.prog.cellsOf f4.type)) = some y4 ∧
      DataW.trod enc Tryz.prog W base sp held n f5.type ((cs.drop f5.offset).take (Tryz.prog.cellsOf f5.type)) = some y5 ∧ DataW.trod enc Tryz.prog W base sp held n f6.type ((cs.drop f6.offset).take (Tryz.prog.cellsOf f6.type)) = some y6 ∧
      DataW.trod enc Tryz.prog W base sp held n f7.type ((cs.drop f7.offset).take (Tryz.prog.cellsOf f7.type)) = some y7 := by
  obtain ⟨xs, n, _, -, hl, hlen, hf⟩ := DataW.trod_struct ht h
  match xs, hlen with
  | [y0, y1, y2, y3, y4, y5, y6, y7], _ => exact ⟨y0, y1, y2, y3, y4, y5, y6, y7, n, hl, by simpa using hf 0 f0 rfl, by simpa using hf 1 f1 rfl, by simpa using hf 2 f2 rfl, by simpa using hf 3 f3 rfl, by simpa using hf 4 f4 rfl, by simpa using hf 5 f5 rfl, by simpa using hf 6 f6 rfl, by simpa using hf 7 f7 rfl⟩

theorem cellsRt : Tryz.prog.cellsOf 51 = 8 := by kernel_rfl
theorem cellsRl : Tryz.prog.cellsOf 55 = 3 := by kernel_rfl
theorem cellsInt1 : Tryz.prog.cellsOf 3 = 1 := by kernel_rfl
theorem cellsBool1 : Tryz.prog.cellsOf 4 = 1 := by kernel_rfl
theorem cellsMts1 : Tryz.prog.cellsOf 48 = 1 := by kernel_rfl
theorem cellsStrs1 : Tryz.prog.cellsOf 49 = 1 := by kernel_rfl
theorem cellsRts1 : Tryz.prog.cellsOf 22 = 1 := by kernel_rfl
theorem cellsRls1 : Tryz.prog.cellsOf 23 = 1 := by kernel_rfl
theorem cellsCf : Tryz.prog.cellsOf 25 = 4 := by kernel_rfl

set_option maxRecDepth 20000 in
theorem open_route {cs : List Value} (h : DataW.trod enc Tryz.prog W base sp held fuel 51 cs = some x) :
    ∃ r : Rt, cs = encR r ∧ (MtsAt W r.ma r.ms ∧ StrsAt W r.ba r.bys) ∧ RtOk r := by
  obtain ⟨y0, y1, y2, y3, y4, y5, y6, y7, n, hl, h0, h1, h2, h3, h4, h5, h6, h7⟩ := trod_struct8 Tryz.underlying51 h
  rw [cellsRt] at hl
  match cs, hl with
  | [v0, v1, v2, v3, v4, v5, v6, v7], _ =>
    simp [cellsStr1, cellsInt1, cellsBool1, cellsMts1, cellsStrs1] at h0 h1 h2 h3 h4 h5 h6 h7
    obtain ⟨z0, e0, -, -⟩ := DataW.trod_int Tryz.underlying3 h0
    obtain ⟨ma, mc, ms, e1, k1, k2⟩ := open_mts h1
    obtain ⟨z2, e2, -⟩ := DataW.trod_bool Tryz.underlying4 h2
    obtain ⟨ba, bc, bys, e3, k3, k4⟩ := open_sts h3
    obtain ⟨s4, e4, -, g4⟩ := DataW.trod_string Tryz.underlying9 h4
    obtain ⟨z5, e5, -, -⟩ := DataW.trod_int Tryz.underlying3 h5
    obtain ⟨z6, e6, -, -⟩ := DataW.trod_int Tryz.underlying3 h6
    obtain ⟨z7, e7, -, -⟩ := DataW.trod_int Tryz.underlying3 h7
    simp only [List.cons.injEq, and_true] at e0 e1 e2 e3 e4 e5 e6 e7
    subst e0 e1 e2 e3 e4 e5 e6 e7
    exact ⟨⟨z0, ma, mc, ms, z2, ba, bc, bys, s4, z5, z6, z7⟩, rfl, ⟨k1, k3⟩, k2, k4, g4⟩
set_option maxRecDepth 20000 in
theorem open_rule {cs : List Value} (h : DataW.trod enc Tryz.prog W base sp held fuel 55 cs = some x) :
    ∃ r : Rl, cs = encL r ∧ (MtsAt W r.sa r.src ∧ MtsAt W r.ta r.tgt ∧ StrsAt W r.ea r.eqs) ∧ RlOk r := by
  obtain ⟨y0, y1, y2, n, -, hl, h0, h1, h2⟩ := trod_struct3 Tryz.underlying55 h
  rw [cellsRl] at hl
  match cs, hl with
  | [v0, v1, v2], _ =>
    simp [cellsMts1, cellsStrs1] at h0 h1 h2
    obtain ⟨a0, c0, l0, e0, k0, g0⟩ := open_mts h0
    obtain ⟨a1, c1, l1, e1, k1, g1⟩ := open_mts h1
    obtain ⟨a2, c2, l2, e2, k2, g2⟩ := open_sts h2
    simp only [List.cons.injEq, and_true] at e0 e1 e2
    subst e0 e1 e2
    exact ⟨⟨a0, c0, l0, a1, c1, l1, a2, c2, l2⟩, rfl, ⟨k0, k1, k2⟩, g0, g1, g2⟩

/-- Cells of a list of values, out of a row of cells. -/
theorem cellsAt_of {q : Addr} {k : Nat} {cs : List Value} (h : W.cells? base q k = some cs) (b o : Nat) (hq : q = ⟨b, o, none⟩) : CellsAt W b o cs := fun j v hv => by
  obtain ⟨-, hk, hcell⟩ := World.cells?_some h
  subst hq
  have hj := (List.getElem?_eq_some_iff.1 hv).1
  have := (hcell j (by omega)).trans hv
  rw [Go.WideShapes.add_plain] at this
  exact this

set_option maxRecDepth 20000 in
theorem open_routes {cs : List Value} (h : DataW.trod enc Tryz.prog W base sp held fuel 22 cs = some x) :
    ∃ (a : Option Addr) (c : Nat) (l : List Rt), cs = [.slice a l.length c] ∧ RtsAt W a l ∧ l.length ≤ maxLen ∧ ∀ r ∈ l, RtOk r := by
  rcases open_slice Tryz.underlying22 h with ⟨rfl, -⟩ | ⟨q, len, cap, m, n, D, Pl, rfl, hb, hl, hm, hmm, -, hc⟩
  · exact ⟨none, 0, [], rfl, fun hi => absurd hi (by simp), Nat.zero_le _, fun p hp => by cases hp⟩
  · rw [cellsRt] at hc
    haveI : Inhabited Rt := ⟨⟨0, none, 0, [], false, none, 0, [], ⟨#[]⟩, 0, 0, 0⟩⟩
    have each : ∀ i, i < m → ∃ y : Rt, W.cells? base (q.add (i * 8)) 8 = some (encR y) ∧ (MtsAt W y.ma y.ms ∧ StrsAt W y.ba y.bys) ∧ RtOk y := fun i hi => by
      obtain ⟨cs', h1, h2⟩ := hc i hi
      obtain ⟨y, rfl, h3, h4⟩ := open_route h2
      exact ⟨y, h1, h3, h4⟩
    obtain ⟨f, hf⟩ := choose_lt each
    have hlm : len ≤ m := by split at hmm <;> omega
    refine ⟨some q, cap, (List.range len).map f, by simp, fun hn => ?_, by simp; omega, fun y hy => ?_⟩
    · simp only [List.length_map, List.length_range] at hn
      obtain ⟨hc0, -⟩ := hf 0 (by omega)
      have hc00 := (World.cells?_some hc0).2.2 0 (by decide)
      obtain ⟨b, o, s⟩ := q
      obtain rfl : s = none := by simpa [Addr.add] using World.cell?_spot hc00
      refine ⟨b, o, rfl, ?_, fun i hi => ?_⟩
      · have := World.block_lt_of_cell? W _ hc00
        simpa [Addr.add] using this
      · simp only [List.length_map, List.length_range] at hi
        obtain ⟨c0, c1, -⟩ := hf i (by omega)
        simp only [List.getElem_map, List.getElem_range]
        exact ⟨cellsAt_of c0 b (o + i * 8) (Go.WideShapes.add_plain ..), c1⟩
    · obtain ⟨i, hi, rfl⟩ := List.mem_map.1 hy
      exact (hf i (by have := List.mem_range.1 hi; omega)).2.2
set_option maxRecDepth 20000 in
theorem open_rules {cs : List Value} (h : DataW.trod enc Tryz.prog W base sp held fuel 23 cs = some x) :
    ∃ (a : Option Addr) (c : Nat) (l : List Rl), cs = [.slice a l.length c] ∧ RlsAt W a l ∧ l.length ≤ maxLen ∧ ∀ r ∈ l, RlOk r := by
  rcases open_slice Tryz.underlying23 h with ⟨rfl, -⟩ | ⟨q, len, cap, m, n, D, Pl, rfl, hb, hl, hm, hmm, -, hc⟩
  · exact ⟨none, 0, [], rfl, fun hi => absurd hi (by simp), Nat.zero_le _, fun p hp => by cases hp⟩
  · rw [cellsRl] at hc
    haveI : Inhabited Rl := ⟨⟨none, 0, [], none, 0, [], none, 0, []⟩⟩
    have each : ∀ i, i < m → ∃ y : Rl, W.cells? base (q.add (i * 3)) 3 = some (encL y) ∧ (MtsAt W y.sa y.src ∧ MtsAt W y.ta y.tgt ∧ StrsAt W y.ea y.eqs) ∧ RlOk y := fun i hi => by
      obtain ⟨cs', h1, h2⟩ := hc i hi
      obtain ⟨y, rfl, h3, h4⟩ := open_rule h2
      exact ⟨y, h1, h3, h4⟩
    obtain ⟨f, hf⟩ := choose_lt each
    have hlm : len ≤ m := by split at hmm <;> omega
    refine ⟨some q, cap, (List.range len).map f, by simp, fun hn => ?_, by simp; omega, fun y hy => ?_⟩
    · simp only [List.length_map, List.length_range] at hn
      obtain ⟨hc0, -⟩ := hf 0 (by omega)
      have hc00 := (World.cells?_some hc0).2.2 0 (by decide)
      obtain ⟨b, o, s⟩ := q
      obtain rfl : s = none := by simpa [Addr.add] using World.cell?_spot hc00
      refine ⟨b, o, rfl, ?_, fun i hi => ?_⟩
      · have := World.block_lt_of_cell? W _ hc00
        simpa [Addr.add] using this
      · simp only [List.length_map, List.length_range] at hi
        obtain ⟨c0, c1, -⟩ := hf i (by omega)
        simp only [List.getElem_map, List.getElem_range]
        exact ⟨cellsAt_of c0 b (o + i * 3) (Go.WideShapes.add_plain ..), c1⟩
    · obtain ⟨i, hi, rfl⟩ := List.mem_map.1 hy
      exact (hf i (by have := List.mem_range.1 hi; omega)).2.2

set_option maxRecDepth 20000 in
theorem open_config {base' : Nat} {r : Reach} {v : Value} (hv : Value.okWide Tryz.prog W r base' 25 v) (h : DataW.trod enc Tryz.prog W base sp held fuel 25 v.cells.toList = some x) :
    ∃ (a : Option Addr) (c : Nat) (l : List Rt) (b : Option Addr) (d : Nat) (ls : List Rl) (pt rs : Int), v = .agg #[.slice a l.length c, .slice b ls.length d, .int .i64 pt, .int .i64 rs] ∧
      (RtsAt W a l ∧ l.length ≤ maxLen ∧ ∀ r ∈ l, RtOk r) ∧ (RlsAt W b ls ∧ ls.length ≤ maxLen ∧ ∀ r ∈ ls, RlOk r) := by
  obtain ⟨cs, rfl, hsz⟩ := okWide_struct Tryz.underlying25 hv
  obtain ⟨v0, v1, v2, v3, rfl⟩ := Go.Joins.array4 (hsz.trans cellsCf)
  obtain ⟨y0, y1, y2, y3, n, -, -, h0, h1, h2, h3⟩ := Go.Joins.trod_struct4 Tryz.underlying25 h
  simp [Value.cells, cellsRts1, cellsRls1, cellsInt1] at h0 h1 h2 h3
  obtain ⟨a, c, l, e0, k0⟩ := open_routes h0
  obtain ⟨b, d, ls, e1, k1⟩ := open_rules h1
  obtain ⟨z2, e2, -, -⟩ := DataW.trod_int Tryz.underlying3 h2
  obtain ⟨z3, e3, -, -⟩ := DataW.trod_int Tryz.underlying3 h3
  simp only [List.cons.injEq, and_true] at e0 e1 e2 e3
  subst e0 e1 e2 e3
  exact ⟨a, c, l, b, d, ls, z2, z3, rfl, k0, k1⟩

end

end Go.Proofs.YtmanjegdgjeeiaaGreatDoor
namespace Go.Proofs.YtmanjegdgjeeiaaGreatDoor
open Go.ChangeAt Go.ChangeShapes Go.Deep Go.RowKit Go.WideShapes

section
variable {H : Type} {enc : TypeId × Value → H} {W : World} {base : Nat} {sp : Nat → Bool} {held : Bool} {fuel : Nat} {x : DataW H × List MemPlace}

theorem open_cap {t e : TypeId} {a : Option Addr} {len cap : Nat} (ht : Tryz.prog.underlying t = some (.slice e)) (h : DataW.trod enc Tryz.prog W base sp held fuel t [.slice a len cap] = some x) : len ≤ cap ∧ (a = none → cap = 0) := by
  rcases open_slice ht h with ⟨hcs, -⟩ | ⟨q, len', cap', m, n, D, Pl, hcs, hb, hl, hm, hmm, -, hc⟩
  · simp only [List.cons.injEq, Value.slice.injEq, and_true] at hcs
    obtain ⟨rfl, rfl, rfl⟩ := hcs
    exact ⟨Nat.le_refl _, fun _ => rfl⟩
  · simp only [List.cons.injEq, Value.slice.injEq, and_true] at hcs
    obtain ⟨rfl, rfl, rfl⟩ := hcs
    exact ⟨hl, fun h => by cases h⟩
/-- A route's lists that lie nowhere. -/
abbrev RtNil (r : Rt) : Prop := (r.ma = none → r.mc = 0) ∧ (r.ba = none → r.bc = 0)
abbrev RlNil (r : Rl) : Prop := (r.sa = none → r.sc = 0) ∧ (r.ta = none → r.tc = 0) ∧ (r.ea = none → r.ec = 0)
set_option maxRecDepth 20000 in
theorem route_nil {r : Rt} (h : DataW.trod enc Tryz.prog W base sp held fuel 51 (encR r) = some x) : RtNil r := by
  obtain ⟨y0, y1, y2, y3, y4, y5, y6, y7, n, hl, h0, h1, h2, h3, h4, h5, h6, h7⟩ := trod_struct8 Tryz.underlying51 h
  simp [encR, cellsMts1, cellsStrs1] at h1 h3
  exact ⟨(open_cap Tryz.underlying48 h1).2, (open_cap Tryz.underlying49 h3).2⟩
set_option maxRecDepth 20000 in
theorem rule_nil {r : Rl} (h : DataW.trod enc Tryz.prog W base sp held fuel 55 (encL r) = some x) : RlNil r := by
  obtain ⟨y0, y1, y2, n, -, hl, h0, h1, h2⟩ := trod_struct3 Tryz.underlying55 h
  simp [encL, cellsMts1, cellsStrs1] at h0 h1 h2
  exact ⟨(open_cap Tryz.underlying48 h0).2, (open_cap Tryz.underlying48 h1).2, (open_cap Tryz.underlying49 h2).2⟩
set_option maxRecDepth 20000 in
theorem open_routes2 {cs : List Value} (h : DataW.trod enc Tryz.prog W base sp held fuel 22 cs = some x) :
    ∃ (a : Option Addr) (c : Nat) (l : List Rt), cs = [.slice a l.length c] ∧ RtsAt W a l ∧ l.length ≤ maxLen ∧ (∀ r ∈ l, RtOk r) ∧ ∀ r ∈ l, RtNil r := by
  rcases open_slice Tryz.underlying22 h with ⟨rfl, -⟩ | ⟨q, len, cap, m, n, D, Pl, rfl, hb, hl, hm, hmm, -, hc⟩
  · exact ⟨none, 0, [], rfl, (fun hi => absurd hi (by simp)), Nat.zero_le _, (fun p hp => by cases hp), fun p hp => by cases hp⟩
  · rw [cellsRt] at hc
    haveI : Inhabited Rt := ⟨⟨0, none, 0, [], false, none, 0, [], ⟨#[]⟩, 0, 0, 0⟩⟩
    have each : ∀ i, i < m → ∃ y : Rt, W.cells? base (q.add (i * 8)) 8 = some (encR y) ∧ (MtsAt W y.ma y.ms ∧ StrsAt W y.ba y.bys) ∧ RtOk y ∧ RtNil y := fun i hi => by
      obtain ⟨cs', h1, h2⟩ := hc i hi
      obtain ⟨y, rfl, h3, h4⟩ := open_route h2
      exact ⟨y, h1, h3, h4, route_nil h2⟩
    obtain ⟨f, hf⟩ := choose_lt each
    have hlm : len ≤ m := by split at hmm <;> omega
    refine ⟨some q, cap, (List.range len).map f, by simp, fun hn => ?_, by simp; omega, fun y hy => ?_, fun y hy => ?_⟩
    · simp only [List.length_map, List.length_range] at hn
      obtain ⟨hc0, -⟩ := hf 0 (by omega)
      have hc00 := (World.cells?_some hc0).2.2 0 (by decide)
      obtain ⟨b, o, s⟩ := q
      obtain rfl : s = none := by simpa [Addr.add] using World.cell?_spot hc00
      refine ⟨b, o, rfl, ?_, fun i hi => ?_⟩
      · have := World.block_lt_of_cell? W _ hc00
        simpa [Addr.add] using this
      · simp only [List.length_map, List.length_range] at hi
        obtain ⟨c0, c1, -⟩ := hf i (by omega)
        simp only [List.getElem_map, List.getElem_range]
        exact ⟨cellsAt_of c0 b (o + i * 8) (Go.WideShapes.add_plain ..), c1⟩
    · obtain ⟨i, hi, rfl⟩ := List.mem_map.1 hy
      exact (hf i (by have := List.mem_range.1 hi; omega)).2.2.1
    · obtain ⟨i, hi, rfl⟩ := List.mem_map.1 hy
      exact (hf i (by have := List.mem_range.1 hi; omega)).2.2.2
set_option maxRecDepth 20000 in
theorem open_rules2 {cs : List Value} (h : DataW.trod enc Tryz.prog W base sp held fuel 23 cs = some x) :
    ∃ (a : Option Addr) (c : Nat) (l : List Rl), cs = [.slice a l.length c] ∧ RlsAt W a l ∧ l.length ≤ maxLen ∧ (∀ r ∈ l, RlOk r) ∧ ∀ r ∈ l, RlNil r := by
  rcases open_slice Tryz.underlying23 h with ⟨rfl, -⟩ | ⟨q, len, cap, m, n, D, Pl, rfl, hb, hl, hm, hmm, -, hc⟩
  · exact ⟨none, 0, [], rfl, (fun hi => absurd hi (by simp)), Nat.zero_le _, (fun p hp => by cases hp), fun p hp => by cases hp⟩
  · rw [cellsRl] at hc
    haveI : Inhabited Rl := ⟨⟨none, 0, [], none, 0, [], none, 0, []⟩⟩
    have each : ∀ i, i < m → ∃ y : Rl, W.cells? base (q.add (i * 3)) 3 = some (encL y) ∧ (MtsAt W y.sa y.src ∧ MtsAt W y.ta y.tgt ∧ StrsAt W y.ea y.eqs) ∧ RlOk y ∧ RlNil y := fun i hi => by
      obtain ⟨cs', h1, h2⟩ := hc i hi
      obtain ⟨y, rfl, h3, h4⟩ := open_rule h2
      exact ⟨y, h1, h3, h4, rule_nil h2⟩
    obtain ⟨f, hf⟩ := choose_lt each
    have hlm : len ≤ m := by split at hmm <;> omega
    refine ⟨some q, cap, (List.range len).map f, by simp, fun hn => ?_, by simp; omega, fun y hy => ?_, fun y hy => ?_⟩
    · simp only [List.length_map, List.length_range] at hn
      obtain ⟨hc0, -⟩ := hf 0 (by omega)
      have hc00 := (World.cells?_some hc0).2.2 0 (by decide)
      obtain ⟨b, o, s⟩ := q
      obtain rfl : s = none := by simpa [Addr.add] using World.cell?_spot hc00
      refine ⟨b, o, rfl, ?_, fun i hi => ?_⟩
      · have := World.block_lt_of_cell? W _ hc00
        simpa [Addr.add] using this
      · simp only [List.length_map, List.length_range] at hi
        obtain ⟨c0, c1, -⟩ := hf i (by omega)
        simp only [List.getElem_map, List.getElem_range]
        exact ⟨cellsAt_of c0 b (o + i * 3) (Go.WideShapes.add_plain ..), c1⟩
    · obtain ⟨i, hi, rfl⟩ := List.mem_map.1 hy
      exact (hf i (by have := List.mem_range.1 hi; omega)).2.2.1
    · obtain ⟨i, hi, rfl⟩ := List.mem_map.1 hy
      exact (hf i (by have := List.mem_range.1 hi; omega)).2.2.2
set_option maxRecDepth 20000 in
theorem open_config2 {base' : Nat} {r : Reach} {v : Value} (hv : Value.okWide Tryz.prog W r base' 25 v) (h : DataW.trod enc Tryz.prog W base sp held fuel 25 v.cells.toList = some x) :
    ∃ (a : Option Addr) (c : Nat) (l : List Rt) (b : Option Addr) (d : Nat) (ls : List Rl) (pt rs : Int), v = .agg #[.slice a l.length c, .slice b ls.length d, .int .i64 pt, .int .i64 rs] ∧
      (RtsAt W a l ∧ l.length ≤ maxLen ∧ (∀ r ∈ l, RtOk r) ∧ ∀ r ∈ l, RtNil r) ∧ (RlsAt W b ls ∧ ls.length ≤ maxLen ∧ (∀ r ∈ ls, RlOk r) ∧ ∀ r ∈ ls, RlNil r) := by
  obtain ⟨cs, rfl, hsz⟩ := okWide_struct Tryz.underlying25 hv
  obtain ⟨v0, v1, v2, v3, rfl⟩ := Go.Joins.array4 (hsz.trans cellsCf)
  obtain ⟨y0, y1, y2, y3, n, -, -, h0, h1, h2, h3⟩ := Go.Joins.trod_struct4 Tryz.underlying25 h
  simp [Value.cells, cellsRts1, cellsRls1, cellsInt1] at h0 h1 h2 h3
  obtain ⟨a, c, l, e0, k0⟩ := open_routes2 h0
  obtain ⟨b, d, ls, e1, k1⟩ := open_rules2 h1
  obtain ⟨z2, e2, -, -⟩ := DataW.trod_int Tryz.underlying3 h2
  obtain ⟨z3, e3, -, -⟩ := DataW.trod_int Tryz.underlying3 h3
  simp only [List.cons.injEq, and_true] at e0 e1 e2 e3
  subst e0 e1 e2 e3
  exact ⟨a, c, l, b, d, ls, z2, z3, rfl, k0, k1⟩
end

end Go.Proofs.YtmanjegdgjeeiaaGreatDoor
namespace Go.Proofs.YtmanjegdgjeeiaaGreatDoor
open Go.ChangeAt Go.ChangeShapes Go.Deep Go.RowKit Go.WideShapes

section
variable {H : Type} {enc : TypeId × Value → H} {W : World} {base : Nat} {sp : Nat → Bool} {held : Bool} {fuel : Nat} {x : DataW H × List MemPlace}

set_option maxRecDepth 20000 in
theorem open_config3 {base' : Nat} {r : Reach} {v : Value} (hv : Value.okWide Tryz.prog W r base' 25 v) (h : DataW.trod enc Tryz.prog W base sp held fuel 25 v.cells.toList = some x) :
    ∃ (a : Option Addr) (c : Nat) (l : List Rt) (b : Option Addr) (d : Nat) (ls : List Rl) (pt rs : Int), v = .agg #[.slice a l.length c, .slice b ls.length d, .int .i64 pt, .int .i64 rs] ∧
      (RtsAt W a l ∧ l.length ≤ maxLen ∧ (∀ r ∈ l, RtOk r) ∧ ∀ r ∈ l, RtNil r) ∧ (RlsAt W b ls ∧ ls.length ≤ maxLen ∧ (∀ r ∈ ls, RlOk r) ∧ ∀ r ∈ ls, RlNil r) ∧ (a = none → c = 0) ∧ (b = none → d = 0) := by
  obtain ⟨a, c, l, b, d, ls, z2, z3, rfl, k0, k1⟩ := open_config2 hv h
  obtain ⟨y0, y1, y2, y3, n, -, -, h0, h1, -, -⟩ := Go.Joins.trod_struct4 Tryz.underlying25 h
  simp [Value.cells, cellsRts1, cellsRls1] at h0 h1
  exact ⟨a, c, l, b, d, ls, z2, z3, rfl, k0, k1, (open_cap Tryz.underlying22 h0).2, (open_cap Tryz.underlying23 h1).2⟩
end

end Go.Proofs.YtmanjegdgjeeiaaGreatDoor
