/-
  A probe in memory: its cells, what a store leaves. New, Ack, Asked, Fork of package probe.
-/
import Derived.Test.YtnoconampcemoaaO0
import Derived.Deep.QuietTactic
namespace Go.Proofs.Ytnoconampcemoaa
open Go Go.RowKit

/-- What the cells of a probe tell. -/
structure PbCells (cs : Array Value) (P : Pb) : Prop where
  size : cs.size = 201
  c0 : cs[0]? = some (.int .u16 (P.s : Int))
  c1 : cs[1]? = some (.int .i64 P.per)
  c2 : cs[2]? = some (.int .i64 P.tmo)
  c3 : cs[3]? = some (.int .u16 (P.qn : Int))
  c4 : cs[4]? = some (.int .i64 P.qs)
  c5 : cs[5]? = some (.int .i64 P.qt)
  c6 : cs[6]? = some (.bool P.qo)
  c7 : cs[7]? = some (.bool P.qh)
  c8 : cs[8]? = some (.int .i64 P.due)
  w : ∀ k, k < 64 → cs[9 + k * 3]? = some (.bool (P.w k).on) ∧ cs[9 + k * 3 + 1]? = some (.int .i64 (P.w k).i) ∧ cs[9 + k * 3 + 2]? = some (.int .i64 (P.w k).a)
theorem PbCells.one {cs : Array Value} {P : Pb} (h : PbCells cs P) {v : Value} (hv : v ∈ cs) : v.oneCell' = true := by
  obtain ⟨j, hj, rfl⟩ := Array.mem_iff_getElem.1 hv
  have e : cs[j]? = some cs[j] := Array.getElem?_eq_getElem hj
  have hs := h.size
  generalize cs[j] = v at *
  have hd : j = 0 ∨ j = 1 ∨ j = 2 ∨ j = 3 ∨ j = 4 ∨ j = 5 ∨ j = 6 ∨ j = 7 ∨ j = 8 ∨ (9 ≤ j ∧ (j - 9) / 3 < 64) := by omega
  rcases hd with rfl | rfl | rfl | rfl | rfl | rfl | rfl | rfl | rfl | ⟨h9, hk⟩
  · have := h.c0; rw [e] at this; obtain rfl := Option.some.inj this; rfl
  · have := h.c1; rw [e] at this; obtain rfl := Option.some.inj this; rfl
  · have := h.c2; rw [e] at this; obtain rfl := Option.some.inj this; rfl
  · have := h.c3; rw [e] at this; obtain rfl := Option.some.inj this; rfl
  · have := h.c4; rw [e] at this; obtain rfl := Option.some.inj this; rfl
  · have := h.c5; rw [e] at this; obtain rfl := Option.some.inj this; rfl
  · have := h.c6; rw [e] at this; obtain rfl := Option.some.inj this; rfl
  · have := h.c7; rw [e] at this; obtain rfl := Option.some.inj this; rfl
  · have := h.c8; rw [e] at this; obtain rfl := Option.some.inj this; rfl
  · obtain ⟨w0, w1, w2⟩ := h.w _ hk
    have hr : j = 9 + (j - 9) / 3 * 3 ∨ j = 9 + (j - 9) / 3 * 3 + 1 ∨ j = 9 + (j - 9) / 3 * 3 + 2 := by omega
    rcases hr with hr | hr | hr
    · rw [← hr, e] at w0; obtain rfl := Option.some.inj w0; rfl
    · rw [← hr, e] at w1; obtain rfl := Option.some.inj w1; rfl
    · rw [← hr, e] at w2; obtain rfl := Option.some.inj w2; rfl
theorem flat3_get (g : Nat → List Value) (hg : ∀ k, (g k).length = 3) : ∀ (c a k j : Nat), k < c → j < 3 → ((List.range' a c).flatMap g)[k * 3 + j]? = (g (a + k))[j]?
  | 0, _, _, _, hk, _ => by omega
  | c + 1, a, 0, j, _, hj => by
    rw [List.range'_succ, List.flatMap_cons, List.getElem?_append_left (by rw [hg]; omega)]
    simp
  | c + 1, a, k + 1, j, hk, hj => by
    rw [List.range'_succ, List.flatMap_cons, List.getElem?_append_right (by rw [hg]; omega), hg, show (k + 1) * 3 + j - 3 = k * 3 + j by omega,
      flat3_get g hg c (a + 1) k j (by omega) hj, show a + 1 + k = a + (k + 1) by omega]
theorem flat3_len (g : Nat → List Value) (hg : ∀ k, (g k).length = 3) : ∀ (c a : Nat), ((List.range' a c).flatMap g).length = c * 3
  | 0, _ => rfl
  | c + 1, a => by
    rw [List.range'_succ, List.flatMap_cons, List.length_append, hg, flat3_len g hg c (a + 1)]
    omega
/-- The cells of a probe as New makes it. -/
def wtL : List Value := (List.range' 0 64).flatMap (fun _ => [.bool false, .int .i64 0, .int .i64 0])
def pbL (s : Nat) (per tmo : Int) : List Value := [.int .u16 (s : Int), .int .i64 per, .int .i64 tmo, .int .u16 0, .int .i64 0, .int .i64 0, .bool false, .bool false, .int .i64 0] ++ wtL
def pbC (s : Nat) (per tmo : Int) : Array Value := ⟨pbL s per tmo⟩
theorem wtL_len : wtL.length = 192 := flat3_len _ (fun _ => rfl) 64 0
theorem pbC_size (s : Nat) (per tmo : Int) : (pbC s per tmo).size = 201 := by show (pbL s per tmo).length = _; simp [pbL, wtL_len]
theorem pbC_cells (s : Nat) (per tmo : Int) : PbCells (pbC s per tmo) (newPb s per tmo) := by
  have hh : ∀ j, j < 9 → (pbC s per tmo)[j]? = ([.int .u16 (s : Int), .int .i64 per, .int .i64 tmo, .int .u16 0, .int .i64 0, .int .i64 0, .bool false, .bool false, .int .i64 0] : List Value)[j]? := fun j hj => by
    show (pbL s per tmo).toArray[j]? = _
    rw [List.getElem?_toArray]
    unfold pbL
    rw [List.getElem?_append_left (by simp; omega)]
  refine ⟨pbC_size s per tmo, hh 0 (by decide), hh 1 (by decide), hh 2 (by decide), hh 3 (by decide), hh 4 (by decide), hh 5 (by decide), hh 6 (by decide), hh 7 (by decide), hh 8 (by decide), fun k hk => ?_⟩
  have hg : ∀ j, j < 3 → (pbC s per tmo)[9 + k * 3 + j]? = ([.bool false, .int .i64 0, .int .i64 0] : List Value)[j]? := fun j hj => by
    show (pbL s per tmo).toArray[9 + k * 3 + j]? = _
    rw [List.getElem?_toArray]
    unfold pbL
    rw [List.getElem?_append_right (by simp; omega)]
    simp only [List.length_cons, List.length_nil]
    rw [show 9 + k * 3 + j - (0 + 1 + 1 + 1 + 1 + 1 + 1 + 1 + 1 + 1) = k * 3 + j by omega]
    exact flat3_get _ (fun _ => rfl) 64 0 k j hk hj
  exact ⟨hg 0 (by decide), hg 1 (by decide), hg 2 (by decide)⟩
theorem zero_pb (w : World) : (zeroValue 95).run Try.prog w = .ok (.agg (pbC 0 0 0)) w := by kernel_rfl
theorem pbC_make (s : Nat) (per tmo : Int) : (((pbC 0 0 0).setIfInBounds 0 (.int .u16 (s : Int))).setIfInBounds 1 (.int .i64 per)).setIfInBounds 2 (.int .i64 tmo) = pbC s per tmo := by
  unfold pbC pbL
  simp only [List.setIfInBounds_toArray, List.cons_append, List.set_cons_zero, List.set_cons_succ]
/-- A probe in a block. -/
def PbBlk (w : World) (b : Nat) (P : Pb) : Prop := ∃ cs, w.heap[b]? = some (.cells cs 95 (0, 0)) ∧ PbCells cs P
theorem PbBlk.lt {w : World} {b : Nat} {P : Pb} (h : PbBlk w b P) : b < w.heap.size := by obtain ⟨cs, e, -⟩ := h; exact ltE e
theorem PbBlk.f {w : World} {b : Nat} {P : Pb} (h : PbBlk w b P) (i : Nat) : w.frozen? ⟨b, i, none⟩ = false := by
  obtain ⟨cs, e, -⟩ := h; simp [World.frozen?, e]
theorem PbBlk.below {w w' : World} {b N : Nat} {P : Pb} (h : PbBlk w b P) (hb : Below N w w') (hN : b < N) : PbBlk w' b P := by obtain ⟨cs, e, h⟩ := h; exact ⟨cs, (hb.block b hN).trans e, h⟩
theorem PbBlk.on {w w' : World} {b : Nat} {P : Pb} (h : PbBlk w b P) (hb : Below w.heap.size w w') : PbBlk w' b P := h.below hb h.lt
theorem PbBlk.kept {w w' : World} {b : Nat} {P : Pb} {r : Option Nat} (h : PbBlk w b P) (hg : w.grownBy w' r) (hr : some b ≠ r) : PbBlk w' b P := by
  have hl := h.lt
  obtain ⟨cs, e, h⟩ := h; exact ⟨cs, (hg.block b hl hr).trans e, h⟩
/-- The cells of a probe, at their places. -/
structure PbAt (w : World) (b : Nat) (P : Pb) : Prop where
  c0 : w.cell? ⟨b, 0, none⟩ = some (.int .u16 (P.s : Int))
  c1 : w.cell? ⟨b, 1, none⟩ = some (.int .i64 P.per)
  c2 : w.cell? ⟨b, 2, none⟩ = some (.int .i64 P.tmo)
  c3 : w.cell? ⟨b, 3, none⟩ = some (.int .u16 (P.qn : Int))
  c4 : w.cell? ⟨b, 4, none⟩ = some (.int .i64 P.qs)
  c5 : w.cell? ⟨b, 5, none⟩ = some (.int .i64 P.qt)
  c6 : w.cell? ⟨b, 6, none⟩ = some (.bool P.qo)
  c7 : w.cell? ⟨b, 7, none⟩ = some (.bool P.qh)
  c8 : w.cell? ⟨b, 8, none⟩ = some (.int .i64 P.due)
theorem PbBlk.at {w : World} {b : Nat} {P : Pb} (h : PbBlk w b P) : PbAt w b P := by
  obtain ⟨cs, e, h⟩ := h
  have hc : ∀ j, w.cell? ⟨b, j, none⟩ = cs[j]? := fun j => cellE e
  exact ⟨(hc 0).trans h.c0, (hc 1).trans h.c1, (hc 2).trans h.c2, (hc 3).trans h.c3, (hc 4).trans h.c4, (hc 5).trans h.c5, (hc 6).trans h.c6, (hc 7).trans h.c7, (hc 8).trans h.c8⟩
theorem PbBlk.wat {w : World} {b : Nat} {P : Pb} (h : PbBlk w b P) {k : Nat} (hk : k < 64) :
    w.cell? ⟨b, 9 + k * 3, none⟩ = some (.bool (P.w k).on) ∧ w.cell? ⟨b, 9 + k * 3 + 1, none⟩ = some (.int .i64 (P.w k).i) ∧ w.cell? ⟨b, 9 + k * 3 + 2, none⟩ = some (.int .i64 (P.w k).a) := by
  obtain ⟨cs, e, h⟩ := h
  have hc : ∀ j, w.cell? ⟨b, j, none⟩ = cs[j]? := fun j => cellE e
  obtain ⟨h0, h1, h2⟩ := h.w k hk
  exact ⟨(hc _).trans h0, (hc _).trans h1, (hc _).trans h2⟩
theorem heap_setCell_self {w : World} {b j : Nat} {cs : Array Value} {t : TypeId} {x : Nat × Nat} (h : w.heap[b]? = some (.cells cs t x)) (v : Value) : (w.setCell ⟨b, j, none⟩ v).heap[b]? = some (.cells (cs.setIfInBounds j v) t x) := by
  simp [World.setCell, Array.getElem?_modify, h]
theorem getS_ne {cs : Array Value} {i j : Nat} {v : Value} (h : j ≠ i) : (cs.setIfInBounds j v)[i]? = cs[i]? := by
  rw [Array.getElem?_setIfInBounds, if_neg h]
theorem getS_eq {cs : Array Value} {j : Nat} {v : Value} (h : j < cs.size) : (cs.setIfInBounds j v)[j]? = some v := by
  rw [Array.getElem?_setIfInBounds, if_pos rfl, if_pos h]
theorem PbBlk.setOpen {w : World} {b : Nat} {P : Pb} (h : PbBlk w b P) (x : Bool) : PbBlk (w.setCell ⟨b, 6, none⟩ (.bool x)) b { P with qo := x } := by
  obtain ⟨cs, e, h⟩ := h
  refine ⟨_, heap_setCell_self e _, by rw [Array.size_setIfInBounds]; exact h.size, ?_, ?_, ?_, ?_, ?_, ?_, ?_, ?_, ?_, fun k hk => ?_⟩
  · rw [getS_ne (by decide)]; exact h.c0
  · rw [getS_ne (by decide)]; exact h.c1
  · rw [getS_ne (by decide)]; exact h.c2
  · rw [getS_ne (by decide)]; exact h.c3
  · rw [getS_ne (by decide)]; exact h.c4
  · rw [getS_ne (by decide)]; exact h.c5
  · rw [getS_eq (by rw [h.size]; decide)]
  · rw [getS_ne (by decide)]; exact h.c7
  · rw [getS_ne (by decide)]; exact h.c8
  · rw [getS_ne (by omega), getS_ne (by omega), getS_ne (by omega)]; exact h.w k hk
theorem PbBlk.setHelp {w : World} {b : Nat} {P : Pb} (h : PbBlk w b P) (x : Bool) : PbBlk (w.setCell ⟨b, 7, none⟩ (.bool x)) b { P with qh := x } := by
  obtain ⟨cs, e, h⟩ := h
  refine ⟨_, heap_setCell_self e _, by rw [Array.size_setIfInBounds]; exact h.size, ?_, ?_, ?_, ?_, ?_, ?_, ?_, ?_, ?_, fun k hk => ?_⟩
  · rw [getS_ne (by decide)]; exact h.c0
  · rw [getS_ne (by decide)]; exact h.c1
  · rw [getS_ne (by decide)]; exact h.c2
  · rw [getS_ne (by decide)]; exact h.c3
  · rw [getS_ne (by decide)]; exact h.c4
  · rw [getS_ne (by decide)]; exact h.c5
  · rw [getS_ne (by decide)]; exact h.c6
  · rw [getS_eq (by rw [h.size]; decide)]
  · rw [getS_ne (by decide)]; exact h.c8
  · rw [getS_ne (by omega), getS_ne (by omega), getS_ne (by omega)]; exact h.w k hk
theorem PbBlk.setDue {w : World} {b : Nat} {P : Pb} (h : PbBlk w b P) (x : Int) : PbBlk (w.setCell ⟨b, 8, none⟩ (.int .i64 x)) b { P with due := x } := by
  obtain ⟨cs, e, h⟩ := h
  refine ⟨_, heap_setCell_self e _, by rw [Array.size_setIfInBounds]; exact h.size, ?_, ?_, ?_, ?_, ?_, ?_, ?_, ?_, ?_, fun k hk => ?_⟩
  · rw [getS_ne (by decide)]; exact h.c0
  · rw [getS_ne (by decide)]; exact h.c1
  · rw [getS_ne (by decide)]; exact h.c2
  · rw [getS_ne (by decide)]; exact h.c3
  · rw [getS_ne (by decide)]; exact h.c4
  · rw [getS_ne (by decide)]; exact h.c5
  · rw [getS_ne (by decide)]; exact h.c6
  · rw [getS_ne (by decide)]; exact h.c7
  · rw [getS_eq (by rw [h.size]; decide)]
  · rw [getS_ne (by omega), getS_ne (by omega), getS_ne (by omega)]; exact h.w k hk
/-- A question stored. -/
def stQ (w : World) (b : Nat) (n s t : Int) : World := ((((w.setCell ⟨b, 3, none⟩ (.int .u16 n)).setCell ⟨b, 4, none⟩ (.int .i64 s)).setCell ⟨b, 5, none⟩ (.int .i64 t)).setCell ⟨b, 6, none⟩ (.bool true)).setCell ⟨b, 7, none⟩ (.bool false)
theorem PbBlk.setQ {w : World} {b : Nat} {P : Pb} (h : PbBlk w b P) (n : Nat) (s t : Int) : PbBlk (stQ w b (n : Int) s t) b { P with qn := n, qs := s, qt := t, qo := true, qh := false } := by
  obtain ⟨cs, e, h⟩ := h
  have hz := h.size
  refine ⟨_, heap_setCell_self (heap_setCell_self (heap_setCell_self (heap_setCell_self (heap_setCell_self e _) _) _) _) _, by simp only [Array.size_setIfInBounds]; exact h.size, ?_, ?_, ?_, ?_, ?_, ?_, ?_, ?_, ?_, fun k hk => ?_⟩
  · iterate 5 rw [getS_ne (by decide)]
    exact h.c0
  · iterate 5 rw [getS_ne (by decide)]
    exact h.c1
  · iterate 5 rw [getS_ne (by decide)]
    exact h.c2
  · iterate 4 rw [getS_ne (by decide)]
    rw [getS_eq (by rw [hz]; decide)]
  · iterate 3 rw [getS_ne (by decide)]
    rw [getS_eq (by simp only [Array.size_setIfInBounds]; rw [hz]; decide)]
  · iterate 2 rw [getS_ne (by decide)]
    rw [getS_eq (by simp only [Array.size_setIfInBounds]; rw [hz]; decide)]
  · rw [getS_ne (by decide), getS_eq (by simp only [Array.size_setIfInBounds]; rw [hz]; decide)]
  · rw [getS_eq (by simp only [Array.size_setIfInBounds]; rw [hz]; decide)]
  · iterate 5 rw [getS_ne (by decide)]
    exact h.c8
  · have hq : ∀ i, 9 ≤ i → (((((cs.setIfInBounds 3 (.int .u16 (n : Int))).setIfInBounds 4 (.int .i64 s)).setIfInBounds 5 (.int .i64 t)).setIfInBounds 6 (.bool true)).setIfInBounds 7 (.bool false))[i]? = cs[i]? := fun i hi => by
      rw [getS_ne (by omega), getS_ne (by omega), getS_ne (by omega), getS_ne (by omega), getS_ne (by omega)]
    rw [hq _ (by omega), hq _ (by omega), hq _ (by omega)]
    exact h.w k hk
theorem stQ_grown (w : World) (b : Nat) (n s t : Int) : w.grownBy (stQ w b n s t) (some b) :=
  ((((grownBy_setCell w b _ _).trans (grownBy_setCell _ b _ _)).trans (grownBy_setCell _ b _ _)).trans (grownBy_setCell _ b _ _)).trans (grownBy_setCell _ b _ _)
/-- A watch stored. -/
def stW (w : World) (b k : Nat) (x : Wt) : World := ((w.setCell ⟨b, 9 + k * 3, none⟩ (.bool x.on)).setCell ⟨b, 9 + k * 3 + 1, none⟩ (.int .i64 x.i)).setCell ⟨b, 9 + k * 3 + 2, none⟩ (.int .i64 x.a)
theorem PbBlk.setW {w : World} {b : Nat} {P : Pb} (h : PbBlk w b P) (k : Nat) (hk : k < 64) (x : Wt) : PbBlk (stW w b k x) b (P.setW k x) := by
  obtain ⟨cs, e, h⟩ := h
  have hz := h.size
  have hq : ∀ i, i < 9 + k * 3 ∨ 9 + k * 3 + 2 < i → (((cs.setIfInBounds (9 + k * 3) (.bool x.on)).setIfInBounds (9 + k * 3 + 1) (.int .i64 x.i)).setIfInBounds (9 + k * 3 + 2) (.int .i64 x.a))[i]? = cs[i]? := fun i hi => by
    rw [getS_ne (by omega), getS_ne (by omega), getS_ne (by omega)]
  refine ⟨_, heap_setCell_self (heap_setCell_self (heap_setCell_self e _) _) _, by simp only [Array.size_setIfInBounds]; exact h.size, ?_, ?_, ?_, ?_, ?_, ?_, ?_, ?_, ?_, fun j hj => ?_⟩
  · rw [hq _ (by omega)]; exact h.c0
  · rw [hq _ (by omega)]; exact h.c1
  · rw [hq _ (by omega)]; exact h.c2
  · rw [hq _ (by omega)]; exact h.c3
  · rw [hq _ (by omega)]; exact h.c4
  · rw [hq _ (by omega)]; exact h.c5
  · rw [hq _ (by omega)]; exact h.c6
  · rw [hq _ (by omega)]; exact h.c7
  · rw [hq _ (by omega)]; exact h.c8
  · by_cases ej : j = k
    · subst ej
      simp only [Pb.setW, if_true]
      refine ⟨?_, ?_, ?_⟩
      · rw [getS_ne (by omega), getS_ne (by omega), getS_eq (by rw [hz]; omega)]
      · rw [getS_ne (by omega), getS_eq (by simp only [Array.size_setIfInBounds]; rw [hz]; omega)]
      · rw [getS_eq (by simp only [Array.size_setIfInBounds]; rw [hz]; omega)]
    · simp only [Pb.setW, if_neg ej]
      rw [hq _ (by omega), hq _ (by omega), hq _ (by omega)]
      exact h.w j hj
theorem stW_grown (w : World) (b k : Nat) (x : Wt) : w.grownBy (stW w b k x) (some b) :=
  ((grownBy_setCell w b _ _).trans (grownBy_setCell _ b _ _)).trans (grownBy_setCell _ b _ _)

end Go.Proofs.Ytnoconampcemoaa
