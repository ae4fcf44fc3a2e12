/-
  A copy that may be written to: what each store into its lists wants, and keeps.
-/
import Derived.Test.YthaimnmbcbhioaaDoorRCopyV
namespace Go.Proofs.YthaimnmbcbhioaaDoor
open Go.ChangeAt Go.ChangeShapes Go.Deep Go.RowKit Go.WideShapes

/-- n cells at an address, in a block that may be written to. -/
def Room (w : World) (lo hi : Nat) (a : Option Addr) (n : Nat) : Prop := 0 < n → ∃ b o cs t, a = some ⟨b, o, none⟩ ∧ lo ≤ b ∧ b < hi ∧ w.heap[b]? = some (.cells cs t (0, 0)) ∧ o + n ≤ cs.size
theorem Room.set {w : World} {lo hi n : Nat} {a : Option Addr} (h : Room w lo hi a n) (p j : Nat) (v : Value) : Room (w.setCell ⟨p, j, none⟩ v) lo hi a n := fun hn => by
  obtain ⟨b, o, cs, t, rfl, h1, h2, hb, h3⟩ := h hn
  by_cases hp : b = p
  · subst hp
    exact ⟨b, o, cs.setIfInBounds j v, t, rfl, h1, h2, by simp [World.setCell, Array.getElem?_modify, hb], by simpa using h3⟩
  · exact ⟨b, o, cs, t, rfl, h1, h2, (Below.heap_setCell w ⟨p, j, none⟩ v _ hp).trans hb, h3⟩
theorem Room.below {w w' : World} {lo hi n : Nat} {a : Option Addr} (h : Room w lo hi a n) (hb : Below w.heap.size w w') : Room w' lo hi a n := fun hn => by
  obtain ⟨b, o, cs, t, rfl, h1, h2, h3, h4⟩ := h hn
  exact ⟨b, o, cs, t, rfl, h1, h2, (hb.block _ (lt_of_block h3)).trans h3, h4⟩
theorem Room.use {w : World} {lo hi n : Nat} {a : Option Addr} (h : Room w lo hi a n) (hn : 0 < n) : ∃ b o, a = some ⟨b, o, none⟩ ∧ lo ≤ b ∧ b < hi ∧ (∀ i, i < n → ∃ x, w.cell? ⟨b, o + i, none⟩ = some x) ∧ ∀ j, w.frozen? ⟨b, j, none⟩ = false := by
  obtain ⟨b, o, cs, t, rfl, h1, h2, hb, h3⟩ := h hn
  exact ⟨b, o, rfl, h1, h2, fun i hi => ⟨cs[o + i]'(by omega), by rw [cell_heap hb]; exact Array.getElem?_eq_getElem (by omega)⟩, fun j => frozen_of hb⟩
theorem Room.strs {w : World} {lo hi : Nat} {a : Option Addr} {l : List ByteArray} (h : StrsAt w a l) (hf : Fr w a) (ha : ∀ ad, a = some ad → lo ≤ ad.block ∧ ad.block < hi) : Room w lo hi a l.length := fun hn => by
  obtain ⟨b, o, rfl, -, hc⟩ := h hn
  obtain ⟨cs, t, hb⟩ := hf _ rfl
  have hl := hc (l.length - 1) (by omega)
  rw [cell_heap hb] at hl
  have := (Array.getElem?_eq_some_iff.1 hl).1
  exact ⟨b, o, cs, t, rfl, (ha _ rfl).1, (ha _ rfl).2, hb, by omega⟩
theorem Room.mts {w : World} {lo hi : Nat} {a : Option Addr} {l : List Mt} (h : MtsAt w a l) (hf : Fr w a) (ha : ∀ ad, a = some ad → lo ≤ ad.block ∧ ad.block < hi) : Room w lo hi a (l.length * 3) := fun hn => by
  obtain ⟨b, o, rfl, -, hc⟩ := h (by omega)
  obtain ⟨cs, t, hb⟩ := hf _ rfl
  have hl := (hc (l.length - 1) (by omega)).2.2
  rw [cell_heap hb] at hl
  have := (Array.getElem?_eq_some_iff.1 hl).1
  exact ⟨b, o, cs, t, rfl, (ha _ rfl).1, (ha _ rfl).2, hb, by omega⟩

/-- A copy's routes: the heads of their lists, and room. -/
def SpR (w : World) (g lo hi : Nat) (L : List Rt) : Prop := (∀ j, w.frozen? ⟨g, j, none⟩ = false) ∧ ∀ i (_ : i < L.length), w.cell? ⟨g, i * 8 + 1, none⟩ = some (.slice L[i].ma L[i].ms.length L[i].mc) ∧ w.cell? ⟨g, i * 8 + 3, none⟩ = some (.slice L[i].ba L[i].bys.length L[i].bc) ∧ (∃ x, w.cell? ⟨g, i * 8 + 4, none⟩ = some x) ∧ Room w lo hi L[i].ma (L[i].ms.length * 3) ∧ Room w lo hi L[i].ba L[i].bys.length ∧ (∀ ad, L[i].ma = some ad → ad.block ≠ g) ∧ ∀ ad, L[i].ba = some ad → ad.block ≠ g
theorem frozen_set (w : World) (p j : Nat) (v : Value) (a : Addr) : (w.setCell ⟨p, j, none⟩ v).frozen? a = w.frozen? a := by
  by_cases hp : a.block = p
  · subst hp
    cases hb : w.heap[a.block]? with
    | none => simp [World.frozen?, World.setCell, Array.getElem?_modify, hb]
    | some x => cases x <;> simp [World.frozen?, World.setCell, Array.getElem?_modify, hb]
  · simp only [World.frozen?, Below.heap_setCell w ⟨p, j, none⟩ v _ hp]
theorem cell_set_some {w : World} {p j : Nat} {v : Value} {a : Addr} (h : ∃ x, w.cell? a = some x) : ∃ x, (w.setCell ⟨p, j, none⟩ v).cell? a = some x := by
  obtain ⟨x, h⟩ := h
  by_cases e : (⟨p, j, none⟩ : Addr) = a
  · subst e
    exact ⟨v, World.cell?_setCell_same _ _ _ h⟩
  · exact ⟨x, by rw [World.cell?_setCell_other _ _ _ _ (by simpa [eq_comm] using e)]; exact h⟩
/-- A store of a receiver keeps it. -/
theorem SpR.row {w : World} {g lo hi : Nat} {L : List Rt} (h : SpR w g lo hi L) (i : Nat) (v : Value) : SpR (w.setCell ⟨g, i * 8 + 4, none⟩ v) g lo hi L := by
  refine ⟨fun j => by rw [frozen_set]; exact h.1 j, fun k hk => ?_⟩
  obtain ⟨h1, h2, h3, h4, h5, h6, h7⟩ := h.2 k hk
  refine ⟨?_, ?_, cell_set_some h3, h4.set _ _ _, h5.set _ _ _, h6, h7⟩
  · rw [World.cell?_setCell_other _ _ _ _ (by intro e; simp only [Addr.mk.injEq] at e; omega)]; exact h1
  · rw [World.cell?_setCell_other _ _ _ _ (by intro e; simp only [Addr.mk.injEq] at e; omega)]; exact h2
/-- A store into another block keeps it. -/
theorem SpR.lst {w : World} {g lo hi : Nat} {L : List Rt} (h : SpR w g lo hi L) (p j : Nat) (v : Value) (hp : p ≠ g) : SpR (w.setCell ⟨p, j, none⟩ v) g lo hi L := by
  refine ⟨fun j => by rw [frozen_set]; exact h.1 j, fun k hk => ?_⟩
  obtain ⟨h1, h2, h3, h4, h5, h6, h7⟩ := h.2 k hk
  refine ⟨?_, ?_, cell_set_some h3, h4.set _ _ _, h5.set _ _ _, h6, h7⟩
  · rw [World.cell?_setCell_far _ _ _ _ hp]; exact h1
  · rw [World.cell?_setCell_far _ _ _ _ hp]; exact h2
theorem frozen_below {w w' : World} {g j : Nat} (h : w.frozen? ⟨g, j, none⟩ = false) (hb : Below w.heap.size w w') (hg : g < w.heap.size) : w'.frozen? ⟨g, j, none⟩ = false := by
  simp only [World.frozen?, hb.block g hg]
  exact h
theorem SpR.below {w w' : World} {g lo hi : Nat} {L : List Rt} (h : SpR w g lo hi L) (hb : Below w.heap.size w w') (hg : g < w.heap.size) : SpR w' g lo hi L := by
  refine ⟨fun j => frozen_below (h.1 j) hb hg, fun k hk => ?_⟩
  obtain ⟨h1, h2, ⟨x, h3⟩, h4, h5, h6, h7⟩ := h.2 k hk
  exact ⟨(hb.cell (p := ⟨g, k * 8 + 1, none⟩) hg).trans h1, (hb.cell (p := ⟨g, k * 8 + 3, none⟩) hg).trans h2, ⟨x, (hb.cell (p := ⟨g, k * 8 + 4, none⟩) hg).trans h3⟩, h4.below hb, h5.below hb, h6, h7⟩
theorem SpR.of {w : World} {B hi g c : Nat} {l L : List Rt} (h : CopyR w B (.slice (some ⟨g, 0, none⟩) L.length c) l L) (hf : ∀ r ∈ L, FrR w r) (hh : ∀ r ∈ L, (∀ ad, r.ma = some ad → ad.block < hi) ∧ ∀ ad, r.ba = some ad → ad.block < hi) : SpR w g B hi L := by
  refine ⟨fun j => World.ownsRow.frozenAt h.2.1 _, fun k hk => ?_⟩
  have hm := List.getElem_mem hk
  obtain ⟨⟨k1, k2, k3⟩, k4, k5, k6, k7⟩ := h.2.2 _ hm
  have row : ∀ j, j < 8 → w.cell? ⟨g, k * 8 + j, none⟩ = (encR L[k])[j]? := fun j hj => by
    rw [World.ownsRow.cellAt h.2.1 _ (by omega), flat_get encR_len L k hk j hj]
  refine ⟨row 1 (by omega), row 3 (by omega), ⟨_, row 4 (by omega)⟩, Room.mts k1 (hf _ hm).1 (fun ad e => ⟨(k3 ad e).1, (hh _ hm).1 ad e⟩), Room.strs k4 (hf _ hm).2 (fun ad e => ⟨(k7 ad e).1, (hh _ hm).2 ad e⟩), fun ad e x => (k3 ad e).2.2 (by rw [x]; rfl), fun ad e x => (k7 ad e).2.2 (by rw [x]; rfl)⟩

/-- A copy's rules: the heads of their lists of names, and room. -/
def SpL (w : World) (g lo hi : Nat) (L : List Rl) : Prop := ∀ i (_ : i < L.length), w.cell? ⟨g, i * 3 + 2, none⟩ = some (.slice L[i].ea L[i].eqs.length L[i].ec) ∧ Room w lo hi L[i].ea L[i].eqs.length ∧ ∀ ad, L[i].ea = some ad → ad.block ≠ g
theorem SpL.lst {w : World} {g lo hi : Nat} {L : List Rl} (h : SpL w g lo hi L) (p j : Nat) (v : Value) (hp : p ≠ g) : SpL (w.setCell ⟨p, j, none⟩ v) g lo hi L := fun k hk => by
  obtain ⟨h1, h2, h3⟩ := h k hk
  exact ⟨by rw [World.cell?_setCell_far _ _ _ _ hp]; exact h1, h2.set _ _ _, h3⟩
theorem SpL.below {w w' : World} {g lo hi : Nat} {L : List Rl} (h : SpL w g lo hi L) (hb : Below w.heap.size w w') (hg : g < w.heap.size) : SpL w' g lo hi L := fun k hk => by
  obtain ⟨h1, h2, h3⟩ := h k hk
  exact ⟨(hb.cell (p := ⟨g, k * 3 + 2, none⟩) hg).trans h1, h2.below hb, h3⟩
theorem SpL.of {w : World} {B B' g c : Nat} {l L : List Rl} (h : CopyL w B (.slice (some ⟨g, 0, none⟩) L.length c) l L) (hf : ∀ r ∈ L, FrL w r) (hB : B' ≤ B) : SpL w g B' w.heap.size L := fun k hk => by
  have hm := List.getElem_mem hk
  obtain ⟨-, -, k4, k5, k6, k7⟩ := h.2.2 _ hm
  have row : ∀ j, j < 3 → w.cell? ⟨g, k * 3 + j, none⟩ = (encL L[k])[j]? := fun j hj => by
    rw [World.ownsRow.cellAt h.2.1 _ (by omega), flat_get encL_len L k hk j hj]
  exact ⟨row 2 (by omega), Room.strs k4 (hf _ hm) (fun ad e => ⟨Nat.le_trans hB (k7 ad e).1, (k7 ad e).2.1⟩), fun ad e x => (k7 ad e).2.2 (by rw [x]; rfl)⟩

/-- A copy half spoilt: what lay ahead of it is as it was (w0), its box (C) too. -/
def Spoilt (w0 : World) (lo S C : Nat) (ax : Option Addr) (cx : Nat) (L : List Rt) (bx : Option Addr) (dx : Nat) (Ls : List Rl) (pt rs : Int) (w : World) : Prop :=
  Below w0.heap.size w0 w ∧ XBlk w C (.slice ax L.length cx) (.slice bx Ls.length dx) pt rs ∧ (0 < L.length → ∃ g, ax = some ⟨g, 0, none⟩ ∧ lo ≤ g ∧ g < S ∧ SpR w g lo S L) ∧ (0 < Ls.length → ∃ g, bx = some ⟨g, 0, none⟩ ∧ S ≤ g ∧ g < C ∧ SpL w g S C Ls)
section
variable {w0 w : World} {lo S C : Nat} {ax : Option Addr} {cx : Nat} {L : List Rt} {bx : Option Addr} {dx : Nat} {Ls : List Rl} {pt rs : Int}
theorem Spoilt.lst (h : Spoilt w0 lo S C ax cx L bx dx Ls pt rs w) (hlo : w0.heap.size ≤ lo) (p j : Nat) (v : Value) (h1 : lo ≤ p) (h2 : p < C) (h3 : 0 < L.length → ∀ g, ax = some ⟨g, 0, none⟩ → p ≠ g) (h4 : 0 < Ls.length → ∀ g, bx = some ⟨g, 0, none⟩ → p ≠ g) : Spoilt w0 lo S C ax cx L bx dx Ls pt rs (w.setCell ⟨p, j, none⟩ v) := by
  obtain ⟨k1, k2, k3, k4⟩ := h
  have gs := grown_set w ⟨p, j, none⟩ v
  refine ⟨k1.grown gs k1.size (fun i hi => by injection hi with hi; simp only at hi; omega), (gs.block _ (lt_of_block k2) (fun e => by injection e with e; simp only at e; omega)).trans k2, fun hn => ?_, fun hn => ?_⟩
  · obtain ⟨g, e, x1, x2, x3⟩ := k3 hn
    exact ⟨g, e, x1, x2, x3.lst _ _ _ (h3 hn g e)⟩
  · obtain ⟨g, e, x1, x2, x3⟩ := k4 hn
    exact ⟨g, e, x1, x2, x3.lst _ _ _ (h4 hn g e)⟩
theorem Spoilt.row {g : Nat} (h : Spoilt w0 lo S C (some ⟨g, 0, none⟩) cx L bx dx Ls pt rs w) (hlo : w0.heap.size ≤ lo) (hS : S ≤ C) (hn : 0 < L.length) (i : Nat) (v : Value) : Spoilt w0 lo S C (some ⟨g, 0, none⟩) cx L bx dx Ls pt rs (w.setCell ⟨g, i * 8 + 4, none⟩ v) := by
  obtain ⟨k1, k2, k3, k4⟩ := h
  obtain ⟨g', e, x1, x2, x3⟩ := k3 hn
  obtain rfl : g = g' := by simpa using e
  have gs := grown_set w ⟨g, i * 8 + 4, none⟩ v
  refine ⟨k1.grown gs k1.size (fun i hi => by injection hi with hi; simp only at hi; omega), (gs.block _ (lt_of_block k2) (fun e => by injection e with e; simp only at e; omega)).trans k2, fun _ => ⟨g, rfl, x1, x2, x3.row _ _⟩, fun hn => ?_⟩
  obtain ⟨g2, e, y1, y2, y3⟩ := k4 hn
  exact ⟨g2, e, y1, y2, y3.lst _ _ _ (by omega)⟩
theorem same_g {g g' : Nat} (h : some (⟨g, 0, none⟩ : Addr) = some ⟨g', 0, none⟩) : g = g' := by simpa using h
theorem Spoilt.lstR {g p o : Nat} {a : Option Addr} (h : Spoilt w0 lo S C (some ⟨g, 0, none⟩) cx L bx dx Ls pt rs w) (hlo : w0.heap.size ≤ lo) (hS : S ≤ C) (j : Nat) (v : Value) (ea : a = some ⟨p, o, none⟩) (h1 : lo ≤ p) (h2 : p < S) (hn : ∀ ad, a = some ad → ad.block ≠ g) : Spoilt w0 lo S C (some ⟨g, 0, none⟩) cx L bx dx Ls pt rs (w.setCell ⟨p, j, none⟩ v) :=
  h.lst hlo p j v h1 (by omega) (fun _ g' e => by rw [← same_g e]; exact hn _ ea) (fun hk g2 e => by
    obtain ⟨g3, e3, y1, -⟩ := h.2.2.2 hk
    rw [e] at e3
    have := same_g e3
    omega)
theorem Spoilt.lstL {g p o : Nat} {a : Option Addr} (h : Spoilt w0 lo S C ax cx L (some ⟨g, 0, none⟩) dx Ls pt rs w) (hlo : w0.heap.size ≤ lo) (j : Nat) (v : Value) (ea : a = some ⟨p, o, none⟩) (h0 : lo ≤ p) (h1 : S ≤ p) (h2 : p < C) (hn : ∀ ad, a = some ad → ad.block ≠ g) : Spoilt w0 lo S C ax cx L (some ⟨g, 0, none⟩) dx Ls pt rs (w.setCell ⟨p, j, none⟩ v) :=
  h.lst hlo p j v h0 h2 (fun hk g2 e => by
    obtain ⟨g3, e3, y1, y2, -⟩ := h.2.2.1 hk
    rw [e] at e3
    have := same_g e3
    omega) (fun _ g' e => by rw [← same_g e]; exact hn _ ea)
/-- So it is when it was just made and put into its box. -/
theorem Spoilt.start {w' : World} {l : List Rt} {ls : List Rl} (hb : Below w0.heap.size w0 w) (h1 : CopyR w lo (.slice ax L.length cx) l L) (h2 : ∀ j, (Value.slice ax L.length cx).ownBlock = some j → j < S) (h3 : ∀ r ∈ L, (∀ ad, r.ma = some ad → ad.block < S) ∧ ∀ ad, r.ba = some ad → ad.block < S) (h4 : CopyL w S (.slice bx Ls.length dx) ls Ls) (h5 : ∀ r ∈ L, FrR w r) (h6 : ∀ r ∈ Ls, FrL w r)
    (hb' : Below w.heap.size w w') (hx : XBlk w' w.heap.size (.slice ax L.length cx) (.slice bx Ls.length dx) pt rs) : ∃ S', S' ≤ w.heap.size ∧ (∀ p, S' ≤ p → p < w.heap.size → S ≤ p) ∧ Spoilt w0 lo S' w.heap.size ax cx L bx dx Ls pt rs w' := by
  refine ⟨min S w.heap.size, Nat.min_le_right _ _, (fun p h1 h2 => by omega), hb.trans (hb'.mono hb.size), hx, fun hn => ?_, fun hn => ?_⟩
  · rcases h1.2.1.2 with ⟨-, h0⟩ | ⟨g, cap, cur, ev, hg, hcur, -⟩
    · omega
    · simp only [Value.slice.injEq, true_and] at ev
      obtain ⟨rfl, rfl⟩ := ev
      exact ⟨g, rfl, hg, Nat.lt_min.2 ⟨h2 g rfl, lt_of_block hcur⟩, (SpR.of h1 h5 (fun r hr => ⟨fun ad e => Nat.lt_min.2 ⟨(h3 r hr).1 ad e, ((h1.2.2 r hr).1.2.2 ad e).2.1⟩, fun ad e => Nat.lt_min.2 ⟨(h3 r hr).2 ad e, ((h1.2.2 r hr).2.2.2.2 ad e).2.1⟩⟩)).below hb' (lt_of_block hcur)⟩
  · rcases h4.2.1.2 with ⟨-, h0⟩ | ⟨g, cap, cur, ev, hg, hcur, -⟩
    · omega
    · simp only [Value.slice.injEq, true_and] at ev
      obtain ⟨rfl, rfl⟩ := ev
      exact ⟨g, rfl, Nat.le_trans (Nat.min_le_left _ _) hg, lt_of_block hcur, (SpL.of h4 h6 (Nat.min_le_left _ _)).below hb' (lt_of_block hcur)⟩
end
end Go.Proofs.YthaimnmbcbhioaaDoor
