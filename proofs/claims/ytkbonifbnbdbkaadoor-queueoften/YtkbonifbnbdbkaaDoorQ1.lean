/-
  Items of a queue, and the rows in which they lie.
-/
import Derived.Test.YtkbonifbnbdbkaaDoorE4
import Derived.Test.YtkbonifbnbdbkaaDoorE3
import Derived.Test.YtkbonifbnbdbkaaDoorEOpen
import Derived.ArgAppend
import Derived.Laws.OwnMore
namespace Go.Proofs.YtkbonifbnbdbkaaDoor
open Go.RowKit

/-- An item: its entry, how often it was sent, how many pushes were ahead of it. -/
structure Itm where
  e : Ent
  s : Int
  q : Int
def encI (x : Itm) : List Value := [.string x.e.k, .int .i64 x.e.t, .int .u16 x.e.o, .string x.e.v, .int .i64 x.e.u, .int .i64 x.s, .int .i64 x.q]
theorem encI_len (x : Itm) : (encI x).length = 7 := rfl
def cellsI (L : List Itm) : List Value := L.flatMap encI
theorem cellsI_cons (p : Itm) (r : List Itm) : cellsI (p :: r) = encI p ++ cellsI r := rfl
theorem cellsI_len : ∀ L : List Itm, (cellsI L).length = L.length * 7
  | [] => rfl
  | p :: r => by rw [cellsI_cons, List.length_append, encI_len, cellsI_len r, List.length_cons]; omega
theorem cellsI_append (L M : List Itm) : cellsI (L ++ M) = cellsI L ++ cellsI M := List.flatMap_append
theorem cellsI_get : ∀ (L : List Itm) (i : Nat) (hi : i < L.length) (j : Nat) (v : Value), (encI L[i])[j]? = some v → (cellsI L)[i * 7 + j]? = some v
  | p :: r, 0, _, j, v, hv => by
    have hv' : (encI p)[j]? = some v := hv
    have hj := (List.getElem?_eq_some_iff.1 hv').1
    rw [cellsI_cons, Nat.zero_mul, Nat.zero_add, List.getElem?_append_left hj]
    exact hv'
  | p :: r, i + 1, hi, j, v, hv => by
    have := cellsI_get r i (by simpa using hi) j v hv
    rw [cellsI_cons, List.getElem?_append_right (by rw [encI_len]; omega), encI_len, show (i + 1) * 7 + j - 7 = i * 7 + j by omega]
    exact this
theorem cellsI_one (L : List Itm) : ∀ u ∈ cellsI L, u.oneCell' = true := fun u hu => by
  simp only [cellsI, List.mem_flatMap] at hu
  obtain ⟨x, -, hx⟩ := hu
  simp [encI] at hx
  rcases hx with rfl | rfl | rfl | rfl | rfl | rfl | rfl <;> rfl
theorem cellsI_take : ∀ (L : List Itm) (k : Nat), (cellsI L).take (k * 7) = cellsI (L.take k)
  | [], k => by simp [cellsI]
  | x :: r, 0 => by simp [cellsI]
  | x :: r, k + 1 => by
    rw [List.take_succ_cons, cellsI_cons, cellsI_cons, List.take_append, encI_len, List.take_of_length_le (by rw [encI_len]; omega), show (k + 1) * 7 - 7 = k * 7 by omega, cellsI_take r k]
/-- Seven cells of a row, turned at once. -/
theorem cellsI_put : ∀ (L : List Itm) (k : Nat) (_ : k < L.length) (y : Itm), (cellsI L).take (k * 7) ++ encI y ++ (cellsI L).drop (k * 7 + 7) = cellsI (L.set k y)
  | p :: r, 0, _, y => by
    rw [cellsI_cons, Nat.zero_mul, List.take_zero, List.nil_append, Nat.zero_add, List.drop_append, encI_len, List.drop_of_length_le (by rw [encI_len]; omega), List.nil_append, Nat.sub_self, List.drop_zero]
    rfl
  | p :: r, k + 1, hk, y => by
    have ih := cellsI_put r k (by simpa using hk) y
    rw [List.set_cons_succ, cellsI_cons, cellsI_cons, ← ih, List.take_append, List.drop_append, encI_len, List.take_of_length_le (by rw [encI_len]; omega), List.drop_of_length_le (by rw [encI_len]; omega), show (k + 1) * 7 - 7 = k * 7 by omega, show (k + 1) * 7 + 7 - 7 = k * 7 + 7 by omega, List.nil_append]
    simp only [List.append_assoc]

/-- A block of one item. -/
def IBlk (w : World) (B : Nat) (x : Itm) : Prop := w.heap[B]? = some (.cells #[.string x.e.k, .int .i64 x.e.t, .int .u16 x.e.o, .string x.e.v, .int .i64 x.e.u, .int .i64 x.s, .int .i64 x.q] 47 (0, 0))
section
variable {w w' : World} {B N : Nat} {x : Itm}
theorem IBlk.lt (h : IBlk w B x) : B < w.heap.size := ltE h
theorem IBlk.below (h : IBlk w B x) (hb : Below N w w') (hN : B < N) : IBlk w' B x := (hb.block B hN).trans h
theorem IBlk.on (h : IBlk w B x) (hb : Below w.heap.size w w') : IBlk w' B x := h.below hb h.lt
theorem IBlk.new (w : World) (x : Itm) : IBlk (w.alloc (.cells #[.string x.e.k, .int .i64 x.e.t, .int .u16 x.e.o, .string x.e.v, .int .i64 x.e.u, .int .i64 x.s, .int .i64 x.q] 47)) w.heap.size x := newE w _
theorem IBlk.cs (h : IBlk w B x) : w.cell? ⟨B, 0, none⟩ = some (.string x.e.k) ∧ w.cell? ⟨B, 1, none⟩ = some (.int .i64 x.e.t) ∧ w.cell? ⟨B, 2, none⟩ = some (.int .u16 x.e.o) ∧ w.cell? ⟨B, 3, none⟩ = some (.string x.e.v) ∧ w.cell? ⟨B, 4, none⟩ = some (.int .i64 x.e.u) ∧ w.cell? ⟨B, 5, none⟩ = some (.int .i64 x.s) ∧ w.cell? ⟨B, 6, none⟩ = some (.int .i64 x.q) :=
  ⟨cellE h, cellE h, cellE h, cellE h, cellE h, cellE h, cellE h⟩
theorem IBlk.f (h : IBlk w B x) (j : Nat) : w.frozen? ⟨B, j, none⟩ = false := by
  unfold IBlk at h
  simp [World.frozen?, h]
end

/-- The seven cells from a place on are those of an item. -/
def RowI (w : World) (b p : Nat) (x : Itm) : Prop := w.cell? ⟨b, p, none⟩ = some (.string x.e.k) ∧ w.cell? ⟨b, p + 1, none⟩ = some (.int .i64 x.e.t) ∧ w.cell? ⟨b, p + 2, none⟩ = some (.int .u16 x.e.o) ∧ w.cell? ⟨b, p + 3, none⟩ = some (.string x.e.v) ∧ w.cell? ⟨b, p + 4, none⟩ = some (.int .i64 x.e.u) ∧ w.cell? ⟨b, p + 5, none⟩ = some (.int .i64 x.s) ∧ w.cell? ⟨b, p + 6, none⟩ = some (.int .i64 x.q)

/-- Items in blocks from B on: the first ones of a row that may be longer than the slice can become. -/
def OwnI (w : World) (B : Nat) (a : Option Addr) (c : Nat) (L : List Itm) : Prop :=
  (a = none ∧ c = 0 ∧ L = []) ∨ ∃ g cur, a = some ⟨g, 0, none⟩ ∧ B ≤ g ∧ w.heap[g]? = some (.cells cur 47 (0, 0)) ∧ L.length ≤ c ∧ c ≤ maxLen ∧ c * 7 ≤ cur.size ∧ cur.toList.take (L.length * 7) = cellsI L
theorem OwnI.nil (w : World) (B : Nat) : OwnI w B none 0 [] := .inl ⟨rfl, rfl, rfl⟩
section
variable {w w' : World} {B N c g : Nat} {a : Option Addr} {L : List Itm}
/-- What the row's block is, where it stays as it was. -/
theorem OwnI.keep (h : OwnI w B a c L) (hk : ∀ q, a = some q → w'.heap[q.block]? = w.heap[q.block]?) : OwnI w' B a c L := by
  rcases h with h | ⟨g, cur, rfl, h1, h2, h3⟩
  · exact .inl h
  · exact .inr ⟨g, cur, rfl, h1, (hk _ rfl).trans h2, h3⟩
theorem OwnI.lt (h : OwnI w B a c L) : ∀ q, a = some q → B ≤ q.block ∧ q.block < w.heap.size ∧ q = ⟨q.block, 0, none⟩ := fun q e => by
  rcases h with ⟨rfl, -⟩ | ⟨g, cur, rfl, h1, h2, h3⟩
  · cases e
  · obtain rfl := Option.some.inj e
    exact ⟨h1, ltE h2, rfl⟩
theorem OwnI.onB (h : OwnI w B a c L) (hb : Below N w w') (hN : w.heap.size ≤ N) : OwnI w' B a c L := h.keep fun q e => hb.block _ (Nat.lt_of_lt_of_le (h.lt q e).2.1 hN)
theorem OwnI.on (h : OwnI w B a c L) (hb : Below w.heap.size w w') : OwnI w' B a c L := h.onB hb (Nat.le_refl _)
theorem OwnI.kept (h : OwnI w B a c L) {r : Option Nat} (hg : w.grownBy w' r) (hne : ∀ q, a = some q → some q.block ≠ r) : OwnI w' B a c L := h.keep fun q e => hg.block _ (h.lt q e).2.1 (hne q e)
theorem OwnI.base (h : OwnI w B a c L) {B' : Nat} (hB : B' ≤ B) : OwnI w B' a c L := by
  rcases h with h | ⟨g, cur, rfl, h1, h2⟩
  · exact .inl h
  · exact .inr ⟨g, cur, rfl, Nat.le_trans hB h1, h2⟩
theorem OwnI.cap (h : OwnI w B a c L) : L.length ≤ c := by
  rcases h with ⟨-, -, rfl⟩ | ⟨g, cur, rfl, h1, h2, h3, -⟩
  · exact Nat.zero_le _
  · exact h3
theorem OwnI.there (h : OwnI w B a c L) (hL : 0 < L.length) : ∃ g, a = Option.some ⟨g, 0, none⟩ := by
  rcases h with ⟨-, -, rfl⟩ | ⟨g, cur, rfl, -⟩
  · cases hL
  · exact ⟨g, rfl⟩
theorem OwnI.cellAt (h : OwnI w B (Option.some ⟨g, 0, none⟩) c L) (j : Nat) (hj : j < L.length * 7) : w.cell? ⟨g, j, none⟩ = (cellsI L)[j]? := by
  rcases h with ⟨e, -⟩ | ⟨g', cur, e, h1, h2, h3, h4, h5, h6⟩
  · cases e
  · simp only [Option.some.injEq, Addr.mk.injEq, and_true] at e
    subst e
    rw [cell_of_row w g j cur 47 (0, 0) h2, ← h6, List.getElem?_take_of_lt hj]
    simp
theorem OwnI.row (h : OwnI w B (Option.some ⟨g, 0, none⟩) c L) (k : Nat) (hk : k < L.length) : RowI w g (k * 7) L[k] := by
  have hc := fun j (hj : j < 7) => h.cellAt (k * 7 + j) (by omega)
  have hg := fun j v (hv : (encI L[k])[j]? = Option.some v) => cellsI_get L k hk j v hv
  refine ⟨?_, ?_, ?_, ?_, ?_, ?_, ?_⟩
  · exact (hc 0 (by omega)).trans (hg 0 _ rfl)
  · exact (hc 1 (by omega)).trans (hg 1 _ rfl)
  · exact (hc 2 (by omega)).trans (hg 2 _ rfl)
  · exact (hc 3 (by omega)).trans (hg 3 _ rfl)
  · exact (hc 4 (by omega)).trans (hg 4 _ rfl)
  · exact (hc 5 (by omega)).trans (hg 5 _ rfl)
  · exact (hc 6 (by omega)).trans (hg 6 _ rfl)
theorem OwnI.frz (h : OwnI w B (Option.some ⟨g, 0, none⟩) c L) (t : Nat) : w.frozen? ⟨g, t, none⟩ = false := by
  rcases h with ⟨e, -⟩ | ⟨g', cur, e, h1, h2, -⟩
  · cases e
  · simp only [Option.some.injEq, Addr.mk.injEq, and_true] at e
    subst e
    simp [World.frozen?, h2]
/-- A row's first ones, in a slice that can become no longer than it may. -/
theorem OwnI.first (h : OwnI w B (Option.some ⟨g, 0, none⟩) c L) (k c' : Nat) (hk : k ≤ L.length) (hc : k ≤ c') (hc' : c' ≤ c) : OwnI w B (Option.some ⟨g, 0, none⟩) c' (L.take k) := by
  rcases h with ⟨e, -⟩ | ⟨g', cur, e, h1, h2, h3, h4, h5, h6⟩
  · cases e
  · have hl : (L.take k).length = k := by rw [List.length_take]; omega
    refine .inr ⟨g', cur, e, h1, h2, by omega, Nat.le_trans hc' h4, by omega, ?_⟩
    rw [hl, ← cellsI_take, ← h6, List.take_take, Nat.min_eq_left (by omega)]
end
theorem infoIt : (Tryd.prog.info? 47).map (fun i => (i.zero, i.size, i.bytes)) = some (some (.agg #[.string ⟨#[]⟩, .int .i64 0, .int .u16 0, .string ⟨#[]⟩, .int .i64 0, .int .i64 0, .int .i64 0]), 7, 72) := by kernel_rfl

end Go.Proofs.YtkbonifbnbdbkaaDoor
