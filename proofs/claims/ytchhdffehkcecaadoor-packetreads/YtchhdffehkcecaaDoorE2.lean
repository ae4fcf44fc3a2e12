/-
  Entries, and what Above, Later, Check and Counts of package entry tell of them.
-/
import Derived.Test.YtchhdffehkcecaaDoorE1
import Derived.Deep.RegionHeld3
import Derived.Laws.StructEq
namespace Go.Proofs.YtchhdffehkcecaaDoor
open Go.RowKit

/-- One operation is taken first, its slot said. -/
theorem wpAnyH_takeE {P : Program} {ops : Array Oper} {Q : Exit → Act → World → Prop} {md : Region.Mode} {S : World → Prop} {i : Nat} (dst : Option Nat) {oi : Oper} {v : Value} {fuel : Nat} {listed : Array Bool} {a : Act} {w : World} (hi : ops[i]? = some oi) (hd : oi.dst = dst)
    (hs : Region.noSelect ops = true) (hf : Region.free md ops listed i = true) (hr : (Region.ready md ops listed).contains i = true)
    (hQ : ∀ c a w, Q (.panic c) (a.put dst v) w → Q (.panic c) a w) (hy : YieldsIf P ops S oi v a) (hS : S w)
    (h : wpAnyH P md ops Q S fuel (listed.setIfInBounds i true) (a.put dst v) w) : wpAnyH P md ops Q S (fuel + 1) listed a w := by
  subst hd
  exact wpAnyH_take hi hs hf hr hQ hy hS h

/-- An entry. -/
structure Ent where
  k : ByteArray
  t : Int
  o : Int
  v : ByteArray
  u : Int
/-- The cells of an entry. -/
abbrev Ent.cells (x : Ent) : Array Value := #[.string x.k, .int .i64 x.t, .int .u16 x.o, .string x.v, .int .i64 x.u]
def Ent.val (x : Ent) : Value := .agg #[.string x.k, .int .i64 x.t, .int .u16 x.o, .string x.v, .int .i64 x.u]
def zeroE : Ent := ⟨⟨#[]⟩, 0, 0, ⟨#[]⟩, 0⟩
/-- A block of one entry. -/
def EBlk (w : World) (B : Nat) (x : Ent) : Prop := w.heap[B]? = some (.cells #[.string x.k, .int .i64 x.t, .int .u16 x.o, .string x.v, .int .i64 x.u] 48 (0, 0))
theorem EBlk.lt {w : World} {B : Nat} {x : Ent} (h : EBlk w B x) : B < w.heap.size := ltE h
theorem EBlk.below {w w' : World} {B N : Nat} {x : Ent} (h : EBlk w B x) (hb : Below N w w') (hN : B < N) : EBlk w' B x := (hb.block B hN).trans h
theorem EBlk.on {w w' : World} {B : Nat} {x : Ent} (h : EBlk w B x) (hb : Below w.heap.size w w') : EBlk w' B x := h.below hb h.lt
theorem EBlk.drew {w : World} {B : Nat} {x : Ent} (h : EBlk w B x) : EBlk w.drew B x := h
theorem EBlk.new (w : World) (x : Ent) : EBlk (w.alloc (.cells #[.string x.k, .int .i64 x.t, .int .u16 x.o, .string x.v, .int .i64 x.u] 48)) w.heap.size x := newE w _
theorem EBlk.c0 {w : World} {B : Nat} {x : Ent} (h : EBlk w B x) : w.cell? ⟨B, 0, none⟩ = some (.string x.k) := cellE h
theorem EBlk.c1 {w : World} {B : Nat} {x : Ent} (h : EBlk w B x) : w.cell? ⟨B, 1, none⟩ = some (.int .i64 x.t) := cellE h
theorem EBlk.c2 {w : World} {B : Nat} {x : Ent} (h : EBlk w B x) : w.cell? ⟨B, 2, none⟩ = some (.int .u16 x.o) := cellE h
theorem EBlk.c3 {w : World} {B : Nat} {x : Ent} (h : EBlk w B x) : w.cell? ⟨B, 3, none⟩ = some (.string x.v) := cellE h
theorem EBlk.c4 {w : World} {B : Nat} {x : Ent} (h : EBlk w B x) : w.cell? ⟨B, 4, none⟩ = some (.int .i64 x.u) := cellE h
theorem EBlk.f {w : World} {B : Nat} {x : Ent} (h : EBlk w B x) (j : Nat) : w.frozen? ⟨B, j, none⟩ = false := by
  unfold EBlk at h
  simp [World.frozen?, h]
theorem EBlk.other {w : World} {B : Nat} {x : Ent} (h : EBlk w B x) {p : Addr} (hp : B ≠ p.block) (v : Value) : EBlk (w.setCell p v) B x := (Below.heap_setCell w p v B hp).trans h
/-- A block stored into, cell by cell. -/
def stE (w : World) (B : Nat) (y : Ent) : World := ((((w.setCell ⟨B, 0, none⟩ (.string y.k)).setCell ⟨B, 1, none⟩ (.int .i64 y.t)).setCell ⟨B, 2, none⟩ (.int .u16 y.o)).setCell ⟨B, 3, none⟩ (.string y.v)).setCell ⟨B, 4, none⟩ (.int .i64 y.u)
theorem EBlk.store {w : World} {B : Nat} {x : Ent} (h : EBlk w B x) (y : Ent) : EBlk (stE w B y) B y := by
  unfold EBlk at h ⊢
  unfold stE
  simp [World.setCell, Array.getElem?_modify, h]
theorem stE_below {a w : World} {N B : Nat} (h : Below N a w) (hB : N ≤ B) (y : Ent) : Below N a (stE w B y) :=
  ((((h.setCell (p := ⟨B, 0, none⟩) hB _).setCell (p := ⟨B, 1, none⟩) hB _).setCell (p := ⟨B, 2, none⟩) hB _).setCell (p := ⟨B, 3, none⟩) hB _).setCell (p := ⟨B, 4, none⟩) hB _

/-- Which of two entries is above. -/
def aboveE (x y : Ent) : Bool := firstP [cmpIE x.t y.t, cmpIE x.o y.o, Lib.compareBytes x.v.data.toList y.v.data.toList, cmpIE x.u y.u]
def laterE (x y : Ent) : Ent := if aboveE x y then x else y

end Go.Proofs.YtchhdffehkcecaaDoor
