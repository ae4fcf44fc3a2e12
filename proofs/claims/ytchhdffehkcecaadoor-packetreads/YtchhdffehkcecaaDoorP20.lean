/-
  What the reference's Read holds of memory.
-/
import Derived.Test.YtchhdffehkcecaaDoorP19
namespace Go.Proofs.YtchhdffehkcecaaDoor
open Go Go.RowKit

/-- A block of 4 numbers. -/
def Four (w : World) (X : Nat) (a b c d : Int) : Prop := w.heap[X]? = some (.cells #[.int .i64 a, .int .i64 b, .int .i64 c, .int .i64 d] 63 (0, 0))
theorem Four.lt {w : World} {X : Nat} {a b c d : Int} (h : Four w X a b c d) : X < w.heap.size := ltE h
theorem Four.on {w w' : World} {X : Nat} {a b c d : Int} (h : Four w X a b c d) (hb : Below w.heap.size w w') : Four w' X a b c d := (hb.block X h.lt).trans h
theorem Four.new (w : World) (a b c d : Int) : Four (w.alloc (.cells #[.int .i64 a, .int .i64 b, .int .i64 c, .int .i64 d] 63)) w.heap.size a b c d := newE w _
theorem Four.c0 {w : World} {X : Nat} {a b c d : Int} (h : Four w X a b c d) : w.cell? ⟨X, 0, none⟩ = some (.int .i64 a) := cellE h
theorem Four.c1 {w : World} {X : Nat} {a b c d : Int} (h : Four w X a b c d) : w.cell? ⟨X, 1, none⟩ = some (.int .i64 b) := cellE h
theorem Four.c2 {w : World} {X : Nat} {a b c d : Int} (h : Four w X a b c d) : w.cell? ⟨X, 2, none⟩ = some (.int .i64 c) := cellE h
theorem Four.c3 {w : World} {X : Nat} {a b c d : Int} (h : Four w X a b c d) : w.cell? ⟨X, 3, none⟩ = some (.int .i64 d) := cellE h
theorem Four.f {w : World} {X : Nat} {a b c d : Int} (h : Four w X a b c d) (j : Nat) : w.frozen? ⟨X, j, none⟩ = false := by
  unfold Four at h
  simp [World.frozen?, h]
theorem Four.set0 {w : World} {X : Nat} {a b c d : Int} (h : Four w X a b c d) (z : Int) : Four (w.setCell ⟨X, 0, none⟩ (.int .i64 z)) X z b c d := by
  unfold Four at h ⊢
  simp [World.setCell, Array.getElem?_modify, h]
theorem Four.set1 {w : World} {X : Nat} {a b c d : Int} (h : Four w X a b c d) (z : Int) : Four (w.setCell ⟨X, 1, none⟩ (.int .i64 z)) X a z c d := by
  unfold Four at h ⊢
  simp [World.setCell, Array.getElem?_modify, h]
theorem Four.set2 {w : World} {X : Nat} {a b c d : Int} (h : Four w X a b c d) (z : Int) : Four (w.setCell ⟨X, 2, none⟩ (.int .i64 z)) X a b z d := by
  unfold Four at h ⊢
  simp [World.setCell, Array.getElem?_modify, h]
theorem Four.set3 {w : World} {X : Nat} {a b c d : Int} (h : Four w X a b c d) (z : Int) : Four (w.setCell ⟨X, 3, none⟩ (.int .i64 z)) X a b c z := by
  unfold Four at h ⊢
  simp [World.setCell, Array.getElem?_modify, h]
theorem Four.other {w : World} {X : Nat} {a b c d : Int} (h : Four w X a b c d) {p : Addr} (hp : X ≠ p.block) (v : Value) : Four (w.setCell p v) X a b c d := (Below.heap_setCell w p v X hp).trans h
theorem Four.grown {w w' : World} {X : Nat} {a b c d : Int} {r : Option Nat} (h : Four w X a b c d) (hg : w.grownBy w' r) (hr : some X ≠ r) : Four w' X a b c d := (hg.block X h.lt hr).trans h
/-- A block of 3 numbers. -/
def Three (w : World) (X : Nat) (a b c : Int) : Prop := w.heap[X]? = some (.cells #[.int .i64 a, .int .i64 b, .int .i64 c] 69 (0, 0))
theorem Three.lt {w : World} {X : Nat} {a b c : Int} (h : Three w X a b c) : X < w.heap.size := ltE h
theorem Three.on {w w' : World} {X : Nat} {a b c : Int} (h : Three w X a b c) (hb : Below w.heap.size w w') : Three w' X a b c := (hb.block X h.lt).trans h
theorem Three.new (w : World) (a b c : Int) : Three (w.alloc (.cells #[.int .i64 a, .int .i64 b, .int .i64 c] 69)) w.heap.size a b c := newE w _
theorem Three.c0 {w : World} {X : Nat} {a b c : Int} (h : Three w X a b c) : w.cell? ⟨X, 0, none⟩ = some (.int .i64 a) := cellE h
theorem Three.c1 {w : World} {X : Nat} {a b c : Int} (h : Three w X a b c) : w.cell? ⟨X, 1, none⟩ = some (.int .i64 b) := cellE h
theorem Three.c2 {w : World} {X : Nat} {a b c : Int} (h : Three w X a b c) : w.cell? ⟨X, 2, none⟩ = some (.int .i64 c) := cellE h
theorem Three.f {w : World} {X : Nat} {a b c : Int} (h : Three w X a b c) (j : Nat) : w.frozen? ⟨X, j, none⟩ = false := by
  unfold Three at h
  simp [World.frozen?, h]
theorem Three.set0 {w : World} {X : Nat} {a b c : Int} (h : Three w X a b c) (z : Int) : Three (w.setCell ⟨X, 0, none⟩ (.int .i64 z)) X z b c := by
  unfold Three at h ⊢
  simp [World.setCell, Array.getElem?_modify, h]
theorem Three.set1 {w : World} {X : Nat} {a b c : Int} (h : Three w X a b c) (z : Int) : Three (w.setCell ⟨X, 1, none⟩ (.int .i64 z)) X a z c := by
  unfold Three at h ⊢
  simp [World.setCell, Array.getElem?_modify, h]
theorem Three.set2 {w : World} {X : Nat} {a b c : Int} (h : Three w X a b c) (z : Int) : Three (w.setCell ⟨X, 2, none⟩ (.int .i64 z)) X a b z := by
  unfold Three at h ⊢
  simp [World.setCell, Array.getElem?_modify, h]
theorem Three.other {w : World} {X : Nat} {a b c : Int} (h : Three w X a b c) {p : Addr} (hp : X ≠ p.block) (v : Value) : Three (w.setCell p v) X a b c := (Below.heap_setCell w p v X hp).trans h
theorem Three.grown {w w' : World} {X : Nat} {a b c : Int} {r : Option Nat} (h : Three w X a b c) (hg : w.grownBy w' r) (hr : some X ≠ r) : Three w' X a b c := (hg.block X h.lt hr).trans h
theorem Four.drewn {w : World} {X : Nat} {a b c d : Int} (h : Four w X a b c d) : Four w.drew X a b c d := h
/-- The answer, the packet, the numbers, the reader, the members. -/
structure YrSt (W w : World) (R : Nat) (a : Option Addr) (c : Nat) (l : List UInt8) (e : Int) (k f x q : Int) (am : Option Addr) (nm cm : Nat) (ae : Option Addr) (ne ce : Nat) (n0 n1 n2 n3 : Int) (ms : List Mem) : Prop where
  zr : PkBlk w W.heap.size 0 0 0 0 none 0 0 none 0 0
  pv : PkBlk w (W.heap.size + 1) k f x q am nm cm ae ne ce
  nv : Four w (W.heap.size + 2) n0 n1 n2 n3
  rd : Two w R 65 (.slice a l.length c) (.int .i64 e)
  xs : XW W a c l e
  lt : W.heap.size + 2 < R
  om : OwnMx w (R + 1) (.slice am nm cm) ms
  hm : nm = ms.length
  low : Below W.heap.size W w
theorem YrSt.on {w' : World} {W w : World} {R : Nat} {a : Option Addr} {c : Nat} {l : List UInt8} {e : Int} {k f x q : Int} {am : Option Addr} {nm cm : Nat} {ae : Option Addr} {ne ce : Nat} {n0 n1 n2 n3 : Int} {ms : List Mem} (h : YrSt W w R a c l e k f x q am nm cm ae ne ce n0 n1 n2 n3 ms) (hb : Below w.heap.size w w') : YrSt W w' R a c l e k f x q am nm cm ae ne ce n0 n1 n2 n3 ms :=
  ⟨h.zr.on hb, h.pv.on hb, h.nv.on hb, h.rd.below hb h.rd.lt, h.xs, h.lt, h.om.on hb, h.hm, h.low.trans (hb.mono h.low.size)⟩
theorem YrSt.far {W w : World} {R : Nat} {a : Option Addr} {c : Nat} {l : List UInt8} {e : Int} {k f x q : Int} {am : Option Addr} {nm cm : Nat} {ae : Option Addr} {ne ce : Nat} {n0 n1 n2 n3 : Int} {ms : List Mem} (h : YrSt W w R a c l e k f x q am nm cm ae ne ce n0 n1 n2 n3 ms) (p : Addr) (v : Value) (h0 : p.block ≠ W.heap.size) (h1 : p.block ≠ W.heap.size + 1) (h2 : p.block ≠ W.heap.size + 2) (h3 : p.block ≠ R) (hom : OwnMx (w.setCell p v) (R + 1) (.slice am nm cm) ms) (hw : W.heap.size ≤ p.block) : YrSt W (w.setCell p v) R a c l e k f x q am nm cm ae ne ce n0 n1 n2 n3 ms :=
  ⟨h.zr.other (fun e => h0 e.symm) v, h.pv.other (fun e => h1 e.symm) v, h.nv.other (fun e => h2 e.symm) v, h.rd.far p (fun e => h3 e.symm) v, h.xs, h.lt, hom, h.hm, h.low.setCell hw v⟩
theorem YrSt.put {a1 : Option Addr} {c1 : Nat} {l1 : List UInt8} {e1 : Int} {W w : World} {R : Nat} {a : Option Addr} {c : Nat} {l : List UInt8} {e : Int} {k f x q : Int} {am : Option Addr} {nm cm : Nat} {ae : Option Addr} {ne ce : Nat} {n0 n1 n2 n3 : Int} {ms : List Mem} (h : YrSt W w R a c l e k f x q am nm cm ae ne ce n0 n1 n2 n3 ms) (h1 : XW W a1 c1 l1 e1) :
    YrSt W ((w.setCell ⟨R, 0, none⟩ (.slice a1 l1.length c1)).setCell ⟨R, 1, none⟩ (.int .i64 e1)) R a1 c1 l1 e1 k f x q am nm cm ae ne ce n0 n1 n2 n3 ms := by
  have hl := h.lt
  exact ⟨(h.zr.other (p := ⟨R, 0, none⟩) (by show W.heap.size ≠ R; omega) _).other (p := ⟨R, 1, none⟩) (by show W.heap.size ≠ R; omega) _,
    (h.pv.other (p := ⟨R, 0, none⟩) (by show W.heap.size + 1 ≠ R; omega) _).other (p := ⟨R, 1, none⟩) (by show W.heap.size + 1 ≠ R; omega) _,
    (h.nv.other (p := ⟨R, 0, none⟩) (by show W.heap.size + 2 ≠ R; omega) _).other (p := ⟨R, 1, none⟩) (by show W.heap.size + 2 ≠ R; omega) _,
    (h.rd.set0 _).set1 _, h1, h.lt, (h.om.turn (grownBy_setCell _ R 0 _) (by omega)).turn (grownBy_setCell _ R 1 _) (by omega), h.hm,
    (h.low.setCell (p := ⟨R, 0, none⟩) (by show W.heap.size ≤ R; omega) _).setCell (p := ⟨R, 1, none⟩) (by show W.heap.size ≤ R; omega) _⟩
theorem YrSt.num {z0 z1 z2 z3 : Int} {W w : World} {R : Nat} {a : Option Addr} {c : Nat} {l : List UInt8} {e : Int} {k f x q : Int} {am : Option Addr} {nm cm : Nat} {ae : Option Addr} {ne ce : Nat} {n0 n1 n2 n3 : Int} {ms : List Mem} (h : YrSt W w R a c l e k f x q am nm cm ae ne ce n0 n1 n2 n3 ms) (j : Nat) (v : Value) (hy : Four (w.setCell ⟨W.heap.size + 2, j, none⟩ v) (W.heap.size + 2) z0 z1 z2 z3) : YrSt W (w.setCell ⟨W.heap.size + 2, j, none⟩ v) R a c l e k f x q am nm cm ae ne ce z0 z1 z2 z3 ms := by
  have hl := h.lt
  exact ⟨h.zr.other (p := ⟨W.heap.size + 2, j, none⟩) (by show W.heap.size ≠ W.heap.size + 2; omega) _, h.pv.other (p := ⟨W.heap.size + 2, j, none⟩) (by show W.heap.size + 1 ≠ W.heap.size + 2; omega) _, hy,
    h.rd.far ⟨W.heap.size + 2, j, none⟩ (by show R ≠ W.heap.size + 2; omega) _, h.xs, h.lt, h.om.turn (grownBy_setCell _ (W.heap.size + 2) j _) (by omega), h.hm, h.low.setCell (p := ⟨W.heap.size + 2, j, none⟩) (by show W.heap.size ≤ W.heap.size + 2; omega) _⟩
theorem YrSt.pkt {k' f' x' q' : Int} {am' : Option Addr} {nm' cm' : Nat} {ae' : Option Addr} {ne' ce' : Nat} {ms' : List Mem} {W w : World} {R : Nat} {a : Option Addr} {c : Nat} {l : List UInt8} {e : Int} {k f x q : Int} {am : Option Addr} {nm cm : Nat} {ae : Option Addr} {ne ce : Nat} {n0 n1 n2 n3 : Int} {ms : List Mem} (h : YrSt W w R a c l e k f x q am nm cm ae ne ce n0 n1 n2 n3 ms) (j : Nat) (v : Value) (hy : PkBlk (w.setCell ⟨W.heap.size + 1, j, none⟩ v) (W.heap.size + 1) k' f' x' q' am' nm' cm' ae' ne' ce') (ho : OwnMx w (R + 1) (.slice am' nm' cm') ms') (hm : nm' = ms'.length) : YrSt W (w.setCell ⟨W.heap.size + 1, j, none⟩ v) R a c l e k' f' x' q' am' nm' cm' ae' ne' ce' n0 n1 n2 n3 ms' := by
  have hl := h.lt
  exact ⟨h.zr.other (p := ⟨W.heap.size + 1, j, none⟩) (by show W.heap.size ≠ W.heap.size + 1; omega) _, hy, h.nv.other (p := ⟨W.heap.size + 1, j, none⟩) (by show W.heap.size + 2 ≠ W.heap.size + 1; omega) _,
    h.rd.far ⟨W.heap.size + 1, j, none⟩ (by show R ≠ W.heap.size + 1; omega) _, h.xs, h.lt, ho.turn (grownBy_setCell _ (W.heap.size + 1) j _) (by omega), hm, h.low.setCell (p := ⟨W.heap.size + 1, j, none⟩) (by show W.heap.size ≤ W.heap.size + 1; omega) _⟩
theorem OwnMx.skip {w : World} {B g j : Nat} {v x : Value} {L : List Mem} (h : OwnMx w B v L) (hne : v.ownBlock ≠ some g) : OwnMx (w.setCell ⟨g, j, none⟩ x) B v L := World.ownsRow.kept h (grownBy_setCell w g j x) (.inr hne)
theorem OwnEx.skip {w : World} {B g j : Nat} {v x : Value} {L : List Ent} (h : OwnEx w B v L) (hne : v.ownBlock ≠ some g) : OwnEx (w.setCell ⟨g, j, none⟩ x) B v L := World.ownsRow.kept h (grownBy_setCell w g j x) (.inr hne)
/-- A row of the call's own grows. -/
theorem YrSt.row {w' : World} {W w : World} {R : Nat} {a : Option Addr} {c : Nat} {l : List UInt8} {e : Int} {k f x q : Int} {am : Option Addr} {nm cm : Nat} {ae : Option Addr} {ne ce : Nat} {n0 n1 n2 n3 : Int} {ms : List Mem} {r : Option Nat} (h : YrSt W w R a c l e k f x q am nm cm ae ne ce n0 n1 n2 n3 ms) (hg : w.grownBy w' r) (hr : ∀ j, r = some j → R + 1 ≤ j) (hom : OwnMx w' (R + 1) (.slice am nm cm) ms) : YrSt W w' R a c l e k f x q am nm cm ae ne ce n0 n1 n2 n3 ms := by
  have hl := h.lt
  exact ⟨h.zr.grown hg (fun e => by have := hr _ e.symm; omega), h.pv.grown hg (fun e => by have := hr _ e.symm; omega), h.nv.grown hg (fun e => by have := hr _ e.symm; omega),
    h.rd.grown hg (fun e => by have := hr _ e.symm; omega), h.xs, h.lt, hom, h.hm, h.low.grown hg h.low.size (fun j hj => by have := hr j hj; omega)⟩
/-- The same but for the members, which are about to be told. -/
theorem YrSt.rowM {w' : World} {W w : World} {R : Nat} {a : Option Addr} {c : Nat} {l : List UInt8} {e : Int} {k f x q : Int} {am : Option Addr} {nm cm : Nat} {ae : Option Addr} {ne ce : Nat} {n0 n1 n2 n3 : Int} {ms : List Mem} {r : Option Nat} {am' : Option Addr} {nm' cm' : Nat} {ms' : List Mem} (h : YrSt W w R a c l e k f x q am nm cm ae ne ce n0 n1 n2 n3 ms) (hg : w.grownBy w' r) (hr : ∀ j, r = some j → R + 1 ≤ j) (hom : OwnMx w' (R + 1) (.slice am' nm' cm') ms') (hm : nm' = ms'.length) :
    YrSt W (w'.setCell ⟨W.heap.size + 1, 4, none⟩ (.slice am' nm' cm')) R a c l e k f x q am' nm' cm' ae ne ce n0 n1 n2 n3 ms' := by
  have hl := h.lt
  have pv := h.pv.grown hg (fun e => by have := hr _ e.symm; omega)
  exact ⟨(h.zr.grown hg (fun e => by have := hr _ e.symm; omega)).other (p := ⟨W.heap.size + 1, 4, none⟩) (by show W.heap.size ≠ W.heap.size + 1; omega) _, pv.set4 am' nm' cm', (h.nv.grown hg (fun e => by have := hr _ e.symm; omega)).other (p := ⟨W.heap.size + 1, 4, none⟩) (by show W.heap.size + 2 ≠ W.heap.size + 1; omega) _,
    (h.rd.grown hg (fun e => by have := hr _ e.symm; omega)).far ⟨W.heap.size + 1, 4, none⟩ (by show R ≠ W.heap.size + 1; omega) _, h.xs, h.lt, hom.turn (grownBy_setCell _ (W.heap.size + 1) 4 _) (by omega), hm, (h.low.grown hg h.low.size (fun j hj => by have := hr j hj; omega)).setCell (p := ⟨W.heap.size + 1, 4, none⟩) (by show W.heap.size ≤ W.heap.size + 1; omega) _⟩
theorem YrSt.ste {y : Ent} {E : Nat} {W w : World} {R : Nat} {a : Option Addr} {c : Nat} {l : List UInt8} {e : Int} {k f x q : Int} {am : Option Addr} {nm cm : Nat} {ae : Option Addr} {ne ce : Nat} {n0 n1 n2 n3 : Int} {ms : List Mem} (h : YrSt W w R a c l e k f x q am nm cm ae ne ce n0 n1 n2 n3 ms) (h0 : E ≠ W.heap.size) (h1 : E ≠ W.heap.size + 1) (h2 : E ≠ W.heap.size + 2) (h3 : E ≠ R) (hm : (Value.slice am nm cm).ownBlock ≠ some E) (hw : W.heap.size ≤ E) : YrSt W (stE w E y) R a c l e k f x q am nm cm ae ne ce n0 n1 n2 n3 ms := by
  have s1 := h.far ⟨E, 0, none⟩ (.string y.k) h0 h1 h2 h3 (h.om.skip hm) hw
  have s2 := s1.far ⟨E, 1, none⟩ (.int .i64 y.t) h0 h1 h2 h3 (s1.om.skip hm) hw
  have s3 := s2.far ⟨E, 2, none⟩ (.int .u16 y.o) h0 h1 h2 h3 (s2.om.skip hm) hw
  have s4 := s3.far ⟨E, 3, none⟩ (.string y.v) h0 h1 h2 h3 (s3.om.skip hm) hw
  exact s4.far ⟨E, 4, none⟩ (.int .i64 y.u) h0 h1 h2 h3 (s4.om.skip hm) hw
/-- The entries are about to be told. -/
theorem YrSt.rowE {w' : World} {W w : World} {R : Nat} {a : Option Addr} {c : Nat} {l : List UInt8} {e : Int} {k f x q : Int} {am : Option Addr} {nm cm : Nat} {ae : Option Addr} {ne ce : Nat} {n0 n1 n2 n3 : Int} {ms : List Mem} {r : Option Nat} {ae' : Option Addr} {ne' ce' : Nat} (h : YrSt W w R a c l e k f x q am nm cm ae ne ce n0 n1 n2 n3 ms) (hg : w.grownBy w' r) (hr : ∀ j, r = some j → R + 1 ≤ j) (hmr : ∀ g, (Value.slice am nm cm).ownBlock = some g → r ≠ some g) :
    YrSt W (w'.setCell ⟨W.heap.size + 1, 5, none⟩ (.slice ae' ne' ce')) R a c l e k f x q am nm cm ae' ne' ce' n0 n1 n2 n3 ms := by
  have hl := h.lt
  have pv := h.pv.grown hg (fun e => by have := hr _ e.symm; omega)
  have hom : OwnMx w' (R + 1) (.slice am nm cm) ms := World.ownsRow.kept h.om hg (by
    rcases hv : (Value.slice am nm cm).ownBlock with - | g
    · exact .inl rfl
    · exact .inr (fun e => hmr g hv e.symm))
  exact ⟨(h.zr.grown hg (fun e => by have := hr _ e.symm; omega)).other (p := ⟨W.heap.size + 1, 5, none⟩) (by show W.heap.size ≠ W.heap.size + 1; omega) _, pv.set5 ae' ne' ce', (h.nv.grown hg (fun e => by have := hr _ e.symm; omega)).other (p := ⟨W.heap.size + 1, 5, none⟩) (by show W.heap.size + 2 ≠ W.heap.size + 1; omega) _,
    (h.rd.grown hg (fun e => by have := hr _ e.symm; omega)).far ⟨W.heap.size + 1, 5, none⟩ (by show R ≠ W.heap.size + 1; omega) _, h.xs, h.lt, hom.turn (grownBy_setCell _ (W.heap.size + 1) 5 _) (by omega), h.hm, (h.low.grown hg h.low.size (fun j hj => by have := hr j hj; omega)).setCell (p := ⟨W.heap.size + 1, 5, none⟩) (by show W.heap.size ≤ W.heap.size + 1; omega) _⟩
theorem YrSt.left {W w : World} {R : Nat} {a : Option Addr} {c : Nat} {l : List UInt8} {e : Int} {k f x q : Int} {am : Option Addr} {nm cm : Nat} {ae : Option Addr} {ne ce : Nat} {n0 n1 n2 n3 : Int} {ms : List Mem} (h : YrSt W w R a c l e k f x q am nm cm ae ne ce n0 n1 n2 n3 ms) : leftP R w = l.length := by
  unfold leftP
  rw [h.rd.c0]
/-- The answer is none. -/
theorem YrSt.none_ {W w : World} {R : Nat} {a : Option Addr} {c : Nat} {l : List UInt8} {e : Int} {k f x q : Int} {am : Option Addr} {nm cm : Nat} {ae : Option Addr} {ne ce : Nat} {n0 n1 n2 n3 : Int} {ms : List Mem} (h : YrSt W w R a c l e k f x q am nm cm ae ne ce n0 n1 n2 n3 ms) : PkBlk (stP w W.heap.size 0 0 0 0 none 0 0 none 0 0) W.heap.size 0 0 0 0 none 0 0 none 0 0 ∧ Below W.heap.size W (stP w W.heap.size 0 0 0 0 none 0 0 none 0 0) :=
  ⟨h.zr.store 0 0 0 0 Option.none 0 0 Option.none 0 0, stP_below h.low (Nat.le_refl _) 0 0 0 0 Option.none 0 0 Option.none 0 0⟩
/-- The entries. -/
structure YeSt (w : World) (B2 : Nat) (R : Nat) (am : Option Addr) (nm cm : Nat) (ae : Option Addr) (ne ce : Nat) (es : List Ent) : Prop where
  oe : OwnEx w B2 (.slice ae ne ce) es
  he : ne = es.length
  hb : R + 1 ≤ B2
  mb : ∀ g, (Value.slice am nm cm).ownBlock = some g → g < B2
  sz : B2 ≤ w.heap.size
theorem YeSt.on {w w' : World} {B2 R : Nat} {am : Option Addr} {nm cm : Nat} {ae : Option Addr} {ne ce : Nat} {es : List Ent} (h : YeSt w B2 R am nm cm ae ne ce es) (hb : Below w.heap.size w w') : YeSt w' B2 R am nm cm ae ne ce es := ⟨h.oe.on hb, h.he, h.hb, h.mb, Nat.le_trans h.sz hb.size⟩
theorem YeSt.put {w : World} {B2 R : Nat} {am : Option Addr} {nm cm : Nat} {ae : Option Addr} {ne ce : Nat} {es : List Ent} (h : YeSt w B2 R am nm cm ae ne ce es) (v1 v2 : Value) : YeSt ((w.setCell ⟨R, 0, none⟩ v1).setCell ⟨R, 1, none⟩ v2) B2 R am nm cm ae ne ce es := by
  have := h.hb
  exact ⟨(h.oe.turn (grownBy_setCell _ R 0 _) (by omega)).turn (grownBy_setCell _ R 1 _) (by omega), h.he, h.hb, h.mb, by rw [World.size_setCell, World.size_setCell]; exact h.sz⟩
theorem YeSt.ste {w : World} {B2 R E : Nat} {y : Ent} {am : Option Addr} {nm cm : Nat} {ae : Option Addr} {ne ce : Nat} {es : List Ent} (h : YeSt w B2 R am nm cm ae ne ce es) (hm : (Value.slice ae ne ce).ownBlock ≠ some E) : YeSt (stE w E y) B2 R am nm cm ae ne ce es :=
  ⟨((((h.oe.skip hm).skip hm).skip hm).skip hm).skip hm, h.he, h.hb, h.mb, by unfold stE; simp only [World.size_setCell]; exact h.sz⟩
theorem zeroE_ok6 : zeroE.Ok := ⟨by decide, by decide, by decide⟩
theorem stP_grown (V : World) (r : Nat) (k f a q : Int) (am : Option Addr) (nm cm : Nat) (ae : Option Addr) (ne ce : Nat) : V.grownBy (stP V r k f a q am nm cm ae ne ce) (some r) := grownBy_trans (grownBy_trans (grownBy_trans (grownBy_trans (grownBy_trans (grownBy_setCell V r _ _) (grownBy_setCell _ r _ _)) (grownBy_setCell _ r _ _)) (grownBy_setCell _ r _ _)) (grownBy_setCell _ r _ _)) (grownBy_setCell _ r _ _)
/-- What the reference's Read tells. -/
def YrPost (W : World) (b : List UInt8) (e : Ending) (w' : World) : Prop :=
  (readOk b → ∃ qm nqm cqm qe nqe cqe, e = .returned (.tuple #[.agg #[.int .u8 (rdPk b).k, .int .u16 (rdPk b).f, .int .u16 (rdPk b).a, .int .i64 (rdPk b).q, .slice qm nqm cqm, .slice qe nqe cqe], .int .i64 0]) ∧ nqm = (rdPk b).ms.length ∧ nqe = (rdPk b).es.length ∧ MemsAt w' qm (rdPk b).ms ∧ EntsAt w' qe (rdPk b).es) ∧
  (¬ readOk b → e = .returned (.tuple #[.agg #[.int .u8 0, .int .u16 0, .int .u16 0, .int .i64 0, .slice none 0 0, .slice none 0 0], .int .i64 14])) ∧ Below W.heap.size W w'
theorem YrPost.no {W w' : World} {b : List UInt8} (h : ¬ readOk b) (hb : Below W.heap.size W w') : YrPost W b (.returned (.tuple #[.agg #[.int .u8 0, .int .u16 0, .int .u16 0, .int .i64 0, .slice none 0 0, .slice none 0 0], .int .i64 14])) w' :=
  ⟨fun h' => absurd h' h, fun _ => rfl, hb⟩
/-- The head of a packet's bytes. -/
theorem yr_head {b l0 l1 l2 l3 l4 l5 : List UInt8} {e0 e1 e2 e3 e4 e5 n0 n1 n2 n3 : Int} (h : readOk b) (h0 : byteE 108 0 b = (l0, e0)) (h1 : intE e0 l0 = (l1, e1, n0)) (h2 : intE e1 l1 = (l2, e2, n1)) (h3 : intE e2 l2 = (l3, e3, n2)) (h4 : intE e3 l3 = (l4, e4, n3)) (h5 : byteE 108 e4 l4 = (l5, e5)) :
    n0 = (rdPk b).k ∧ n1 = (rdPk b).f ∧ n2 = (rdPk b).a ∧ n3 = (rdPk b).q ∧ (0 ≤ n0 ∧ n0 ≤ 255) ∧ (0 ≤ n1 ∧ n1 ≤ 255) ∧ (0 ≤ n2 ∧ n2 ≤ 255) ∧ 0 ≤ n3 ∧ OkM (rdPk b) [] l5 e5 := by
  have hp := rdPk_ok b
  have hh := (checkP_zero h.2.1).1
  simp only [headP, Bool.and_eq_true, decide_eq_true_eq] at hh
  have e9 := readOk_lay h
  generalize rdPk b = P at *
  rw [e9, byte_here] at h0
  obtain ⟨rfl, rfl⟩ := Prod.mk.inj h0
  rw [int_here _ (by have := hp.k; omega) (by have := hp.k; omega)] at h1
  simp only [Prod.mk.injEq] at h1
  obtain ⟨rfl, rfl, rfl⟩ := h1
  rw [int_here _ (by have := hp.f; omega) (by have := hp.f; omega)] at h2
  simp only [Prod.mk.injEq] at h2
  obtain ⟨rfl, rfl, rfl⟩ := h2
  rw [int_here _ (by have := hp.a; omega) (by have := hp.a; omega)] at h3
  simp only [Prod.mk.injEq] at h3
  obtain ⟨rfl, rfl, rfl⟩ := h3
  rw [int_here _ hp.q.1 hp.q.2] at h4
  simp only [Prod.mk.injEq] at h4
  obtain ⟨rfl, rfl, rfl⟩ := h4
  rw [tailM_eq, byte_here] at h5
  obtain ⟨rfl, rfl⟩ := Prod.mk.inj h5
  exact ⟨rfl, rfl, rfl, rfl, ⟨hp.k.1, hp.k.2⟩, ⟨hp.f.1, by omega⟩, ⟨hp.a.1, by omega⟩, by omega, OkM.start P⟩
/-- Between the lists. -/
theorem yr_mid {P : Pk} {acc : List Mem} {l l1 l2 : List UInt8} {e e1 e2 : Int} (h : OkM P acc l e) (hm : moreB l = false) (h1 : byteE 101 e l = (l1, e1)) (h2 : byteE 108 e1 l1 = (l2, e2)) : acc = P.ms ∧ OkE P [] l2 e2 := by
  obtain ⟨rfl, rfl, rfl⟩ := h.out hm
  rw [byte_here] at h1
  obtain ⟨rfl, rfl⟩ := Prod.mk.inj h1
  rw [tailE_eq, byte_here] at h2
  obtain ⟨rfl, rfl⟩ := Prod.mk.inj h2
  exact ⟨rfl, OkE.start P⟩

end Go.Proofs.YtchhdffehkcecaaDoor
