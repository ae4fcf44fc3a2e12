/-
  Both probes and both tables in one block, as the statements of layer 16 hold them.
-/
import Derived.Test.YtnoconampcemoaaO14
import Derived.Test.YtnoconampcemoaaPActs
namespace Go.Proofs.Ytnoconampcemoaa
open Go Go.RowKit

def wdV (b d : Nat) (P : Pb) (a : Option Addr) (n c : Nat) (s : Int) (x : Option Addr) (y z : Nat) (now : Int) : Array Value :=
  #[.pointer (some ⟨b, 0, none⟩), .pointer (some ⟨d, 0, none⟩), .int .u16 (P.s : Int), .int .i64 P.per, .int .i64 P.tmo, .int .i64 P.due, .int .i64 P.qs, .bool P.qo, .bool P.qh, .int .u16 (P.qn : Int), .int .i64 P.qt, .slice a n c, .int .u16 s, .slice x y z, .int .i64 now]
/-- The block of a world of the statements. -/
def WdB (w : World) (B b d : Nat) (P : Pb) (a : Option Addr) (n c : Nat) (s : Int) (x : Option Addr) (y z : Nat) (now : Int) : Prop := w.heap[B]? = some (.cells (wdV b d P a n c s x y z now) 37 (0, 0))
structure WdAt (w : World) (B b d : Nat) (P : Pb) (a : Option Addr) (n c : Nat) (s : Int) (x : Option Addr) (y z : Nat) (now : Int) : Prop where
  p0 : w.cell? ⟨B, 0, none⟩ = some (.pointer (some ⟨b, 0, none⟩))
  p1 : w.cell? ⟨B, 1, none⟩ = some (.pointer (some ⟨d, 0, none⟩))
  r0 : w.cell? ⟨B, 2, none⟩ = some (.int .u16 (P.s : Int))
  r1 : w.cell? ⟨B, 3, none⟩ = some (.int .i64 P.per)
  r2 : w.cell? ⟨B, 4, none⟩ = some (.int .i64 P.tmo)
  r3 : w.cell? ⟨B, 5, none⟩ = some (.int .i64 P.due)
  r4 : w.cell? ⟨B, 6, none⟩ = some (.int .i64 P.qs)
  r5 : w.cell? ⟨B, 7, none⟩ = some (.bool P.qo)
  r6 : w.cell? ⟨B, 8, none⟩ = some (.bool P.qh)
  r7 : w.cell? ⟨B, 9, none⟩ = some (.int .u16 (P.qn : Int))
  r8 : w.cell? ⟨B, 10, none⟩ = some (.int .i64 P.qt)
  r9 : w.cell? ⟨B, 11, none⟩ = some (.slice a n c)
  u0 : w.cell? ⟨B, 12, none⟩ = some (.int .u16 s)
  u1 : w.cell? ⟨B, 13, none⟩ = some (.slice x y z)
  now : w.cell? ⟨B, 14, none⟩ = some (.int .i64 now)
section
variable {w w' : World} {B b d : Nat} {P : Pb} {a : Option Addr} {n c : Nat} {s : Int} {x : Option Addr} {y z : Nat} {now : Int}
theorem WdB.lt (h : WdB w B b d P a n c s x y z now) : B < w.heap.size := ltE h
theorem WdB.at (h : WdB w B b d P a n c s x y z now) : WdAt w B b d P a n c s x y z now :=
  ⟨cellE h, cellE h, cellE h, cellE h, cellE h, cellE h, cellE h, cellE h, cellE h, cellE h, cellE h, cellE h, cellE h, cellE h, cellE h⟩
theorem WdB.f (h : WdB w B b d P a n c s x y z now) (j : Nat) : w.frozen? ⟨B, j, none⟩ = false := by
  unfold WdB at h
  simp [World.frozen?, h]
theorem WdB.of (h : WdB w B b d P a n c s x y z now) (e : w'.heap[B]? = w.heap[B]?) : WdB w' B b d P a n c s x y z now := e.trans h
theorem WdB.on (h : WdB w B b d P a n c s x y z now) (hb : Below w.heap.size w w') : WdB w' B b d P a n c s x y z now := h.of (hb.block B h.lt)
/-- A probe of the reference stored into it. -/
def stWR (w : World) (B : Nat) (P : Pb) (a : Option Addr) (n c : Nat) : World :=
  (((((((((w.setCell ⟨B, 2, none⟩ (.int .u16 (P.s : Int))).setCell ⟨B, 3, none⟩ (.int .i64 P.per)).setCell ⟨B, 4, none⟩ (.int .i64 P.tmo)).setCell ⟨B, 5, none⟩ (.int .i64 P.due)).setCell ⟨B, 6, none⟩ (.int .i64 P.qs)).setCell ⟨B, 7, none⟩ (.bool P.qo)).setCell ⟨B, 8, none⟩ (.bool P.qh)).setCell ⟨B, 9, none⟩ (.int .u16 (P.qn : Int))).setCell ⟨B, 10, none⟩ (.int .i64 P.qt)).setCell ⟨B, 11, none⟩ (.slice a n c)
theorem WdB.storeR (h : WdB w B b d P a n c s x y z now) (P' : Pb) (a' : Option Addr) (n' c' : Nat) : WdB (stWR w B P' a' n' c') B b d P' a' n' c' s x y z now := by
  unfold WdB at h ⊢
  unfold stWR
  simp [World.setCell, Array.getElem?_modify, h, wdV]
theorem stWR_grown (w : World) (B : Nat) (P : Pb) (a : Option Addr) (n c : Nat) : w.grownBy (stWR w B P a n c) (some B) :=
  (((((((((grownBy_setCell w B _ _).trans (grownBy_setCell _ B _ _)).trans (grownBy_setCell _ B _ _)).trans (grownBy_setCell _ B _ _)).trans (grownBy_setCell _ B _ _)).trans (grownBy_setCell _ B _ _)).trans (grownBy_setCell _ B _ _)).trans (grownBy_setCell _ B _ _)).trans (grownBy_setCell _ B _ _)).trans (grownBy_setCell _ B _ _)
/-- A table of the reference stored into it. -/
def stWU (w : World) (B : Nat) (s : Int) (x : Option Addr) (y z : Nat) : World := (w.setCell ⟨B, 12, none⟩ (.int .u16 s)).setCell ⟨B, 13, none⟩ (.slice x y z)
theorem WdB.storeU (h : WdB w B b d P a n c s x y z now) (s' : Int) (x' : Option Addr) (y' z' : Nat) : WdB (stWU w B s' x' y' z') B b d P a n c s' x' y' z' now := by
  unfold WdB at h ⊢
  unfold stWU
  simp [World.setCell, Array.getElem?_modify, h, wdV]
theorem stWU_grown (w : World) (B : Nat) (s : Int) (x : Option Addr) (y z : Nat) : w.grownBy (stWU w B s x y z) (some B) := (grownBy_setCell w B _ _).trans (grownBy_setCell _ B _ _)
theorem WdB.storeN (h : WdB w B b d P a n c s x y z now) (t : Int) : WdB (w.setCell ⟨B, 14, none⟩ (.int .i64 t)) B b d P a n c s x y z t := by
  unfold WdB at h ⊢
  simp [World.setCell, Array.getElem?_modify, h, wdV]
end
theorem WdsAt.past2 {w w' : World} {a : Option Addr} {l : List Mem} {b d : Nat} (h : WdsAt w a l) (g : Grown2 w w' b d) (hne : ∀ q, a = some q → q.block ≠ b ∧ q.block ≠ d) : WdsAt w' a l := fun hn => by
  obtain ⟨c, o, rfl, hlt, hc⟩ := h hn
  obtain ⟨h1, h2⟩ := hne _ rfl
  exact ⟨c, o, rfl, Nat.lt_of_lt_of_le hlt g.size, fun i hi j v hv => by
    have := hc i hi j v hv
    simp only [World.cell?] at this ⊢
    rw [g.block c hlt h1 h2]
    exact this⟩
theorem MemsAt.past2 {w w' : World} {a : Option Addr} {l : List Mem} {b d : Nat} (h : MemsAt w a l) (g : Grown2 w w' b d) (hne : ∀ q, a = some q → q.block ≠ b ∧ q.block ≠ d) : MemsAt w' a l := fun hn => by
  obtain ⟨c, o, rfl, hlt, hc⟩ := h hn
  obtain ⟨h1, h2⟩ := hne _ rfl
  exact ⟨c, o, rfl, Nat.lt_of_lt_of_le hlt g.size, fun i hi j v hv => by
    have := hc i hi j v hv
    simp only [World.cell?] at this ⊢
    rw [g.block c hlt h1 h2]
    exact this⟩
/-- Where a list may not lie. -/
def Off (B b d : Nat) (a : Option Addr) : Prop := ∀ q, a = some q → q.block ≠ B ∧ q.block ≠ b ∧ q.block ≠ d
/-- What the walks hold of both: the reference's list of who is watched at a, its table's list at x. -/
structure WSt (W w : World) (B b d : Nat) (P : Pb) (T : Tb) (R : Pb) (U : Tb) (now : Int) (a : Option Addr) (n c : Nat) (x : Option Addr) (y z : Nat) : Prop where
  st : PSt W w b d P T
  blk : WdB w B b d R a n c (U.s : Int) x y z now
  lB : W.heap.size ≤ B
  nb : B ≠ b
  nd : B ≠ d
  wl : WdsAt w a (wdL R)
  wn : n = (wdL R).length
  wo : Off B b d a
  ul : MemsAt w x (memsB U)
  un : y = (memsB U).length
  uo : Off B b d x
  rok : PbOk R
  uok : TbOk U
section
variable {W w u : World} {B b d : Nat} {P : Pb} {T : Tb} {R : Pb} {U : Tb} {now : Int} {a : Option Addr} {n c : Nat} {x : Option Addr} {y z : Nat}
theorem WSt.on (h : WSt W w B b d P T R U now a n c x y z) (q : Below w.heap.size w u) : WSt W u B b d P T R U now a n c x y z :=
  ⟨h.st.on q, h.blk.on q, h.lB, h.nb, h.nd, h.wl.on q, h.wn, h.wo, h.ul.on q, h.un, h.uo, h.rok, h.uok⟩
/-- The program's side turned. -/
theorem WSt.prog {P' : Pb} {T' : Tb} (h : WSt W w B b d P T R U now a n c x y z) (g : Grown2 w u b d) (s : PSt W u b d P' T') : WSt W u B b d P' T' R U now a n c x y z :=
  ⟨s, h.blk.of (g.block B h.blk.lt h.nb h.nd), h.lB, h.nb, h.nd, h.wl.past2 g (fun q e => (h.wo q e).2), h.wn, h.wo, h.ul.past2 g (fun q e => (h.uo q e).2), h.un, h.uo, h.rok, h.uok⟩
theorem Off.fresh {a' : Option Addr} (h : Off B b d a) (hB : B < w.heap.size) (hb : b < w.heap.size) (hd : d < w.heap.size) (hs : ∀ q, a' = some q → a = some q ∨ w.heap.size ≤ q.block) : Off B b d a' := fun q e => by
  rcases hs q e with h1 | h1
  · exact h q h1
  · exact ⟨by omega, by omega, by omega⟩
/-- The reference's probe turned, and stored. -/
theorem WSt.storeR {R' : Pb} {a' : Option Addr} {n' c' : Nat} (h : WSt W w B b d P T R U now a n c x y z) (hr : PbOk R') (hl : WdsAt w a' (wdL R')) (hn : n' = (wdL R').length) (ho : Off B b d a') : WSt W (stWR w B R' a' n' c') B b d P T R' U now a' n' c' x y z := by
  have g := stWR_grown w B R' a' n' c'
  refine ⟨⟨h.st.pok, h.st.tok, h.st.pb.kept g (by have := h.nb; simp; omega), h.st.tab.kept g (by have := h.nd; simp; omega), h.st.below.grown g h.st.below.size (fun j e => by cases e; exact h.lB), h.st.lb, h.st.ld, h.st.ne⟩, h.blk.storeR R' a' n' c', h.lB, h.nb, h.nd, hl.skip g (fun q e => (ho q e).1), hn, ho, h.ul.skip g (fun q e => (h.uo q e).1), h.un, h.uo, hr, h.uok⟩
theorem WSt.storeU {U' : Tb} {x' : Option Addr} {y' z' : Nat} (h : WSt W w B b d P T R U now a n c x y z) (hu : TbOk U') (hl : MemsAt w x' (memsB U')) (hn : y' = (memsB U').length) (ho : Off B b d x') : WSt W (stWU w B (U'.s : Int) x' y' z') B b d P T R U' now a n c x' y' z' := by
  have g := stWU_grown w B (U'.s : Int) x' y' z'
  refine ⟨⟨h.st.pok, h.st.tok, h.st.pb.kept g (by have := h.nb; simp; omega), h.st.tab.kept g (by have := h.nd; simp; omega), h.st.below.grown g h.st.below.size (fun j e => by cases e; exact h.lB), h.st.lb, h.st.ld, h.st.ne⟩, h.blk.storeU _ x' y' z', h.lB, h.nb, h.nd, h.wl.skip g (fun q e => (h.wo q e).1), h.wn, h.wo, hl.skip g (fun q e => (ho q e).1), hn, ho, h.rok, hu⟩
theorem WSt.storeN (h : WSt W w B b d P T R U now a n c x y z) (t : Int) : WSt W (w.setCell ⟨B, 14, none⟩ (.int .i64 t)) B b d P T R U t a n c x y z := by
  have g := grownBy_setCell w B 14 (.int .i64 t)
  refine ⟨⟨h.st.pok, h.st.tok, h.st.pb.kept g (by have := h.nb; simp; omega), h.st.tab.kept g (by have := h.nd; simp; omega), h.st.below.grown g h.st.below.size (fun j e => by cases e; exact h.lB), h.st.lb, h.st.ld, h.st.ne⟩, h.blk.storeN t, h.lB, h.nb, h.nd, h.wl.skip g (fun q e => (h.wo q e).1), h.wn, h.wo, h.ul.skip g (fun q e => (h.uo q e).1), h.un, h.uo, h.rok, h.uok⟩
theorem WSt.lt (h : WSt W w B b d P T R U now a n c x y z) : B < w.heap.size ∧ b < w.heap.size ∧ d < w.heap.size := ⟨h.blk.lt, h.st.pb.lt, h.st.tab.lt⟩
end
/-- What stays while an act is done: the time, and the act's own block. -/
structure Stab (w : World) (B X : Nat) (now : Int) (q : Ax) : Prop where
  lt : X < w.heap.size
  t : w.cell? ⟨B, 14, none⟩ = some (.int .i64 now)
  a : AxRow w X 0 q
theorem AxRow.kept {w u : World} {X B : Nat} {q : Ax} (h : AxRow w X 0 q) (g : w.grownBy u (some B)) (hne : X ≠ B) : AxRow u X 0 q := by
  have hc : ∀ j v, w.cell? ⟨X, j, none⟩ = some v → u.cell? ⟨X, j, none⟩ = some v := fun j v hv => g.cell hv (by simpa using hne)
  exact ⟨hc _ _ h.c0, hc _ _ h.c1, hc _ _ h.c2, hc _ _ h.c3, hc _ _ h.c4, hc _ _ h.c5, hc _ _ h.c6⟩
theorem Stab.on {w u : World} {B X : Nat} {now : Int} {q : Ax} (h : Stab w B X now q) (hB : B < w.heap.size) (hb : Below w.heap.size w u) : Stab u B X now q :=
  ⟨Nat.lt_of_lt_of_le h.lt hb.size, (hb.cell (p := ⟨B, 14, none⟩) hB).trans h.t, h.a.below hb h.lt⟩
/-- The block of an act. -/
def AxB (w : World) (X : Nat) (q : Ax) : Prop := w.heap[X]? = some (.cells ⟨encAx q⟩ 45 (0, 0))
theorem AxB.row {w : World} {X : Nat} {q : Ax} (h : AxB w X q) : AxRow w X 0 q := ⟨cellE h, cellE h, cellE h, cellE h, cellE h, cellE h, cellE h⟩
theorem AxB.of {w u : World} {X : Nat} {q : Ax} (h : AxB w X q) (e : u.heap[X]? = w.heap[X]?) : AxB u X q := e.trans h

end Go.Proofs.Ytnoconampcemoaa
