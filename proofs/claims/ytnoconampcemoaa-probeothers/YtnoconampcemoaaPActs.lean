/-
  Acts of layer 16: lists of them that lie somewhere; lists of numbers of four bytes.
-/
import Derived.Test.YtnoconampcemoaaPMem
namespace Go.Proofs.Ytnoconampcemoaa
open Go Go.RowKit

/-- A list of numbers of four bytes that lies somewhere. -/
def U32At (w : World) (a : Option Addr) (l : List Int) : Prop := 0 < l.length → ∃ b o, a = some ⟨b, o, none⟩ ∧ b < w.heap.size ∧ ∀ i (hi : i < l.length), w.cell? ⟨b, o + i, none⟩ = some (.int .u32 l[i]) ∧ 0 ≤ l[i] ∧ l[i] ≤ 4294967295
/-- An act. -/
structure Ax where
  k : Nat
  y : Nat
  d : Nat
  m : Mem
  s : Int
def encAx (a : Ax) : List Value := [.int .u8 (a.k : Int), .int .u8 (a.y : Int), .int .u32 (a.d : Int), .int .u16 a.m.n, .int .u8 a.m.s, .int .i64 a.m.i, .int .i64 a.s]
structure AxFit (a : Ax) : Prop where
  k : a.k < 256
  y : a.y < 256
  d : a.d < 4294967296
  n : 0 ≤ a.m.n ∧ a.m.n ≤ 65535
  s : 0 ≤ a.m.s ∧ a.m.s ≤ 255
def AxsAt (w : World) (a : Option Addr) (l : List Ax) : Prop := 0 < l.length → ∃ b o, a = some ⟨b, o, none⟩ ∧ b < w.heap.size ∧ ∀ i (hi : i < l.length), ∀ j v, (encAx l[i])[j]? = some v → w.cell? ⟨b, o + i * 7 + j, none⟩ = some v
/-- The cells of one act. -/
structure AxRow (w : World) (b p : Nat) (a : Ax) : Prop where
  c0 : w.cell? ⟨b, p, none⟩ = some (.int .u8 (a.k : Int))
  c1 : w.cell? ⟨b, p + 1, none⟩ = some (.int .u8 (a.y : Int))
  c2 : w.cell? ⟨b, p + 2, none⟩ = some (.int .u32 (a.d : Int))
  c3 : w.cell? ⟨b, p + 3, none⟩ = some (.int .u16 a.m.n)
  c4 : w.cell? ⟨b, p + 4, none⟩ = some (.int .u8 a.m.s)
  c5 : w.cell? ⟨b, p + 5, none⟩ = some (.int .i64 a.m.i)
  c6 : w.cell? ⟨b, p + 6, none⟩ = some (.int .i64 a.s)
theorem AxsAt.row {w : World} {a : Option Addr} {l : List Ax} (h : AxsAt w a l) (k : Nat) (hk : k < l.length) : ∃ b o, a = some ⟨b, o, none⟩ ∧ b < w.heap.size ∧ AxRow w b (o + k * 7) l[k] := by
  obtain ⟨b, o, e, hlt, hc⟩ := h (by omega)
  exact ⟨b, o, e, hlt, hc k hk 0 _ rfl, hc k hk 1 _ rfl, hc k hk 2 _ rfl, hc k hk 3 _ rfl, hc k hk 4 _ rfl, hc k hk 5 _ rfl, hc k hk 6 _ rfl⟩
theorem AxRow.below {w u : World} {b p N : Nat} {a : Ax} (h : AxRow w b p a) (q : Below N w u) (hb : b < N) : AxRow u b p a :=
  ⟨(q.cell (p := ⟨b, p, none⟩) hb).trans h.c0, (q.cell (p := ⟨b, p + 1, none⟩) hb).trans h.c1, (q.cell (p := ⟨b, p + 2, none⟩) hb).trans h.c2, (q.cell (p := ⟨b, p + 3, none⟩) hb).trans h.c3,
    (q.cell (p := ⟨b, p + 4, none⟩) hb).trans h.c4, (q.cell (p := ⟨b, p + 5, none⟩) hb).trans h.c5, (q.cell (p := ⟨b, p + 6, none⟩) hb).trans h.c6⟩

end Go.Proofs.Ytnoconampcemoaa
