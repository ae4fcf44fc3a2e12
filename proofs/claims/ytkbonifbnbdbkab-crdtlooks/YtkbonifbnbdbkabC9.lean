/-
  What Get of package crdt tells; one entry of a row.
-/
import Derived.Test.YtkbonifbnbdbkabC7
namespace Go.Proofs.Ytkbonifbnbdbkab
open Go.RowKit Go.Maps

/-- What Get tells of a key. -/
def getC (S : List Ent) (k : List UInt8) : Ent := match gotC S k with | some y => y | none => zeroE
set_option maxRecDepth 20000 in
set_option maxHeartbeats 4000000 in
theorem cGet_core (sb bm : Nat) (k : ByteArray) (y : Ent) (b : Bool) (w : World) (h : CmBlk w sb bm)
    (hl : ∀ u, Below w.heap.size w u → (Instr.lookup 52 (.map (some bm)) (.string k) true).run Try.prog u = .ok (.tuple #[.agg #[.string y.k, .int .i64 y.t, .int .u16 y.o, .string y.v, .int .i64 y.u], .bool b]) u) :
    Calls Try.prog 10 #[.pointer (some ⟨sb, 0, none⟩), .string k] w fun e w' => e = .returned (.tuple #[.agg #[.string y.k, .int .i64 y.t, .int .u16 y.o, .string y.v, .int .i64 y.u], .bool b]) ∧ Below w.heap.size w w' := by
  obtain ⟨ky, ty, oy, vy, uy⟩ := y
  dsimp only at hl ⊢
  have d1 := (Below.refl w.heap.size w).alloc (Nat.le_refl _) (.cells #[.string ⟨#[]⟩, .int .i64 0, .int .u16 0, .string ⟨#[]⟩, .int .i64 0] 36)
  have z1 := EBlk.new w zeroE
  have h1 := h.below d1 h.lt
  have m0 := h1.c0
  have hl1 := hl _ d1
  have d2 := (Below.refl _ (w.alloc (.cells #[.string ⟨#[]⟩, .int .i64 0, .int .u16 0, .string ⟨#[]⟩, .int .i64 0] 36))).alloc (Nat.le_refl _) (.cells #[.string ky, .int .i64 ty, .int .u16 oy, .string vy, .int .i64 uy] 36)
  have y2 := EBlk.new (w.alloc (.cells #[.string ⟨#[]⟩, .int .i64 0, .int .u16 0, .string ⟨#[]⟩, .int .i64 0] 36)) ⟨ky, ty, oy, vy, uy⟩
  have z2 : EBlk ((w.alloc (.cells #[.string ⟨#[]⟩, .int .i64 0, .int .u16 0, .string ⟨#[]⟩, .int .i64 0] 36)).alloc (.cells #[.string ky, .int .i64 ty, .int .u16 oy, .string vy, .int .i64 uy] 36)) w.heap.size zeroE := z1.on d2
  have q2 := d1.trans (d2.mono d1.size)
  have g0 := z2.f 0; have g1 := z2.f 1; have g2 := z2.f 2; have g3 := z2.f 3; have g4 := z2.f 4
  have e3 := (Below.refl _ (w.alloc (.cells #[.string ky, .int .i64 ty, .int .u16 oy, .string vy, .int .i64 uy] 36))).alloc (Nat.le_refl _) (.cells #[.string ky, .int .i64 ty, .int .u16 oy, .string vy, .int .i64 uy] 36)
  have s3 := (EBlk.new w ⟨ky, ty, oy, vy, uy⟩).on e3
  have f1 := (Below.refl w.heap.size w).alloc (Nat.le_refl _) (.cells #[.string ky, .int .i64 ty, .int .u16 oy, .string vy, .int .i64 uy] 36)
  have q3 := f1.trans (e3.mono f1.size)
  have r0 := s3.c0; have r1 := s3.c1; have r2 := s3.c2; have r3 := s3.c3; have r4 := s3.c4
  have x0 := z2.c0; have x1 := z2.c1; have x2 := z2.c2; have x3 := z2.c3; have x4 := z2.c4
  have s1 : (w.alloc (.cells #[.string ⟨#[]⟩, .int .i64 0, .int .u16 0, .string ⟨#[]⟩, .int .i64 0] 36)).heap.size = w.heap.size + 1 := by simp
  rw [s1] at y2
  have k0 := y2.c0; have k1 := y2.c1; have k2 := y2.c2; have k3 := y2.c3; have k4 := y2.c4
  have HQ := Lib.hid q3
  dsimp only [zeroE] at r0 r1 r2 r3 r4 x0 x1 x2 x3 x4 k0 k1 k2 k3 k4
  clear d1 z1 h1 hl d2 y2 z2 q2 s3 q3 s1 h e3 f1
  go_enter Try.func10, Try.ntmps10
  go_wp2
  exact bodyPost_ret (v := .tuple #[.agg #[.string ky, .int .i64 ty, .int .u16 oy, .string vy, .int .i64 uy], .bool b]) (by simp [results, Try.results10, go_sem, r0, r1, r2, r3, r4]) rfl ⟨rfl, HQ.out⟩
theorem cGet_any (sb bm : Nat) (S : List Ent) (k : ByteArray) (w : World) (h : CAt w sb bm S) (hk : k.size ≤ maxLen) :
    Calls Try.prog 10 #[.pointer (some ⟨sb, 0, none⟩), .string k] w fun e w' => e = .returned (.tuple #[.agg #[.string (getC S k.data.toList).k, .int .i64 (getC S k.data.toList).t, .int .u16 (getC S k.data.toList).o, .string (getC S k.data.toList).v, .int .i64 (getC S k.data.toList).u], .bool (gotC S k.data.toList).isSome]) ∧ Below w.heap.size w w' := by
  unfold getC
  cases hg : gotC S k.data.toList with
  | some y =>
    obtain ⟨hy, e⟩ := gotC_mem hg
    have ek : y.k = k := bytes_ext e
    refine cGet_core sb bm k y true w h.1 fun u q => ?_
    have := (h.on q).2.1.look_yes hy (key_fits (h.2.2.1 y hy)) true
    rw [ek] at this
    exact this
  | none => exact cGet_core sb bm k zeroE false w h.1 fun u q => (h.on q).2.1.look_no hk (gotC_none hg) true

/-- An entry's five cells from a place on. -/
def RowAt (w : World) (b p : Nat) (x : Ent) : Prop := w.cell? ⟨b, p, none⟩ = some (.string x.k) ∧ w.cell? ⟨b, p + 1, none⟩ = some (.int .i64 x.t) ∧ w.cell? ⟨b, p + 2, none⟩ = some (.int .u16 x.o) ∧ w.cell? ⟨b, p + 3, none⟩ = some (.string x.v) ∧ w.cell? ⟨b, p + 4, none⟩ = some (.int .i64 x.u)
theorem RowAt.on {w w' : World} {b p : Nat} {x : Ent} (h : RowAt w b p x) (hb : Below w.heap.size w w') : RowAt w' b p x := by
  have hlt := World.block_lt_of_cell? w _ h.1
  have e := hb.block b hlt
  unfold RowAt at h ⊢
  rw [World.cell?_of_block (a := ⟨b, p, none⟩) e, World.cell?_of_block (a := ⟨b, p + 1, none⟩) e, World.cell?_of_block (a := ⟨b, p + 2, none⟩) e, World.cell?_of_block (a := ⟨b, p + 3, none⟩) e, World.cell?_of_block (a := ⟨b, p + 4, none⟩) e]
  exact h
theorem EntsAt.row {w : World} {a : Option Addr} {l : List Ent} (h : EntsAt w a l) (k : Nat) (hk : k < l.length) : ∃ b o, a = some ⟨b, o, none⟩ ∧ RowAt w b (o + k * 5) l[k] := by
  obtain ⟨b, o, e, -, c⟩ := h.cells k hk
  exact ⟨b, o, e, c⟩
theorem geq_no {a b : ByteArray} (h : a.data.toList < b.data.toList) (w : World) : (binOp .geq 9 (.string a) (.string b)).run Try.prog w = .ok (.bool false) w := by
  have h1 : Op.bytesLess a.data.toList b.data.toList = true := by rw [lessE]; exact decide_eq_true h
  go_simp
  simp [ByteArray.toList_eq, lessE, h]

end Go.Proofs.Ytkbonifbnbdbkab
