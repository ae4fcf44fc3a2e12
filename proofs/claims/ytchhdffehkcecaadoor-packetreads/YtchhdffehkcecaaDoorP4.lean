/-
  What readMember and readList of package packet read.
-/
import Derived.Test.YtchhdffehkcecaaDoorP3
import Derived.Test.YtchhdffehkcecaaDoorERead
import Derived.Maps.AppendAt
namespace Go.Proofs.YtchhdffehkcecaaDoor
open Go Go.RowKit

theorem grown_set {w w1 : World} {rb X : Nat} (h : w.grownBy w1 (some rb)) (hX : w.heap.size ≤ X) (i : Nat) (v : Value) : w.grownBy (w1.setCell ⟨X, i, none⟩ v) (some rb) := h.andThen (grownBy_setCell w1 X i v) (fun j hj => by cases hj; exact Or.inl hX)
def zeroM : Mem := ⟨0, 0, 0⟩
theorem MBlk.set0 {w : World} {X : Nat} {n s i : Int} (h : MBlk w X ⟨n, s, i⟩) (z : Int) : MBlk (w.setCell ⟨X, 0, none⟩ (.int .u16 z)) X ⟨z, s, i⟩ := by
  unfold MBlk at h ⊢
  simp [World.setCell, Array.getElem?_modify, h]
theorem MBlk.set1 {w : World} {X : Nat} {n s i : Int} (h : MBlk w X ⟨n, s, i⟩) (z : Int) : MBlk (w.setCell ⟨X, 1, none⟩ (.int .u8 z)) X ⟨n, z, i⟩ := by
  unfold MBlk at h ⊢
  simp [World.setCell, Array.getElem?_modify, h]
theorem MBlk.set2 {w : World} {X : Nat} {n s i : Int} (h : MBlk w X ⟨n, s, i⟩) (z : Int) : MBlk (w.setCell ⟨X, 2, none⟩ (.int .i64 z)) X ⟨n, s, z⟩ := by
  unfold MBlk at h ⊢
  simp [World.setCell, Array.getElem?_modify, h]
theorem MBlk.other {w : World} {X : Nat} {m : Mem} (h : MBlk w X m) {p : Addr} (hp : X ≠ p.block) (v : Value) : MBlk (w.setCell p v) X m := (Below.heap_setCell w p v X hp).trans h
theorem MBlk.f {w : World} {X : Nat} {m : Mem} (h : MBlk w X m) (j : Nat) : w.frozen? ⟨X, j, none⟩ = false := by
  unfold MBlk at h
  simp [World.frozen?, h]
theorem MBlk.grown {w w' : World} {X : Nat} {m : Mem} {r : Option Nat} (h : MBlk w X m) (hg : w.grownBy w' r) (hr : some X ≠ r) : MBlk w' X m := (hg.block X h.lt hr).trans h
def stM (w : World) (X : Nat) (m : Mem) : World := ((w.setCell ⟨X, 0, none⟩ (.int .u16 m.n)).setCell ⟨X, 1, none⟩ (.int .u8 m.s)).setCell ⟨X, 2, none⟩ (.int .i64 m.i)
theorem MBlk.store {w : World} {X : Nat} {x : Mem} (h : MBlk w X x) (y : Mem) : MBlk (stM w X y) X y := by
  unfold MBlk at h ⊢
  unfold stM
  simp [World.setCell, Array.getElem?_modify, h]
/-- What a function that reads holds: a reader, and what it made. -/
structure RSt (w w' : World) (rb B : Nat) (a : Option Addr) (c : Nat) (l : List UInt8) (e : Int) : Prop where
  grown : w.grownBy w' (some rb)
  vars : VarsOk B w'
  rd : Rd w' rb a c l e
  lt : rb < w.heap.size
  hB : B ≤ rb
theorem RSt.size {w w' : World} {rb B : Nat} {a : Option Addr} {c : Nat} {l : List UInt8} {e : Int} (h : RSt w w' rb B a c l e) : w.heap.size ≤ w'.heap.size := h.grown.size
theorem RSt.start {w : World} {rb B : Nat} {a : Option Addr} {c : Nat} {l : List UInt8} {e : Int} (h : Rd w rb a c l e) (hB : B ≤ rb) (hv : VarsOk B w) : RSt w w rb B a c l e := ⟨grownBy_refl _ _, hv, h, h.blk.lt, hB⟩
theorem RSt.turn {w w1 w2 : World} {rb B : Nat} {a a' : Option Addr} {c c' : Nat} {l l' : List UInt8} {e e' : Int} (h : RSt w w1 rb B a c l e) (g : w1.grownBy w2 (some rb)) (r : Rd w2 rb a' c' l' e') : RSt w w2 rb B a' c' l' e' :=
  ⟨grownBy_trans h.grown g, h.vars.on (below_of_grownBy g h.hB (Nat.le_trans h.hB (Nat.le_of_lt (Nat.lt_of_lt_of_le h.lt h.size)))), r, h.lt, h.hB⟩
theorem RSt.below {w w1 w2 : World} {rb B : Nat} {a : Option Addr} {c : Nat} {l : List UInt8} {e : Int} (h : RSt w w1 rb B a c l e) (b : Below w1.heap.size w1 w2) : RSt w w2 rb B a c l e := h.turn (grownBy_of_below b) (h.rd.below b)
theorem RSt.set {w w1 : World} {rb B : Nat} {a : Option Addr} {c : Nat} {l : List UInt8} {e : Int} (h : RSt w w1 rb B a c l e) {X : Nat} (hX : w.heap.size ≤ X) (i : Nat) (v : Value) : RSt w (w1.setCell ⟨X, i, none⟩ v) rb B a c l e :=
  ⟨grown_set h.grown hX i v, h.vars.on ((Below.refl B w1).setCell (p := ⟨X, i, none⟩) (by have := h.lt; have := h.hB; show B ≤ X; omega) v), h.rd.mono (grownBy_setCell w1 X i v) (by have := h.lt; simp; omega) (fun p hp => by have := h.rd.away p hp; have := h.lt; simp; omega), h.lt, h.hB⟩
theorem RSt.row {w w1 w2 : World} {rb B : Nat} {a : Option Addr} {c : Nat} {l : List UInt8} {e : Int} (h : RSt w w1 rb B a c l e) {k : Option Nat} (g : w1.grownBy w2 k) (hk : ∀ j, k = some j → w.heap.size ≤ j) : RSt w w2 rb B a c l e :=
  ⟨h.grown.andThen g (fun j hj => Or.inl (hk j hj)), h.vars.on ⟨g.os, g.tape, g.output, g.size, fun j hj => g.block j (by have := h.lt; have := h.hB; have := h.size; omega) (fun e => by have := hk j e.symm; have := h.lt; have := h.hB; omega)⟩, h.rd.mono g (fun e => by have := hk rb e.symm; have := h.lt; omega) (fun p hp e => by have := hk _ e.symm; have := h.rd.away p hp; have := h.lt; omega), h.lt, h.hB⟩

/-- What readMember reads: the member, what is left, the error. -/
def rdMem (e : Int) (l : List UInt8) : Mem × List UInt8 × Int :=
  let b := byteE 108 e l
  let n := intE b.2 b.1
  let s := intE n.2.1 n.1
  let i := intE s.2.1 s.1
  let c := byteE 101 i.2.1 i.1
  (⟨IntKind.u16.wrap n.2.2, IntKind.u8.wrap s.2.2, i.2.2⟩, c.1, c.2)
def RdMPost (rb : Nat) (e0 : Int) (l : List UInt8) (w : World) (e : Ending) (w' : World) : Prop := e = .returned (.agg #[.int .u16 (rdMem e0 l).1.n, .int .u8 (rdMem e0 l).1.s, .int .i64 (rdMem e0 l).1.i]) ∧ (∃ a c, Rd w' rb a c (rdMem e0 l).2.1 (rdMem e0 l).2.2) ∧ w.grownBy w' (some rb)
set_option maxRecDepth 100000 in
set_option maxHeartbeats 4000000 in
theorem pReadM_any (rb : Nat) (a : Option Addr) (c : Nat) (l : List UInt8) (e : Int) (B : Nat) (w : World) (h : Rd w rb a c l e) (hB : B ≤ rb) (hv : VarsOk B w) :
    Calls Tryd.prog 55 #[.pointer (some ⟨rb, 0, none⟩)] w (RdMPost rb e l w) := by
  rcases h0 : byteE 108 e l with ⟨l0, e0⟩
  rcases h1 : intE e0 l0 with ⟨l1, e1, z1⟩
  rcases h2 : intE e1 l1 with ⟨l2, e2, z2⟩
  rcases h3 : intE e2 l2 with ⟨l3, e3, z3⟩
  rcases h4 : byteE 101 e3 l3 with ⟨l4, e4⟩
  have hres : rdMem e l = (⟨IntKind.u16.wrap z1, IntKind.u8.wrap z2, z3⟩, l4, e4) := by simp only [rdMem, h0, h1, h2, h3, h4]
  unfold RdMPost
  rw [hres]
  dsimp only
  have b1 := (Below.refl w.heap.size w).alloc (Nat.le_refl _) (.cells #[.int .u16 0, .int .u8 0, .int .i64 0] 45)
  have b2 := (Below.refl (w.alloc (.cells #[.int .u16 0, .int .u8 0, .int .i64 0] 45)).heap.size (w.alloc (.cells #[.int .u16 0, .int .u8 0, .int .i64 0] 45))).alloc (Nat.le_refl _) (.cells #[.int .u16 0, .int .u8 0, .int .i64 0] 45)
  have s0 : RSt w ((w.alloc (.cells #[.int .u16 0, .int .u8 0, .int .i64 0] 45)).alloc (.cells #[.int .u16 0, .int .u8 0, .int .i64 0] 45)) rb B a c l e := ((RSt.start h hB hv).below b1).below b2
  have m0 : MBlk ((w.alloc (.cells #[.int .u16 0, .int .u8 0, .int .i64 0] 45)).alloc (.cells #[.int .u16 0, .int .u8 0, .int .i64 0] 45)) w.heap.size zeroM := (MBlk.new w zeroM).on b2
  have m1 := MBlk.new (w.alloc (.cells #[.int .u16 0, .int .u8 0, .int .i64 0] 45)) zeroM
  rw [World.size_alloc] at m1
  have HH := Lib.hid (And.intro h1 (And.intro h2 (And.intro h3 h4)))
  have HT := Lib.hid (Open_full rb a c l e _ s0.rd h0)
  have HS : Hid (RSt w ((w.alloc (.cells #[.int .u16 0, .int .u8 0, .int .i64 0] 45)).alloc (.cells #[.int .u16 0, .int .u8 0, .int .i64 0] 45)) rb B a c l e ∧ MBlk ((w.alloc (.cells #[.int .u16 0, .int .u8 0, .int .i64 0] 45)).alloc (.cells #[.int .u16 0, .int .u8 0, .int .i64 0] 45)) w.heap.size zeroM ∧ MBlk ((w.alloc (.cells #[.int .u16 0, .int .u8 0, .int .i64 0] 45)).alloc (.cells #[.int .u16 0, .int .u8 0, .int .i64 0] 45)) (w.heap.size + 1) zeroM) := Lib.hid ⟨s0, m0, m1⟩
  have hn : w.heap.size ≠ rb ∧ w.heap.size + 1 ≠ rb := by have := s0.lt; omega
  have HNE := Lib.hid hn
  clear h0 h1 h2 h3 h4 hres b1 b2 s0 m0 m1 h hB hv hn
  obtain ⟨U1, hU1⟩ : ∃ z, IntKind.u16.wrap z1 = z := ⟨_, rfl⟩
  obtain ⟨U2, hU2⟩ : ∃ z, IntKind.u8.wrap z2 = z := ⟨_, rfl⟩
  rw [hU1, hU2]
  go_enter Tryd.func55, Tryd.ntmps55
  go_wp2_with (go_at_call 52; refine HT.out.mono ?_; rintro e w1 ⟨rfl, ⟨a1, c1, r1⟩, g1⟩; refine Hid.out ?_)
  refine Lib.hid ?_
  have s1 := HS.out.1.turn g1 r1
  have n1 := HS.out.2.1.grown g1 (by simpa using HNE.out.1)
  have p1 := HS.out.2.2.grown g1 (by simpa using HNE.out.2)
  have HT1 := Lib.hid (rInt_full rb a1 c1 l0 e0 B w1 r1 s1.hB s1.vars HH.out.1)
  have HS1 := Lib.hid (And.intro s1 (And.intro n1 p1))
  clear HS HT g1 r1 s1 n1 p1
  go_wp2_with (go_at_call 53; refine HT1.out.mono ?_; rintro e w2 ⟨rfl, ⟨a2, c2, r2⟩, g2⟩; refine Hid.out ?_)
  refine Lib.hid ?_
  have s2 := HS1.out.1.turn g2 r2
  have n2 := HS1.out.2.1.grown g2 (by simpa using HNE.out.1)
  have p2 := HS1.out.2.2.grown g2 (by simpa using HNE.out.2)
  have f2 := p2.f 0
  have q2 := p2.c0
  have lt2 := p2.lt
  have s2' := s2.set (X := w.heap.size + 1) (by omega) 0 (.int .u16 U1)
  have n2' := n2.other (p := ⟨w.heap.size + 1, 0, none⟩) (by show w.heap.size ≠ w.heap.size + 1; omega) (.int .u16 U1)
  have p2' := p2.set0 U1
  have HT2 := Lib.hid (rInt_full rb a2 c2 l1 e1 B _ s2'.rd s2'.hB s2'.vars HH.out.2.1)
  have HS2 := Lib.hid (And.intro s2' (And.intro n2' p2'))
  clear HS1 HT1 g2 r2 s2 n2 p2 s2' n2' p2'
  go_wp2_with (go_at_call 53; refine HT2.out.mono ?_; rintro e w3 ⟨rfl, ⟨a3, c3, r3⟩, g3⟩; refine Hid.out ?_)
  refine Lib.hid ?_
  have s3 := HS2.out.1.turn g3 r3
  have n3 := HS2.out.2.1.grown g3 (by simpa using HNE.out.1)
  have p3 := HS2.out.2.2.grown g3 (by simpa using HNE.out.2)
  have f3 := p3.f 1
  have q3 := p3.c1
  have lt3 := p3.lt
  have s3' := s3.set (X := w.heap.size + 1) (by omega) 1 (.int .u8 U2)
  have n3' := n3.other (p := ⟨w.heap.size + 1, 1, none⟩) (by show w.heap.size ≠ w.heap.size + 1; omega) (.int .u8 U2)
  have p3' := p3.set1 U2
  have HT3 := Lib.hid (rInt_full rb a3 c3 l2 e2 B _ s3'.rd s3'.hB s3'.vars HH.out.2.2.1)
  have HS3 := Lib.hid (And.intro s3' (And.intro n3' p3'))
  clear HS2 HT2 g3 r3 s3 n3 p3 s3' n3' p3'
  go_wp2_with (go_at_call 53; refine HT3.out.mono ?_; rintro e w4 ⟨rfl, ⟨a4, c4, r4⟩, g4⟩; refine Hid.out ?_)
  refine Lib.hid ?_
  have s4 := HS3.out.1.turn g4 r4
  have n4 := HS3.out.2.1.grown g4 (by simpa using HNE.out.1)
  have p4 := HS3.out.2.2.grown g4 (by simpa using HNE.out.2)
  have f4 := p4.f 2
  have q4 := p4.c2
  have lt4 := p4.lt
  have s4' := s4.set (X := w.heap.size + 1) (by omega) 2 (.int .i64 z3)
  have n4' := n4.other (p := ⟨w.heap.size + 1, 2, none⟩) (by show w.heap.size ≠ w.heap.size + 1; omega) (.int .i64 z3)
  have p4' := p4.set2 z3
  have HT4 := Lib.hid (Close_full rb a4 c4 l3 e3 _ s4'.rd HH.out.2.2.2)
  have HS4 := Lib.hid (And.intro s4' (And.intro n4' p4'))
  clear HS3 HT3 g4 r4 s4 n4 p4 s4' n4' p4'
  go_wp2_with (go_at_call 70; refine HT4.out.mono ?_; rintro e w5 ⟨rfl, ⟨a5, c5, r5⟩, g5⟩; refine Hid.out ?_)
  refine Lib.hid ?_
  have s5 := HS4.out.1.turn g5 r5
  have n5 := HS4.out.2.1.grown g5 (by simpa using HNE.out.1)
  have p5 := HS4.out.2.2.grown g5 (by simpa using HNE.out.2)
  clear f2 q2 lt2 f3 q3 lt3 f4 q4 lt4
  have q0 := p5.c0; have q1 := p5.c1; have q2 := p5.c2
  have z0 := n5.c0; have z1' := n5.c1; have z2' := n5.c2; have f0 := n5.f 0; have f1 := n5.f 1; have f2 := n5.f 2
  dsimp only [zeroM] at z0 z1' z2' q0 q1 q2
  have HF := Lib.hid (n5.store ⟨U1, U2, z3⟩)
  have s6 := ((s5.set (X := w.heap.size) (Nat.le_refl _) 0 (.int .u16 U1)).set (X := w.heap.size) (Nat.le_refl _) 1 (.int .u8 U2)).set (X := w.heap.size) (Nat.le_refl _) 2 (.int .i64 z3)
  have HQ := Lib.hid s6
  clear HS4 HT4 g5 r5 s5 n5 p5 s6 HH HNE hU1 hU2
  go_wp2
  refine bodyPost_ret (v := .agg #[.int .u16 U1, .int .u8 U2, .int .i64 z3]) (by have b5 := HF.out; have t0 := b5.c0; have t1 := b5.c1; have t2 := b5.c2; unfold stM at t0 t1 t2; simp [results, Tryd.results55, go_sem, t0, t1, t2]) rfl ?_
  exact ⟨rfl, ⟨a5, c5, HQ.out.rd⟩, HQ.out.grown⟩

end Go.Proofs.YtchhdffehkcecaaDoor
