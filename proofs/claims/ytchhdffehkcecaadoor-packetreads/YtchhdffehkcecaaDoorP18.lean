/-
  What Read of the reference of layer 9 tells. The reference's Read: what it reads of the bytes of a packet, and what it holds. What the reference's Read holds of memory.
-/
import Derived.Test.YtchhdffehkcecaaDoorP16
import Derived.Test.YtchhdffehkcecaaDoorFull
import Derived.Test.YtchhdffehkcecaaDoorP13
namespace Go.Proofs.YtchhdffehkcecaaDoor
open Go Go.RowKit

/-- What is left of the reference's reader: bytes that lay there ahead of the call. -/
structure XW (V : World) (a : Option Addr) (c : Nat) (l : List UInt8) (e : Int) : Prop where
  src : SrcAt V (.slice a l.length c) l
  cap : l.length ≤ c
  lim : l.length ≤ 1000000
  err : e ≠ 0 → l = []
  low : 0 < l.length → ∀ q, a = some q → q.block < V.heap.size
theorem XW.now {V w : World} {a : Option Addr} {c : Nat} {l : List UInt8} {e : Int} (h : XW V a c l e) (hw : Below V.heap.size V w) : XS w a c l e := ⟨h.src.below hw (Nat.le_refl _), h.cap, by have := h.lim; omega, h.err⟩
theorem srcW_back {V w : World} {a : Option Addr} {n c : Nat} {l : List UInt8} (h : SrcAt w (.slice a n c) l) (hb : Below V.heap.size V w) (hlt : 0 < l.length → ∀ q, a = some q → q.block < V.heap.size) : SrcAt V (.slice a n c) l := by
  rcases h with h | ⟨q, c', e, hc⟩
  · exact .inl h
  · refine .inr ⟨q, c', e, fun i hi => ?_⟩
    have hq : q.block < V.heap.size := hlt (by omega) q (by simp only [Value.slice.injEq] at e; exact e.1)
    have h1 := hc i hi
    rw [hb.cell (p := q.add i) (by rw [add_block]; exact hq)] at h1
    exact h1
theorem XW.next {V w w' : World} {a a' : Option Addr} {c c' : Nat} {l l1 : List UInt8} {e e1 : Int} (h : XW V a c l e) (hw : Below V.heap.size V w) (hle : l1.length ≤ l.length) (he : e1 ≠ 0 → l1 = []) (hs : SrcAt w' (.slice a' l1.length c') l1) (hc : l1.length ≤ c') (hl : ∀ q, a' = some q → ∃ q0, a = some q0 ∧ q.block = q0.block) (hb : Below w.heap.size w w') : XW V a' c' l1 e1 := by
  have hlow : 0 < l1.length → ∀ q, a' = some q → q.block < V.heap.size := fun h0 q hq => by
    obtain ⟨q0, h1, h2⟩ := hl q hq
    rw [h2]
    exact h.low (by omega) q0 h1
  exact ⟨srcW_back hs (hw.trans (hb.mono hw.size)) hlow, hc, by have := h.lim; omega, he, hlow⟩
theorem refByteW {V w : World} {a : Option Addr} {c : Nat} {l l1 : List UInt8} {e e1 : Int} (ch : UInt8) (h : XW V a c l e) (hw : Below V.heap.size V w) (hT : byteE ch e l = (l1, e1)) :
    Calls Tryd.prog 33 #[.agg #[.slice a l.length c, .int .i64 e], .int .u8 ch.toNat] w fun r w' => ∃ a' c', r = .returned (.agg #[.slice a' l1.length c', .int .i64 e1]) ∧ XW V a' c' l1 e1 ∧ Below w.heap.size w w' :=
  (refByte_full a c l ch e w (h.now hw) hT).mono fun _ _ ⟨⟨a', c', hr, hs, hc, hl⟩, hb⟩ => ⟨a', c', hr, h.next hw (byteE_err hT).2 (byteE_err hT).1 hs hc hl hb, hb⟩
theorem refIntW {V w : World} {a : Option Addr} {c : Nat} {l l1 : List UInt8} {e e1 n : Int} (h : XW V a c l e) (hw : Below V.heap.size V w) (hT : intE e l = (l1, e1, n)) :
    Calls Tryd.prog 34 #[.agg #[.slice a l.length c, .int .i64 e]] w fun r w' => ∃ a' c', r = .returned (.tuple #[.agg #[.slice a' l1.length c', .int .i64 e1], .int .i64 n]) ∧ XW V a' c' l1 e1 ∧ Below w.heap.size w w' :=
  (refInt_full a c l e w (h.now hw) hT).mono fun _ _ ⟨⟨a', c', hr, hs, hc, hl⟩, hb⟩ => ⟨a', c', hr, h.next hw (intE_err hT).2 (intE_err hT).1 hs hc hl hb, hb⟩
theorem refTextW {V w : World} {a : Option Addr} {c : Nat} {l l1 s : List UInt8} {e e1 : Int} (most : Int) (h : XW V a c l e) (hw : Below V.heap.size V w) (hT : textE most e l = (l1, e1, s)) :
    Calls Tryd.prog 62 #[.agg #[.slice a l.length c, .int .i64 e], .int .i64 most] w fun r w' => ∃ a' c', r = .returned (.tuple #[.agg #[.slice a' l1.length c', .int .i64 e1], .string ⟨s.toArray⟩]) ∧ XW V a' c' l1 e1 ∧ Below w.heap.size w w' :=
  (refText_full a c l e most w (h.now hw) hT).mono fun _ _ ⟨⟨a', c', hr, hs, hc, hl⟩, hb⟩ => ⟨a', c', hr, h.next hw (textE_err hT).2 (textE_err hT).1 hs hc hl hb, hb⟩
theorem refMoreW {V w : World} {a : Option Addr} {c : Nat} {l : List UInt8} {e : Int} (h : XW V a c l e) (hw : Below V.heap.size V w) :
    Calls Tryd.prog 35 #[.agg #[.slice a l.length c, .int .i64 e]] w fun r w' => r = .returned (.bool (moreB l)) ∧ Below w.heap.size w w' := refMore_any a c l e w (h.now hw).src h.err

/-- What Read of layer 9's reference holds: the reader, the answers, the entry. -/
structure ErSt (V W w : World) (a : Option Addr) (c : Nat) (l : List UInt8) (e : Int) (x : Ent) : Prop where
  rd : Two w W.heap.size 65 (.slice a l.length c) (.int .i64 e)
  z0 : Two w (W.heap.size + 1) 65 (.slice none 0 0) (.int .i64 0)
  z1 : EBlk w (W.heap.size + 2) zeroE
  en : EBlk w (W.heap.size + 3) x
  xs : XW V a c l e
  low : Below W.heap.size W w
theorem ErSt.on {V W w w' : World} {a : Option Addr} {c : Nat} {l : List UInt8} {e : Int} {x : Ent} (h : ErSt V W w a c l e x) (hb : Below w.heap.size w w') : ErSt V W w' a c l e x :=
  ⟨h.rd.below hb h.rd.lt, h.z0.below hb h.z0.lt, h.z1.on hb, h.en.on hb, h.xs, h.low.trans (hb.mono h.low.size)⟩
theorem ErSt.put {V W w : World} {a a1 : Option Addr} {c c1 : Nat} {l l1 : List UInt8} {e e1 : Int} {x : Ent} (h : ErSt V W w a c l e x) (h1 : XW V a1 c1 l1 e1) :
    ErSt V W ((w.setCell ⟨W.heap.size, 0, none⟩ (.slice a1 l1.length c1)).setCell ⟨W.heap.size, 1, none⟩ (.int .i64 e1)) a1 c1 l1 e1 x :=
  ⟨(h.rd.set0 _).set1 _, (h.z0.far ⟨W.heap.size, 0, none⟩ (by show W.heap.size + 1 ≠ W.heap.size; omega) _).far ⟨W.heap.size, 1, none⟩ (by show W.heap.size + 1 ≠ W.heap.size; omega) _,
    (h.z1.other (p := ⟨W.heap.size, 0, none⟩) (by show W.heap.size + 2 ≠ W.heap.size; omega) _).other (p := ⟨W.heap.size, 1, none⟩) (by show W.heap.size + 2 ≠ W.heap.size; omega) _,
    (h.en.other (p := ⟨W.heap.size, 0, none⟩) (by show W.heap.size + 3 ≠ W.heap.size; omega) _).other (p := ⟨W.heap.size, 1, none⟩) (by show W.heap.size + 3 ≠ W.heap.size; omega) _, h1,
    (h.low.setCell (p := ⟨W.heap.size, 0, none⟩) (Nat.le_refl _) _).setCell (p := ⟨W.heap.size, 1, none⟩) (Nat.le_refl _) _⟩
theorem ErSt.ent {V W w : World} {a : Option Addr} {c : Nat} {l : List UInt8} {e : Int} {x y : Ent} (h : ErSt V W w a c l e x) (j : Nat) (v : Value) (hy : EBlk (w.setCell ⟨W.heap.size + 3, j, none⟩ v) (W.heap.size + 3) y) : ErSt V W (w.setCell ⟨W.heap.size + 3, j, none⟩ v) a c l e y :=
  ⟨h.rd.far ⟨W.heap.size + 3, j, none⟩ (by show W.heap.size ≠ W.heap.size + 3; omega) _, h.z0.far ⟨W.heap.size + 3, j, none⟩ (by show W.heap.size + 1 ≠ W.heap.size + 3; omega) _, h.z1.other (p := ⟨W.heap.size + 3, j, none⟩) (by show W.heap.size + 2 ≠ W.heap.size + 3; omega) _, hy, h.xs, h.low.setCell (p := ⟨W.heap.size + 3, j, none⟩) (by show W.heap.size ≤ W.heap.size + 3; omega) _⟩
theorem EBlk.put {w : World} {B : Nat} {k : ByteArray} {t o : Int} {v : ByteArray} {u : Int} (h : EBlk w B ⟨k, t, o, v, u⟩) (y : ByteArray) : EBlk (w.setCell ⟨B, 0, none⟩ (.string y)) B ⟨y, t, o, v, u⟩ := by
  unfold EBlk at h ⊢
  simp [World.setCell, Array.getElem?_modify, h]
theorem EBlk.put3 {w : World} {B : Nat} {k : ByteArray} {t o : Int} {v : ByteArray} {u : Int} (h : EBlk w B ⟨k, t, o, v, u⟩) (y : ByteArray) : EBlk (w.setCell ⟨B, 3, none⟩ (.string y)) B ⟨k, t, o, y, u⟩ := by
  unfold EBlk at h ⊢
  simp [World.setCell, Array.getElem?_modify, h]
theorem EBlk.put1 {w : World} {B : Nat} {k : ByteArray} {t o : Int} {v : ByteArray} {u : Int} (h : EBlk w B ⟨k, t, o, v, u⟩) (y : Int) : EBlk (w.setCell ⟨B, 1, none⟩ (.int .i64 y)) B ⟨k, y, o, v, u⟩ := by
  unfold EBlk at h ⊢
  simp [World.setCell, Array.getElem?_modify, h]
theorem EBlk.put2 {w : World} {B : Nat} {k : ByteArray} {t o : Int} {v : ByteArray} {u : Int} (h : EBlk w B ⟨k, t, o, v, u⟩) (y : Int) : EBlk (w.setCell ⟨B, 2, none⟩ (.int .u16 y)) B ⟨k, t, y, v, u⟩ := by
  unfold EBlk at h ⊢
  simp [World.setCell, Array.getElem?_modify, h]
theorem EBlk.put4 {w : World} {B : Nat} {k : ByteArray} {t o : Int} {v : ByteArray} {u : Int} (h : EBlk w B ⟨k, t, o, v, u⟩) (y : Int) : EBlk (w.setCell ⟨B, 4, none⟩ (.int .i64 y)) B ⟨k, t, o, v, y⟩ := by
  unfold EBlk at h ⊢
  simp [World.setCell, Array.getElem?_modify, h]
/-- The answers stored. -/
def erEnd (w : World) (N : Nat) (v e : Value) (y : Ent) : World := stE ((w.setCell ⟨N + 1, 0, none⟩ v).setCell ⟨N + 1, 1, none⟩ e) (N + 2) y
theorem Two.stE {w : World} {b B : Nat} {t : TypeId} {x y : Value} (h : Two w b t x y) (hb : b ≠ B) (z : Ent) : Two (stE w B z) b t x y :=
  ((((h.far ⟨B, 0, none⟩ hb _).far ⟨B, 1, none⟩ hb _).far ⟨B, 2, none⟩ hb _).far ⟨B, 3, none⟩ hb _).far ⟨B, 4, none⟩ hb _
theorem EBlk.stE {w : World} {b B : Nat} {x : Ent} (h : EBlk w b x) (hb : b ≠ B) (z : Ent) : EBlk (stE w B z) b x :=
  ((((h.other (p := ⟨B, 0, none⟩) hb _).other (p := ⟨B, 1, none⟩) hb _).other (p := ⟨B, 2, none⟩) hb _).other (p := ⟨B, 3, none⟩) hb _).other (p := ⟨B, 4, none⟩) hb _
theorem Two.drewn {w : World} {b : Nat} {t : TypeId} {x y : Value} (h : Two w b t x y) : Two w.drew b t x y := h
theorem EBlk.drewn {w : World} {b : Nat} {x : Ent} (h : EBlk w b x) : EBlk w.drew b x := h
theorem ErSt.fin2 {V W w : World} {a : Option Addr} {c : Nat} {l : List UInt8} {e : Int} {x : Ent} (h : ErSt V W w a c l e x) (y : Ent) :
    Two (erEnd w W.heap.size (.slice a l.length c) (.int .i64 e) y) W.heap.size 65 (.slice a l.length c) (.int .i64 e) ∧ EBlk (erEnd w W.heap.size (.slice a l.length c) (.int .i64 e) y) (W.heap.size + 3) x :=
  ⟨Two.stE ((h.rd.far ⟨W.heap.size + 1, 0, none⟩ (by show W.heap.size ≠ W.heap.size + 1; omega) _).far ⟨W.heap.size + 1, 1, none⟩ (by show W.heap.size ≠ W.heap.size + 1; omega) _) (by omega) y,
    EBlk.stE ((h.en.other (p := ⟨W.heap.size + 1, 0, none⟩) (by show W.heap.size + 3 ≠ W.heap.size + 1; omega) _).other (p := ⟨W.heap.size + 1, 1, none⟩) (by show W.heap.size + 3 ≠ W.heap.size + 1; omega) _) (by omega) y⟩
theorem ErSt.fin {V W w : World} {a : Option Addr} {c : Nat} {l : List UInt8} {e : Int} {x : Ent} (h : ErSt V W w a c l e x) (y : Ent) :
    Two (erEnd w W.heap.size (.slice a l.length c) (.int .i64 e) y) (W.heap.size + 1) 65 (.slice a l.length c) (.int .i64 e) ∧ EBlk (erEnd w W.heap.size (.slice a l.length c) (.int .i64 e) y) (W.heap.size + 2) y ∧ Below W.heap.size W (erEnd w W.heap.size (.slice a l.length c) (.int .i64 e) y) := by
  refine ⟨Two.stE ((h.z0.set0 _).set1 _) (by omega) y, EBlk.store ((h.z1.other (p := ⟨W.heap.size + 1, 0, none⟩) (by show W.heap.size + 2 ≠ W.heap.size + 1; omega) _).other (p := ⟨W.heap.size + 1, 1, none⟩) (by show W.heap.size + 2 ≠ W.heap.size + 1; omega) _) y, stE_below ((h.low.setCell (p := ⟨W.heap.size + 1, 0, none⟩) (by show W.heap.size ≤ W.heap.size + 1; omega) _).setCell (p := ⟨W.heap.size + 1, 1, none⟩) (by show W.heap.size ≤ W.heap.size + 1; omega) _) (by omega) y⟩
/-- What the call tells. -/
def ErPost (V W : World) (l6 : List UInt8) (e6 : Int) (y : Ent) (r : Ending) (w' : World) : Prop := ∃ a' c', r = .returned (.tuple #[.agg #[.slice a' l6.length c', .int .i64 e6], .agg #[.string y.k, .int .i64 y.t, .int .u16 y.o, .string y.v, .int .i64 y.u]]) ∧ XW V a' c' l6 e6 ∧ Below W.heap.size W w'

set_option maxRecDepth 100000 in
set_option maxHeartbeats 8000000 in
theorem eRefRead_err {V W : World} {a : Option Addr} {c : Nat} {l l0 l1 l2 l3 l4 l5 l6 s1 s4 : List UInt8} {e e0 e1 e2 e3 e4 e5 e6 t o u : Int} (hx : XW V a c l e) (hw : Below V.heap.size V W) (h0 : byteE 108 e l = (l0, e0)) (h1 : textE 1024 e0 l0 = (l1, e1, s1)) (h2 : intE e1 l1 = (l2, e2, t)) (h3 : intE e2 l2 = (l3, e3, o)) (h4 : textE 8192 e3 l3 = (l4, e4, s4)) (h5 : intE e4 l4 = (l5, e5, u)) (h6 : byteE 101 e5 l5 = (l6, e6)) (hE : e6 ≠ 0) :
    Calls Tryd.prog 36 #[.agg #[.slice a l.length c, .int .i64 e]] W (ErPost V W l6 e6 zeroE) := by
  have HV : Hid (∀ {w : World}, Below W.heap.size W w → Below V.heap.size V w) := Lib.hid (fun hb => hw.trans (hb.mono hw.size))
  have d1 := (Below.refl W.heap.size W).alloc (Nat.le_refl _) (.cells #[.slice a l.length c, .int .i64 e] 65)
  have d2 := d1.alloc (by simp) (.cells #[.slice none 0 0, .int .i64 0] 65)
  have d3 := d2.alloc (by simp; omega) (.cells #[.string ⟨#[]⟩, .int .i64 0, .int .u16 0, .string ⟨#[]⟩, .int .i64 0] 48)
  have d4 := d3.alloc (by simp; omega) (.cells #[.string ⟨#[]⟩, .int .i64 0, .int .u16 0, .string ⟨#[]⟩, .int .i64 0] 48)
  have f2 := (Below.refl (W.alloc (.cells #[.slice a l.length c, .int .i64 e] 65)).heap.size (W.alloc (.cells #[.slice a l.length c, .int .i64 e] 65))).alloc (Nat.le_refl _) (.cells #[.slice none 0 0, .int .i64 0] 65)
  have f3 := (Below.refl ((W.alloc (.cells #[.slice a l.length c, .int .i64 e] 65)).alloc (.cells #[.slice none 0 0, .int .i64 0] 65)).heap.size ((W.alloc (.cells #[.slice a l.length c, .int .i64 e] 65)).alloc (.cells #[.slice none 0 0, .int .i64 0] 65))).alloc (Nat.le_refl _) (.cells #[.string ⟨#[]⟩, .int .i64 0, .int .u16 0, .string ⟨#[]⟩, .int .i64 0] 48)
  have f4 := (Below.refl (((W.alloc (.cells #[.slice a l.length c, .int .i64 e] 65)).alloc (.cells #[.slice none 0 0, .int .i64 0] 65)).alloc (.cells #[.string ⟨#[]⟩, .int .i64 0, .int .u16 0, .string ⟨#[]⟩, .int .i64 0] 48)).heap.size (((W.alloc (.cells #[.slice a l.length c, .int .i64 e] 65)).alloc (.cells #[.slice none 0 0, .int .i64 0] 65)).alloc (.cells #[.string ⟨#[]⟩, .int .i64 0, .int .u16 0, .string ⟨#[]⟩, .int .i64 0] 48))).alloc (Nat.le_refl _) (.cells #[.string ⟨#[]⟩, .int .i64 0, .int .u16 0, .string ⟨#[]⟩, .int .i64 0] 48)
  have b1 := Two.new W 65 (.slice a l.length c) (.int .i64 e)
  have b2 := Two.new (W.alloc (.cells #[.slice a l.length c, .int .i64 e] 65)) 65 (.slice none 0 0) (.int .i64 0)
  have b3 := EBlk.new ((W.alloc (.cells #[.slice a l.length c, .int .i64 e] 65)).alloc (.cells #[.slice none 0 0, .int .i64 0] 65)) zeroE
  have b4 := EBlk.new (((W.alloc (.cells #[.slice a l.length c, .int .i64 e] 65)).alloc (.cells #[.slice none 0 0, .int .i64 0] 65)).alloc (.cells #[.string ⟨#[]⟩, .int .i64 0, .int .u16 0, .string ⟨#[]⟩, .int .i64 0] 48)) zeroE
  rw [World.size_alloc] at b2
  rw [World.size_alloc, World.size_alloc] at b3
  rw [World.size_alloc, World.size_alloc, World.size_alloc] at b4
  have s0 : ErSt V W ((((W.alloc (.cells #[.slice a l.length c, .int .i64 e] 65)).alloc (.cells #[.slice none 0 0, .int .i64 0] 65)).alloc (.cells #[.string ⟨#[]⟩, .int .i64 0, .int .u16 0, .string ⟨#[]⟩, .int .i64 0] 48)).alloc (.cells #[.string ⟨#[]⟩, .int .i64 0, .int .u16 0, .string ⟨#[]⟩, .int .i64 0] 48)) a c l e zeroE :=
    ⟨((b1.below f2 (by simp)).below f3 (by simp; omega)).below f4 (by simp; omega), (b2.below f3 (by simp)).below f4 (by simp), b3.on f4, b4, hx, d4⟩
  have HS0 := Lib.hid s0
  have HC1 := Lib.hid (refByteW 108 hx (HV.out s0.low) h0)
  have r0 := s0.rd.c0; have r1 := s0.rd.c1
  have hE1 : (e6 != 0) = true := by simpa using hE
  have HH := Lib.hid (And.intro h1 (And.intro h2 (And.intro h3 (And.intro h4 (And.intro h5 h6)))))
  clear hx hw d1 d2 d3 d4 f2 f3 f4 b1 b2 b3 b4 s0 h0 h1 h2 h3 h4 h5 h6 hE
  unfold ErPost
  go_enter Tryd.func36, Tryd.ntmps36
  go_wp2_with (go_at_call 33; refine HC1.out.mono ?_; rintro r w1 ⟨a1, c1, rfl, x1, q1⟩; refine Hid.out ?_)
  refine Lib.hid ?_
  have s1' := HS0.out.on q1
  clear r0 r1 HC1 HS0 q1
  have z0 := s1'.rd.c0; have z1 := s1'.rd.c1; have z2 := s1'.rd.fr
  have hrl := s1'.rd.lt
  have p1 := s1'.put x1
  have HS1 := Lib.hid p1
  have r0 := p1.rd.c0; have r1 := p1.rd.c1
  have HC2 := Lib.hid (refTextW 1024 p1.xs (HV.out p1.low) HH.out.1)
  clear s1' x1 p1
  go_wp2_with (go_at_call 62; refine HC2.out.mono ?_; rintro r w2 ⟨a2, c2, rfl, x2, q2⟩; refine Hid.out ?_)
  refine Lib.hid ?_
  have s2' := HS1.out.on q2
  clear r0 r1 z0 z1 z2 hrl HC2 HS1 q2
  have z0 := s2'.rd.c0; have z1 := s2'.rd.c1; have z2 := s2'.rd.fr
  have hrl := s2'.rd.lt; have hnl := s2'.en.lt; have v0 := s2'.en.c0; have v1 := s2'.en.f 0
  have p2 := (s2'.put x2)
  have p3 := p2.ent 0 (.string ⟨s1.toArray⟩) (p2.en.put ⟨s1.toArray⟩)
  have HS3 := Lib.hid p3
  have r0 := p3.rd.c0; have r1 := p3.rd.c1
  have HC3 := Lib.hid (refIntW p3.xs (HV.out p3.low) HH.out.2.1)
  clear s2' x2 p2 p3
  go_wp2_with (go_at_call 34; refine HC3.out.mono ?_; rintro r w4 ⟨a4, c4, rfl, x4, q4⟩; refine Hid.out ?_)
  refine Lib.hid ?_
  have s4' := HS3.out.on q4
  clear r0 r1 z0 z1 z2 hrl hnl v0 v1 HC3 HS3 q4
  have z0 := s4'.rd.c0; have z1 := s4'.rd.c1; have z2 := s4'.rd.fr
  have hrl := s4'.rd.lt
  have p4 := s4'.put x4
  have HS4 := Lib.hid p4
  have r0 := p4.rd.c0; have r1 := p4.rd.c1
  have HC4 := Lib.hid (refIntW p4.xs (HV.out p4.low) HH.out.2.2.1)
  clear s4' x4 p4
  go_wp2_with (go_at_call 34; refine HC4.out.mono ?_; rintro r w5 ⟨a5, c5, rfl, x5, q5⟩; refine Hid.out ?_)
  refine Lib.hid ?_
  have s5' := HS4.out.on q5
  clear r0 r1 z0 z1 z2 hrl HC4 HS4 q5
  have z0 := s5'.rd.c0; have z1 := s5'.rd.c1; have z2 := s5'.rd.fr
  have hrl := s5'.rd.lt
  have p5 := s5'.put x5
  have HS5 := Lib.hid p5
  have r0 := p5.rd.c0; have r1 := p5.rd.c1
  have HC5 := Lib.hid (refTextW 8192 p5.xs (HV.out p5.low) HH.out.2.2.2.1)
  clear s5' x5 p5
  go_wp2_with (go_at_call 62; refine HC5.out.mono ?_; rintro r w6 ⟨a6, c6, rfl, x6, q6⟩; refine Hid.out ?_)
  refine Lib.hid ?_
  have s6' := HS5.out.on q6
  clear r0 r1 z0 z1 z2 hrl HC5 HS5 q6
  have z0 := s6'.rd.c0; have z1 := s6'.rd.c1; have z2 := s6'.rd.fr
  have hrl := s6'.rd.lt; have hnl := s6'.en.lt; have v0 := s6'.en.c3; have v1 := s6'.en.f 3
  have p6 := (s6'.put x6)
  have p7 := p6.ent 3 (.string ⟨s4.toArray⟩) (p6.en.put3 ⟨s4.toArray⟩)
  have HS7 := Lib.hid p7
  have r0 := p7.rd.c0; have r1 := p7.rd.c1
  have HC7 := Lib.hid (refIntW p7.xs (HV.out p7.low) HH.out.2.2.2.2.1)
  clear s6' x6 p6 p7
  go_wp2_with (go_at_call 34; refine HC7.out.mono ?_; rintro r w8 ⟨a8, c8, rfl, x8, q8⟩; refine Hid.out ?_)
  refine Lib.hid ?_
  have s8' := HS7.out.on q8
  clear r0 r1 z0 z1 z2 hrl hnl v0 v1 HC7 HS7 q8
  have z0 := s8'.rd.c0; have z1 := s8'.rd.c1; have z2 := s8'.rd.fr
  have hrl := s8'.rd.lt
  have p8 := s8'.put x8
  have HS8 := Lib.hid p8
  have r0 := p8.rd.c0; have r1 := p8.rd.c1
  have HC8 := Lib.hid (refByteW 101 p8.xs (HV.out p8.low) HH.out.2.2.2.2.2)
  clear s8' x8 p8
  go_wp2_with (go_at_call 33; refine HC8.out.mono ?_; rintro r w9 ⟨a9, c9, rfl, x9, q9⟩; refine Hid.out ?_)
  refine Lib.hid ?_
  have s9' := HS8.out.on q9
  clear r0 r1 z0 z1 z2 hrl HC8 HS8 q9
  have z0 := s9'.rd.c0; have z1 := s9'.rd.c1; have z2 := s9'.rd.fr
  have hrl := s9'.rd.lt; have hnl := s9'.en.lt; have v0 := s9'.en.c0; have v1 := s9'.en.c1; have v2 := s9'.en.c2; have v3 := s9'.en.c3; have v4 := s9'.en.c4; have f1 := s9'.en.f 1; have f2 := s9'.en.f 2; have f4 := s9'.en.f 4
  dsimp only [zeroE] at v0 v1 v2 v3 v4
  have p9 := s9'.put x9
  have p10 := p9.ent 1 (.int .i64 t) (p9.en.put1 t)
  have p11 := p10.ent 2 (.int .u16 (IntKind.u16.wrap o)) (p10.en.put2 (IntKind.u16.wrap o))
  have p12 := p11.ent 4 (.int .i64 u) (p11.en.put4 u)
  have HS12 := Lib.hid p12
  have HX9 := Lib.hid x9
  clear s9' x9 p9 p10 p11 HH
  have y0 := p12.z0.c0; have y1 := p12.z0.c1; have y2 := p12.z0.fr; have yl := p12.z0.lt
  have u0 := p12.z1.c0; have u1 := p12.z1.c1; have u2 := p12.z1.c2; have u3 := p12.z1.c3; have u4 := p12.z1.c4; have g0 := p12.z1.f 0; have g1 := p12.z1.f 1; have g2 := p12.z1.f 2; have g3 := p12.z1.f 3; have g4 := p12.z1.f 4; have ul := p12.z1.lt
  dsimp only [zeroE] at u0 u1 u2 u3 u4
  have r0 := p12.rd.c0; have r1 := p12.rd.c1
  have HF := Lib.hid (p12.fin zeroE)
  clear p12
  go_wp2
  unfold erEnd stE at HF
  dsimp only [zeroE] at HF
  refine bodyPost_ret (v := .tuple #[.agg #[.slice a9 l6.length c9, .int .i64 e6], .agg #[.string ⟨#[]⟩, .int .i64 0, .int .u16 0, .string ⟨#[]⟩, .int .i64 0]]) (by obtain ⟨hf0, hf1, -⟩ := HF.out; have k0 := hf0.c0; have k1 := hf0.c1; have j0 := hf1.c0; have j1 := hf1.c1; have j2 := hf1.c2; have j3 := hf1.c3; have j4 := hf1.c4; simp [results, Tryd.results36, go_sem, k0, k1, j0, j1, j2, j3, j4]) rfl ?_
  exact ⟨a9, c9, rfl, HX9.out, HF.out.2.2⟩
set_option maxRecDepth 100000 in
set_option maxHeartbeats 8000000 in
theorem eRefRead_neg {V W : World} {a : Option Addr} {c : Nat} {l l0 l1 l2 l3 l4 l5 l6 s1 s4 : List UInt8} {e e0 e1 e2 e3 e4 e5 e6 t o u : Int} (hx : XW V a c l e) (hw : Below V.heap.size V W) (h0 : byteE 108 e l = (l0, e0)) (h1 : textE 1024 e0 l0 = (l1, e1, s1)) (h2 : intE e1 l1 = (l2, e2, t)) (h3 : intE e2 l2 = (l3, e3, o)) (h4 : textE 8192 e3 l3 = (l4, e4, s4)) (h5 : intE e4 l4 = (l5, e5, u)) (h6 : byteE 101 e5 l5 = (l6, e6)) (hE : e6 = 0) (hn : o < 0) :
    Calls Tryd.prog 36 #[.agg #[.slice a l.length c, .int .i64 e]] W (ErPost V W l6 e6 zeroE) := by
  have HV : Hid (∀ {w : World}, Below W.heap.size W w → Below V.heap.size V w) := Lib.hid (fun hb => hw.trans (hb.mono hw.size))
  have d1 := (Below.refl W.heap.size W).alloc (Nat.le_refl _) (.cells #[.slice a l.length c, .int .i64 e] 65)
  have d2 := d1.alloc (by simp) (.cells #[.slice none 0 0, .int .i64 0] 65)
  have d3 := d2.alloc (by simp; omega) (.cells #[.string ⟨#[]⟩, .int .i64 0, .int .u16 0, .string ⟨#[]⟩, .int .i64 0] 48)
  have d4 := d3.alloc (by simp; omega) (.cells #[.string ⟨#[]⟩, .int .i64 0, .int .u16 0, .string ⟨#[]⟩, .int .i64 0] 48)
  have f2 := (Below.refl (W.alloc (.cells #[.slice a l.length c, .int .i64 e] 65)).heap.size (W.alloc (.cells #[.slice a l.length c, .int .i64 e] 65))).alloc (Nat.le_refl _) (.cells #[.slice none 0 0, .int .i64 0] 65)
  have f3 := (Below.refl ((W.alloc (.cells #[.slice a l.length c, .int .i64 e] 65)).alloc (.cells #[.slice none 0 0, .int .i64 0] 65)).heap.size ((W.alloc (.cells #[.slice a l.length c, .int .i64 e] 65)).alloc (.cells #[.slice none 0 0, .int .i64 0] 65))).alloc (Nat.le_refl _) (.cells #[.string ⟨#[]⟩, .int .i64 0, .int .u16 0, .string ⟨#[]⟩, .int .i64 0] 48)
  have f4 := (Below.refl (((W.alloc (.cells #[.slice a l.length c, .int .i64 e] 65)).alloc (.cells #[.slice none 0 0, .int .i64 0] 65)).alloc (.cells #[.string ⟨#[]⟩, .int .i64 0, .int .u16 0, .string ⟨#[]⟩, .int .i64 0] 48)).heap.size (((W.alloc (.cells #[.slice a l.length c, .int .i64 e] 65)).alloc (.cells #[.slice none 0 0, .int .i64 0] 65)).alloc (.cells #[.string ⟨#[]⟩, .int .i64 0, .int .u16 0, .string ⟨#[]⟩, .int .i64 0] 48))).alloc (Nat.le_refl _) (.cells #[.string ⟨#[]⟩, .int .i64 0, .int .u16 0, .string ⟨#[]⟩, .int .i64 0] 48)
  have b1 := Two.new W 65 (.slice a l.length c) (.int .i64 e)
  have b2 := Two.new (W.alloc (.cells #[.slice a l.length c, .int .i64 e] 65)) 65 (.slice none 0 0) (.int .i64 0)
  have b3 := EBlk.new ((W.alloc (.cells #[.slice a l.length c, .int .i64 e] 65)).alloc (.cells #[.slice none 0 0, .int .i64 0] 65)) zeroE
  have b4 := EBlk.new (((W.alloc (.cells #[.slice a l.length c, .int .i64 e] 65)).alloc (.cells #[.slice none 0 0, .int .i64 0] 65)).alloc (.cells #[.string ⟨#[]⟩, .int .i64 0, .int .u16 0, .string ⟨#[]⟩, .int .i64 0] 48)) zeroE
  rw [World.size_alloc] at b2
  rw [World.size_alloc, World.size_alloc] at b3
  rw [World.size_alloc, World.size_alloc, World.size_alloc] at b4
  have s0 : ErSt V W ((((W.alloc (.cells #[.slice a l.length c, .int .i64 e] 65)).alloc (.cells #[.slice none 0 0, .int .i64 0] 65)).alloc (.cells #[.string ⟨#[]⟩, .int .i64 0, .int .u16 0, .string ⟨#[]⟩, .int .i64 0] 48)).alloc (.cells #[.string ⟨#[]⟩, .int .i64 0, .int .u16 0, .string ⟨#[]⟩, .int .i64 0] 48)) a c l e zeroE :=
    ⟨((b1.below f2 (by simp)).below f3 (by simp; omega)).below f4 (by simp; omega), (b2.below f3 (by simp)).below f4 (by simp), b3.on f4, b4, hx, d4⟩
  have HS0 := Lib.hid s0
  have HC1 := Lib.hid (refByteW 108 hx (HV.out s0.low) h0)
  have r0 := s0.rd.c0; have r1 := s0.rd.c1
  have hE1 : ((e6 : Int) != 0) = false := by simpa using hE
  have HE6 := Lib.hid hE
  have HH := Lib.hid (And.intro h1 (And.intro h2 (And.intro h3 (And.intro h4 (And.intro h5 h6)))))
  clear hx hw d1 d2 d3 d4 f2 f3 f4 b1 b2 b3 b4 s0 h0 h1 h2 h3 h4 h5 h6 hE
  unfold ErPost
  go_enter Tryd.func36, Tryd.ntmps36
  go_wp2_with (go_at_call 33; refine HC1.out.mono ?_; rintro r w1 ⟨a1, c1, rfl, x1, q1⟩; refine Hid.out ?_)
  refine Lib.hid ?_
  have s1' := HS0.out.on q1
  clear r0 r1 HC1 HS0 q1
  have z0 := s1'.rd.c0; have z1 := s1'.rd.c1; have z2 := s1'.rd.fr
  have hrl := s1'.rd.lt
  have p1 := s1'.put x1
  have HS1 := Lib.hid p1
  have r0 := p1.rd.c0; have r1 := p1.rd.c1
  have HC2 := Lib.hid (refTextW 1024 p1.xs (HV.out p1.low) HH.out.1)
  clear s1' x1 p1
  go_wp2_with (go_at_call 62; refine HC2.out.mono ?_; rintro r w2 ⟨a2, c2, rfl, x2, q2⟩; refine Hid.out ?_)
  refine Lib.hid ?_
  have s2' := HS1.out.on q2
  clear r0 r1 z0 z1 z2 hrl HC2 HS1 q2
  have z0 := s2'.rd.c0; have z1 := s2'.rd.c1; have z2 := s2'.rd.fr
  have hrl := s2'.rd.lt; have hnl := s2'.en.lt; have v0 := s2'.en.c0; have v1 := s2'.en.f 0
  have p2 := (s2'.put x2)
  have p3 := p2.ent 0 (.string ⟨s1.toArray⟩) (p2.en.put ⟨s1.toArray⟩)
  have HS3 := Lib.hid p3
  have r0 := p3.rd.c0; have r1 := p3.rd.c1
  have HC3 := Lib.hid (refIntW p3.xs (HV.out p3.low) HH.out.2.1)
  clear s2' x2 p2 p3
  go_wp2_with (go_at_call 34; refine HC3.out.mono ?_; rintro r w4 ⟨a4, c4, rfl, x4, q4⟩; refine Hid.out ?_)
  refine Lib.hid ?_
  have s4' := HS3.out.on q4
  clear r0 r1 z0 z1 z2 hrl hnl v0 v1 HC3 HS3 q4
  have z0 := s4'.rd.c0; have z1 := s4'.rd.c1; have z2 := s4'.rd.fr
  have hrl := s4'.rd.lt
  have p4 := s4'.put x4
  have HS4 := Lib.hid p4
  have r0 := p4.rd.c0; have r1 := p4.rd.c1
  have HC4 := Lib.hid (refIntW p4.xs (HV.out p4.low) HH.out.2.2.1)
  clear s4' x4 p4
  go_wp2_with (go_at_call 34; refine HC4.out.mono ?_; rintro r w5 ⟨a5, c5, rfl, x5, q5⟩; refine Hid.out ?_)
  refine Lib.hid ?_
  have s5' := HS4.out.on q5
  clear r0 r1 z0 z1 z2 hrl HC4 HS4 q5
  have z0 := s5'.rd.c0; have z1 := s5'.rd.c1; have z2 := s5'.rd.fr
  have hrl := s5'.rd.lt
  have p5 := s5'.put x5
  have HS5 := Lib.hid p5
  have r0 := p5.rd.c0; have r1 := p5.rd.c1
  have HC5 := Lib.hid (refTextW 8192 p5.xs (HV.out p5.low) HH.out.2.2.2.1)
  clear s5' x5 p5
  go_wp2_with (go_at_call 62; refine HC5.out.mono ?_; rintro r w6 ⟨a6, c6, rfl, x6, q6⟩; refine Hid.out ?_)
  refine Lib.hid ?_
  have s6' := HS5.out.on q6
  clear r0 r1 z0 z1 z2 hrl HC5 HS5 q6
  have z0 := s6'.rd.c0; have z1 := s6'.rd.c1; have z2 := s6'.rd.fr
  have hrl := s6'.rd.lt; have hnl := s6'.en.lt; have v0 := s6'.en.c3; have v1 := s6'.en.f 3
  have p6 := (s6'.put x6)
  have p7 := p6.ent 3 (.string ⟨s4.toArray⟩) (p6.en.put3 ⟨s4.toArray⟩)
  have HS7 := Lib.hid p7
  have r0 := p7.rd.c0; have r1 := p7.rd.c1
  have HC7 := Lib.hid (refIntW p7.xs (HV.out p7.low) HH.out.2.2.2.2.1)
  clear s6' x6 p6 p7
  go_wp2_with (go_at_call 34; refine HC7.out.mono ?_; rintro r w8 ⟨a8, c8, rfl, x8, q8⟩; refine Hid.out ?_)
  refine Lib.hid ?_
  have s8' := HS7.out.on q8
  clear r0 r1 z0 z1 z2 hrl hnl v0 v1 HC7 HS7 q8
  have z0 := s8'.rd.c0; have z1 := s8'.rd.c1; have z2 := s8'.rd.fr
  have hrl := s8'.rd.lt
  have p8 := s8'.put x8
  have HS8 := Lib.hid p8
  have r0 := p8.rd.c0; have r1 := p8.rd.c1
  have HC8 := Lib.hid (refByteW 101 p8.xs (HV.out p8.low) HH.out.2.2.2.2.2)
  clear s8' x8 p8
  go_wp2_with (go_at_call 33; refine HC8.out.mono ?_; rintro r w9 ⟨a9, c9, rfl, x9, q9⟩; refine Hid.out ?_)
  refine Lib.hid ?_
  have s9' := HS8.out.on q9
  clear r0 r1 z0 z1 z2 hrl HC8 HS8 q9
  have z0 := s9'.rd.c0; have z1 := s9'.rd.c1; have z2 := s9'.rd.fr
  have hrl := s9'.rd.lt; have hnl := s9'.en.lt; have v0 := s9'.en.c0; have v1 := s9'.en.c1; have v2 := s9'.en.c2; have v3 := s9'.en.c3; have v4 := s9'.en.c4; have f1 := s9'.en.f 1; have f2 := s9'.en.f 2; have f4 := s9'.en.f 4
  dsimp only [zeroE] at v0 v1 v2 v3 v4
  have p9 := s9'.put x9
  have p10 := p9.ent 1 (.int .i64 t) (p9.en.put1 t)
  have p11 := p10.ent 2 (.int .u16 (IntKind.u16.wrap o)) (p10.en.put2 (IntKind.u16.wrap o))
  have p12 := p11.ent 4 (.int .i64 u) (p11.en.put4 u)
  have HS12 := Lib.hid p12
  have HX9 := Lib.hid x9
  clear s9' x9 p9 p10 p11 HH
  have y0 := p12.z0.c0; have y1 := p12.z0.c1; have y2 := p12.z0.fr; have yl := p12.z0.lt
  have u0 := p12.z1.c0; have u1 := p12.z1.c1; have u2 := p12.z1.c2; have u3 := p12.z1.c3; have u4 := p12.z1.c4; have g0 := p12.z1.f 0; have g1 := p12.z1.f 1; have g2 := p12.z1.f 2; have g3 := p12.z1.f 3; have g4 := p12.z1.f 4; have ul := p12.z1.lt
  dsimp only [zeroE] at u0 u1 u2 u3 u4
  have r0 := p12.rd.c0; have r1 := p12.rd.c1
  have HF := Lib.hid (p12.fin zeroE)
  clear p12
  go_wp2
  unfold erEnd stE at HF
  dsimp only [zeroE] at HF
  refine bodyPost_ret (v := .tuple #[.agg #[.slice a9 l6.length c9, .int .i64 e6], .agg #[.string ⟨#[]⟩, .int .i64 0, .int .u16 0, .string ⟨#[]⟩, .int .i64 0]]) (by obtain ⟨hf0, hf1, -⟩ := HF.out; have k0 := hf0.c0; have k1 := hf0.c1; have j0 := hf1.c0; have j1 := hf1.c1; have j2 := hf1.c2; have j3 := hf1.c3; have j4 := hf1.c4; simp [results, Tryd.results36, go_sem, k0, k1, j0, j1, j2, j3, j4]) rfl ?_
  exact ⟨a9, c9, rfl, HX9.out, HF.out.2.2⟩
set_option maxRecDepth 100000 in
set_option maxHeartbeats 8000000 in
theorem eRefRead_big {V W : World} {a : Option Addr} {c : Nat} {l l0 l1 l2 l3 l4 l5 l6 s1 s4 : List UInt8} {e e0 e1 e2 e3 e4 e5 e6 t o u : Int} (hx : XW V a c l e) (hw : Below V.heap.size V W) (h0 : byteE 108 e l = (l0, e0)) (h1 : textE 1024 e0 l0 = (l1, e1, s1)) (h2 : intE e1 l1 = (l2, e2, t)) (h3 : intE e2 l2 = (l3, e3, o)) (h4 : textE 8192 e3 l3 = (l4, e4, s4)) (h5 : intE e4 l4 = (l5, e5, u)) (h6 : byteE 101 e5 l5 = (l6, e6)) (hE : e6 = 0) (hn : ¬ o < 0) (hb : 65535 < o) :
    Calls Tryd.prog 36 #[.agg #[.slice a l.length c, .int .i64 e]] W (ErPost V W l6 e6 zeroE) := by
  have HV : Hid (∀ {w : World}, Below W.heap.size W w → Below V.heap.size V w) := Lib.hid (fun hb => hw.trans (hb.mono hw.size))
  have d1 := (Below.refl W.heap.size W).alloc (Nat.le_refl _) (.cells #[.slice a l.length c, .int .i64 e] 65)
  have d2 := d1.alloc (by simp) (.cells #[.slice none 0 0, .int .i64 0] 65)
  have d3 := d2.alloc (by simp; omega) (.cells #[.string ⟨#[]⟩, .int .i64 0, .int .u16 0, .string ⟨#[]⟩, .int .i64 0] 48)
  have d4 := d3.alloc (by simp; omega) (.cells #[.string ⟨#[]⟩, .int .i64 0, .int .u16 0, .string ⟨#[]⟩, .int .i64 0] 48)
  have f2 := (Below.refl (W.alloc (.cells #[.slice a l.length c, .int .i64 e] 65)).heap.size (W.alloc (.cells #[.slice a l.length c, .int .i64 e] 65))).alloc (Nat.le_refl _) (.cells #[.slice none 0 0, .int .i64 0] 65)
  have f3 := (Below.refl ((W.alloc (.cells #[.slice a l.length c, .int .i64 e] 65)).alloc (.cells #[.slice none 0 0, .int .i64 0] 65)).heap.size ((W.alloc (.cells #[.slice a l.length c, .int .i64 e] 65)).alloc (.cells #[.slice none 0 0, .int .i64 0] 65))).alloc (Nat.le_refl _) (.cells #[.string ⟨#[]⟩, .int .i64 0, .int .u16 0, .string ⟨#[]⟩, .int .i64 0] 48)
  have f4 := (Below.refl (((W.alloc (.cells #[.slice a l.length c, .int .i64 e] 65)).alloc (.cells #[.slice none 0 0, .int .i64 0] 65)).alloc (.cells #[.string ⟨#[]⟩, .int .i64 0, .int .u16 0, .string ⟨#[]⟩, .int .i64 0] 48)).heap.size (((W.alloc (.cells #[.slice a l.length c, .int .i64 e] 65)).alloc (.cells #[.slice none 0 0, .int .i64 0] 65)).alloc (.cells #[.string ⟨#[]⟩, .int .i64 0, .int .u16 0, .string ⟨#[]⟩, .int .i64 0] 48))).alloc (Nat.le_refl _) (.cells #[.string ⟨#[]⟩, .int .i64 0, .int .u16 0, .string ⟨#[]⟩, .int .i64 0] 48)
  have b1 := Two.new W 65 (.slice a l.length c) (.int .i64 e)
  have b2 := Two.new (W.alloc (.cells #[.slice a l.length c, .int .i64 e] 65)) 65 (.slice none 0 0) (.int .i64 0)
  have b3 := EBlk.new ((W.alloc (.cells #[.slice a l.length c, .int .i64 e] 65)).alloc (.cells #[.slice none 0 0, .int .i64 0] 65)) zeroE
  have b4 := EBlk.new (((W.alloc (.cells #[.slice a l.length c, .int .i64 e] 65)).alloc (.cells #[.slice none 0 0, .int .i64 0] 65)).alloc (.cells #[.string ⟨#[]⟩, .int .i64 0, .int .u16 0, .string ⟨#[]⟩, .int .i64 0] 48)) zeroE
  rw [World.size_alloc] at b2
  rw [World.size_alloc, World.size_alloc] at b3
  rw [World.size_alloc, World.size_alloc, World.size_alloc] at b4
  have s0 : ErSt V W ((((W.alloc (.cells #[.slice a l.length c, .int .i64 e] 65)).alloc (.cells #[.slice none 0 0, .int .i64 0] 65)).alloc (.cells #[.string ⟨#[]⟩, .int .i64 0, .int .u16 0, .string ⟨#[]⟩, .int .i64 0] 48)).alloc (.cells #[.string ⟨#[]⟩, .int .i64 0, .int .u16 0, .string ⟨#[]⟩, .int .i64 0] 48)) a c l e zeroE :=
    ⟨((b1.below f2 (by simp)).below f3 (by simp; omega)).below f4 (by simp; omega), (b2.below f3 (by simp)).below f4 (by simp), b3.on f4, b4, hx, d4⟩
  have HS0 := Lib.hid s0
  have HC1 := Lib.hid (refByteW 108 hx (HV.out s0.low) h0)
  have r0 := s0.rd.c0; have r1 := s0.rd.c1
  have hE1 : ((e6 : Int) != 0) = false := by simpa using hE
  have HE6 := Lib.hid hE
  have HH := Lib.hid (And.intro h1 (And.intro h2 (And.intro h3 (And.intro h4 (And.intro h5 h6)))))
  clear hx hw d1 d2 d3 d4 f2 f3 f4 b1 b2 b3 b4 s0 h0 h1 h2 h3 h4 h5 h6 hE
  unfold ErPost
  go_enter Tryd.func36, Tryd.ntmps36
  go_wp2_with (go_at_call 33; refine HC1.out.mono ?_; rintro r w1 ⟨a1, c1, rfl, x1, q1⟩; refine Hid.out ?_)
  refine Lib.hid ?_
  have s1' := HS0.out.on q1
  clear r0 r1 HC1 HS0 q1
  have z0 := s1'.rd.c0; have z1 := s1'.rd.c1; have z2 := s1'.rd.fr
  have hrl := s1'.rd.lt
  have p1 := s1'.put x1
  have HS1 := Lib.hid p1
  have r0 := p1.rd.c0; have r1 := p1.rd.c1
  have HC2 := Lib.hid (refTextW 1024 p1.xs (HV.out p1.low) HH.out.1)
  clear s1' x1 p1
  go_wp2_with (go_at_call 62; refine HC2.out.mono ?_; rintro r w2 ⟨a2, c2, rfl, x2, q2⟩; refine Hid.out ?_)
  refine Lib.hid ?_
  have s2' := HS1.out.on q2
  clear r0 r1 z0 z1 z2 hrl HC2 HS1 q2
  have z0 := s2'.rd.c0; have z1 := s2'.rd.c1; have z2 := s2'.rd.fr
  have hrl := s2'.rd.lt; have hnl := s2'.en.lt; have v0 := s2'.en.c0; have v1 := s2'.en.f 0
  have p2 := (s2'.put x2)
  have p3 := p2.ent 0 (.string ⟨s1.toArray⟩) (p2.en.put ⟨s1.toArray⟩)
  have HS3 := Lib.hid p3
  have r0 := p3.rd.c0; have r1 := p3.rd.c1
  have HC3 := Lib.hid (refIntW p3.xs (HV.out p3.low) HH.out.2.1)
  clear s2' x2 p2 p3
  go_wp2_with (go_at_call 34; refine HC3.out.mono ?_; rintro r w4 ⟨a4, c4, rfl, x4, q4⟩; refine Hid.out ?_)
  refine Lib.hid ?_
  have s4' := HS3.out.on q4
  clear r0 r1 z0 z1 z2 hrl hnl v0 v1 HC3 HS3 q4
  have z0 := s4'.rd.c0; have z1 := s4'.rd.c1; have z2 := s4'.rd.fr
  have hrl := s4'.rd.lt
  have p4 := s4'.put x4
  have HS4 := Lib.hid p4
  have r0 := p4.rd.c0; have r1 := p4.rd.c1
  have HC4 := Lib.hid (refIntW p4.xs (HV.out p4.low) HH.out.2.2.1)
  clear s4' x4 p4
  go_wp2_with (go_at_call 34; refine HC4.out.mono ?_; rintro r w5 ⟨a5, c5, rfl, x5, q5⟩; refine Hid.out ?_)
  refine Lib.hid ?_
  have s5' := HS4.out.on q5
  clear r0 r1 z0 z1 z2 hrl HC4 HS4 q5
  have z0 := s5'.rd.c0; have z1 := s5'.rd.c1; have z2 := s5'.rd.fr
  have hrl := s5'.rd.lt
  have p5 := s5'.put x5
  have HS5 := Lib.hid p5
  have r0 := p5.rd.c0; have r1 := p5.rd.c1
  have HC5 := Lib.hid (refTextW 8192 p5.xs (HV.out p5.low) HH.out.2.2.2.1)
  clear s5' x5 p5
  go_wp2_with (go_at_call 62; refine HC5.out.mono ?_; rintro r w6 ⟨a6, c6, rfl, x6, q6⟩; refine Hid.out ?_)
  refine Lib.hid ?_
  have s6' := HS5.out.on q6
  clear r0 r1 z0 z1 z2 hrl HC5 HS5 q6
  have z0 := s6'.rd.c0; have z1 := s6'.rd.c1; have z2 := s6'.rd.fr
  have hrl := s6'.rd.lt; have hnl := s6'.en.lt; have v0 := s6'.en.c3; have v1 := s6'.en.f 3
  have p6 := (s6'.put x6)
  have p7 := p6.ent 3 (.string ⟨s4.toArray⟩) (p6.en.put3 ⟨s4.toArray⟩)
  have HS7 := Lib.hid p7
  have r0 := p7.rd.c0; have r1 := p7.rd.c1
  have HC7 := Lib.hid (refIntW p7.xs (HV.out p7.low) HH.out.2.2.2.2.1)
  clear s6' x6 p6 p7
  go_wp2_with (go_at_call 34; refine HC7.out.mono ?_; rintro r w8 ⟨a8, c8, rfl, x8, q8⟩; refine Hid.out ?_)
  refine Lib.hid ?_
  have s8' := HS7.out.on q8
  clear r0 r1 z0 z1 z2 hrl hnl v0 v1 HC7 HS7 q8
  have z0 := s8'.rd.c0; have z1 := s8'.rd.c1; have z2 := s8'.rd.fr
  have hrl := s8'.rd.lt
  have p8 := s8'.put x8
  have HS8 := Lib.hid p8
  have r0 := p8.rd.c0; have r1 := p8.rd.c1
  have HC8 := Lib.hid (refByteW 101 p8.xs (HV.out p8.low) HH.out.2.2.2.2.2)
  clear s8' x8 p8
  go_wp2_with (go_at_call 33; refine HC8.out.mono ?_; rintro r w9 ⟨a9, c9, rfl, x9, q9⟩; refine Hid.out ?_)
  refine Lib.hid ?_
  have s9' := HS8.out.on q9
  clear r0 r1 z0 z1 z2 hrl HC8 HS8 q9
  have z0 := s9'.rd.c0; have z1 := s9'.rd.c1; have z2 := s9'.rd.fr
  have hrl := s9'.rd.lt; have hnl := s9'.en.lt; have v0 := s9'.en.c0; have v1 := s9'.en.c1; have v2 := s9'.en.c2; have v3 := s9'.en.c3; have v4 := s9'.en.c4; have f1 := s9'.en.f 1; have f2 := s9'.en.f 2; have f4 := s9'.en.f 4
  dsimp only [zeroE] at v0 v1 v2 v3 v4
  have p9 := s9'.put x9
  have p10 := p9.ent 1 (.int .i64 t) (p9.en.put1 t)
  have p11 := p10.ent 2 (.int .u16 (IntKind.u16.wrap o)) (p10.en.put2 (IntKind.u16.wrap o))
  have p12 := p11.ent 4 (.int .i64 u) (p11.en.put4 u)
  have HS12 := Lib.hid p12
  have HX9 := Lib.hid x9
  clear s9' x9 p9 p10 p11 HH
  have y0 := p12.z0.c0; have y1 := p12.z0.c1; have y2 := p12.z0.fr; have yl := p12.z0.lt
  have u0 := p12.z1.c0; have u1 := p12.z1.c1; have u2 := p12.z1.c2; have u3 := p12.z1.c3; have u4 := p12.z1.c4; have g0 := p12.z1.f 0; have g1 := p12.z1.f 1; have g2 := p12.z1.f 2; have g3 := p12.z1.f 3; have g4 := p12.z1.f 4; have ul := p12.z1.lt
  dsimp only [zeroE] at u0 u1 u2 u3 u4
  have r0 := p12.rd.c0; have r1 := p12.rd.c1
  have HF := Lib.hid (p12.fin zeroE)
  clear p12
  go_wp2
  unfold erEnd stE at HF
  dsimp only [zeroE] at HF
  refine bodyPost_ret (v := .tuple #[.agg #[.slice a9 l6.length c9, .int .i64 e6], .agg #[.string ⟨#[]⟩, .int .i64 0, .int .u16 0, .string ⟨#[]⟩, .int .i64 0]]) (by obtain ⟨hf0, hf1, -⟩ := HF.out; have k0 := hf0.c0; have k1 := hf0.c1; have j0 := hf1.c0; have j1 := hf1.c1; have j2 := hf1.c2; have j3 := hf1.c3; have j4 := hf1.c4; simp [results, Tryd.results36, go_sem, k0, k1, j0, j1, j2, j3, j4]) rfl ?_
  exact ⟨a9, c9, rfl, HX9.out, HF.out.2.2⟩
set_option maxRecDepth 100000 in
set_option maxHeartbeats 8000000 in
theorem eRefRead_bad {V W : World} {a : Option Addr} {c : Nat} {l l0 l1 l2 l3 l4 l5 l6 s1 s4 : List UInt8} {e e0 e1 e2 e3 e4 e5 e6 t o u : Int} (hx : XW V a c l e) (hw : Below V.heap.size V W) (h0 : byteE 108 e l = (l0, e0)) (h1 : textE 1024 e0 l0 = (l1, e1, s1)) (h2 : intE e1 l1 = (l2, e2, t)) (h3 : intE e2 l2 = (l3, e3, o)) (h4 : textE 8192 e3 l3 = (l4, e4, s4)) (h5 : intE e4 l4 = (l5, e5, u)) (h6 : byteE 101 e5 l5 = (l6, e6)) (hE : e6 = 0) (hn : ¬ o < 0) (hb : ¬ 65535 < o) (hk : checkEn ⟨⟨s1.toArray⟩, t, o, ⟨s4.toArray⟩, u⟩ ≠ 0) :
    Calls Tryd.prog 36 #[.agg #[.slice a l.length c, .int .i64 e]] W (ErPost V W l6 e6 zeroE) := by
  have HV : Hid (∀ {w : World}, Below W.heap.size W w → Below V.heap.size V w) := Lib.hid (fun hb => hw.trans (hb.mono hw.size))
  have d1 := (Below.refl W.heap.size W).alloc (Nat.le_refl _) (.cells #[.slice a l.length c, .int .i64 e] 65)
  have d2 := d1.alloc (by simp) (.cells #[.slice none 0 0, .int .i64 0] 65)
  have d3 := d2.alloc (by simp; omega) (.cells #[.string ⟨#[]⟩, .int .i64 0, .int .u16 0, .string ⟨#[]⟩, .int .i64 0] 48)
  have d4 := d3.alloc (by simp; omega) (.cells #[.string ⟨#[]⟩, .int .i64 0, .int .u16 0, .string ⟨#[]⟩, .int .i64 0] 48)
  have f2 := (Below.refl (W.alloc (.cells #[.slice a l.length c, .int .i64 e] 65)).heap.size (W.alloc (.cells #[.slice a l.length c, .int .i64 e] 65))).alloc (Nat.le_refl _) (.cells #[.slice none 0 0, .int .i64 0] 65)
  have f3 := (Below.refl ((W.alloc (.cells #[.slice a l.length c, .int .i64 e] 65)).alloc (.cells #[.slice none 0 0, .int .i64 0] 65)).heap.size ((W.alloc (.cells #[.slice a l.length c, .int .i64 e] 65)).alloc (.cells #[.slice none 0 0, .int .i64 0] 65))).alloc (Nat.le_refl _) (.cells #[.string ⟨#[]⟩, .int .i64 0, .int .u16 0, .string ⟨#[]⟩, .int .i64 0] 48)
  have f4 := (Below.refl (((W.alloc (.cells #[.slice a l.length c, .int .i64 e] 65)).alloc (.cells #[.slice none 0 0, .int .i64 0] 65)).alloc (.cells #[.string ⟨#[]⟩, .int .i64 0, .int .u16 0, .string ⟨#[]⟩, .int .i64 0] 48)).heap.size (((W.alloc (.cells #[.slice a l.length c, .int .i64 e] 65)).alloc (.cells #[.slice none 0 0, .int .i64 0] 65)).alloc (.cells #[.string ⟨#[]⟩, .int .i64 0, .int .u16 0, .string ⟨#[]⟩, .int .i64 0] 48))).alloc (Nat.le_refl _) (.cells #[.string ⟨#[]⟩, .int .i64 0, .int .u16 0, .string ⟨#[]⟩, .int .i64 0] 48)
  have b1 := Two.new W 65 (.slice a l.length c) (.int .i64 e)
  have b2 := Two.new (W.alloc (.cells #[.slice a l.length c, .int .i64 e] 65)) 65 (.slice none 0 0) (.int .i64 0)
  have b3 := EBlk.new ((W.alloc (.cells #[.slice a l.length c, .int .i64 e] 65)).alloc (.cells #[.slice none 0 0, .int .i64 0] 65)) zeroE
  have b4 := EBlk.new (((W.alloc (.cells #[.slice a l.length c, .int .i64 e] 65)).alloc (.cells #[.slice none 0 0, .int .i64 0] 65)).alloc (.cells #[.string ⟨#[]⟩, .int .i64 0, .int .u16 0, .string ⟨#[]⟩, .int .i64 0] 48)) zeroE
  rw [World.size_alloc] at b2
  rw [World.size_alloc, World.size_alloc] at b3
  rw [World.size_alloc, World.size_alloc, World.size_alloc] at b4
  have s0 : ErSt V W ((((W.alloc (.cells #[.slice a l.length c, .int .i64 e] 65)).alloc (.cells #[.slice none 0 0, .int .i64 0] 65)).alloc (.cells #[.string ⟨#[]⟩, .int .i64 0, .int .u16 0, .string ⟨#[]⟩, .int .i64 0] 48)).alloc (.cells #[.string ⟨#[]⟩, .int .i64 0, .int .u16 0, .string ⟨#[]⟩, .int .i64 0] 48)) a c l e zeroE :=
    ⟨((b1.below f2 (by simp)).below f3 (by simp; omega)).below f4 (by simp; omega), (b2.below f3 (by simp)).below f4 (by simp), b3.on f4, b4, hx, d4⟩
  have HS0 := Lib.hid s0
  have HC1 := Lib.hid (refByteW 108 hx (HV.out s0.low) h0)
  have r0 := s0.rd.c0; have r1 := s0.rd.c1
  have hE1 : ((e6 : Int) != 0) = false := by simpa using hE
  have HE6 := Lib.hid hE
  have HCk : Hid (∀ y, Calls Tryd.prog 51 #[.agg #[.string ⟨s1.toArray⟩, .int .i64 t, .int .u16 o, .string ⟨s4.toArray⟩, .int .i64 u]] y fun e w' => e = .returned (.int .i64 (checkEn ⟨⟨s1.toArray⟩, t, o, ⟨s4.toArray⟩, u⟩)) ∧ Below y.heap.size y w') := Lib.hid (fun v => eRefCheck_any ⟨⟨s1.toArray⟩, t, o, ⟨s4.toArray⟩, u⟩ v)
  generalize checkEn ⟨⟨s1.toArray⟩, t, o, ⟨s4.toArray⟩, u⟩ = E at *
  have hk1 : ((E : Int) != 0) = true := by simpa using hk
  have HH := Lib.hid (And.intro h1 (And.intro h2 (And.intro h3 (And.intro h4 (And.intro h5 h6)))))
  clear hx hw d1 d2 d3 d4 f2 f3 f4 b1 b2 b3 b4 s0 h0 h1 h2 h3 h4 h5 h6 hE hk
  unfold ErPost
  go_enter Tryd.func36, Tryd.ntmps36
  go_wp2_with (go_at_call 33; refine HC1.out.mono ?_; rintro r w1 ⟨a1, c1, rfl, x1, q1⟩; refine Hid.out ?_)
  refine Lib.hid ?_
  have s1' := HS0.out.on q1
  clear r0 r1 HC1 HS0 q1
  have z0 := s1'.rd.c0; have z1 := s1'.rd.c1; have z2 := s1'.rd.fr
  have hrl := s1'.rd.lt
  have p1 := s1'.put x1
  have HS1 := Lib.hid p1
  have r0 := p1.rd.c0; have r1 := p1.rd.c1
  have HC2 := Lib.hid (refTextW 1024 p1.xs (HV.out p1.low) HH.out.1)
  clear s1' x1 p1
  go_wp2_with (go_at_call 62; refine HC2.out.mono ?_; rintro r w2 ⟨a2, c2, rfl, x2, q2⟩; refine Hid.out ?_)
  refine Lib.hid ?_
  have s2' := HS1.out.on q2
  clear r0 r1 z0 z1 z2 hrl HC2 HS1 q2
  have z0 := s2'.rd.c0; have z1 := s2'.rd.c1; have z2 := s2'.rd.fr
  have hrl := s2'.rd.lt; have hnl := s2'.en.lt; have v0 := s2'.en.c0; have v1 := s2'.en.f 0
  have p2 := (s2'.put x2)
  have p3 := p2.ent 0 (.string ⟨s1.toArray⟩) (p2.en.put ⟨s1.toArray⟩)
  have HS3 := Lib.hid p3
  have r0 := p3.rd.c0; have r1 := p3.rd.c1
  have HC3 := Lib.hid (refIntW p3.xs (HV.out p3.low) HH.out.2.1)
  clear s2' x2 p2 p3
  go_wp2_with (go_at_call 34; refine HC3.out.mono ?_; rintro r w4 ⟨a4, c4, rfl, x4, q4⟩; refine Hid.out ?_)
  refine Lib.hid ?_
  have s4' := HS3.out.on q4
  clear r0 r1 z0 z1 z2 hrl hnl v0 v1 HC3 HS3 q4
  have z0 := s4'.rd.c0; have z1 := s4'.rd.c1; have z2 := s4'.rd.fr
  have hrl := s4'.rd.lt
  have p4 := s4'.put x4
  have HS4 := Lib.hid p4
  have r0 := p4.rd.c0; have r1 := p4.rd.c1
  have HC4 := Lib.hid (refIntW p4.xs (HV.out p4.low) HH.out.2.2.1)
  clear s4' x4 p4
  go_wp2_with (go_at_call 34; refine HC4.out.mono ?_; rintro r w5 ⟨a5, c5, rfl, x5, q5⟩; refine Hid.out ?_)
  refine Lib.hid ?_
  have s5' := HS4.out.on q5
  clear r0 r1 z0 z1 z2 hrl HC4 HS4 q5
  have z0 := s5'.rd.c0; have z1 := s5'.rd.c1; have z2 := s5'.rd.fr
  have hrl := s5'.rd.lt
  have p5 := s5'.put x5
  have HS5 := Lib.hid p5
  have r0 := p5.rd.c0; have r1 := p5.rd.c1
  have HC5 := Lib.hid (refTextW 8192 p5.xs (HV.out p5.low) HH.out.2.2.2.1)
  clear s5' x5 p5
  go_wp2_with (go_at_call 62; refine HC5.out.mono ?_; rintro r w6 ⟨a6, c6, rfl, x6, q6⟩; refine Hid.out ?_)
  refine Lib.hid ?_
  have s6' := HS5.out.on q6
  clear r0 r1 z0 z1 z2 hrl HC5 HS5 q6
  have z0 := s6'.rd.c0; have z1 := s6'.rd.c1; have z2 := s6'.rd.fr
  have hrl := s6'.rd.lt; have hnl := s6'.en.lt; have v0 := s6'.en.c3; have v1 := s6'.en.f 3
  have p6 := (s6'.put x6)
  have p7 := p6.ent 3 (.string ⟨s4.toArray⟩) (p6.en.put3 ⟨s4.toArray⟩)
  have HS7 := Lib.hid p7
  have r0 := p7.rd.c0; have r1 := p7.rd.c1
  have HC7 := Lib.hid (refIntW p7.xs (HV.out p7.low) HH.out.2.2.2.2.1)
  clear s6' x6 p6 p7
  go_wp2_with (go_at_call 34; refine HC7.out.mono ?_; rintro r w8 ⟨a8, c8, rfl, x8, q8⟩; refine Hid.out ?_)
  refine Lib.hid ?_
  have s8' := HS7.out.on q8
  clear r0 r1 z0 z1 z2 hrl hnl v0 v1 HC7 HS7 q8
  have z0 := s8'.rd.c0; have z1 := s8'.rd.c1; have z2 := s8'.rd.fr
  have hrl := s8'.rd.lt
  have p8 := s8'.put x8
  have HS8 := Lib.hid p8
  have r0 := p8.rd.c0; have r1 := p8.rd.c1
  have HC8 := Lib.hid (refByteW 101 p8.xs (HV.out p8.low) HH.out.2.2.2.2.2)
  clear s8' x8 p8
  go_wp2_with (go_at_call 33; refine HC8.out.mono ?_; rintro r w9 ⟨a9, c9, rfl, x9, q9⟩; refine Hid.out ?_)
  refine Lib.hid ?_
  have s9' := HS8.out.on q9
  clear r0 r1 z0 z1 z2 hrl HC8 HS8 q9
  have z0 := s9'.rd.c0; have z1 := s9'.rd.c1; have z2 := s9'.rd.fr
  have hrl := s9'.rd.lt; have hnl := s9'.en.lt; have v0 := s9'.en.c0; have v1 := s9'.en.c1; have v2 := s9'.en.c2; have v3 := s9'.en.c3; have v4 := s9'.en.c4; have f1 := s9'.en.f 1; have f2 := s9'.en.f 2; have f4 := s9'.en.f 4
  dsimp only [zeroE] at v0 v1 v2 v3 v4
  have p9 := s9'.put x9
  have p10 := p9.ent 1 (.int .i64 t) (p9.en.put1 t)
  have p11 := p10.ent 2 (.int .u16 o) (p10.en.put2 o)
  have p12 := p11.ent 4 (.int .i64 u) (p11.en.put4 u)
  have HS12 := Lib.hid p12
  have HX9 := Lib.hid x9
  clear s9' x9 p9 p10 p11 HH
  have r0 := p12.rd.c0; have r1 := p12.rd.c1
  have v0' := p12.en.c0; have v1' := p12.en.c1; have v2' := p12.en.c2; have v3' := p12.en.c3; have v4' := p12.en.c4
  dsimp only at v0' v1' v2' v3' v4'
  clear p12
  go_wp2_with (go_at_call 51; refine (HCk.out _).mono ?_; rintro r w13 ⟨rfl, q13⟩; refine Hid.out ?_)
  refine Lib.hid ?_
  have p13 := HS12.out.on q13
  clear HS12 HCk q13 z0 z1 z2 hrl hnl v0 v1 v2 v3 v4 f1 f2 f4 r0 r1 v0' v1' v2' v3' v4'
  have y0 := p13.z0.c0; have y1 := p13.z0.c1; have y2 := p13.z0.fr; have yl := p13.z0.lt
  have u0 := p13.z1.c0; have u1 := p13.z1.c1; have u2 := p13.z1.c2; have u3 := p13.z1.c3; have u4 := p13.z1.c4; have g0 := p13.z1.f 0; have g1 := p13.z1.f 1; have g2 := p13.z1.f 2; have g3 := p13.z1.f 3; have g4 := p13.z1.f 4; have ul := p13.z1.lt
  dsimp only [zeroE] at u0 u1 u2 u3 u4
  have r0 := p13.rd.c0; have r1 := p13.rd.c1
  have HF := Lib.hid (p13.fin zeroE)
  clear p13
  go_wp2
  unfold erEnd stE at HF
  dsimp only [zeroE] at HF
  refine bodyPost_ret (v := .tuple #[.agg #[.slice a9 l6.length c9, .int .i64 e6], .agg #[.string ⟨#[]⟩, .int .i64 0, .int .u16 0, .string ⟨#[]⟩, .int .i64 0]]) (by obtain ⟨hf0, hf1, -⟩ := HF.out; have k0 := hf0.c0; have k1 := hf0.c1; have j0 := hf1.c0; have j1 := hf1.c1; have j2 := hf1.c2; have j3 := hf1.c3; have j4 := hf1.c4; simp [results, Tryd.results36, go_sem, k0, k1, j0, j1, j2, j3, j4]) rfl ?_
  exact ⟨a9, c9, rfl, HX9.out, HF.out.2.2⟩
set_option maxRecDepth 100000 in
set_option maxHeartbeats 8000000 in
theorem eRefRead_ok {V W : World} {a : Option Addr} {c : Nat} {l l0 l1 l2 l3 l4 l5 l6 s1 s4 : List UInt8} {e e0 e1 e2 e3 e4 e5 e6 t o u : Int} (hx : XW V a c l e) (hw : Below V.heap.size V W) (h0 : byteE 108 e l = (l0, e0)) (h1 : textE 1024 e0 l0 = (l1, e1, s1)) (h2 : intE e1 l1 = (l2, e2, t)) (h3 : intE e2 l2 = (l3, e3, o)) (h4 : textE 8192 e3 l3 = (l4, e4, s4)) (h5 : intE e4 l4 = (l5, e5, u)) (h6 : byteE 101 e5 l5 = (l6, e6)) (hE : e6 = 0) (hn : ¬ o < 0) (hb : ¬ 65535 < o) (hk : checkEn ⟨⟨s1.toArray⟩, t, o, ⟨s4.toArray⟩, u⟩ = 0) :
    Calls Tryd.prog 36 #[.agg #[.slice a l.length c, .int .i64 e]] W (ErPost V W l6 e6 ⟨⟨s1.toArray⟩, t, o, ⟨s4.toArray⟩, u⟩) := by
  have HV : Hid (∀ {w : World}, Below W.heap.size W w → Below V.heap.size V w) := Lib.hid (fun hb => hw.trans (hb.mono hw.size))
  have d1 := (Below.refl W.heap.size W).alloc (Nat.le_refl _) (.cells #[.slice a l.length c, .int .i64 e] 65)
  have d2 := d1.alloc (by simp) (.cells #[.slice none 0 0, .int .i64 0] 65)
  have d3 := d2.alloc (by simp; omega) (.cells #[.string ⟨#[]⟩, .int .i64 0, .int .u16 0, .string ⟨#[]⟩, .int .i64 0] 48)
  have d4 := d3.alloc (by simp; omega) (.cells #[.string ⟨#[]⟩, .int .i64 0, .int .u16 0, .string ⟨#[]⟩, .int .i64 0] 48)
  have f2 := (Below.refl (W.alloc (.cells #[.slice a l.length c, .int .i64 e] 65)).heap.size (W.alloc (.cells #[.slice a l.length c, .int .i64 e] 65))).alloc (Nat.le_refl _) (.cells #[.slice none 0 0, .int .i64 0] 65)
  have f3 := (Below.refl ((W.alloc (.cells #[.slice a l.length c, .int .i64 e] 65)).alloc (.cells #[.slice none 0 0, .int .i64 0] 65)).heap.size ((W.alloc (.cells #[.slice a l.length c, .int .i64 e] 65)).alloc (.cells #[.slice none 0 0, .int .i64 0] 65))).alloc (Nat.le_refl _) (.cells #[.string ⟨#[]⟩, .int .i64 0, .int .u16 0, .string ⟨#[]⟩, .int .i64 0] 48)
  have f4 := (Below.refl (((W.alloc (.cells #[.slice a l.length c, .int .i64 e] 65)).alloc (.cells #[.slice none 0 0, .int .i64 0] 65)).alloc (.cells #[.string ⟨#[]⟩, .int .i64 0, .int .u16 0, .string ⟨#[]⟩, .int .i64 0] 48)).heap.size (((W.alloc (.cells #[.slice a l.length c, .int .i64 e] 65)).alloc (.cells #[.slice none 0 0, .int .i64 0] 65)).alloc (.cells #[.string ⟨#[]⟩, .int .i64 0, .int .u16 0, .string ⟨#[]⟩, .int .i64 0] 48))).alloc (Nat.le_refl _) (.cells #[.string ⟨#[]⟩, .int .i64 0, .int .u16 0, .string ⟨#[]⟩, .int .i64 0] 48)
  have b1 := Two.new W 65 (.slice a l.length c) (.int .i64 e)
  have b2 := Two.new (W.alloc (.cells #[.slice a l.length c, .int .i64 e] 65)) 65 (.slice none 0 0) (.int .i64 0)
  have b3 := EBlk.new ((W.alloc (.cells #[.slice a l.length c, .int .i64 e] 65)).alloc (.cells #[.slice none 0 0, .int .i64 0] 65)) zeroE
  have b4 := EBlk.new (((W.alloc (.cells #[.slice a l.length c, .int .i64 e] 65)).alloc (.cells #[.slice none 0 0, .int .i64 0] 65)).alloc (.cells #[.string ⟨#[]⟩, .int .i64 0, .int .u16 0, .string ⟨#[]⟩, .int .i64 0] 48)) zeroE
  rw [World.size_alloc] at b2
  rw [World.size_alloc, World.size_alloc] at b3
  rw [World.size_alloc, World.size_alloc, World.size_alloc] at b4
  have s0 : ErSt V W ((((W.alloc (.cells #[.slice a l.length c, .int .i64 e] 65)).alloc (.cells #[.slice none 0 0, .int .i64 0] 65)).alloc (.cells #[.string ⟨#[]⟩, .int .i64 0, .int .u16 0, .string ⟨#[]⟩, .int .i64 0] 48)).alloc (.cells #[.string ⟨#[]⟩, .int .i64 0, .int .u16 0, .string ⟨#[]⟩, .int .i64 0] 48)) a c l e zeroE :=
    ⟨((b1.below f2 (by simp)).below f3 (by simp; omega)).below f4 (by simp; omega), (b2.below f3 (by simp)).below f4 (by simp), b3.on f4, b4, hx, d4⟩
  have HS0 := Lib.hid s0
  have HC1 := Lib.hid (refByteW 108 hx (HV.out s0.low) h0)
  have r0 := s0.rd.c0; have r1 := s0.rd.c1
  have hE1 : ((e6 : Int) != 0) = false := by simpa using hE
  have HE6 := Lib.hid hE
  have HCk : Hid (∀ y, Calls Tryd.prog 51 #[.agg #[.string ⟨s1.toArray⟩, .int .i64 t, .int .u16 o, .string ⟨s4.toArray⟩, .int .i64 u]] y fun e w' => e = .returned (.int .i64 (0)) ∧ Below y.heap.size y w') := Lib.hid (fun v => by rw [← hk]; exact eRefCheck_any ⟨⟨s1.toArray⟩, t, o, ⟨s4.toArray⟩, u⟩ v)
  have HH := Lib.hid (And.intro h1 (And.intro h2 (And.intro h3 (And.intro h4 (And.intro h5 h6)))))
  clear hx hw d1 d2 d3 d4 f2 f3 f4 b1 b2 b3 b4 s0 h0 h1 h2 h3 h4 h5 h6 hE hk
  unfold ErPost
  go_enter Tryd.func36, Tryd.ntmps36
  go_wp2_with (go_at_call 33; refine HC1.out.mono ?_; rintro r w1 ⟨a1, c1, rfl, x1, q1⟩; refine Hid.out ?_)
  refine Lib.hid ?_
  have s1' := HS0.out.on q1
  clear r0 r1 HC1 HS0 q1
  have z0 := s1'.rd.c0; have z1 := s1'.rd.c1; have z2 := s1'.rd.fr
  have hrl := s1'.rd.lt
  have p1 := s1'.put x1
  have HS1 := Lib.hid p1
  have r0 := p1.rd.c0; have r1 := p1.rd.c1
  have HC2 := Lib.hid (refTextW 1024 p1.xs (HV.out p1.low) HH.out.1)
  clear s1' x1 p1
  go_wp2_with (go_at_call 62; refine HC2.out.mono ?_; rintro r w2 ⟨a2, c2, rfl, x2, q2⟩; refine Hid.out ?_)
  refine Lib.hid ?_
  have s2' := HS1.out.on q2
  clear r0 r1 z0 z1 z2 hrl HC2 HS1 q2
  have z0 := s2'.rd.c0; have z1 := s2'.rd.c1; have z2 := s2'.rd.fr
  have hrl := s2'.rd.lt; have hnl := s2'.en.lt; have v0 := s2'.en.c0; have v1 := s2'.en.f 0
  have p2 := (s2'.put x2)
  have p3 := p2.ent 0 (.string ⟨s1.toArray⟩) (p2.en.put ⟨s1.toArray⟩)
  have HS3 := Lib.hid p3
  have r0 := p3.rd.c0; have r1 := p3.rd.c1
  have HC3 := Lib.hid (refIntW p3.xs (HV.out p3.low) HH.out.2.1)
  clear s2' x2 p2 p3
  go_wp2_with (go_at_call 34; refine HC3.out.mono ?_; rintro r w4 ⟨a4, c4, rfl, x4, q4⟩; refine Hid.out ?_)
  refine Lib.hid ?_
  have s4' := HS3.out.on q4
  clear r0 r1 z0 z1 z2 hrl hnl v0 v1 HC3 HS3 q4
  have z0 := s4'.rd.c0; have z1 := s4'.rd.c1; have z2 := s4'.rd.fr
  have hrl := s4'.rd.lt
  have p4 := s4'.put x4
  have HS4 := Lib.hid p4
  have r0 := p4.rd.c0; have r1 := p4.rd.c1
  have HC4 := Lib.hid (refIntW p4.xs (HV.out p4.low) HH.out.2.2.1)
  clear s4' x4 p4
  go_wp2_with (go_at_call 34; refine HC4.out.mono ?_; rintro r w5 ⟨a5, c5, rfl, x5, q5⟩; refine Hid.out ?_)
  refine Lib.hid ?_
  have s5' := HS4.out.on q5
  clear r0 r1 z0 z1 z2 hrl HC4 HS4 q5
  have z0 := s5'.rd.c0; have z1 := s5'.rd.c1; have z2 := s5'.rd.fr
  have hrl := s5'.rd.lt
  have p5 := s5'.put x5
  have HS5 := Lib.hid p5
  have r0 := p5.rd.c0; have r1 := p5.rd.c1
  have HC5 := Lib.hid (refTextW 8192 p5.xs (HV.out p5.low) HH.out.2.2.2.1)
  clear s5' x5 p5
  go_wp2_with (go_at_call 62; refine HC5.out.mono ?_; rintro r w6 ⟨a6, c6, rfl, x6, q6⟩; refine Hid.out ?_)
  refine Lib.hid ?_
  have s6' := HS5.out.on q6
  clear r0 r1 z0 z1 z2 hrl HC5 HS5 q6
  have z0 := s6'.rd.c0; have z1 := s6'.rd.c1; have z2 := s6'.rd.fr
  have hrl := s6'.rd.lt; have hnl := s6'.en.lt; have v0 := s6'.en.c3; have v1 := s6'.en.f 3
  have p6 := (s6'.put x6)
  have p7 := p6.ent 3 (.string ⟨s4.toArray⟩) (p6.en.put3 ⟨s4.toArray⟩)
  have HS7 := Lib.hid p7
  have r0 := p7.rd.c0; have r1 := p7.rd.c1
  have HC7 := Lib.hid (refIntW p7.xs (HV.out p7.low) HH.out.2.2.2.2.1)
  clear s6' x6 p6 p7
  go_wp2_with (go_at_call 34; refine HC7.out.mono ?_; rintro r w8 ⟨a8, c8, rfl, x8, q8⟩; refine Hid.out ?_)
  refine Lib.hid ?_
  have s8' := HS7.out.on q8
  clear r0 r1 z0 z1 z2 hrl hnl v0 v1 HC7 HS7 q8
  have z0 := s8'.rd.c0; have z1 := s8'.rd.c1; have z2 := s8'.rd.fr
  have hrl := s8'.rd.lt
  have p8 := s8'.put x8
  have HS8 := Lib.hid p8
  have r0 := p8.rd.c0; have r1 := p8.rd.c1
  have HC8 := Lib.hid (refByteW 101 p8.xs (HV.out p8.low) HH.out.2.2.2.2.2)
  clear s8' x8 p8
  go_wp2_with (go_at_call 33; refine HC8.out.mono ?_; rintro r w9 ⟨a9, c9, rfl, x9, q9⟩; refine Hid.out ?_)
  refine Lib.hid ?_
  have s9' := HS8.out.on q9
  clear r0 r1 z0 z1 z2 hrl HC8 HS8 q9
  have z0 := s9'.rd.c0; have z1 := s9'.rd.c1; have z2 := s9'.rd.fr
  have hrl := s9'.rd.lt; have hnl := s9'.en.lt; have v0 := s9'.en.c0; have v1 := s9'.en.c1; have v2 := s9'.en.c2; have v3 := s9'.en.c3; have v4 := s9'.en.c4; have f1 := s9'.en.f 1; have f2 := s9'.en.f 2; have f4 := s9'.en.f 4
  dsimp only [zeroE] at v0 v1 v2 v3 v4
  have p9 := s9'.put x9
  have p10 := p9.ent 1 (.int .i64 t) (p9.en.put1 t)
  have p11 := p10.ent 2 (.int .u16 o) (p10.en.put2 o)
  have p12 := p11.ent 4 (.int .i64 u) (p11.en.put4 u)
  have HS12 := Lib.hid p12
  have HX9 := Lib.hid x9
  clear s9' x9 p9 p10 p11 HH
  have r0 := p12.rd.c0; have r1 := p12.rd.c1
  have v0' := p12.en.c0; have v1' := p12.en.c1; have v2' := p12.en.c2; have v3' := p12.en.c3; have v4' := p12.en.c4
  dsimp only at v0' v1' v2' v3' v4'
  clear p12
  go_wp2_with (go_at_call 51; refine (HCk.out _).mono ?_; rintro r w13 ⟨rfl, q13⟩; refine Hid.out ?_)
  refine Lib.hid ?_
  have p13 := HS12.out.on q13
  clear HS12 HCk q13 z0 z1 z2 hrl hnl v0 v1 v2 v3 v4 f1 f2 f4 r0 r1 v0' v1' v2' v3' v4'
  have p14 := p13.on (Below.refl w13.heap.size w13).drew
  have y0 := p13.z0.c0; have y1 := p13.z0.c1; have y2 := p13.z0.fr; have yl := p13.z0.lt
  have u0 := p13.z1.c0; have u1 := p13.z1.c1; have u2 := p13.z1.c2; have u3 := p13.z1.c3; have u4 := p13.z1.c4; have g0 := p13.z1.f 0; have g1 := p13.z1.f 1; have g2 := p13.z1.f 2; have g3 := p13.z1.f 3; have g4 := p13.z1.f 4; have ul := p13.z1.lt
  dsimp only [zeroE] at u0 u1 u2 u3 u4
  have k1 := p13.rd.c1
  have HF := Lib.hid (p13.fin ⟨⟨s1.toArray⟩, t, o, ⟨s4.toArray⟩, u⟩)
  have HP := Lib.hid (And.intro p14.rd p14.en)
  have HK2 := Lib.hid (And.intro ((p13.rd.far ⟨W.heap.size + 1, 0, none⟩ (by show W.heap.size ≠ W.heap.size + 1; omega) (.slice a9 l6.length c9)).far ⟨W.heap.size + 1, 1, none⟩ (by show W.heap.size ≠ W.heap.size + 1; omega) (.int .i64 e6)) ((p13.en.other (p := ⟨W.heap.size + 1, 0, none⟩) (by show W.heap.size + 3 ≠ W.heap.size + 1; omega) (.slice a9 l6.length c9)).other (p := ⟨W.heap.size + 1, 1, none⟩) (by show W.heap.size + 3 ≠ W.heap.size + 1; omega) (.int .i64 e6)))
  have HK3 := Lib.hid (p13.fin2 ⟨⟨s1.toArray⟩, t, o, ⟨s4.toArray⟩, u⟩)
  unfold erEnd stE at HK3
  clear p13 p14
  go_wp2_with fail
  clear k1
  refine wp_region_any (by kernel_rfl) ?_
  change wpAny _ _ _ _ _ _ _ (World.drew _)
  have hS : (fun w' : World => Two w' W.heap.size 65 (.slice a9 l6.length c9) (.int .i64 e6) ∧ EBlk w' (W.heap.size + 3) ⟨⟨s1.toArray⟩, t, o, ⟨s4.toArray⟩, u⟩) w13.drew := HP.out
  refine wpAny_of_held (S := fun w' => Two w' W.heap.size 65 (.slice a9 l6.length c9) (.int .i64 e6) ∧ EBlk w' (W.heap.size + 3) ⟨⟨s1.toArray⟩, t, o, ⟨s4.toArray⟩, u⟩) _ _ _ _ ?_
  clear HP
  refine wpAnyH_takeE (i := 0) (some 64) (v := ?_) rfl rfl (by as_aux_lemma => kernel_rfl) (by as_aux_lemma => kernel_rfl) (by as_aux_lemma => kernel_rfl) (fun _ _ _ h => h) (Or.inl ⟨by kernel_rfl, ?_⟩) hS ?_
  rotate_left
  · intro w hSw; have r0 := hSw.1.c0; have r1 := hSw.1.c1; go_simp
    first | done | with_reducible rfl
  refine wpAnyH_takeE (i := 1) (some 65) (v := ?_) rfl rfl (by as_aux_lemma => kernel_rfl) (by as_aux_lemma => kernel_rfl) (by as_aux_lemma => kernel_rfl) (fun _ _ _ h => h) (Or.inl ⟨by kernel_rfl, ?_⟩) hS ?_
  rotate_left
  · intro w hSw; have v0 := hSw.2.c0; have v1 := hSw.2.c1; have v2 := hSw.2.c2; have v3 := hSw.2.c3; have v4 := hSw.2.c4; dsimp only at v0 v1 v2 v3 v4; go_simp
    first | done | with_reducible rfl
  refine wpAnyH_ready (rs := [2]) (by as_aux_lemma => kernel_rfl) (by simp) ?_
  refine AllReadyH.cons rfl (fun K hK => ?_) AllReadyH.nil
  go_simp
  go_wp2_with (fail)
  refine hK.out _ _ ?_ (fun hS => ?_)
  · exact ⟨HK2.out.1.drewn, HK2.out.2.drewn⟩
  clear hK K
  refine wpAnyH_ready (rs := [3]) (by as_aux_lemma => kernel_rfl) (by simp) ?_
  refine AllReadyH.cons rfl (fun K hK => ?_) AllReadyH.nil
  go_simp
  go_wp2_with (fail)
  refine hK.out _ _ ?_ (fun hS => ?_)
  · exact ⟨HK3.out.1.drewn, HK3.out.2.drewn⟩
  clear hK K
  refine wpAnyH_done (by kernel_rfl) ?_ _
  clear hS
  unfold erEnd stE at HF
  go_simp
  go_wp2
  refine bodyPost_ret (v := .tuple #[.agg #[.slice a9 l6.length c9, .int .i64 e6], .agg #[.string ⟨s1.toArray⟩, .int .i64 t, .int .u16 o, .string ⟨s4.toArray⟩, .int .i64 u]]) (by obtain ⟨hf0, hf1, -⟩ := HF.out; have k0 := hf0.c0; have k1 := hf0.c1; have j0 := hf1.c0; have j1 := hf1.c1; have j2 := hf1.c2; have j3 := hf1.c3; have j4 := hf1.c4; dsimp only at j0 j1 j2 j3 j4; simp [results, Tryd.results36, go_sem, k0, k1, j0, j1, j2, j3, j4]) rfl ?_
  exact ⟨a9, c9, rfl, HX9.out, HF.out.2.2.drew⟩
theorem eRefRead_any {V W : World} {a : Option Addr} {c : Nat} {l l0 l1 l2 l3 l4 l5 l6 s1 s4 : List UInt8} {e e0 e1 e2 e3 e4 e5 e6 t o u : Int} (hx : XW V a c l e) (hw : Below V.heap.size V W) (h0 : byteE 108 e l = (l0, e0)) (h1 : textE 1024 e0 l0 = (l1, e1, s1)) (h2 : intE e1 l1 = (l2, e2, t)) (h3 : intE e2 l2 = (l3, e3, o)) (h4 : textE 8192 e3 l3 = (l4, e4, s4)) (h5 : intE e4 l4 = (l5, e5, u)) (h6 : byteE 101 e5 l5 = (l6, e6)) :
    Calls Tryd.prog 36 #[.agg #[.slice a l.length c, .int .i64 e]] W (ErPost V W l6 e6 (if e6 ≠ 0 ∨ o < 0 ∨ 65535 < o ∨ checkEn ⟨⟨s1.toArray⟩, t, o, ⟨s4.toArray⟩, u⟩ ≠ 0 then zeroE else ⟨⟨s1.toArray⟩, t, o, ⟨s4.toArray⟩, u⟩)) := by
  by_cases g1 : e6 = 0
  case neg => rw [if_pos (.inl g1)]; exact eRefRead_err hx hw h0 h1 h2 h3 h4 h5 h6 g1
  by_cases g2 : o < 0
  · rw [if_pos (.inr (.inl g2))]; exact eRefRead_neg hx hw h0 h1 h2 h3 h4 h5 h6 g1 g2
  by_cases g3 : 65535 < o
  · rw [if_pos (.inr (.inr (.inl g3)))]; exact eRefRead_big hx hw h0 h1 h2 h3 h4 h5 h6 g1 g2 g3
  by_cases g4 : checkEn ⟨⟨s1.toArray⟩, t, o, ⟨s4.toArray⟩, u⟩ = 0
  · rw [if_neg (by simp [g1, g2, g3, g4])]; exact eRefRead_ok hx hw h0 h1 h2 h3 h4 h5 h6 g1 g2 g3 g4
  · rw [if_pos (.inr (.inr (.inr g4)))]; exact eRefRead_bad hx hw h0 h1 h2 h3 h4 h5 h6 g1 g2 g3 g4


/-- What stands behind the head, and behind the members. -/
def tailE (P : Pk) : List UInt8 := putList (P.es.map putEn) ++ [101]
def tailM (P : Pk) : List UInt8 := putList (P.ms.map layM) ++ tailE P
theorem lay_parts (P : Pk) : layPk P = 108 :: (putInt P.k ++ (putInt P.f ++ (putInt P.a ++ (putInt P.q ++ tailM P)))) := by simp [layPk, partsPk, putList, tailM, tailE]
theorem tailM_eq (P : Pk) : tailM P = 108 :: ((P.ms.map layM).flatten ++ 101 :: tailE P) := by simp [tailM, putList]
theorem tailE_eq (P : Pk) : tailE P = 108 :: ((P.es.map putEn).flatten ++ [101, 101]) := by simp [tailE, putList]
theorem readOk_lay {b : List UInt8} (h : readOk b) : b = 108 :: (putInt (rdPk b).k ++ (putInt (rdPk b).f ++ (putInt (rdPk b).a ++ (putInt (rdPk b).q ++ tailM (rdPk b))))) := by
  rw [← lay_parts]; exact h.2.2.symm
/-- The bytes left are those behind so many members. -/
def OkM (P : Pk) (acc : List Mem) (l : List UInt8) (e : Int) : Prop := ∃ k, k ≤ P.ms.length ∧ acc = P.ms.take k ∧ l = ((P.ms.drop k).map layM).flatten ++ 101 :: tailE P ∧ e = 0
def OkE (P : Pk) (acc : List Ent) (l : List UInt8) (e : Int) : Prop := ∃ k, k ≤ P.es.length ∧ acc = P.es.take k ∧ l = ((P.es.drop k).map putEn).flatten ++ [101, 101] ∧ e = 0
theorem OkM.start (P : Pk) : OkM P [] ((P.ms.map layM).flatten ++ 101 :: tailE P) 0 := ⟨0, Nat.zero_le _, rfl, rfl, rfl⟩
theorem OkE.start (P : Pk) : OkE P [] ((P.es.map putEn).flatten ++ [101, 101]) 0 := ⟨0, Nat.zero_le _, rfl, rfl, rfl⟩
theorem OkM.out {P : Pk} {acc : List Mem} {l : List UInt8} {e : Int} (h : OkM P acc l e) (hm : moreB l = false) : acc = P.ms ∧ l = 101 :: tailE P ∧ e = 0 := by
  obtain ⟨k, hk, rfl, rfl, rfl⟩ := h
  by_cases hl : k < P.ms.length
  · exfalso
    rw [List.drop_eq_getElem_cons hl, List.map_cons, List.flatten_cons] at hm
    generalize ((P.ms.drop (k + 1)).map layM).flatten = R0 at hm
    simp [layM, putList, moreB] at hm
  · have : k = P.ms.length := by omega
    subst this
    simp
theorem OkE.out {P : Pk} {acc : List Ent} {l : List UInt8} {e : Int} (h : OkE P acc l e) (hm : moreB l = false) : acc = P.es ∧ l = [101, 101] ∧ e = 0 := by
  obtain ⟨k, hk, rfl, rfl, rfl⟩ := h
  by_cases hl : k < P.es.length
  · exfalso
    rw [List.drop_eq_getElem_cons hl, List.map_cons, List.flatten_cons] at hm
    generalize ((P.es.drop (k + 1)).map putEn).flatten = R0 at hm
    simp [putEn, putList, moreB] at hm
  · have : k = P.es.length := by omega
    subst this
    simp
theorem OkM.round {P : Pk} (hP : P.Ok) (hc : checkP P = 0) {acc : List Mem} {l l0 l1 l2 l3 l4 : List UInt8} {e e0 e1 e2 e3 e4 n s i : Int} (h : OkM P acc l e) (hm : moreB l = true)
    (b0 : byteE 108 e l = (l0, e0)) (b1 : intE e0 l0 = (l1, e1, n)) (b2 : intE e1 l1 = (l2, e2, s)) (b3 : intE e2 l2 = (l3, e3, i)) (b4 : byteE 101 e3 l3 = (l4, e4)) :
    (0 ≤ n ∧ n ≤ 255) ∧ (0 ≤ s ∧ s ≤ 255) ∧ 0 ≤ i ∧ OkM P (acc ++ [⟨n, s, i⟩]) l4 e4 := by
  obtain ⟨k, hk, rfl, rfl, rfl⟩ := h
  by_cases hl : k < P.ms.length
  · have hx := hP.ms _ (List.getElem_mem hl)
    have hb : badM P.ms[k] = false := by
      have h9 := (checkP_zero hc).2.1
      simp only [memsP, Bool.and_eq_true, Bool.not_eq_true', List.any_eq_false] at h9
      simpa using h9.2 _ (List.getElem_mem hl)
    have e9 : ((P.ms.drop k).map layM).flatten ++ 101 :: tailE P = 108 :: (putInt P.ms[k].n ++ (putInt P.ms[k].s ++ (putInt P.ms[k].i ++ 101 :: (((P.ms.drop (k + 1)).map layM).flatten ++ 101 :: tailE P)))) := by
      rw [List.drop_eq_getElem_cons hl, List.map_cons, List.flatten_cons]; generalize ((P.ms.drop (k + 1)).map layM).flatten = R0; simp [layM, partsM, putList]
    have ht : P.ms.take (k + 1) = P.ms.take k ++ [P.ms[k]] := List.take_succ_eq_append_getElem hl
    rw [e9, byte_here] at b0
    obtain ⟨rfl, rfl⟩ := Prod.mk.inj b0
    rw [int_here _ (by have := hx.1; omega) (by have := hx.1; omega)] at b1
    simp only [Prod.mk.injEq] at b1
    obtain ⟨rfl, rfl, rfl⟩ := b1
    rw [int_here _ (by have := hx.2.1; omega) (by have := hx.2.1; omega)] at b2
    simp only [Prod.mk.injEq] at b2
    obtain ⟨rfl, rfl, rfl⟩ := b2
    rw [int_here _ hx.2.2.1 hx.2.2.2] at b3
    simp only [Prod.mk.injEq] at b3
    obtain ⟨rfl, rfl, rfl⟩ := b3
    rw [byte_here] at b4
    obtain ⟨rfl, rfl⟩ := Prod.mk.inj b4
    simp only [badM, Bool.or_eq_false_iff, decide_eq_false_iff_not] at hb
    exact ⟨⟨hx.1.1, by omega⟩, hx.2.1, by omega, k + 1, hl, ht.symm ▸ rfl, rfl, rfl⟩
  · exfalso
    have : k = P.ms.length := by omega
    subst this
    simp [moreB] at hm
theorem OkE.round {P : Pk} (hP : P.Ok) (hc : checkP P = 0) {acc : List Ent} {l l0 l1 l2 l3 l4 l5 l6 s1 s4 : List UInt8} {e e0 e1 e2 e3 e4 e5 e6 t o u : Int} (h : OkE P acc l e) (hm : moreB l = true)
    (h0 : byteE 108 e l = (l0, e0)) (h1 : textE 1024 e0 l0 = (l1, e1, s1)) (h2 : intE e1 l1 = (l2, e2, t)) (h3 : intE e2 l2 = (l3, e3, o)) (h4 : textE 8192 e3 l3 = (l4, e4, s4)) (h5 : intE e4 l4 = (l5, e5, u)) (h6 : byteE 101 e5 l5 = (l6, e6)) :
    OkE P (acc ++ [if e6 ≠ 0 ∨ o < 0 ∨ 65535 < o ∨ checkEn ⟨⟨s1.toArray⟩, t, o, ⟨s4.toArray⟩, u⟩ ≠ 0 then zeroE else ⟨⟨s1.toArray⟩, t, o, ⟨s4.toArray⟩, u⟩]) l6 e6 := by
  obtain ⟨k, hk, rfl, rfl, rfl⟩ := h
  by_cases hl : k < P.es.length
  · have hx := hP.es _ (List.getElem_mem hl)
    have hz := entsP_all (checkP_zero hc).2.2.2.1 _ (List.getElem_mem hl)
    have hs := checkEn_small hz
    have ht : P.es.take (k + 1) = P.es.take k ++ [P.es[k]] := List.take_succ_eq_append_getElem hl
    have e9 : ((P.es.drop k).map putEn).flatten ++ [101, 101] = 108 :: (putText P.es[k].k.data.toList ++ (putInt P.es[k].t ++ (putInt P.es[k].o ++ (putText P.es[k].v.data.toList ++ (putInt P.es[k].u ++ 101 :: (((P.es.drop (k + 1)).map putEn).flatten ++ [101, 101])))))) := by
      rw [List.drop_eq_getElem_cons hl, List.map_cons, List.flatten_cons]; generalize ((P.es.drop (k + 1)).map putEn).flatten = R0; simp [putEn_eq]
    rw [e9] at h0
    obtain ⟨R, hR⟩ : ∃ R, R = ((P.es.drop (k + 1)).map putEn).flatten ++ [101, 101] := ⟨_, rfl⟩
    rw [← hR] at h0
    generalize hX : P.es[k] = X at *
    have n1 : X.k.data.toList.length = X.k.size := rfl
    have n2 : X.v.data.toList.length = X.v.size := rfl
    rw [byte_here] at h0
    obtain ⟨rfl, rfl⟩ := Prod.mk.inj h0
    have k1 : textE 1024 0 (putText X.k.data.toList ++ (putInt X.t ++ (putInt X.o ++ (putText X.v.data.toList ++ (putInt X.u ++ 101 :: R))))) = _ := read_putText _ (by omega) _ (by omega) _
    rw [k1] at h1
    simp only [Prod.mk.injEq] at h1
    obtain ⟨rfl, rfl, rfl⟩ := h1
    rw [int_here _ hx.1.1 hx.1.2] at h2
    simp only [Prod.mk.injEq] at h2
    obtain ⟨rfl, rfl, rfl⟩ := h2
    rw [int_here _ (by have := hx.2.1; omega) (by have := hx.2.1; omega)] at h3
    simp only [Prod.mk.injEq] at h3
    obtain ⟨rfl, rfl, rfl⟩ := h3
    have k4 : textE 8192 0 (putText X.v.data.toList ++ (putInt X.u ++ 101 :: R)) = _ := read_putText _ (by omega) _ (by omega) _
    rw [k4] at h4
    simp only [Prod.mk.injEq] at h4
    obtain ⟨rfl, rfl, rfl⟩ := h4
    rw [int_here _ hx.2.2.1 hx.2.2.2] at h5
    simp only [Prod.mk.injEq] at h5
    obtain ⟨rfl, rfl, rfl⟩ := h5
    rw [byte_here] at h6
    obtain ⟨rfl, rfl⟩ := Prod.mk.inj h6
    have hq : (⟨⟨X.k.data.toList.toArray⟩, X.t, X.o, ⟨X.v.data.toList.toArray⟩, X.u⟩ : Ent) = X := by obtain ⟨k, t, o, v, u⟩ := X; rfl
    rw [hq, if_neg (by rw [hz]; have := hx.2.1; simp only [ne_eq, not_true, false_or, or_false]; omega)]
    exact ⟨k + 1, hl, by rw [ht], hR, rfl⟩
  · exfalso
    have : k = P.es.length := by omega
    subst this
    simp [moreB] at hm


/-- A block of 4 numbers. -/
def Four (w : World) (X : Nat) (a b c d : Int) : Prop := w.heap[X]? = some (.cells #[.int .i64 a, .int .i64 b, .int .i64 c, .int .i64 d] 63 (0, 0))
theorem Four.lt {w : World} {X : Nat} {a b c d : Int} (h : Four w X a b c d) : X < w.heap.size := ltE h
theorem Four.on {w w' : World} {X : Nat} {a b c d : Int} (h : Four w X a b c d) (hb : Below w.heap.size w w') : Four w' X a b c d := (hb.block X h.lt).trans h
theorem Four.new (w : World) (a b c d : Int) : Four (w.alloc (.cells #[.int .i64 a, .int .i64 b, .int .i64 c, .int .i64 d] 63)) w.heap.size a b c d := newE w _
theorem Four.c0 {w : World} {X : Nat} {a b c d : Int} (h : Four w X a b c d) : w.cell? ⟨X, 0, none⟩ = some (.int .i64 a) := cellE h
theorem Four.c1 {w : World} {X : Nat} {a b c d : Int} (h : Four w X a b c d) : w.cell? ⟨X, 1, none⟩ = some (.int .i64 b) := cellE h
theorem Four.c2 {w : World} {X : Nat} {a b c d : Int} (h : Four w X a b c d) : w.cell? ⟨X, 2, none⟩ = some (.int .i64 c) := cellE h
theorem Four.c3 {w : World} {X : Nat} {a b c d : Int} (h : Four w X a b c d) : w.cell? ⟨X, 3, none⟩ = some (.int .i64 d) := cellE h
theorem Four.f {w : World} {X : Nat} {a b c d : Int} (h : Four w X a b c d) (j : Nat) : w.frozen? ⟨X, j, none⟩ = false := by
  unfold Four at h
  simp [World.frozen?, h]
theorem Four.set0 {w : World} {X : Nat} {a b c d : Int} (h : Four w X a b c d) (z : Int) : Four (w.setCell ⟨X, 0, none⟩ (.int .i64 z)) X z b c d := by
  unfold Four at h ⊢
  simp [World.setCell, Array.getElem?_modify, h]
theorem Four.set1 {w : World} {X : Nat} {a b c d : Int} (h : Four w X a b c d) (z : Int) : Four (w.setCell ⟨X, 1, none⟩ (.int .i64 z)) X a z c d := by
  unfold Four at h ⊢
  simp [World.setCell, Array.getElem?_modify, h]
theorem Four.set2 {w : World} {X : Nat} {a b c d : Int} (h : Four w X a b c d) (z : Int) : Four (w.setCell ⟨X, 2, none⟩ (.int .i64 z)) X a b z d := by
  unfold Four at h ⊢
  simp [World.setCell, Array.getElem?_modify, h]
theorem Four.set3 {w : World} {X : Nat} {a b c d : Int} (h : Four w X a b c d) (z : Int) : Four (w.setCell ⟨X, 3, none⟩ (.int .i64 z)) X a b c z := by
  unfold Four at h ⊢
  simp [World.setCell, Array.getElem?_modify, h]
theorem Four.other {w : World} {X : Nat} {a b c d : Int} (h : Four w X a b c d) {p : Addr} (hp : X ≠ p.block) (v : Value) : Four (w.setCell p v) X a b c d := (Below.heap_setCell w p v X hp).trans h
theorem Four.grown {w w' : World} {X : Nat} {a b c d : Int} {r : Option Nat} (h : Four w X a b c d) (hg : w.grownBy w' r) (hr : some X ≠ r) : Four w' X a b c d := (hg.block X h.lt hr).trans h
/-- A block of 3 numbers. -/
def Three (w : World) (X : Nat) (a b c : Int) : Prop := w.heap[X]? = some (.cells #[.int .i64 a, .int .i64 b, .int .i64 c] 69 (0, 0))
theorem Three.lt {w : World} {X : Nat} {a b c : Int} (h : Three w X a b c) : X < w.heap.size := ltE h
theorem Three.on {w w' : World} {X : Nat} {a b c : Int} (h : Three w X a b c) (hb : Below w.heap.size w w') : Three w' X a b c := (hb.block X h.lt).trans h
theorem Three.new (w : World) (a b c : Int) : Three (w.alloc (.cells #[.int .i64 a, .int .i64 b, .int .i64 c] 69)) w.heap.size a b c := newE w _
theorem Three.c0 {w : World} {X : Nat} {a b c : Int} (h : Three w X a b c) : w.cell? ⟨X, 0, none⟩ = some (.int .i64 a) := cellE h
theorem Three.c1 {w : World} {X : Nat} {a b c : Int} (h : Three w X a b c) : w.cell? ⟨X, 1, none⟩ = some (.int .i64 b) := cellE h
theorem Three.c2 {w : World} {X : Nat} {a b c : Int} (h : Three w X a b c) : w.cell? ⟨X, 2, none⟩ = some (.int .i64 c) := cellE h
theorem Three.f {w : World} {X : Nat} {a b c : Int} (h : Three w X a b c) (j : Nat) : w.frozen? ⟨X, j, none⟩ = false := by
  unfold Three at h
  simp [World.frozen?, h]
theorem Three.set0 {w : World} {X : Nat} {a b c : Int} (h : Three w X a b c) (z : Int) : Three (w.setCell ⟨X, 0, none⟩ (.int .i64 z)) X z b c := by
  unfold Three at h ⊢
  simp [World.setCell, Array.getElem?_modify, h]
theorem Three.set1 {w : World} {X : Nat} {a b c : Int} (h : Three w X a b c) (z : Int) : Three (w.setCell ⟨X, 1, none⟩ (.int .i64 z)) X a z c := by
  unfold Three at h ⊢
  simp [World.setCell, Array.getElem?_modify, h]
theorem Three.set2 {w : World} {X : Nat} {a b c : Int} (h : Three w X a b c) (z : Int) : Three (w.setCell ⟨X, 2, none⟩ (.int .i64 z)) X a b z := by
  unfold Three at h ⊢
  simp [World.setCell, Array.getElem?_modify, h]
theorem Three.other {w : World} {X : Nat} {a b c : Int} (h : Three w X a b c) {p : Addr} (hp : X ≠ p.block) (v : Value) : Three (w.setCell p v) X a b c := (Below.heap_setCell w p v X hp).trans h
theorem Three.grown {w w' : World} {X : Nat} {a b c : Int} {r : Option Nat} (h : Three w X a b c) (hg : w.grownBy w' r) (hr : some X ≠ r) : Three w' X a b c := (hg.block X h.lt hr).trans h
theorem Four.drewn {w : World} {X : Nat} {a b c d : Int} (h : Four w X a b c d) : Four w.drew X a b c d := h
/-- The answer, the packet, the numbers, the reader, the members. -/
structure YrSt (W w : World) (R : Nat) (a : Option Addr) (c : Nat) (l : List UInt8) (e : Int) (k f x q : Int) (am : Option Addr) (nm cm : Nat) (ae : Option Addr) (ne ce : Nat) (n0 n1 n2 n3 : Int) (ms : List Mem) : Prop where
  zr : PkBlk w W.heap.size 0 0 0 0 none 0 0 none 0 0
  pv : PkBlk w (W.heap.size + 1) k f x q am nm cm ae ne ce
  nv : Four w (W.heap.size + 2) n0 n1 n2 n3
  rd : Two w R 65 (.slice a l.length c) (.int .i64 e)
  xs : XW W a c l e
  lt : W.heap.size + 2 < R
  om : OwnMx w (R + 1) (.slice am nm cm) ms
  hm : nm = ms.length
  low : Below W.heap.size W w
theorem YrSt.on {w' : World} {W w : World} {R : Nat} {a : Option Addr} {c : Nat} {l : List UInt8} {e : Int} {k f x q : Int} {am : Option Addr} {nm cm : Nat} {ae : Option Addr} {ne ce : Nat} {n0 n1 n2 n3 : Int} {ms : List Mem} (h : YrSt W w R a c l e k f x q am nm cm ae ne ce n0 n1 n2 n3 ms) (hb : Below w.heap.size w w') : YrSt W w' R a c l e k f x q am nm cm ae ne ce n0 n1 n2 n3 ms :=
  ⟨h.zr.on hb, h.pv.on hb, h.nv.on hb, h.rd.below hb h.rd.lt, h.xs, h.lt, h.om.on hb, h.hm, h.low.trans (hb.mono h.low.size)⟩
theorem YrSt.far {W w : World} {R : Nat} {a : Option Addr} {c : Nat} {l : List UInt8} {e : Int} {k f x q : Int} {am : Option Addr} {nm cm : Nat} {ae : Option Addr} {ne ce : Nat} {n0 n1 n2 n3 : Int} {ms : List Mem} (h : YrSt W w R a c l e k f x q am nm cm ae ne ce n0 n1 n2 n3 ms) (p : Addr) (v : Value) (h0 : p.block ≠ W.heap.size) (h1 : p.block ≠ W.heap.size + 1) (h2 : p.block ≠ W.heap.size + 2) (h3 : p.block ≠ R) (hom : OwnMx (w.setCell p v) (R + 1) (.slice am nm cm) ms) (hw : W.heap.size ≤ p.block) : YrSt W (w.setCell p v) R a c l e k f x q am nm cm ae ne ce n0 n1 n2 n3 ms :=
  ⟨h.zr.other (fun e => h0 e.symm) v, h.pv.other (fun e => h1 e.symm) v, h.nv.other (fun e => h2 e.symm) v, h.rd.far p (fun e => h3 e.symm) v, h.xs, h.lt, hom, h.hm, h.low.setCell hw v⟩
theorem YrSt.put {a1 : Option Addr} {c1 : Nat} {l1 : List UInt8} {e1 : Int} {W w : World} {R : Nat} {a : Option Addr} {c : Nat} {l : List UInt8} {e : Int} {k f x q : Int} {am : Option Addr} {nm cm : Nat} {ae : Option Addr} {ne ce : Nat} {n0 n1 n2 n3 : Int} {ms : List Mem} (h : YrSt W w R a c l e k f x q am nm cm ae ne ce n0 n1 n2 n3 ms) (h1 : XW W a1 c1 l1 e1) :
    YrSt W ((w.setCell ⟨R, 0, none⟩ (.slice a1 l1.length c1)).setCell ⟨R, 1, none⟩ (.int .i64 e1)) R a1 c1 l1 e1 k f x q am nm cm ae ne ce n0 n1 n2 n3 ms := by
  have hl := h.lt
  exact ⟨(h.zr.other (p := ⟨R, 0, none⟩) (by show W.heap.size ≠ R; omega) _).other (p := ⟨R, 1, none⟩) (by show W.heap.size ≠ R; omega) _,
    (h.pv.other (p := ⟨R, 0, none⟩) (by show W.heap.size + 1 ≠ R; omega) _).other (p := ⟨R, 1, none⟩) (by show W.heap.size + 1 ≠ R; omega) _,
    (h.nv.other (p := ⟨R, 0, none⟩) (by show W.heap.size + 2 ≠ R; omega) _).other (p := ⟨R, 1, none⟩) (by show W.heap.size + 2 ≠ R; omega) _,
    (h.rd.set0 _).set1 _, h1, h.lt, (h.om.turn (grownBy_setCell _ R 0 _) (by omega)).turn (grownBy_setCell _ R 1 _) (by omega), h.hm,
    (h.low.setCell (p := ⟨R, 0, none⟩) (by show W.heap.size ≤ R; omega) _).setCell (p := ⟨R, 1, none⟩) (by show W.heap.size ≤ R; omega) _⟩
theorem YrSt.num {z0 z1 z2 z3 : Int} {W w : World} {R : Nat} {a : Option Addr} {c : Nat} {l : List UInt8} {e : Int} {k f x q : Int} {am : Option Addr} {nm cm : Nat} {ae : Option Addr} {ne ce : Nat} {n0 n1 n2 n3 : Int} {ms : List Mem} (h : YrSt W w R a c l e k f x q am nm cm ae ne ce n0 n1 n2 n3 ms) (j : Nat) (v : Value) (hy : Four (w.setCell ⟨W.heap.size + 2, j, none⟩ v) (W.heap.size + 2) z0 z1 z2 z3) : YrSt W (w.setCell ⟨W.heap.size + 2, j, none⟩ v) R a c l e k f x q am nm cm ae ne ce z0 z1 z2 z3 ms := by
  have hl := h.lt
  exact ⟨h.zr.other (p := ⟨W.heap.size + 2, j, none⟩) (by show W.heap.size ≠ W.heap.size + 2; omega) _, h.pv.other (p := ⟨W.heap.size + 2, j, none⟩) (by show W.heap.size + 1 ≠ W.heap.size + 2; omega) _, hy,
    h.rd.far ⟨W.heap.size + 2, j, none⟩ (by show R ≠ W.heap.size + 2; omega) _, h.xs, h.lt, h.om.turn (grownBy_setCell _ (W.heap.size + 2) j _) (by omega), h.hm, h.low.setCell (p := ⟨W.heap.size + 2, j, none⟩) (by show W.heap.size ≤ W.heap.size + 2; omega) _⟩
theorem YrSt.pkt {k' f' x' q' : Int} {am' : Option Addr} {nm' cm' : Nat} {ae' : Option Addr} {ne' ce' : Nat} {ms' : List Mem} {W w : World} {R : Nat} {a : Option Addr} {c : Nat} {l : List UInt8} {e : Int} {k f x q : Int} {am : Option Addr} {nm cm : Nat} {ae : Option Addr} {ne ce : Nat} {n0 n1 n2 n3 : Int} {ms : List Mem} (h : YrSt W w R a c l e k f x q am nm cm ae ne ce n0 n1 n2 n3 ms) (j : Nat) (v : Value) (hy : PkBlk (w.setCell ⟨W.heap.size + 1, j, none⟩ v) (W.heap.size + 1) k' f' x' q' am' nm' cm' ae' ne' ce') (ho : OwnMx w (R + 1) (.slice am' nm' cm') ms') (hm : nm' = ms'.length) : YrSt W (w.setCell ⟨W.heap.size + 1, j, none⟩ v) R a c l e k' f' x' q' am' nm' cm' ae' ne' ce' n0 n1 n2 n3 ms' := by
  have hl := h.lt
  exact ⟨h.zr.other (p := ⟨W.heap.size + 1, j, none⟩) (by show W.heap.size ≠ W.heap.size + 1; omega) _, hy, h.nv.other (p := ⟨W.heap.size + 1, j, none⟩) (by show W.heap.size + 2 ≠ W.heap.size + 1; omega) _,
    h.rd.far ⟨W.heap.size + 1, j, none⟩ (by show R ≠ W.heap.size + 1; omega) _, h.xs, h.lt, ho.turn (grownBy_setCell _ (W.heap.size + 1) j _) (by omega), hm, h.low.setCell (p := ⟨W.heap.size + 1, j, none⟩) (by show W.heap.size ≤ W.heap.size + 1; omega) _⟩
theorem OwnMx.skip {w : World} {B g j : Nat} {v x : Value} {L : List Mem} (h : OwnMx w B v L) (hne : v.ownBlock ≠ some g) : OwnMx (w.setCell ⟨g, j, none⟩ x) B v L := World.ownsRow.kept h (grownBy_setCell w g j x) (.inr hne)
theorem OwnEx.skip {w : World} {B g j : Nat} {v x : Value} {L : List Ent} (h : OwnEx w B v L) (hne : v.ownBlock ≠ some g) : OwnEx (w.setCell ⟨g, j, none⟩ x) B v L := World.ownsRow.kept h (grownBy_setCell w g j x) (.inr hne)
/-- A row of the call's own grows. -/
theorem YrSt.row {w' : World} {W w : World} {R : Nat} {a : Option Addr} {c : Nat} {l : List UInt8} {e : Int} {k f x q : Int} {am : Option Addr} {nm cm : Nat} {ae : Option Addr} {ne ce : Nat} {n0 n1 n2 n3 : Int} {ms : List Mem} {r : Option Nat} (h : YrSt W w R a c l e k f x q am nm cm ae ne ce n0 n1 n2 n3 ms) (hg : w.grownBy w' r) (hr : ∀ j, r = some j → R + 1 ≤ j) (hom : OwnMx w' (R + 1) (.slice am nm cm) ms) : YrSt W w' R a c l e k f x q am nm cm ae ne ce n0 n1 n2 n3 ms := by
  have hl := h.lt
  exact ⟨h.zr.grown hg (fun e => by have := hr _ e.symm; omega), h.pv.grown hg (fun e => by have := hr _ e.symm; omega), h.nv.grown hg (fun e => by have := hr _ e.symm; omega),
    h.rd.grown hg (fun e => by have := hr _ e.symm; omega), h.xs, h.lt, hom, h.hm, h.low.grown hg h.low.size (fun j hj => by have := hr j hj; omega)⟩
/-- The same but for the members, which are about to be told. -/
theorem YrSt.rowM {w' : World} {W w : World} {R : Nat} {a : Option Addr} {c : Nat} {l : List UInt8} {e : Int} {k f x q : Int} {am : Option Addr} {nm cm : Nat} {ae : Option Addr} {ne ce : Nat} {n0 n1 n2 n3 : Int} {ms : List Mem} {r : Option Nat} {am' : Option Addr} {nm' cm' : Nat} {ms' : List Mem} (h : YrSt W w R a c l e k f x q am nm cm ae ne ce n0 n1 n2 n3 ms) (hg : w.grownBy w' r) (hr : ∀ j, r = some j → R + 1 ≤ j) (hom : OwnMx w' (R + 1) (.slice am' nm' cm') ms') (hm : nm' = ms'.length) :
    YrSt W (w'.setCell ⟨W.heap.size + 1, 4, none⟩ (.slice am' nm' cm')) R a c l e k f x q am' nm' cm' ae ne ce n0 n1 n2 n3 ms' := by
  have hl := h.lt
  have pv := h.pv.grown hg (fun e => by have := hr _ e.symm; omega)
  exact ⟨(h.zr.grown hg (fun e => by have := hr _ e.symm; omega)).other (p := ⟨W.heap.size + 1, 4, none⟩) (by show W.heap.size ≠ W.heap.size + 1; omega) _, pv.set4 am' nm' cm', (h.nv.grown hg (fun e => by have := hr _ e.symm; omega)).other (p := ⟨W.heap.size + 1, 4, none⟩) (by show W.heap.size + 2 ≠ W.heap.size + 1; omega) _,
    (h.rd.grown hg (fun e => by have := hr _ e.symm; omega)).far ⟨W.heap.size + 1, 4, none⟩ (by show R ≠ W.heap.size + 1; omega) _, h.xs, h.lt, hom.turn (grownBy_setCell _ (W.heap.size + 1) 4 _) (by omega), hm, (h.low.grown hg h.low.size (fun j hj => by have := hr j hj; omega)).setCell (p := ⟨W.heap.size + 1, 4, none⟩) (by show W.heap.size ≤ W.heap.size + 1; omega) _⟩
theorem YrSt.ste {y : Ent} {E : Nat} {W w : World} {R : Nat} {a : Option Addr} {c : Nat} {l : List UInt8} {e : Int} {k f x q : Int} {am : Option Addr} {nm cm : Nat} {ae : Option Addr} {ne ce : Nat} {n0 n1 n2 n3 : Int} {ms : List Mem} (h : YrSt W w R a c l e k f x q am nm cm ae ne ce n0 n1 n2 n3 ms) (h0 : E ≠ W.heap.size) (h1 : E ≠ W.heap.size + 1) (h2 : E ≠ W.heap.size + 2) (h3 : E ≠ R) (hm : (Value.slice am nm cm).ownBlock ≠ some E) (hw : W.heap.size ≤ E) : YrSt W (stE w E y) R a c l e k f x q am nm cm ae ne ce n0 n1 n2 n3 ms := by
  have s1 := h.far ⟨E, 0, none⟩ (.string y.k) h0 h1 h2 h3 (h.om.skip hm) hw
  have s2 := s1.far ⟨E, 1, none⟩ (.int .i64 y.t) h0 h1 h2 h3 (s1.om.skip hm) hw
  have s3 := s2.far ⟨E, 2, none⟩ (.int .u16 y.o) h0 h1 h2 h3 (s2.om.skip hm) hw
  have s4 := s3.far ⟨E, 3, none⟩ (.string y.v) h0 h1 h2 h3 (s3.om.skip hm) hw
  exact s4.far ⟨E, 4, none⟩ (.int .i64 y.u) h0 h1 h2 h3 (s4.om.skip hm) hw
/-- The entries are about to be told. -/
theorem YrSt.rowE {w' : World} {W w : World} {R : Nat} {a : Option Addr} {c : Nat} {l : List UInt8} {e : Int} {k f x q : Int} {am : Option Addr} {nm cm : Nat} {ae : Option Addr} {ne ce : Nat} {n0 n1 n2 n3 : Int} {ms : List Mem} {r : Option Nat} {ae' : Option Addr} {ne' ce' : Nat} (h : YrSt W w R a c l e k f x q am nm cm ae ne ce n0 n1 n2 n3 ms) (hg : w.grownBy w' r) (hr : ∀ j, r = some j → R + 1 ≤ j) (hmr : ∀ g, (Value.slice am nm cm).ownBlock = some g → r ≠ some g) :
    YrSt W (w'.setCell ⟨W.heap.size + 1, 5, none⟩ (.slice ae' ne' ce')) R a c l e k f x q am nm cm ae' ne' ce' n0 n1 n2 n3 ms := by
  have hl := h.lt
  have pv := h.pv.grown hg (fun e => by have := hr _ e.symm; omega)
  have hom : OwnMx w' (R + 1) (.slice am nm cm) ms := World.ownsRow.kept h.om hg (by
    rcases hv : (Value.slice am nm cm).ownBlock with - | g
    · exact .inl rfl
    · exact .inr (fun e => hmr g hv e.symm))
  exact ⟨(h.zr.grown hg (fun e => by have := hr _ e.symm; omega)).other (p := ⟨W.heap.size + 1, 5, none⟩) (by show W.heap.size ≠ W.heap.size + 1; omega) _, pv.set5 ae' ne' ce', (h.nv.grown hg (fun e => by have := hr _ e.symm; omega)).other (p := ⟨W.heap.size + 1, 5, none⟩) (by show W.heap.size + 2 ≠ W.heap.size + 1; omega) _,
    (h.rd.grown hg (fun e => by have := hr _ e.symm; omega)).far ⟨W.heap.size + 1, 5, none⟩ (by show R ≠ W.heap.size + 1; omega) _, h.xs, h.lt, hom.turn (grownBy_setCell _ (W.heap.size + 1) 5 _) (by omega), h.hm, (h.low.grown hg h.low.size (fun j hj => by have := hr j hj; omega)).setCell (p := ⟨W.heap.size + 1, 5, none⟩) (by show W.heap.size ≤ W.heap.size + 1; omega) _⟩
theorem YrSt.left {W w : World} {R : Nat} {a : Option Addr} {c : Nat} {l : List UInt8} {e : Int} {k f x q : Int} {am : Option Addr} {nm cm : Nat} {ae : Option Addr} {ne ce : Nat} {n0 n1 n2 n3 : Int} {ms : List Mem} (h : YrSt W w R a c l e k f x q am nm cm ae ne ce n0 n1 n2 n3 ms) : leftP R w = l.length := by
  unfold leftP
  rw [h.rd.c0]
/-- The answer is none. -/
theorem YrSt.none_ {W w : World} {R : Nat} {a : Option Addr} {c : Nat} {l : List UInt8} {e : Int} {k f x q : Int} {am : Option Addr} {nm cm : Nat} {ae : Option Addr} {ne ce : Nat} {n0 n1 n2 n3 : Int} {ms : List Mem} (h : YrSt W w R a c l e k f x q am nm cm ae ne ce n0 n1 n2 n3 ms) : PkBlk (stP w W.heap.size 0 0 0 0 none 0 0 none 0 0) W.heap.size 0 0 0 0 none 0 0 none 0 0 ∧ Below W.heap.size W (stP w W.heap.size 0 0 0 0 none 0 0 none 0 0) :=
  ⟨h.zr.store 0 0 0 0 Option.none 0 0 Option.none 0 0, stP_below h.low (Nat.le_refl _) 0 0 0 0 Option.none 0 0 Option.none 0 0⟩
/-- The entries. -/
structure YeSt (w : World) (B2 : Nat) (R : Nat) (am : Option Addr) (nm cm : Nat) (ae : Option Addr) (ne ce : Nat) (es : List Ent) : Prop where
  oe : OwnEx w B2 (.slice ae ne ce) es
  he : ne = es.length
  hb : R + 1 ≤ B2
  mb : ∀ g, (Value.slice am nm cm).ownBlock = some g → g < B2
  sz : B2 ≤ w.heap.size
theorem YeSt.on {w w' : World} {B2 R : Nat} {am : Option Addr} {nm cm : Nat} {ae : Option Addr} {ne ce : Nat} {es : List Ent} (h : YeSt w B2 R am nm cm ae ne ce es) (hb : Below w.heap.size w w') : YeSt w' B2 R am nm cm ae ne ce es := ⟨h.oe.on hb, h.he, h.hb, h.mb, Nat.le_trans h.sz hb.size⟩
theorem YeSt.put {w : World} {B2 R : Nat} {am : Option Addr} {nm cm : Nat} {ae : Option Addr} {ne ce : Nat} {es : List Ent} (h : YeSt w B2 R am nm cm ae ne ce es) (v1 v2 : Value) : YeSt ((w.setCell ⟨R, 0, none⟩ v1).setCell ⟨R, 1, none⟩ v2) B2 R am nm cm ae ne ce es := by
  have := h.hb
  exact ⟨(h.oe.turn (grownBy_setCell _ R 0 _) (by omega)).turn (grownBy_setCell _ R 1 _) (by omega), h.he, h.hb, h.mb, by rw [World.size_setCell, World.size_setCell]; exact h.sz⟩
theorem YeSt.ste {w : World} {B2 R E : Nat} {y : Ent} {am : Option Addr} {nm cm : Nat} {ae : Option Addr} {ne ce : Nat} {es : List Ent} (h : YeSt w B2 R am nm cm ae ne ce es) (hm : (Value.slice ae ne ce).ownBlock ≠ some E) : YeSt (stE w E y) B2 R am nm cm ae ne ce es :=
  ⟨((((h.oe.skip hm).skip hm).skip hm).skip hm).skip hm, h.he, h.hb, h.mb, by unfold stE; simp only [World.size_setCell]; exact h.sz⟩
theorem zeroE_ok6 : zeroE.Ok := ⟨by decide, by decide, by decide⟩
theorem stP_grown (V : World) (r : Nat) (k f a q : Int) (am : Option Addr) (nm cm : Nat) (ae : Option Addr) (ne ce : Nat) : V.grownBy (stP V r k f a q am nm cm ae ne ce) (some r) := grownBy_trans (grownBy_trans (grownBy_trans (grownBy_trans (grownBy_trans (grownBy_setCell V r _ _) (grownBy_setCell _ r _ _)) (grownBy_setCell _ r _ _)) (grownBy_setCell _ r _ _)) (grownBy_setCell _ r _ _)) (grownBy_setCell _ r _ _)
/-- What the reference's Read tells. -/
def YrPost (W : World) (b : List UInt8) (e : Ending) (w' : World) : Prop :=
  (readOk b → ∃ qm nqm cqm qe nqe cqe, e = .returned (.tuple #[.agg #[.int .u8 (rdPk b).k, .int .u16 (rdPk b).f, .int .u16 (rdPk b).a, .int .i64 (rdPk b).q, .slice qm nqm cqm, .slice qe nqe cqe], .int .i64 0]) ∧ nqm = (rdPk b).ms.length ∧ nqe = (rdPk b).es.length ∧ MemsAt w' qm (rdPk b).ms ∧ EntsAt w' qe (rdPk b).es) ∧
  (¬ readOk b → e = .returned (.tuple #[.agg #[.int .u8 0, .int .u16 0, .int .u16 0, .int .i64 0, .slice none 0 0, .slice none 0 0], .int .i64 14])) ∧ Below W.heap.size W w'
theorem YrPost.no {W w' : World} {b : List UInt8} (h : ¬ readOk b) (hb : Below W.heap.size W w') : YrPost W b (.returned (.tuple #[.agg #[.int .u8 0, .int .u16 0, .int .u16 0, .int .i64 0, .slice none 0 0, .slice none 0 0], .int .i64 14])) w' :=
  ⟨fun h' => absurd h' h, fun _ => rfl, hb⟩
/-- The head of a packet's bytes. -/
theorem yr_head {b l0 l1 l2 l3 l4 l5 : List UInt8} {e0 e1 e2 e3 e4 e5 n0 n1 n2 n3 : Int} (h : readOk b) (h0 : byteE 108 0 b = (l0, e0)) (h1 : intE e0 l0 = (l1, e1, n0)) (h2 : intE e1 l1 = (l2, e2, n1)) (h3 : intE e2 l2 = (l3, e3, n2)) (h4 : intE e3 l3 = (l4, e4, n3)) (h5 : byteE 108 e4 l4 = (l5, e5)) :
    n0 = (rdPk b).k ∧ n1 = (rdPk b).f ∧ n2 = (rdPk b).a ∧ n3 = (rdPk b).q ∧ (0 ≤ n0 ∧ n0 ≤ 255) ∧ (0 ≤ n1 ∧ n1 ≤ 255) ∧ (0 ≤ n2 ∧ n2 ≤ 255) ∧ 0 ≤ n3 ∧ OkM (rdPk b) [] l5 e5 := by
  have hp := rdPk_ok b
  have hh := (checkP_zero h.2.1).1
  simp only [headP, Bool.and_eq_true, decide_eq_true_eq] at hh
  have e9 := readOk_lay h
  generalize rdPk b = P at *
  rw [e9, byte_here] at h0
  obtain ⟨rfl, rfl⟩ := Prod.mk.inj h0
  rw [int_here _ (by have := hp.k; omega) (by have := hp.k; omega)] at h1
  simp only [Prod.mk.injEq] at h1
  obtain ⟨rfl, rfl, rfl⟩ := h1
  rw [int_here _ (by have := hp.f; omega) (by have := hp.f; omega)] at h2
  simp only [Prod.mk.injEq] at h2
  obtain ⟨rfl, rfl, rfl⟩ := h2
  rw [int_here _ (by have := hp.a; omega) (by have := hp.a; omega)] at h3
  simp only [Prod.mk.injEq] at h3
  obtain ⟨rfl, rfl, rfl⟩ := h3
  rw [int_here _ hp.q.1 hp.q.2] at h4
  simp only [Prod.mk.injEq] at h4
  obtain ⟨rfl, rfl, rfl⟩ := h4
  rw [tailM_eq, byte_here] at h5
  obtain ⟨rfl, rfl⟩ := Prod.mk.inj h5
  exact ⟨rfl, rfl, rfl, rfl, ⟨hp.k.1, hp.k.2⟩, ⟨hp.f.1, by omega⟩, ⟨hp.a.1, by omega⟩, by omega, OkM.start P⟩
/-- Between the lists. -/
theorem yr_mid {P : Pk} {acc : List Mem} {l l1 l2 : List UInt8} {e e1 e2 : Int} (h : OkM P acc l e) (hm : moreB l = false) (h1 : byteE 101 e l = (l1, e1)) (h2 : byteE 108 e1 l1 = (l2, e2)) : acc = P.ms ∧ OkE P [] l2 e2 := by
  obtain ⟨rfl, rfl, rfl⟩ := h.out hm
  rw [byte_here] at h1
  obtain ⟨rfl, rfl⟩ := Prod.mk.inj h1
  rw [tailE_eq, byte_here] at h2
  obtain ⟨rfl, rfl⟩ := Prod.mk.inj h2
  exact ⟨rfl, OkE.start P⟩

end Go.Proofs.YtchhdffehkcecaaDoor
