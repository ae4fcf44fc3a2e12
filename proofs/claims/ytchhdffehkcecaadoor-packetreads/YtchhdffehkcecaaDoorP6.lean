/-
  What readPacket of package packet reads.
-/
import Derived.Test.YtchhdffehkcecaaDoorP5
import Derived.Test.YtchhdffehkcecaaDoorRef4
namespace Go.Proofs.YtchhdffehkcecaaDoor
open Go Go.RowKit

theorem PkBlk.set0 {w : World} {X : Nat} {k f a q : Int} {am : Option Addr} {nm cm : Nat} {ae : Option Addr} {ne ce : Nat} (h : PkBlk w X k f a q am nm cm ae ne ce) (z : Int) : PkBlk (w.setCell ⟨X, 0, none⟩ (.int .u8 z)) X z f a q am nm cm ae ne ce := by
  unfold PkBlk at h ⊢
  simp [World.setCell, Array.getElem?_modify, h]
theorem PkBlk.set1 {w : World} {X : Nat} {k f a q : Int} {am : Option Addr} {nm cm : Nat} {ae : Option Addr} {ne ce : Nat} (h : PkBlk w X k f a q am nm cm ae ne ce) (z : Int) : PkBlk (w.setCell ⟨X, 1, none⟩ (.int .u16 z)) X k z a q am nm cm ae ne ce := by
  unfold PkBlk at h ⊢
  simp [World.setCell, Array.getElem?_modify, h]
theorem PkBlk.set2 {w : World} {X : Nat} {k f a q : Int} {am : Option Addr} {nm cm : Nat} {ae : Option Addr} {ne ce : Nat} (h : PkBlk w X k f a q am nm cm ae ne ce) (z : Int) : PkBlk (w.setCell ⟨X, 2, none⟩ (.int .u16 z)) X k f z q am nm cm ae ne ce := by
  unfold PkBlk at h ⊢
  simp [World.setCell, Array.getElem?_modify, h]
theorem PkBlk.set3 {w : World} {X : Nat} {k f a q : Int} {am : Option Addr} {nm cm : Nat} {ae : Option Addr} {ne ce : Nat} (h : PkBlk w X k f a q am nm cm ae ne ce) (z : Int) : PkBlk (w.setCell ⟨X, 3, none⟩ (.int .i64 z)) X k f a z am nm cm ae ne ce := by
  unfold PkBlk at h ⊢
  simp [World.setCell, Array.getElem?_modify, h]
theorem PkBlk.set4 {w : World} {X : Nat} {k f a q : Int} {am : Option Addr} {nm cm : Nat} {ae : Option Addr} {ne ce : Nat} (h : PkBlk w X k f a q am nm cm ae ne ce) (z : Option Addr) (n c : Nat) : PkBlk (w.setCell ⟨X, 4, none⟩ (.slice z n c)) X k f a q z n c ae ne ce := by
  unfold PkBlk at h ⊢
  simp [World.setCell, Array.getElem?_modify, h]
theorem PkBlk.set5 {w : World} {X : Nat} {k f a q : Int} {am : Option Addr} {nm cm : Nat} {ae : Option Addr} {ne ce : Nat} (h : PkBlk w X k f a q am nm cm ae ne ce) (z : Option Addr) (n c : Nat) : PkBlk (w.setCell ⟨X, 5, none⟩ (.slice z n c)) X k f a q am nm cm z n c := by
  unfold PkBlk at h ⊢
  simp [World.setCell, Array.getElem?_modify, h]
theorem PkBlk.other {w : World} {X : Nat} {k f a q : Int} {am : Option Addr} {nm cm : Nat} {ae : Option Addr} {ne ce : Nat} (h : PkBlk w X k f a q am nm cm ae ne ce) {p : Addr} (hp : X ≠ p.block) (v : Value) : PkBlk (w.setCell p v) X k f a q am nm cm ae ne ce := (Below.heap_setCell w p v X hp).trans h
theorem PkBlk.grown {w w' : World} {X : Nat} {k f a q : Int} {am : Option Addr} {nm cm : Nat} {ae : Option Addr} {ne ce : Nat} {r : Option Nat} (h : PkBlk w X k f a q am nm cm ae ne ce) (hg : w.grownBy w' r) (hr : some X ≠ r) : PkBlk w' X k f a q am nm cm ae ne ce := (hg.block X h.lt hr).trans h
def stP (w : World) (X : Nat) (k f a q : Int) (am : Option Addr) (nm cm : Nat) (ae : Option Addr) (ne ce : Nat) : World := (((((w.setCell ⟨X, 0, none⟩ (.int .u8 k)).setCell ⟨X, 1, none⟩ (.int .u16 f)).setCell ⟨X, 2, none⟩ (.int .u16 a)).setCell ⟨X, 3, none⟩ (.int .i64 q)).setCell ⟨X, 4, none⟩ (.slice am nm cm)).setCell ⟨X, 5, none⟩ (.slice ae ne ce)
theorem PkBlk.store {w : World} {X : Nat} {k f a q : Int} {am : Option Addr} {nm cm : Nat} {ae : Option Addr} {ne ce : Nat} (h : PkBlk w X k f a q am nm cm ae ne ce) (k' f' a' q' : Int) (am' : Option Addr) (nm' cm' : Nat) (ae' : Option Addr) (ne' ce' : Nat) : PkBlk (stP w X k' f' a' q' am' nm' cm' ae' ne' ce') X k' f' a' q' am' nm' cm' ae' ne' ce' := (((((h.set0 k').set1 f').set2 a').set3 q').set4 am' nm' cm').set5 ae' ne' ce'
theorem stP_turn {w w' : World} {rb X : Nat} (h : w.grownBy w' (some rb)) (hX : w.heap.size ≤ X) (k f a q : Int) (am : Option Addr) (nm cm : Nat) (ae : Option Addr) (ne ce : Nat) : w.grownBy (stP w' X k f a q am nm cm ae ne ce) (some rb) :=
  grown_set (grown_set (grown_set (grown_set (grown_set (grown_set h hX _ _) hX _ _) hX _ _) hX _ _) hX _ _) hX _ _
theorem stP_below {N X : Nat} {u w : World} (h : Below N u w) (hX : N ≤ X) (k f a q : Int) (am : Option Addr) (nm cm : Nat) (ae : Option Addr) (ne ce : Nat) : Below N u (stP w X k f a q am nm cm ae ne ce) :=
  (((((h.setCell (p := ⟨X, 0, none⟩) hX _).setCell (p := ⟨X, 1, none⟩) hX _).setCell (p := ⟨X, 2, none⟩) hX _).setCell (p := ⟨X, 3, none⟩) hX _).setCell (p := ⟨X, 4, none⟩) hX _).setCell (p := ⟨X, 5, none⟩) hX _
theorem numOf_rangeP {d : List UInt8} {n : Int} (h : numOf d = some n) : -9223372036854775808 ≤ n ∧ n ≤ 9223372036854775807 := numOf_range h
/-- What is read fits. -/
theorem rdInt_range {l r : List UInt8} {e n : Int} (h : rdInt l = (r, e, n)) : -9223372036854775808 ≤ n ∧ n ≤ 9223372036854775807 := by
  by_cases he : e = 0
  · subst he
    cases l with
    | nil => simp [rdInt] at h
    | cons x l =>
      simp only [rdInt] at h
      split at h
      · simp at h
      · split at h
        · split at h <;> simp at h
        · cases hn : numOf (l.take (Lib.indexByte (l.take 21) 101).toNat) with
          | none => rw [hn] at h; simp at h
          | some n' =>
            rw [hn] at h
            simp only [Prod.mk.injEq, true_and] at h
            obtain ⟨-, rfl⟩ := h
            exact numOf_rangeP hn
  · have := rdInt_err h he
    omega
theorem intE_range {l r : List UInt8} {e e1 n : Int} (h : intE e l = (r, e1, n)) : -9223372036854775808 ≤ n ∧ n ≤ 9223372036854775807 := by
  unfold intE at h
  split at h
  · exact rdInt_range h
  · simp only [Prod.mk.injEq] at h
    omega
theorem u16_range (n : Int) : 0 ≤ IntKind.u16.wrap n ∧ IntKind.u16.wrap n ≤ 65535 := by rw [IntKind.wrap_u16]; omega
theorem u8_range (n : Int) : 0 ≤ IntKind.u8.wrap n ∧ IntKind.u8.wrap n ≤ 255 := by rw [IntKind.wrap_u8]; omega
theorem rdMem_ok (e : Int) (l : List UInt8) : (rdMem e l).1.Ok := by
  rcases h0 : byteE 108 e l with ⟨l0, e0⟩
  rcases h1 : intE e0 l0 with ⟨l1, e1, z1⟩
  rcases h2 : intE e1 l1 with ⟨l2, e2, z2⟩
  rcases h3 : intE e2 l2 with ⟨l3, e3, z3⟩
  rcases h4 : byteE 101 e3 l3 with ⟨l4, e4⟩
  simp only [rdMem, h0, h1, h2, h3, h4]
  exact ⟨u16_range z1, u8_range z2, intE_range h3⟩
theorem zeroE_ok : zeroE.Ok := by simp [Ent.Ok, zeroE]
theorem readEn_ok (l : List UInt8) : (readEn l).1.Ok := by
  rcases readEn_laid (l := l) with h | h
  · rw [h]; exact zeroE_ok
  · exact h.2.2.1
theorem rdMs_ok : ∀ (f : Nat) (e : Int) (l : List UInt8), ∀ x ∈ (rdMs f e l).1, x.Ok
  | 0, _, _, x, hx => by cases hx
  | f + 1, e, l, x, hx => by
    rw [rdMs] at hx
    split at hx
    · rcases List.mem_cons.1 hx with rfl | hx
      · exact rdMem_ok e l
      · exact rdMs_ok f _ _ x hx
    · cases hx
theorem rdEs_ok : ∀ (f : Nat) (e : Int) (l : List UInt8), ∀ x ∈ (rdEs f e l).1, x.Ok
  | 0, _, _, x, hx => by cases hx
  | f + 1, e, l, x, hx => by
    rw [rdEs] at hx
    split at hx
    · rcases List.mem_cons.1 hx with rfl | hx
      · exact readEn_ok l
      · exact rdEs_ok f _ _ x hx
    · cases hx
/-- What is read as a packet's parts. -/
def rdPk (l : List UInt8) : Pk :=
  let b := byteE 108 0 l
  let k := intE b.2 b.1
  let f := intE k.2.1 k.1
  let a := intE f.2.1 f.1
  let q := intE a.2.1 a.1
  let m := rdLM q.2.1 q.1
  let x := rdLE m.2.2 m.2.1
  ⟨IntKind.u8.wrap k.2.2, IntKind.u16.wrap f.2.2, IntKind.u16.wrap a.2.2, q.2.2, m.1, x.1⟩
theorem rdPk_ok (l : List UInt8) : (rdPk l).Ok := by
  rcases h0 : byteE 108 0 l with ⟨l0, e0⟩
  rcases h1 : intE e0 l0 with ⟨l1, e1, z1⟩
  rcases h2 : intE e1 l1 with ⟨l2, e2, z2⟩
  rcases h3 : intE e2 l2 with ⟨l3, e3, z3⟩
  rcases h4 : intE e3 l3 with ⟨l4, e4, z4⟩
  have hm : ∀ x ∈ (rdLM e4 l4).1, x.Ok := rdMs_ok _ _ _
  have he : ∀ x ∈ (rdLE (rdLM e4 l4).2.2 (rdLM e4 l4).2.1).1, x.Ok := rdEs_ok _ _ _
  simp only [rdPk, h0, h1, h2, h3, h4]
  exact ⟨u8_range _, u16_range _, u16_range _, intE_range h4, hm, he⟩
theorem byteE_leP {ch : UInt8} {e : Int} {l : List UInt8} : (byteE ch e l).1.length ≤ l.length := (byteE_err (l1 := (byteE ch e l).1) (e1 := (byteE ch e l).2) rfl).2
theorem rdMs_le : ∀ (f : Nat) (e : Int) (l : List UInt8), (rdMs f e l).2.1.length ≤ l.length
  | 0, _, _ => Nat.le_refl _
  | f + 1, e, l => by
    rw [rdMs]
    split
    · rename_i hm
      have h1 := rdMs_le f (rdMem e l).2.2 (rdMem e l).2.1
      have h2 := rdMem_less (e := e) (moreB_posP hm)
      dsimp only
      omega
    · exact Nat.le_refl _
theorem rdLM_le (e : Int) (l : List UInt8) : (rdLM e l).2.1.length ≤ l.length := by
  have h1 := byteE_leP (ch := 108) (e := e) (l := l)
  have h2 := rdMs_le ((byteE 108 e l).1.length + 1) (byteE 108 e l).2 (byteE 108 e l).1
  have h3 := byteE_leP (ch := 101) (e := (rdMs ((byteE 108 e l).1.length + 1) (byteE 108 e l).2 (byteE 108 e l).1).2.2) (l := (rdMs ((byteE 108 e l).1.length + 1) (byteE 108 e l).2 (byteE 108 e l).1).2.1)
  show (byteE 101 (rdMs ((byteE 108 e l).1.length + 1) (byteE 108 e l).2 (byteE 108 e l).1).2.2 (rdMs ((byteE 108 e l).1.length + 1) (byteE 108 e l).2 (byteE 108 e l).1).2.1).1.length ≤ l.length
  omega
def RdPPost (rb : Nat) (l : List UInt8) (w : World) (e : Ending) (w' : World) : Prop := ∃ am nm cm ae ne ce, e = .returned (.agg #[.int .u8 (rdPk l).k, .int .u16 (rdPk l).f, .int .u16 (rdPk l).a, .int .i64 (rdPk l).q, .slice am nm cm, .slice ae ne ce]) ∧ nm = (rdPk l).ms.length ∧ ne = (rdPk l).es.length ∧ MemsAt w' am (rdPk l).ms ∧ EntsAt w' ae (rdPk l).es ∧ w.grownBy w' (some rb)
set_option maxRecDepth 100000 in
set_option maxHeartbeats 4000000 in
theorem pReadP_any (rb : Nat) (a : Option Addr) (c : Nat) (l : List UInt8) (B : Nat) (w : World) (h : Rd w rb a c l 0) (hB : B ≤ rb) (hv : VarsOk B w) (hl : l.length ≤ 1000000) :
    Calls Tryd.prog 30 #[.pointer (some ⟨rb, 0, none⟩)] w (RdPPost rb l w) := by
  rcases h0 : byteE 108 0 l with ⟨l0, e0⟩
  rcases h1 : intE e0 l0 with ⟨l1, e1, z1⟩
  rcases h2 : intE e1 l1 with ⟨l2, e2, z2⟩
  rcases h3 : intE e2 l2 with ⟨l3, e3, z3⟩
  rcases h4 : intE e3 l3 with ⟨l4, e4, z4⟩
  rcases h5 : rdLM e4 l4 with ⟨ms, l5, e5⟩
  rcases h6 : rdLE e5 l5 with ⟨es, l6, e6⟩
  have hres : rdPk l = ⟨IntKind.u8.wrap z1, IntKind.u16.wrap z2, IntKind.u16.wrap z3, z4, ms, es⟩ := by simp only [rdPk, h0, h1, h2, h3, h4, h5, h6]
  have k0 := (byteE_err h0).2
  have k1 := (intE_err h1).2
  have k2 := (intE_err h2).2
  have k3 := (intE_err h3).2
  have k4 := (intE_err h4).2
  have k5 := rdLM_le e4 l4
  rw [h5] at k5
  have hl4 : l4.length ≤ 1000000 ∧ l5.length ≤ 1000000 := by dsimp only at k5; omega
  unfold RdPPost
  rw [hres]
  dsimp only
  have b1 := (Below.refl w.heap.size w).alloc (Nat.le_refl _) (.cells #[.int .u8 0, .int .u16 0, .int .u16 0, .int .i64 0, .slice none 0 0, .slice none 0 0] 26)
  have b2 := (Below.refl (w.alloc (.cells #[.int .u8 0, .int .u16 0, .int .u16 0, .int .i64 0, .slice none 0 0, .slice none 0 0] 26)).heap.size (w.alloc (.cells #[.int .u8 0, .int .u16 0, .int .u16 0, .int .i64 0, .slice none 0 0, .slice none 0 0] 26))).alloc (Nat.le_refl _) (.cells #[.int .u8 0, .int .u16 0, .int .u16 0, .int .i64 0, .slice none 0 0, .slice none 0 0] 26)
  have s0 : RSt w ((w.alloc (.cells #[.int .u8 0, .int .u16 0, .int .u16 0, .int .i64 0, .slice none 0 0, .slice none 0 0] 26)).alloc (.cells #[.int .u8 0, .int .u16 0, .int .u16 0, .int .i64 0, .slice none 0 0, .slice none 0 0] 26)) rb B a c l 0 := ((RSt.start h hB hv).below b1).below b2
  have m0 : PkBlk ((w.alloc (.cells #[.int .u8 0, .int .u16 0, .int .u16 0, .int .i64 0, .slice none 0 0, .slice none 0 0] 26)).alloc (.cells #[.int .u8 0, .int .u16 0, .int .u16 0, .int .i64 0, .slice none 0 0, .slice none 0 0] 26)) w.heap.size 0 0 0 0 none 0 0 none 0 0 := (PkBlk.new w 0 0 0 0 none 0 0 none 0 0).on b2
  have m1 := PkBlk.new (w.alloc (.cells #[.int .u8 0, .int .u16 0, .int .u16 0, .int .i64 0, .slice none 0 0, .slice none 0 0] 26)) 0 0 0 0 none 0 0 none 0 0
  rw [World.size_alloc] at m1
  have HH := Lib.hid (And.intro h1 (And.intro h2 (And.intro h3 (And.intro h4 (And.intro h5 (And.intro h6 hl4))))))
  have HT := Lib.hid (Open_full rb a c l 0 _ s0.rd h0)
  have HS : Hid (RSt w ((w.alloc (.cells #[.int .u8 0, .int .u16 0, .int .u16 0, .int .i64 0, .slice none 0 0, .slice none 0 0] 26)).alloc (.cells #[.int .u8 0, .int .u16 0, .int .u16 0, .int .i64 0, .slice none 0 0, .slice none 0 0] 26)) rb B a c l 0 ∧ PkBlk ((w.alloc (.cells #[.int .u8 0, .int .u16 0, .int .u16 0, .int .i64 0, .slice none 0 0, .slice none 0 0] 26)).alloc (.cells #[.int .u8 0, .int .u16 0, .int .u16 0, .int .i64 0, .slice none 0 0, .slice none 0 0] 26)) w.heap.size 0 0 0 0 none 0 0 none 0 0 ∧ PkBlk ((w.alloc (.cells #[.int .u8 0, .int .u16 0, .int .u16 0, .int .i64 0, .slice none 0 0, .slice none 0 0] 26)).alloc (.cells #[.int .u8 0, .int .u16 0, .int .u16 0, .int .i64 0, .slice none 0 0, .slice none 0 0] 26)) (w.heap.size + 1) 0 0 0 0 none 0 0 none 0 0) := Lib.hid ⟨s0, m0, m1⟩
  have HNE := Lib.hid (show w.heap.size ≠ rb ∧ w.heap.size + 1 ≠ rb by have := s0.lt; omega)
  clear h0 h1 h2 h3 h4 h5 h6 hres k0 k1 k2 k3 k4 k5 hl4 b1 b2 s0 m0 m1 h hB hv hl
  obtain ⟨U1, hU1⟩ : ∃ z, IntKind.u8.wrap z1 = z := ⟨_, rfl⟩
  obtain ⟨U2, hU2⟩ : ∃ z, IntKind.u16.wrap z2 = z := ⟨_, rfl⟩
  obtain ⟨U3, hU3⟩ : ∃ z, IntKind.u16.wrap z3 = z := ⟨_, rfl⟩
  rw [hU1, hU2, hU3]
  go_enter Tryd.func30, Tryd.ntmps30
  go_wp2_with (go_at_call 52; refine HT.out.mono ?_; rintro e w1 ⟨rfl, ⟨a1, c1, r1⟩, g1⟩; refine Hid.out ?_)
  refine Lib.hid ?_
  have s1 := HS.out.1.turn g1 r1
  have n1 := HS.out.2.1.grown g1 (by simpa using HNE.out.1)
  have p1 := HS.out.2.2.grown g1 (by simpa using HNE.out.2)
  have HT1 := Lib.hid (rInt_full rb a1 c1 l0 e0 B w1 r1 s1.hB s1.vars HH.out.1)
  have HS1 := Lib.hid (And.intro s1 (And.intro n1 p1))
  clear HS HT g1 r1 s1 n1 p1
  go_wp2_with (go_at_call 53; refine HT1.out.mono ?_; rintro e w2 ⟨rfl, ⟨a2, c2, r2⟩, g2⟩; refine Hid.out ?_)
  refine Lib.hid ?_
  have s2 := HS1.out.1.turn g2 r2
  have n2 := HS1.out.2.1.grown g2 (by simpa using HNE.out.1)
  have p2 := HS1.out.2.2.grown g2 (by simpa using HNE.out.2)
  have f2 := p2.f 0
  have q2 := p2.c0
  have lt2 := p2.lt
  have s2' := s2.set (X := w.heap.size + 1) (by omega) 0 (.int .u8 U1)
  have n2' := n2.other (p := ⟨w.heap.size + 1, 0, none⟩) (by show w.heap.size ≠ w.heap.size + 1; omega) (.int .u8 U1)
  have p2' := p2.set0 U1
  have HT2 := Lib.hid (rInt_full rb a2 c2 l1 e1 B _ s2'.rd s2'.hB s2'.vars HH.out.2.1)
  have HS2 := Lib.hid (And.intro s2' (And.intro n2' p2'))
  clear HS1 HT1 g2 r2 s2 n2 p2 s2' n2' p2'
  go_wp2_with (go_at_call 53; refine HT2.out.mono ?_; rintro e w3 ⟨rfl, ⟨a3, c3, r3⟩, g3⟩; refine Hid.out ?_)
  refine Lib.hid ?_
  have s3 := HS2.out.1.turn g3 r3
  have n3 := HS2.out.2.1.grown g3 (by simpa using HNE.out.1)
  have p3 := HS2.out.2.2.grown g3 (by simpa using HNE.out.2)
  have f3 := p3.f 1
  have q3 := p3.c1
  have lt3 := p3.lt
  have s3' := s3.set (X := w.heap.size + 1) (by omega) 1 (.int .u16 U2)
  have n3' := n3.other (p := ⟨w.heap.size + 1, 1, none⟩) (by show w.heap.size ≠ w.heap.size + 1; omega) (.int .u16 U2)
  have p3' := p3.set1 U2
  have HT3 := Lib.hid (rInt_full rb a3 c3 l2 e2 B _ s3'.rd s3'.hB s3'.vars HH.out.2.2.1)
  have HS3 := Lib.hid (And.intro s3' (And.intro n3' p3'))
  clear HS2 HT2 g3 r3 s3 n3 p3 s3' n3' p3'
  go_wp2_with (go_at_call 53; refine HT3.out.mono ?_; rintro e w4 ⟨rfl, ⟨a4, c4, r4⟩, g4⟩; refine Hid.out ?_)
  refine Lib.hid ?_
  have s4 := HS3.out.1.turn g4 r4
  have n4 := HS3.out.2.1.grown g4 (by simpa using HNE.out.1)
  have p4 := HS3.out.2.2.grown g4 (by simpa using HNE.out.2)
  have f4 := p4.f 2
  have q4 := p4.c2
  have lt4 := p4.lt
  have s4' := s4.set (X := w.heap.size + 1) (by omega) 2 (.int .u16 U3)
  have n4' := n4.other (p := ⟨w.heap.size + 1, 2, none⟩) (by show w.heap.size ≠ w.heap.size + 1; omega) (.int .u16 U3)
  have p4' := p4.set2 U3
  have HT4 := Lib.hid (rInt_full rb a4 c4 l3 e3 B _ s4'.rd s4'.hB s4'.vars HH.out.2.2.2.1)
  have HS4 := Lib.hid (And.intro s4' (And.intro n4' p4'))
  clear HS3 HT3 g4 r4 s4 n4 p4 s4' n4' p4'
  go_wp2_with (go_at_call 53; refine HT4.out.mono ?_; rintro e w5 ⟨rfl, ⟨a5, c5, r5⟩, g5⟩; refine Hid.out ?_)
  refine Lib.hid ?_
  have s5 := HS4.out.1.turn g5 r5
  have n5 := HS4.out.2.1.grown g5 (by simpa using HNE.out.1)
  have p5 := HS4.out.2.2.grown g5 (by simpa using HNE.out.2)
  have f5 := p5.f 3
  have q5 := p5.c3
  have lt5 := p5.lt
  have s5' := s5.set (X := w.heap.size + 1) (by omega) 3 (.int .i64 z4)
  have n5' := n5.other (p := ⟨w.heap.size + 1, 3, none⟩) (by show w.heap.size ≠ w.heap.size + 1; omega) (.int .i64 z4)
  have p5' := p5.set3 z4
  have HT5 := Lib.hid (pListM_any rb a5 c5 l4 e4 B _ s5'.rd s5'.hB s5'.vars HH.out.2.2.2.2.2.2.1)
  have HS5 := Lib.hid (And.intro s5' (And.intro n5' p5'))
  clear HS4 HT4 g5 r5 s5 n5 p5 s5' n5' p5'
  go_wp2_with (go_at_call 54; refine HT5.out.mono ?_; rintro e w6 ⟨am, nm, cm, rfl, ho6, ⟨a6, c6, r6⟩, g6⟩; refine Hid.out ?_)
  refine Lib.hid ?_
  rw [HH.out.2.2.2.2.1] at ho6 r6
  dsimp only at ho6 r6
  have hw5 : w.heap.size + 1 < (w5.setCell ⟨w.heap.size + 1, 3, none⟩ (.int .i64 z4)).heap.size := HS5.out.2.2.lt
  have s6 := HS5.out.1.turn g6 r6
  have n6 := HS5.out.2.1.grown g6 (by simpa using HNE.out.1)
  have p6 := HS5.out.2.2.grown g6 (by simpa using HNE.out.2)
  have f6 := p6.f 4
  have q6 := p6.c4
  have lt6 := p6.lt
  have s6' := s6.set (X := w.heap.size + 1) (by omega) 4 (.slice am nm cm)
  have n6' := n6.other (p := ⟨w.heap.size + 1, 4, none⟩) (by show w.heap.size ≠ w.heap.size + 1; omega) (.slice am nm cm)
  have p6' := p6.set4 am nm cm
  have ho6' := ho6.turn (grownBy_setCell w6 (w.heap.size + 1) 4 (.slice am nm cm)) hw5
  have HT6 := Lib.hid (pListE_any rb a6 c6 l5 e5 B _ s6'.rd s6'.hB s6'.vars HH.out.2.2.2.2.2.2.2)
  have HS6 := Lib.hid (And.intro s6' (And.intro n6' (And.intro p6' (And.intro ho6' hw5))))
  have hnm : nm = ms.length := by obtain ⟨x, y, e, -⟩ := ho6.form; simp only [Value.slice.injEq] at e; exact e.2.1
  have HNM := Lib.hid hnm
  clear HS5 HT5 g6 r6 s6 n6 p6 s6' n6' p6' ho6 ho6' hnm hw5
  go_wp2_with (go_at_call 56; refine HT6.out.mono ?_; rintro e w7 ⟨ae, ne, ce, rfl, ho7, ⟨a7, c7, r7⟩, g7⟩; refine Hid.out ?_)
  refine Lib.hid ?_
  rw [HH.out.2.2.2.2.2.1] at ho7 r7
  dsimp only at ho7 r7
  have hw6 : w.heap.size + 1 < (w6.setCell ⟨w.heap.size + 1, 4, none⟩ (.slice am nm cm)).heap.size := HS6.out.2.2.1.lt
  have s7 := HS6.out.1.turn g7 r7
  have n7 := HS6.out.2.1.grown g7 (by simpa using HNE.out.1)
  have p7 := HS6.out.2.2.1.grown g7 (by simpa using HNE.out.2)
  have om7 := HS6.out.2.2.2.1.turn g7 (by have := HS6.out.1.lt; have := HS6.out.2.2.2.2; omega)
  have f7 := p7.f 5
  have q7 := p7.c5
  have lt7 := p7.lt
  have s7' := s7.set (X := w.heap.size + 1) (by omega) 5 (.slice ae ne ce)
  have n7' := n7.other (p := ⟨w.heap.size + 1, 5, none⟩) (by show w.heap.size ≠ w.heap.size + 1; omega) (.slice ae ne ce)
  have p7' := p7.set5 ae ne ce
  have om7' := om7.turn (grownBy_setCell w7 (w.heap.size + 1) 5 (.slice ae ne ce)) HS6.out.2.2.2.2
  have oe7' := ho7.turn (grownBy_setCell w7 (w.heap.size + 1) 5 (.slice ae ne ce)) hw6
  have hne : ne = es.length := by obtain ⟨x, y, e, -⟩ := ho7.form; simp only [Value.slice.injEq] at e; exact e.2.1
  have HNN := Lib.hid hne
  have x0 := p7'.c0; have x1 := p7'.c1; have x2 := p7'.c2; have x3 := p7'.c3; have x4 := p7'.c4; have x5 := p7'.c5
  have y0 := n7'.c0; have y1 := n7'.c1; have y2 := n7'.c2; have y3 := n7'.c3; have y4 := n7'.c4; have y5 := n7'.c5
  have v0 := n7'.f 0; have v1 := n7'.f 1; have v2 := n7'.f 2; have v3 := n7'.f 3; have v4 := n7'.f 4; have v5 := n7'.f 5
  have HF := Lib.hid (n7'.store U1 U2 U3 z4 am nm cm ae ne ce)
  have gF := stP_turn s7'.grown (Nat.le_refl w.heap.size) U1 U2 U3 z4 am nm cm ae ne ce
  have stg : ∀ (V : World) (r : Nat), V.grownBy (stP V r U1 U2 U3 z4 am nm cm ae ne ce) (some r) := fun V r => grownBy_trans (grownBy_trans (grownBy_trans (grownBy_trans (grownBy_trans (grownBy_setCell V r _ _) (grownBy_setCell _ r _ _)) (grownBy_setCell _ r _ _)) (grownBy_setCell _ r _ _)) (grownBy_setCell _ r _ _)) (grownBy_setCell _ r _ _)
  have omF := om7'.turn (stg _ w.heap.size) (by have := HS6.out.2.2.2.2; omega)
  have oeF := oe7'.turn (stg _ w.heap.size) (by omega)
  have HQ := Lib.hid (And.intro gF (And.intro omF oeF))
  clear stg gF omF oeF om7' oe7' om7 ho7 s7 n7 p7 s7' n7' p7' g7 r7 hne hw6 HS6 HT6 HH HNE hU1 hU2 hU3 f2 q2 lt2 f3 q3 lt3 f4 q4 lt4 f5 q5 lt5 f6 q6 lt6
  go_wp2
  unfold stP at HF HQ
  generalize ((((((w7.setCell ⟨w.heap.size + 1, 5, none⟩ (.slice ae ne ce)).setCell ⟨w.heap.size, 0, none⟩ (.int .u8 U1)).setCell ⟨w.heap.size, 1, none⟩ (.int .u16 U2)).setCell ⟨w.heap.size, 2, none⟩ (.int .u16 U3)).setCell ⟨w.heap.size, 3, none⟩ (.int .i64 z4)).setCell ⟨w.heap.size, 4, none⟩ (.slice am nm cm)).setCell ⟨w.heap.size, 5, none⟩ (.slice ae ne ce) = wF at *
  have t0 := HF.out.c0; have t1 := HF.out.c1; have t2 := HF.out.c2; have t3 := HF.out.c3; have t4 := HF.out.c4; have t5 := HF.out.c5
  refine bodyPost_ret (v := .agg #[.int .u8 U1, .int .u16 U2, .int .u16 U3, .int .i64 z4, .slice am nm cm, .slice ae ne ce]) (by simp [results, Tryd.results30, go_sem, t0, t1, t2, t3, t4, t5]) rfl ?_
  obtain ⟨gF, omF, oeF⟩ := HQ.out
  refine ⟨am, nm, cm, ae, ne, ce, rfl, HNM.out, HNN.out, ?_, ?_, gF⟩
  · obtain ⟨x, y, e, -, -, hat⟩ := omF.form
    simp only [Value.slice.injEq] at e
    rw [e.1]
    exact hat
  · obtain ⟨x, y, e, -, -, hat⟩ := oeF.form
    simp only [Value.slice.injEq] at e
    rw [e.1]
    exact hat

end Go.Proofs.YtchhdffehkcecaaDoor
