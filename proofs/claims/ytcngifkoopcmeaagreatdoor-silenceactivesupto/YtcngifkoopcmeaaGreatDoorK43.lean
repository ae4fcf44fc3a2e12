/-
  What is left of a silence's value while the reference reads it; what its Of holds. SilenceEnds, walked: it answers true at any silence and time, and turns nothing that was there. The walk of SilenceEntries: a silence is the entry that the document says, or both tell the same error.
-/
import Derived.Test.YtcngifkoopcmeaaGreatDoorK38
import Derived.Test.YtcngifkoopcmeaaGreatDoorK42
import Derived.Test.YtcngifkoopcmeaaGreatDoorK26
namespace Go.Proofs.YtcngifkoopcmeaaGreatDoor
open Go Go.RowKit

theorem textY_short {most e e1 : Int} {l l1 s : List UInt8} (h : textE most e l = (l1, e1, s)) : s.length ≤ l.length := by
  unfold textE at h
  split at h
  · by_cases he : e1 = 0
    · subst he
      have := rdText_laid h
      rw [this]
      simp only [putText, List.length_append, List.length_cons]
      omega
    · have := rdText_err h he
      subst this
      simp
  · simp only [Prod.mk.injEq] at h
    obtain ⟨-, -, rfl⟩ := h
    simp
/-- The numbers behind the matchers. -/
def tailS (s : Sil) : List UInt8 := putInt s.st ++ (putInt s.en ++ [101])
/-- What was read, if the entry is a silence's. -/
def RdS (x : Ent) (ms : List Mt) (l : List UInt8) (e : Int) : Prop := ∀ s, IsE s x → e = 0 ∧ ∃ k, k ≤ s.ms.length ∧ ms = s.ms.take k ∧ l = (partsMs (s.ms.drop k)).flatten ++ tailS s
theorem RdS.start {x : Ent} {l : List UInt8} {e : Int} (h : byteE 108 0 x.v.data.toList = (l, e)) : RdS x [] l e := fun s hs => by
  have hv : x.v = ⟨(layS s.ms s.st s.en).toArray⟩ := by rw [← hs.2]; rfl
  rw [hv] at h
  have e1 : layS s.ms s.st s.en = 108 :: ((partsMs s.ms).flatten ++ tailS s) := by simp [layS, putList, partsS, tailS]
  have h' : byteE 108 0 (layS s.ms s.st s.en) = (l, e) := h
  rw [e1] at h'
  simp [byteE, rdByte] at h'
  obtain ⟨rfl, rfl⟩ := h'
  exact ⟨rfl, 0, Nat.zero_le _, by simp, by simp⟩
theorem isM_tail (s : Sil) : isM (tailS s) = false := isM_int _ _
theorem partsMs_consY (m : Mt) (r : List Mt) : (partsMs (m :: r)).flatten = putText m.1.data.toList ++ (putInt m.2.1 ++ (putText m.2.2.data.toList ++ (partsMs r).flatten)) := by simp [partsMs, partsM]
theorem RdS.more {x : Ent} {ms : List Mt} {l l1 l2 l3 s1 s3 : List UInt8} {e e1 e2 e3 n : Int} (h : RdS x ms l e) (hm : isM l = true) (h1 : textE 16 e l = (l1, e1, s1)) (h2 : intE e1 l1 = (l2, e2, n)) (h3 : textE 64 e2 l2 = (l3, e3, s3)) :
    ∀ s, IsE s x → (0 ≤ n ∧ n ≤ 3) ∧ e3 = 0 ∧ ∃ k, k ≤ s.ms.length ∧ ms ++ [(⟨s1.toArray⟩, (n % 256).toNat, ⟨s3.toArray⟩)] = s.ms.take k ∧ l3 = (partsMs (s.ms.drop k)).flatten ++ tailS s := fun s hs => by
  obtain ⟨rfl, k, hk, rfl, hl⟩ := h s hs
  have hlt : k < s.ms.length := by
    refine Nat.lt_of_not_le fun hge => ?_
    rw [List.drop_eq_nil_of_le hge] at hl
    have : l = tailS s := by rw [hl]; simp [partsMs]
    rw [this, isM_tail] at hm
    cases hm
  obtain ⟨-, -, -, h4, -⟩ := silE_zero (entryE_zero hs.1).1
  have hme := h4 _ (List.getElem_mem hlt)
  have hgm := good_of hme
  obtain ⟨-, ho, -⟩ := mErr_zero hme
  have hd : (partsMs (s.ms.drop k)).flatten = putText s.ms[k].1.data.toList ++ (putInt s.ms[k].2.1 ++ (putText s.ms[k].2.2.data.toList ++ (partsMs (s.ms.drop (k + 1))).flatten)) := by
    rw [List.drop_eq_getElem_cons hlt, partsMs_consY]
  rw [hd] at hl
  have ht : s.ms.take (k + 1) = s.ms.take k ++ [s.ms[k]] := List.take_succ_eq_append_getElem hlt
  generalize s.ms[k] = m at *
  obtain ⟨mn, mo, mv⟩ := m
  obtain ⟨g1, g2, g3⟩ := hgm
  simp only at g1 g2 g3 ho hl
  have n1 : mn.data.toList.length = mn.size := rfl
  have n3 : mv.data.toList.length = mv.size := rfl
  have hl' : l = putText mn.data.toList ++ (putInt mo ++ (putText mv.data.toList ++ ((partsMs (s.ms.drop (k + 1))).flatten ++ tailS s))) := by rw [hl]; simp
  have q1 : textE 16 0 l = (putInt mo ++ (putText mv.data.toList ++ ((partsMs (s.ms.drop (k + 1))).flatten ++ tailS s)), 0, mn.data.toList) := by rw [hl']; exact read_putText _ (by omega) 16 (by omega) _
  rw [q1] at h1
  simp only [Prod.mk.injEq] at h1
  obtain ⟨rfl, rfl, rfl⟩ := h1
  have q2 : intE 0 (putInt mo ++ (putText mv.data.toList ++ ((partsMs (s.ms.drop (k + 1))).flatten ++ tailS s))) = (putText mv.data.toList ++ ((partsMs (s.ms.drop (k + 1))).flatten ++ tailS s), 0, (mo : Int)) := read_putInt _ (by omega) (by omega) _
  rw [q2] at h2
  simp only [Prod.mk.injEq] at h2
  obtain ⟨rfl, rfl, rfl⟩ := h2
  have q3 : textE 64 0 (putText mv.data.toList ++ ((partsMs (s.ms.drop (k + 1))).flatten ++ tailS s)) = ((partsMs (s.ms.drop (k + 1))).flatten ++ tailS s, 0, mv.data.toList) := read_putText _ (by omega) 64 (by omega) _
  rw [q3] at h3
  simp only [Prod.mk.injEq] at h3
  obtain ⟨rfl, rfl, rfl⟩ := h3
  have hmo : ((mo : Int) % 256).toNat = mo := by omega
  exact ⟨⟨by omega, by omega⟩, rfl, k + 1, hlt, by rw [ht, hmo], rfl⟩
theorem RdS.ends {x : Ent} {ms : List Mt} {l l2 l3 : List UInt8} {e e2 e3 a b : Int} (h : RdS x ms l e) (hm : isM l = false ∨ 8 < ms.length) (h1 : intE e l = (l2, e2, a)) (h2 : intE e2 l2 = (l3, e3, b)) :
    ∀ s, IsE s x → e3 = 0 ∧ s.ms = ms ∧ s.st = a ∧ s.en = b := fun s hs => by
  obtain ⟨rfl, k, hk, rfl, hl⟩ := h s hs
  obtain ⟨-, h8, -, -, h5, h6, h7⟩ := silE_zero (entryE_zero hs.1).1
  have hkl : k = s.ms.length := by
    refine Classical.byContradiction fun hne => ?_
    have hlt : k < s.ms.length := by omega
    rcases hm with hm | hm
    · have hd : l = putText s.ms[k].1.data.toList ++ (putInt s.ms[k].2.1 ++ (putText s.ms[k].2.2.data.toList ++ ((partsMs (s.ms.drop (k + 1))).flatten ++ tailS s))) := by
        rw [hl, List.drop_eq_getElem_cons hlt, partsMs_consY]
        simp
      rw [hd, isM_text] at hm
      cases hm
    · rw [List.length_take] at hm
      omega
  subst hkl
  rw [List.drop_length] at hl
  have hl' : l = putInt s.st ++ (putInt s.en ++ [101]) := by rw [hl]; simp [partsMs, tailS]
  subst hl'
  have q2 : intE 0 (putInt s.st ++ (putInt s.en ++ [101])) = (putInt s.en ++ [101], 0, s.st) := read_putInt _ (by omega) (by omega) _
  rw [q2] at h1
  simp only [Prod.mk.injEq] at h1
  obtain ⟨rfl, rfl, rfl⟩ := h1
  have q3 : intE 0 (putInt s.en ++ [101]) = ([101], 0, s.en) := read_putInt _ (by omega) (by omega) _
  rw [q3] at h2
  simp only [Prod.mk.injEq] at h2
  obtain ⟨rfl, rfl, rfl⟩ := h2
  exact ⟨rfl, by rw [List.take_length], rfl, rfl⟩
/-- The ID that a key tells. -/
theorem key_cut {s : Sil} {x : Ent} (h : IsE s x) : x.k.data.toList = 115 :: s.id.data.toList := by
  obtain ⟨hk, -⟩ := h.tell
  rw [hk]
  simp [keyS]

/-- The reference's reader in a block of its own. -/
structure YR (w : World) (rb : Nat) (a : Option Addr) (c : Nat) (l : List UInt8) (e : Int) : Prop where
  blk : Two w rb 127 (.slice a l.length c) (.int .i64 e)
  xs : XS w a c l e
  low : ∀ q, a = some q → q.block < rb
theorem YR.below {w w' : World} {rb : Nat} {a : Option Addr} {c : Nat} {l : List UInt8} {e : Int} (h : YR w rb a c l e) (hb : Below w.heap.size w w') : YR w' rb a c l e := ⟨h.blk.below hb h.blk.lt, h.xs.below hb, h.low⟩
theorem YR.put {w : World} {rb : Nat} {a a1 : Option Addr} {c c1 : Nat} {l l1 : List UInt8} {e e1 : Int} (h : YR w rb a c l e) (hs : SrcAt w (.slice a1 l1.length c1) l1) (hc : l1.length ≤ c1) (hm : l1.length ≤ 140737488355328) (he : e1 ≠ 0 → l1 = []) (hl : ∀ q, a1 = some q → ∃ q0, a = some q0 ∧ q.block = q0.block) :
    YR ((w.setCell ⟨rb, 0, none⟩ (.slice a1 l1.length c1)).setCell ⟨rb, 1, none⟩ (.int .i64 e1)) rb a1 c1 l1 e1 := by
  have hl' : ∀ q, a1 = some q → q.block < rb := fun q hq => by
    obtain ⟨q0, h0, h1⟩ := hl q hq
    have := h.low q0 h0
    omega
  have hb : Below rb w ((w.setCell ⟨rb, 0, none⟩ (.slice a1 l1.length c1)).setCell ⟨rb, 1, none⟩ (.int .i64 e1)) := ((Below.refl rb w).setCell (p := ⟨rb, 0, none⟩) (Nat.le_refl _) _).setCell (p := ⟨rb, 1, none⟩) (Nat.le_refl _) _
  exact ⟨(h.blk.set0 _).set1 _, ⟨hs.low hb hl', hc, hm, he⟩, hl'⟩
/-- Whatever grows or is set above the reader leaves it. -/
theorem YR.far {w w' : World} {rb : Nat} {a : Option Addr} {c : Nat} {l : List UInt8} {e : Int} (h : YR w rb a c l e) (hb : Below (rb + 1) w w') : YR w' rb a c l e :=
  ⟨(hb.block rb (Nat.lt_succ_self _)).trans h.blk, h.xs.low hb (fun q hq => Nat.lt_succ_of_lt (h.low q hq)), h.low⟩
/-- What lies far below a turned world is left. -/
theorem SBlk.far {w w' : World} {B N : Nat} {id : ByteArray} {a : Option Addr} {n c : Nat} {st en : Int} (h : SBlk w B id a n c st en) (hb : Below N w w') (hB : B < N) : SBlk w' B id a n c st en := (hb.block B hB).trans h
/-- What Of of the reference holds: the entry, the answer, the silence, its matchers in a row of the call's own, the reader. -/
structure YSt (w w' : World) (R : Nat) (a : Option Addr) (c : Nat) (l : List UInt8) (e : Int) (x : Ent) (id : ByteArray) (a1 : Option Addr) (c1 : Nat) (ms : List Mt) : Prop where
  ent : EBlk w' w.heap.size x
  ans : SBlk w' (w.heap.size + 1) ⟨#[]⟩ none 0 0 0 0
  sil : SBlk w' (w.heap.size + 2) id a1 ms.length c1 0 0
  row : OwnSm w' (R + 1) (.slice a1 ms.length c1) ms
  rd : YR w' R a c l e
  low : Below w.heap.size w w'
  lt : w.heap.size + 2 < R
  hi : ∀ q, a = some q → w.heap.size + 2 < q.block
theorem YSt.on {w w' w2 : World} {R : Nat} {a : Option Addr} {c : Nat} {l : List UInt8} {e : Int} {x : Ent} {id : ByteArray} {a1 : Option Addr} {c1 : Nat} {ms : List Mt} (h : YSt w w' R a c l e x id a1 c1 ms) (hb : Below w'.heap.size w' w2) : YSt w w2 R a c l e x id a1 c1 ms :=
  ⟨h.ent.on hb, h.ans.on hb, h.sil.on hb, World.ownsRow.kept h.row (grownBy_of_below (r := none) hb) (by cases hv : (Value.slice a1 ms.length c1).ownBlock <;> simp), h.rd.below hb, h.low.trans (hb.mono h.low.size), h.lt, h.hi⟩
theorem YSt.put {w w' : World} {R : Nat} {a : Option Addr} {c : Nat} {l : List UInt8} {e : Int} {x : Ent} {id : ByteArray} {a1 : Option Addr} {c1 : Nat} {ms : List Mt} (h : YSt w w' R a c l e x id a1 c1 ms) {a2 : Option Addr} {c2 : Nat} {l2 : List UInt8} {e2 : Int} (hs : SrcAt w' (.slice a2 l2.length c2) l2) (hc : l2.length ≤ c2) (hm : l2.length ≤ 140737488355328) (he : e2 ≠ 0 → l2 = []) (hl : ∀ q, a2 = some q → ∃ q0, a = some q0 ∧ q.block = q0.block) :
    YSt w ((w'.setCell ⟨R, 0, none⟩ (.slice a2 l2.length c2)).setCell ⟨R, 1, none⟩ (.int .i64 e2)) R a2 c2 l2 e2 x id a1 c1 ms := by
  have h1 := h.lt
  have hb : Below R w' ((w'.setCell ⟨R, 0, none⟩ (.slice a2 l2.length c2)).setCell ⟨R, 1, none⟩ (.int .i64 e2)) := ((Below.refl R w').setCell (p := ⟨R, 0, none⟩) (Nat.le_refl _) _).setCell (p := ⟨R, 1, none⟩) (Nat.le_refl _) _
  refine ⟨h.ent.below hb (by omega), h.ans.far hb (by omega), h.sil.far hb (by omega), ?_, h.rd.put hs hc hm he hl, h.low.trans (hb.mono (by omega)), h.lt, fun q hq => ?_⟩
  rotate_left
  · obtain ⟨q0, h0, h2⟩ := hl q hq
    have := h.hi q0 h0
    omega
  have k1 := World.ownsRow.kept h.row (grownBy_setCell w' R 0 (.slice a2 l2.length c2)) (.inr fun e => by have := (World.ownsRow.lt h.row R e).1; omega)
  exact World.ownsRow.kept k1 (grownBy_setCell _ R 1 (.int .i64 e2)) (.inr fun e => by have := (World.ownsRow.lt k1 R e).1; omega)
/-- What is set above the reader, and not in the row, leaves all. -/
theorem YSt.set {w w' : World} {R : Nat} {a : Option Addr} {c : Nat} {l : List UInt8} {e : Int} {x : Ent} {id : ByteArray} {a1 : Option Addr} {c1 : Nat} {ms : List Mt} (h : YSt w w' R a c l e x id a1 c1 ms) (M j : Nat) (hM : R < M) (v : Value) (hne : some M ≠ (Value.slice a1 ms.length c1).ownBlock) : YSt w (w'.setCell ⟨M, j, none⟩ v) R a c l e x id a1 c1 ms := by
  have h1 := h.lt
  have hb : Below (R + 1) w' (w'.setCell ⟨M, j, none⟩ v) := (Below.refl (R + 1) w').setCell (p := ⟨M, j, none⟩) (by show R + 1 ≤ M; omega) _
  exact ⟨h.ent.below hb (by omega), h.ans.far hb (by omega), h.sil.far hb (by omega), World.ownsRow.kept h.row (grownBy_setCell w' M j v) (.inr fun e => hne e.symm), h.rd.far hb, h.low.trans (hb.mono (by omega)), h.lt, h.hi⟩
/-- One matcher more. -/
theorem YSt.push {w w' w2 : World} {R : Nat} {a : Option Addr} {c : Nat} {l : List UInt8} {e : Int} {x : Ent} {id : ByteArray} {a1 : Option Addr} {c1 : Nat} {ms : List Mt} (h : YSt w w' R a c l e x id a1 c1 ms) {g cap : Nat} {m : Mt} (hown : OwnSm w2 (R + 1) (.slice (some ⟨g, 0, none⟩) (ms ++ [m]).length cap) (ms ++ [m])) (hg : w'.grownBy w2 (Value.slice a1 ms.length c1).ownBlock) :
    YSt w (w2.setCell ⟨w.heap.size + 2, 1, none⟩ (.slice (some ⟨g, 0, none⟩) (ms ++ [m]).length cap)) R a c l e x id (some ⟨g, 0, none⟩) cap (ms ++ [m]) := by
  have h1 := h.lt
  have hR := h.rd.blk.lt
  have hb : Below (R + 1) w' w2 := (Below.refl (R + 1) w').grown hg (by omega) (fun k e => (World.ownsRow.lt h.row k e).1)
  have hc : Below (w.heap.size + 2) w2 (w2.setCell ⟨w.heap.size + 2, 1, none⟩ (.slice (some ⟨g, 0, none⟩) (ms ++ [m]).length cap)) := (Below.refl _ w2).setCell (p := ⟨w.heap.size + 2, 1, none⟩) (Nat.le_refl _) _
  have k1 := grownBy_setCell w2 (w.heap.size + 2) 1 (.slice (some ⟨g, 0, none⟩) (ms ++ [m]).length cap)
  refine ⟨(h.ent.below hb (by omega)).below hc (by omega), (h.ans.far hb (by omega)).far hc (by omega), (h.sil.far hb (by omega)).set1 _ _ _, World.ownsRow.kept hown k1 (.inr fun e => by have := (World.ownsRow.lt hown _ e).1; omega), ?_, (h.low.trans (hb.mono (by omega))).trans (hc.mono (by omega)), h.lt, h.hi⟩
  have y := h.rd.far hb
  refine ⟨(k1.block R y.blk.lt (by simp; omega)).trans y.blk, ⟨?_, y.xs.cap, y.xs.lim, y.xs.err⟩, y.low⟩
  exact y.xs.src.grown k1 (fun q n' c' e e2 => by
    simp only [Value.slice.injEq] at e
    have := h.hi q e.1
    simp at e2
    omega)
theorem bytes_of_stringY (w : World) (s : ByteArray) : ∃ a c w', (convert 9 111 (.string s)).run Tryz.prog w = .ok (.slice (some a) s.size c) w' ∧ SrcAt w' (.slice (some a) s.size c) s.data.toList ∧ s.size ≤ c ∧ (a.block < w'.heap.size ∧ w.heap.size ≤ a.block) ∧ Below w.heap.size w w' := by
  refine ⟨⟨w.heap.size, 0, none⟩, _, _, Lib.run_convert_string_bytes w 9 111 5 s Tryz.underlying9 Tryz.underlying111 Tryz.underlying5, .inr ⟨_, _, rfl, fun i hi => ?_⟩, grownCap_ge _ _ _ _, ⟨by rw [Lib.bytesWorld_size]; exact Nat.lt_succ_self _, Nat.le_refl _⟩, Lib.bytesWorld_below _ _ _⟩
  rw [Go.WideShapes.add_plain, Nat.zero_add, Lib.bytesWorld_cell w 5 s i (by show i < s.data.size; simpa using hi)]
  rw [List.getD_eq_getElem?_getD, List.getElem?_eq_getElem hi]
  rfl

end Go.Proofs.YtcngifkoopcmeaaGreatDoor
namespace Go.Proofs.YtcngifkoopcmeaaGreatDoor
open Go Go.RowKit

/-- One silence in a row. -/
theorem sils_one (w : World) (x : Sm) (hm : MtsAt w x.ad x.s.ms) : SilsAt (w.alloc (.cells #[.string x.s.id, .slice x.ad x.s.ms.length x.cp, .int .i64 x.s.st, .int .i64 x.s.en] 55)) (some ⟨w.heap.size, 0, none⟩) [x] := fun _ => by
  have n0 := newE w (.cells #[.string x.s.id, .slice x.ad x.s.ms.length x.cp, .int .i64 x.s.st, .int .i64 x.s.en] 55)
  refine ⟨_, 0, rfl, ltE n0, fun i hi => ?_⟩
  obtain rfl : i = 0 := by have : i < 1 := hi; omega
  exact ⟨⟨cellE n0, cellE n0, cellE n0, cellE n0⟩, hm.below ((Below.refl _ _).alloc (Nat.le_refl _) _) (Nat.le_refl _)⟩
theorem lay_short {s : Sil} (h : silE s = 0) : (layS s.ms s.st s.en).length ≤ 1700 := by
  obtain ⟨-, h2, h3, h4, h5, h6, h7⟩ := silE_zero h
  have q1 := partsMs_short s.ms (fun m hm => good_of (h4 m hm))
  have q2 := itoa_short s.st (by omega) (by omega)
  have q3 := itoa_short s.en (by omega) (by omega)
  unfold layS putList partsS
  simp only [List.flatten_append, List.flatten_cons, List.flatten_nil, List.length_append, List.length_cons, List.length_nil]
  omega

end Go.Proofs.YtcngifkoopcmeaaGreatDoor
namespace Go.Proofs.YtcngifkoopcmeaaGreatDoor
open Go Go.RowKit

/-- What Entry tells. -/
def ansS (s : Sil) (t o : Int) : Ent := if entryE s t = 0 then entS s t o else zeroE
theorem sEntry_any (s : Sil) (a : Option Addr) (c : Nat) (t o : Int) (w : World) (htab : TabW w) (hm : MtsAt w a s.ms) (hml : s.ms.length ≤ 9223372036854775807) (B : Nat) (hB : B ≤ w.heap.size) (hv : VarsOk B w) (n : Nat) (hn : n = s.ms.length) :
    Calls Tryz.prog 23 #[.agg #[.string s.id, .slice a n c, .int .i64 s.st, .int .i64 s.en], .int .i64 t, .int .u16 o] w fun e w' => e = .returned (.tuple #[.agg #[.string (ansS s t o).k, .int .i64 (ansS s t o).t, .int .u16 (ansS s t o).o, .string (ansS s t o).v, .int .i64 (ansS s t o).u], .int .i64 (entryE s t)]) ∧ Below w.heap.size w w' := by
  unfold ansS
  by_cases he : entryE s t = 0
  · rw [if_pos he, he]
    exact sEntry_ok s a c t o w htab hm he B hB hv n hn
  · rw [if_neg he]
    exact sEntry_err s a c t o w htab hm hml he n hn
theorem yEntry_any (s : Sil) (a : Option Addr) (c : Nat) (t o : Int) (w : World) (hm : MtsAt w a s.ms) (hml : s.ms.length ≤ 9223372036854775807) (hid : s.id.size ≤ 9223372036854775807) (hz : ∀ m ∈ s.ms, m.1.size ≤ 9223372036854775807) (n : Nat) (hn : n = s.ms.length) :
    Calls Tryz.prog 24 #[.agg #[.string s.id, .slice a n c, .int .i64 s.st, .int .i64 s.en], .int .i64 t, .int .u16 o] w fun e w' => e = .returned (.tuple #[.agg #[.string (ansS s t o).k, .int .i64 (ansS s t o).t, .int .u16 (ansS s t o).o, .string (ansS s t o).v, .int .i64 (ansS s t o).u], .int .i64 (entryE s t)]) ∧ Below w.heap.size w w' := by
  unfold ansS
  by_cases he : entryE s t = 0
  · rw [if_pos he, he]
    exact yEntry_ok s a c t o w hm he n hn
  · rw [if_neg he]
    exact yEntry_err s a c t o w hm hml hid hz he n hn

set_option maxRecDepth 100000 in
set_option maxHeartbeats 4000000 in
theorem ents_walkS (x : Sm) (time o : Int) (w : World) (htab : TabW w) (hv : VarsOk w.heap.size w) (hm : MtsAt w x.ad x.s.ms) (hml : x.s.ms.length ≤ 9223372036854775807) (hid : x.s.id.size ≤ 9223372036854775807) (hz : ∀ m ∈ x.s.ms, m.1.size ≤ 9223372036854775807) :
    Calls Tryz.prog 6 #[.agg #[.string x.s.id, .slice x.ad x.s.ms.length x.cp, .int .i64 x.s.st, .int .i64 x.s.en], .int .i64 time, .int .u16 o] w fun e w' => e = .returned (.bool true) ∧ Below w.heap.size w w' := by
  obtain ⟨n, hn⟩ : ∃ n, n = x.s.ms.length := ⟨_, rfl⟩
  have d1 := (Below.refl w.heap.size w).alloc (Nat.le_refl _) (.cells #[.string x.s.id, .slice x.ad x.s.ms.length x.cp, .int .i64 x.s.st, .int .i64 x.s.en] 55)
  have b1 := SBlk.new w x.s.id x.ad x.s.ms.length x.cp x.s.st x.s.en
  have d2 := (Below.refl (w.alloc (.cells #[.string x.s.id, .slice x.ad x.s.ms.length x.cp, .int .i64 x.s.st, .int .i64 x.s.en] 55)).heap.size (w.alloc (.cells #[.string x.s.id, .slice x.ad x.s.ms.length x.cp, .int .i64 x.s.st, .int .i64 x.s.en] 55))).alloc (Nat.le_refl _) (.cells #[.string x.s.id, .slice x.ad x.s.ms.length x.cp, .int .i64 x.s.st, .int .i64 x.s.en] 55)
  have hso := sils_one (w.alloc (.cells #[.string x.s.id, .slice x.ad x.s.ms.length x.cp, .int .i64 x.s.st, .int .i64 x.s.en] 55)) x (hm.below d1 (Nat.le_refl _))
  rw [World.size_alloc] at hso
  have hL := yLight_any (some ⟨w.heap.size + 1, 0, none⟩) 1 [x] _ hso 1 rfl (by omega)
  have b2 := b1.on d2
  have D2 := d1.trans (d2.mono d1.size)
  have HX := Lib.hid (And.intro htab (And.intro hv (And.intro hm hml)))
  have HA : Hid (∀ W, Below w.heap.size w W → Calls Tryz.prog 22 #[] W fun e w' => e = .returned (.bool true) ∧ Below W.heap.size W w') := Lib.hid (fun W hW => slawake_any w.heap.size W hW.size (HX.out.2.1.on hW) (htab.on hW htab.lt))
  have HE1 : Hid (∀ W, Below w.heap.size w W → Calls Tryz.prog 23 #[.agg #[.string x.s.id, .slice x.ad n x.cp, .int .i64 x.s.st, .int .i64 x.s.en], .int .i64 time, .int .u16 o] W fun e w' => e = .returned (.tuple #[.agg #[.string (ansS x.s time o).k, .int .i64 (ansS x.s time o).t, .int .u16 (ansS x.s time o).o, .string (ansS x.s time o).v, .int .i64 (ansS x.s time o).u], .int .i64 (entryE x.s time)]) ∧ Below W.heap.size W w') := Lib.hid (fun W hW => sEntry_any x.s x.ad x.cp time o W (htab.on hW htab.lt) (hm.below hW (Nat.le_refl _)) hml w.heap.size hW.size (hv.on hW) n hn)
  have HE2 : Hid (∀ W, Below w.heap.size w W → Calls Tryz.prog 24 #[.agg #[.string x.s.id, .slice x.ad n x.cp, .int .i64 x.s.st, .int .i64 x.s.en], .int .i64 time, .int .u16 o] W fun e w' => e = .returned (.tuple #[.agg #[.string (ansS x.s time o).k, .int .i64 (ansS x.s time o).t, .int .u16 (ansS x.s time o).o, .string (ansS x.s time o).v, .int .i64 (ansS x.s time o).u], .int .i64 (entryE x.s time)]) ∧ Below W.heap.size W w') := Lib.hid (fun W hW => yEntry_any x.s x.ad x.cp time o W (hm.below hW (Nat.le_refl _)) hml hid hz n hn)
  have HC1 : Hid (∀ W, Below w.heap.size w W → Calls Tryz.prog 25 #[.agg #[.string x.s.id, .slice x.ad n x.cp, .int .i64 x.s.st, .int .i64 x.s.en]] W fun e w' => e = .returned (.int .i64 (silE x.s)) ∧ Below W.heap.size W w') := Lib.hid (fun W hW => hn ▸ sCheck_any x.s x.ad x.cp W (htab.on hW htab.lt) (hm.below hW (Nat.le_refl _)) hml)
  have HC2 : Hid (∀ W, Below w.heap.size w W → Calls Tryz.prog 26 #[.agg #[.string x.s.id, .slice x.ad n x.cp, .int .i64 x.s.st, .int .i64 x.s.en]] W fun e w' => e = .returned (.int .i64 (silE x.s)) ∧ Below W.heap.size W w') := Lib.hid (fun W hW => hn ▸ yCheck_any x.s x.ad x.cp W (hm.below hW (Nat.le_refl _)) hml hid hz)
  obtain ⟨q, hq⟩ : ∃ q, q = decide (LightS [x]) := ⟨_, rfl⟩
  rw [← hq] at hL
  rw [← hn] at hL b2 D2 ⊢
  have HL := Lib.hid hL
  have HB := Lib.hid (And.intro b2 D2)
  clear d1 b1 d2 hso hL b2 D2 htab hv hm hml hn hq hid hz HX
  generalize ansS x.s time o = A at *
  generalize entryE x.s time = E at *
  generalize silE x.s = C at *
  obtain ⟨⟨id, ms, st, en⟩, ad, cp⟩ := x
  dsimp only at *
  cases q with
  | false =>
    clear HE1 HE2 HC1 HC2
    go_enter Tryz.func6, Tryz.ntmps6
    go_wp2_with (go_at_call 21; refine HL.out.mono ?_; rintro e w2 ⟨rfl, hw2⟩; replace hw2 := Lib.hid hw2; refine Hid.out ?_)
    refine Lib.hid ?_
    have D2 := HB.out.2
    rw [← hw2.out] at D2
    have HC := Lib.hid (HA.out w2 D2)
    have HD := Lib.hid D2
    clear D2 HL hw2 HB
    go_wp2_with (go_at_call 22; refine HC.out.mono ?_; rintro e w6 ⟨rfl, q6⟩; replace q6 := Lib.hid q6; refine Hid.out ?_)
    refine Lib.hid ?_
    have HF := Lib.hid (HD.out.trans (q6.out.mono HD.out.size))
    clear q6 HC HD
    go_wp2
    go_ret
    exact ⟨rfl, HF.out⟩
  | true =>
    have hR := fun w => run_eqE A A w
    rw [eqEn_refl] at hR
    have HR := Lib.hid hR
    clear hR
    go_enter Tryz.func6, Tryz.ntmps6
    go_wp2_with (go_at_call 21; refine HL.out.mono ?_; rintro e w2 ⟨rfl, hw2⟩; replace hw2 := Lib.hid hw2; refine Hid.out ?_)
    refine Lib.hid ?_
    obtain ⟨b2, D2⟩ := HB.out
    rw [← hw2.out] at b2 D2
    have HS := Lib.hid (And.intro b2 D2)
    have k0 := b2.c0
    have k1 := b2.c1
    have k2 := b2.c2
    have k3 := b2.c3
    have HP1 := Lib.hid (HE1.out w2 D2)
    clear b2 D2 HB HL hw2 HE1
    go_wp2_with (go_at_call 23; refine HP1.out.mono ?_; rintro e u1 ⟨rfl, q1⟩; refine Hid.out ?_)
    refine Lib.hid ?_
    obtain ⟨b1, d1⟩ := HS.out
    have qa := (Below.refl u1.heap.size u1).alloc (Nat.le_refl _) (.cells #[.string A.k, .int .i64 A.t, .int .u16 A.o, .string A.v, .int .i64 A.u] 60)
    have c1 := (b1.on q1).on qa
    have e1 := EBlk.new u1 A
    have d2 := d1.trans (q1.mono d1.size)
    have d3 := d2.trans (qa.mono d2.size)
    clear k0 k1 k2 k3
    have k0 := c1.c0
    have k1 := c1.c1
    have k2 := c1.c2
    have k3 := c1.c3
    have HP2 := Lib.hid (HE2.out _ d3)
    have HZ2 := Lib.hid (And.intro c1 (And.intro e1 d3))
    clear HS b1 d1 q1 qa c1 e1 d2 d3 HP1 HE2
    go_wp2_with (go_at_call 24; refine HP2.out.mono ?_; rintro e u2 ⟨rfl, q2⟩; refine Hid.out ?_)
    refine Lib.hid ?_
    obtain ⟨c1, e1, d3⟩ := HZ2.out
    have qb := (Below.refl u2.heap.size u2).alloc (Nat.le_refl _) (.cells #[.string A.k, .int .i64 A.t, .int .u16 A.o, .string A.v, .int .i64 A.u] 60)
    have c2 := (c1.on q2).on qb
    have e2 := (e1.on q2).on qb
    have e3 := EBlk.new u2 A
    have d4 := d3.trans (q2.mono d3.size)
    have d5 := d4.trans (qb.mono d4.size)
    clear k0 k1 k2 k3 HZ2 c1 e1 d3 q2 qb d4 HP2
    go_wp2_with fail
    generalize hw3 : u2.alloc (.cells #[.string A.k, .int .i64 A.t, .int .u16 A.o, .string A.v, .int .i64 A.u] 60) = w3 at *
    clear hw3
    generalize u1.heap.size = X1 at *
    generalize u2.heap.size = X2 at *
    refine wp_region_any (by kernel_rfl) ?_
    change wpAny _ _ _ _ _ _ _ (World.drew _)
    have hS : (fun w' : World => SBlk w' w.heap.size id ad n cp st en ∧ EBlk w' X1 A ∧ EBlk w' X2 A ∧ Below w.heap.size w w') w3.drew := ⟨c2, e2, e3, d5.drew⟩
    refine wpAny_of_held (S := fun w' => SBlk w' w.heap.size id ad n cp st en ∧ EBlk w' X1 A ∧ EBlk w' X2 A ∧ Below w.heap.size w w') _ _ _ _ ?_
    clear c2 e2 e3 d5
    refine wpAnyH_takeE (i := 0) (some 30) (v := ?_) rfl rfl (by as_aux_lemma => kernel_rfl) (by as_aux_lemma => kernel_rfl) (by as_aux_lemma => kernel_rfl) (fun _ _ _ h => h) (Or.inl ⟨by kernel_rfl, ?_⟩) hS ?_
    rotate_left
    · intro w hSw; have v0 := hSw.2.1.c0; have v1 := hSw.2.1.c1; have v2 := hSw.2.1.c2; have v3 := hSw.2.1.c3; have v4 := hSw.2.1.c4; go_simp
      first | done | with_reducible rfl
    refine wpAnyH_takeE (i := 1) (some 31) (v := ?_) rfl rfl (by as_aux_lemma => kernel_rfl) (by as_aux_lemma => kernel_rfl) (by as_aux_lemma => kernel_rfl) (fun _ _ _ h => h) (Or.inl ⟨by kernel_rfl, ?_⟩) hS ?_
    rotate_left
    · intro w hSw; have v0 := hSw.2.2.1.c0; have v1 := hSw.2.2.1.c1; have v2 := hSw.2.2.1.c2; have v3 := hSw.2.2.1.c3; have v4 := hSw.2.2.1.c4; go_simp
      first | done | with_reducible rfl
    have hR := HR.out
    refine wpAnyH_takeE (i := 2) (some 32) (v := ?_) rfl rfl (by as_aux_lemma => kernel_rfl) (by as_aux_lemma => kernel_rfl) (by as_aux_lemma => kernel_rfl) (fun _ _ _ h => h) (Or.inl ⟨by kernel_rfl, ?_⟩) hS ?_
    rotate_left
    · intro w hSw; skip; go_simp
      first | done | with_reducible rfl
    clear hR
    refine wpAnyH_takeE (i := 3) (some 33) (v := ?_) rfl rfl (by as_aux_lemma => kernel_rfl) (by as_aux_lemma => kernel_rfl) (by as_aux_lemma => kernel_rfl) (fun _ _ _ h => h) (Or.inl ⟨by kernel_rfl, ?_⟩) hS ?_
    rotate_left
    · intro w hSw; skip; go_simp
      first | done | with_reducible rfl
    refine wpAnyH_takeE (i := 4) (some 34) (v := ?_) rfl rfl (by as_aux_lemma => kernel_rfl) (by as_aux_lemma => kernel_rfl) (by as_aux_lemma => kernel_rfl) (fun _ _ _ h => h) (Or.inl ⟨by kernel_rfl, ?_⟩) hS ?_
    rotate_left
    · intro w hSw; skip; go_simp
      first | done | with_reducible rfl
    refine wpAnyH_takeE (i := 5) (some 35) (v := ?_) rfl rfl (by as_aux_lemma => kernel_rfl) (by as_aux_lemma => kernel_rfl) (by as_aux_lemma => kernel_rfl) (fun _ _ _ h => h) (Or.inl ⟨by kernel_rfl, ?_⟩) hS ?_
    rotate_left
    · intro w hSw; skip; go_simp
      first | done | with_reducible rfl
    refine wpAnyH_takeE (i := 6) (some 36) (v := ?_) rfl rfl (by as_aux_lemma => kernel_rfl) (by as_aux_lemma => kernel_rfl) (by as_aux_lemma => kernel_rfl) (fun _ _ _ h => h) (Or.inl ⟨by kernel_rfl, ?_⟩) hS ?_
    rotate_left
    · intro w hSw; skip; go_simp
      first | done | with_reducible rfl
    refine wpAnyH_takeE (i := 7) (some 37) (v := ?_) rfl rfl (by as_aux_lemma => kernel_rfl) (by as_aux_lemma => kernel_rfl) (by as_aux_lemma => kernel_rfl) (fun _ _ _ h => h) (Or.inl ⟨by kernel_rfl, ?_⟩) hS ?_
    rotate_left
    · intro w hSw; skip; go_simp
      first | done | with_reducible rfl
    refine wpAnyH_takeE (i := 8) (some 38) (v := ?_) rfl rfl (by as_aux_lemma => kernel_rfl) (by as_aux_lemma => kernel_rfl) (by as_aux_lemma => kernel_rfl) (fun _ _ _ h => h) (Or.inl ⟨by kernel_rfl, ?_⟩) hS ?_
    rotate_left
    · intro w hSw; skip; go_simp
      first | done | with_reducible rfl
    refine wpAnyH_takeE (i := 9) (some 39) (v := ?_) rfl rfl (by as_aux_lemma => kernel_rfl) (by as_aux_lemma => kernel_rfl) (by as_aux_lemma => kernel_rfl) (fun _ _ _ h => h) (Or.inl ⟨by kernel_rfl, ?_⟩) hS ?_
    rotate_left
    · intro w hSw; have k0 := hSw.1.c0; have k1 := hSw.1.c1; have k2 := hSw.1.c2; have k3 := hSw.1.c3; go_simp
      first | done | with_reducible rfl
    refine wpAnyH_takeE (i := 11) (some 41) (v := ?_) rfl rfl (by as_aux_lemma => kernel_rfl) (by as_aux_lemma => kernel_rfl) (by as_aux_lemma => kernel_rfl) (fun _ _ _ h => h) (Or.inl ⟨by kernel_rfl, ?_⟩) hS ?_
    rotate_left
    · intro w hSw; have k0 := hSw.1.c0; have k1 := hSw.1.c1; have k2 := hSw.1.c2; have k3 := hSw.1.c3; go_simp
      first | done | with_reducible rfl
    refine wpAnyH_ready (rs := [10]) (by as_aux_lemma => kernel_rfl) (by simp) ?_
    refine AllReadyH.cons rfl (fun K hK => ?_) AllReadyH.nil
    go_simp
    go_wp2_with (go_at_call 25; refine (HC1.out _ hS.2.2.2).mono ?_; rintro e u1 ⟨rfl, q1⟩)
    refine hK.out _ _ ?_ (fun hS => ?_)
    · exact ⟨hS.1.on q1, hS.2.1.on q1, hS.2.2.1.on q1, hS.2.2.2.trans (q1.mono hS.2.2.2.size)⟩
    clear hK K
    clear q1
    refine wpAnyH_ready (rs := [12]) (by as_aux_lemma => kernel_rfl) (by simp) ?_
    refine AllReadyH.cons rfl (fun K hK => ?_) AllReadyH.nil
    go_simp
    go_wp2_with (go_at_call 26; refine (HC2.out _ hS.2.2.2).mono ?_; rintro e u2 ⟨rfl, q2⟩)
    refine hK.out _ _ ?_ (fun hS => ?_)
    · exact ⟨hS.1.on q2, hS.2.1.on q2, hS.2.2.1.on q2, hS.2.2.2.trans (q2.mono hS.2.2.2.size)⟩
    clear hK K
    clear q2
    refine wpAnyH_takeE (i := 13) (some 43) (v := ?_) rfl rfl (by as_aux_lemma => kernel_rfl) (by as_aux_lemma => kernel_rfl) (by as_aux_lemma => kernel_rfl) (fun _ _ _ h => h) (Or.inl ⟨by kernel_rfl, ?_⟩) hS ?_
    rotate_left
    · intro w hSw; skip; go_simp
      first | done | with_reducible rfl
    refine wpAnyH_takeE (i := 14) (some 44) (v := ?_) rfl rfl (by as_aux_lemma => kernel_rfl) (by as_aux_lemma => kernel_rfl) (by as_aux_lemma => kernel_rfl) (fun _ _ _ h => h) (Or.inl ⟨by kernel_rfl, ?_⟩) hS ?_
    rotate_left
    · intro w hSw; skip; go_simp
      first | done | with_reducible rfl
    refine wpAnyH_takeE (i := 15) (some 45) (v := ?_) rfl rfl (by as_aux_lemma => kernel_rfl) (by as_aux_lemma => kernel_rfl) (by as_aux_lemma => kernel_rfl) (fun _ _ _ h => h) (Or.inl ⟨by kernel_rfl, ?_⟩) hS ?_
    rotate_left
    · intro w hSw; skip; go_simp
      first | done | with_reducible rfl
    refine wpAnyH_ready (rs := [16]) (by as_aux_lemma => kernel_rfl) (by simp) ?_
    refine AllReadyH.cons rfl (fun K hK => ?_) AllReadyH.nil
    go_simp
    go_wp2_with (go_at_call 22; refine (HA.out _ hS.2.2.2).mono ?_; rintro e u3 ⟨rfl, q3⟩)
    refine hK.out _ _ ?_ (fun hS => ?_)
    · exact ⟨hS.1.on q3, hS.2.1.on q3, hS.2.2.1.on q3, hS.2.2.2.trans (q3.mono hS.2.2.2.size)⟩
    clear hK K
    clear q3
    refine wpAnyH_takeE (i := 17) (some 47) (v := ?_) rfl rfl (by as_aux_lemma => kernel_rfl) (by as_aux_lemma => kernel_rfl) (by as_aux_lemma => kernel_rfl) (fun _ _ _ h => h) (Or.inl ⟨by kernel_rfl, ?_⟩) hS ?_
    rotate_left
    · intro w hSw; skip; go_simp
      first | done | with_reducible rfl
    refine wpAnyH_takeE (i := 18) (some 6) (v := ?_) rfl rfl (by as_aux_lemma => kernel_rfl) (by as_aux_lemma => kernel_rfl) (by as_aux_lemma => kernel_rfl) (fun _ _ _ h => h) (Or.inl ⟨by kernel_rfl, ?_⟩) hS ?_
    rotate_left
    · intro w hSw; skip; go_simp
      first | done | with_reducible rfl
    have h5 := Lib.hid hS.2.2.2
    clear hS
    refine wpAnyH_done (by kernel_rfl) ?_ _
    go_simp
    go_wp2
    go_ret
    exact ⟨by simp, h5.out⟩

end Go.Proofs.YtcngifkoopcmeaaGreatDoor
