/-
  What Of of the reference tells.
-/
import Derived.Test.YtieepbjngolaoaaDoorN7
import Derived.Test.YtieepbjngolaoaaDoorNHCnt
import Derived.Test.YtieepbjngolaoaaDoorEOpen
namespace Go.Proofs.YtieepbjngolaoaaDoor
open Go Go.RowKit

theorem XR.far {w : World} {rb : Nat} {a : Option Addr} {c : Nat} {l : List UInt8} {e : Int} (h : XR w rb a c l e) (p : Addr) (hp : rb < p.block) (v : Value) : XR (w.setCell p v) rb a c l e :=
  ⟨h.blk.far p (by omega) v, h.xs.low ((Below.refl p.block w).setCell (p := p) (Nat.le_refl _) v) (fun q hq => Nat.lt_trans (h.low q hq) hp), h.low⟩
theorem SnBlk.set0 {w : World} {B : Nat} {r k v : ByteArray} {t : Int} (h : SnBlk w B ⟨r, k, v, t⟩) (r' : ByteArray) : SnBlk (w.setCell ⟨B, 0, none⟩ (.string r')) B ⟨r', k, v, t⟩ := by
  unfold SnBlk at h ⊢
  simp [World.setCell, Array.getElem?_modify, h]
theorem SnBlk.set1 {w : World} {B : Nat} {r k v : ByteArray} {t : Int} (h : SnBlk w B ⟨r, k, v, t⟩) (k' : ByteArray) : SnBlk (w.setCell ⟨B, 1, none⟩ (.string k')) B ⟨r, k', v, t⟩ := by
  unfold SnBlk at h ⊢
  simp [World.setCell, Array.getElem?_modify, h]
/-- What Of of the reference holds: the entry, the answer, the reader, the sending. -/
structure OfSt (w w' : World) (R : Nat) (a : Option Addr) (c : Nat) (l : List UInt8) (e : Int) (x : Ent) (s : Snd) : Prop where
  ent : EBlk w' w.heap.size x
  ans : SnBlk w' (w.heap.size + 1) zeroN
  rd : XR w' R a c l e
  snd : SnBlk w' (R + 1) s
  low : Below w.heap.size w w'
  lt : w.heap.size + 1 < R
theorem OfSt.on {w w' w2 : World} {R : Nat} {a : Option Addr} {c : Nat} {l : List UInt8} {e : Int} {x : Ent} {s : Snd} (h : OfSt w w' R a c l e x s) (hb : Below w'.heap.size w' w2) : OfSt w w2 R a c l e x s :=
  ⟨h.ent.on hb, h.ans.on hb, h.rd.below hb, h.snd.on hb, h.low.trans (hb.mono h.low.size), h.lt⟩
theorem OfSt.put {w w' : World} {R : Nat} {a a1 : Option Addr} {c c1 : Nat} {l l1 : List UInt8} {e e1 : Int} {x : Ent} {s : Snd} (h : OfSt w w' R a c l e x s) (hs : SrcAt w' (.slice a1 l1.length c1) l1) (hc : l1.length ≤ c1) (hm : l1.length ≤ 140737488355328) (he : e1 ≠ 0 → l1 = []) (hl : ∀ q, a1 = some q → ∃ q0, a = some q0 ∧ q.block = q0.block) :
    OfSt w ((w'.setCell ⟨R, 0, none⟩ (.slice a1 l1.length c1)).setCell ⟨R, 1, none⟩ (.int .i64 e1)) R a1 c1 l1 e1 x s := by
  have h1 := h.lt
  exact ⟨(h.ent.other (p := ⟨R, 0, none⟩) (by show w.heap.size ≠ R; omega) _).other (p := ⟨R, 1, none⟩) (by show w.heap.size ≠ R; omega) _,
    (h.ans.other (p := ⟨R, 0, none⟩) (by show w.heap.size + 1 ≠ R; omega) _).other (p := ⟨R, 1, none⟩) (by show w.heap.size + 1 ≠ R; omega) _,
    h.rd.put hs hc hm he hl,
    (h.snd.other (p := ⟨R, 0, none⟩) (by show R + 1 ≠ R; omega) _).other (p := ⟨R, 1, none⟩) (by show R + 1 ≠ R; omega) _,
    two_below h.low (by omega), h.lt⟩
theorem OfSt.set0 {w w' : World} {R : Nat} {a : Option Addr} {c : Nat} {l : List UInt8} {e : Int} {x : Ent} {r k v : ByteArray} {t : Int} (h : OfSt w w' R a c l e x ⟨r, k, v, t⟩) (r' : ByteArray) : OfSt w (w'.setCell ⟨R + 1, 0, none⟩ (.string r')) R a c l e x ⟨r', k, v, t⟩ := by
  have h1 := h.lt
  exact ⟨h.ent.other (p := ⟨R + 1, 0, none⟩) (by show w.heap.size ≠ R + 1; omega) _, h.ans.other (p := ⟨R + 1, 0, none⟩) (by show w.heap.size + 1 ≠ R + 1; omega) _, h.rd.far ⟨R + 1, 0, none⟩ (by show R < R + 1; omega) _, h.snd.set0 r', h.low.setCell (p := ⟨R + 1, 0, none⟩) (by show w.heap.size ≤ R + 1; omega) _, h.lt⟩
theorem OfSt.set1 {w w' : World} {R : Nat} {a : Option Addr} {c : Nat} {l : List UInt8} {e : Int} {x : Ent} {r k v : ByteArray} {t : Int} (h : OfSt w w' R a c l e x ⟨r, k, v, t⟩) (k' : ByteArray) : OfSt w (w'.setCell ⟨R + 1, 1, none⟩ (.string k')) R a c l e x ⟨r, k', v, t⟩ := by
  have h1 := h.lt
  exact ⟨h.ent.other (p := ⟨R + 1, 1, none⟩) (by show w.heap.size ≠ R + 1; omega) _, h.ans.other (p := ⟨R + 1, 1, none⟩) (by show w.heap.size + 1 ≠ R + 1; omega) _, h.rd.far ⟨R + 1, 1, none⟩ (by show R < R + 1; omega) _, h.snd.set1 k', h.low.setCell (p := ⟨R + 1, 1, none⟩) (by show w.heap.size ≤ R + 1; omega) _, h.lt⟩
theorem tail_cut {k : ByteArray} (h : hasN k = true) : (k.extract 1 k.size).data.toList = cutN k := by
  rw [extract_tail, hasN_cons h]; rfl
theorem keepN_range (x : Ent) : -9223372036854775808 ≤ keepN x ∧ keepN x ≤ 9223372036854775807 := by
  unfold keepN; rw [IntKind.wrap_i64]; omega
theorem okN_inv {x : Ent} (h : okN x = true) : x.k.size ≠ 0 ∧ 0 ≤ x.t ∧ x.t ≤ x.u ∧ (rdG (cutN x.k)).2.1 = 0 := by
  obtain ⟨h1, h2, h3⟩ := (okN_iff x).1 h
  rw [ansN_ok h2] at h3
  have hk : x.k.size ≠ 0 := by
    have := hasN_cons h1
    have e : x.k.data.toList.length = x.k.size := rfl
    rw [this] at e
    simp at e
    omega
  have g1 : (sndN x (cutN x.k)).r.size ≠ 0 := fun e => by rw [errN_arg1 e] at h2; exact absurd h2 (by decide)
  have g2 : (sndN x (cutN x.k)).k.size ≠ 0 := fun e => by rw [errN_arg2 e] at h2; exact absurd h2 (by decide)
  rw [errN_check g1 g2 x.o, h3] at h2
  refine ⟨hk, ?_⟩
  have hc : 0 ≤ x.t ∧ x.t ≤ x.u := by
    unfold checkEn at h2
    split at h2
    · cases h2
    · split at h2
      · cases h2
      · omega
  refine ⟨hc.1, hc.2, ?_⟩
  by_cases he : (rdG (cutN x.k)).2.1 = 0
  · exact he
  · exfalso
    have := (textE_short (h := show textE 1024 (rdR (cutN x.k)).2.1 (rdR (cutN x.k)).1 = ((rdG (cutN x.k)).1, (rdG (cutN x.k)).2.1, (rdG (cutN x.k)).2.2) from rfl)).2 he
    apply g2
    show (⟨(rdG (cutN x.k)).2.2.toArray⟩ : ByteArray).size = 0
    rw [this]
    rfl
theorem okN_tail {x : Ent} (h1 : errN (sndN x (x.k.extract 1 x.k.size).data.toList) (keepN x) = 0) (h2 : ansN (sndN x (x.k.extract 1 x.k.size).data.toList) x.o (keepN x) = x) : okN x = true ∧ (x.k.extract 1 x.k.size).data.toList = cutN x.k := by
  have h3 := h2
  rw [ansN_ok h1] at h3
  have hk : x.k = keyN (sndN x (x.k.extract 1 x.k.size).data.toList).r (sndN x (x.k.extract 1 x.k.size).data.toList).k := (congrArg Ent.k h3).symm
  have h4 : hasN x.k = true := by rw [hk]; exact (hasN_key _ _).1
  have h5 := tail_cut h4
  refine ⟨(okN_iff x).2 ⟨h4, ?_, ?_⟩, h5⟩
  · rw [← h5]; exact h1
  · rw [← h5]; exact h2
/-- No sending, by the reference's words. -/
theorem okN_ref {x : Ent} (h : x.k.size = 0 ∨ x.t < 0 ∨ x.u < x.t ∨ (rdG (x.k.extract 1 x.k.size).data.toList).2.1 ≠ 0 ∨ errN (sndN x (x.k.extract 1 x.k.size).data.toList) (keepN x) ≠ 0 ∨ ansN (sndN x (x.k.extract 1 x.k.size).data.toList) x.o (keepN x) ≠ x) : okN x = false := by
  rw [Bool.eq_false_iff]
  intro h2
  obtain ⟨a1, a2, a3, a4⟩ := okN_inv h2
  obtain ⟨b1, b2, b3⟩ := (okN_iff x).1 h2
  rw [tail_cut b1] at h
  rcases h with h | h | h | h | h | h
  · exact a1 h
  · omega
  · omega
  · exact h a4
  · exact h b2
  · exact h b3

set_option maxRecDepth 100000 in
set_option maxHeartbeats 4000000 in
theorem zOf_len (x : Ent) (w : World) (h1 : x.k.size = 0) :
    Calls Tryd.prog 15 #[.agg #[.string x.k, .int .i64 x.t, .int .u16 x.o, .string x.v, .int .i64 x.u]] w fun e w' => e = .returned (.tuple #[.agg #[.string ⟨#[]⟩, .string ⟨#[]⟩, .string ⟨#[]⟩, .int .i64 0], .bool false]) ∧ Below w.heap.size w w' := by
  have d1 := (Below.refl w.heap.size w).alloc (Nat.le_refl _) (.cells #[.string x.k, .int .i64 x.t, .int .u16 x.o, .string x.v, .int .i64 x.u] 24)
  have d2 := d1.alloc (by simp) (.cells #[.string ⟨#[]⟩, .string ⟨#[]⟩, .string ⟨#[]⟩, .int .i64 0] 33)
  have b1 := (EBlk.new w x).on ((Below.refl _ _).alloc (Nat.le_refl _) (.cells #[.string ⟨#[]⟩, .string ⟨#[]⟩, .string ⟨#[]⟩, .int .i64 0] 33))
  have b2 := SnBlk.new (w.alloc (.cells #[.string x.k, .int .i64 x.t, .int .u16 x.o, .string x.v, .int .i64 x.u] 24)) zeroN
  rw [World.size_alloc] at b2
  dsimp only [zeroN] at b2
  have g1 : (x.k.size : Int) < 1 := by omega
  have z0 := b2.c0; have z1 := b2.c1; have z2 := b2.c2; have z3 := b2.c3; have y0 := b2.f 0; have y1 := b2.f 1; have y2 := b2.f 2; have y3 := b2.f 3
  have x0 := b1.c0
  have HF := Lib.hid b2
  have HQ := Lib.hid d2
  clear d1 d2 b1 b2 h1
  obtain ⟨kx, tx, ox, vx, ux⟩ := x
  dsimp only at *
  go_enter Tryd.func15, Tryd.ntmps15
  go_wp2
  refine bodyPost_ret (v := .tuple #[.agg #[.string ⟨#[]⟩, .string ⟨#[]⟩, .string ⟨#[]⟩, .int .i64 0], .bool false]) (by have b5 := HF.out; have z0 := b5.c0; have z1 := b5.c1; have z2 := b5.c2; have z3 := b5.c3; try unfold stN at z0 z1 z2 z3; simp [results, Tryd.results15, go_sem, z0, z1, z2, z3]) rfl ?_
  exact ⟨rfl, HQ.out⟩
set_option maxRecDepth 100000 in
set_option maxHeartbeats 4000000 in
theorem zOf_t1 (x : Ent) (_ : EntFit x) (hk : x.k.size ≤ 1048576) (w : World) (h1 : x.k.size ≠ 0) (h2 : x.t < 0) :
    Calls Tryd.prog 15 #[.agg #[.string x.k, .int .i64 x.t, .int .u16 x.o, .string x.v, .int .i64 x.u]] w fun e w' => e = .returned (.tuple #[.agg #[.string ⟨#[]⟩, .string ⟨#[]⟩, .string ⟨#[]⟩, .int .i64 0], .bool false]) ∧ Below w.heap.size w w' := by
  have d1 := (Below.refl w.heap.size w).alloc (Nat.le_refl _) (.cells #[.string x.k, .int .i64 x.t, .int .u16 x.o, .string x.v, .int .i64 x.u] 24)
  have d2 := d1.alloc (by simp) (.cells #[.string ⟨#[]⟩, .string ⟨#[]⟩, .string ⟨#[]⟩, .int .i64 0] 33)
  have b1 := (EBlk.new w x).on ((Below.refl _ _).alloc (Nat.le_refl _) (.cells #[.string ⟨#[]⟩, .string ⟨#[]⟩, .string ⟨#[]⟩, .int .i64 0] 33))
  have b2 := SnBlk.new (w.alloc (.cells #[.string x.k, .int .i64 x.t, .int .u16 x.o, .string x.v, .int .i64 x.u] 24)) zeroN
  rw [World.size_alloc] at b2
  dsimp only [zeroN] at b2
  have g1 : ¬ (x.k.size : Int) < 1 := by omega
  have g1' : 1 ≤ x.k.size := by omega
  have hkl : (x.k.extract 1 x.k.size).data.toList.length = (x.k.extract 1 x.k.size).size := rfl
  have hks : (x.k.extract 1 x.k.size).size ≤ 1048576 := by rw [ByteArray.size_extract]; omega
  obtain ⟨a1, c1, w1, hcv, hsrc, hc1, ha1, hb1⟩ := bytes_of_string2 ((w.alloc (.cells #[.string x.k, .int .i64 x.t, .int .u16 x.o, .string x.v, .int .i64 x.u] 24)).alloc (.cells #[.string ⟨#[]⟩, .string ⟨#[]⟩, .string ⟨#[]⟩, .int .i64 0] 33)) (x.k.extract 1 x.k.size)
  obtain ⟨l0, e0, hO⟩ : ∃ l0 e0, byteE 108 0 (x.k.extract 1 x.k.size).data.toList = (l0, e0) := ⟨_, _, rfl⟩
  obtain ⟨l1, e1, s1, hT1⟩ : ∃ l1 e1 s1, textE 1024 e0 l0 = (l1, e1, s1) := ⟨_, _, _, rfl⟩
  obtain ⟨l2, e2, s2, hT2⟩ : ∃ l2 e2 s2, textE 1024 e1 l1 = (l2, e2, s2) := ⟨_, _, _, rfl⟩
  have hX1 : XS w1 (some a1) c1 (x.k.extract 1 x.k.size).data.toList 0 := ⟨by rw [hkl]; exact hsrc, by omega, by omega, fun h => absurd rfl h⟩
  have hB0 := refByte_full (some a1) c1 _ 108 0 w1 hX1 hO
  rw [hkl] at hB0
  have HB := Lib.hid hB0
  have n0 := (byteE_err hO).2
  have n1 := (textE_err hT1).2
  have n2 := (textE_err hT2).2
  have HT := Lib.hid (And.intro hT1 (And.intro hT2 (And.intro (byteE_err hO).1 (And.intro (textE_err hT1).1 (And.intro (textE_err hT2).1 (And.intro (show l0.length ≤ 1048576 by omega) (And.intro (show l1.length ≤ 1048576 by omega) (show l2.length ≤ 1048576 by omega))))))))
  have HZ := Lib.hid (And.intro (b1.on hb1) (And.intro (b2.on hb1) (And.intro (d2.trans (hb1.mono d2.size)) (And.intro ha1 (Nat.lt_of_lt_of_le b2.lt hb1.size)))))
  have x0 := b1.c0
  clear hsrc hc1 ha1 hb1 hO hT1 hT2 hX1 hB0 n0 n1 n2 d1 d2 b1 b2 hkl hks h1 hk
  obtain ⟨kx, tx, ox, vx, ux⟩ := x
  dsimp only at *
  obtain ⟨KT, hKT⟩ : ∃ z, kx.extract 1 kx.size = z := ⟨_, rfl⟩
  rw [hKT] at hcv HB
  go_enter Tryd.func15, Tryd.ntmps15
  go_wp2_with (go_at_call 32; refine HB.out.mono ?_; rintro e w2 ⟨⟨a2, c2, rfl, hsrc2, hcap2, hlow2⟩, hb2⟩; refine Hid.out ?_)
  refine Lib.hid ?_
  obtain ⟨b1, b2, d2, ha1, hlt⟩ := HZ.out
  have hs2 := hb2.size
  have b12 := b1.on hb2
  have b22 := b2.on hb2
  have d22 := d2.trans (hb2.mono d2.size)
  have o1 := (Below.refl w2.heap.size w2).alloc (Nat.le_refl _) (.cells #[.slice a2 l0.length c2, .int .i64 e0] 62)
  have o2 := (Below.refl (w2.alloc (.cells #[.slice a2 l0.length c2, .int .i64 e0] 62)).heap.size (w2.alloc (.cells #[.slice a2 l0.length c2, .int .i64 e0] 62))).alloc (Nat.le_refl _) (.cells #[.string ⟨#[]⟩, .string ⟨#[]⟩, .string vx, .int .i64 tx] 33)
  have r3 : XR (w2.alloc (.cells #[.slice a2 l0.length c2, .int .i64 e0] 62)) w2.heap.size a2 c2 l0 e0 := ⟨Two.new _ _ _ _, ⟨hsrc2.below o1 (Nat.le_refl _), hcap2, by have := HT.out; omega, HT.out.2.2.1⟩, fun q hq => by
    obtain ⟨q0, hq0, hqb⟩ := hlow2 q hq
    obtain rfl := Option.some.inj hq0
    omega⟩
  have nb := SnBlk.new (w2.alloc (.cells #[.slice a2 l0.length c2, .int .i64 e0] 62)) ⟨⟨#[]⟩, ⟨#[]⟩, vx, tx⟩
  rw [World.size_alloc] at nb
  dsimp only at nb
  have b13 := b12.on o1
  have x1 := b13.c1; have x3 := b13.c3
  dsimp only at x1 x3
  have st : OfSt w ((w2.alloc (.cells #[.slice a2 l0.length c2, .int .i64 e0] 62)).alloc (.cells #[.string ⟨#[]⟩, .string ⟨#[]⟩, .string vx, .int .i64 tx] 33)) w2.heap.size a2 c2 l0 e0 ⟨kx, tx, ox, vx, ux⟩ ⟨⟨#[]⟩, ⟨#[]⟩, vx, tx⟩ :=
    ⟨b13.on o2, (b22.on o1).on o2, r3.below o2, nb, (d22.alloc (by omega) _).alloc (by simp; omega) _, by omega⟩
  have HT1 := Lib.hid (refText_full a2 c2 l0 e0 1024 _ st.rd.xs HT.out.1)
  have r0 := st.rd.blk.c0; have r1 := st.rd.blk.c1
  have HST := Lib.hid st
  clear HB HZ hcv b1 b2 d2 ha1 hlt hs2 b12 b22 d22 o1 o2 r3 nb b13 st hsrc2 hcap2 hlow2 hb2 x0 g1 g1' hKT
  go_wp2_with (go_at_call 33; refine HT1.out.mono ?_; rintro r w5 ⟨⟨a5, c5, rfl, hsrc5, hcap5, hlow5⟩, hb5⟩; refine Hid.out ?_)
  refine Lib.hid ?_
  have s5 := HST.out.on hb5
  have z0 := s5.rd.blk.c0; have z1 := s5.rd.blk.c1; have z2 := s5.rd.blk.fr; have v0 := s5.snd.c0; have v1 := s5.snd.f 0
  have hrl := s5.rd.blk.lt
  have hnl := s5.snd.lt
  have s6 := (s5.put hsrc5 hcap5 (by have := HT.out; omega) HT.out.2.2.2.1 hlow5).set0 ⟨s1.toArray⟩
  generalize w2.heap.size = R at *
  have r0' := s6.rd.blk.c0; have r1' := s6.rd.blk.c1
  have HT2 := Lib.hid (refText_full a5 c5 l1 e1 1024 _ s6.rd.xs HT.out.2.1)
  have HS6 := Lib.hid s6
  clear r0 r1 x1 x3 HST HT1 s5 s6 hsrc5 hcap5 hlow5 hb5
  go_wp2_with (go_at_call 33; refine HT2.out.mono ?_; rintro r w7 ⟨⟨a7, c7, rfl, hsrc7, hcap7, hlow7⟩, hb7⟩; refine Hid.out ?_)
  refine Lib.hid ?_
  have s7 := HS6.out.on hb7
  clear z0 z1 z2 v0 v1 hrl hnl r0' r1'
  have z0 := s7.rd.blk.c0; have z1 := s7.rd.blk.c1; have z2 := s7.rd.blk.fr; have v0 := s7.snd.c1; have v1 := s7.snd.f 1
  have hrl := s7.rd.blk.lt
  have hnl := s7.snd.lt
  have s8 := (s7.put hsrc7 hcap7 (by have := HT.out; omega) HT.out.2.2.2.2.1 hlow7).set1 ⟨s2.toArray⟩
  have HS8 := Lib.hid s8
  have e1' := s8.ent.c1; have e2' := s8.ent.c2; have e4' := s8.ent.c4
  dsimp only at e1' e2' e4'
  have u0 := s8.snd.c0; have u1 := s8.snd.c1; have u2 := s8.snd.c2; have u3 := s8.snd.c3
  dsimp only at u0 u1 u2 u3
  have y0 := s8.ans.c0; have y1 := s8.ans.c1; have y2 := s8.ans.c2; have y3 := s8.ans.c3; have f0 := s8.ans.f 0; have f1 := s8.ans.f 1; have f2 := s8.ans.f 2; have f3 := s8.ans.f 3
  have HF := Lib.hid (s8.ans.store zeroN)
  have HQ := Lib.hid (stN_below s8.low (show w.heap.size ≤ w.heap.size + 1 by omega) zeroN)
  dsimp only [zeroN] at HF HQ y0 y1 y2 y3
  clear HS6 HT2 HT s7 s8 hsrc7 hcap7 hlow7 hb7 HS8
  go_wp2
  refine bodyPost_ret (v := .tuple #[.agg #[.string ⟨#[]⟩, .string ⟨#[]⟩, .string ⟨#[]⟩, .int .i64 0], .bool false]) (by have b5 := HF.out; have z0 := b5.c0; have z1 := b5.c1; have z2 := b5.c2; have z3 := b5.c3; try unfold stN at z0 z1 z2 z3; simp [results, Tryd.results15, go_sem, z0, z1, z2, z3]) rfl ?_
  exact ⟨rfl, HQ.out⟩
set_option maxRecDepth 100000 in
set_option maxHeartbeats 4000000 in
theorem zOf_t2 (x : Ent) (_ : EntFit x) (hk : x.k.size ≤ 1048576) (w : World) (h1 : x.k.size ≠ 0) (h2 : ¬ x.t < 0) (h3 : x.u < x.t) :
    Calls Tryd.prog 15 #[.agg #[.string x.k, .int .i64 x.t, .int .u16 x.o, .string x.v, .int .i64 x.u]] w fun e w' => e = .returned (.tuple #[.agg #[.string ⟨#[]⟩, .string ⟨#[]⟩, .string ⟨#[]⟩, .int .i64 0], .bool false]) ∧ Below w.heap.size w w' := by
  have d1 := (Below.refl w.heap.size w).alloc (Nat.le_refl _) (.cells #[.string x.k, .int .i64 x.t, .int .u16 x.o, .string x.v, .int .i64 x.u] 24)
  have d2 := d1.alloc (by simp) (.cells #[.string ⟨#[]⟩, .string ⟨#[]⟩, .string ⟨#[]⟩, .int .i64 0] 33)
  have b1 := (EBlk.new w x).on ((Below.refl _ _).alloc (Nat.le_refl _) (.cells #[.string ⟨#[]⟩, .string ⟨#[]⟩, .string ⟨#[]⟩, .int .i64 0] 33))
  have b2 := SnBlk.new (w.alloc (.cells #[.string x.k, .int .i64 x.t, .int .u16 x.o, .string x.v, .int .i64 x.u] 24)) zeroN
  rw [World.size_alloc] at b2
  dsimp only [zeroN] at b2
  have g1 : ¬ (x.k.size : Int) < 1 := by omega
  have g1' : 1 ≤ x.k.size := by omega
  have hkl : (x.k.extract 1 x.k.size).data.toList.length = (x.k.extract 1 x.k.size).size := rfl
  have hks : (x.k.extract 1 x.k.size).size ≤ 1048576 := by rw [ByteArray.size_extract]; omega
  obtain ⟨a1, c1, w1, hcv, hsrc, hc1, ha1, hb1⟩ := bytes_of_string2 ((w.alloc (.cells #[.string x.k, .int .i64 x.t, .int .u16 x.o, .string x.v, .int .i64 x.u] 24)).alloc (.cells #[.string ⟨#[]⟩, .string ⟨#[]⟩, .string ⟨#[]⟩, .int .i64 0] 33)) (x.k.extract 1 x.k.size)
  obtain ⟨l0, e0, hO⟩ : ∃ l0 e0, byteE 108 0 (x.k.extract 1 x.k.size).data.toList = (l0, e0) := ⟨_, _, rfl⟩
  obtain ⟨l1, e1, s1, hT1⟩ : ∃ l1 e1 s1, textE 1024 e0 l0 = (l1, e1, s1) := ⟨_, _, _, rfl⟩
  obtain ⟨l2, e2, s2, hT2⟩ : ∃ l2 e2 s2, textE 1024 e1 l1 = (l2, e2, s2) := ⟨_, _, _, rfl⟩
  have hX1 : XS w1 (some a1) c1 (x.k.extract 1 x.k.size).data.toList 0 := ⟨by rw [hkl]; exact hsrc, by omega, by omega, fun h => absurd rfl h⟩
  have hB0 := refByte_full (some a1) c1 _ 108 0 w1 hX1 hO
  rw [hkl] at hB0
  have HB := Lib.hid hB0
  have n0 := (byteE_err hO).2
  have n1 := (textE_err hT1).2
  have n2 := (textE_err hT2).2
  have HT := Lib.hid (And.intro hT1 (And.intro hT2 (And.intro (byteE_err hO).1 (And.intro (textE_err hT1).1 (And.intro (textE_err hT2).1 (And.intro (show l0.length ≤ 1048576 by omega) (And.intro (show l1.length ≤ 1048576 by omega) (show l2.length ≤ 1048576 by omega))))))))
  have HZ := Lib.hid (And.intro (b1.on hb1) (And.intro (b2.on hb1) (And.intro (d2.trans (hb1.mono d2.size)) (And.intro ha1 (Nat.lt_of_lt_of_le b2.lt hb1.size)))))
  have x0 := b1.c0
  clear hsrc hc1 ha1 hb1 hO hT1 hT2 hX1 hB0 n0 n1 n2 d1 d2 b1 b2 hkl hks h1 hk
  obtain ⟨kx, tx, ox, vx, ux⟩ := x
  dsimp only at *
  obtain ⟨KT, hKT⟩ : ∃ z, kx.extract 1 kx.size = z := ⟨_, rfl⟩
  rw [hKT] at hcv HB
  go_enter Tryd.func15, Tryd.ntmps15
  go_wp2_with (go_at_call 32; refine HB.out.mono ?_; rintro e w2 ⟨⟨a2, c2, rfl, hsrc2, hcap2, hlow2⟩, hb2⟩; refine Hid.out ?_)
  refine Lib.hid ?_
  obtain ⟨b1, b2, d2, ha1, hlt⟩ := HZ.out
  have hs2 := hb2.size
  have b12 := b1.on hb2
  have b22 := b2.on hb2
  have d22 := d2.trans (hb2.mono d2.size)
  have o1 := (Below.refl w2.heap.size w2).alloc (Nat.le_refl _) (.cells #[.slice a2 l0.length c2, .int .i64 e0] 62)
  have o2 := (Below.refl (w2.alloc (.cells #[.slice a2 l0.length c2, .int .i64 e0] 62)).heap.size (w2.alloc (.cells #[.slice a2 l0.length c2, .int .i64 e0] 62))).alloc (Nat.le_refl _) (.cells #[.string ⟨#[]⟩, .string ⟨#[]⟩, .string vx, .int .i64 tx] 33)
  have r3 : XR (w2.alloc (.cells #[.slice a2 l0.length c2, .int .i64 e0] 62)) w2.heap.size a2 c2 l0 e0 := ⟨Two.new _ _ _ _, ⟨hsrc2.below o1 (Nat.le_refl _), hcap2, by have := HT.out; omega, HT.out.2.2.1⟩, fun q hq => by
    obtain ⟨q0, hq0, hqb⟩ := hlow2 q hq
    obtain rfl := Option.some.inj hq0
    omega⟩
  have nb := SnBlk.new (w2.alloc (.cells #[.slice a2 l0.length c2, .int .i64 e0] 62)) ⟨⟨#[]⟩, ⟨#[]⟩, vx, tx⟩
  rw [World.size_alloc] at nb
  dsimp only at nb
  have b13 := b12.on o1
  have x1 := b13.c1; have x3 := b13.c3
  dsimp only at x1 x3
  have st : OfSt w ((w2.alloc (.cells #[.slice a2 l0.length c2, .int .i64 e0] 62)).alloc (.cells #[.string ⟨#[]⟩, .string ⟨#[]⟩, .string vx, .int .i64 tx] 33)) w2.heap.size a2 c2 l0 e0 ⟨kx, tx, ox, vx, ux⟩ ⟨⟨#[]⟩, ⟨#[]⟩, vx, tx⟩ :=
    ⟨b13.on o2, (b22.on o1).on o2, r3.below o2, nb, (d22.alloc (by omega) _).alloc (by simp; omega) _, by omega⟩
  have HT1 := Lib.hid (refText_full a2 c2 l0 e0 1024 _ st.rd.xs HT.out.1)
  have r0 := st.rd.blk.c0; have r1 := st.rd.blk.c1
  have HST := Lib.hid st
  clear HB HZ hcv b1 b2 d2 ha1 hlt hs2 b12 b22 d22 o1 o2 r3 nb b13 st hsrc2 hcap2 hlow2 hb2 x0 g1 g1' hKT
  go_wp2_with (go_at_call 33; refine HT1.out.mono ?_; rintro r w5 ⟨⟨a5, c5, rfl, hsrc5, hcap5, hlow5⟩, hb5⟩; refine Hid.out ?_)
  refine Lib.hid ?_
  have s5 := HST.out.on hb5
  have z0 := s5.rd.blk.c0; have z1 := s5.rd.blk.c1; have z2 := s5.rd.blk.fr; have v0 := s5.snd.c0; have v1 := s5.snd.f 0
  have hrl := s5.rd.blk.lt
  have hnl := s5.snd.lt
  have s6 := (s5.put hsrc5 hcap5 (by have := HT.out; omega) HT.out.2.2.2.1 hlow5).set0 ⟨s1.toArray⟩
  generalize w2.heap.size = R at *
  have r0' := s6.rd.blk.c0; have r1' := s6.rd.blk.c1
  have HT2 := Lib.hid (refText_full a5 c5 l1 e1 1024 _ s6.rd.xs HT.out.2.1)
  have HS6 := Lib.hid s6
  clear r0 r1 x1 x3 HST HT1 s5 s6 hsrc5 hcap5 hlow5 hb5
  go_wp2_with (go_at_call 33; refine HT2.out.mono ?_; rintro r w7 ⟨⟨a7, c7, rfl, hsrc7, hcap7, hlow7⟩, hb7⟩; refine Hid.out ?_)
  refine Lib.hid ?_
  have s7 := HS6.out.on hb7
  clear z0 z1 z2 v0 v1 hrl hnl r0' r1'
  have z0 := s7.rd.blk.c0; have z1 := s7.rd.blk.c1; have z2 := s7.rd.blk.fr; have v0 := s7.snd.c1; have v1 := s7.snd.f 1
  have hrl := s7.rd.blk.lt
  have hnl := s7.snd.lt
  have s8 := (s7.put hsrc7 hcap7 (by have := HT.out; omega) HT.out.2.2.2.2.1 hlow7).set1 ⟨s2.toArray⟩
  have HS8 := Lib.hid s8
  have e1' := s8.ent.c1; have e2' := s8.ent.c2; have e4' := s8.ent.c4
  dsimp only at e1' e2' e4'
  have u0 := s8.snd.c0; have u1 := s8.snd.c1; have u2 := s8.snd.c2; have u3 := s8.snd.c3
  dsimp only at u0 u1 u2 u3
  have y0 := s8.ans.c0; have y1 := s8.ans.c1; have y2 := s8.ans.c2; have y3 := s8.ans.c3; have f0 := s8.ans.f 0; have f1 := s8.ans.f 1; have f2 := s8.ans.f 2; have f3 := s8.ans.f 3
  have HF := Lib.hid (s8.ans.store zeroN)
  have HQ := Lib.hid (stN_below s8.low (show w.heap.size ≤ w.heap.size + 1 by omega) zeroN)
  dsimp only [zeroN] at HF HQ y0 y1 y2 y3
  clear HS6 HT2 HT s7 s8 hsrc7 hcap7 hlow7 hb7 HS8
  go_wp2
  refine bodyPost_ret (v := .tuple #[.agg #[.string ⟨#[]⟩, .string ⟨#[]⟩, .string ⟨#[]⟩, .int .i64 0], .bool false]) (by have b5 := HF.out; have z0 := b5.c0; have z1 := b5.c1; have z2 := b5.c2; have z3 := b5.c3; try unfold stN at z0 z1 z2 z3; simp [results, Tryd.results15, go_sem, z0, z1, z2, z3]) rfl ?_
  exact ⟨rfl, HQ.out⟩
set_option maxRecDepth 100000 in
set_option maxHeartbeats 4000000 in
theorem zOf_re (x : Ent) (hx : EntFit x) (hk : x.k.size ≤ 1048576) (w : World) (h1 : x.k.size ≠ 0) (h2 : ¬ x.t < 0) (h3 : ¬ x.u < x.t) (h4 : (rdG (x.k.extract 1 x.k.size).data.toList).2.1 ≠ 0) :
    Calls Tryd.prog 15 #[.agg #[.string x.k, .int .i64 x.t, .int .u16 x.o, .string x.v, .int .i64 x.u]] w fun e w' => e = .returned (.tuple #[.agg #[.string ⟨#[]⟩, .string ⟨#[]⟩, .string ⟨#[]⟩, .int .i64 0], .bool false]) ∧ Below w.heap.size w w' := by
  have d1 := (Below.refl w.heap.size w).alloc (Nat.le_refl _) (.cells #[.string x.k, .int .i64 x.t, .int .u16 x.o, .string x.v, .int .i64 x.u] 24)
  have d2 := d1.alloc (by simp) (.cells #[.string ⟨#[]⟩, .string ⟨#[]⟩, .string ⟨#[]⟩, .int .i64 0] 33)
  have b1 := (EBlk.new w x).on ((Below.refl _ _).alloc (Nat.le_refl _) (.cells #[.string ⟨#[]⟩, .string ⟨#[]⟩, .string ⟨#[]⟩, .int .i64 0] 33))
  have b2 := SnBlk.new (w.alloc (.cells #[.string x.k, .int .i64 x.t, .int .u16 x.o, .string x.v, .int .i64 x.u] 24)) zeroN
  rw [World.size_alloc] at b2
  dsimp only [zeroN] at b2
  have g1 : ¬ (x.k.size : Int) < 1 := by omega
  have g1' : 1 ≤ x.k.size := by omega
  have hkl : (x.k.extract 1 x.k.size).data.toList.length = (x.k.extract 1 x.k.size).size := rfl
  have hks : (x.k.extract 1 x.k.size).size ≤ 1048576 := by rw [ByteArray.size_extract]; omega
  have hsh := rdK_short (x.k.extract 1 x.k.size).data.toList x
  have HE0 : Hid (∀ u, Calls Tryd.prog 11 #[.agg #[.string (sndN x (x.k.extract 1 x.k.size).data.toList).r, .string (sndN x (x.k.extract 1 x.k.size).data.toList).k, .string x.v, .int .i64 x.t], .int .u16 x.o, .int .i64 (keepN x)] u fun e w' => e = .returned (.tuple #[.agg #[.string (ansN (sndN x (x.k.extract 1 x.k.size).data.toList) x.o (keepN x)).k, .int .i64 (ansN (sndN x (x.k.extract 1 x.k.size).data.toList) x.o (keepN x)).t, .int .u16 (ansN (sndN x (x.k.extract 1 x.k.size).data.toList) x.o (keepN x)).o, .string (ansN (sndN x (x.k.extract 1 x.k.size).data.toList) x.o (keepN x)).v, .int .i64 (ansN (sndN x (x.k.extract 1 x.k.size).data.toList) x.o (keepN x)).u], .int .i64 (errN (sndN x (x.k.extract 1 x.k.size).data.toList) (keepN x))]) ∧ Below u.heap.size u w') := Lib.hid (fun u => zEntry_any (sndN x (x.k.extract 1 x.k.size).data.toList) x.o (keepN x) u (by omega) (by omega) hx.2.1 (keepN_range x))
  generalize hE : errN (sndN x (x.k.extract 1 x.k.size).data.toList) (keepN x) = E at *
  generalize hA : ansN (sndN x (x.k.extract 1 x.k.size).data.toList) x.o (keepN x) = A at *
  clear hA hE hsh
  obtain ⟨kp, hkp⟩ : ∃ kp, keepN x = kp := ⟨_, rfl⟩
  rw [hkp] at HE0
  obtain ⟨a1, c1, w1, hcv, hsrc, hc1, ha1, hb1⟩ := bytes_of_string2 ((w.alloc (.cells #[.string x.k, .int .i64 x.t, .int .u16 x.o, .string x.v, .int .i64 x.u] 24)).alloc (.cells #[.string ⟨#[]⟩, .string ⟨#[]⟩, .string ⟨#[]⟩, .int .i64 0] 33)) (x.k.extract 1 x.k.size)
  obtain ⟨l0, e0, hO⟩ : ∃ l0 e0, byteE 108 0 (x.k.extract 1 x.k.size).data.toList = (l0, e0) := ⟨_, _, rfl⟩
  obtain ⟨l1, e1, s1, hT1⟩ : ∃ l1 e1 s1, textE 1024 e0 l0 = (l1, e1, s1) := ⟨_, _, _, rfl⟩
  obtain ⟨l2, e2, s2, hT2⟩ : ∃ l2 e2 s2, textE 1024 e1 l1 = (l2, e2, s2) := ⟨_, _, _, rfl⟩
  have hS : (sndN x (x.k.extract 1 x.k.size).data.toList) = ⟨⟨s1.toArray⟩, ⟨s2.toArray⟩, x.v, x.t⟩ := by simp only [sndN, rdG, rdR, hO, hT1, hT2]
  rw [hS] at HE0
  dsimp only at HE0
  have h4' : e2 ≠ 0 := by simpa only [rdG, rdR, hO, hT1, hT2] using h4
  have hEr : ((e2 : Int) != 0) = true := by simpa using h4'
  clear h4 h4'
  have hX1 : XS w1 (some a1) c1 (x.k.extract 1 x.k.size).data.toList 0 := ⟨by rw [hkl]; exact hsrc, by omega, by omega, fun h => absurd rfl h⟩
  have hB0 := refByte_full (some a1) c1 _ 108 0 w1 hX1 hO
  rw [hkl] at hB0
  have HB := Lib.hid hB0
  have n0 := (byteE_err hO).2
  have n1 := (textE_err hT1).2
  have n2 := (textE_err hT2).2
  have HT := Lib.hid (And.intro hT1 (And.intro hT2 (And.intro (byteE_err hO).1 (And.intro (textE_err hT1).1 (And.intro (textE_err hT2).1 (And.intro (show l0.length ≤ 1048576 by omega) (And.intro (show l1.length ≤ 1048576 by omega) (show l2.length ≤ 1048576 by omega))))))))
  have HZ := Lib.hid (And.intro (b1.on hb1) (And.intro (b2.on hb1) (And.intro (d2.trans (hb1.mono d2.size)) (And.intro ha1 (Nat.lt_of_lt_of_le b2.lt hb1.size)))))
  have x0 := b1.c0
  clear hsrc hc1 ha1 hb1 hO hT1 hT2 hX1 hB0 n0 n1 n2 d1 d2 b1 b2 hkl hks h1 hk
  clear hx
  have hkq : IntKind.i64.wrap (x.u - x.t) = kp := hkp
  clear hS hkp
  obtain ⟨kx, tx, ox, vx, ux⟩ := x
  dsimp only at *
  obtain ⟨KT, hKT⟩ : ∃ z, kx.extract 1 kx.size = z := ⟨_, rfl⟩
  rw [hKT] at hcv HB
  go_enter Tryd.func15, Tryd.ntmps15
  go_wp2_with (go_at_call 32; refine HB.out.mono ?_; rintro e w2 ⟨⟨a2, c2, rfl, hsrc2, hcap2, hlow2⟩, hb2⟩; refine Hid.out ?_)
  refine Lib.hid ?_
  obtain ⟨b1, b2, d2, ha1, hlt⟩ := HZ.out
  have hs2 := hb2.size
  have b12 := b1.on hb2
  have b22 := b2.on hb2
  have d22 := d2.trans (hb2.mono d2.size)
  have o1 := (Below.refl w2.heap.size w2).alloc (Nat.le_refl _) (.cells #[.slice a2 l0.length c2, .int .i64 e0] 62)
  have o2 := (Below.refl (w2.alloc (.cells #[.slice a2 l0.length c2, .int .i64 e0] 62)).heap.size (w2.alloc (.cells #[.slice a2 l0.length c2, .int .i64 e0] 62))).alloc (Nat.le_refl _) (.cells #[.string ⟨#[]⟩, .string ⟨#[]⟩, .string vx, .int .i64 tx] 33)
  have r3 : XR (w2.alloc (.cells #[.slice a2 l0.length c2, .int .i64 e0] 62)) w2.heap.size a2 c2 l0 e0 := ⟨Two.new _ _ _ _, ⟨hsrc2.below o1 (Nat.le_refl _), hcap2, by have := HT.out; omega, HT.out.2.2.1⟩, fun q hq => by
    obtain ⟨q0, hq0, hqb⟩ := hlow2 q hq
    obtain rfl := Option.some.inj hq0
    omega⟩
  have nb := SnBlk.new (w2.alloc (.cells #[.slice a2 l0.length c2, .int .i64 e0] 62)) ⟨⟨#[]⟩, ⟨#[]⟩, vx, tx⟩
  rw [World.size_alloc] at nb
  dsimp only at nb
  have b13 := b12.on o1
  have x1 := b13.c1; have x3 := b13.c3
  dsimp only at x1 x3
  have st : OfSt w ((w2.alloc (.cells #[.slice a2 l0.length c2, .int .i64 e0] 62)).alloc (.cells #[.string ⟨#[]⟩, .string ⟨#[]⟩, .string vx, .int .i64 tx] 33)) w2.heap.size a2 c2 l0 e0 ⟨kx, tx, ox, vx, ux⟩ ⟨⟨#[]⟩, ⟨#[]⟩, vx, tx⟩ :=
    ⟨b13.on o2, (b22.on o1).on o2, r3.below o2, nb, (d22.alloc (by omega) _).alloc (by simp; omega) _, by omega⟩
  have HT1 := Lib.hid (refText_full a2 c2 l0 e0 1024 _ st.rd.xs HT.out.1)
  have r0 := st.rd.blk.c0; have r1 := st.rd.blk.c1
  have HST := Lib.hid st
  clear HB HZ hcv b1 b2 d2 ha1 hlt hs2 b12 b22 d22 o1 o2 r3 nb b13 st hsrc2 hcap2 hlow2 hb2 x0 g1 g1' hKT
  go_wp2_with (go_at_call 33; refine HT1.out.mono ?_; rintro r w5 ⟨⟨a5, c5, rfl, hsrc5, hcap5, hlow5⟩, hb5⟩; refine Hid.out ?_)
  refine Lib.hid ?_
  have s5 := HST.out.on hb5
  have z0 := s5.rd.blk.c0; have z1 := s5.rd.blk.c1; have z2 := s5.rd.blk.fr; have v0 := s5.snd.c0; have v1 := s5.snd.f 0
  have hrl := s5.rd.blk.lt
  have hnl := s5.snd.lt
  have s6 := (s5.put hsrc5 hcap5 (by have := HT.out; omega) HT.out.2.2.2.1 hlow5).set0 ⟨s1.toArray⟩
  generalize w2.heap.size = R at *
  have r0' := s6.rd.blk.c0; have r1' := s6.rd.blk.c1
  have HT2 := Lib.hid (refText_full a5 c5 l1 e1 1024 _ s6.rd.xs HT.out.2.1)
  have HS6 := Lib.hid s6
  clear r0 r1 x1 x3 HST HT1 s5 s6 hsrc5 hcap5 hlow5 hb5
  go_wp2_with (go_at_call 33; refine HT2.out.mono ?_; rintro r w7 ⟨⟨a7, c7, rfl, hsrc7, hcap7, hlow7⟩, hb7⟩; refine Hid.out ?_)
  refine Lib.hid ?_
  have s7 := HS6.out.on hb7
  clear z0 z1 z2 v0 v1 hrl hnl r0' r1'
  have z0 := s7.rd.blk.c0; have z1 := s7.rd.blk.c1; have z2 := s7.rd.blk.fr; have v0 := s7.snd.c1; have v1 := s7.snd.f 1
  have hrl := s7.rd.blk.lt
  have hnl := s7.snd.lt
  have s8 := (s7.put hsrc7 hcap7 (by have := HT.out; omega) HT.out.2.2.2.2.1 hlow7).set1 ⟨s2.toArray⟩
  have HS8 := Lib.hid s8
  have e1' := s8.ent.c1; have e2' := s8.ent.c2; have e4' := s8.ent.c4
  dsimp only at e1' e2' e4'
  have u0 := s8.snd.c0; have u1 := s8.snd.c1; have u2 := s8.snd.c2; have u3 := s8.snd.c3
  dsimp only at u0 u1 u2 u3
  have HE := Lib.hid (HE0.out ((((w7.setCell ⟨R, 0, none⟩ (.slice a7 l2.length c7)).setCell ⟨R, 1, none⟩ (.int .i64 e2)).setCell ⟨R + 1, 1, none⟩ (.string ⟨s2.toArray⟩))))
  clear HS6 HT2 HT s7 s8 hsrc7 hcap7 hlow7 hb7 HE0
  go_wp2_with (go_at_call 11; refine HE.out.mono ?_; rintro e w9 ⟨rfl, q9⟩; refine Hid.out ?_)
  refine Lib.hid ?_
  have qa := (Below.refl w9.heap.size w9).alloc (Nat.le_refl _) (.cells #[.string A.k, .int .i64 A.t, .int .u16 A.o, .string A.v, .int .i64 A.u] 24)
  have ab := EBlk.new w9 A
  have s9 := (HS8.out.on q9).on qa
  clear z0 z1 z2 v0 v1 hrl hnl e1' e2' e4' u0 u1 u2 u3 HE HS8 q9 qa
  have z1 := s9.rd.blk.c1
  have y0 := s9.ans.c0; have y1 := s9.ans.c1; have y2 := s9.ans.c2; have y3 := s9.ans.c3; have f0 := s9.ans.f 0; have f1 := s9.ans.f 1; have f2 := s9.ans.f 2; have f3 := s9.ans.f 3
  have HF := Lib.hid (s9.ans.store zeroN)
  have HQ := Lib.hid (stN_below s9.low (show w.heap.size ≤ w.heap.size + 1 by omega) zeroN)
  dsimp only [zeroN] at y0 y1 y2 y3
  try dsimp only [zeroN] at HF HQ
  clear s9 ab
  go_wp2
  refine bodyPost_ret (v := .tuple #[.agg #[.string ⟨#[]⟩, .string ⟨#[]⟩, .string ⟨#[]⟩, .int .i64 0], .bool false]) (by have b5 := HF.out; have z0 := b5.c0; have z1 := b5.c1; have z2 := b5.c2; have z3 := b5.c3; try unfold stN at z0 z1 z2 z3; simp [results, Tryd.results15, go_sem, z0, z1, z2, z3]) rfl ?_
  exact ⟨rfl, HQ.out⟩
set_option maxRecDepth 100000 in
set_option maxHeartbeats 4000000 in
theorem zOf_er (x : Ent) (hx : EntFit x) (hk : x.k.size ≤ 1048576) (w : World) (h1 : x.k.size ≠ 0) (h2 : ¬ x.t < 0) (h3 : ¬ x.u < x.t) (h4 : (rdG (x.k.extract 1 x.k.size).data.toList).2.1 = 0) (h5 : errN (sndN x (x.k.extract 1 x.k.size).data.toList) (keepN x) ≠ 0) :
    Calls Tryd.prog 15 #[.agg #[.string x.k, .int .i64 x.t, .int .u16 x.o, .string x.v, .int .i64 x.u]] w fun e w' => e = .returned (.tuple #[.agg #[.string ⟨#[]⟩, .string ⟨#[]⟩, .string ⟨#[]⟩, .int .i64 0], .bool false]) ∧ Below w.heap.size w w' := by
  have d1 := (Below.refl w.heap.size w).alloc (Nat.le_refl _) (.cells #[.string x.k, .int .i64 x.t, .int .u16 x.o, .string x.v, .int .i64 x.u] 24)
  have d2 := d1.alloc (by simp) (.cells #[.string ⟨#[]⟩, .string ⟨#[]⟩, .string ⟨#[]⟩, .int .i64 0] 33)
  have b1 := (EBlk.new w x).on ((Below.refl _ _).alloc (Nat.le_refl _) (.cells #[.string ⟨#[]⟩, .string ⟨#[]⟩, .string ⟨#[]⟩, .int .i64 0] 33))
  have b2 := SnBlk.new (w.alloc (.cells #[.string x.k, .int .i64 x.t, .int .u16 x.o, .string x.v, .int .i64 x.u] 24)) zeroN
  rw [World.size_alloc] at b2
  dsimp only [zeroN] at b2
  have g1 : ¬ (x.k.size : Int) < 1 := by omega
  have g1' : 1 ≤ x.k.size := by omega
  have hkl : (x.k.extract 1 x.k.size).data.toList.length = (x.k.extract 1 x.k.size).size := rfl
  have hks : (x.k.extract 1 x.k.size).size ≤ 1048576 := by rw [ByteArray.size_extract]; omega
  have hsh := rdK_short (x.k.extract 1 x.k.size).data.toList x
  have HE0 : Hid (∀ u, Calls Tryd.prog 11 #[.agg #[.string (sndN x (x.k.extract 1 x.k.size).data.toList).r, .string (sndN x (x.k.extract 1 x.k.size).data.toList).k, .string x.v, .int .i64 x.t], .int .u16 x.o, .int .i64 (keepN x)] u fun e w' => e = .returned (.tuple #[.agg #[.string (ansN (sndN x (x.k.extract 1 x.k.size).data.toList) x.o (keepN x)).k, .int .i64 (ansN (sndN x (x.k.extract 1 x.k.size).data.toList) x.o (keepN x)).t, .int .u16 (ansN (sndN x (x.k.extract 1 x.k.size).data.toList) x.o (keepN x)).o, .string (ansN (sndN x (x.k.extract 1 x.k.size).data.toList) x.o (keepN x)).v, .int .i64 (ansN (sndN x (x.k.extract 1 x.k.size).data.toList) x.o (keepN x)).u], .int .i64 (errN (sndN x (x.k.extract 1 x.k.size).data.toList) (keepN x))]) ∧ Below u.heap.size u w') := Lib.hid (fun u => zEntry_any (sndN x (x.k.extract 1 x.k.size).data.toList) x.o (keepN x) u (by omega) (by omega) hx.2.1 (keepN_range x))
  generalize hE : errN (sndN x (x.k.extract 1 x.k.size).data.toList) (keepN x) = E at *
  have hEb : ((E : Int) != 0) = true := by simpa using h5
  generalize hA : ansN (sndN x (x.k.extract 1 x.k.size).data.toList) x.o (keepN x) = A at *
  clear hA hE hsh
  obtain ⟨kp, hkp⟩ : ∃ kp, keepN x = kp := ⟨_, rfl⟩
  rw [hkp] at HE0
  obtain ⟨a1, c1, w1, hcv, hsrc, hc1, ha1, hb1⟩ := bytes_of_string2 ((w.alloc (.cells #[.string x.k, .int .i64 x.t, .int .u16 x.o, .string x.v, .int .i64 x.u] 24)).alloc (.cells #[.string ⟨#[]⟩, .string ⟨#[]⟩, .string ⟨#[]⟩, .int .i64 0] 33)) (x.k.extract 1 x.k.size)
  obtain ⟨l0, e0, hO⟩ : ∃ l0 e0, byteE 108 0 (x.k.extract 1 x.k.size).data.toList = (l0, e0) := ⟨_, _, rfl⟩
  obtain ⟨l1, e1, s1, hT1⟩ : ∃ l1 e1 s1, textE 1024 e0 l0 = (l1, e1, s1) := ⟨_, _, _, rfl⟩
  obtain ⟨l2, e2, s2, hT2⟩ : ∃ l2 e2 s2, textE 1024 e1 l1 = (l2, e2, s2) := ⟨_, _, _, rfl⟩
  have hS : (sndN x (x.k.extract 1 x.k.size).data.toList) = ⟨⟨s1.toArray⟩, ⟨s2.toArray⟩, x.v, x.t⟩ := by simp only [sndN, rdG, rdR, hO, hT1, hT2]
  rw [hS] at HE0
  dsimp only at HE0
  have HH4 : Hid (e2 = 0) := Lib.hid (by simpa only [rdG, rdR, hO, hT1, hT2] using h4)
  clear h4
  have hX1 : XS w1 (some a1) c1 (x.k.extract 1 x.k.size).data.toList 0 := ⟨by rw [hkl]; exact hsrc, by omega, by omega, fun h => absurd rfl h⟩
  have hB0 := refByte_full (some a1) c1 _ 108 0 w1 hX1 hO
  rw [hkl] at hB0
  have HB := Lib.hid hB0
  have n0 := (byteE_err hO).2
  have n1 := (textE_err hT1).2
  have n2 := (textE_err hT2).2
  have HT := Lib.hid (And.intro hT1 (And.intro hT2 (And.intro (byteE_err hO).1 (And.intro (textE_err hT1).1 (And.intro (textE_err hT2).1 (And.intro (show l0.length ≤ 1048576 by omega) (And.intro (show l1.length ≤ 1048576 by omega) (show l2.length ≤ 1048576 by omega))))))))
  have HZ := Lib.hid (And.intro (b1.on hb1) (And.intro (b2.on hb1) (And.intro (d2.trans (hb1.mono d2.size)) (And.intro ha1 (Nat.lt_of_lt_of_le b2.lt hb1.size)))))
  have x0 := b1.c0
  clear hsrc hc1 ha1 hb1 hO hT1 hT2 hX1 hB0 n0 n1 n2 d1 d2 b1 b2 hkl hks h1 hk
  clear hx
  have hkq : IntKind.i64.wrap (x.u - x.t) = kp := hkp
  clear hS hkp
  clear h5
  obtain ⟨kx, tx, ox, vx, ux⟩ := x
  dsimp only at *
  obtain ⟨KT, hKT⟩ : ∃ z, kx.extract 1 kx.size = z := ⟨_, rfl⟩
  rw [hKT] at hcv HB
  go_enter Tryd.func15, Tryd.ntmps15
  go_wp2_with (go_at_call 32; refine HB.out.mono ?_; rintro e w2 ⟨⟨a2, c2, rfl, hsrc2, hcap2, hlow2⟩, hb2⟩; refine Hid.out ?_)
  refine Lib.hid ?_
  obtain ⟨b1, b2, d2, ha1, hlt⟩ := HZ.out
  have hs2 := hb2.size
  have b12 := b1.on hb2
  have b22 := b2.on hb2
  have d22 := d2.trans (hb2.mono d2.size)
  have o1 := (Below.refl w2.heap.size w2).alloc (Nat.le_refl _) (.cells #[.slice a2 l0.length c2, .int .i64 e0] 62)
  have o2 := (Below.refl (w2.alloc (.cells #[.slice a2 l0.length c2, .int .i64 e0] 62)).heap.size (w2.alloc (.cells #[.slice a2 l0.length c2, .int .i64 e0] 62))).alloc (Nat.le_refl _) (.cells #[.string ⟨#[]⟩, .string ⟨#[]⟩, .string vx, .int .i64 tx] 33)
  have r3 : XR (w2.alloc (.cells #[.slice a2 l0.length c2, .int .i64 e0] 62)) w2.heap.size a2 c2 l0 e0 := ⟨Two.new _ _ _ _, ⟨hsrc2.below o1 (Nat.le_refl _), hcap2, by have := HT.out; omega, HT.out.2.2.1⟩, fun q hq => by
    obtain ⟨q0, hq0, hqb⟩ := hlow2 q hq
    obtain rfl := Option.some.inj hq0
    omega⟩
  have nb := SnBlk.new (w2.alloc (.cells #[.slice a2 l0.length c2, .int .i64 e0] 62)) ⟨⟨#[]⟩, ⟨#[]⟩, vx, tx⟩
  rw [World.size_alloc] at nb
  dsimp only at nb
  have b13 := b12.on o1
  have x1 := b13.c1; have x3 := b13.c3
  dsimp only at x1 x3
  have st : OfSt w ((w2.alloc (.cells #[.slice a2 l0.length c2, .int .i64 e0] 62)).alloc (.cells #[.string ⟨#[]⟩, .string ⟨#[]⟩, .string vx, .int .i64 tx] 33)) w2.heap.size a2 c2 l0 e0 ⟨kx, tx, ox, vx, ux⟩ ⟨⟨#[]⟩, ⟨#[]⟩, vx, tx⟩ :=
    ⟨b13.on o2, (b22.on o1).on o2, r3.below o2, nb, (d22.alloc (by omega) _).alloc (by simp; omega) _, by omega⟩
  have HT1 := Lib.hid (refText_full a2 c2 l0 e0 1024 _ st.rd.xs HT.out.1)
  have r0 := st.rd.blk.c0; have r1 := st.rd.blk.c1
  have HST := Lib.hid st
  clear HB HZ hcv b1 b2 d2 ha1 hlt hs2 b12 b22 d22 o1 o2 r3 nb b13 st hsrc2 hcap2 hlow2 hb2 x0 g1 g1' hKT
  go_wp2_with (go_at_call 33; refine HT1.out.mono ?_; rintro r w5 ⟨⟨a5, c5, rfl, hsrc5, hcap5, hlow5⟩, hb5⟩; refine Hid.out ?_)
  refine Lib.hid ?_
  have s5 := HST.out.on hb5
  have z0 := s5.rd.blk.c0; have z1 := s5.rd.blk.c1; have z2 := s5.rd.blk.fr; have v0 := s5.snd.c0; have v1 := s5.snd.f 0
  have hrl := s5.rd.blk.lt
  have hnl := s5.snd.lt
  have s6 := (s5.put hsrc5 hcap5 (by have := HT.out; omega) HT.out.2.2.2.1 hlow5).set0 ⟨s1.toArray⟩
  generalize w2.heap.size = R at *
  have r0' := s6.rd.blk.c0; have r1' := s6.rd.blk.c1
  have HT2 := Lib.hid (refText_full a5 c5 l1 e1 1024 _ s6.rd.xs HT.out.2.1)
  have HS6 := Lib.hid s6
  clear r0 r1 x1 x3 HST HT1 s5 s6 hsrc5 hcap5 hlow5 hb5
  go_wp2_with (go_at_call 33; refine HT2.out.mono ?_; rintro r w7 ⟨⟨a7, c7, rfl, hsrc7, hcap7, hlow7⟩, hb7⟩; refine Hid.out ?_)
  refine Lib.hid ?_
  have s7 := HS6.out.on hb7
  clear z0 z1 z2 v0 v1 hrl hnl r0' r1'
  have z0 := s7.rd.blk.c0; have z1 := s7.rd.blk.c1; have z2 := s7.rd.blk.fr; have v0 := s7.snd.c1; have v1 := s7.snd.f 1
  have hrl := s7.rd.blk.lt
  have hnl := s7.snd.lt
  have s8 := (s7.put hsrc7 hcap7 (by have := HT.out; omega) HT.out.2.2.2.2.1 hlow7).set1 ⟨s2.toArray⟩
  have HS8 := Lib.hid s8
  have e1' := s8.ent.c1; have e2' := s8.ent.c2; have e4' := s8.ent.c4
  dsimp only at e1' e2' e4'
  have u0 := s8.snd.c0; have u1 := s8.snd.c1; have u2 := s8.snd.c2; have u3 := s8.snd.c3
  dsimp only at u0 u1 u2 u3
  have HE := Lib.hid (HE0.out ((((w7.setCell ⟨R, 0, none⟩ (.slice a7 l2.length c7)).setCell ⟨R, 1, none⟩ (.int .i64 e2)).setCell ⟨R + 1, 1, none⟩ (.string ⟨s2.toArray⟩))))
  clear HS6 HT2 HT s7 s8 hsrc7 hcap7 hlow7 hb7 HE0
  go_wp2_with (go_at_call 11; refine HE.out.mono ?_; rintro e w9 ⟨rfl, q9⟩; refine Hid.out ?_)
  refine Lib.hid ?_
  have qa := (Below.refl w9.heap.size w9).alloc (Nat.le_refl _) (.cells #[.string A.k, .int .i64 A.t, .int .u16 A.o, .string A.v, .int .i64 A.u] 24)
  have ab := EBlk.new w9 A
  have s9 := (HS8.out.on q9).on qa
  clear z0 z1 z2 v0 v1 hrl hnl e1' e2' e4' u0 u1 u2 u3 HE HS8 q9 qa
  have z1 := s9.rd.blk.c1
  obtain rfl := HH4.out
  have y0 := s9.ans.c0; have y1 := s9.ans.c1; have y2 := s9.ans.c2; have y3 := s9.ans.c3; have f0 := s9.ans.f 0; have f1 := s9.ans.f 1; have f2 := s9.ans.f 2; have f3 := s9.ans.f 3
  have HF := Lib.hid (s9.ans.store zeroN)
  have HQ := Lib.hid (stN_below s9.low (show w.heap.size ≤ w.heap.size + 1 by omega) zeroN)
  dsimp only [zeroN] at y0 y1 y2 y3
  try dsimp only [zeroN] at HF HQ
  clear s9 ab
  go_wp2
  refine bodyPost_ret (v := .tuple #[.agg #[.string ⟨#[]⟩, .string ⟨#[]⟩, .string ⟨#[]⟩, .int .i64 0], .bool false]) (by have b5 := HF.out; have z0 := b5.c0; have z1 := b5.c1; have z2 := b5.c2; have z3 := b5.c3; try unfold stN at z0 z1 z2 z3; simp [results, Tryd.results15, go_sem, z0, z1, z2, z3]) rfl ?_
  exact ⟨rfl, HQ.out⟩
set_option maxRecDepth 100000 in
set_option maxHeartbeats 4000000 in
theorem zOf_ne (x : Ent) (hx : EntFit x) (hk : x.k.size ≤ 1048576) (w : World) (h1 : x.k.size ≠ 0) (h2 : ¬ x.t < 0) (h3 : ¬ x.u < x.t) (h4 : (rdG (x.k.extract 1 x.k.size).data.toList).2.1 = 0) (h5 : errN (sndN x (x.k.extract 1 x.k.size).data.toList) (keepN x) = 0) (h6 : ansN (sndN x (x.k.extract 1 x.k.size).data.toList) x.o (keepN x) ≠ x) :
    Calls Tryd.prog 15 #[.agg #[.string x.k, .int .i64 x.t, .int .u16 x.o, .string x.v, .int .i64 x.u]] w fun e w' => e = .returned (.tuple #[.agg #[.string ⟨#[]⟩, .string ⟨#[]⟩, .string ⟨#[]⟩, .int .i64 0], .bool false]) ∧ Below w.heap.size w w' := by
  have d1 := (Below.refl w.heap.size w).alloc (Nat.le_refl _) (.cells #[.string x.k, .int .i64 x.t, .int .u16 x.o, .string x.v, .int .i64 x.u] 24)
  have d2 := d1.alloc (by simp) (.cells #[.string ⟨#[]⟩, .string ⟨#[]⟩, .string ⟨#[]⟩, .int .i64 0] 33)
  have b1 := (EBlk.new w x).on ((Below.refl _ _).alloc (Nat.le_refl _) (.cells #[.string ⟨#[]⟩, .string ⟨#[]⟩, .string ⟨#[]⟩, .int .i64 0] 33))
  have b2 := SnBlk.new (w.alloc (.cells #[.string x.k, .int .i64 x.t, .int .u16 x.o, .string x.v, .int .i64 x.u] 24)) zeroN
  rw [World.size_alloc] at b2
  dsimp only [zeroN] at b2
  have g1 : ¬ (x.k.size : Int) < 1 := by omega
  have g1' : 1 ≤ x.k.size := by omega
  have hkl : (x.k.extract 1 x.k.size).data.toList.length = (x.k.extract 1 x.k.size).size := rfl
  have hks : (x.k.extract 1 x.k.size).size ≤ 1048576 := by rw [ByteArray.size_extract]; omega
  have hsh := rdK_short (x.k.extract 1 x.k.size).data.toList x
  have HE0 : Hid (∀ u, Calls Tryd.prog 11 #[.agg #[.string (sndN x (x.k.extract 1 x.k.size).data.toList).r, .string (sndN x (x.k.extract 1 x.k.size).data.toList).k, .string x.v, .int .i64 x.t], .int .u16 x.o, .int .i64 (keepN x)] u fun e w' => e = .returned (.tuple #[.agg #[.string (ansN (sndN x (x.k.extract 1 x.k.size).data.toList) x.o (keepN x)).k, .int .i64 (ansN (sndN x (x.k.extract 1 x.k.size).data.toList) x.o (keepN x)).t, .int .u16 (ansN (sndN x (x.k.extract 1 x.k.size).data.toList) x.o (keepN x)).o, .string (ansN (sndN x (x.k.extract 1 x.k.size).data.toList) x.o (keepN x)).v, .int .i64 (ansN (sndN x (x.k.extract 1 x.k.size).data.toList) x.o (keepN x)).u], .int .i64 (errN (sndN x (x.k.extract 1 x.k.size).data.toList) (keepN x))]) ∧ Below u.heap.size u w') := Lib.hid (fun u => zEntry_any (sndN x (x.k.extract 1 x.k.size).data.toList) x.o (keepN x) u (by omega) (by omega) hx.2.1 (keepN_range x))
  generalize hE : errN (sndN x (x.k.extract 1 x.k.size).data.toList) (keepN x) = E at *
  obtain rfl : E = 0 := h5
  generalize hA : ansN (sndN x (x.k.extract 1 x.k.size).data.toList) x.o (keepN x) = A at *
  have HNE := Lib.hid (fun u => run_neE A x u)
  rw [eqEn_no h6] at HNE
  clear hA hE hsh
  obtain ⟨kp, hkp⟩ : ∃ kp, keepN x = kp := ⟨_, rfl⟩
  rw [hkp] at HE0
  obtain ⟨a1, c1, w1, hcv, hsrc, hc1, ha1, hb1⟩ := bytes_of_string2 ((w.alloc (.cells #[.string x.k, .int .i64 x.t, .int .u16 x.o, .string x.v, .int .i64 x.u] 24)).alloc (.cells #[.string ⟨#[]⟩, .string ⟨#[]⟩, .string ⟨#[]⟩, .int .i64 0] 33)) (x.k.extract 1 x.k.size)
  obtain ⟨l0, e0, hO⟩ : ∃ l0 e0, byteE 108 0 (x.k.extract 1 x.k.size).data.toList = (l0, e0) := ⟨_, _, rfl⟩
  obtain ⟨l1, e1, s1, hT1⟩ : ∃ l1 e1 s1, textE 1024 e0 l0 = (l1, e1, s1) := ⟨_, _, _, rfl⟩
  obtain ⟨l2, e2, s2, hT2⟩ : ∃ l2 e2 s2, textE 1024 e1 l1 = (l2, e2, s2) := ⟨_, _, _, rfl⟩
  have hS : (sndN x (x.k.extract 1 x.k.size).data.toList) = ⟨⟨s1.toArray⟩, ⟨s2.toArray⟩, x.v, x.t⟩ := by simp only [sndN, rdG, rdR, hO, hT1, hT2]
  rw [hS] at HE0
  dsimp only at HE0
  have HH4 : Hid (e2 = 0) := Lib.hid (by simpa only [rdG, rdR, hO, hT1, hT2] using h4)
  clear h4
  have hX1 : XS w1 (some a1) c1 (x.k.extract 1 x.k.size).data.toList 0 := ⟨by rw [hkl]; exact hsrc, by omega, by omega, fun h => absurd rfl h⟩
  have hB0 := refByte_full (some a1) c1 _ 108 0 w1 hX1 hO
  rw [hkl] at hB0
  have HB := Lib.hid hB0
  have n0 := (byteE_err hO).2
  have n1 := (textE_err hT1).2
  have n2 := (textE_err hT2).2
  have HT := Lib.hid (And.intro hT1 (And.intro hT2 (And.intro (byteE_err hO).1 (And.intro (textE_err hT1).1 (And.intro (textE_err hT2).1 (And.intro (show l0.length ≤ 1048576 by omega) (And.intro (show l1.length ≤ 1048576 by omega) (show l2.length ≤ 1048576 by omega))))))))
  have HZ := Lib.hid (And.intro (b1.on hb1) (And.intro (b2.on hb1) (And.intro (d2.trans (hb1.mono d2.size)) (And.intro ha1 (Nat.lt_of_lt_of_le b2.lt hb1.size)))))
  have x0 := b1.c0
  clear hsrc hc1 ha1 hb1 hO hT1 hT2 hX1 hB0 n0 n1 n2 d1 d2 b1 b2 hkl hks h1 hk
  clear hx
  have hkq : IntKind.i64.wrap (x.u - x.t) = kp := hkp
  clear hS hkp
  clear h6
  obtain ⟨kx, tx, ox, vx, ux⟩ := x
  dsimp only at *
  obtain ⟨KT, hKT⟩ : ∃ z, kx.extract 1 kx.size = z := ⟨_, rfl⟩
  rw [hKT] at hcv HB
  go_enter Tryd.func15, Tryd.ntmps15
  go_wp2_with (go_at_call 32; refine HB.out.mono ?_; rintro e w2 ⟨⟨a2, c2, rfl, hsrc2, hcap2, hlow2⟩, hb2⟩; refine Hid.out ?_)
  refine Lib.hid ?_
  obtain ⟨b1, b2, d2, ha1, hlt⟩ := HZ.out
  have hs2 := hb2.size
  have b12 := b1.on hb2
  have b22 := b2.on hb2
  have d22 := d2.trans (hb2.mono d2.size)
  have o1 := (Below.refl w2.heap.size w2).alloc (Nat.le_refl _) (.cells #[.slice a2 l0.length c2, .int .i64 e0] 62)
  have o2 := (Below.refl (w2.alloc (.cells #[.slice a2 l0.length c2, .int .i64 e0] 62)).heap.size (w2.alloc (.cells #[.slice a2 l0.length c2, .int .i64 e0] 62))).alloc (Nat.le_refl _) (.cells #[.string ⟨#[]⟩, .string ⟨#[]⟩, .string vx, .int .i64 tx] 33)
  have r3 : XR (w2.alloc (.cells #[.slice a2 l0.length c2, .int .i64 e0] 62)) w2.heap.size a2 c2 l0 e0 := ⟨Two.new _ _ _ _, ⟨hsrc2.below o1 (Nat.le_refl _), hcap2, by have := HT.out; omega, HT.out.2.2.1⟩, fun q hq => by
    obtain ⟨q0, hq0, hqb⟩ := hlow2 q hq
    obtain rfl := Option.some.inj hq0
    omega⟩
  have nb := SnBlk.new (w2.alloc (.cells #[.slice a2 l0.length c2, .int .i64 e0] 62)) ⟨⟨#[]⟩, ⟨#[]⟩, vx, tx⟩
  rw [World.size_alloc] at nb
  dsimp only at nb
  have b13 := b12.on o1
  have x1 := b13.c1; have x3 := b13.c3
  dsimp only at x1 x3
  have st : OfSt w ((w2.alloc (.cells #[.slice a2 l0.length c2, .int .i64 e0] 62)).alloc (.cells #[.string ⟨#[]⟩, .string ⟨#[]⟩, .string vx, .int .i64 tx] 33)) w2.heap.size a2 c2 l0 e0 ⟨kx, tx, ox, vx, ux⟩ ⟨⟨#[]⟩, ⟨#[]⟩, vx, tx⟩ :=
    ⟨b13.on o2, (b22.on o1).on o2, r3.below o2, nb, (d22.alloc (by omega) _).alloc (by simp; omega) _, by omega⟩
  have HT1 := Lib.hid (refText_full a2 c2 l0 e0 1024 _ st.rd.xs HT.out.1)
  have r0 := st.rd.blk.c0; have r1 := st.rd.blk.c1
  have HST := Lib.hid st
  clear HB HZ hcv b1 b2 d2 ha1 hlt hs2 b12 b22 d22 o1 o2 r3 nb b13 st hsrc2 hcap2 hlow2 hb2 x0 g1 g1' hKT
  go_wp2_with (go_at_call 33; refine HT1.out.mono ?_; rintro r w5 ⟨⟨a5, c5, rfl, hsrc5, hcap5, hlow5⟩, hb5⟩; refine Hid.out ?_)
  refine Lib.hid ?_
  have s5 := HST.out.on hb5
  have z0 := s5.rd.blk.c0; have z1 := s5.rd.blk.c1; have z2 := s5.rd.blk.fr; have v0 := s5.snd.c0; have v1 := s5.snd.f 0
  have hrl := s5.rd.blk.lt
  have hnl := s5.snd.lt
  have s6 := (s5.put hsrc5 hcap5 (by have := HT.out; omega) HT.out.2.2.2.1 hlow5).set0 ⟨s1.toArray⟩
  generalize w2.heap.size = R at *
  have r0' := s6.rd.blk.c0; have r1' := s6.rd.blk.c1
  have HT2 := Lib.hid (refText_full a5 c5 l1 e1 1024 _ s6.rd.xs HT.out.2.1)
  have HS6 := Lib.hid s6
  clear r0 r1 x1 x3 HST HT1 s5 s6 hsrc5 hcap5 hlow5 hb5
  go_wp2_with (go_at_call 33; refine HT2.out.mono ?_; rintro r w7 ⟨⟨a7, c7, rfl, hsrc7, hcap7, hlow7⟩, hb7⟩; refine Hid.out ?_)
  refine Lib.hid ?_
  have s7 := HS6.out.on hb7
  clear z0 z1 z2 v0 v1 hrl hnl r0' r1'
  have z0 := s7.rd.blk.c0; have z1 := s7.rd.blk.c1; have z2 := s7.rd.blk.fr; have v0 := s7.snd.c1; have v1 := s7.snd.f 1
  have hrl := s7.rd.blk.lt
  have hnl := s7.snd.lt
  have s8 := (s7.put hsrc7 hcap7 (by have := HT.out; omega) HT.out.2.2.2.2.1 hlow7).set1 ⟨s2.toArray⟩
  have HS8 := Lib.hid s8
  have e1' := s8.ent.c1; have e2' := s8.ent.c2; have e4' := s8.ent.c4
  dsimp only at e1' e2' e4'
  have u0 := s8.snd.c0; have u1 := s8.snd.c1; have u2 := s8.snd.c2; have u3 := s8.snd.c3
  dsimp only at u0 u1 u2 u3
  have HE := Lib.hid (HE0.out ((((w7.setCell ⟨R, 0, none⟩ (.slice a7 l2.length c7)).setCell ⟨R, 1, none⟩ (.int .i64 e2)).setCell ⟨R + 1, 1, none⟩ (.string ⟨s2.toArray⟩))))
  clear HS6 HT2 HT s7 s8 hsrc7 hcap7 hlow7 hb7 HE0
  go_wp2_with (go_at_call 11; refine HE.out.mono ?_; rintro e w9 ⟨rfl, q9⟩; refine Hid.out ?_)
  refine Lib.hid ?_
  have qa := (Below.refl w9.heap.size w9).alloc (Nat.le_refl _) (.cells #[.string A.k, .int .i64 A.t, .int .u16 A.o, .string A.v, .int .i64 A.u] 24)
  have ab := EBlk.new w9 A
  have s9 := (HS8.out.on q9).on qa
  clear z0 z1 z2 v0 v1 hrl hnl e1' e2' e4' u0 u1 u2 u3 HE HS8 q9 qa
  have z1 := s9.rd.blk.c1
  have x0 := s9.ent.c0; have x1 := s9.ent.c1; have x2 := s9.ent.c2; have x3 := s9.ent.c3; have x4 := s9.ent.c4
  dsimp only at x0 x1 x2 x3 x4
  have v0 := ab.c0; have v1 := ab.c1; have v2 := ab.c2; have v3 := ab.c3; have v4 := ab.c4
  have hne := HNE.out
  obtain rfl := HH4.out
  have y0 := s9.ans.c0; have y1 := s9.ans.c1; have y2 := s9.ans.c2; have y3 := s9.ans.c3; have f0 := s9.ans.f 0; have f1 := s9.ans.f 1; have f2 := s9.ans.f 2; have f3 := s9.ans.f 3
  have HF := Lib.hid (s9.ans.store zeroN)
  have HQ := Lib.hid (stN_below s9.low (show w.heap.size ≤ w.heap.size + 1 by omega) zeroN)
  dsimp only [zeroN] at y0 y1 y2 y3
  try dsimp only [zeroN] at HF HQ
  clear s9 ab
  go_wp2
  refine bodyPost_ret (v := .tuple #[.agg #[.string ⟨#[]⟩, .string ⟨#[]⟩, .string ⟨#[]⟩, .int .i64 0], .bool false]) (by have b5 := HF.out; have z0 := b5.c0; have z1 := b5.c1; have z2 := b5.c2; have z3 := b5.c3; try unfold stN at z0 z1 z2 z3; simp [results, Tryd.results15, go_sem, z0, z1, z2, z3]) rfl ?_
  exact ⟨rfl, HQ.out⟩
set_option maxRecDepth 100000 in
set_option maxHeartbeats 4000000 in
theorem zOf_yes (x : Ent) (hx : EntFit x) (hk : x.k.size ≤ 1048576) (w : World) (h1 : x.k.size ≠ 0) (h2 : ¬ x.t < 0) (h3 : ¬ x.u < x.t) (h4 : (rdG (x.k.extract 1 x.k.size).data.toList).2.1 = 0) (h5 : errN (sndN x (x.k.extract 1 x.k.size).data.toList) (keepN x) = 0) (h6 : ansN (sndN x (x.k.extract 1 x.k.size).data.toList) x.o (keepN x) = x) :
    Calls Tryd.prog 15 #[.agg #[.string x.k, .int .i64 x.t, .int .u16 x.o, .string x.v, .int .i64 x.u]] w fun e w' => e = .returned (.tuple #[.agg #[.string (sndN x (x.k.extract 1 x.k.size).data.toList).r, .string (sndN x (x.k.extract 1 x.k.size).data.toList).k, .string x.v, .int .i64 x.t], .bool true]) ∧ Below w.heap.size w w' := by
  have d1 := (Below.refl w.heap.size w).alloc (Nat.le_refl _) (.cells #[.string x.k, .int .i64 x.t, .int .u16 x.o, .string x.v, .int .i64 x.u] 24)
  have d2 := d1.alloc (by simp) (.cells #[.string ⟨#[]⟩, .string ⟨#[]⟩, .string ⟨#[]⟩, .int .i64 0] 33)
  have b1 := (EBlk.new w x).on ((Below.refl _ _).alloc (Nat.le_refl _) (.cells #[.string ⟨#[]⟩, .string ⟨#[]⟩, .string ⟨#[]⟩, .int .i64 0] 33))
  have b2 := SnBlk.new (w.alloc (.cells #[.string x.k, .int .i64 x.t, .int .u16 x.o, .string x.v, .int .i64 x.u] 24)) zeroN
  rw [World.size_alloc] at b2
  dsimp only [zeroN] at b2
  have g1 : ¬ (x.k.size : Int) < 1 := by omega
  have g1' : 1 ≤ x.k.size := by omega
  have hkl : (x.k.extract 1 x.k.size).data.toList.length = (x.k.extract 1 x.k.size).size := rfl
  have hks : (x.k.extract 1 x.k.size).size ≤ 1048576 := by rw [ByteArray.size_extract]; omega
  have hsh := rdK_short (x.k.extract 1 x.k.size).data.toList x
  have HE0 : Hid (∀ u, Calls Tryd.prog 11 #[.agg #[.string (sndN x (x.k.extract 1 x.k.size).data.toList).r, .string (sndN x (x.k.extract 1 x.k.size).data.toList).k, .string x.v, .int .i64 x.t], .int .u16 x.o, .int .i64 (keepN x)] u fun e w' => e = .returned (.tuple #[.agg #[.string (ansN (sndN x (x.k.extract 1 x.k.size).data.toList) x.o (keepN x)).k, .int .i64 (ansN (sndN x (x.k.extract 1 x.k.size).data.toList) x.o (keepN x)).t, .int .u16 (ansN (sndN x (x.k.extract 1 x.k.size).data.toList) x.o (keepN x)).o, .string (ansN (sndN x (x.k.extract 1 x.k.size).data.toList) x.o (keepN x)).v, .int .i64 (ansN (sndN x (x.k.extract 1 x.k.size).data.toList) x.o (keepN x)).u], .int .i64 (errN (sndN x (x.k.extract 1 x.k.size).data.toList) (keepN x))]) ∧ Below u.heap.size u w') := Lib.hid (fun u => zEntry_any (sndN x (x.k.extract 1 x.k.size).data.toList) x.o (keepN x) u (by omega) (by omega) hx.2.1 (keepN_range x))
  generalize hE : errN (sndN x (x.k.extract 1 x.k.size).data.toList) (keepN x) = E at *
  obtain rfl : E = 0 := h5
  generalize hA : ansN (sndN x (x.k.extract 1 x.k.size).data.toList) x.o (keepN x) = A at *
  have HNE := Lib.hid (fun u => run_neE A x u)
  rw [(eqEn_iff A x).2 h6] at HNE
  clear hA hE hsh
  obtain ⟨kp, hkp⟩ : ∃ kp, keepN x = kp := ⟨_, rfl⟩
  rw [hkp] at HE0
  obtain ⟨a1, c1, w1, hcv, hsrc, hc1, ha1, hb1⟩ := bytes_of_string2 ((w.alloc (.cells #[.string x.k, .int .i64 x.t, .int .u16 x.o, .string x.v, .int .i64 x.u] 24)).alloc (.cells #[.string ⟨#[]⟩, .string ⟨#[]⟩, .string ⟨#[]⟩, .int .i64 0] 33)) (x.k.extract 1 x.k.size)
  obtain ⟨l0, e0, hO⟩ : ∃ l0 e0, byteE 108 0 (x.k.extract 1 x.k.size).data.toList = (l0, e0) := ⟨_, _, rfl⟩
  obtain ⟨l1, e1, s1, hT1⟩ : ∃ l1 e1 s1, textE 1024 e0 l0 = (l1, e1, s1) := ⟨_, _, _, rfl⟩
  obtain ⟨l2, e2, s2, hT2⟩ : ∃ l2 e2 s2, textE 1024 e1 l1 = (l2, e2, s2) := ⟨_, _, _, rfl⟩
  have hS : (sndN x (x.k.extract 1 x.k.size).data.toList) = ⟨⟨s1.toArray⟩, ⟨s2.toArray⟩, x.v, x.t⟩ := by simp only [sndN, rdG, rdR, hO, hT1, hT2]
  rw [hS] at HE0 ⊢
  dsimp only at HE0 ⊢
  have HH4 : Hid (e2 = 0) := Lib.hid (by simpa only [rdG, rdR, hO, hT1, hT2] using h4)
  clear h4
  have hX1 : XS w1 (some a1) c1 (x.k.extract 1 x.k.size).data.toList 0 := ⟨by rw [hkl]; exact hsrc, by omega, by omega, fun h => absurd rfl h⟩
  have hB0 := refByte_full (some a1) c1 _ 108 0 w1 hX1 hO
  rw [hkl] at hB0
  have HB := Lib.hid hB0
  have n0 := (byteE_err hO).2
  have n1 := (textE_err hT1).2
  have n2 := (textE_err hT2).2
  have HT := Lib.hid (And.intro hT1 (And.intro hT2 (And.intro (byteE_err hO).1 (And.intro (textE_err hT1).1 (And.intro (textE_err hT2).1 (And.intro (show l0.length ≤ 1048576 by omega) (And.intro (show l1.length ≤ 1048576 by omega) (show l2.length ≤ 1048576 by omega))))))))
  have HZ := Lib.hid (And.intro (b1.on hb1) (And.intro (b2.on hb1) (And.intro (d2.trans (hb1.mono d2.size)) (And.intro ha1 (Nat.lt_of_lt_of_le b2.lt hb1.size)))))
  have x0 := b1.c0
  clear hsrc hc1 ha1 hb1 hO hT1 hT2 hX1 hB0 n0 n1 n2 d1 d2 b1 b2 hkl hks h1 hk
  clear hx
  have hkq : IntKind.i64.wrap (x.u - x.t) = kp := hkp
  clear hS hkp
  clear h6
  obtain ⟨kx, tx, ox, vx, ux⟩ := x
  dsimp only at *
  obtain ⟨KT, hKT⟩ : ∃ z, kx.extract 1 kx.size = z := ⟨_, rfl⟩
  rw [hKT] at hcv HB
  go_enter Tryd.func15, Tryd.ntmps15
  go_wp2_with (go_at_call 32; refine HB.out.mono ?_; rintro e w2 ⟨⟨a2, c2, rfl, hsrc2, hcap2, hlow2⟩, hb2⟩; refine Hid.out ?_)
  refine Lib.hid ?_
  obtain ⟨b1, b2, d2, ha1, hlt⟩ := HZ.out
  have hs2 := hb2.size
  have b12 := b1.on hb2
  have b22 := b2.on hb2
  have d22 := d2.trans (hb2.mono d2.size)
  have o1 := (Below.refl w2.heap.size w2).alloc (Nat.le_refl _) (.cells #[.slice a2 l0.length c2, .int .i64 e0] 62)
  have o2 := (Below.refl (w2.alloc (.cells #[.slice a2 l0.length c2, .int .i64 e0] 62)).heap.size (w2.alloc (.cells #[.slice a2 l0.length c2, .int .i64 e0] 62))).alloc (Nat.le_refl _) (.cells #[.string ⟨#[]⟩, .string ⟨#[]⟩, .string vx, .int .i64 tx] 33)
  have r3 : XR (w2.alloc (.cells #[.slice a2 l0.length c2, .int .i64 e0] 62)) w2.heap.size a2 c2 l0 e0 := ⟨Two.new _ _ _ _, ⟨hsrc2.below o1 (Nat.le_refl _), hcap2, by have := HT.out; omega, HT.out.2.2.1⟩, fun q hq => by
    obtain ⟨q0, hq0, hqb⟩ := hlow2 q hq
    obtain rfl := Option.some.inj hq0
    omega⟩
  have nb := SnBlk.new (w2.alloc (.cells #[.slice a2 l0.length c2, .int .i64 e0] 62)) ⟨⟨#[]⟩, ⟨#[]⟩, vx, tx⟩
  rw [World.size_alloc] at nb
  dsimp only at nb
  have b13 := b12.on o1
  have x1 := b13.c1; have x3 := b13.c3
  dsimp only at x1 x3
  have st : OfSt w ((w2.alloc (.cells #[.slice a2 l0.length c2, .int .i64 e0] 62)).alloc (.cells #[.string ⟨#[]⟩, .string ⟨#[]⟩, .string vx, .int .i64 tx] 33)) w2.heap.size a2 c2 l0 e0 ⟨kx, tx, ox, vx, ux⟩ ⟨⟨#[]⟩, ⟨#[]⟩, vx, tx⟩ :=
    ⟨b13.on o2, (b22.on o1).on o2, r3.below o2, nb, (d22.alloc (by omega) _).alloc (by simp; omega) _, by omega⟩
  have HT1 := Lib.hid (refText_full a2 c2 l0 e0 1024 _ st.rd.xs HT.out.1)
  have r0 := st.rd.blk.c0; have r1 := st.rd.blk.c1
  have HST := Lib.hid st
  clear HB HZ hcv b1 b2 d2 ha1 hlt hs2 b12 b22 d22 o1 o2 r3 nb b13 st hsrc2 hcap2 hlow2 hb2 x0 g1 g1' hKT
  go_wp2_with (go_at_call 33; refine HT1.out.mono ?_; rintro r w5 ⟨⟨a5, c5, rfl, hsrc5, hcap5, hlow5⟩, hb5⟩; refine Hid.out ?_)
  refine Lib.hid ?_
  have s5 := HST.out.on hb5
  have z0 := s5.rd.blk.c0; have z1 := s5.rd.blk.c1; have z2 := s5.rd.blk.fr; have v0 := s5.snd.c0; have v1 := s5.snd.f 0
  have hrl := s5.rd.blk.lt
  have hnl := s5.snd.lt
  have s6 := (s5.put hsrc5 hcap5 (by have := HT.out; omega) HT.out.2.2.2.1 hlow5).set0 ⟨s1.toArray⟩
  generalize w2.heap.size = R at *
  have r0' := s6.rd.blk.c0; have r1' := s6.rd.blk.c1
  have HT2 := Lib.hid (refText_full a5 c5 l1 e1 1024 _ s6.rd.xs HT.out.2.1)
  have HS6 := Lib.hid s6
  clear r0 r1 x1 x3 HST HT1 s5 s6 hsrc5 hcap5 hlow5 hb5
  go_wp2_with (go_at_call 33; refine HT2.out.mono ?_; rintro r w7 ⟨⟨a7, c7, rfl, hsrc7, hcap7, hlow7⟩, hb7⟩; refine Hid.out ?_)
  refine Lib.hid ?_
  have s7 := HS6.out.on hb7
  clear z0 z1 z2 v0 v1 hrl hnl r0' r1'
  have z0 := s7.rd.blk.c0; have z1 := s7.rd.blk.c1; have z2 := s7.rd.blk.fr; have v0 := s7.snd.c1; have v1 := s7.snd.f 1
  have hrl := s7.rd.blk.lt
  have hnl := s7.snd.lt
  have s8 := (s7.put hsrc7 hcap7 (by have := HT.out; omega) HT.out.2.2.2.2.1 hlow7).set1 ⟨s2.toArray⟩
  have HS8 := Lib.hid s8
  have e1' := s8.ent.c1; have e2' := s8.ent.c2; have e4' := s8.ent.c4
  dsimp only at e1' e2' e4'
  have u0 := s8.snd.c0; have u1 := s8.snd.c1; have u2 := s8.snd.c2; have u3 := s8.snd.c3
  dsimp only at u0 u1 u2 u3
  have HE := Lib.hid (HE0.out ((((w7.setCell ⟨R, 0, none⟩ (.slice a7 l2.length c7)).setCell ⟨R, 1, none⟩ (.int .i64 e2)).setCell ⟨R + 1, 1, none⟩ (.string ⟨s2.toArray⟩))))
  clear HS6 HT2 HT s7 s8 hsrc7 hcap7 hlow7 hb7 HE0
  go_wp2_with (go_at_call 11; refine HE.out.mono ?_; rintro e w9 ⟨rfl, q9⟩; refine Hid.out ?_)
  refine Lib.hid ?_
  have qa := (Below.refl w9.heap.size w9).alloc (Nat.le_refl _) (.cells #[.string A.k, .int .i64 A.t, .int .u16 A.o, .string A.v, .int .i64 A.u] 24)
  have ab := EBlk.new w9 A
  have s9 := (HS8.out.on q9).on qa
  clear z0 z1 z2 v0 v1 hrl hnl e1' e2' e4' u0 u1 u2 u3 HE HS8 q9 qa
  have z1 := s9.rd.blk.c1
  have x0 := s9.ent.c0; have x1 := s9.ent.c1; have x2 := s9.ent.c2; have x3 := s9.ent.c3; have x4 := s9.ent.c4
  dsimp only at x0 x1 x2 x3 x4
  have v0 := ab.c0; have v1 := ab.c1; have v2 := ab.c2; have v3 := ab.c3; have v4 := ab.c4
  have hne := HNE.out
  obtain rfl := HH4.out
  have u0 := s9.snd.c0; have u1 := s9.snd.c1; have u2 := s9.snd.c2; have u3 := s9.snd.c3
  dsimp only at u0 u1 u2 u3
  have y0 := s9.ans.c0; have y1 := s9.ans.c1; have y2 := s9.ans.c2; have y3 := s9.ans.c3; have f0 := s9.ans.f 0; have f1 := s9.ans.f 1; have f2 := s9.ans.f 2; have f3 := s9.ans.f 3
  have HF := Lib.hid (s9.ans.store ⟨⟨s1.toArray⟩, ⟨s2.toArray⟩, vx, tx⟩)
  have HQ := Lib.hid (stN_below s9.low (show w.heap.size ≤ w.heap.size + 1 by omega) ⟨⟨s1.toArray⟩, ⟨s2.toArray⟩, vx, tx⟩)
  dsimp only [zeroN] at y0 y1 y2 y3
  try dsimp only [zeroN] at HF HQ
  clear s9 ab
  go_wp2
  refine bodyPost_ret (v := .tuple #[.agg #[.string ⟨s1.toArray⟩, .string ⟨s2.toArray⟩, .string vx, .int .i64 tx], .bool true]) (by have b5 := HF.out; have z0 := b5.c0; have z1 := b5.c1; have z2 := b5.c2; have z3 := b5.c3; try unfold stN at z0 z1 z2 z3; simp [results, Tryd.results15, go_sem, z0, z1, z2, z3]) rfl ?_
  exact ⟨rfl, HQ.out⟩

theorem zOf_any (x : Ent) (hx : EntFit x) (hk : x.k.size ≤ 1048576) (w : World) :
    Calls Tryd.prog 15 #[.agg #[.string x.k, .int .i64 x.t, .int .u16 x.o, .string x.v, .int .i64 x.u]] w fun e w' => e = .returned (.tuple #[.agg #[.string (ofN x).r, .string (ofN x).k, .string (ofN x).v, .int .i64 (ofN x).t], .bool (okN x)]) ∧ Below w.heap.size w w' := by
  by_cases h1 : x.k.size = 0
  · have ho := okN_ref (Or.inl h1)
    rw [ofN_no ho, ho]
    exact zOf_len x w h1
  by_cases h2 : x.t < 0
  · have ho := okN_ref (Or.inr (Or.inl h2))
    rw [ofN_no ho, ho]
    exact zOf_t1 x hx hk w h1 h2
  by_cases h3 : x.u < x.t
  · have ho := okN_ref (Or.inr (Or.inr (Or.inl h3)))
    rw [ofN_no ho, ho]
    exact zOf_t2 x hx hk w h1 h2 h3
  by_cases h4 : (rdG (x.k.extract 1 x.k.size).data.toList).2.1 = 0
  · by_cases h5 : errN (sndN x (x.k.extract 1 x.k.size).data.toList) (keepN x) = 0
    · by_cases h6 : ansN (sndN x (x.k.extract 1 x.k.size).data.toList) x.o (keepN x) = x
      · obtain ⟨ho, hl⟩ := okN_tail h5 h6
        rw [ofN_ok ho, ho, ← hl]
        exact zOf_yes x hx hk w h1 h2 h3 h4 h5 h6
      · have ho := okN_ref (Or.inr (Or.inr (Or.inr (Or.inr (Or.inr h6)))))
        rw [ofN_no ho, ho]
        exact zOf_ne x hx hk w h1 h2 h3 h4 h5 h6
    · have ho := okN_ref (Or.inr (Or.inr (Or.inr (Or.inr (Or.inl h5)))))
      rw [ofN_no ho, ho]
      exact zOf_er x hx hk w h1 h2 h3 h4 h5
  · have ho := okN_ref (Or.inr (Or.inr (Or.inr (Or.inl h4))))
    rw [ofN_no ho, ho]
    exact zOf_re x hx hk w h1 h2 h3 h4

end Go.Proofs.YtieepbjngolaoaaDoor
