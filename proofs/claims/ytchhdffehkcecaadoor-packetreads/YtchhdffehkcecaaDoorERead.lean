/-
  What Read of package entry reads.
-/
import Derived.Test.YtchhdffehkcecaaDoorE4
import Derived.Test.YtchhdffehkcecaaDoorE3
import Derived.Test.YtchhdffehkcecaaDoorRd6
namespace Go.Proofs.YtchhdffehkcecaaDoor
open Go.RowKit

/-- What is read as an entry: the entry, what is left, the error. -/
def readEn (l : List UInt8) : Ent × List UInt8 × Int :=
  let b := byteE 108 0 l
  let k := textE 9223372036854775807 b.2 b.1
  let t := intE k.2.1 k.1
  let o := intE t.2.1 t.1
  let v := textE 9223372036854775807 o.2.1 o.1
  let u := intE v.2.1 v.1
  let c := byteE 101 u.2.1 u.1
  (if c.2 ≠ 0 ∨ o.2.2 < 0 ∨ 65535 < o.2.2 then zeroE else if checkEn ⟨⟨k.2.2.toArray⟩, t.2.2, o.2.2, ⟨v.2.2.toArray⟩, u.2.2⟩ ≠ 0 then zeroE else ⟨⟨k.2.2.toArray⟩, t.2.2, o.2.2, ⟨v.2.2.toArray⟩, u.2.2⟩, c.1, c.2)

def ReadPost (rb : Nat) (l : List UInt8) (w : World) (e : Ending) (w' : World) : Prop := e = .returned (.agg #[.string (readEn l).1.k, .int .i64 (readEn l).1.t, .int .u16 (readEn l).1.o, .string (readEn l).1.v, .int .i64 (readEn l).1.u]) ∧ (∃ a c, Rd w' rb a c (readEn l).2.1 (readEn l).2.2) ∧ w.grownBy w' (some rb)

theorem grown_new {w w1 w2 : World} {rb : Nat} (h : w.grownBy w1 (some rb)) (g : w1.grownBy w2 (some w.heap.size)) : w.grownBy w2 (some rb) := h.andThen g (fun j hj => by cases hj; exact Or.inl (Nat.le_refl _))

set_option maxRecDepth 100000 in
set_option maxHeartbeats 4000000 in
theorem eRead_any (rb : Nat) (a : Option Addr) (c : Nat) (l : List UInt8) (B : Nat) (w : World) (h : Rd w rb a c l 0) (hB : B ≤ rb) (hv : VarsOk B w) :
    Calls Tryd.prog 57 #[.pointer (some ⟨rb, 0, none⟩)] w (ReadPost rb l w) := by
  have hrl := h.blk.lt
  have d0 := (Below.refl w.heap.size w).alloc (Nat.le_refl _) (.cells #[.string ⟨#[]⟩, .int .i64 0, .int .u16 0, .string ⟨#[]⟩, .int .i64 0] 48)
  have b0 := EBlk.new w zeroE
  rcases h0 : byteE 108 0 l with ⟨l0, e0⟩
  rcases h1 : textE 9223372036854775807 e0 l0 with ⟨l1, e1, s1⟩
  rcases h2 : intE e1 l1 with ⟨l2, e2, z2⟩
  rcases h3 : intE e2 l2 with ⟨l3, e3, z3⟩
  rcases h4 : textE 9223372036854775807 e3 l3 with ⟨l4, e4, s4⟩
  rcases h5 : intE e4 l4 with ⟨l5, e5, z5⟩
  rcases h6 : byteE 101 e5 l5 with ⟨l6, e6⟩
  have hres : readEn l = ((if e6 ≠ 0 ∨ z3 < 0 ∨ 65535 < z3 then zeroE else if checkEn ⟨⟨s1.toArray⟩, z2, z3, ⟨s4.toArray⟩, z5⟩ ≠ 0 then zeroE else ⟨⟨s1.toArray⟩, z2, z3, ⟨s4.toArray⟩, z5⟩), l6, e6) := by
    simp only [readEn, h0, h1, h2, h3, h4, h5, h6]
  have HRes := Lib.hid hres
  have HH := Lib.hid (And.intro h0 (And.intro h1 (And.intro h2 (And.intro h3 (And.intro h4 (And.intro h5 h6))))))
  have HK : Hid (∀ A C : World, A.grownBy C (some rb) → B ≤ A.heap.size → VarsOk B A → VarsOk B C ∧ B ≤ C.heap.size) := Lib.hid (fun A C g hs h => ⟨h.on (below_of_grownBy g hB hs), Nat.le_trans hs g.size⟩)
  have HS : Hid (EBlk (w.alloc (.cells #[.string ⟨#[]⟩, .int .i64 0, .int .u16 0, .string ⟨#[]⟩, .int .i64 0] 48)) w.heap.size zeroE ∧ w.grownBy (w.alloc (.cells #[.string ⟨#[]⟩, .int .i64 0, .int .u16 0, .string ⟨#[]⟩, .int .i64 0] 48)) (some rb) ∧ VarsOk B (w.alloc (.cells #[.string ⟨#[]⟩, .int .i64 0, .int .u16 0, .string ⟨#[]⟩, .int .i64 0] 48)) ∧ B ≤ (w.alloc (.cells #[.string ⟨#[]⟩, .int .i64 0, .int .u16 0, .string ⟨#[]⟩, .int .i64 0] 48)).heap.size) := Lib.hid ⟨b0, grownBy_of_below d0, hv.on (d0.mono (by omega)), by simp; omega⟩
  have HT0 := Lib.hid (Open_full rb a c l 0 _ (h.below d0) h0)
  have hne : w.heap.size ≠ rb := by omega
  clear hres h0 h1 h2 h3 h4 h5 h6 d0 b0 hv h
  unfold ReadPost
  rw [HRes.out]
  dsimp only
  obtain ⟨X, hX⟩ : ∃ X, X = (if e6 ≠ 0 ∨ z3 < 0 ∨ 65535 < z3 then zeroE else if checkEn ⟨⟨s1.toArray⟩, z2, z3, ⟨s4.toArray⟩, z5⟩ ≠ 0 then zeroE else ⟨⟨s1.toArray⟩, z2, z3, ⟨s4.toArray⟩, z5⟩) := ⟨_, rfl⟩
  rw [← hX]
  have HX := Lib.hid hX
  clear hX HRes
  go_enter Tryd.func57, Tryd.ntmps57
  go_wp2_with (go_at_call 52; refine HT0.out.mono ?_; rintro e w1 ⟨rfl, ⟨a1, c1, r1⟩, g1⟩; refine Hid.out ?_)
  refine Lib.hid ?_
  obtain ⟨bb, gg, vv, ss⟩ := HS.out
  have hk1 := HK.out _ _ g1 ss vv
  have bb1 : EBlk w1 w.heap.size zeroE := (g1.block w.heap.size bb.lt (by simp; omega)).trans bb
  have HS1 : Hid (EBlk w1 w.heap.size zeroE ∧ w.grownBy w1 (some rb) ∧ VarsOk B w1 ∧ B ≤ w1.heap.size) := Lib.hid ⟨bb1, grownBy_trans gg g1, hk1.1, hk1.2⟩
  have HT1 := Lib.hid (rText_full rb a1 c1 l0 e0 9223372036854775807 B w1 r1 hB hk1.1 HH.out.2.1)
  clear bb gg vv ss hk1 bb1 g1 r1 HT0 HS
  go_wp2_with (go_at_call 71; refine HT1.out.mono ?_; rintro e w2 ⟨rfl, ⟨a2, c2, r2⟩, g2⟩; refine Hid.out ?_)
  refine Lib.hid ?_
  obtain ⟨bb, gg, vv, ss⟩ := HS1.out
  have hk2 := HK.out _ _ g2 ss vv
  have bb2 : EBlk w2 w.heap.size zeroE := (g2.block w.heap.size bb.lt (by simp; omega)).trans bb
  have HS2 : Hid (EBlk w2 w.heap.size zeroE ∧ w.grownBy w2 (some rb) ∧ VarsOk B w2 ∧ B ≤ w2.heap.size) := Lib.hid ⟨bb2, grownBy_trans gg g2, hk2.1, hk2.2⟩
  have HT2 := Lib.hid (rInt_full rb a2 c2 l1 e1 B w2 r2 hB hk2.1 HH.out.2.2.1)
  clear bb gg vv ss hk2 bb2 g2 r2 HT1 HS1
  go_wp2_with (go_at_call 53; refine HT2.out.mono ?_; rintro e w3 ⟨rfl, ⟨a3, c3, r3⟩, g3⟩; refine Hid.out ?_)
  refine Lib.hid ?_
  obtain ⟨bb, gg, vv, ss⟩ := HS2.out
  have hk3 := HK.out _ _ g3 ss vv
  have bb3 : EBlk w3 w.heap.size zeroE := (g3.block w.heap.size bb.lt (by simp; omega)).trans bb
  have HS3 : Hid (EBlk w3 w.heap.size zeroE ∧ w.grownBy w3 (some rb) ∧ VarsOk B w3 ∧ B ≤ w3.heap.size) := Lib.hid ⟨bb3, grownBy_trans gg g3, hk3.1, hk3.2⟩
  have HT3 := Lib.hid (rInt_full rb a3 c3 l2 e2 B w3 r3 hB hk3.1 HH.out.2.2.2.1)
  clear bb gg vv ss hk3 bb3 g3 r3 HT2 HS2
  go_wp2_with (go_at_call 53; refine HT3.out.mono ?_; rintro e w4 ⟨rfl, ⟨a4, c4, r4⟩, g4⟩; refine Hid.out ?_)
  refine Lib.hid ?_
  obtain ⟨bb, gg, vv, ss⟩ := HS3.out
  have hk4 := HK.out _ _ g4 ss vv
  have bb4 : EBlk w4 w.heap.size zeroE := (g4.block w.heap.size bb.lt (by simp; omega)).trans bb
  have HS4 : Hid (EBlk w4 w.heap.size zeroE ∧ w.grownBy w4 (some rb) ∧ VarsOk B w4 ∧ B ≤ w4.heap.size) := Lib.hid ⟨bb4, grownBy_trans gg g4, hk4.1, hk4.2⟩
  have HT4 := Lib.hid (rText_full rb a4 c4 l3 e3 9223372036854775807 B w4 r4 hB hk4.1 HH.out.2.2.2.2.1)
  clear bb gg vv ss hk4 bb4 g4 r4 HT3 HS3
  go_wp2_with (go_at_call 71; refine HT4.out.mono ?_; rintro e w5 ⟨rfl, ⟨a5, c5, r5⟩, g5⟩; refine Hid.out ?_)
  refine Lib.hid ?_
  obtain ⟨bb, gg, vv, ss⟩ := HS4.out
  have hk5 := HK.out _ _ g5 ss vv
  have bb5 : EBlk w5 w.heap.size zeroE := (g5.block w.heap.size bb.lt (by simp; omega)).trans bb
  have HS5 : Hid (EBlk w5 w.heap.size zeroE ∧ w.grownBy w5 (some rb) ∧ VarsOk B w5 ∧ B ≤ w5.heap.size) := Lib.hid ⟨bb5, grownBy_trans gg g5, hk5.1, hk5.2⟩
  have HT5 := Lib.hid (rInt_full rb a5 c5 l4 e4 B w5 r5 hB hk5.1 HH.out.2.2.2.2.2.1)
  clear bb gg vv ss hk5 bb5 g5 r5 HT4 HS4
  go_wp2_with (go_at_call 53; refine HT5.out.mono ?_; rintro e w6 ⟨rfl, ⟨a6, c6, r6⟩, g6⟩; refine Hid.out ?_)
  refine Lib.hid ?_
  obtain ⟨bb, gg, vv, ss⟩ := HS5.out
  have hk6 := HK.out _ _ g6 ss vv
  have bb6 : EBlk w6 w.heap.size zeroE := (g6.block w.heap.size bb.lt (by simp; omega)).trans bb
  have HS6 : Hid (EBlk w6 w.heap.size zeroE ∧ w.grownBy w6 (some rb) ∧ VarsOk B w6 ∧ B ≤ w6.heap.size) := Lib.hid ⟨bb6, grownBy_trans gg g6, hk6.1, hk6.2⟩
  have HT6 := Lib.hid (Close_full rb a6 c6 l5 e5 w6 r6 HH.out.2.2.2.2.2.2)
  clear bb gg vv ss hk6 bb6 g6 r6 HT5 HS5
  go_wp2_with (go_at_call 70; refine HT6.out.mono ?_; rintro e w7 ⟨rfl, ⟨a7, c7, r7⟩, g7⟩; refine Hid.out ?_)
  refine Lib.hid ?_
  obtain ⟨bb, gg, vv, ss⟩ := HS6.out
  have hk7 := HK.out _ _ g7 ss vv
  have bb7 : EBlk w7 w.heap.size zeroE := (g7.block w.heap.size bb.lt (by simp; omega)).trans bb
  have HS7 : Hid (EBlk w7 w.heap.size zeroE ∧ w.grownBy w7 (some rb) ∧ VarsOk B w7 ∧ B ≤ w7.heap.size) := Lib.hid ⟨bb7, grownBy_trans gg g7, hk7.1, hk7.2⟩
  have HEr := Lib.hid (Err_any rb a7 c7 l6 e6 w7 r7)
  have HR7 := Lib.hid r7
  clear bb gg vv ss hk7 g7 r7 HT6 HS6
  have k0 := bb7.c0; have k1 := bb7.c1; have k2 := bb7.c2; have k3 := bb7.c3; have k4 := bb7.c4
  have f0 := bb7.f 0; have f1 := bb7.f 1; have f2 := bb7.f 2; have f3 := bb7.f 3; have f4 := bb7.f 4
  clear bb7
  by_cases he : e6 = 0
  · subst he
    by_cases hz0 : z3 < 0
    · have HZ : Hid (X = zeroE) := Lib.hid (by rw [HX.out, if_pos (by omega)])
      go_wp2_with (go_at_call 72; refine HEr.out.mono ?_; rintro e w8 ⟨rfl, hw8⟩; replace hw8 := Lib.hid hw8; refine Hid.out ?_)
      refine Lib.hid ?_
      obtain rfl := hw8.out
      obtain ⟨bb, gg, -, -⟩ := HS7.out
      have gs : w8.grownBy (stE w8 w.heap.size zeroE) (some w.heap.size) := grownBy_trans (grownBy_trans (grownBy_trans (grownBy_trans (grownBy_setCell _ _ _ _) (grownBy_setCell _ _ _ _)) (grownBy_setCell _ _ _ _)) (grownBy_setCell _ _ _ _)) (grownBy_setCell _ _ _ _)
      have HF : Hid (EBlk (stE w8 w.heap.size zeroE) w.heap.size zeroE ∧ (∃ a c, Rd (stE w8 w.heap.size zeroE) rb a c l6 0) ∧ w.grownBy (stE w8 w.heap.size zeroE) (some rb)) := Lib.hid ⟨bb.store zeroE, ⟨a7, c7, HR7.out.above gs (fun k e => by cases e; omega)⟩, grown_new gg gs⟩
      clear bb gg gs HEr HS7 HR7
      go_wp2
      refine bodyPost_ret (v := .agg #[.string ⟨#[]⟩, .int .i64 0, .int .u16 0, .string ⟨#[]⟩, .int .i64 0]) (by have b5 := HF.out.1; have z0 := b5.c0; have z1 := b5.c1; have z2 := b5.c2; have z3 := b5.c3; have z4 := b5.c4; unfold stE zeroE at z0 z1 z2 z3 z4; simp [results, Tryd.results57, go_sem, z0, z1, z2, z3, z4]) rfl ?_
      exact ⟨by rw [HZ.out]; rfl, HF.out.2⟩
    by_cases hz1 : 65535 < z3
    · have HZ : Hid (X = zeroE) := Lib.hid (by rw [HX.out, if_pos (by omega)])
      go_wp2_with (go_at_call 72; refine HEr.out.mono ?_; rintro e w8 ⟨rfl, hw8⟩; replace hw8 := Lib.hid hw8; refine Hid.out ?_)
      refine Lib.hid ?_
      obtain rfl := hw8.out
      obtain ⟨bb, gg, -, -⟩ := HS7.out
      have gs : w8.grownBy (stE w8 w.heap.size zeroE) (some w.heap.size) := grownBy_trans (grownBy_trans (grownBy_trans (grownBy_trans (grownBy_setCell _ _ _ _) (grownBy_setCell _ _ _ _)) (grownBy_setCell _ _ _ _)) (grownBy_setCell _ _ _ _)) (grownBy_setCell _ _ _ _)
      have HF : Hid (EBlk (stE w8 w.heap.size zeroE) w.heap.size zeroE ∧ (∃ a c, Rd (stE w8 w.heap.size zeroE) rb a c l6 0) ∧ w.grownBy (stE w8 w.heap.size zeroE) (some rb)) := Lib.hid ⟨bb.store zeroE, ⟨a7, c7, HR7.out.above gs (fun k e => by cases e; omega)⟩, grown_new gg gs⟩
      clear bb gg gs HEr HS7 HR7
      go_wp2
      refine bodyPost_ret (v := .agg #[.string ⟨#[]⟩, .int .i64 0, .int .u16 0, .string ⟨#[]⟩, .int .i64 0]) (by have b5 := HF.out.1; have z0 := b5.c0; have z1 := b5.c1; have z2 := b5.c2; have z3 := b5.c3; have z4 := b5.c4; unfold stE zeroE at z0 z1 z2 z3 z4; simp [results, Tryd.results57, go_sem, z0, z1, z2, z3, z4]) rfl ?_
      exact ⟨by rw [HZ.out]; rfl, HF.out.2⟩
    · have hX2 := HX.out
      rw [if_neg (by omega)] at hX2
      have HX2 := Lib.hid hX2
      clear hX2
      have hwz : IntKind.u16.wrap z3 = z3 := by rw [IntKind.wrap_u16]; omega
      go_wp2_with (go_at_call 72; refine HEr.out.mono ?_; rintro e w8 ⟨rfl, hw8⟩; replace hw8 := Lib.hid hw8; refine Hid.out ?_)
      refine Lib.hid ?_
      obtain rfl := hw8.out
      have dx := (Below.refl w8.heap.size w8).alloc (Nat.le_refl _) (.cells #[.string ⟨s1.toArray⟩, .int .i64 z2, .int .u16 z3, .string ⟨s4.toArray⟩, .int .i64 z5] 48)
      have hCk := eCheck_any ⟨⟨s1.toArray⟩, z2, z3, ⟨s4.toArray⟩, z5⟩ (w8.alloc (.cells #[.string ⟨s1.toArray⟩, .int .i64 z2, .int .u16 z3, .string ⟨s4.toArray⟩, .int .i64 z5] 48))
      have bx := EBlk.new w8 ⟨⟨s1.toArray⟩, z2, z3, ⟨s4.toArray⟩, z5⟩
      obtain ⟨bb, gg, -, -⟩ := HS7.out
      have HB := Lib.hid (And.intro bx (And.intro (bb.on dx) (And.intro gg dx)))
      dsimp only at hCk
      by_cases hck : checkEn ⟨⟨s1.toArray⟩, z2, z3, ⟨s4.toArray⟩, z5⟩ = 0
      · have HZ : Hid (X = ⟨⟨s1.toArray⟩, z2, z3, ⟨s4.toArray⟩, z5⟩) := Lib.hid (by rw [HX2.out, if_neg (by simpa using hck)])
        rw [hck] at hCk
        have HCk := Lib.hid hCk
        clear hCk bx bb gg dx HEr hck k0 k1 k2 k3 k4 f0 f1 f2 f3 f4
        go_wp2_with (go_at_call 47; refine HCk.out.mono ?_; rintro e w9 ⟨rfl, q9⟩; replace q9 := Lib.hid q9; refine Hid.out ?_)
        refine Lib.hid ?_
        obtain ⟨bx, bb, gg, dx⟩ := HB.out
        have bx9 := bx.on q9.out
        have bb9 := bb.on q9.out
        have x0 := bx9.c0; have x1 := bx9.c1; have x2 := bx9.c2; have x3 := bx9.c3; have x4 := bx9.c4
        dsimp only at x0 x1 x2 x3 x4
        have k0 := bb9.c0; have k1 := bb9.c1; have k2 := bb9.c2; have k3 := bb9.c3; have k4 := bb9.c4
        have f0 := bb9.f 0; have f1 := bb9.f 1; have f2 := bb9.f 2; have f3 := bb9.f 3; have f4 := bb9.f 4
        have q8 := dx.trans (q9.out.mono dx.size)
        have gs : w9.grownBy (stE w9 w.heap.size ⟨⟨s1.toArray⟩, z2, z3, ⟨s4.toArray⟩, z5⟩) (some w.heap.size) := grownBy_trans (grownBy_trans (grownBy_trans (grownBy_trans (grownBy_setCell _ _ _ _) (grownBy_setCell _ _ _ _)) (grownBy_setCell _ _ _ _)) (grownBy_setCell _ _ _ _)) (grownBy_setCell _ _ _ _)
        have HF : Hid (EBlk (stE w9 w.heap.size ⟨⟨s1.toArray⟩, z2, z3, ⟨s4.toArray⟩, z5⟩) w.heap.size ⟨⟨s1.toArray⟩, z2, z3, ⟨s4.toArray⟩, z5⟩ ∧ (∃ a c, Rd (stE w9 w.heap.size ⟨⟨s1.toArray⟩, z2, z3, ⟨s4.toArray⟩, z5⟩) rb a c l6 0) ∧ w.grownBy (stE w9 w.heap.size ⟨⟨s1.toArray⟩, z2, z3, ⟨s4.toArray⟩, z5⟩) (some rb)) := Lib.hid ⟨bb9.store ⟨⟨s1.toArray⟩, z2, z3, ⟨s4.toArray⟩, z5⟩, ⟨a7, c7, (HR7.out.below q8).above gs (fun k e => by cases e; omega)⟩, grown_new (grownBy_trans gg (grownBy_of_below q8)) gs⟩
        clear bx bb gg dx bx9 bb9 q8 gs q9 HCk HB HS7 HR7
        go_wp2
        refine bodyPost_ret (v := .agg #[.string ⟨s1.toArray⟩, .int .i64 z2, .int .u16 z3, .string ⟨s4.toArray⟩, .int .i64 z5]) (by have b5 := HF.out.1; have y0 := b5.c0; have y1 := b5.c1; have y2 := b5.c2; have y3 := b5.c3; have y4 := b5.c4; unfold stE at y0 y1 y2 y3 y4; dsimp only at y0 y1 y2 y3 y4; simp [results, Tryd.results57, go_sem, y0, y1, y2, y3, y4]) rfl ?_
        exact ⟨by rw [HZ.out], HF.out.2⟩
      · have HZ : Hid (X = zeroE) := Lib.hid (by rw [HX2.out, if_pos (by simpa using hck)])
        have hcb : ((checkEn ⟨⟨s1.toArray⟩, z2, z3, ⟨s4.toArray⟩, z5⟩ : Int) != 0) = true := by simpa using hck
        generalize checkEn ⟨⟨s1.toArray⟩, z2, z3, ⟨s4.toArray⟩, z5⟩ = CE at *
        have HCk := Lib.hid hCk
        clear hCk bx bb gg dx HEr hck k0 k1 k2 k3 k4 f0 f1 f2 f3 f4
        go_wp2_with (go_at_call 47; refine HCk.out.mono ?_; rintro e w9 ⟨rfl, q9⟩; replace q9 := Lib.hid q9; refine Hid.out ?_)
        refine Lib.hid ?_
        obtain ⟨bx, bb, gg, dx⟩ := HB.out
        have bb9 := bb.on q9.out
        have k0 := bb9.c0; have k1 := bb9.c1; have k2 := bb9.c2; have k3 := bb9.c3; have k4 := bb9.c4
        have f0 := bb9.f 0; have f1 := bb9.f 1; have f2 := bb9.f 2; have f3 := bb9.f 3; have f4 := bb9.f 4
        have q8 := dx.trans (q9.out.mono dx.size)
        have gs : w9.grownBy (stE w9 w.heap.size zeroE) (some w.heap.size) := grownBy_trans (grownBy_trans (grownBy_trans (grownBy_trans (grownBy_setCell _ _ _ _) (grownBy_setCell _ _ _ _)) (grownBy_setCell _ _ _ _)) (grownBy_setCell _ _ _ _)) (grownBy_setCell _ _ _ _)
        have HF : Hid (EBlk (stE w9 w.heap.size zeroE) w.heap.size zeroE ∧ (∃ a c, Rd (stE w9 w.heap.size zeroE) rb a c l6 0) ∧ w.grownBy (stE w9 w.heap.size zeroE) (some rb)) := Lib.hid ⟨bb9.store zeroE, ⟨a7, c7, (HR7.out.below q8).above gs (fun k e => by cases e; omega)⟩, grown_new (grownBy_trans gg (grownBy_of_below q8)) gs⟩
        clear bx bb gg dx bb9 q8 gs q9 HCk HB HS7 HR7
        go_wp2
        refine bodyPost_ret (v := .agg #[.string ⟨#[]⟩, .int .i64 0, .int .u16 0, .string ⟨#[]⟩, .int .i64 0]) (by have b5 := HF.out.1; have y0 := b5.c0; have y1 := b5.c1; have y2 := b5.c2; have y3 := b5.c3; have y4 := b5.c4; unfold stE zeroE at y0 y1 y2 y3 y4; simp [results, Tryd.results57, go_sem, y0, y1, y2, y3, y4]) rfl ?_
        exact ⟨by rw [HZ.out]; rfl, HF.out.2⟩
  · have heb : ((e6 : Int) != 0) = true := by simpa using he
    have HZ : Hid (X = zeroE) := Lib.hid (by rw [HX.out, if_pos (Or.inl he)])
    go_wp2_with (go_at_call 72; refine HEr.out.mono ?_; rintro e w8 ⟨rfl, hw8⟩; replace hw8 := Lib.hid hw8; refine Hid.out ?_)
    refine Lib.hid ?_
    obtain rfl := hw8.out
    obtain ⟨bb, gg, -, -⟩ := HS7.out
    have gs : w8.grownBy (stE w8 w.heap.size zeroE) (some w.heap.size) := grownBy_trans (grownBy_trans (grownBy_trans (grownBy_trans (grownBy_setCell _ _ _ _) (grownBy_setCell _ _ _ _)) (grownBy_setCell _ _ _ _)) (grownBy_setCell _ _ _ _)) (grownBy_setCell _ _ _ _)
    have HF : Hid (EBlk (stE w8 w.heap.size zeroE) w.heap.size zeroE ∧ (∃ a c, Rd (stE w8 w.heap.size zeroE) rb a c l6 e6) ∧ w.grownBy (stE w8 w.heap.size zeroE) (some rb)) := Lib.hid ⟨bb.store zeroE, ⟨a7, c7, HR7.out.above gs (fun k e => by cases e; omega)⟩, grown_new gg gs⟩
    clear bb gg gs HEr HS7 HR7
    go_wp2
    refine bodyPost_ret (v := .agg #[.string ⟨#[]⟩, .int .i64 0, .int .u16 0, .string ⟨#[]⟩, .int .i64 0]) (by have b5 := HF.out.1; have z0 := b5.c0; have z1 := b5.c1; have z2 := b5.c2; have z3 := b5.c3; have z4 := b5.c4; unfold stE zeroE at z0 z1 z2 z3 z4; simp [results, Tryd.results57, go_sem, z0, z1, z2, z3, z4]) rfl ?_
    exact ⟨by rw [HZ.out]; rfl, HF.out.2⟩

end Go.Proofs.YtchhdffehkcecaaDoor
