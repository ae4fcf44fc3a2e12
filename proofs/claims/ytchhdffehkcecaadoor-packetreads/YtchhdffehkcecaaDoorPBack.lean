/-
  The walk of PacketBack: a packet that is put is read as it was; bytes that are read are put so.
-/
import Derived.Test.YtchhdffehkcecaaDoorP11
namespace Go.Proofs.YtchhdffehkcecaaDoor
open Go Go.RowKit

def zeroP : Pk := ⟨0, 0, 0, 0, [], []⟩
/-- What the law holds: the packet, its lists, the bytes. -/
structure BSt (W w : World) (p : Pk) (am : Option Addr) (nm cm : Nat) (ae : Option Addr) (ne ce : Nat) (v : Value) (b : List UInt8) : Prop where
  blk : PkBlk w W.heap.size p.k p.f p.a p.q am nm cm ae ne ce
  ms : MemsAt w am p.ms
  es : EntsAt w ae p.es
  raw : SrcAt w v b
  low : Below W.heap.size W w
theorem BSt.on {W w w' : World} {p : Pk} {am : Option Addr} {nm cm : Nat} {ae : Option Addr} {ne ce : Nat} {v : Value} {b : List UInt8} (h : BSt W w p am nm cm ae ne ce v b) (hb : Below w.heap.size w w') : BSt W w' p am nm cm ae ne ce v b :=
  ⟨h.blk.on hb, h.ms.on hb, h.es.onP hb, h.raw.below hb (Nat.le_refl _), h.low.trans (hb.mono h.low.size)⟩
theorem lay_read {p : Pk} (hp : p.Ok) (hc : checkP p = 0) : readOk (layPk p) := by
  have h := rdPk_lay p hp hc
  refine ⟨by have := (checkP_zero hc).2.2.2.2; omega, by rw [h]; exact hc, by rw [h]⟩
theorem nil_read : ¬ readOk [] := fun h => by
  have h2 := congrArg List.length h.2.2
  unfold layPk at h2
  rw [putList_lenP] at h2
  simp at h2

set_option maxRecDepth 100000 in
set_option maxHeartbeats 4000000 in
theorem pback_a (p : Pk) (hp : p.Ok) (am : Option Addr) (nm cm : Nat) (ae : Option Addr) (ne ce : Nat) (hnm : nm = p.ms.length) (hne : ne = p.es.length) (v : Option Addr) (n c : Nat) (b : List UInt8) (W : World) (hv : VarsOk W.heap.size W) (hM : MemsAt W am p.ms) (hE : EntsAt W ae p.es) (hl1 : p.ms.length ≤ 9223372036854775807) (hl2 : p.es.length ≤ 9223372036854775807) (hs : SrcAt W (.slice v n c) b) (h1 : readOk b) (h2 : checkP p = 0) :
    Calls Tryd.prog 6 #[.agg #[.int .u8 p.k, .int .u16 p.f, .int .u16 p.a, .int .i64 p.q, .slice am nm cm, .slice ae ne ce], .slice v n c] W fun e w' => e = .returned (.bool true) ∧ Below W.heap.size W w' := by
  have HA : Hid (∀ w, Below W.heap.size W w → Calls Tryd.prog 9 #[] w fun e w' => e = .returned (.bool true) ∧ Below w.heap.size w w') := Lib.hid (fun w hw => pawake_any W.heap.size w hw.size (hv.on hw))
  have d1 := (Below.refl W.heap.size W).alloc (Nat.le_refl _) (.cells #[.int .u8 p.k, .int .u16 p.f, .int .u16 p.a, .int .i64 p.q, .slice am nm cm, .slice ae ne ce] 26)
  have s0 : BSt W (W.alloc (.cells #[.int .u8 p.k, .int .u16 p.f, .int .u16 p.a, .int .i64 p.q, .slice am nm cm, .slice ae ne ce] 26)) p am nm cm ae ne ce (.slice v n c) b := ⟨PkBlk.new W _ _ _ _ _ _ _ _ _ _, hM.on d1, hE.onP d1, hs.below d1 (Nat.le_refl _), d1⟩
  have HLi : Hid (∀ w, EntsAt w ae p.es → Calls Tryd.prog 8 #[.agg #[.int .u8 p.k, .int .u16 p.f, .int .u16 p.a, .int .i64 p.q, .slice am nm cm, .slice ae ne ce]] w (LPost nm p.es w)) := Lib.hid (fun w he => yLightP_any p.k p.f p.a p.q am nm cm ae ne ce p.es w hne he)
  have HR1 := Lib.hid (pRead_yes v n c b W.heap.size (W.alloc (.cells #[.int .u8 p.k, .int .u16 p.f, .int .u16 p.a, .int .i64 p.q, .slice am nm cm, .slice ae ne ce] 26)) d1.size (hv.on d1) s0.raw h1.1 h1.2.1 h1.2.2)
  have HQP : Hid (∀ w qm nqm cqm qe nqe cqe, nqm = (rdPk b).ms.length → nqe = (rdPk b).es.length → MemsAt w qm (rdPk b).ms → EntsAt w qe (rdPk b).es → Below W.heap.size W w → Calls Tryd.prog 11 #[.agg #[.int .u8 (rdPk b).k, .int .u16 (rdPk b).f, .int .u16 (rdPk b).a, .int .i64 (rdPk b).q, .slice qm nqm cqm, .slice qe nqe cqe]] w fun e w' => ∃ a n c, e = .returned (.tuple #[.slice a n c, .int .i64 0]) ∧ Own w' w.heap.size (.slice a n c) b ∧ Below w.heap.size w w') := Lib.hid (fun w qm nqm cqm qe nqe cqe e1 e2 m1 m2 hw => by
    have := pPut_ok (rdPk b) (rdPk_ok b) qm nqm cqm qe nqe cqe e1 e2 W.heap.size w hw.size ((hv.on hw).tab) m1 m2 h1.2.1
    rw [h1.2.2] at this
    exact this)
  unfold RYes at HR1
  generalize rdPk b = Q at *
  have HPP : Hid (∀ w, MemsAt w am p.ms → EntsAt w ae p.es → Below W.heap.size W w → Calls Tryd.prog 11 #[.agg #[.int .u8 p.k, .int .u16 p.f, .int .u16 p.a, .int .i64 p.q, .slice am nm cm, .slice ae ne ce]] w fun e w' => ∃ a n c, e = .returned (.tuple #[.slice a n c, .int .i64 0]) ∧ Own w' w.heap.size (.slice a n c) (layPk p) ∧ Below w.heap.size w w') := Lib.hid (fun w m1 m2 hw => pPut_ok p hp am nm cm ae ne ce hnm hne W.heap.size w hw.size ((hv.on hw).tab) m1 m2 h2)
  have HR2 : Hid (∀ w (a : Option Addr) (k c : Nat), SrcAt w (.slice a k c) (layPk p) → Below W.heap.size W w → Calls Tryd.prog 15 #[.slice a k c] w fun e w' => ∃ qm nqm cqm qe nqe cqe, e = .returned (.tuple #[.agg #[.int .u8 p.k, .int .u16 p.f, .int .u16 p.a, .int .i64 p.q, .slice qm nqm cqm, .slice qe nqe cqe], .int .i64 0]) ∧ nqm = p.ms.length ∧ nqe = p.es.length ∧ MemsAt w' qm p.ms ∧ EntsAt w' qe p.es ∧ Below w.heap.size w w') := Lib.hid (fun w a k c h3 hw => by
    obtain ⟨r1, r2, r3⟩ := lay_read hp h2
    have := pRead_yes a k c (layPk p) W.heap.size w hw.size (hv.on hw) h3 r1 r2 r3
    unfold RYes at this
    rw [rdPk_lay p hp h2] at this
    exact this)
  have HSq : Hid (∀ w (qm : Option Addr) (nqm cqm : Nat) (qe : Option Addr) (nqe cqe : Nat), nqm = p.ms.length → nqe = p.es.length → MemsAt w qm p.ms → EntsAt w qe p.es → MemsAt w am p.ms → EntsAt w ae p.es → Calls Tryd.prog 19 #[.agg #[.int .u8 p.k, .int .u16 p.f, .int .u16 p.a, .int .i64 p.q, .slice qm nqm cqm, .slice qe nqe cqe], .agg #[.int .u8 p.k, .int .u16 p.f, .int .u16 p.a, .int .i64 p.q, .slice am nm cm, .slice ae ne ce]] w fun e w' => e = .returned (.bool true) ∧ Below w.heap.size w w') := Lib.hid (fun w qm nqm cqm qe nqe cqe e1 e2 m1 m2 m3 m4 => by
    have := pSame_any p p qm nqm cqm qe nqe cqe am nm cm ae ne ce w e1 e2 hnm hne m1 m2 m3 m4 hl1 hl2
    rw [sameP_refl] at this
    exact this)
  obtain ⟨N, hN⟩ : ∃ N, (layPk p).length = N := ⟨_, rfl⟩
  have g5 : (N : Int) ≤ 16384 := by have := (checkP_zero h2).2.2.2.2; omega
  have HN := Lib.hid hN
  clear hl1 hl2 hN
  generalize layPk p = LP at *
  have HS0 := Lib.hid s0
  clear hp hnm hne hv hM hE hs h1 h2 d1 s0
  go_enter Tryd.func6, Tryd.ntmps6
  go_wp2_with (go_at_call 15; refine HR1.out.mono ?_; rintro e w1 ⟨qm, nqm, cqm, qe, nqe, cqe, rfl, hq1, hq2, hqM, hqE, q1⟩; replace hq1 := Lib.hid hq1; replace hq2 := Lib.hid hq2; refine Hid.out ?_)
  refine Lib.hid ?_
  have qa := (Below.refl w1.heap.size w1).alloc (Nat.le_refl _) (.cells #[.int .u8 Q.k, .int .u16 Q.f, .int .u16 Q.a, .int .i64 Q.q, .slice qm nqm cqm, .slice qe nqe cqe] 26)
  have l1 := PkBlk.new w1 Q.k Q.f Q.a Q.q qm nqm cqm qe nqe cqe
  have s1 := (HS0.out.on q1).on qa
  have x0 := l1.c0; have x1 := l1.c1; have x2 := l1.c2; have x3 := l1.c3; have x4 := l1.c4; have x5 := l1.c5
  have HP1 := Lib.hid (HQP.out _ qm nqm cqm qe nqe cqe hq1.out hq2.out (hqM.on qa) (hqE.onP qa) s1.low)
  have HS1 := Lib.hid s1
  clear HS0 HR1 HQP q1 qa l1 s1 hqM hqE hq1 hq2
  go_wp2_with (go_at_call 11; refine HP1.out.mono ?_; rintro e w2 ⟨a2, n2, c2, rfl, ho2, q2⟩; refine Hid.out ?_)
  refine Lib.hid ?_
  have s2 := HS1.out.on q2
  have hc1 := src_string ho2.src
  have hc2 := src_string s2.raw
  have hKE : ((⟨b.toArray⟩ : ByteArray).toList != (⟨b.toArray⟩ : ByteArray).toList) = false := by simp
  have HS2 := Lib.hid s2
  clear x0 x1 x2 x3 x4 x5 HP1 HS1 q2 ho2 s2
  have x0 := HS2.out.blk.c0; have x1 := HS2.out.blk.c1; have x2 := HS2.out.blk.c2; have x3 := HS2.out.blk.c3; have x4 := HS2.out.blk.c4; have x5 := HS2.out.blk.c5
  generalize (⟨b.toArray⟩ : ByteArray) = K at *
  have HL2 := Lib.hid (HLi.out _ HS2.out.es)
  unfold LPost at HL2
  go_wp2_with (go_at_call 8; refine HL2.out.mono ?_; rintro e w3 ⟨r, rfl, -, q3⟩; refine Hid.out ?_)
  refine Lib.hid ?_
  have HS3 := Lib.hid (HS2.out.on q3)
  clear x0 x1 x2 x3 x4 x5 HS2 HLi HL2 q3 hc1 hc2 hKE
  cases r with
  | false =>
    go_wp2_with (go_at_call 9; refine (HA.out _ HS3.out.low).mono ?_; rintro e w9 ⟨rfl, q9⟩; replace q9 := Lib.hid q9; refine Hid.out ?_)
    refine Lib.hid ?_
    go_wp2
    go_ret
    exact ⟨rfl, HS3.out.low.trans (q9.out.mono HS3.out.low.size)⟩
  | true =>
    have x0 := HS3.out.blk.c0; have x1 := HS3.out.blk.c1; have x2 := HS3.out.blk.c2; have x3 := HS3.out.blk.c3; have x4 := HS3.out.blk.c4; have x5 := HS3.out.blk.c5
    have HP2 := Lib.hid (HPP.out _ HS3.out.ms HS3.out.es HS3.out.low)
    go_wp2_with (go_at_call 11; refine HP2.out.mono ?_; rintro e w4 ⟨a4, n4, c4, rfl, ho4, q4⟩; refine Hid.out ?_)
    refine Lib.hid ?_
    have hn4 : n4 = N := (src_lenP ho4.src).trans HN.out
    subst hn4
    have s4 := HS3.out.on q4
    have HR4 := Lib.hid (HR2.out _ a4 _ c4 ho4.src s4.low)
    have HS4 := Lib.hid s4
    clear x0 x1 x2 x3 x4 x5 HP2 HPP HS3 HR2 ho4 q4 s4
    go_wp2_with (go_at_call 15; refine HR4.out.mono ?_; rintro e w5 ⟨qm2, nqm2, cqm2, qe2, nqe2, cqe2, rfl, hq1, hq2, hqM, hqE, q5⟩; replace hq1 := Lib.hid hq1; replace hq2 := Lib.hid hq2; refine Hid.out ?_)
    refine Lib.hid ?_
    have qa := (Below.refl w5.heap.size w5).alloc (Nat.le_refl _) (.cells #[.int .u8 p.k, .int .u16 p.f, .int .u16 p.a, .int .i64 p.q, .slice qm2 nqm2 cqm2, .slice qe2 nqe2 cqe2] 26)
    have l5 := PkBlk.new w5 p.k p.f p.a p.q qm2 nqm2 cqm2 qe2 nqe2 cqe2
    have s5 := (HS4.out.on q5).on qa
    have y0 := l5.c0; have y1 := l5.c1; have y2 := l5.c2; have y3 := l5.c3; have y4 := l5.c4; have y5 := l5.c5
    have x0 := s5.blk.c0; have x1 := s5.blk.c1; have x2 := s5.blk.c2; have x3 := s5.blk.c3; have x4 := s5.blk.c4; have x5 := s5.blk.c5
    have HSP := Lib.hid (HSq.out _ qm2 nqm2 cqm2 qe2 nqe2 cqe2 hq1.out hq2.out (hqM.on qa) (hqE.onP qa) s5.ms s5.es)
    have HS5 := Lib.hid s5
    clear HS4 HR4 HSq hq1 hq2 hqM hqE q5 qa l5 s5
    go_wp2_with (go_at_call 19; refine HSP.out.mono ?_; rintro e w6 ⟨rfl, q6⟩; refine Hid.out ?_)
    refine Lib.hid ?_
    have HS6 := Lib.hid (HS5.out.on q6)
    clear x0 x1 x2 x3 x4 x5 y0 y1 y2 y3 y4 y5 HSP HS5 q6
    go_wp2_with (go_at_call 9; refine (HA.out _ HS6.out.low).mono ?_; rintro e w9 ⟨rfl, q9⟩; replace q9 := Lib.hid q9; refine Hid.out ?_)
    refine Lib.hid ?_
    go_wp2
    go_ret
    exact ⟨by first | rfl | simp, HS6.out.low.trans (q9.out.mono HS6.out.low.size)⟩
set_option maxRecDepth 100000 in
set_option maxHeartbeats 4000000 in
theorem pback_b (p : Pk) (hp : p.Ok) (am : Option Addr) (nm cm : Nat) (ae : Option Addr) (ne ce : Nat) (hnm : nm = p.ms.length) (hne : ne = p.es.length) (v : Option Addr) (n c : Nat) (b : List UInt8) (W : World) (hv : VarsOk W.heap.size W) (hM : MemsAt W am p.ms) (hE : EntsAt W ae p.es) (hs : SrcAt W (.slice v n c) b) (h1 : readOk b) (h2 : checkP p ≠ 0) :
    Calls Tryd.prog 6 #[.agg #[.int .u8 p.k, .int .u16 p.f, .int .u16 p.a, .int .i64 p.q, .slice am nm cm, .slice ae ne ce], .slice v n c] W fun e w' => e = .returned (.bool true) ∧ Below W.heap.size W w' := by
  have HA : Hid (∀ w, Below W.heap.size W w → Calls Tryd.prog 9 #[] w fun e w' => e = .returned (.bool true) ∧ Below w.heap.size w w') := Lib.hid (fun w hw => pawake_any W.heap.size w hw.size (hv.on hw))
  have d1 := (Below.refl W.heap.size W).alloc (Nat.le_refl _) (.cells #[.int .u8 p.k, .int .u16 p.f, .int .u16 p.a, .int .i64 p.q, .slice am nm cm, .slice ae ne ce] 26)
  have s0 : BSt W (W.alloc (.cells #[.int .u8 p.k, .int .u16 p.f, .int .u16 p.a, .int .i64 p.q, .slice am nm cm, .slice ae ne ce] 26)) p am nm cm ae ne ce (.slice v n c) b := ⟨PkBlk.new W _ _ _ _ _ _ _ _ _ _, hM.on d1, hE.onP d1, hs.below d1 (Nat.le_refl _), d1⟩
  have HLi : Hid (∀ w, EntsAt w ae p.es → Calls Tryd.prog 8 #[.agg #[.int .u8 p.k, .int .u16 p.f, .int .u16 p.a, .int .i64 p.q, .slice am nm cm, .slice ae ne ce]] w (LPost nm p.es w)) := Lib.hid (fun w he => yLightP_any p.k p.f p.a p.q am nm cm ae ne ce p.es w hne he)
  have HR1 := Lib.hid (pRead_yes v n c b W.heap.size (W.alloc (.cells #[.int .u8 p.k, .int .u16 p.f, .int .u16 p.a, .int .i64 p.q, .slice am nm cm, .slice ae ne ce] 26)) d1.size (hv.on d1) s0.raw h1.1 h1.2.1 h1.2.2)
  have HQP : Hid (∀ w qm nqm cqm qe nqe cqe, nqm = (rdPk b).ms.length → nqe = (rdPk b).es.length → MemsAt w qm (rdPk b).ms → EntsAt w qe (rdPk b).es → Below W.heap.size W w → Calls Tryd.prog 11 #[.agg #[.int .u8 (rdPk b).k, .int .u16 (rdPk b).f, .int .u16 (rdPk b).a, .int .i64 (rdPk b).q, .slice qm nqm cqm, .slice qe nqe cqe]] w fun e w' => ∃ a n c, e = .returned (.tuple #[.slice a n c, .int .i64 0]) ∧ Own w' w.heap.size (.slice a n c) b ∧ Below w.heap.size w w') := Lib.hid (fun w qm nqm cqm qe nqe cqe e1 e2 m1 m2 hw => by
    have := pPut_ok (rdPk b) (rdPk_ok b) qm nqm cqm qe nqe cqe e1 e2 W.heap.size w hw.size ((hv.on hw).tab) m1 m2 h1.2.1
    rw [h1.2.2] at this
    exact this)
  unfold RYes at HR1
  generalize rdPk b = Q at *
  have HPP : Hid (∀ w, MemsAt w am p.ms → EntsAt w ae p.es → Below W.heap.size W w → Calls Tryd.prog 11 #[.agg #[.int .u8 p.k, .int .u16 p.f, .int .u16 p.a, .int .i64 p.q, .slice am nm cm, .slice ae ne ce]] w fun e w' => e = .returned (.tuple #[.slice none 0 0, .int .i64 (checkP p)]) ∧ Below w.heap.size w w') := Lib.hid (fun w m1 m2 hw => pPut_err p hp am nm cm ae ne ce hnm hne W.heap.size w hw.size ((hv.on hw).tab) m1 m2 h2)
  have HR2 : Hid (∀ w, Below W.heap.size W w → Calls Tryd.prog 15 #[.slice none 0 0] w fun e w' => e = .returned (.tuple #[.agg #[.int .u8 0, .int .u16 0, .int .u16 0, .int .i64 0, .slice none 0 0, .slice none 0 0], .int .i64 14]) ∧ Below w.heap.size w w') := Lib.hid (fun w hw => pRead_no none 0 0 [] W.heap.size w hw.size (hv.on hw) (.inl ⟨rfl, rfl⟩) nil_read)
  generalize checkP p = E at *
  have g5 : ((E : Int) == 0) = false := by simpa using h2
  have g6 : ((E : Int) != 0) = true := by simpa using h2
  have HS0 := Lib.hid s0
  clear hp hnm hne hv hM hE hs h1 h2 d1 s0
  go_enter Tryd.func6, Tryd.ntmps6
  go_wp2_with (go_at_call 15; refine HR1.out.mono ?_; rintro e w1 ⟨qm, nqm, cqm, qe, nqe, cqe, rfl, hq1, hq2, hqM, hqE, q1⟩; replace hq1 := Lib.hid hq1; replace hq2 := Lib.hid hq2; refine Hid.out ?_)
  refine Lib.hid ?_
  have qa := (Below.refl w1.heap.size w1).alloc (Nat.le_refl _) (.cells #[.int .u8 Q.k, .int .u16 Q.f, .int .u16 Q.a, .int .i64 Q.q, .slice qm nqm cqm, .slice qe nqe cqe] 26)
  have l1 := PkBlk.new w1 Q.k Q.f Q.a Q.q qm nqm cqm qe nqe cqe
  have s1 := (HS0.out.on q1).on qa
  have x0 := l1.c0; have x1 := l1.c1; have x2 := l1.c2; have x3 := l1.c3; have x4 := l1.c4; have x5 := l1.c5
  have HP1 := Lib.hid (HQP.out _ qm nqm cqm qe nqe cqe hq1.out hq2.out (hqM.on qa) (hqE.onP qa) s1.low)
  have HS1 := Lib.hid s1
  clear HS0 HR1 HQP q1 qa l1 s1 hqM hqE hq1 hq2
  go_wp2_with (go_at_call 11; refine HP1.out.mono ?_; rintro e w2 ⟨a2, n2, c2, rfl, ho2, q2⟩; refine Hid.out ?_)
  refine Lib.hid ?_
  have s2 := HS1.out.on q2
  have hc1 := src_string ho2.src
  have hc2 := src_string s2.raw
  have hKE : ((⟨b.toArray⟩ : ByteArray).toList != (⟨b.toArray⟩ : ByteArray).toList) = false := by simp
  have HS2 := Lib.hid s2
  clear x0 x1 x2 x3 x4 x5 HP1 HS1 q2 ho2 s2
  have x0 := HS2.out.blk.c0; have x1 := HS2.out.blk.c1; have x2 := HS2.out.blk.c2; have x3 := HS2.out.blk.c3; have x4 := HS2.out.blk.c4; have x5 := HS2.out.blk.c5
  generalize (⟨b.toArray⟩ : ByteArray) = K at *
  have HL2 := Lib.hid (HLi.out _ HS2.out.es)
  unfold LPost at HL2
  go_wp2_with (go_at_call 8; refine HL2.out.mono ?_; rintro e w3 ⟨r, rfl, -, q3⟩; refine Hid.out ?_)
  refine Lib.hid ?_
  have HS3 := Lib.hid (HS2.out.on q3)
  clear x0 x1 x2 x3 x4 x5 HS2 HLi HL2 q3 hc1 hc2 hKE
  cases r with
  | false =>
    go_wp2_with (go_at_call 9; refine (HA.out _ HS3.out.low).mono ?_; rintro e w9 ⟨rfl, q9⟩; replace q9 := Lib.hid q9; refine Hid.out ?_)
    refine Lib.hid ?_
    go_wp2
    go_ret
    exact ⟨rfl, HS3.out.low.trans (q9.out.mono HS3.out.low.size)⟩
  | true =>
    have x0 := HS3.out.blk.c0; have x1 := HS3.out.blk.c1; have x2 := HS3.out.blk.c2; have x3 := HS3.out.blk.c3; have x4 := HS3.out.blk.c4; have x5 := HS3.out.blk.c5
    have HP2 := Lib.hid (HPP.out _ HS3.out.ms HS3.out.es HS3.out.low)
    go_wp2_with (go_at_call 11; refine HP2.out.mono ?_; rintro e w4 ⟨rfl, q4⟩; refine Hid.out ?_)
    refine Lib.hid ?_
    have HS4 := Lib.hid (HS3.out.on q4)
    have HR4 := Lib.hid (HR2.out _ HS4.out.low)
    clear x0 x1 x2 x3 x4 x5 HP2 HPP HS3 HR2 q4
    go_wp2_with (go_at_call 15; refine HR4.out.mono ?_; rintro e w5 ⟨rfl, q5⟩; refine Hid.out ?_)
    refine Lib.hid ?_
    have qa := (Below.refl w5.heap.size w5).alloc (Nat.le_refl _) (.cells #[.int .u8 0, .int .u16 0, .int .u16 0, .int .i64 0, .slice none 0 0, .slice none 0 0] 26)
    have HS5 := Lib.hid ((HS4.out.on q5).on qa)
    clear HS4 HR4 q5 qa
    go_wp2_with (go_at_call 9; refine (HA.out _ HS5.out.low).mono ?_; rintro e w9 ⟨rfl, q9⟩; replace q9 := Lib.hid q9; refine Hid.out ?_)
    refine Lib.hid ?_
    go_wp2
    go_ret
    exact ⟨by first | rfl | simp, HS5.out.low.trans (q9.out.mono HS5.out.low.size)⟩
set_option maxRecDepth 100000 in
set_option maxHeartbeats 4000000 in
theorem pback_c (p : Pk) (hp : p.Ok) (am : Option Addr) (nm cm : Nat) (ae : Option Addr) (ne ce : Nat) (hnm : nm = p.ms.length) (hne : ne = p.es.length) (v : Option Addr) (n c : Nat) (b : List UInt8) (W : World) (hv : VarsOk W.heap.size W) (hM : MemsAt W am p.ms) (hE : EntsAt W ae p.es) (hl1 : p.ms.length ≤ 9223372036854775807) (hl2 : p.es.length ≤ 9223372036854775807) (hs : SrcAt W (.slice v n c) b) (h1 : ¬ readOk b) (h2 : checkP p = 0) :
    Calls Tryd.prog 6 #[.agg #[.int .u8 p.k, .int .u16 p.f, .int .u16 p.a, .int .i64 p.q, .slice am nm cm, .slice ae ne ce], .slice v n c] W fun e w' => e = .returned (.bool true) ∧ Below W.heap.size W w' := by
  have HA : Hid (∀ w, Below W.heap.size W w → Calls Tryd.prog 9 #[] w fun e w' => e = .returned (.bool true) ∧ Below w.heap.size w w') := Lib.hid (fun w hw => pawake_any W.heap.size w hw.size (hv.on hw))
  have d1 := (Below.refl W.heap.size W).alloc (Nat.le_refl _) (.cells #[.int .u8 p.k, .int .u16 p.f, .int .u16 p.a, .int .i64 p.q, .slice am nm cm, .slice ae ne ce] 26)
  have s0 : BSt W (W.alloc (.cells #[.int .u8 p.k, .int .u16 p.f, .int .u16 p.a, .int .i64 p.q, .slice am nm cm, .slice ae ne ce] 26)) p am nm cm ae ne ce (.slice v n c) b := ⟨PkBlk.new W _ _ _ _ _ _ _ _ _ _, hM.on d1, hE.onP d1, hs.below d1 (Nat.le_refl _), d1⟩
  have HLi : Hid (∀ w, EntsAt w ae p.es → Calls Tryd.prog 8 #[.agg #[.int .u8 p.k, .int .u16 p.f, .int .u16 p.a, .int .i64 p.q, .slice am nm cm, .slice ae ne ce]] w (LPost nm p.es w)) := Lib.hid (fun w he => yLightP_any p.k p.f p.a p.q am nm cm ae ne ce p.es w hne he)
  have HR1 := Lib.hid (pRead_no v n c b W.heap.size (W.alloc (.cells #[.int .u8 p.k, .int .u16 p.f, .int .u16 p.a, .int .i64 p.q, .slice am nm cm, .slice ae ne ce] 26)) d1.size (hv.on d1) s0.raw h1)
  have HSm : Hid (∀ w, Calls Tryd.prog 19 #[.agg #[.int .u8 0, .int .u16 0, .int .u16 0, .int .i64 0, .slice none 0 0, .slice none 0 0], .agg #[.int .u8 0, .int .u16 0, .int .u16 0, .int .i64 0, .slice none 0 0, .slice none 0 0]] w fun e w' => e = .returned (.bool true) ∧ Below w.heap.size w w') := Lib.hid (fun w => by
    have := pSame_any zeroP zeroP none 0 0 none 0 0 none 0 0 none 0 0 w rfl rfl rfl rfl (fun h => absurd h (by decide)) (fun h => absurd h (by decide)) (fun h => absurd h (by decide)) (fun h => absurd h (by decide)) (by decide) (by decide)
    rw [sameP_refl] at this
    exact this)
  have HPP : Hid (∀ w, MemsAt w am p.ms → EntsAt w ae p.es → Below W.heap.size W w → Calls Tryd.prog 11 #[.agg #[.int .u8 p.k, .int .u16 p.f, .int .u16 p.a, .int .i64 p.q, .slice am nm cm, .slice ae ne ce]] w fun e w' => ∃ a n c, e = .returned (.tuple #[.slice a n c, .int .i64 0]) ∧ Own w' w.heap.size (.slice a n c) (layPk p) ∧ Below w.heap.size w w') := Lib.hid (fun w m1 m2 hw => pPut_ok p hp am nm cm ae ne ce hnm hne W.heap.size w hw.size ((hv.on hw).tab) m1 m2 h2)
  have HR2 : Hid (∀ w (a : Option Addr) (k c : Nat), SrcAt w (.slice a k c) (layPk p) → Below W.heap.size W w → Calls Tryd.prog 15 #[.slice a k c] w fun e w' => ∃ qm nqm cqm qe nqe cqe, e = .returned (.tuple #[.agg #[.int .u8 p.k, .int .u16 p.f, .int .u16 p.a, .int .i64 p.q, .slice qm nqm cqm, .slice qe nqe cqe], .int .i64 0]) ∧ nqm = p.ms.length ∧ nqe = p.es.length ∧ MemsAt w' qm p.ms ∧ EntsAt w' qe p.es ∧ Below w.heap.size w w') := Lib.hid (fun w a k c h3 hw => by
    obtain ⟨r1, r2, r3⟩ := lay_read hp h2
    have := pRead_yes a k c (layPk p) W.heap.size w hw.size (hv.on hw) h3 r1 r2 r3
    unfold RYes at this
    rw [rdPk_lay p hp h2] at this
    exact this)
  have HSq : Hid (∀ w (qm : Option Addr) (nqm cqm : Nat) (qe : Option Addr) (nqe cqe : Nat), nqm = p.ms.length → nqe = p.es.length → MemsAt w qm p.ms → EntsAt w qe p.es → MemsAt w am p.ms → EntsAt w ae p.es → Calls Tryd.prog 19 #[.agg #[.int .u8 p.k, .int .u16 p.f, .int .u16 p.a, .int .i64 p.q, .slice qm nqm cqm, .slice qe nqe cqe], .agg #[.int .u8 p.k, .int .u16 p.f, .int .u16 p.a, .int .i64 p.q, .slice am nm cm, .slice ae ne ce]] w fun e w' => e = .returned (.bool true) ∧ Below w.heap.size w w') := Lib.hid (fun w qm nqm cqm qe nqe cqe e1 e2 m1 m2 m3 m4 => by
    have := pSame_any p p qm nqm cqm qe nqe cqe am nm cm ae ne ce w e1 e2 hnm hne m1 m2 m3 m4 hl1 hl2
    rw [sameP_refl] at this
    exact this)
  obtain ⟨N, hN⟩ : ∃ N, (layPk p).length = N := ⟨_, rfl⟩
  have g5 : (N : Int) ≤ 16384 := by have := (checkP_zero h2).2.2.2.2; omega
  have HN := Lib.hid hN
  clear hl1 hl2 hN
  generalize layPk p = LP at *
  have HS0 := Lib.hid s0
  clear hp hnm hne hv hM hE hs h1 h2 d1 s0
  go_enter Tryd.func6, Tryd.ntmps6
  go_wp2_with (go_at_call 15; refine HR1.out.mono ?_; rintro e w1 ⟨rfl, q1⟩; refine Hid.out ?_)
  refine Lib.hid ?_
  have qa := (Below.refl w1.heap.size w1).alloc (Nat.le_refl _) (.cells #[.int .u8 0, .int .u16 0, .int .u16 0, .int .i64 0, .slice none 0 0, .slice none 0 0] 26)
  have l1 := PkBlk.new w1 0 0 0 0 none 0 0 none 0 0
  have s1 := (HS0.out.on q1).on qa
  have x0 := l1.c0; have x1 := l1.c1; have x2 := l1.c2; have x3 := l1.c3; have x4 := l1.c4; have x5 := l1.c5
  have HS1 := Lib.hid s1
  clear HS0 HR1 q1 qa l1 s1
  go_wp2_with (go_at_call 19; refine (HSm.out _).mono ?_; rintro e w2 ⟨rfl, q2⟩; refine Hid.out ?_)
  refine Lib.hid ?_
  have HS2 := Lib.hid (HS1.out.on q2)
  clear x0 x1 x2 x3 x4 x5 HSm HS1 q2
  have x0 := HS2.out.blk.c0; have x1 := HS2.out.blk.c1; have x2 := HS2.out.blk.c2; have x3 := HS2.out.blk.c3; have x4 := HS2.out.blk.c4; have x5 := HS2.out.blk.c5
  have HL2 := Lib.hid (HLi.out _ HS2.out.es)
  unfold LPost at HL2
  go_wp2_with (go_at_call 8; refine HL2.out.mono ?_; rintro e w3 ⟨r, rfl, -, q3⟩; refine Hid.out ?_)
  refine Lib.hid ?_
  have HS3 := Lib.hid (HS2.out.on q3)
  clear x0 x1 x2 x3 x4 x5 HS2 HLi HL2 q3 
  cases r with
  | false =>
    go_wp2_with (go_at_call 9; refine (HA.out _ HS3.out.low).mono ?_; rintro e w9 ⟨rfl, q9⟩; replace q9 := Lib.hid q9; refine Hid.out ?_)
    refine Lib.hid ?_
    go_wp2
    go_ret
    exact ⟨rfl, HS3.out.low.trans (q9.out.mono HS3.out.low.size)⟩
  | true =>
    have x0 := HS3.out.blk.c0; have x1 := HS3.out.blk.c1; have x2 := HS3.out.blk.c2; have x3 := HS3.out.blk.c3; have x4 := HS3.out.blk.c4; have x5 := HS3.out.blk.c5
    have HP2 := Lib.hid (HPP.out _ HS3.out.ms HS3.out.es HS3.out.low)
    go_wp2_with (go_at_call 11; refine HP2.out.mono ?_; rintro e w4 ⟨a4, n4, c4, rfl, ho4, q4⟩; refine Hid.out ?_)
    refine Lib.hid ?_
    have hn4 : n4 = N := (src_lenP ho4.src).trans HN.out
    subst hn4
    have s4 := HS3.out.on q4
    have HR4 := Lib.hid (HR2.out _ a4 _ c4 ho4.src s4.low)
    have HS4 := Lib.hid s4
    clear x0 x1 x2 x3 x4 x5 HP2 HPP HS3 HR2 ho4 q4 s4
    go_wp2_with (go_at_call 15; refine HR4.out.mono ?_; rintro e w5 ⟨qm2, nqm2, cqm2, qe2, nqe2, cqe2, rfl, hq1, hq2, hqM, hqE, q5⟩; replace hq1 := Lib.hid hq1; replace hq2 := Lib.hid hq2; refine Hid.out ?_)
    refine Lib.hid ?_
    have qa := (Below.refl w5.heap.size w5).alloc (Nat.le_refl _) (.cells #[.int .u8 p.k, .int .u16 p.f, .int .u16 p.a, .int .i64 p.q, .slice qm2 nqm2 cqm2, .slice qe2 nqe2 cqe2] 26)
    have l5 := PkBlk.new w5 p.k p.f p.a p.q qm2 nqm2 cqm2 qe2 nqe2 cqe2
    have s5 := (HS4.out.on q5).on qa
    have y0 := l5.c0; have y1 := l5.c1; have y2 := l5.c2; have y3 := l5.c3; have y4 := l5.c4; have y5 := l5.c5
    have x0 := s5.blk.c0; have x1 := s5.blk.c1; have x2 := s5.blk.c2; have x3 := s5.blk.c3; have x4 := s5.blk.c4; have x5 := s5.blk.c5
    have HSP := Lib.hid (HSq.out _ qm2 nqm2 cqm2 qe2 nqe2 cqe2 hq1.out hq2.out (hqM.on qa) (hqE.onP qa) s5.ms s5.es)
    have HS5 := Lib.hid s5
    clear HS4 HR4 HSq hq1 hq2 hqM hqE q5 qa l5 s5
    go_wp2_with (go_at_call 19; refine HSP.out.mono ?_; rintro e w6 ⟨rfl, q6⟩; refine Hid.out ?_)
    refine Lib.hid ?_
    have HS6 := Lib.hid (HS5.out.on q6)
    clear x0 x1 x2 x3 x4 x5 y0 y1 y2 y3 y4 y5 HSP HS5 q6
    go_wp2_with (go_at_call 9; refine (HA.out _ HS6.out.low).mono ?_; rintro e w9 ⟨rfl, q9⟩; replace q9 := Lib.hid q9; refine Hid.out ?_)
    refine Lib.hid ?_
    go_wp2
    go_ret
    exact ⟨by first | rfl | simp, HS6.out.low.trans (q9.out.mono HS6.out.low.size)⟩
set_option maxRecDepth 100000 in
set_option maxHeartbeats 4000000 in
theorem pback_d (p : Pk) (hp : p.Ok) (am : Option Addr) (nm cm : Nat) (ae : Option Addr) (ne ce : Nat) (hnm : nm = p.ms.length) (hne : ne = p.es.length) (v : Option Addr) (n c : Nat) (b : List UInt8) (W : World) (hv : VarsOk W.heap.size W) (hM : MemsAt W am p.ms) (hE : EntsAt W ae p.es) (hs : SrcAt W (.slice v n c) b) (h1 : ¬ readOk b) (h2 : checkP p ≠ 0) :
    Calls Tryd.prog 6 #[.agg #[.int .u8 p.k, .int .u16 p.f, .int .u16 p.a, .int .i64 p.q, .slice am nm cm, .slice ae ne ce], .slice v n c] W fun e w' => e = .returned (.bool true) ∧ Below W.heap.size W w' := by
  have HA : Hid (∀ w, Below W.heap.size W w → Calls Tryd.prog 9 #[] w fun e w' => e = .returned (.bool true) ∧ Below w.heap.size w w') := Lib.hid (fun w hw => pawake_any W.heap.size w hw.size (hv.on hw))
  have d1 := (Below.refl W.heap.size W).alloc (Nat.le_refl _) (.cells #[.int .u8 p.k, .int .u16 p.f, .int .u16 p.a, .int .i64 p.q, .slice am nm cm, .slice ae ne ce] 26)
  have s0 : BSt W (W.alloc (.cells #[.int .u8 p.k, .int .u16 p.f, .int .u16 p.a, .int .i64 p.q, .slice am nm cm, .slice ae ne ce] 26)) p am nm cm ae ne ce (.slice v n c) b := ⟨PkBlk.new W _ _ _ _ _ _ _ _ _ _, hM.on d1, hE.onP d1, hs.below d1 (Nat.le_refl _), d1⟩
  have HLi : Hid (∀ w, EntsAt w ae p.es → Calls Tryd.prog 8 #[.agg #[.int .u8 p.k, .int .u16 p.f, .int .u16 p.a, .int .i64 p.q, .slice am nm cm, .slice ae ne ce]] w (LPost nm p.es w)) := Lib.hid (fun w he => yLightP_any p.k p.f p.a p.q am nm cm ae ne ce p.es w hne he)
  have HR1 := Lib.hid (pRead_no v n c b W.heap.size (W.alloc (.cells #[.int .u8 p.k, .int .u16 p.f, .int .u16 p.a, .int .i64 p.q, .slice am nm cm, .slice ae ne ce] 26)) d1.size (hv.on d1) s0.raw h1)
  have HSm : Hid (∀ w, Calls Tryd.prog 19 #[.agg #[.int .u8 0, .int .u16 0, .int .u16 0, .int .i64 0, .slice none 0 0, .slice none 0 0], .agg #[.int .u8 0, .int .u16 0, .int .u16 0, .int .i64 0, .slice none 0 0, .slice none 0 0]] w fun e w' => e = .returned (.bool true) ∧ Below w.heap.size w w') := Lib.hid (fun w => by
    have := pSame_any zeroP zeroP none 0 0 none 0 0 none 0 0 none 0 0 w rfl rfl rfl rfl (fun h => absurd h (by decide)) (fun h => absurd h (by decide)) (fun h => absurd h (by decide)) (fun h => absurd h (by decide)) (by decide) (by decide)
    rw [sameP_refl] at this
    exact this)
  have HPP : Hid (∀ w, MemsAt w am p.ms → EntsAt w ae p.es → Below W.heap.size W w → Calls Tryd.prog 11 #[.agg #[.int .u8 p.k, .int .u16 p.f, .int .u16 p.a, .int .i64 p.q, .slice am nm cm, .slice ae ne ce]] w fun e w' => e = .returned (.tuple #[.slice none 0 0, .int .i64 (checkP p)]) ∧ Below w.heap.size w w') := Lib.hid (fun w m1 m2 hw => pPut_err p hp am nm cm ae ne ce hnm hne W.heap.size w hw.size ((hv.on hw).tab) m1 m2 h2)
  have HR2 : Hid (∀ w, Below W.heap.size W w → Calls Tryd.prog 15 #[.slice none 0 0] w fun e w' => e = .returned (.tuple #[.agg #[.int .u8 0, .int .u16 0, .int .u16 0, .int .i64 0, .slice none 0 0, .slice none 0 0], .int .i64 14]) ∧ Below w.heap.size w w') := Lib.hid (fun w hw => pRead_no none 0 0 [] W.heap.size w hw.size (hv.on hw) (.inl ⟨rfl, rfl⟩) nil_read)
  generalize checkP p = E at *
  have g5 : ((E : Int) == 0) = false := by simpa using h2
  have g6 : ((E : Int) != 0) = true := by simpa using h2
  have HS0 := Lib.hid s0
  clear hp hnm hne hv hM hE hs h1 h2 d1 s0
  go_enter Tryd.func6, Tryd.ntmps6
  go_wp2_with (go_at_call 15; refine HR1.out.mono ?_; rintro e w1 ⟨rfl, q1⟩; refine Hid.out ?_)
  refine Lib.hid ?_
  have qa := (Below.refl w1.heap.size w1).alloc (Nat.le_refl _) (.cells #[.int .u8 0, .int .u16 0, .int .u16 0, .int .i64 0, .slice none 0 0, .slice none 0 0] 26)
  have l1 := PkBlk.new w1 0 0 0 0 none 0 0 none 0 0
  have s1 := (HS0.out.on q1).on qa
  have x0 := l1.c0; have x1 := l1.c1; have x2 := l1.c2; have x3 := l1.c3; have x4 := l1.c4; have x5 := l1.c5
  have HS1 := Lib.hid s1
  clear HS0 HR1 q1 qa l1 s1
  go_wp2_with (go_at_call 19; refine (HSm.out _).mono ?_; rintro e w2 ⟨rfl, q2⟩; refine Hid.out ?_)
  refine Lib.hid ?_
  have HS2 := Lib.hid (HS1.out.on q2)
  clear x0 x1 x2 x3 x4 x5 HSm HS1 q2
  have x0 := HS2.out.blk.c0; have x1 := HS2.out.blk.c1; have x2 := HS2.out.blk.c2; have x3 := HS2.out.blk.c3; have x4 := HS2.out.blk.c4; have x5 := HS2.out.blk.c5
  have HL2 := Lib.hid (HLi.out _ HS2.out.es)
  unfold LPost at HL2
  go_wp2_with (go_at_call 8; refine HL2.out.mono ?_; rintro e w3 ⟨r, rfl, -, q3⟩; refine Hid.out ?_)
  refine Lib.hid ?_
  have HS3 := Lib.hid (HS2.out.on q3)
  clear x0 x1 x2 x3 x4 x5 HS2 HLi HL2 q3 
  cases r with
  | false =>
    go_wp2_with (go_at_call 9; refine (HA.out _ HS3.out.low).mono ?_; rintro e w9 ⟨rfl, q9⟩; replace q9 := Lib.hid q9; refine Hid.out ?_)
    refine Lib.hid ?_
    go_wp2
    go_ret
    exact ⟨rfl, HS3.out.low.trans (q9.out.mono HS3.out.low.size)⟩
  | true =>
    have x0 := HS3.out.blk.c0; have x1 := HS3.out.blk.c1; have x2 := HS3.out.blk.c2; have x3 := HS3.out.blk.c3; have x4 := HS3.out.blk.c4; have x5 := HS3.out.blk.c5
    have HP2 := Lib.hid (HPP.out _ HS3.out.ms HS3.out.es HS3.out.low)
    go_wp2_with (go_at_call 11; refine HP2.out.mono ?_; rintro e w4 ⟨rfl, q4⟩; refine Hid.out ?_)
    refine Lib.hid ?_
    have HS4 := Lib.hid (HS3.out.on q4)
    have HR4 := Lib.hid (HR2.out _ HS4.out.low)
    clear x0 x1 x2 x3 x4 x5 HP2 HPP HS3 HR2 q4
    go_wp2_with (go_at_call 15; refine HR4.out.mono ?_; rintro e w5 ⟨rfl, q5⟩; refine Hid.out ?_)
    refine Lib.hid ?_
    have qa := (Below.refl w5.heap.size w5).alloc (Nat.le_refl _) (.cells #[.int .u8 0, .int .u16 0, .int .u16 0, .int .i64 0, .slice none 0 0, .slice none 0 0] 26)
    have HS5 := Lib.hid ((HS4.out.on q5).on qa)
    clear HS4 HR4 q5 qa
    go_wp2_with (go_at_call 9; refine (HA.out _ HS5.out.low).mono ?_; rintro e w9 ⟨rfl, q9⟩; replace q9 := Lib.hid q9; refine Hid.out ?_)
    refine Lib.hid ?_
    go_wp2
    go_ret
    exact ⟨by first | rfl | simp, HS5.out.low.trans (q9.out.mono HS5.out.low.size)⟩

theorem pback_walk (p : Pk) (hp : p.Ok) (am : Option Addr) (nm cm : Nat) (ae : Option Addr) (ne ce : Nat) (hnm : nm = p.ms.length) (hne : ne = p.es.length) (v : Option Addr) (n c : Nat) (b : List UInt8) (W : World) (hv : VarsOk W.heap.size W) (hM : MemsAt W am p.ms) (hE : EntsAt W ae p.es) (hl1 : p.ms.length ≤ 9223372036854775807) (hl2 : p.es.length ≤ 9223372036854775807) (hs : SrcAt W (.slice v n c) b) :
    Calls Tryd.prog 6 #[.agg #[.int .u8 p.k, .int .u16 p.f, .int .u16 p.a, .int .i64 p.q, .slice am nm cm, .slice ae ne ce], .slice v n c] W fun e w' => e = .returned (.bool true) ∧ Below W.heap.size W w' := by
  by_cases h1 : readOk b
  · by_cases h2 : checkP p = 0
    · exact pback_a p hp am nm cm ae ne ce hnm hne v n c b W hv hM hE hl1 hl2 hs h1 h2
    · exact pback_b p hp am nm cm ae ne ce hnm hne v n c b W hv hM hE hs h1 h2
  · by_cases h2 : checkP p = 0
    · exact pback_c p hp am nm cm ae ne ce hnm hne v n c b W hv hM hE hl1 hl2 hs h1 h2
    · exact pback_d p hp am nm cm ae ne ce hnm hne v n c b W hv hM hE hs h1 h2

end Go.Proofs.YtchhdffehkcecaaDoor
