/-
  What Read of the reference tells.
-/
import Derived.Test.YtchhdffehkcecaaDoorP18
namespace Go.Proofs.YtchhdffehkcecaaDoor
open Go Go.RowKit

set_option maxRecDepth 100000 in
set_option maxHeartbeats 16000000 in
theorem yRead_long (W : World) (a : Option Addr) (n c : Nat) (b : List UInt8) (hn : n = b.length) (hl : 16384 < n) :
    Calls Tryd.prog 16 #[.slice a n c] W (YrPost W b) := by
  have g1 : (16384 : Int) < (n : Int) := by omega
  have d1 := (Below.refl W.heap.size W).alloc (Nat.le_refl _) (.cells #[.int .u8 0, .int .u16 0, .int .u16 0, .int .i64 0, .slice none 0 0, .slice none 0 0] 26)
  have b1 := PkBlk.new W 0 0 0 0 none 0 0 none 0 0
  have x0 := b1.c0; have x1 := b1.c1; have x2 := b1.c2; have x3 := b1.c3; have x4 := b1.c4; have x5 := b1.c5; have f0 := b1.f 0; have f1 := b1.f 1; have f2 := b1.f 2; have f3 := b1.f 3; have f4 := b1.f 4; have f5 := b1.f 5
  have HN := Lib.hid (show ¬ readOk b from fun h => by have := h.1; omega)
  have HF := Lib.hid (And.intro b1 d1)
  clear d1 b1 hn hl
  go_enter Tryd.func16, Tryd.ntmps16
  go_wp2
  refine bodyPost_ret (v := .tuple #[.agg #[.int .u8 0, .int .u16 0, .int .u16 0, .int .i64 0, .slice none 0 0, .slice none 0 0], .int .i64 14]) (by obtain ⟨hf, -⟩ := HF.out; have k0 := hf.c0; have k1 := hf.c1; have k2 := hf.c2; have k3 := hf.c3; have k4 := hf.c4; have k5 := hf.c5; simp [results, Tryd.results16, go_sem, k0, k1, k2, k3, k4, k5]) rfl ?_
  exact YrPost.no HN.out HF.out.2
set_option maxRecDepth 100000 in
set_option maxHeartbeats 16000000 in
theorem yRead_main (W : World) (a : Option Addr) (c n : Nat) (b : List UInt8) (hn : n = b.length) (hl : n ≤ 16384) (hx : XW W a c b 0) (hs : SrcAt W (.slice a n c) b) (hv : VarsOk W.heap.size W) :
    Calls Tryd.prog 16 #[.slice a n c] W (YrPost W b) := by
  obtain ⟨iM, hiM, hzM⟩ : ∃ i, Tryd.prog.info? 45 = some i ∧ (i.zero, i.size, i.bytes) = (some (.agg #[.int .u16 0, .int .u8 0, .int .i64 0]), 3, 16) := by
    have h := infoMx
    cases hq : Tryd.prog.info? 45 with
    | none => rw [hq] at h; cases h
    | some i => rw [hq] at h; exact ⟨i, rfl, by simpa using h⟩
  obtain ⟨iE, hiE, hzE⟩ : ∃ i, Tryd.prog.info? 48 = some i ∧ (i.zero, i.size, i.bytes) = (some (.agg #[.string ⟨#[]⟩, .int .i64 0, .int .u16 0, .string ⟨#[]⟩, .int .i64 0]), 5, 56) := by
    have h := infoEx
    cases hq : Tryd.prog.info? 48 with
    | none => rw [hq] at h; cases h
    | some i => rw [hq] at h; exact ⟨i, rfl, by simpa using h⟩
  have HI := Lib.hid (And.intro hiM (And.intro hzM (And.intro hiE hzE)))
  obtain ⟨l0, e0, h0⟩ : ∃ l0 e0, byteE 108 0 b = (l0, e0) := ⟨_, _, rfl⟩
  obtain ⟨l1, e1, n0, h1⟩ : ∃ l1 e1 n0, intE e0 l0 = (l1, e1, n0) := ⟨_, _, _, rfl⟩
  obtain ⟨l2, e2, n1, h2⟩ : ∃ l2 e2 n1, intE e1 l1 = (l2, e2, n1) := ⟨_, _, _, rfl⟩
  obtain ⟨l3, e3, n2, h3⟩ : ∃ l3 e3 n2, intE e2 l2 = (l3, e3, n2) := ⟨_, _, _, rfl⟩
  obtain ⟨l4, e4, n3, h4⟩ : ∃ l4 e4 n3, intE e3 l3 = (l4, e4, n3) := ⟨_, _, _, rfl⟩
  obtain ⟨l5, e5, h5⟩ : ∃ l5 e5, byteE 108 e4 l4 = (l5, e5) := ⟨_, _, rfl⟩
  have HK := Lib.hid (fun h : readOk b => yr_head h h0 h1 h2 h3 h4 h5)
  have HT := Lib.hid (And.intro h0 (And.intro h1 (And.intro h2 (And.intro h3 (And.intro h4 h5)))))
  have HR3 := Lib.hid (intE_range h4)
  have HL5 : Hid (l5.length ≤ 16384) := Lib.hid (by have a0 := (byteE_err h0).2; have a1 := (intE_err h1).2; have a2 := (intE_err h2).2; have a3 := (intE_err h3).2; have a4 := (intE_err h4).2; have a5 := (byteE_err h5).2; omega)
  clear h0 h1 h2 h3 h4 h5 hiM hzM hiE hzE
  have d1 := (Below.refl W.heap.size W).alloc (Nat.le_refl _) (.cells #[.int .u8 0, .int .u16 0, .int .u16 0, .int .i64 0, .slice none 0 0, .slice none 0 0] 26)
  have d2 := d1.alloc (by simp) (.cells #[.int .u8 0, .int .u16 0, .int .u16 0, .int .i64 0, .slice none 0 0, .slice none 0 0] 26)
  have d3 := d2.alloc (by simp; omega) (.cells #[.int .i64 0, .int .i64 0, .int .i64 0, .int .i64 0] 63)
  have f2 := (Below.refl (W.alloc (.cells #[.int .u8 0, .int .u16 0, .int .u16 0, .int .i64 0, .slice none 0 0, .slice none 0 0] 26)).heap.size (W.alloc (.cells #[.int .u8 0, .int .u16 0, .int .u16 0, .int .i64 0, .slice none 0 0, .slice none 0 0] 26))).alloc (Nat.le_refl _) (.cells #[.int .u8 0, .int .u16 0, .int .u16 0, .int .i64 0, .slice none 0 0, .slice none 0 0] 26)
  have f3 := (Below.refl ((W.alloc (.cells #[.int .u8 0, .int .u16 0, .int .u16 0, .int .i64 0, .slice none 0 0, .slice none 0 0] 26)).alloc (.cells #[.int .u8 0, .int .u16 0, .int .u16 0, .int .i64 0, .slice none 0 0, .slice none 0 0] 26)).heap.size ((W.alloc (.cells #[.int .u8 0, .int .u16 0, .int .u16 0, .int .i64 0, .slice none 0 0, .slice none 0 0] 26)).alloc (.cells #[.int .u8 0, .int .u16 0, .int .u16 0, .int .i64 0, .slice none 0 0, .slice none 0 0] 26))).alloc (Nat.le_refl _) (.cells #[.int .i64 0, .int .i64 0, .int .i64 0, .int .i64 0] 63)
  have b1 := ((PkBlk.new W 0 0 0 0 none 0 0 none 0 0).on f2).on f3
  have b2 := (PkBlk.new (W.alloc (.cells #[.int .u8 0, .int .u16 0, .int .u16 0, .int .i64 0, .slice none 0 0, .slice none 0 0] 26)) 0 0 0 0 none 0 0 none 0 0).on f3
  have b3 := Four.new ((W.alloc (.cells #[.int .u8 0, .int .u16 0, .int .u16 0, .int .i64 0, .slice none 0 0, .slice none 0 0] 26)).alloc (.cells #[.int .u8 0, .int .u16 0, .int .u16 0, .int .i64 0, .slice none 0 0, .slice none 0 0] 26)) 0 0 0 0
  rw [World.size_alloc] at b2
  rw [World.size_alloc, World.size_alloc] at b3
  have g1 : ¬ (16384 : Int) < (n : Int) := by omega
  have HZ := Lib.hid (And.intro b1 (And.intro b2 (And.intro b3 d3)))
  have HX := Lib.hid hx
  have HV := Lib.hid hv
  have HBs := Lib.hid hs
  have hC := refByteW 108 hx d3 HT.out.1
  rw [← hn] at hC
  have HC0 := Lib.hid hC
  clear d1 d2 d3 f2 f3 b1 b2 b3 hx hs hv hC hn hl
  go_enter Tryd.func16, Tryd.ntmps16
  go_wp2_with (go_at_call 33; refine HC0.out.mono ?_; rintro r w1 ⟨a1, c1, rfl, x1, q1⟩; refine Hid.out ?_)
  refine Lib.hid ?_
  have qr := (Below.refl w1.heap.size w1).alloc (Nat.le_refl _) (.cells #[.slice a1 l0.length c1, .int .i64 e0] 65)
  have st : YrSt W (w1.alloc (.cells #[.slice a1 l0.length c1, .int .i64 e0] 65)) w1.heap.size a1 c1 l0 e0 0 0 0 0 none 0 0 none 0 0 0 0 0 0 [] :=
    ⟨(HZ.out.1.on q1).on qr, (HZ.out.2.1.on q1).on qr, (HZ.out.2.2.1.on q1).on qr, Two.new _ _ _ _, x1, Nat.lt_of_lt_of_le HZ.out.2.2.1.lt q1.size, OwnMx.nil _ _, rfl, (HZ.out.2.2.2.trans (q1.mono HZ.out.2.2.2.size)).trans (qr.mono (HZ.out.2.2.2.trans (q1.mono HZ.out.2.2.2.size)).size)⟩
  have HS0 := Lib.hid st
  have HC1 := Lib.hid (refIntW st.xs st.low HT.out.2.1)
  have r0 := st.rd.c0; have r1 := st.rd.c1
  clear HC0 HZ HX x1 q1 qr st
  go_wp2
  refine wp_loop_rounds 5 ?_
  rw [rounds_succ]
  go_wp2_with (go_at_call 34; refine HC1.out.mono ?_; rintro r w2 ⟨a2, c2, rfl, x2, q2⟩; refine Hid.out ?_)
  refine Lib.hid ?_
  have sw := HS0.out.on q2
  clear r0 r1 HC1 HS0 q2 
  generalize w1.heap.size = R at *
  have z0 := sw.rd.c0; have z1 := sw.rd.c1; have z2 := sw.rd.fr; have hrl := sw.rd.lt; have hlt := sw.lt
  have v0 := sw.nv.c0; have v1 := sw.nv.f 0; have hnl := sw.nv.lt
  have p1 := sw.put x2
  have st := p1.num 0 (.int .i64 n0) (p1.nv.set0 n0)
  have y0 := st.nv.c0
  have HS1 := Lib.hid st
  clear sw p1 x2
  by_cases g0a : n0 < 0
  · have t0 := st.zr.c0; have t1 := st.zr.c1; have t2 := st.zr.c2; have t3 := st.zr.c3; have t4 := st.zr.c4; have t5 := st.zr.c5; have t6 := st.zr.f 0; have t7 := st.zr.f 1; have t8 := st.zr.f 2; have t9 := st.zr.f 3; have t10 := st.zr.f 4; have t11 := st.zr.f 5; have t12 := st.zr.lt
    have HF := Lib.hid st.none_
    go_wp2
    unfold stP at HF
    refine bodyPost_ret (v := .tuple #[.agg #[.int .u8 0, .int .u16 0, .int .u16 0, .int .i64 0, .slice none 0 0, .slice none 0 0], .int .i64 14]) (by obtain ⟨hf, -⟩ := HF.out; have k0 := hf.c0; have k1 := hf.c1; have k2 := hf.c2; have k3 := hf.c3; have k4 := hf.c4; have k5 := hf.c5; simp [results, Tryd.results16, go_sem, k0, k1, k2, k3, k4, k5]) rfl ?_
    exact YrPost.no (fun h => by have h9 := (HK.out h).2.2.2.2.1; omega) HF.out.2
  by_cases g0b : 255 < n0
  · have t0 := st.zr.c0; have t1 := st.zr.c1; have t2 := st.zr.c2; have t3 := st.zr.c3; have t4 := st.zr.c4; have t5 := st.zr.c5; have t6 := st.zr.f 0; have t7 := st.zr.f 1; have t8 := st.zr.f 2; have t9 := st.zr.f 3; have t10 := st.zr.f 4; have t11 := st.zr.f 5; have t12 := st.zr.lt
    have HF := Lib.hid st.none_
    go_wp2
    unfold stP at HF
    refine bodyPost_ret (v := .tuple #[.agg #[.int .u8 0, .int .u16 0, .int .u16 0, .int .i64 0, .slice none 0 0, .slice none 0 0], .int .i64 14]) (by obtain ⟨hf, -⟩ := HF.out; have k0 := hf.c0; have k1 := hf.c1; have k2 := hf.c2; have k3 := hf.c3; have k4 := hf.c4; have k5 := hf.c5; simp [results, Tryd.results16, go_sem, k0, k1, k2, k3, k4, k5]) rfl ?_
    exact YrPost.no (fun h => by have h9 := (HK.out h).2.2.2.2.1; omega) HF.out.2
  have r0 := st.rd.c0; have r1 := st.rd.c1
  have HC2 := Lib.hid (refIntW st.xs st.low HT.out.2.2.1)
  clear st
  go_wp2
  rw [rounds_succ]
  go_wp2_with (go_at_call 34; refine HC2.out.mono ?_; rintro r w3 ⟨a3, c3, rfl, x3, q3⟩; refine Hid.out ?_)
  refine Lib.hid ?_
  have sw := HS1.out.on q3
  clear r0 r1 HC2 HS1 q3 z0 z1 z2 hrl hlt v0 v1 hnl y0
  skip
  have z0 := sw.rd.c0; have z1 := sw.rd.c1; have z2 := sw.rd.fr; have hrl := sw.rd.lt; have hlt := sw.lt
  have v0 := sw.nv.c1; have v1 := sw.nv.f 1; have hnl := sw.nv.lt
  have p1 := sw.put x3
  have st := p1.num 1 (.int .i64 n1) (p1.nv.set1 n1)
  have y0 := st.nv.c1
  have HS2 := Lib.hid st
  clear sw p1 x3
  by_cases g1a : n1 < 0
  · have t0 := st.zr.c0; have t1 := st.zr.c1; have t2 := st.zr.c2; have t3 := st.zr.c3; have t4 := st.zr.c4; have t5 := st.zr.c5; have t6 := st.zr.f 0; have t7 := st.zr.f 1; have t8 := st.zr.f 2; have t9 := st.zr.f 3; have t10 := st.zr.f 4; have t11 := st.zr.f 5; have t12 := st.zr.lt
    have HF := Lib.hid st.none_
    go_wp2
    unfold stP at HF
    refine bodyPost_ret (v := .tuple #[.agg #[.int .u8 0, .int .u16 0, .int .u16 0, .int .i64 0, .slice none 0 0, .slice none 0 0], .int .i64 14]) (by obtain ⟨hf, -⟩ := HF.out; have k0 := hf.c0; have k1 := hf.c1; have k2 := hf.c2; have k3 := hf.c3; have k4 := hf.c4; have k5 := hf.c5; simp [results, Tryd.results16, go_sem, k0, k1, k2, k3, k4, k5]) rfl ?_
    exact YrPost.no (fun h => by have h9 := (HK.out h).2.2.2.2.2.1; omega) HF.out.2
  by_cases g1b : 255 < n1
  · have t0 := st.zr.c0; have t1 := st.zr.c1; have t2 := st.zr.c2; have t3 := st.zr.c3; have t4 := st.zr.c4; have t5 := st.zr.c5; have t6 := st.zr.f 0; have t7 := st.zr.f 1; have t8 := st.zr.f 2; have t9 := st.zr.f 3; have t10 := st.zr.f 4; have t11 := st.zr.f 5; have t12 := st.zr.lt
    have HF := Lib.hid st.none_
    go_wp2
    unfold stP at HF
    refine bodyPost_ret (v := .tuple #[.agg #[.int .u8 0, .int .u16 0, .int .u16 0, .int .i64 0, .slice none 0 0, .slice none 0 0], .int .i64 14]) (by obtain ⟨hf, -⟩ := HF.out; have k0 := hf.c0; have k1 := hf.c1; have k2 := hf.c2; have k3 := hf.c3; have k4 := hf.c4; have k5 := hf.c5; simp [results, Tryd.results16, go_sem, k0, k1, k2, k3, k4, k5]) rfl ?_
    exact YrPost.no (fun h => by have h9 := (HK.out h).2.2.2.2.2.1; omega) HF.out.2
  have r0 := st.rd.c0; have r1 := st.rd.c1
  have HC3 := Lib.hid (refIntW st.xs st.low HT.out.2.2.2.1)
  clear st
  go_wp2
  rw [rounds_succ]
  go_wp2_with (go_at_call 34; refine HC3.out.mono ?_; rintro r w4 ⟨a4, c4, rfl, x4, q4⟩; refine Hid.out ?_)
  refine Lib.hid ?_
  have sw := HS2.out.on q4
  clear r0 r1 HC3 HS2 q4 z0 z1 z2 hrl hlt v0 v1 hnl y0
  skip
  have z0 := sw.rd.c0; have z1 := sw.rd.c1; have z2 := sw.rd.fr; have hrl := sw.rd.lt; have hlt := sw.lt
  have v0 := sw.nv.c2; have v1 := sw.nv.f 2; have hnl := sw.nv.lt
  have p1 := sw.put x4
  have st := p1.num 2 (.int .i64 n2) (p1.nv.set2 n2)
  have y0 := st.nv.c2
  have HS3 := Lib.hid st
  clear sw p1 x4
  by_cases g2a : n2 < 0
  · have t0 := st.zr.c0; have t1 := st.zr.c1; have t2 := st.zr.c2; have t3 := st.zr.c3; have t4 := st.zr.c4; have t5 := st.zr.c5; have t6 := st.zr.f 0; have t7 := st.zr.f 1; have t8 := st.zr.f 2; have t9 := st.zr.f 3; have t10 := st.zr.f 4; have t11 := st.zr.f 5; have t12 := st.zr.lt
    have HF := Lib.hid st.none_
    go_wp2
    unfold stP at HF
    refine bodyPost_ret (v := .tuple #[.agg #[.int .u8 0, .int .u16 0, .int .u16 0, .int .i64 0, .slice none 0 0, .slice none 0 0], .int .i64 14]) (by obtain ⟨hf, -⟩ := HF.out; have k0 := hf.c0; have k1 := hf.c1; have k2 := hf.c2; have k3 := hf.c3; have k4 := hf.c4; have k5 := hf.c5; simp [results, Tryd.results16, go_sem, k0, k1, k2, k3, k4, k5]) rfl ?_
    exact YrPost.no (fun h => by have h9 := (HK.out h).2.2.2.2.2.2.1; omega) HF.out.2
  by_cases g2b : 255 < n2
  · have t0 := st.zr.c0; have t1 := st.zr.c1; have t2 := st.zr.c2; have t3 := st.zr.c3; have t4 := st.zr.c4; have t5 := st.zr.c5; have t6 := st.zr.f 0; have t7 := st.zr.f 1; have t8 := st.zr.f 2; have t9 := st.zr.f 3; have t10 := st.zr.f 4; have t11 := st.zr.f 5; have t12 := st.zr.lt
    have HF := Lib.hid st.none_
    go_wp2
    unfold stP at HF
    refine bodyPost_ret (v := .tuple #[.agg #[.int .u8 0, .int .u16 0, .int .u16 0, .int .i64 0, .slice none 0 0, .slice none 0 0], .int .i64 14]) (by obtain ⟨hf, -⟩ := HF.out; have k0 := hf.c0; have k1 := hf.c1; have k2 := hf.c2; have k3 := hf.c3; have k4 := hf.c4; have k5 := hf.c5; simp [results, Tryd.results16, go_sem, k0, k1, k2, k3, k4, k5]) rfl ?_
    exact YrPost.no (fun h => by have h9 := (HK.out h).2.2.2.2.2.2.1; omega) HF.out.2
  have r0 := st.rd.c0; have r1 := st.rd.c1
  have HC4 := Lib.hid (refIntW st.xs st.low HT.out.2.2.2.2.1)
  clear st
  go_wp2
  rw [rounds_succ]
  go_wp2_with (go_at_call 34; refine HC4.out.mono ?_; rintro r w5 ⟨a5, c5, rfl, x5, q5⟩; refine Hid.out ?_)
  refine Lib.hid ?_
  have sw := HS3.out.on q5
  clear r0 r1 HC4 HS3 q5 z0 z1 z2 hrl hlt v0 v1 hnl y0
  skip
  have z0 := sw.rd.c0; have z1 := sw.rd.c1; have z2 := sw.rd.fr; have hrl := sw.rd.lt; have hlt := sw.lt
  have v0 := sw.nv.c3; have v1 := sw.nv.f 3; have hnl := sw.nv.lt
  have p1 := sw.put x5
  have st := p1.num 3 (.int .i64 n3) (p1.nv.set3 n3)
  have y0 := st.nv.c3
  have HS4 := Lib.hid st
  clear sw p1 x5
  by_cases g3a : n3 < 0
  · have t0 := st.zr.c0; have t1 := st.zr.c1; have t2 := st.zr.c2; have t3 := st.zr.c3; have t4 := st.zr.c4; have t5 := st.zr.c5; have t6 := st.zr.f 0; have t7 := st.zr.f 1; have t8 := st.zr.f 2; have t9 := st.zr.f 3; have t10 := st.zr.f 4; have t11 := st.zr.f 5; have t12 := st.zr.lt
    have HF := Lib.hid st.none_
    go_wp2
    unfold stP at HF
    refine bodyPost_ret (v := .tuple #[.agg #[.int .u8 0, .int .u16 0, .int .u16 0, .int .i64 0, .slice none 0 0, .slice none 0 0], .int .i64 14]) (by obtain ⟨hf, -⟩ := HF.out; have k0 := hf.c0; have k1 := hf.c1; have k2 := hf.c2; have k3 := hf.c3; have k4 := hf.c4; have k5 := hf.c5; simp [results, Tryd.results16, go_sem, k0, k1, k2, k3, k4, k5]) rfl ?_
    exact YrPost.no (fun h => by have h9 := (HK.out h).2.2.2.2.2.2.2.1; omega) HF.out.2
  have r0 := st.rd.c0; have r1 := st.rd.c1
  clear st
  go_wp2
  rw [rounds_succ]
  go_wp2_with fail
  have st := HS4.out
  clear HS4 z0 z1 z2 hrl hlt v0 v1 hnl y0 r0 r1
  have u8w : IntKind.u8.wrap n0 = n0 := by rw [IntKind.wrap_u8]; omega
  have u16w1 : IntKind.u16.wrap n1 = n1 := by rw [IntKind.wrap_u16]; omega
  have u16w2 : IntKind.u16.wrap n2 = n2 := by rw [IntKind.wrap_u16]; omega
  have pA := st.pkt 0 (.int .u8 n0) (st.pv.set0 n0) st.om st.hm
  have pB := pA.pkt 1 (.int .u16 n1) (pA.pv.set1 n1) pA.om pA.hm
  have pC := pB.pkt 2 (.int .u16 n2) (pB.pv.set2 n2) pB.om pB.hm
  have pD := pC.pkt 3 (.int .i64 n3) (pC.pv.set3 n3) pC.om pC.hm
  have x0 := st.pv.c0; have x1 := st.pv.c1; have x2 := st.pv.c2; have x3 := st.pv.c3; have f0 := st.pv.f 0; have f1 := st.pv.f 1; have f2 := st.pv.f 2; have f3 := st.pv.f 3; have hpl := st.pv.lt
  have HA := Lib.hid pA.nv; have HB := Lib.hid pB.nv; have HCC := Lib.hid pC.nv; have HDD := Lib.hid pD.nv
  have HN4 := Lib.hid st.nv
  have r0 := pD.rd.c0; have r1 := pD.rd.c1
  have pE := pD.on (Below.refl _ _).drew
  have HSD := Lib.hid pE
  have HC5 := Lib.hid (refByteW 108 pE.xs pE.low HT.out.2.2.2.2.2)
  clear st pA pB pC pD pE
  refine wp_region_any (by kernel_rfl) ?_
  change wpAny _ _ _ _ _ _ _ (World.drew _)
  have hS := HN4.out.drewn
  refine wpAny_of_held (S := fun w' => Four w' (W.heap.size + 2) n0 n1 n2 n3) _ _ _ _ ?_
  clear HN4
  refine wpAnyH_takeE (i := 0) (some 46) (v := ?_) rfl rfl (by as_aux_lemma => kernel_rfl) (by as_aux_lemma => kernel_rfl) (by as_aux_lemma => kernel_rfl) (fun _ _ _ h => h) (Or.inl ⟨by kernel_rfl, ?_⟩) hS ?_
  rotate_left
  · intro w hSw; have y0 := hSw.c0; have y1 := hSw.c1; have y2 := hSw.c2; have y3 := hSw.c3; go_simp
    first | done | with_reducible rfl
  refine wpAnyH_takeE (i := 1) (some 47) (v := ?_) rfl rfl (by as_aux_lemma => kernel_rfl) (by as_aux_lemma => kernel_rfl) (by as_aux_lemma => kernel_rfl) (fun _ _ _ h => h) (Or.inl ⟨by kernel_rfl, ?_⟩) hS ?_
  rotate_left
  · intro w hSw; have y0 := hSw.c0; have y1 := hSw.c1; have y2 := hSw.c2; have y3 := hSw.c3; go_simp
    first | done | with_reducible rfl
  refine wpAnyH_takeE (i := 2) (some 48) (v := ?_) rfl rfl (by as_aux_lemma => kernel_rfl) (by as_aux_lemma => kernel_rfl) (by as_aux_lemma => kernel_rfl) (fun _ _ _ h => h) (Or.inl ⟨by kernel_rfl, ?_⟩) hS ?_
  rotate_left
  · intro w hSw; have y0 := hSw.c0; have y1 := hSw.c1; have y2 := hSw.c2; have y3 := hSw.c3; go_simp
    first | done | with_reducible rfl
  refine wpAnyH_takeE (i := 3) (some 49) (v := ?_) rfl rfl (by as_aux_lemma => kernel_rfl) (by as_aux_lemma => kernel_rfl) (by as_aux_lemma => kernel_rfl) (fun _ _ _ h => h) (Or.inl ⟨by kernel_rfl, ?_⟩) hS ?_
  rotate_left
  · intro w hSw; have y0 := hSw.c0; have y1 := hSw.c1; have y2 := hSw.c2; have y3 := hSw.c3; go_simp
    first | done | with_reducible rfl
  refine wpAnyH_takeE (i := 4) (some 50) (v := ?_) rfl rfl (by as_aux_lemma => kernel_rfl) (by as_aux_lemma => kernel_rfl) (by as_aux_lemma => kernel_rfl) (fun _ _ _ h => h) (Or.inl ⟨by kernel_rfl, ?_⟩) hS ?_
  rotate_left
  · intro w hSw; have y0 := hSw.c0; have y1 := hSw.c1; have y2 := hSw.c2; have y3 := hSw.c3; go_simp
    first | done | with_reducible rfl
  refine wpAnyH_takeE (i := 5) (some 51) (v := ?_) rfl rfl (by as_aux_lemma => kernel_rfl) (by as_aux_lemma => kernel_rfl) (by as_aux_lemma => kernel_rfl) (fun _ _ _ h => h) (Or.inl ⟨by kernel_rfl, ?_⟩) hS ?_
  rotate_left
  · intro w hSw; have y0 := hSw.c0; have y1 := hSw.c1; have y2 := hSw.c2; have y3 := hSw.c3; go_simp
    first | done | with_reducible rfl
  refine wpAnyH_takeE (i := 6) (some 52) (v := ?_) rfl rfl (by as_aux_lemma => kernel_rfl) (by as_aux_lemma => kernel_rfl) (by as_aux_lemma => kernel_rfl) (fun _ _ _ h => h) (Or.inl ⟨by kernel_rfl, ?_⟩) hS ?_
  rotate_left
  · intro w hSw; have y0 := hSw.c0; have y1 := hSw.c1; have y2 := hSw.c2; have y3 := hSw.c3; go_simp
    first | done | with_reducible rfl
  refine wpAnyH_takeE (i := 7) (some 53) (v := ?_) rfl rfl (by as_aux_lemma => kernel_rfl) (by as_aux_lemma => kernel_rfl) (by as_aux_lemma => kernel_rfl) (fun _ _ _ h => h) (Or.inl ⟨by kernel_rfl, ?_⟩) hS ?_
  rotate_left
  · intro w hSw; have y0 := hSw.c0; have y1 := hSw.c1; have y2 := hSw.c2; have y3 := hSw.c3; go_simp
    first | done | with_reducible rfl
  refine wpAnyH_takeE (i := 8) (some 54) (v := ?_) rfl rfl (by as_aux_lemma => kernel_rfl) (by as_aux_lemma => kernel_rfl) (by as_aux_lemma => kernel_rfl) (fun _ _ _ h => h) (Or.inl ⟨by kernel_rfl, ?_⟩) hS ?_
  rotate_left
  · intro w hSw; have y0 := hSw.c0; have y1 := hSw.c1; have y2 := hSw.c2; have y3 := hSw.c3; go_simp
    first | done | with_reducible rfl
  refine wpAnyH_takeE (i := 9) (some 55) (v := ?_) rfl rfl (by as_aux_lemma => kernel_rfl) (by as_aux_lemma => kernel_rfl) (by as_aux_lemma => kernel_rfl) (fun _ _ _ h => h) (Or.inl ⟨by kernel_rfl, ?_⟩) hS ?_
  rotate_left
  · intro w hSw; have y0 := hSw.c0; have y1 := hSw.c1; have y2 := hSw.c2; have y3 := hSw.c3; go_simp
    first | done | with_reducible rfl
  refine wpAnyH_takeE (i := 10) (some 56) (v := ?_) rfl rfl (by as_aux_lemma => kernel_rfl) (by as_aux_lemma => kernel_rfl) (by as_aux_lemma => kernel_rfl) (fun _ _ _ h => h) (Or.inl ⟨by kernel_rfl, ?_⟩) hS ?_
  rotate_left
  · intro w hSw; have y0 := hSw.c0; have y1 := hSw.c1; have y2 := hSw.c2; have y3 := hSw.c3; go_simp
    first | done | with_reducible rfl
  refine wpAnyH_takeE (i := 11) (some 57) (v := ?_) rfl rfl (by as_aux_lemma => kernel_rfl) (by as_aux_lemma => kernel_rfl) (by as_aux_lemma => kernel_rfl) (fun _ _ _ h => h) (Or.inl ⟨by kernel_rfl, ?_⟩) hS ?_
  rotate_left
  · intro w hSw; have y0 := hSw.c0; have y1 := hSw.c1; have y2 := hSw.c2; have y3 := hSw.c3; go_simp
    first | done | with_reducible rfl
  refine wpAnyH_ready (rs := [12]) (by as_aux_lemma => kernel_rfl) (by simp) ?_
  refine AllReadyH.cons rfl (fun K hK => ?_) AllReadyH.nil
  go_simp
  go_wp2_with (fail)
  refine hK.out _ _ ?_ (fun hS => ?_)
  · exact HA.out.drewn
  clear hK K
  refine wpAnyH_takeE (i := 13) (some 58) (v := ?_) rfl rfl (by as_aux_lemma => kernel_rfl) (by as_aux_lemma => kernel_rfl) (by as_aux_lemma => kernel_rfl) (fun _ _ _ h => h) (Or.inl ⟨by kernel_rfl, ?_⟩) hS ?_
  rotate_left
  · intro w hSw; skip; go_simp
    first | done | with_reducible rfl
  refine wpAnyH_ready (rs := [14]) (by as_aux_lemma => kernel_rfl) (by simp) ?_
  refine AllReadyH.cons rfl (fun K hK => ?_) AllReadyH.nil
  go_simp
  go_wp2_with (fail)
  refine hK.out _ _ ?_ (fun hS => ?_)
  · exact HB.out.drewn
  clear hK K
  refine wpAnyH_takeE (i := 15) (some 59) (v := ?_) rfl rfl (by as_aux_lemma => kernel_rfl) (by as_aux_lemma => kernel_rfl) (by as_aux_lemma => kernel_rfl) (fun _ _ _ h => h) (Or.inl ⟨by kernel_rfl, ?_⟩) hS ?_
  rotate_left
  · intro w hSw; skip; go_simp
    first | done | with_reducible rfl
  refine wpAnyH_ready (rs := [16]) (by as_aux_lemma => kernel_rfl) (by simp) ?_
  refine AllReadyH.cons rfl (fun K hK => ?_) AllReadyH.nil
  go_simp
  go_wp2_with (fail)
  refine hK.out _ _ ?_ (fun hS => ?_)
  · exact HCC.out.drewn
  clear hK K
  refine wpAnyH_takeE (i := 17) (some 60) (v := ?_) rfl rfl (by as_aux_lemma => kernel_rfl) (by as_aux_lemma => kernel_rfl) (by as_aux_lemma => kernel_rfl) (fun _ _ _ h => h) (Or.inl ⟨by kernel_rfl, ?_⟩) hS ?_
  rotate_left
  · intro w hSw; skip; go_simp
    first | done | with_reducible rfl
  refine wpAnyH_ready (rs := [18]) (by as_aux_lemma => kernel_rfl) (by simp) ?_
  refine AllReadyH.cons rfl (fun K hK => ?_) AllReadyH.nil
  go_simp
  go_wp2_with (fail)
  refine hK.out _ _ ?_ (fun hS => ?_)
  · exact HDD.out.drewn
  clear hK K
  refine wpAnyH_done (by kernel_rfl) ?_ _
  clear hS HA HB HCC HDD x0 x1 x2 x3 f0 f1 f2 f3 hpl
  go_simp
  go_wp2_with (go_at_call 33; refine HC5.out.mono ?_; rintro r w6 ⟨a6, c6, rfl, x6, q6⟩; refine Hid.out ?_)
  refine Lib.hid ?_
  have sw := HSD.out.on q6
  clear r0 r1 HC5 HSD q6
  have z0 := sw.rd.c0; have z1 := sw.rd.c1; have z2 := sw.rd.fr; have hrl := sw.rd.lt; have hlt := sw.lt
  have st := sw.put x6
  have HS6 := Lib.hid st
  clear sw x6 st
  go_wp2
  clear z0 z1 z2 hrl hlt
  have HO0 : Hid (readOk b → OkM (rdPk b) [] l5 e5) := Lib.hid (fun h => (HK.out h).2.2.2.2.2.2.2.2)
  go_loopw [] (fun wr => ∃ (ra : Option Addr) (rc : Nat) (l : List UInt8) (e : Int) (am : Option Addr) (nm cm : Nat) (acc : List Mem), Hid (YrSt W wr R ra rc l e n0 n1 n2 n3 am nm cm none 0 0 n0 n1 n2 n3 acc) ∧ Hid (readOk b → OkM (rdPk b) acc l e) ∧ Hid (∀ m ∈ acc, m.Ok) ∧ acc.length + l.length ≤ 16384) (fun wr => leftP R wr)
  case atStart => exact ⟨_, _, _, _, _, _, _, [], HS6, HO0, Lib.hid (fun m hm => by cases hm), by have := HL5.out; simpa using this⟩
  case round =>
    obtain ⟨ra, rc, l, e, am, nm, cm, acc, HS, HO, HM, hab⟩ := hrel
    clear HS6 HO0
    have HMo := Lib.hid (refMoreW HS.out.xs HS.out.low)
    have r0 := HS.out.rd.c0; have r1 := HS.out.rd.c1
    cases hm : moreB l with
    | true =>
      rw [hm] at HMo
      obtain ⟨k0, d0, b0⟩ : ∃ k0 d0, byteE 108 e l = (k0, d0) := ⟨_, _, rfl⟩
      obtain ⟨k1, d1, m0, b1⟩ : ∃ k1 d1 m0, intE d0 k0 = (k1, d1, m0) := ⟨_, _, _, rfl⟩
      obtain ⟨k2, d2, m1, b2⟩ : ∃ k2 d2 m1, intE d1 k1 = (k2, d2, m1) := ⟨_, _, _, rfl⟩
      obtain ⟨k3, d3, m2, b3⟩ : ∃ k3 d3 m2, intE d2 k2 = (k3, d3, m2) := ⟨_, _, _, rfl⟩
      obtain ⟨k4, d4, b4⟩ : ∃ k4 d4, byteE 101 d3 k3 = (k4, d4) := ⟨_, _, rfl⟩
      have HOr := Lib.hid (fun h : readOk b => OkM.round (rdPk_ok b) h.2.1 (HO.out h) hm b0 b1 b2 b3 b4)
      have HTl := Lib.hid (And.intro b0 (And.intro b1 (And.intro b2 (And.intro b3 b4))))
      have HRi := Lib.hid (intE_range b3)
      have HLe : Hid (leftP R wr = l.length ∧ k4.length < l.length) := Lib.hid ⟨HS.out.left, by have a0 := byteE_less b0 (moreB_posP hm); have a1 := (intE_err b1).2; have a2 := (intE_err b2).2; have a3 := (intE_err b3).2; have a4 := (byteE_err b4).2; omega⟩
      clear b0 b1 b2 b3 b4 HO hm
      go_wp2_with (go_at_call 35; refine HMo.out.mono ?_; rintro r u1 ⟨rfl, q1⟩; refine Hid.out ?_)
      refine Lib.hid ?_
      have sw := HS.out.on q1
      have hRM := sw.rd.lt
      have HnM : Hid ((Value.slice am nm cm).ownBlock ≠ some u1.heap.size) := Lib.hid (fun e => by have := (World.ownsRow.lt sw.om _ e).2; omega)
      have qa := (Below.refl u1.heap.size u1).alloc (Nat.le_refl _) (.cells #[.int .i64 0, .int .i64 0, .int .i64 0] 69)
      have sa := sw.on qa
      have th := Three.new u1 0 0 0
      have HSa := Lib.hid sa
      have HTh := Lib.hid th
      have HC0 := Lib.hid (refByteW 108 sa.xs sa.low HTl.out.1)
      clear r0 r1 HMo HS q1 sw qa th
      have r0 := sa.rd.c0; have r1 := sa.rd.c1
      clear sa
      go_wp2_with (go_at_call 33; refine HC0.out.mono ?_; rintro r u2 ⟨a2, c2, rfl, x2, q2⟩; refine Hid.out ?_)
      refine Lib.hid ?_
      have sw := HSa.out.on q2
      have th := HTh.out.on q2
      clear r0 r1 HC0 HSa HTh q2
      generalize u1.heap.size = M at *
      have z0 := sw.rd.c0; have z1 := sw.rd.c1; have z2 := sw.rd.fr; have hrl := sw.rd.lt; have hlt := sw.lt
      have st := sw.put x2
      have th2 := (th.other (p := ⟨R, 0, none⟩) (by show M ≠ R; omega) (.slice a2 k0.length c2)).other (p := ⟨R, 1, none⟩) (by show M ≠ R; omega) (.int .i64 d0)
      have HS0 := Lib.hid st
      have HH0 := Lib.hid th2
      have HC1 := Lib.hid (refIntW st.xs st.low HTl.out.2.1)
      have r0 := st.rd.c0; have r1 := st.rd.c1
      clear sw x2 th st th2
      go_wp2
      refine wp_loop_rounds 4 ?_
      rw [rounds_succ]
      go_wp2_with (go_at_call 34; refine HC1.out.mono ?_; rintro r v1 ⟨a3, c3, rfl, x3, q3⟩; refine Hid.out ?_)
      refine Lib.hid ?_
      have sw := HS0.out.on q3
      have th := HH0.out.on q3
      clear r0 r1 z0 z1 z2 hrl hlt HC1 HS0 HH0 q3 
      have z0 := sw.rd.c0; have z1 := sw.rd.c1; have z2 := sw.rd.fr; have hrl := sw.rd.lt; have hlt := sw.lt
      have o0 := th.c0; have o1 := th.f 0; have hml := th.lt
      have p1 := sw.put x3
      have th1 := (th.other (p := ⟨R, 0, none⟩) (by show M ≠ R; omega) (.slice a3 k1.length c3)).other (p := ⟨R, 1, none⟩) (by show M ≠ R; omega) (.int .i64 d1)
      have st := p1.far ⟨M, 0, none⟩ (.int .i64 m0) (by show M ≠ W.heap.size; omega) (by show M ≠ W.heap.size + 1; omega) (by show M ≠ W.heap.size + 2; omega) (by show M ≠ R; omega) (p1.om.skip HnM.out) (by show W.heap.size ≤ M; omega)
      have th2 := th1.set0 m0
      have y0 := th2.c0
      have HS1 := Lib.hid st
      have HH1 := Lib.hid th2
      clear sw p1 x3 th th1 th2
      by_cases g0x : m0 < 0
      · have t0 := st.zr.c0; have t1 := st.zr.c1; have t2 := st.zr.c2; have t3 := st.zr.c3; have t4 := st.zr.c4; have t5 := st.zr.c5; have t6 := st.zr.f 0; have t7 := st.zr.f 1; have t8 := st.zr.f 2; have t9 := st.zr.f 3; have t10 := st.zr.f 4; have t11 := st.zr.f 5; have t12 := st.zr.lt
        have HF := Lib.hid st.none_
        go_wp2
        unfold stP at HF
        refine bodyPost_ret (v := .tuple #[.agg #[.int .u8 0, .int .u16 0, .int .u16 0, .int .i64 0, .slice none 0 0, .slice none 0 0], .int .i64 14]) (by obtain ⟨hf, -⟩ := HF.out; have k0 := hf.c0; have k1 := hf.c1; have k2 := hf.c2; have k3 := hf.c3; have k4 := hf.c4; have k5 := hf.c5; simp [results, Tryd.results16, go_sem, k0, k1, k2, k3, k4, k5]) rfl ?_
        exact YrPost.no (fun h => by have h9 := (HOr.out h).1; omega) HF.out.2
      by_cases g0y : 255 < m0
      · have t0 := st.zr.c0; have t1 := st.zr.c1; have t2 := st.zr.c2; have t3 := st.zr.c3; have t4 := st.zr.c4; have t5 := st.zr.c5; have t6 := st.zr.f 0; have t7 := st.zr.f 1; have t8 := st.zr.f 2; have t9 := st.zr.f 3; have t10 := st.zr.f 4; have t11 := st.zr.f 5; have t12 := st.zr.lt
        have HF := Lib.hid st.none_
        go_wp2
        unfold stP at HF
        refine bodyPost_ret (v := .tuple #[.agg #[.int .u8 0, .int .u16 0, .int .u16 0, .int .i64 0, .slice none 0 0, .slice none 0 0], .int .i64 14]) (by obtain ⟨hf, -⟩ := HF.out; have k0 := hf.c0; have k1 := hf.c1; have k2 := hf.c2; have k3 := hf.c3; have k4 := hf.c4; have k5 := hf.c5; simp [results, Tryd.results16, go_sem, k0, k1, k2, k3, k4, k5]) rfl ?_
        exact YrPost.no (fun h => by have h9 := (HOr.out h).1; omega) HF.out.2
      have r0 := st.rd.c0; have r1 := st.rd.c1
      have HC2 := Lib.hid (refIntW st.xs st.low HTl.out.2.2.1)
      clear st
      go_wp2
      rw [rounds_succ]
      go_wp2_with (go_at_call 34; refine HC2.out.mono ?_; rintro r v2 ⟨a4, c4, rfl, x4, q4⟩; refine Hid.out ?_)
      refine Lib.hid ?_
      have sw := HS1.out.on q4
      have th := HH1.out.on q4
      clear r0 r1 z0 z1 z2 hrl hlt HC2 HS1 HH1 q4 o0 o1 hml y0
      have z0 := sw.rd.c0; have z1 := sw.rd.c1; have z2 := sw.rd.fr; have hrl := sw.rd.lt; have hlt := sw.lt
      have o0 := th.c1; have o1 := th.f 1; have hml := th.lt
      have p1 := sw.put x4
      have th1 := (th.other (p := ⟨R, 0, none⟩) (by show M ≠ R; omega) (.slice a4 k2.length c4)).other (p := ⟨R, 1, none⟩) (by show M ≠ R; omega) (.int .i64 d2)
      have st := p1.far ⟨M, 1, none⟩ (.int .i64 m1) (by show M ≠ W.heap.size; omega) (by show M ≠ W.heap.size + 1; omega) (by show M ≠ W.heap.size + 2; omega) (by show M ≠ R; omega) (p1.om.skip HnM.out) (by show W.heap.size ≤ M; omega)
      have th2 := th1.set1 m1
      have y0 := th2.c1
      have HS2 := Lib.hid st
      have HH2 := Lib.hid th2
      clear sw p1 x4 th th1 th2
      by_cases g1x : m1 < 0
      · have t0 := st.zr.c0; have t1 := st.zr.c1; have t2 := st.zr.c2; have t3 := st.zr.c3; have t4 := st.zr.c4; have t5 := st.zr.c5; have t6 := st.zr.f 0; have t7 := st.zr.f 1; have t8 := st.zr.f 2; have t9 := st.zr.f 3; have t10 := st.zr.f 4; have t11 := st.zr.f 5; have t12 := st.zr.lt
        have HF := Lib.hid st.none_
        go_wp2
        unfold stP at HF
        refine bodyPost_ret (v := .tuple #[.agg #[.int .u8 0, .int .u16 0, .int .u16 0, .int .i64 0, .slice none 0 0, .slice none 0 0], .int .i64 14]) (by obtain ⟨hf, -⟩ := HF.out; have k0 := hf.c0; have k1 := hf.c1; have k2 := hf.c2; have k3 := hf.c3; have k4 := hf.c4; have k5 := hf.c5; simp [results, Tryd.results16, go_sem, k0, k1, k2, k3, k4, k5]) rfl ?_
        exact YrPost.no (fun h => by have h9 := (HOr.out h).2.1; omega) HF.out.2
      by_cases g1y : 255 < m1
      · have t0 := st.zr.c0; have t1 := st.zr.c1; have t2 := st.zr.c2; have t3 := st.zr.c3; have t4 := st.zr.c4; have t5 := st.zr.c5; have t6 := st.zr.f 0; have t7 := st.zr.f 1; have t8 := st.zr.f 2; have t9 := st.zr.f 3; have t10 := st.zr.f 4; have t11 := st.zr.f 5; have t12 := st.zr.lt
        have HF := Lib.hid st.none_
        go_wp2
        unfold stP at HF
        refine bodyPost_ret (v := .tuple #[.agg #[.int .u8 0, .int .u16 0, .int .u16 0, .int .i64 0, .slice none 0 0, .slice none 0 0], .int .i64 14]) (by obtain ⟨hf, -⟩ := HF.out; have k0 := hf.c0; have k1 := hf.c1; have k2 := hf.c2; have k3 := hf.c3; have k4 := hf.c4; have k5 := hf.c5; simp [results, Tryd.results16, go_sem, k0, k1, k2, k3, k4, k5]) rfl ?_
        exact YrPost.no (fun h => by have h9 := (HOr.out h).2.1; omega) HF.out.2
      have r0 := st.rd.c0; have r1 := st.rd.c1
      have HC3 := Lib.hid (refIntW st.xs st.low HTl.out.2.2.2.1)
      clear st
      go_wp2
      rw [rounds_succ]
      go_wp2_with (go_at_call 34; refine HC3.out.mono ?_; rintro r v3 ⟨a5, c5, rfl, x5, q5⟩; refine Hid.out ?_)
      refine Lib.hid ?_
      have sw := HS2.out.on q5
      have th := HH2.out.on q5
      clear r0 r1 z0 z1 z2 hrl hlt HC3 HS2 HH2 q5 o0 o1 hml y0
      have z0 := sw.rd.c0; have z1 := sw.rd.c1; have z2 := sw.rd.fr; have hrl := sw.rd.lt; have hlt := sw.lt
      have o0 := th.c2; have o1 := th.f 2; have hml := th.lt
      have p1 := sw.put x5
      have th1 := (th.other (p := ⟨R, 0, none⟩) (by show M ≠ R; omega) (.slice a5 k3.length c5)).other (p := ⟨R, 1, none⟩) (by show M ≠ R; omega) (.int .i64 d3)
      have st := p1.far ⟨M, 2, none⟩ (.int .i64 m2) (by show M ≠ W.heap.size; omega) (by show M ≠ W.heap.size + 1; omega) (by show M ≠ W.heap.size + 2; omega) (by show M ≠ R; omega) (p1.om.skip HnM.out) (by show W.heap.size ≤ M; omega)
      have th2 := th1.set2 m2
      have y0 := th2.c2
      have HS3 := Lib.hid st
      have HH3 := Lib.hid th2
      clear sw p1 x5 th th1 th2
      by_cases g2x : m2 < 0
      · have t0 := st.zr.c0; have t1 := st.zr.c1; have t2 := st.zr.c2; have t3 := st.zr.c3; have t4 := st.zr.c4; have t5 := st.zr.c5; have t6 := st.zr.f 0; have t7 := st.zr.f 1; have t8 := st.zr.f 2; have t9 := st.zr.f 3; have t10 := st.zr.f 4; have t11 := st.zr.f 5; have t12 := st.zr.lt
        have HF := Lib.hid st.none_
        go_wp2
        unfold stP at HF
        refine bodyPost_ret (v := .tuple #[.agg #[.int .u8 0, .int .u16 0, .int .u16 0, .int .i64 0, .slice none 0 0, .slice none 0 0], .int .i64 14]) (by obtain ⟨hf, -⟩ := HF.out; have k0 := hf.c0; have k1 := hf.c1; have k2 := hf.c2; have k3 := hf.c3; have k4 := hf.c4; have k5 := hf.c5; simp [results, Tryd.results16, go_sem, k0, k1, k2, k3, k4, k5]) rfl ?_
        exact YrPost.no (fun h => by have h9 := (HOr.out h).2.2.1; omega) HF.out.2
      have r0 := st.rd.c0; have r1 := st.rd.c1
      have HC4 := Lib.hid (refByteW 101 st.xs st.low HTl.out.2.2.2.2)
      clear st
      go_wp2
      rw [rounds_succ]
      go_wp2_with (go_at_call 33; refine HC4.out.mono ?_; rintro r v4 ⟨a6, c6, rfl, x6, q6⟩; refine Hid.out ?_)
      refine Lib.hid ?_
      have sw := HS3.out.on q6
      have th := HH3.out.on q6
      clear r0 r1 z0 z1 z2 hrl hlt o0 o1 hml y0 HC4 HS3 HH3 q6
      have z0 := sw.rd.c0; have z1 := sw.rd.c1; have z2 := sw.rd.fr; have hrl := sw.rd.lt; have hlt := sw.lt
      have st := sw.put x6
      have th2 := (th.other (p := ⟨R, 0, none⟩) (by show M ≠ R; omega) (.slice a6 k4.length c6)).other (p := ⟨R, 1, none⟩) (by show M ≠ R; omega) (.int .i64 d4)
      have o0 := th2.c0; have o1 := th2.c1; have o2 := th2.c2
      have y4 := st.pv.c4
      have w16 : IntKind.u16.wrap m0 = m0 := by rw [IntKind.wrap_u16]; omega
      have w8 : IntKind.u8.wrap m1 = m1 := by rw [IntKind.wrap_u8]; omega
      obtain ⟨hi, hzz, -, -⟩ := HI.out
      simp only [Prod.mk.injEq] at hzz
      obtain ⟨hi0, hi1, hi2⟩ := hzz
      have hown3 : ((v4.setCell ⟨R, 0, none⟩ (.slice a6 k4.length c6)).setCell ⟨R, 1, none⟩ (.int .i64 d4)).ownsRow (R + 1) 45 3 (.slice am nm cm) acc.length (cellsMx acc) := st.om
      have hsz : R < ((v4.setCell ⟨R, 0, none⟩ (.slice a6 k4.length c6)).setCell ⟨R, 1, none⟩ (.int .i64 d4)).heap.size := st.rd.lt
      have hacc : acc.length ≤ 16384 := by omega
      have hNB := newE ((v4.setCell ⟨R, 0, none⟩ (.slice a6 k4.length c6)).setCell ⟨R, 1, none⟩ (.int .i64 d4)) (.cells #[.int .u16 m0, .int .u8 m1, .int .i64 m2] 45)
      rw [World.size_setCell, World.size_setCell] at hNB
      have HS4 := Lib.hid st
      clear sw th x6 st th2
      go_wp2_with (at_builtin; refine wpList_append_own _ rfl (.tmp 96) (.tmp 106) 23 rfl (R + 1) 45 iM _ 3 16 Tryd.underlying23 hi hi0 hi1 hi2 rfl (by decide) (.slice am nm cm) acc.length (cellsMx acc) (by kernel_rfl) (World.ownsRow.alloc hown3 _) ⟨v4.heap.size, 0, none⟩ 1 1 [.int .u16 m0, .int .u8 m1, .int .i64 m2] (by kernel_rfl) rfl (World.news_of_block (cs := #[.int .u16 m0, .int .u8 m1, .int .i64 m2]) hNB) (by intro u' hu'; simp at hu'; rcases hu' with rfl | rfl | rfl <;> rfl) (by unfold maxLen; omega) (by omega) (by simp only [World.size_alloc]; omega) ?_; refine Hid.out ?_)
      refine Lib.hid ?_
      intro v7 w7 hown7 hg7 _
      have hA7 : OwnMx w7 (R + 1) v7 (acc ++ [⟨m0, m1, m2⟩]) := OwnMx.push hown7
      obtain ⟨a7, c7, rfl, -, -, -⟩ := hA7.form
      have sal := HS4.out.on ((Below.refl _ _).alloc (Nat.le_refl _) (.cells #[.int .u16 m0, .int .u8 m1, .int .i64 m2] 45))
      have hrr := fun (j : Nat) (hj : (Value.slice am nm cm).ownBlock = some j) => (World.ownsRow.lt hown3 j hj).1
      have pv7 := sal.pv.grown hg7 (fun e => by have := hrr _ e.symm; omega)
      have s7 := sal.rowM hg7 hrr hA7 rfl
      have y5 := pv7.c4; have y6 := pv7.f 4; have y7 := pv7.lt
      have HF := Lib.hid s7
      have HMs : Hid (∀ m ∈ acc ++ [(⟨m0, m1, m2⟩ : Mem)], m.Ok) := Lib.hid (fun m hm => by
        rcases List.mem_append.1 hm with h | h
        · exact HM.out m h
        · obtain rfl := List.mem_singleton.1 h
          exact ⟨⟨by omega, by dsimp only; omega⟩, ⟨by dsimp only; omega, by dsimp only; omega⟩, HRi.out.1, HRi.out.2⟩)
      have HOn := Lib.hid (fun h => (HOr.out h).2.2.2)
      have HCO : Hid (acc.length + 1 + k4.length ≤ 16384) := Lib.hid (by have := HLe.out.2; omega)
      clear hNB hA7 s7 sal pv7 hrr hown7 hg7 hown3 HS4 hi hi0 hi1 hi2 hsz hacc z0 z1 z2 hrl o0 o1 o2 y4 HOr HM
      generalize (acc ++ [(⟨m0, m1, m2⟩ : Mem)]).length = n7 at *
      go_wp2
      go_roundw
      case rel => exact ⟨a6, c6, k4, d4, a7, n7, c7, acc ++ [⟨m0, m1, m2⟩], HF, HOn, HMs, by have := HCO.out; simpa using this⟩
      case measure => rw [HF.out.left, HLe.out.1]; exact HLe.out.2
    | false =>
      rw [hm] at HMo
      obtain ⟨k0, d0, b0⟩ : ∃ k0 d0, byteE 101 e l = (k0, d0) := ⟨_, _, rfl⟩
      obtain ⟨k1, d1, b1⟩ : ∃ k1 d1, byteE 108 d0 k0 = (k1, d1) := ⟨_, _, rfl⟩
      have HOm := Lib.hid (fun h : readOk b => yr_mid (HO.out h) hm b0 b1)
      have HTb := Lib.hid (And.intro b0 b1)
      have HL1 : Hid (k1.length ≤ 16384) := Lib.hid (by have a0 := (byteE_err b0).2; have a1 := (byteE_err b1).2; omega)
      clear b0 b1 HO hm
      go_wp2_with (go_at_call 35; refine HMo.out.mono ?_; rintro r u1 ⟨rfl, q1⟩; refine Hid.out ?_)
      refine Lib.hid ?_
      have sw := HS.out.on q1
      have HS1 := Lib.hid sw
      have HC0 := Lib.hid (refByteW 101 sw.xs sw.low HTb.out.1)
      clear r0 r1 HMo HS q1
      have r0 := sw.rd.c0; have r1 := sw.rd.c1
      clear sw
      go_wp2_with (go_at_call 33; refine HC0.out.mono ?_; rintro r u2 ⟨a2, c2, rfl, x2, q2⟩; refine Hid.out ?_)
      refine Lib.hid ?_
      have sw := HS1.out.on q2
      have HS2 := Lib.hid sw
      have HC1 := Lib.hid (refByteW 108 x2 sw.low HTb.out.2)
      clear r0 r1 HC0 HS1 q2 sw x2
      go_wp2_with (go_at_call 33; refine HC1.out.mono ?_; rintro r u3 ⟨a3, c3, rfl, x3, q3⟩; refine Hid.out ?_)
      refine Lib.hid ?_
      have sw := HS2.out.on q3
      clear HC1 HS2 q3
      have z0 := sw.rd.c0; have z1 := sw.rd.c1; have z2 := sw.rd.fr; have hrl := sw.rd.lt; have hlt := sw.lt
      have st := sw.put x3
      have ye : YeSt ((u3.setCell ⟨R, 0, none⟩ (.slice a3 k1.length c3)).setCell ⟨R, 1, none⟩ (.int .i64 d1)) u3.heap.size R am nm cm none 0 0 [] := ⟨OwnEx.nil _ _, rfl, hrl, fun g hg => (World.ownsRow.lt sw.om g hg).2, by rw [World.size_setCell, World.size_setCell]; exact Nat.le_refl _⟩
      have HS3 := Lib.hid st
      have HY3 := Lib.hid ye
      clear sw x3 st ye
      go_wp2
      clear z0 z1 z2 hab
      obtain ⟨B2, hB2⟩ : ∃ B2, B2 = u3.heap.size := ⟨_, rfl⟩
      rw [← hB2] at HY3 hrl
      have hRB : R < B2 := hrl
      clear hB2 hrl
      obtain ⟨wO, rfl⟩ : ∃ x, x = wr := ⟨_, rfl⟩
      have HOE := Lib.hid (fun h : readOk b => (HOm.out h).2)
      go_loopw [] (fun wr => ∃ (ra : Option Addr) (rc : Nat) (l : List UInt8) (e : Int) (ae : Option Addr) (ne ce : Nat) (es : List Ent), Hid (YrSt W wr R ra rc l e n0 n1 n2 n3 am nm cm ae ne ce n0 n1 n2 n3 acc) ∧ Hid (YeSt wr B2 R am nm cm ae ne ce es) ∧ Hid (readOk b → OkE (rdPk b) es l e) ∧ Hid (∀ x ∈ es, x.Ok) ∧ es.length + l.length ≤ 16384) (fun wr => leftP R wr)
      case atStart => exact ⟨_, _, _, _, _, _, _, [], HS3, HY3, HOE, Lib.hid (fun x hx => by cases hx), by have := HL1.out; simpa using this⟩
      case round =>
        obtain ⟨ra, rc, l, e, ae, ne, ce, es, HS, HY, HO, HE, hab⟩ := hrel
        clear HS3 HY3 HOE HL1 HTb
        have HMo := Lib.hid (refMoreW HS.out.xs HS.out.low)
        have r0 := HS.out.rd.c0; have r1 := HS.out.rd.c1
        cases hm : moreB l with
        | true =>
          rw [hm] at HMo
          obtain ⟨k0, d0, b0⟩ : ∃ k0 d0, byteE 108 e l = (k0, d0) := ⟨_, _, rfl⟩
          obtain ⟨k1, d1, s1, b1⟩ : ∃ k1 d1 s1, textE 1024 d0 k0 = (k1, d1, s1) := ⟨_, _, _, rfl⟩
          obtain ⟨k2, d2, t, b2⟩ : ∃ k2 d2 t, intE d1 k1 = (k2, d2, t) := ⟨_, _, _, rfl⟩
          obtain ⟨k3, d3, o, b3⟩ : ∃ k3 d3 o, intE d2 k2 = (k3, d3, o) := ⟨_, _, _, rfl⟩
          obtain ⟨k4, d4, s4, b4⟩ : ∃ k4 d4 s4, textE 8192 d3 k3 = (k4, d4, s4) := ⟨_, _, _, rfl⟩
          obtain ⟨k5, d5, u, b5⟩ : ∃ k5 d5 u, intE d4 k4 = (k5, d5, u) := ⟨_, _, _, rfl⟩
          obtain ⟨k6, d6, b6⟩ : ∃ k6 d6, byteE 101 d5 k5 = (k6, d6) := ⟨_, _, rfl⟩
          have hOr := fun h : readOk b => OkE.round (rdPk_ok b) h.2.1 (HO.out h) hm b0 b1 b2 b3 b4 b5 b6
          have hRd := fun {w : World} {a : Option Addr} {c : Nat} (hx : XW W a c l e) (hw : Below W.heap.size W w) => eRefRead_any hx hw b0 b1 b2 b3 b4 b5 b6
          have hyo : (if d6 ≠ 0 ∨ o < 0 ∨ 65535 < o ∨ checkEn ⟨⟨s1.toArray⟩, t, o, ⟨s4.toArray⟩, u⟩ ≠ 0 then zeroE else ⟨⟨s1.toArray⟩, t, o, ⟨s4.toArray⟩, u⟩).Ok := by
            split
            · exact zeroE_ok6
            · rename_i hh
              simp only [not_or, ne_eq] at hh
              exact ⟨intE_range b2, ⟨by dsimp only; omega, by dsimp only; omega⟩, intE_range b5⟩
          obtain ⟨y, hy⟩ : ∃ y, (if d6 ≠ 0 ∨ o < 0 ∨ 65535 < o ∨ checkEn ⟨⟨s1.toArray⟩, t, o, ⟨s4.toArray⟩, u⟩ ≠ 0 then zeroE else ⟨⟨s1.toArray⟩, t, o, ⟨s4.toArray⟩, u⟩) = y := ⟨_, rfl⟩
          rw [hy] at hyo
          have HOn : Hid (readOk b → OkE (rdPk b) (es ++ [y]) k6 d6) := Lib.hid (fun h => by rw [← hy]; exact hOr h)
          have HLe : Hid (leftP R wr = l.length ∧ k6.length < l.length) := Lib.hid ⟨HS.out.left, by have a0 := byteE_less b0 (moreB_posP hm); have a1 := (textE_err b1).2; have a2 := (intE_err b2).2; have a3 := (intE_err b3).2; have a4 := (textE_err b4).2; have a5 := (intE_err b5).2; have a6 := (byteE_err b6).2; omega⟩
          have HRd : Hid (∀ {w : World} {a : Option Addr} {c : Nat}, XW W a c l e → Below W.heap.size W w → Calls Tryd.prog 36 #[.agg #[.slice a l.length c, .int .i64 e]] w (ErPost W w k6 d6 y)) := Lib.hid (fun hx hw => by rw [← hy]; exact hRd hx hw)
          have HYo := Lib.hid hyo
          clear b0 b1 b2 b3 b4 b5 b6 HO hm hOr hRd hyo hy
          unfold ErPost at HRd
          obtain ⟨yk, yt, yo, yv, yu⟩ := y
          dsimp only at HRd
          go_wp2_with (go_at_call 35; refine HMo.out.mono ?_; rintro r u1 ⟨rfl, q1⟩; refine Hid.out ?_)
          refine Lib.hid ?_
          have sw := HS.out.on q1
          have yw := HY.out.on q1
          have hRM := sw.rd.lt
          have HnM : Hid ((Value.slice am nm cm).ownBlock ≠ some u1.heap.size ∧ (Value.slice ae ne ce).ownBlock ≠ some u1.heap.size) := Lib.hid ⟨fun e => by have := (World.ownsRow.lt sw.om _ e).2; omega, fun e => by have := (World.ownsRow.lt yw.oe _ e).2; omega⟩
          have qa := (Below.refl u1.heap.size u1).alloc (Nat.le_refl _) (.cells #[.string ⟨#[]⟩, .int .i64 0, .int .u16 0, .string ⟨#[]⟩, .int .i64 0] 48)
          have sa := sw.on qa
          have eb := EBlk.new u1 zeroE
          have HSa := Lib.hid sa
          have HYa := Lib.hid (yw.on qa)
          have HEb := Lib.hid eb
          have HC0 := Lib.hid (HRd.out sa.xs sa.low)
          clear r0 r1 HMo HS HY q1 sw yw qa eb HRd
          have r0 := sa.rd.c0; have r1 := sa.rd.c1
          clear sa
          go_wp2_with (go_at_call 36; refine HC0.out.mono ?_; rintro r u2 ⟨a2, c2, rfl, x2, q2⟩; refine Hid.out ?_)
          refine Lib.hid ?_
          have sw := HSa.out.on q2
          have yw := HYa.out.on q2
          have eb := HEb.out.on q2
          clear r0 r1 HC0 HSa HYa HEb q2
          generalize u1.heap.size = E at *
          have z0 := sw.rd.c0; have z1 := sw.rd.c1; have z2 := sw.rd.fr; have hrl := sw.rd.lt; have hlt := sw.lt
          have o0 := eb.c0; have o1 := eb.c1; have o2 := eb.c2; have o3 := eb.c3; have o4 := eb.c4; have p0 := eb.f 0; have p1 := eb.f 1; have p2 := eb.f 2; have p3 := eb.f 3; have p4 := eb.f 4; have hel := eb.lt
          dsimp only [zeroE] at o0 o1 o2 o3 o4
          have eb1 := (eb.other (p := ⟨R, 0, none⟩) (by show E ≠ R; omega) (.slice a2 k6.length c2)).other (p := ⟨R, 1, none⟩) (by show E ≠ R; omega) (.int .i64 d6)
          have eb2 := eb1.store ⟨yk, yt, yo, yv, yu⟩
          have st := (sw.put x2).ste (y := ⟨yk, yt, yo, yv, yu⟩) (E := E) (by omega) (by omega) (by omega) (by omega) HnM.out.1 (by omega)
          have ys := (yw.put (.slice a2 k6.length c2) (.int .i64 d6)).ste (y := ⟨yk, yt, yo, yv, yu⟩) (E := E) HnM.out.2
          have i0 := eb2.c0; have i1 := eb2.c1; have i2 := eb2.c2; have i3 := eb2.c3; have i4 := eb2.c4
          have y5 := st.pv.c5
          unfold stE at i0 i1 i2 i3 i4 y5
          dsimp only at i0 i1 i2 i3 i4 y5
          obtain ⟨-, -, hi, hzz⟩ := HI.out
          simp only [Prod.mk.injEq] at hzz
          obtain ⟨hi0, hi1, hi2⟩ := hzz
          have hown3 : (stE ((u2.setCell ⟨R, 0, none⟩ (.slice a2 k6.length c2)).setCell ⟨R, 1, none⟩ (.int .i64 d6)) E ⟨yk, yt, yo, yv, yu⟩).ownsRow B2 48 5 (.slice ae ne ce) es.length (cellsEx es) := ys.oe
          have hszB : B2 ≤ (stE ((u2.setCell ⟨R, 0, none⟩ (.slice a2 k6.length c2)).setCell ⟨R, 1, none⟩ (.int .i64 d6)) E ⟨yk, yt, yo, yv, yu⟩).heap.size := ys.sz
          have hacc : es.length ≤ 16384 := by omega
          have hNB := newE (stE ((u2.setCell ⟨R, 0, none⟩ (.slice a2 k6.length c2)).setCell ⟨R, 1, none⟩ (.int .i64 d6)) E ⟨yk, yt, yo, yv, yu⟩) (.cells #[.string yk, .int .i64 yt, .int .u16 yo, .string yv, .int .i64 yu] 48)
          rw [show (stE ((u2.setCell ⟨R, 0, none⟩ (.slice a2 k6.length c2)).setCell ⟨R, 1, none⟩ (.int .i64 d6)) E ⟨yk, yt, yo, yv, yu⟩).heap.size = u2.heap.size by unfold stE; simp only [World.size_setCell]] at hNB
          have HS4 := Lib.hid st
          have HY4 := Lib.hid ys
          unfold stE at hown3 hszB hNB
          dsimp only at hown3 hszB hNB
          clear sw yw eb eb1 eb2 x2 st ys
          go_wp2_with (at_builtin; refine wpList_append_own _ rfl (.tmp 120) (.tmp 122) 24 rfl B2 48 iE _ 5 56 Tryd.underlying24 hi hi0 hi1 hi2 rfl (by decide) (.slice ae ne ce) es.length (cellsEx es) (by kernel_rfl) (World.ownsRow.alloc hown3 _) ⟨u2.heap.size, 0, none⟩ 1 1 [.string yk, .int .i64 yt, .int .u16 yo, .string yv, .int .i64 yu] (by kernel_rfl) rfl (World.news_of_block (cs := #[.string yk, .int .i64 yt, .int .u16 yo, .string yv, .int .i64 yu]) hNB) (by intro u' hu'; simp at hu'; rcases hu' with rfl | rfl | rfl | rfl | rfl <;> rfl) (by unfold maxLen; omega) (by omega) (by simp only [World.size_alloc]; omega) ?_; refine Hid.out ?_)
          refine Lib.hid ?_
          intro v7 w7 hown7 hg7 _
          have hA7 : OwnEx w7 B2 v7 (es ++ [⟨yk, yt, yo, yv, yu⟩]) := OwnEx.push hown7
          obtain ⟨a7, c7, rfl, -, -, -⟩ := hA7.form
          have hsA := HS4.out
          unfold stE at hsA
          dsimp only at hsA
          have sal := hsA.on ((Below.refl _ _).alloc (Nat.le_refl _) (.cells #[.string yk, .int .i64 yt, .int .u16 yo, .string yv, .int .i64 yu] 48))
          have hrr := fun (j : Nat) (hj : (Value.slice ae ne ce).ownBlock = some j) => (World.ownsRow.lt hown3 j hj).1
          have pv7 := sal.pv.grown hg7 (fun e => by have := hrr _ e.symm; omega)
          have s7 := sal.rowE (ae' := a7) (ne' := (es ++ [(⟨yk, yt, yo, yv, yu⟩ : Ent)]).length) (ce' := c7) hg7 (fun j hj => by have := hrr j hj; omega) (fun g hg e => by have h8 := hrr g e; have h9 := HY4.out.mb g hg; omega)
          have ys7 : YeSt (w7.setCell ⟨W.heap.size + 1, 5, none⟩ (.slice a7 (es ++ [(⟨yk, yt, yo, yv, yu⟩ : Ent)]).length c7)) B2 R am nm cm a7 (es ++ [(⟨yk, yt, yo, yv, yu⟩ : Ent)]).length c7 (es ++ [⟨yk, yt, yo, yv, yu⟩]) := ⟨hA7.turn (grownBy_setCell _ (W.heap.size + 1) 5 _) (by omega), rfl, HY4.out.hb, HY4.out.mb, by rw [World.size_setCell]; exact Nat.le_trans (Nat.le_trans hszB (by simp only [World.size_alloc]; omega)) hg7.size⟩
          have y5' := pv7.c5; have y6 := pv7.f 5; have y7 := pv7.lt
          have HF := Lib.hid s7
          have HG := Lib.hid ys7
          have HEs : Hid (∀ x ∈ es ++ [(⟨yk, yt, yo, yv, yu⟩ : Ent)], x.Ok) := Lib.hid (fun x hx => by
            rcases List.mem_append.1 hx with h | h
            · exact HE.out x h
            · obtain rfl := List.mem_singleton.1 h
              exact HYo.out)
          have HCO : Hid (es.length + 1 + k6.length ≤ 16384) := Lib.hid (by have := HLe.out.2; omega)
          clear hNB hA7 s7 ys7 hsA sal pv7 hrr hown7 hg7 hown3 hszB HS4 HY4 hi hi0 hi1 hi2 hacc z0 z1 z2 hrl o0 o1 o2 o3 o4 p0 p1 p2 p3 p4 hel i0 i1 i2 i3 i4 y5 HE
          generalize (es ++ [(⟨yk, yt, yo, yv, yu⟩ : Ent)]).length = n7 at *
          go_wp2
          go_roundw
          case rel => exact ⟨a2, c2, k6, d6, a7, n7, c7, es ++ [⟨yk, yt, yo, yv, yu⟩], HF, HG, HOn, HEs, by have := HCO.out; simpa using this⟩
          case measure => rw [HF.out.left, HLe.out.1]; exact HLe.out.2
        | false =>
          rw [hm] at HMo
          have HPeq : Hid (readOk b → (⟨n0, n1, n2, n3, acc, es⟩ : Pk) = rdPk b) := Lib.hid (fun h => by
            have h1 := HK.out h
            have h2 := (HOm.out h).1
            have h3 := ((HO.out h).out hm).1
            rw [h1.1, h1.2.1, h1.2.2.1, h1.2.2.2.1, h2, h3])
          have HPok : Hid ((⟨n0, n1, n2, n3, acc, es⟩ : Pk).Ok) := Lib.hid ⟨⟨by dsimp only; omega, by dsimp only; omega⟩, ⟨by dsimp only; omega, by dsimp only; omega⟩, ⟨by dsimp only; omega, by dsimp only; omega⟩, HR3.out, HM.out, HE.out⟩
          clear hm HO
          go_wp2_with (go_at_call 35; refine HMo.out.mono ?_; rintro r u1 ⟨rfl, q1⟩; refine Hid.out ?_)
          refine Lib.hid ?_
          have sw := HS.out.on q1
          have yw := HY.out.on q1
          have HS1 := Lib.hid sw
          have HY1 := Lib.hid yw
          clear r0 r1 HMo HS HY q1 hab HE HM
          have x0 := sw.pv.c0; have x1 := sw.pv.c1; have x2 := sw.pv.c2; have x3 := sw.pv.c3; have x4 := sw.pv.c4; have x5 := sw.pv.c5
          have HN := Lib.hid (And.intro sw.hm yw.he)
          by_cases hc : checkP (⟨n0, n1, n2, n3, acc, es⟩ : Pk) = 0
          · have hP := yPut_ok (⟨n0, n1, n2, n3, acc, es⟩ : Pk) HPok.out am nm cm ae ne ce sw.hm yw.he W.heap.size u1 sw.low.size ((HV.out.on sw.low).tab) sw.om.mems yw.oe.ents hc
            obtain ⟨LP, hLP⟩ : ∃ LP, layPk (⟨n0, n1, n2, n3, acc, es⟩ : Pk) = LP := ⟨_, rfl⟩
            rw [hLP] at hP
            have HP := Lib.hid hP
            have HLP := Lib.hid hLP
            have HC := Lib.hid hc
            clear hP hLP hc sw yw
            dsimp only at HP
            go_wp2_with (go_at_call 12; refine HP.out.mono ?_; rintro r u2 ⟨a2, k2, c2, rfl, ho2, q2⟩; refine Hid.out ?_)
            refine Lib.hid ?_
            have st9 := HS1.out.on q2
            have ys9 := HY1.out.on q2
            have HV1 := Lib.hid (src_string ho2.src)
            have HV2 := Lib.hid (src_string (HBs.out.below st9.low (Nat.le_refl _)))
            clear x0 x1 x2 x3 x4 x5 HP HS1 HY1 ho2 q2
            by_cases hq : LP = b
            · have HVE : Hid (((⟨LP.toArray⟩ : ByteArray).toList == (⟨b.toArray⟩ : ByteArray).toList) = true) := Lib.hid (by rw [hq]; simp)
              have HRk : Hid (readOk b) := Lib.hid (by have := lay_read HPok.out HC.out; rw [HLP.out, hq] at this; exact this)
              clear hq
              have x0 := st9.pv.c0; have x1 := st9.pv.c1; have x2 := st9.pv.c2; have x3 := st9.pv.c3; have x4 := st9.pv.c4; have x5 := st9.pv.c5
              have t0 := st9.zr.c0; have t1 := st9.zr.c1; have t2 := st9.zr.c2; have t3 := st9.zr.c3; have t4 := st9.zr.c4; have t5 := st9.zr.c5; have t6 := st9.zr.f 0; have t7 := st9.zr.f 1; have t8 := st9.zr.f 2; have t9 := st9.zr.f 3; have t10 := st9.zr.f 4; have t11 := st9.zr.f 5; have t12 := st9.zr.lt
              have HF := Lib.hid (st9.zr.store n0 n1 n2 n3 am nm cm ae ne ce)
              have omF := st9.om.turn (stP_grown u2 W.heap.size n0 n1 n2 n3 am nm cm ae ne ce) (by omega)
              have oeF := ys9.oe.turn (stP_grown u2 W.heap.size n0 n1 n2 n3 am nm cm ae ne ce) (by omega)
              have HQ := Lib.hid (And.intro omF.mems (And.intro oeF.ents (stP_below st9.low (Nat.le_refl _) n0 n1 n2 n3 am nm cm ae ne ce)))
              clear omF oeF st9 ys9
              generalize (⟨LP.toArray⟩ : ByteArray) = K1 at *
              generalize (⟨b.toArray⟩ : ByteArray) = K2 at *
              go_wp2_with fail
              rw [HV1.out]
              go_simp
              go_wp2_with fail
              rw [HV2.out]
              have hve := HVE.out
              go_simp
              go_wp2
              unfold stP at HF HQ
              refine bodyPost_ret (v := .tuple #[.agg #[.int .u8 n0, .int .u16 n1, .int .u16 n2, .int .i64 n3, .slice am nm cm, .slice ae ne ce], .int .i64 0]) (by have hf := HF.out; have k0 := hf.c0; have k1 := hf.c1; have k2 := hf.c2; have k3 := hf.c3; have k4 := hf.c4; have k5 := hf.c5; simp [results, Tryd.results16, go_sem, k0, k1, k2, k3, k4, k5]) rfl ?_
              refine ⟨fun h => ?_, fun h => absurd HRk.out h, HQ.out.2.2⟩
              rw [← HPeq.out h]
              exact ⟨am, nm, cm, ae, ne, ce, rfl, HN.out.1, HN.out.2, HQ.out.1, HQ.out.2.1⟩
            · have HNR : Hid (¬ readOk b) := Lib.hid (fun h => by
                have h1 := HPeq.out h
                exact hq (by rw [← HLP.out, h1]; exact h.2.2))
              have HVE : Hid (((⟨LP.toArray⟩ : ByteArray).toList == (⟨b.toArray⟩ : ByteArray).toList) = false) := Lib.hid (by simpa using hq)
              clear hq ys9
              generalize (⟨LP.toArray⟩ : ByteArray) = K1 at *
              generalize (⟨b.toArray⟩ : ByteArray) = K2 at *
              have t0 := st9.zr.c0; have t1 := st9.zr.c1; have t2 := st9.zr.c2; have t3 := st9.zr.c3; have t4 := st9.zr.c4; have t5 := st9.zr.c5; have t6 := st9.zr.f 0; have t7 := st9.zr.f 1; have t8 := st9.zr.f 2; have t9 := st9.zr.f 3; have t10 := st9.zr.f 4; have t11 := st9.zr.f 5; have t12 := st9.zr.lt
              have HF := Lib.hid st9.none_
              clear st9
              go_wp2_with fail
              rw [HV1.out]
              go_simp
              go_wp2_with fail
              rw [HV2.out]
              have hve := HVE.out
              go_simp
              go_wp2
              unfold stP at HF
              refine bodyPost_ret (v := .tuple #[.agg #[.int .u8 0, .int .u16 0, .int .u16 0, .int .i64 0, .slice none 0 0, .slice none 0 0], .int .i64 14]) (by obtain ⟨hf, -⟩ := HF.out; have k0 := hf.c0; have k1 := hf.c1; have k2 := hf.c2; have k3 := hf.c3; have k4 := hf.c4; have k5 := hf.c5; simp [results, Tryd.results16, go_sem, k0, k1, k2, k3, k4, k5]) rfl ?_
              exact YrPost.no HNR.out HF.out.2
          · have hP := yPut_err (⟨n0, n1, n2, n3, acc, es⟩ : Pk) HPok.out am nm cm ae ne ce sw.hm yw.he W.heap.size u1 sw.low.size ((HV.out.on sw.low).tab) sw.om.mems yw.oe.ents hc
            have HNR : Hid (¬ readOk b) := Lib.hid (fun h => hc (by rw [HPeq.out h]; exact h.2.1))
            generalize checkP (⟨n0, n1, n2, n3, acc, es⟩ : Pk) = EC at *
            have hEC : (EC != 0) = true := by simpa using hc
            have HP := Lib.hid hP
            clear hP hc sw yw
            dsimp only at HP
            go_wp2_with (go_at_call 12; refine HP.out.mono ?_; rintro r u2 ⟨rfl, q2⟩; refine Hid.out ?_)
            refine Lib.hid ?_
            have st9 := HS1.out.on q2
            clear x0 x1 x2 x3 x4 x5 HP HS1 HY1 q2
            have t0 := st9.zr.c0; have t1 := st9.zr.c1; have t2 := st9.zr.c2; have t3 := st9.zr.c3; have t4 := st9.zr.c4; have t5 := st9.zr.c5; have t6 := st9.zr.f 0; have t7 := st9.zr.f 1; have t8 := st9.zr.f 2; have t9 := st9.zr.f 3; have t10 := st9.zr.f 4; have t11 := st9.zr.f 5; have t12 := st9.zr.lt
            have HF := Lib.hid st9.none_
            clear st9
            go_wp2
            unfold stP at HF
            refine bodyPost_ret (v := .tuple #[.agg #[.int .u8 0, .int .u16 0, .int .u16 0, .int .i64 0, .slice none 0 0, .slice none 0 0], .int .i64 14]) (by obtain ⟨hf, -⟩ := HF.out; have k0 := hf.c0; have k1 := hf.c1; have k2 := hf.c2; have k3 := hf.c3; have k4 := hf.c4; have k5 := hf.c5; simp [results, Tryd.results16, go_sem, k0, k1, k2, k3, k4, k5]) rfl ?_
            exact YrPost.no HNR.out HF.out.2
theorem yRead_any (W : World) (a : Option Addr) (c n : Nat) (b : List UInt8) (hn : n = b.length) (hc : n ≤ c) (hs : SrcAt W (.slice a n c) b) (hv : VarsOk W.heap.size W) :
    Calls Tryd.prog 16 #[.slice a n c] W (YrPost W b) := by
  by_cases hl : 16384 < n
  · exact yRead_long W a n c b hn hl
  · refine yRead_main W a c n b hn (by omega) ⟨by rw [← hn]; exact hs, by omega, by omega, fun h => absurd rfl h, fun h0 q hq => ?_⟩ hs hv
    rcases hs with ⟨-, rfl⟩ | ⟨q', c', e, hcl⟩
    · simp at h0
    · simp only [Value.slice.injEq] at e
      obtain ⟨e1, -, -⟩ := e
      rw [hq] at e1
      obtain rfl := Option.some.inj e1
      have := World.block_lt_of_cell? W _ (hcl 0 h0)
      rwa [add_block] at this

end Go.Proofs.YtchhdffehkcecaaDoor
