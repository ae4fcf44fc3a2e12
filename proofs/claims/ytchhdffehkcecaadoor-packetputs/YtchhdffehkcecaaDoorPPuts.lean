/-
  The walk of PacketPuts: a packet has the bytes that the reference lays, or the same error; it stays as it is.
-/
import Derived.Test.YtchhdffehkcecaaDoorP16
import Derived.Test.YtchhdffehkcecaaDoorP17
import Derived.Test.YtchhdffehkcecaaDoorPMore
namespace Go.Proofs.YtchhdffehkcecaaDoor
open Go Go.RowKit

set_option maxRecDepth 100000 in
set_option maxHeartbeats 8000000 in
theorem pputs_ok (p : Pk) (hp : p.Ok) (am : Option Addr) (nm cm : Nat) (ae : Option Addr) (ne ce : Nat) (hnm : nm = p.ms.length) (hne : ne = p.es.length) (W : World) (hv : VarsOk W.heap.size W) (hM : MemsAt W am p.ms) (hE : EntsAt W ae p.es) (hz1 : am = none → cm = 0) (hz2 : ae = none → ce = 0) (h2 : checkP p = 0) :
    Calls Tryd.prog 3 #[.agg #[.int .u8 p.k, .int .u16 p.f, .int .u16 p.a, .int .i64 p.q, .slice am nm cm, .slice ae ne ce]] W fun e w' => e = .returned (.bool true) ∧ Below W.heap.size W w' := by
  have HA : Hid (∀ w, Below W.heap.size W w → Calls Tryd.prog 9 #[] w fun e w' => e = .returned (.bool true) ∧ Below w.heap.size w w') := Lib.hid (fun w hw => pawake_any W.heap.size w hw.size (hv.on hw))
  have d1 := (Below.refl W.heap.size W).alloc (Nat.le_refl _) (.cells #[.int .u8 p.k, .int .u16 p.f, .int .u16 p.a, .int .i64 p.q, .slice am nm cm, .slice ae ne ce] 26)
  have s0 : BSt W (W.alloc (.cells #[.int .u8 p.k, .int .u16 p.f, .int .u16 p.a, .int .i64 p.q, .slice am nm cm, .slice ae ne ce] 26)) p am nm cm ae ne ce (.slice none 0 0) [] := ⟨PkBlk.new W _ _ _ _ _ _ _ _ _ _, hM.on d1, hE.onP d1, .inl ⟨rfl, rfl⟩, d1⟩
  have HLi : Hid (Calls Tryd.prog 8 #[.agg #[.int .u8 p.k, .int .u16 p.f, .int .u16 p.a, .int .i64 p.q, .slice am nm cm, .slice ae ne ce]] (W.alloc (.cells #[.int .u8 p.k, .int .u16 p.f, .int .u16 p.a, .int .i64 p.q, .slice am nm cm, .slice ae ne ce] 26)) (LPost nm p.es (W.alloc (.cells #[.int .u8 p.k, .int .u16 p.f, .int .u16 p.a, .int .i64 p.q, .slice am nm cm, .slice ae ne ce] 26)))) := Lib.hid (yLightP_any p.k p.f p.a p.q am nm cm ae ne ce p.es _ hne s0.es)
  have HCk : Hid (∀ w, MemsAt w am p.ms → EntsAt w ae p.es → Below W.heap.size W w → Calls Tryd.prog 13 #[.agg #[.int .u8 p.k, .int .u16 p.f, .int .u16 p.a, .int .i64 p.q, .slice am nm cm, .slice ae ne ce]] w fun e w' => e = .returned (.int .i64 (checkP p)) ∧ Below w.heap.size w w') := Lib.hid (fun w m1 m2 hw => pCheck_any p hp am nm cm ae ne ce hnm hne W.heap.size w hw.size ((hv.on hw).tab) m1 m2)
  have HCp : Hid (∀ w, nm ≤ 80 → ne ≤ 260 → MemsAt w am p.ms → EntsAt w ae p.es → Calls Tryd.prog 10 #[.agg #[.int .u8 p.k, .int .u16 p.f, .int .u16 p.a, .int .i64 p.q, .slice am nm cm, .slice ae ne ce]] w (CpPost p nm ne w)) := Lib.hid (fun w g1 g2 m1 m2 => yCopy_any p am nm cm ae ne ce hnm hne w m1 m2 hz1 hz2 (by omega) (by omega))
  have HSm : Hid (∀ w (bm : Option Addr) (c1 : Nat) (be : Option Addr) (c2 : Nat), nm ≤ 80 → ne ≤ 260 → MemsAt w bm p.ms → EntsAt w be p.es → MemsAt w am p.ms → EntsAt w ae p.es → Calls Tryd.prog 14 #[.agg #[.int .u8 p.k, .int .u16 p.f, .int .u16 p.a, .int .i64 p.q, .slice bm nm c1, .slice be ne c2], .agg #[.int .u8 p.k, .int .u16 p.f, .int .u16 p.a, .int .i64 p.q, .slice am nm cm, .slice ae ne ce]] w fun e w' => e = .returned (.bool true) ∧ Below w.heap.size w w') := Lib.hid (fun w bm c1 be c2 g1 g2 m1 m2 m3 m4 => by
    have := ySame_any p p bm nm c1 be ne c2 am nm cm ae ne ce w hnm hne hnm hne m1 m2 m3 m4 (by omega) (by omega)
    rw [sameP_refl] at this
    exact this)
  have HPP : Hid (∀ w (bm : Option Addr) (c1 : Nat) (be : Option Addr) (c2 : Nat), MemsAt w bm p.ms → EntsAt w be p.es → Below W.heap.size W w → Calls Tryd.prog 11 #[.agg #[.int .u8 p.k, .int .u16 p.f, .int .u16 p.a, .int .i64 p.q, .slice bm nm c1, .slice be ne c2]] w fun e w' => ∃ a n c, e = .returned (.tuple #[.slice a n c, .int .i64 0]) ∧ Own w' w.heap.size (.slice a n c) (layPk p) ∧ Below w.heap.size w w') := Lib.hid (fun w bm c1 be c2 m1 m2 hw => pPut_ok p hp bm nm c1 be ne c2 hnm hne W.heap.size w hw.size ((hv.on hw).tab) m1 m2 h2)
  have HYP : Hid (∀ w, MemsAt w am p.ms → EntsAt w ae p.es → Below W.heap.size W w → Calls Tryd.prog 12 #[.agg #[.int .u8 p.k, .int .u16 p.f, .int .u16 p.a, .int .i64 p.q, .slice am nm cm, .slice ae ne ce]] w fun e w' => ∃ a n c, e = .returned (.tuple #[.slice a n c, .int .i64 0]) ∧ OwnM w' w.heap.size (.slice a n c) (layPk p) ∧ Below w.heap.size w w') := Lib.hid (fun w m1 m2 hw => yPut_ok p hp am nm cm ae ne ce hnm hne W.heap.size w hw.size ((hv.on hw).tab) m1 m2 h2)
  rw [h2] at HCk
  generalize layPk p = LP at *
  have hKE : ((⟨LP.toArray⟩ : ByteArray).toList == (⟨LP.toArray⟩ : ByteArray).toList) = true := by simp
  unfold CpPost at HCp
  unfold LPost at HLi
  have HNM := Lib.hid (And.intro hnm hne)
  have HS0 := Lib.hid s0
  have x0 := HS0.out.blk.c0; have x1 := HS0.out.blk.c1; have x2 := HS0.out.blk.c2; have x3 := HS0.out.blk.c3; have x4 := HS0.out.blk.c4; have x5 := HS0.out.blk.c5
  clear hp hnm hne hv hM hE hz1 hz2 d1 s0 h2
  go_enter Tryd.func3, Tryd.ntmps3
  go_wp2_with (go_at_call 8; refine HLi.out.mono ?_; rintro e w1 ⟨r, rfl, hr, q1⟩; replace hr := Lib.hid hr; refine Hid.out ?_)
  refine Lib.hid ?_
  have HS1 := Lib.hid (HS0.out.on q1)
  clear x0 x1 x2 x3 x4 x5 HS0 HLi q1
  cases r with
  | false =>
    go_wp2_with (go_at_call 9; refine (HA.out _ HS1.out.low).mono ?_; rintro e w9 ⟨rfl, q9⟩; replace q9 := Lib.hid q9; refine Hid.out ?_)
    refine Lib.hid ?_
    go_wp2
    go_ret
    exact ⟨by first | rfl | simp, HS1.out.low.trans (q9.out.mono HS1.out.low.size)⟩
  | true =>
    have HG : Hid (nm ≤ 80 ∧ ne ≤ 260) := Lib.hid (by have h8 := hr.out (by simp); have h9 := HNM.out; exact ⟨h8.1, by omega⟩)
    have x0 := HS1.out.blk.c0; have x1 := HS1.out.blk.c1; have x2 := HS1.out.blk.c2; have x3 := HS1.out.blk.c3; have x4 := HS1.out.blk.c4; have x5 := HS1.out.blk.c5
    have HC1 := Lib.hid (HCp.out _ HG.out.1 HG.out.2 HS1.out.ms HS1.out.es)
    go_wp2_with (go_at_call 10; refine HC1.out.mono ?_; rintro e u ⟨bm, c1, be, c2, rfl, om, oe, q⟩; replace om := Lib.hid om; replace oe := Lib.hid oe; refine Hid.out ?_)
    refine Lib.hid ?_
    have hMu := om.out.mems
    have hEu := oe.out.ents
    have e1 := (Below.refl u.heap.size u).alloc (Nat.le_refl _) (.cells #[.int .u8 p.k, .int .u16 p.f, .int .u16 p.a, .int .i64 p.q, .slice bm nm c1, .slice be ne c2] 26)
    have c0 : BSt u (u.alloc (.cells #[.int .u8 p.k, .int .u16 p.f, .int .u16 p.a, .int .i64 p.q, .slice bm nm c1, .slice be ne c2] 26)) p bm nm c1 be ne c2 (.slice none 0 0) [] := ⟨PkBlk.new u _ _ _ _ _ _ _ _ _ _, hMu.on e1, hEu.onP e1, .inl ⟨rfl, rfl⟩, e1⟩
    have s2 := (HS1.out.on q).on e1
    have HP2 := Lib.hid (HPP.out _ bm c1 be c2 c0.ms c0.es s2.low)
    have HC0 := Lib.hid c0
    have HS2 := Lib.hid s2
    have y0 := c0.blk.c0; have y1 := c0.blk.c1; have y2 := c0.blk.c2; have y3 := c0.blk.c3; have y4 := c0.blk.c4; have y5 := c0.blk.c5
    clear x0 x1 x2 x3 x4 x5 HC1 HCp HPP HS1 hMu hEu om oe q e1 c0 s2 hr
    go_wp2_with (go_at_call 11; refine HP2.out.mono ?_; rintro e w3 ⟨a3, n3, k3, rfl, ho3, q3⟩; refine Hid.out ?_)
    refine Lib.hid ?_
    have HO3 := Lib.hid ho3.src
    have HC3 := Lib.hid (HC0.out.on q3)
    have HS3 := Lib.hid (HS2.out.on q3)
    clear y0 y1 y2 y3 y4 y5 HP2 HC0 HS2 q3 ho3
    have x0 := HS3.out.blk.c0; have x1 := HS3.out.blk.c1; have x2 := HS3.out.blk.c2; have x3 := HS3.out.blk.c3; have x4 := HS3.out.blk.c4; have x5 := HS3.out.blk.c5
    have HY3 := Lib.hid (HYP.out _ HS3.out.ms HS3.out.es HS3.out.low)
    go_wp2_with (go_at_call 12; refine HY3.out.mono ?_; rintro e w4 ⟨a4, n4, k4, rfl, ho4, q4⟩; refine Hid.out ?_)
    refine Lib.hid ?_
    have hc1 := src_string (HO3.out.below q4 (Nat.le_refl _))
    have hc2 := src_string ho4.src
    have HC4 := Lib.hid (HC3.out.on q4)
    have HS4 := Lib.hid (HS3.out.on q4)
    clear x0 x1 x2 x3 x4 x5 HY3 HYP HC3 HS3 HO3 q4 ho4
    generalize (⟨LP.toArray⟩ : ByteArray) = K at *
    have x0 := HS4.out.blk.c0; have x1 := HS4.out.blk.c1; have x2 := HS4.out.blk.c2; have x3 := HS4.out.blk.c3; have x4 := HS4.out.blk.c4; have x5 := HS4.out.blk.c5
    have HK4 := Lib.hid (HCk.out _ HS4.out.ms HS4.out.es HS4.out.low)
    go_wp2_with (go_at_call 13; refine HK4.out.mono ?_; rintro e w5 ⟨rfl, q5⟩; refine Hid.out ?_)
    refine Lib.hid ?_
    have HC5 := Lib.hid (HC4.out.on q5)
    have HS5 := Lib.hid (HS4.out.on q5)
    clear x0 x1 x2 x3 x4 x5 HK4 HCk HC4 HS4 q5 hc1 hc2 hKE
    have x0 := HS5.out.blk.c0; have x1 := HS5.out.blk.c1; have x2 := HS5.out.blk.c2; have x3 := HS5.out.blk.c3; have x4 := HS5.out.blk.c4; have x5 := HS5.out.blk.c5
    have y0 := HC5.out.blk.c0; have y1 := HC5.out.blk.c1; have y2 := HC5.out.blk.c2; have y3 := HC5.out.blk.c3; have y4 := HC5.out.blk.c4; have y5 := HC5.out.blk.c5
    have HM5 := Lib.hid (HSm.out _ bm c1 be c2 HG.out.1 HG.out.2 HC5.out.ms HC5.out.es HS5.out.ms HS5.out.es)
    go_wp2_with (go_at_call 14; refine HM5.out.mono ?_; rintro e w6 ⟨rfl, q6⟩; refine Hid.out ?_)
    refine Lib.hid ?_
    have HS6 := Lib.hid (HS5.out.on q6)
    clear x0 x1 x2 x3 x4 x5 y0 y1 y2 y3 y4 y5 HM5 HSm HC5 HS5 q6
    go_wp2_with (go_at_call 9; refine (HA.out _ HS6.out.low).mono ?_; rintro e w9 ⟨rfl, q9⟩; replace q9 := Lib.hid q9; refine Hid.out ?_)
    refine Lib.hid ?_
    go_wp2
    go_ret
    exact ⟨by first | rfl | simp, HS6.out.low.trans (q9.out.mono HS6.out.low.size)⟩
set_option maxRecDepth 100000 in
set_option maxHeartbeats 8000000 in
theorem pputs_err (p : Pk) (hp : p.Ok) (am : Option Addr) (nm cm : Nat) (ae : Option Addr) (ne ce : Nat) (hnm : nm = p.ms.length) (hne : ne = p.es.length) (W : World) (hv : VarsOk W.heap.size W) (hM : MemsAt W am p.ms) (hE : EntsAt W ae p.es) (hz1 : am = none → cm = 0) (hz2 : ae = none → ce = 0) (h2 : checkP p ≠ 0) :
    Calls Tryd.prog 3 #[.agg #[.int .u8 p.k, .int .u16 p.f, .int .u16 p.a, .int .i64 p.q, .slice am nm cm, .slice ae ne ce]] W fun e w' => e = .returned (.bool true) ∧ Below W.heap.size W w' := by
  have HA : Hid (∀ w, Below W.heap.size W w → Calls Tryd.prog 9 #[] w fun e w' => e = .returned (.bool true) ∧ Below w.heap.size w w') := Lib.hid (fun w hw => pawake_any W.heap.size w hw.size (hv.on hw))
  have d1 := (Below.refl W.heap.size W).alloc (Nat.le_refl _) (.cells #[.int .u8 p.k, .int .u16 p.f, .int .u16 p.a, .int .i64 p.q, .slice am nm cm, .slice ae ne ce] 26)
  have s0 : BSt W (W.alloc (.cells #[.int .u8 p.k, .int .u16 p.f, .int .u16 p.a, .int .i64 p.q, .slice am nm cm, .slice ae ne ce] 26)) p am nm cm ae ne ce (.slice none 0 0) [] := ⟨PkBlk.new W _ _ _ _ _ _ _ _ _ _, hM.on d1, hE.onP d1, .inl ⟨rfl, rfl⟩, d1⟩
  have HLi : Hid (Calls Tryd.prog 8 #[.agg #[.int .u8 p.k, .int .u16 p.f, .int .u16 p.a, .int .i64 p.q, .slice am nm cm, .slice ae ne ce]] (W.alloc (.cells #[.int .u8 p.k, .int .u16 p.f, .int .u16 p.a, .int .i64 p.q, .slice am nm cm, .slice ae ne ce] 26)) (LPost nm p.es (W.alloc (.cells #[.int .u8 p.k, .int .u16 p.f, .int .u16 p.a, .int .i64 p.q, .slice am nm cm, .slice ae ne ce] 26)))) := Lib.hid (yLightP_any p.k p.f p.a p.q am nm cm ae ne ce p.es _ hne s0.es)
  have HCk : Hid (∀ w, MemsAt w am p.ms → EntsAt w ae p.es → Below W.heap.size W w → Calls Tryd.prog 13 #[.agg #[.int .u8 p.k, .int .u16 p.f, .int .u16 p.a, .int .i64 p.q, .slice am nm cm, .slice ae ne ce]] w fun e w' => e = .returned (.int .i64 (checkP p)) ∧ Below w.heap.size w w') := Lib.hid (fun w m1 m2 hw => pCheck_any p hp am nm cm ae ne ce hnm hne W.heap.size w hw.size ((hv.on hw).tab) m1 m2)
  have HCp : Hid (∀ w, nm ≤ 80 → ne ≤ 260 → MemsAt w am p.ms → EntsAt w ae p.es → Calls Tryd.prog 10 #[.agg #[.int .u8 p.k, .int .u16 p.f, .int .u16 p.a, .int .i64 p.q, .slice am nm cm, .slice ae ne ce]] w (CpPost p nm ne w)) := Lib.hid (fun w g1 g2 m1 m2 => yCopy_any p am nm cm ae ne ce hnm hne w m1 m2 hz1 hz2 (by omega) (by omega))
  have HSm : Hid (∀ w (bm : Option Addr) (c1 : Nat) (be : Option Addr) (c2 : Nat), nm ≤ 80 → ne ≤ 260 → MemsAt w bm p.ms → EntsAt w be p.es → MemsAt w am p.ms → EntsAt w ae p.es → Calls Tryd.prog 14 #[.agg #[.int .u8 p.k, .int .u16 p.f, .int .u16 p.a, .int .i64 p.q, .slice bm nm c1, .slice be ne c2], .agg #[.int .u8 p.k, .int .u16 p.f, .int .u16 p.a, .int .i64 p.q, .slice am nm cm, .slice ae ne ce]] w fun e w' => e = .returned (.bool true) ∧ Below w.heap.size w w') := Lib.hid (fun w bm c1 be c2 g1 g2 m1 m2 m3 m4 => by
    have := ySame_any p p bm nm c1 be ne c2 am nm cm ae ne ce w hnm hne hnm hne m1 m2 m3 m4 (by omega) (by omega)
    rw [sameP_refl] at this
    exact this)
  have HPP : Hid (∀ w (bm : Option Addr) (c1 : Nat) (be : Option Addr) (c2 : Nat), MemsAt w bm p.ms → EntsAt w be p.es → Below W.heap.size W w → Calls Tryd.prog 11 #[.agg #[.int .u8 p.k, .int .u16 p.f, .int .u16 p.a, .int .i64 p.q, .slice bm nm c1, .slice be ne c2]] w fun e w' => e = .returned (.tuple #[.slice none 0 0, .int .i64 (checkP p)]) ∧ Below w.heap.size w w') := Lib.hid (fun w bm c1 be c2 m1 m2 hw => pPut_err p hp bm nm c1 be ne c2 hnm hne W.heap.size w hw.size ((hv.on hw).tab) m1 m2 h2)
  have HYP : Hid (∀ w, MemsAt w am p.ms → EntsAt w ae p.es → Below W.heap.size W w → Calls Tryd.prog 12 #[.agg #[.int .u8 p.k, .int .u16 p.f, .int .u16 p.a, .int .i64 p.q, .slice am nm cm, .slice ae ne ce]] w fun e w' => e = .returned (.tuple #[.slice none 0 0, .int .i64 (checkP p)]) ∧ Below w.heap.size w w') := Lib.hid (fun w m1 m2 hw => yPut_err p hp am nm cm ae ne ce hnm hne W.heap.size w hw.size ((hv.on hw).tab) m1 m2 h2)
  have hcz := fun w => run_convert_bytes_zero (P := Tryd.prog) w 30 5 Tryd.underlying30 Tryd.underlying5 none 0 9 Tryd.underlying9
  generalize checkP p = E at *
  have hKE : ((⟨#[]⟩ : ByteArray).toList == (⟨#[]⟩ : ByteArray).toList) = true := by simp
  have hEE : ((E : Int) == E) = true := by simp
  unfold CpPost at HCp
  unfold LPost at HLi
  have HNM := Lib.hid (And.intro hnm hne)
  have HS0 := Lib.hid s0
  have x0 := HS0.out.blk.c0; have x1 := HS0.out.blk.c1; have x2 := HS0.out.blk.c2; have x3 := HS0.out.blk.c3; have x4 := HS0.out.blk.c4; have x5 := HS0.out.blk.c5
  clear hp hnm hne hv hM hE hz1 hz2 d1 s0 h2
  go_enter Tryd.func3, Tryd.ntmps3
  go_wp2_with (go_at_call 8; refine HLi.out.mono ?_; rintro e w1 ⟨r, rfl, hr, q1⟩; replace hr := Lib.hid hr; refine Hid.out ?_)
  refine Lib.hid ?_
  have HS1 := Lib.hid (HS0.out.on q1)
  clear x0 x1 x2 x3 x4 x5 HS0 HLi q1
  cases r with
  | false =>
    go_wp2_with (go_at_call 9; refine (HA.out _ HS1.out.low).mono ?_; rintro e w9 ⟨rfl, q9⟩; replace q9 := Lib.hid q9; refine Hid.out ?_)
    refine Lib.hid ?_
    go_wp2
    go_ret
    exact ⟨by first | rfl | simp, HS1.out.low.trans (q9.out.mono HS1.out.low.size)⟩
  | true =>
    have HG : Hid (nm ≤ 80 ∧ ne ≤ 260) := Lib.hid (by have h8 := hr.out (by simp); have h9 := HNM.out; exact ⟨h8.1, by omega⟩)
    have x0 := HS1.out.blk.c0; have x1 := HS1.out.blk.c1; have x2 := HS1.out.blk.c2; have x3 := HS1.out.blk.c3; have x4 := HS1.out.blk.c4; have x5 := HS1.out.blk.c5
    have HC1 := Lib.hid (HCp.out _ HG.out.1 HG.out.2 HS1.out.ms HS1.out.es)
    go_wp2_with (go_at_call 10; refine HC1.out.mono ?_; rintro e u ⟨bm, c1, be, c2, rfl, om, oe, q⟩; replace om := Lib.hid om; replace oe := Lib.hid oe; refine Hid.out ?_)
    refine Lib.hid ?_
    have hMu := om.out.mems
    have hEu := oe.out.ents
    have e1 := (Below.refl u.heap.size u).alloc (Nat.le_refl _) (.cells #[.int .u8 p.k, .int .u16 p.f, .int .u16 p.a, .int .i64 p.q, .slice bm nm c1, .slice be ne c2] 26)
    have c0 : BSt u (u.alloc (.cells #[.int .u8 p.k, .int .u16 p.f, .int .u16 p.a, .int .i64 p.q, .slice bm nm c1, .slice be ne c2] 26)) p bm nm c1 be ne c2 (.slice none 0 0) [] := ⟨PkBlk.new u _ _ _ _ _ _ _ _ _ _, hMu.on e1, hEu.onP e1, .inl ⟨rfl, rfl⟩, e1⟩
    have s2 := (HS1.out.on q).on e1
    have HP2 := Lib.hid (HPP.out _ bm c1 be c2 c0.ms c0.es s2.low)
    have HC0 := Lib.hid c0
    have HS2 := Lib.hid s2
    have y0 := c0.blk.c0; have y1 := c0.blk.c1; have y2 := c0.blk.c2; have y3 := c0.blk.c3; have y4 := c0.blk.c4; have y5 := c0.blk.c5
    clear x0 x1 x2 x3 x4 x5 HC1 HCp HPP HS1 hMu hEu om oe q e1 c0 s2 hr
    go_wp2_with (go_at_call 11; refine HP2.out.mono ?_; rintro e w3 ⟨rfl, q3⟩; refine Hid.out ?_)
    refine Lib.hid ?_
    have HC3 := Lib.hid (HC0.out.on q3)
    have HS3 := Lib.hid (HS2.out.on q3)
    clear y0 y1 y2 y3 y4 y5 HP2 HC0 HS2 q3
    have x0 := HS3.out.blk.c0; have x1 := HS3.out.blk.c1; have x2 := HS3.out.blk.c2; have x3 := HS3.out.blk.c3; have x4 := HS3.out.blk.c4; have x5 := HS3.out.blk.c5
    have HY3 := Lib.hid (HYP.out _ HS3.out.ms HS3.out.es HS3.out.low)
    go_wp2_with (go_at_call 12; refine HY3.out.mono ?_; rintro e w4 ⟨rfl, q4⟩; refine Hid.out ?_)
    refine Lib.hid ?_
    have hc1 := hcz w4
    have HC4 := Lib.hid (HC3.out.on q4)
    have HS4 := Lib.hid (HS3.out.on q4)
    clear x0 x1 x2 x3 x4 x5 HY3 HYP HC3 HS3 q4 hcz
    have x0 := HS4.out.blk.c0; have x1 := HS4.out.blk.c1; have x2 := HS4.out.blk.c2; have x3 := HS4.out.blk.c3; have x4 := HS4.out.blk.c4; have x5 := HS4.out.blk.c5
    have HK4 := Lib.hid (HCk.out _ HS4.out.ms HS4.out.es HS4.out.low)
    go_wp2_with (go_at_call 13; refine HK4.out.mono ?_; rintro e w5 ⟨rfl, q5⟩; refine Hid.out ?_)
    refine Lib.hid ?_
    have HC5 := Lib.hid (HC4.out.on q5)
    have HS5 := Lib.hid (HS4.out.on q5)
    clear x0 x1 x2 x3 x4 x5 HK4 HCk HC4 HS4 q5 hc1 hKE hEE
    have x0 := HS5.out.blk.c0; have x1 := HS5.out.blk.c1; have x2 := HS5.out.blk.c2; have x3 := HS5.out.blk.c3; have x4 := HS5.out.blk.c4; have x5 := HS5.out.blk.c5
    have y0 := HC5.out.blk.c0; have y1 := HC5.out.blk.c1; have y2 := HC5.out.blk.c2; have y3 := HC5.out.blk.c3; have y4 := HC5.out.blk.c4; have y5 := HC5.out.blk.c5
    have HM5 := Lib.hid (HSm.out _ bm c1 be c2 HG.out.1 HG.out.2 HC5.out.ms HC5.out.es HS5.out.ms HS5.out.es)
    go_wp2_with (go_at_call 14; refine HM5.out.mono ?_; rintro e w6 ⟨rfl, q6⟩; refine Hid.out ?_)
    refine Lib.hid ?_
    have HS6 := Lib.hid (HS5.out.on q6)
    clear x0 x1 x2 x3 x4 x5 y0 y1 y2 y3 y4 y5 HM5 HSm HC5 HS5 q6
    go_wp2_with (go_at_call 9; refine (HA.out _ HS6.out.low).mono ?_; rintro e w9 ⟨rfl, q9⟩; replace q9 := Lib.hid q9; refine Hid.out ?_)
    refine Lib.hid ?_
    go_wp2
    go_ret
    exact ⟨by first | rfl | simp, HS6.out.low.trans (q9.out.mono HS6.out.low.size)⟩
theorem pputs_walk (p : Pk) (hp : p.Ok) (am : Option Addr) (nm cm : Nat) (ae : Option Addr) (ne ce : Nat) (hnm : nm = p.ms.length) (hne : ne = p.es.length) (W : World) (hv : VarsOk W.heap.size W) (hM : MemsAt W am p.ms) (hE : EntsAt W ae p.es) (hz1 : am = none → cm = 0) (hz2 : ae = none → ce = 0) :
    Calls Tryd.prog 3 #[.agg #[.int .u8 p.k, .int .u16 p.f, .int .u16 p.a, .int .i64 p.q, .slice am nm cm, .slice ae ne ce]] W fun e w' => e = .returned (.bool true) ∧ Below W.heap.size W w' := by
  by_cases h2 : checkP p = 0
  · exact pputs_ok p hp am nm cm ae ne ce hnm hne W hv hM hE hz1 hz2 h2
  · exact pputs_err p hp am nm cm ae ne ce hnm hne W hv hM hE hz1 hz2 h2

end Go.Proofs.YtchhdffehkcecaaDoor
