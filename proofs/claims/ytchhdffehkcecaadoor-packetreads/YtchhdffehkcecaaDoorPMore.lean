/-
  The walk of PacketMore: a packet with one entry less, or one member less, may be if it may.
-/
import Derived.Test.YtchhdffehkcecaaDoorP13
namespace Go.Proofs.YtchhdffehkcecaaDoor
open Go Go.RowKit

set_option maxRecDepth 100000 in
set_option maxHeartbeats 8000000 in
theorem pmore_no (p : Pk) (hp : p.Ok) (am : Option Addr) (nm cm : Nat) (ae : Option Addr) (ne ce : Nat) (hnm : nm = p.ms.length) (hne : ne = p.es.length) (W : World) (hv : VarsOk W.heap.size W) (hM : MemsAt W am p.ms) (hE : EntsAt W ae p.es) (h2 : checkP p ≠ 0) :
    Calls Tryd.prog 7 #[.agg #[.int .u8 p.k, .int .u16 p.f, .int .u16 p.a, .int .i64 p.q, .slice am nm cm, .slice ae ne ce]] W fun e w' => e = .returned (.bool true) ∧ Below W.heap.size W w' := by
  have HA : Hid (∀ w, Below W.heap.size W w → Calls Tryd.prog 9 #[] w fun e w' => e = .returned (.bool true) ∧ Below w.heap.size w w') := Lib.hid (fun w hw => pawake_any W.heap.size w hw.size (hv.on hw))
  have d1 := (Below.refl W.heap.size W).alloc (Nat.le_refl _) (.cells #[.int .u8 p.k, .int .u16 p.f, .int .u16 p.a, .int .i64 p.q, .slice am nm cm, .slice ae ne ce] 26)
  have s0 : BSt W (W.alloc (.cells #[.int .u8 p.k, .int .u16 p.f, .int .u16 p.a, .int .i64 p.q, .slice am nm cm, .slice ae ne ce] 26)) p am nm cm ae ne ce (.slice none 0 0) [] := ⟨PkBlk.new W _ _ _ _ _ _ _ _ _ _, hM.on d1, hE.onP d1, .inl ⟨rfl, rfl⟩, d1⟩
  have HLi : Hid (Calls Tryd.prog 8 #[.agg #[.int .u8 p.k, .int .u16 p.f, .int .u16 p.a, .int .i64 p.q, .slice am nm cm, .slice ae ne ce]] (W.alloc (.cells #[.int .u8 p.k, .int .u16 p.f, .int .u16 p.a, .int .i64 p.q, .slice am nm cm, .slice ae ne ce] 26)) (LPost nm p.es (W.alloc (.cells #[.int .u8 p.k, .int .u16 p.f, .int .u16 p.a, .int .i64 p.q, .slice am nm cm, .slice ae ne ce] 26)))) := Lib.hid (yLightP_any p.k p.f p.a p.q am nm cm ae ne ce p.es _ hne s0.es)
  have HCk : Hid (∀ w, MemsAt w am p.ms → EntsAt w ae p.es → Below W.heap.size W w → Calls Tryd.prog 13 #[.agg #[.int .u8 p.k, .int .u16 p.f, .int .u16 p.a, .int .i64 p.q, .slice am nm cm, .slice ae ne ce]] w fun e w' => e = .returned (.int .i64 (checkP p)) ∧ Below w.heap.size w w') := Lib.hid (fun w m1 m2 hw => pCheck_any p hp am nm cm ae ne ce hnm hne W.heap.size w hw.size ((hv.on hw).tab) m1 m2)
  unfold LPost at HLi
  generalize checkP p = E at *
  have g2 : ((E : Int) != 0) = true := by simpa using h2
  clear h2
  have HS0 := Lib.hid s0
  have x0 := HS0.out.blk.c0; have x1 := HS0.out.blk.c1; have x2 := HS0.out.blk.c2; have x3 := HS0.out.blk.c3; have x4 := HS0.out.blk.c4; have x5 := HS0.out.blk.c5
  clear hp hnm hne hv hM hE d1 s0
  go_enter Tryd.func7, Tryd.ntmps7
  go_wp2_with (go_at_call 8; refine HLi.out.mono ?_; rintro e w1 ⟨r, rfl, hr, q1⟩; replace hr := Lib.hid hr; refine Hid.out ?_)
  refine Lib.hid ?_
  have HS1 := Lib.hid (HS0.out.on q1)
  clear x0 x1 x2 x3 x4 x5 HS0 HLi q1
  cases r with
  | false =>
    go_wp2_with (go_at_call 9; refine (HA.out _ HS1.out.low).mono ?_; rintro e w9 ⟨rfl, q9⟩; replace q9 := Lib.hid q9; refine Hid.out ?_)
    refine Lib.hid ?_
    go_wp2
    go_ret
    exact ⟨by first | rfl | simp, HS1.out.low.trans (q9.out.mono HS1.out.low.size)⟩
  | true =>
    have x0 := HS1.out.blk.c0; have x1 := HS1.out.blk.c1; have x2 := HS1.out.blk.c2; have x3 := HS1.out.blk.c3; have x4 := HS1.out.blk.c4; have x5 := HS1.out.blk.c5
    have HC1 := Lib.hid (HCk.out _ HS1.out.ms HS1.out.es HS1.out.low)
    go_wp2_with (go_at_call 13; refine HC1.out.mono ?_; rintro e w2 ⟨rfl, q2⟩; refine Hid.out ?_)
    refine Lib.hid ?_
    have HS2 := Lib.hid (HS1.out.on q2)
    clear x0 x1 x2 x3 x4 x5 HS1 HC1 HCk q2
    go_wp2_with (go_at_call 9; refine (HA.out _ HS2.out.low).mono ?_; rintro e w9 ⟨rfl, q9⟩; replace q9 := Lib.hid q9; refine Hid.out ?_)
    refine Lib.hid ?_
    go_wp2
    go_ret
    exact ⟨by first | rfl | simp, HS2.out.low.trans (q9.out.mono HS2.out.low.size)⟩
theorem OwnMx.mems {w : World} {B : Nat} {a : Option Addr} {n c : Nat} {L : List Mem} (h : OwnMx w B (.slice a n c) L) : MemsAt w a L := by
  obtain ⟨x, y, e, -, -, hat⟩ := h.form
  simp only [Value.slice.injEq] at e
  rw [e.1]
  exact hat
theorem OwnEx.ents {w : World} {B : Nat} {a : Option Addr} {n c : Nat} {L : List Ent} (h : OwnEx w B (.slice a n c) L) : EntsAt w a L := by
  obtain ⟨x, y, e, -, -, hat⟩ := h.form
  simp only [Value.slice.injEq] at e
  rw [e.1]
  exact hat
set_option maxRecDepth 100000 in
set_option maxHeartbeats 8000000 in
theorem pmore_00 (p : Pk) (hp : p.Ok) (am : Option Addr) (nm cm : Nat) (ae : Option Addr) (ne ce : Nat) (hnm : nm = p.ms.length) (hne : ne = p.es.length) (W : World) (hv : VarsOk W.heap.size W) (hM : MemsAt W am p.ms) (hE : EntsAt W ae p.es) (hz1 : am = none → cm = 0) (hz2 : ae = none → ce = 0) (h2 : checkP p = 0) (hte : ne = 0) (htm : nm = 0) :
    Calls Tryd.prog 7 #[.agg #[.int .u8 p.k, .int .u16 p.f, .int .u16 p.a, .int .i64 p.q, .slice am nm cm, .slice ae ne ce]] W fun e w' => e = .returned (.bool true) ∧ Below W.heap.size W w' := by
  have HA : Hid (∀ w, Below W.heap.size W w → Calls Tryd.prog 9 #[] w fun e w' => e = .returned (.bool true) ∧ Below w.heap.size w w') := Lib.hid (fun w hw => pawake_any W.heap.size w hw.size (hv.on hw))
  have d1 := (Below.refl W.heap.size W).alloc (Nat.le_refl _) (.cells #[.int .u8 p.k, .int .u16 p.f, .int .u16 p.a, .int .i64 p.q, .slice am nm cm, .slice ae ne ce] 26)
  have s0 : BSt W (W.alloc (.cells #[.int .u8 p.k, .int .u16 p.f, .int .u16 p.a, .int .i64 p.q, .slice am nm cm, .slice ae ne ce] 26)) p am nm cm ae ne ce (.slice none 0 0) [] := ⟨PkBlk.new W _ _ _ _ _ _ _ _ _ _, hM.on d1, hE.onP d1, .inl ⟨rfl, rfl⟩, d1⟩
  have HLi : Hid (Calls Tryd.prog 8 #[.agg #[.int .u8 p.k, .int .u16 p.f, .int .u16 p.a, .int .i64 p.q, .slice am nm cm, .slice ae ne ce]] (W.alloc (.cells #[.int .u8 p.k, .int .u16 p.f, .int .u16 p.a, .int .i64 p.q, .slice am nm cm, .slice ae ne ce] 26)) (LPost nm p.es (W.alloc (.cells #[.int .u8 p.k, .int .u16 p.f, .int .u16 p.a, .int .i64 p.q, .slice am nm cm, .slice ae ne ce] 26)))) := Lib.hid (yLightP_any p.k p.f p.a p.q am nm cm ae ne ce p.es _ hne s0.es)
  have HCk : Hid (∀ w, MemsAt w am p.ms → EntsAt w ae p.es → Below W.heap.size W w → Calls Tryd.prog 13 #[.agg #[.int .u8 p.k, .int .u16 p.f, .int .u16 p.a, .int .i64 p.q, .slice am nm cm, .slice ae ne ce]] w fun e w' => e = .returned (.int .i64 (checkP p)) ∧ Below w.heap.size w w') := Lib.hid (fun w m1 m2 hw => pCheck_any p hp am nm cm ae ne ce hnm hne W.heap.size w hw.size ((hv.on hw).tab) m1 m2)
  unfold LPost at HLi
  rw [h2] at HCk
  have hsm := checkP_zero h2
  have hs1 : nm ≤ 64 := by have h9 := hsm.2.1; simp only [memsP, Bool.and_eq_true, decide_eq_true_eq] at h9; omega
  have hs2 : ne ≤ 256 := by have := hsm.2.2.1; omega
  have HPP : Hid (∀ w, MemsAt w am p.ms → EntsAt w ae p.es → Below W.heap.size W w → Calls Tryd.prog 11 #[.agg #[.int .u8 p.k, .int .u16 p.f, .int .u16 p.a, .int .i64 p.q, .slice am nm cm, .slice ae ne ce]] w fun e w' => ∃ a n c, e = .returned (.tuple #[.slice a n c, .int .i64 0]) ∧ Own w' w.heap.size (.slice a n c) (layPk p) ∧ Below w.heap.size w w') := Lib.hid (fun w m1 m2 hw => pPut_ok p hp am nm cm ae ne ce hnm hne W.heap.size w hw.size ((hv.on hw).tab) m1 m2 h2)
  have HCp : Hid (∀ w, MemsAt w am p.ms → EntsAt w ae p.es → Calls Tryd.prog 10 #[.agg #[.int .u8 p.k, .int .u16 p.f, .int .u16 p.a, .int .i64 p.q, .slice am nm cm, .slice ae ne ce]] w (CpPost p nm ne w)) := Lib.hid (fun w m1 m2 => yCopy_any p am nm cm ae ne ce hnm hne w m1 m2 hz1 hz2 (by omega) (by omega))
  obtain ⟨N, hN⟩ : ∃ N, (layPk p).length = N := ⟨_, rfl⟩
  have hN1 : N ≤ 16384 := by have := hsm.2.2.2.2; omega
  unfold CpPost at HCp
  have HN := Lib.hid hN
  generalize layPk p = LP at *
  have HNM := Lib.hid (And.intro hnm hne)
  clear hsm h2 hs1 hs2 hN
  subst hte htm
  have HS0 := Lib.hid s0
  have x0 := HS0.out.blk.c0; have x1 := HS0.out.blk.c1; have x2 := HS0.out.blk.c2; have x3 := HS0.out.blk.c3; have x4 := HS0.out.blk.c4; have x5 := HS0.out.blk.c5
  clear hp hnm hne hv hM hE hz1 hz2 d1 s0
  go_enter Tryd.func7, Tryd.ntmps7
  go_wp2_with (go_at_call 8; refine HLi.out.mono ?_; rintro e w1 ⟨r, rfl, hr, q1⟩; replace hr := Lib.hid hr; refine Hid.out ?_)
  refine Lib.hid ?_
  have HS1 := Lib.hid (HS0.out.on q1)
  clear x0 x1 x2 x3 x4 x5 HS0 HLi q1
  cases r with
  | false =>
    go_wp2_with (go_at_call 9; refine (HA.out _ HS1.out.low).mono ?_; rintro e w9 ⟨rfl, q9⟩; replace q9 := Lib.hid q9; refine Hid.out ?_)
    refine Lib.hid ?_
    go_wp2
    go_ret
    exact ⟨by first | rfl | simp, HS1.out.low.trans (q9.out.mono HS1.out.low.size)⟩
  | true =>
    have x0 := HS1.out.blk.c0; have x1 := HS1.out.blk.c1; have x2 := HS1.out.blk.c2; have x3 := HS1.out.blk.c3; have x4 := HS1.out.blk.c4; have x5 := HS1.out.blk.c5
    have HC1 := Lib.hid (HCk.out _ HS1.out.ms HS1.out.es HS1.out.low)
    go_wp2_with (go_at_call 13; refine HC1.out.mono ?_; rintro e w2 ⟨rfl, q2⟩; refine Hid.out ?_)
    refine Lib.hid ?_
    have HS2 := Lib.hid (HS1.out.on q2)
    clear x0 x1 x2 x3 x4 x5 HS1 HC1 HCk q2
    have x0 := HS2.out.blk.c0; have x1 := HS2.out.blk.c1; have x2 := HS2.out.blk.c2; have x3 := HS2.out.blk.c3; have x4 := HS2.out.blk.c4; have x5 := HS2.out.blk.c5
    have HP2 := Lib.hid (HPP.out _ HS2.out.ms HS2.out.es HS2.out.low)
    go_wp2_with (go_at_call 11; refine HP2.out.mono ?_; rintro e w3 ⟨a3, n3, c3, rfl, ho3, q3⟩; refine Hid.out ?_)
    refine Lib.hid ?_
    have hn3 : n3 = N := (src_lenP ho3.src).trans HN.out
    subst hn3
    have HS3 := Lib.hid (HS2.out.on q3)
    clear x0 x1 x2 x3 x4 x5 HP2 HPP HS2 ho3 q3
    have x0 := HS3.out.blk.c0; have x1 := HS3.out.blk.c1; have x2 := HS3.out.blk.c2; have x3 := HS3.out.blk.c3; have x4 := HS3.out.blk.c4; have x5 := HS3.out.blk.c5
    go_wp2_with (go_at_call 9; refine (HA.out _ HS3.out.low).mono ?_; rintro e w9 ⟨rfl, q9⟩; replace q9 := Lib.hid q9; refine Hid.out ?_)
    refine Lib.hid ?_
    go_wp2
    go_ret
    exact ⟨by first | rfl | simp, HS3.out.low.trans (q9.out.mono HS3.out.low.size)⟩
set_option maxRecDepth 100000 in
set_option maxHeartbeats 8000000 in
theorem pmore_10 (p : Pk) (hp : p.Ok) (am : Option Addr) (nm cm : Nat) (ae : Option Addr) (ne ce : Nat) (hnm : nm = p.ms.length) (hne : ne = p.es.length) (W : World) (hv : VarsOk W.heap.size W) (hM : MemsAt W am p.ms) (hE : EntsAt W ae p.es) (hz1 : am = none → cm = 0) (hz2 : ae = none → ce = 0) (h2 : checkP p = 0) (te : Nat) (hte : ne = te + 1) (htm : nm = 0) :
    Calls Tryd.prog 7 #[.agg #[.int .u8 p.k, .int .u16 p.f, .int .u16 p.a, .int .i64 p.q, .slice am nm cm, .slice ae ne ce]] W fun e w' => e = .returned (.bool true) ∧ Below W.heap.size W w' := by
  have HA : Hid (∀ w, Below W.heap.size W w → Calls Tryd.prog 9 #[] w fun e w' => e = .returned (.bool true) ∧ Below w.heap.size w w') := Lib.hid (fun w hw => pawake_any W.heap.size w hw.size (hv.on hw))
  have d1 := (Below.refl W.heap.size W).alloc (Nat.le_refl _) (.cells #[.int .u8 p.k, .int .u16 p.f, .int .u16 p.a, .int .i64 p.q, .slice am nm cm, .slice ae ne ce] 26)
  have s0 : BSt W (W.alloc (.cells #[.int .u8 p.k, .int .u16 p.f, .int .u16 p.a, .int .i64 p.q, .slice am nm cm, .slice ae ne ce] 26)) p am nm cm ae ne ce (.slice none 0 0) [] := ⟨PkBlk.new W _ _ _ _ _ _ _ _ _ _, hM.on d1, hE.onP d1, .inl ⟨rfl, rfl⟩, d1⟩
  have HLi : Hid (Calls Tryd.prog 8 #[.agg #[.int .u8 p.k, .int .u16 p.f, .int .u16 p.a, .int .i64 p.q, .slice am nm cm, .slice ae ne ce]] (W.alloc (.cells #[.int .u8 p.k, .int .u16 p.f, .int .u16 p.a, .int .i64 p.q, .slice am nm cm, .slice ae ne ce] 26)) (LPost nm p.es (W.alloc (.cells #[.int .u8 p.k, .int .u16 p.f, .int .u16 p.a, .int .i64 p.q, .slice am nm cm, .slice ae ne ce] 26)))) := Lib.hid (yLightP_any p.k p.f p.a p.q am nm cm ae ne ce p.es _ hne s0.es)
  have HCk : Hid (∀ w, MemsAt w am p.ms → EntsAt w ae p.es → Below W.heap.size W w → Calls Tryd.prog 13 #[.agg #[.int .u8 p.k, .int .u16 p.f, .int .u16 p.a, .int .i64 p.q, .slice am nm cm, .slice ae ne ce]] w fun e w' => e = .returned (.int .i64 (checkP p)) ∧ Below w.heap.size w w') := Lib.hid (fun w m1 m2 hw => pCheck_any p hp am nm cm ae ne ce hnm hne W.heap.size w hw.size ((hv.on hw).tab) m1 m2)
  unfold LPost at HLi
  rw [h2] at HCk
  have hsm := checkP_zero h2
  have hs1 : nm ≤ 64 := by have h9 := hsm.2.1; simp only [memsP, Bool.and_eq_true, decide_eq_true_eq] at h9; omega
  have hs2 : ne ≤ 256 := by have := hsm.2.2.1; omega
  have HPP : Hid (∀ w, MemsAt w am p.ms → EntsAt w ae p.es → Below W.heap.size W w → Calls Tryd.prog 11 #[.agg #[.int .u8 p.k, .int .u16 p.f, .int .u16 p.a, .int .i64 p.q, .slice am nm cm, .slice ae ne ce]] w fun e w' => ∃ a n c, e = .returned (.tuple #[.slice a n c, .int .i64 0]) ∧ Own w' w.heap.size (.slice a n c) (layPk p) ∧ Below w.heap.size w w') := Lib.hid (fun w m1 m2 hw => pPut_ok p hp am nm cm ae ne ce hnm hne W.heap.size w hw.size ((hv.on hw).tab) m1 m2 h2)
  have HCp : Hid (∀ w, MemsAt w am p.ms → EntsAt w ae p.es → Calls Tryd.prog 10 #[.agg #[.int .u8 p.k, .int .u16 p.f, .int .u16 p.a, .int .i64 p.q, .slice am nm cm, .slice ae ne ce]] w (CpPost p nm ne w)) := Lib.hid (fun w m1 m2 => yCopy_any p am nm cm ae ne ce hnm hne w m1 m2 hz1 hz2 (by omega) (by omega))
  obtain ⟨N, hN⟩ : ∃ N, (layPk p).length = N := ⟨_, rfl⟩
  have hN1 : N ≤ 16384 := by have := hsm.2.2.2.2; omega
  unfold CpPost at HCp
  have hxe : te < p.es.length := by omega
  have HPE : Hid (∀ w (bm : Option Addr) (c1 : Nat) (be : Option Addr) (c2 : Nat), MemsAt w bm p.ms → EntsAt w be p.es → Below W.heap.size W w → Calls Tryd.prog 11 #[.agg #[.int .u8 p.k, .int .u16 p.f, .int .u16 p.a, .int .i64 p.q, .slice bm nm c1, .slice be te c2]] w fun e w' => ∃ a n c, e = .returned (.tuple #[.slice a n c, .int .i64 0]) ∧ Own w' w.heap.size (.slice a n c) (layPk (lessPE p te)) ∧ Below w.heap.size w w') := Lib.hid (fun w bm c1 be c2 m1 m2 hw => pPut_ok (lessPE p te) (lessPE_ok hp te) bm nm c1 be te c2 hnm (by simp only [lessPE, List.length_take]; omega) W.heap.size w hw.size ((hv.on hw).tab) m1 (m2.takeP te) (lessPE_check (by omega) h2))
  have HSz : Hid (∀ w, Below W.heap.size W w → Calls Tryd.prog 17 #[.agg #[.string p.es[te].k, .int .i64 p.es[te].t, .int .u16 p.es[te].o, .string p.es[te].v, .int .i64 p.es[te].u]] w fun e w' => e = .returned (.int .i64 ((putEn p.es[te]).length : Int)) ∧ Below w.heap.size w w') := Lib.hid (fun w hw => pSize_any p.es[te] (hp.es _ (List.getElem_mem hxe)) (by have := checkEn_small (entsP_all hsm.2.2.2.1 _ (List.getElem_mem hxe)); omega) (by have := checkEn_small (entsP_all hsm.2.2.2.1 _ (List.getElem_mem hxe)); omega) W.heap.size w hw.size ((hv.on hw).tab))
  have hle := lessPE_len (p := p) (t := te) (by omega)
  have HCE : Hid (∀ w (be : Option Addr), EntsAt w be p.es → ∃ b o, be = some ⟨b, o, none⟩ ∧ w.cell? ⟨b, o + te * 5, none⟩ = some (.string p.es[te].k) ∧ w.cell? ⟨b, o + te * 5 + 1, none⟩ = some (.int .i64 p.es[te].t) ∧ w.cell? ⟨b, o + te * 5 + 2, none⟩ = some (.int .u16 p.es[te].o) ∧ w.cell? ⟨b, o + te * 5 + 3, none⟩ = some (.string p.es[te].v) ∧ w.cell? ⟨b, o + te * 5 + 4, none⟩ = some (.int .i64 p.es[te].u)) := Lib.hid (fun w be h => by
    obtain ⟨b, o, e, -, rest⟩ := h.cellsP te hxe
    exact ⟨b, o, e, rest⟩)
  obtain ⟨ze, hze⟩ : ∃ ze, (putEn p.es[te]).length = ze := ⟨_, rfl⟩
  obtain ⟨le, hll⟩ : ∃ le, (layPk (lessPE p te)).length = le := ⟨_, rfl⟩
  have we : IntKind.i64.wrap ((le : Int) + (ze : Int)) = (N : Int) := by rw [IntKind.wrap_i64]; omega
  have hte1 : te ≤ 256 := by omega
  rw [hze] at HSz
  have HLE := Lib.hid hll
  clear hle hze hll
  generalize layPk (lessPE p te) = LE at *
  generalize p.es[te] = X at *
  clear hxe
  have HN := Lib.hid hN
  generalize layPk p = LP at *
  have HNM := Lib.hid (And.intro hnm hne)
  clear hsm h2 hs1 hs2 hN
  subst hte htm
  have HS0 := Lib.hid s0
  have x0 := HS0.out.blk.c0; have x1 := HS0.out.blk.c1; have x2 := HS0.out.blk.c2; have x3 := HS0.out.blk.c3; have x4 := HS0.out.blk.c4; have x5 := HS0.out.blk.c5
  clear hp hnm hne hv hM hE hz1 hz2 d1 s0
  go_enter Tryd.func7, Tryd.ntmps7
  go_wp2_with (go_at_call 8; refine HLi.out.mono ?_; rintro e w1 ⟨r, rfl, hr, q1⟩; replace hr := Lib.hid hr; refine Hid.out ?_)
  refine Lib.hid ?_
  have HS1 := Lib.hid (HS0.out.on q1)
  clear x0 x1 x2 x3 x4 x5 HS0 HLi q1
  cases r with
  | false =>
    go_wp2_with (go_at_call 9; refine (HA.out _ HS1.out.low).mono ?_; rintro e w9 ⟨rfl, q9⟩; replace q9 := Lib.hid q9; refine Hid.out ?_)
    refine Lib.hid ?_
    go_wp2
    go_ret
    exact ⟨by first | rfl | simp, HS1.out.low.trans (q9.out.mono HS1.out.low.size)⟩
  | true =>
    have x0 := HS1.out.blk.c0; have x1 := HS1.out.blk.c1; have x2 := HS1.out.blk.c2; have x3 := HS1.out.blk.c3; have x4 := HS1.out.blk.c4; have x5 := HS1.out.blk.c5
    have HC1 := Lib.hid (HCk.out _ HS1.out.ms HS1.out.es HS1.out.low)
    go_wp2_with (go_at_call 13; refine HC1.out.mono ?_; rintro e w2 ⟨rfl, q2⟩; refine Hid.out ?_)
    refine Lib.hid ?_
    have HS2 := Lib.hid (HS1.out.on q2)
    clear x0 x1 x2 x3 x4 x5 HS1 HC1 HCk q2
    have x0 := HS2.out.blk.c0; have x1 := HS2.out.blk.c1; have x2 := HS2.out.blk.c2; have x3 := HS2.out.blk.c3; have x4 := HS2.out.blk.c4; have x5 := HS2.out.blk.c5
    have HP2 := Lib.hid (HPP.out _ HS2.out.ms HS2.out.es HS2.out.low)
    go_wp2_with (go_at_call 11; refine HP2.out.mono ?_; rintro e w3 ⟨a3, n3, c3, rfl, ho3, q3⟩; refine Hid.out ?_)
    refine Lib.hid ?_
    have hn3 : n3 = N := (src_lenP ho3.src).trans HN.out
    subst hn3
    have HS3 := Lib.hid (HS2.out.on q3)
    clear x0 x1 x2 x3 x4 x5 HP2 HPP HS2 ho3 q3
    have x0 := HS3.out.blk.c0; have x1 := HS3.out.blk.c1; have x2 := HS3.out.blk.c2; have x3 := HS3.out.blk.c3; have x4 := HS3.out.blk.c4; have x5 := HS3.out.blk.c5
    have HC_ := Lib.hid (HCp.out _ HS3.out.ms HS3.out.es)
    go_wp2_with (go_at_call 10; refine HC_.out.mono ?_; rintro e u ⟨bm, c1, be, c2, rfl, om, oe, q⟩; replace om := Lib.hid om; replace oe := Lib.hid oe; refine Hid.out ?_)
    refine Lib.hid ?_
    have hcap : te ≤ c2 := by have h7 := oe.out.cap; have h8 := HNM.out; omega
    have hMu := om.out.mems
    have hEu := oe.out.ents
    obtain ⟨bb, oo, hbe, k0, k1, k2, k3, k4⟩ := HCE.out _ _ hEu
    subst hbe
    have s5 := HS3.out.on q
    have l1 := PkBlk.new u p.k p.f p.a p.q bm 0 c1 (some ⟨bb, oo, none⟩) (te + 1) c2
    have d1 := (Below.refl u.heap.size u).alloc (Nat.le_refl _) (.cells #[.int .u8 p.k, .int .u16 p.f, .int .u16 p.a, .int .i64 p.q, .slice bm 0 c1, .slice (some ⟨bb, oo, none⟩) (te + 1) c2] 26)
    have d2 := (Below.refl (u.alloc (.cells #[.int .u8 p.k, .int .u16 p.f, .int .u16 p.a, .int .i64 p.q, .slice bm 0 c1, .slice (some ⟨bb, oo, none⟩) (te + 1) c2] 26)).heap.size (u.alloc (.cells #[.int .u8 p.k, .int .u16 p.f, .int .u16 p.a, .int .i64 p.q, .slice bm 0 c1, .slice (some ⟨bb, oo, none⟩) (te + 1) c2] 26))).alloc (Nat.le_refl _) (.cells #[.string X.k, .int .i64 X.t, .int .u16 X.o, .string X.v, .int .i64 X.u] 48)
    have l2 := l1.on d2
    have b2 := EBlk.new (u.alloc (.cells #[.int .u8 p.k, .int .u16 p.f, .int .u16 p.a, .int .i64 p.q, .slice bm 0 c1, .slice (some ⟨bb, oo, none⟩) (te + 1) c2] 26)) X
    rw [World.size_alloc] at b2
    have f1 := (Below.refl u.heap.size u).alloc (Nat.le_refl _) (.cells #[.int .u8 p.k, .int .u16 p.f, .int .u16 p.a, .int .i64 p.q, .slice bm 0 c1, .slice (some ⟨bb, oo, none⟩) te c2] 26)
    have f2 := (Below.refl (u.alloc (.cells #[.int .u8 p.k, .int .u16 p.f, .int .u16 p.a, .int .i64 p.q, .slice bm 0 c1, .slice (some ⟨bb, oo, none⟩) te c2] 26)).heap.size (u.alloc (.cells #[.int .u8 p.k, .int .u16 p.f, .int .u16 p.a, .int .i64 p.q, .slice bm 0 c1, .slice (some ⟨bb, oo, none⟩) te c2] 26))).alloc (Nat.le_refl _) (.cells #[.string X.k, .int .i64 X.t, .int .u16 X.o, .string X.v, .int .i64 X.u] 48)
    have l3 := (PkBlk.new u p.k p.f p.a p.q bm 0 c1 (some ⟨bb, oo, none⟩) te c2).on f2
    have b3 := EBlk.new (u.alloc (.cells #[.int .u8 p.k, .int .u16 p.f, .int .u16 p.a, .int .i64 p.q, .slice bm 0 c1, .slice (some ⟨bb, oo, none⟩) te c2] 26)) X
    rw [World.size_alloc] at b3
    have d3 : Below u.heap.size u ((u.alloc (.cells #[.int .u8 p.k, .int .u16 p.f, .int .u16 p.a, .int .i64 p.q, .slice bm 0 c1, .slice (some ⟨bb, oo, none⟩) te c2] 26)).alloc (.cells #[.string X.k, .int .i64 X.t, .int .u16 X.o, .string X.v, .int .i64 X.u] 48)) := f1.trans (f2.mono f1.size)
    have hsl := fun w => slice_toE (some ⟨bb, oo, none⟩) (te + 1) c2 te w hcap
    have wt : IntKind.i64.wrap ((te : Int) + 1 - 1) = (te : Int) := by rw [IntKind.wrap_i64]; omega
    have m0 := (d1.cell (p := ⟨bb, oo + te * 5, none⟩) (World.block_lt_of_cell? u _ k0)).trans k0; have m1 := (d1.cell (p := ⟨bb, oo + te * 5 + 1, none⟩) (World.block_lt_of_cell? u _ k1)).trans k1; have m2 := (d1.cell (p := ⟨bb, oo + te * 5 + 2, none⟩) (World.block_lt_of_cell? u _ k2)).trans k2; have m3 := (d1.cell (p := ⟨bb, oo + te * 5 + 3, none⟩) (World.block_lt_of_cell? u _ k3)).trans k3; have m4 := (d1.cell (p := ⟨bb, oo + te * 5 + 4, none⟩) (World.block_lt_of_cell? u _ k4)).trans k4
    have y1 := l1.c5; have y2 := l2.c5; have y3 := l2.f 5
    have ltu := l2.lt
    have HP_ := Lib.hid (HPE.out _ bm c1 (some ⟨bb, oo, none⟩) c2 (hMu.on d3) (hEu.onP d3) (s5.on d3).low)
    have HS_ := Lib.hid (And.intro (s5.on d3) b3)
    clear x0 x1 x2 x3 x4 x5 HC_ HS3 om oe q hMu hEu s5 d1 d2 d3 l1 l2 b2 b3 f1 f2 hcap k0 k1 k2 k3 k4
    have z0 := l3.c0; have z1 := l3.c1; have z2 := l3.c2; have z3 := l3.c3; have z4 := l3.c4; have z5 := l3.c5
    clear l3
    go_wp2_with (go_at_call 11; refine HP_.out.mono ?_; rintro e w8 ⟨a8, n8, c8, rfl, ho8, q8⟩; refine Hid.out ?_)
    refine Lib.hid ?_
    have hn8 : n8 = le := (src_lenP ho8.src).trans HLE.out
    subst hn8
    have s8 := HS_.out.1.on q8
    have b8 := HS_.out.2.on q8
    have HS8 := Lib.hid s8
    have v0 := b8.c0; have v1 := b8.c1; have v2 := b8.c2; have v3 := b8.c3; have v4 := b8.c4
    clear z0 z1 z2 z3 z4 z5 y1 y2 y3 ltu hsl wt m0 m1 m2 m3 m4 HP_ HS_ ho8 q8 s8 b8
    go_wp2_with (go_at_call 17; refine (HSz.out _ HS8.out.low).mono ?_; rintro e w9 ⟨rfl, q9⟩; refine Hid.out ?_)
    refine Lib.hid ?_
    have HSE := Lib.hid (HS8.out.on q9)
    clear v0 v1 v2 v3 v4 HS8 q9
    have x0 := HSE.out.blk.c0; have x1 := HSE.out.blk.c1; have x2 := HSE.out.blk.c2; have x3 := HSE.out.blk.c3; have x4 := HSE.out.blk.c4; have x5 := HSE.out.blk.c5
    go_wp2_with (go_at_call 9; refine (HA.out _ HSE.out.low).mono ?_; rintro e w9 ⟨rfl, q9⟩; replace q9 := Lib.hid q9; refine Hid.out ?_)
    refine Lib.hid ?_
    go_wp2
    go_ret
    exact ⟨by first | rfl | simp, HSE.out.low.trans (q9.out.mono HSE.out.low.size)⟩
set_option maxRecDepth 100000 in
set_option maxHeartbeats 8000000 in
theorem pmore_01 (p : Pk) (hp : p.Ok) (am : Option Addr) (nm cm : Nat) (ae : Option Addr) (ne ce : Nat) (hnm : nm = p.ms.length) (hne : ne = p.es.length) (W : World) (hv : VarsOk W.heap.size W) (hM : MemsAt W am p.ms) (hE : EntsAt W ae p.es) (hz1 : am = none → cm = 0) (hz2 : ae = none → ce = 0) (h2 : checkP p = 0) (hte : ne = 0) (tm : Nat) (htm : nm = tm + 1) :
    Calls Tryd.prog 7 #[.agg #[.int .u8 p.k, .int .u16 p.f, .int .u16 p.a, .int .i64 p.q, .slice am nm cm, .slice ae ne ce]] W fun e w' => e = .returned (.bool true) ∧ Below W.heap.size W w' := by
  have HA : Hid (∀ w, Below W.heap.size W w → Calls Tryd.prog 9 #[] w fun e w' => e = .returned (.bool true) ∧ Below w.heap.size w w') := Lib.hid (fun w hw => pawake_any W.heap.size w hw.size (hv.on hw))
  have d1 := (Below.refl W.heap.size W).alloc (Nat.le_refl _) (.cells #[.int .u8 p.k, .int .u16 p.f, .int .u16 p.a, .int .i64 p.q, .slice am nm cm, .slice ae ne ce] 26)
  have s0 : BSt W (W.alloc (.cells #[.int .u8 p.k, .int .u16 p.f, .int .u16 p.a, .int .i64 p.q, .slice am nm cm, .slice ae ne ce] 26)) p am nm cm ae ne ce (.slice none 0 0) [] := ⟨PkBlk.new W _ _ _ _ _ _ _ _ _ _, hM.on d1, hE.onP d1, .inl ⟨rfl, rfl⟩, d1⟩
  have HLi : Hid (Calls Tryd.prog 8 #[.agg #[.int .u8 p.k, .int .u16 p.f, .int .u16 p.a, .int .i64 p.q, .slice am nm cm, .slice ae ne ce]] (W.alloc (.cells #[.int .u8 p.k, .int .u16 p.f, .int .u16 p.a, .int .i64 p.q, .slice am nm cm, .slice ae ne ce] 26)) (LPost nm p.es (W.alloc (.cells #[.int .u8 p.k, .int .u16 p.f, .int .u16 p.a, .int .i64 p.q, .slice am nm cm, .slice ae ne ce] 26)))) := Lib.hid (yLightP_any p.k p.f p.a p.q am nm cm ae ne ce p.es _ hne s0.es)
  have HCk : Hid (∀ w, MemsAt w am p.ms → EntsAt w ae p.es → Below W.heap.size W w → Calls Tryd.prog 13 #[.agg #[.int .u8 p.k, .int .u16 p.f, .int .u16 p.a, .int .i64 p.q, .slice am nm cm, .slice ae ne ce]] w fun e w' => e = .returned (.int .i64 (checkP p)) ∧ Below w.heap.size w w') := Lib.hid (fun w m1 m2 hw => pCheck_any p hp am nm cm ae ne ce hnm hne W.heap.size w hw.size ((hv.on hw).tab) m1 m2)
  unfold LPost at HLi
  rw [h2] at HCk
  have hsm := checkP_zero h2
  have hs1 : nm ≤ 64 := by have h9 := hsm.2.1; simp only [memsP, Bool.and_eq_true, decide_eq_true_eq] at h9; omega
  have hs2 : ne ≤ 256 := by have := hsm.2.2.1; omega
  have HPP : Hid (∀ w, MemsAt w am p.ms → EntsAt w ae p.es → Below W.heap.size W w → Calls Tryd.prog 11 #[.agg #[.int .u8 p.k, .int .u16 p.f, .int .u16 p.a, .int .i64 p.q, .slice am nm cm, .slice ae ne ce]] w fun e w' => ∃ a n c, e = .returned (.tuple #[.slice a n c, .int .i64 0]) ∧ Own w' w.heap.size (.slice a n c) (layPk p) ∧ Below w.heap.size w w') := Lib.hid (fun w m1 m2 hw => pPut_ok p hp am nm cm ae ne ce hnm hne W.heap.size w hw.size ((hv.on hw).tab) m1 m2 h2)
  have HCp : Hid (∀ w, MemsAt w am p.ms → EntsAt w ae p.es → Calls Tryd.prog 10 #[.agg #[.int .u8 p.k, .int .u16 p.f, .int .u16 p.a, .int .i64 p.q, .slice am nm cm, .slice ae ne ce]] w (CpPost p nm ne w)) := Lib.hid (fun w m1 m2 => yCopy_any p am nm cm ae ne ce hnm hne w m1 m2 hz1 hz2 (by omega) (by omega))
  obtain ⟨N, hN⟩ : ∃ N, (layPk p).length = N := ⟨_, rfl⟩
  have hN1 : N ≤ 16384 := by have := hsm.2.2.2.2; omega
  unfold CpPost at HCp
  have hxm : tm < p.ms.length := by omega
  have HPM : Hid (∀ w (bm : Option Addr) (c1 : Nat) (be : Option Addr) (c2 : Nat), MemsAt w bm p.ms → EntsAt w be p.es → Below W.heap.size W w → Calls Tryd.prog 11 #[.agg #[.int .u8 p.k, .int .u16 p.f, .int .u16 p.a, .int .i64 p.q, .slice bm tm c1, .slice be ne c2]] w fun e w' => ∃ a n c, e = .returned (.tuple #[.slice a n c, .int .i64 0]) ∧ Own w' w.heap.size (.slice a n c) (layPk (lessPM p tm)) ∧ Below w.heap.size w w') := Lib.hid (fun w bm c1 be c2 m1 m2 hw => pPut_ok (lessPM p tm) (lessPM_ok hp tm) bm tm c1 be ne c2 (by simp only [lessPM, List.length_take]; omega) hne W.heap.size w hw.size ((hv.on hw).tab) (m1.take tm) m2 (lessPM_check (by omega) h2))
  have HMb : Hid (∀ w, Below W.heap.size W w → Calls Tryd.prog 20 #[.agg #[.int .u16 p.ms[tm].n, .int .u8 p.ms[tm].s, .int .i64 p.ms[tm].i]] w fun e w' => ∃ a k c, e = .returned (.slice a k c) ∧ Own w' w.heap.size (.slice a k c) (layM p.ms[tm]) ∧ Below w.heap.size w w') := Lib.hid (fun w hw => pMember_any p.ms[tm] (hp.ms _ (List.getElem_mem hxm)) W.heap.size w hw.size ((hv.on hw).tab))
  have hlm := lessPM_len (p := p) (t := tm) (by omega)
  have HCM : Hid (∀ w (bm : Option Addr), MemsAt w bm p.ms → ∃ b o, bm = some ⟨b, o, none⟩ ∧ w.cell? ⟨b, o + tm * 3, none⟩ = some (.int .u16 p.ms[tm].n) ∧ w.cell? ⟨b, o + tm * 3 + 1, none⟩ = some (.int .u8 p.ms[tm].s) ∧ w.cell? ⟨b, o + tm * 3 + 2, none⟩ = some (.int .i64 p.ms[tm].i)) := Lib.hid (fun w bm h => by
    obtain ⟨b, o, e, -, rest⟩ := h.cells tm hxm
    exact ⟨b, o, e, rest⟩)
  obtain ⟨zm, hzm⟩ : ∃ zm, (layM p.ms[tm]).length = zm := ⟨_, rfl⟩
  obtain ⟨lm, hll⟩ : ∃ lm, (layPk (lessPM p tm)).length = lm := ⟨_, rfl⟩
  have wm : IntKind.i64.wrap ((lm : Int) + (zm : Int)) = (N : Int) := by rw [IntKind.wrap_i64]; omega
  have htm1 : tm ≤ 64 := by omega
  have HLM := Lib.hid (And.intro hll hzm)
  clear hlm hzm hll
  generalize layPk (lessPM p tm) = LM at *
  generalize p.ms[tm] = Y at *
  clear hxm
  have HN := Lib.hid hN
  generalize layPk p = LP at *
  have HNM := Lib.hid (And.intro hnm hne)
  clear hsm h2 hs1 hs2 hN
  subst hte htm
  have HS0 := Lib.hid s0
  have x0 := HS0.out.blk.c0; have x1 := HS0.out.blk.c1; have x2 := HS0.out.blk.c2; have x3 := HS0.out.blk.c3; have x4 := HS0.out.blk.c4; have x5 := HS0.out.blk.c5
  clear hp hnm hne hv hM hE hz1 hz2 d1 s0
  go_enter Tryd.func7, Tryd.ntmps7
  go_wp2_with (go_at_call 8; refine HLi.out.mono ?_; rintro e w1 ⟨r, rfl, hr, q1⟩; replace hr := Lib.hid hr; refine Hid.out ?_)
  refine Lib.hid ?_
  have HS1 := Lib.hid (HS0.out.on q1)
  clear x0 x1 x2 x3 x4 x5 HS0 HLi q1
  cases r with
  | false =>
    go_wp2_with (go_at_call 9; refine (HA.out _ HS1.out.low).mono ?_; rintro e w9 ⟨rfl, q9⟩; replace q9 := Lib.hid q9; refine Hid.out ?_)
    refine Lib.hid ?_
    go_wp2
    go_ret
    exact ⟨by first | rfl | simp, HS1.out.low.trans (q9.out.mono HS1.out.low.size)⟩
  | true =>
    have x0 := HS1.out.blk.c0; have x1 := HS1.out.blk.c1; have x2 := HS1.out.blk.c2; have x3 := HS1.out.blk.c3; have x4 := HS1.out.blk.c4; have x5 := HS1.out.blk.c5
    have HC1 := Lib.hid (HCk.out _ HS1.out.ms HS1.out.es HS1.out.low)
    go_wp2_with (go_at_call 13; refine HC1.out.mono ?_; rintro e w2 ⟨rfl, q2⟩; refine Hid.out ?_)
    refine Lib.hid ?_
    have HS2 := Lib.hid (HS1.out.on q2)
    clear x0 x1 x2 x3 x4 x5 HS1 HC1 HCk q2
    have x0 := HS2.out.blk.c0; have x1 := HS2.out.blk.c1; have x2 := HS2.out.blk.c2; have x3 := HS2.out.blk.c3; have x4 := HS2.out.blk.c4; have x5 := HS2.out.blk.c5
    have HP2 := Lib.hid (HPP.out _ HS2.out.ms HS2.out.es HS2.out.low)
    go_wp2_with (go_at_call 11; refine HP2.out.mono ?_; rintro e w3 ⟨a3, n3, c3, rfl, ho3, q3⟩; refine Hid.out ?_)
    refine Lib.hid ?_
    have hn3 : n3 = N := (src_lenP ho3.src).trans HN.out
    subst hn3
    have HS3 := Lib.hid (HS2.out.on q3)
    clear x0 x1 x2 x3 x4 x5 HP2 HPP HS2 ho3 q3
    have x0 := HS3.out.blk.c0; have x1 := HS3.out.blk.c1; have x2 := HS3.out.blk.c2; have x3 := HS3.out.blk.c3; have x4 := HS3.out.blk.c4; have x5 := HS3.out.blk.c5
    have HC_ := Lib.hid (HCp.out _ HS3.out.ms HS3.out.es)
    go_wp2_with (go_at_call 10; refine HC_.out.mono ?_; rintro e u ⟨bm, c1, be, c2, rfl, om, oe, q⟩; replace om := Lib.hid om; replace oe := Lib.hid oe; refine Hid.out ?_)
    refine Lib.hid ?_
    have hcap : tm ≤ c1 := by have h7 := om.out.cap; have h8 := HNM.out; omega
    have hMu := om.out.mems
    have hEu := oe.out.ents
    obtain ⟨bb, oo, hbe, k0, k1, k2⟩ := HCM.out _ _ hMu
    subst hbe
    have s5 := HS3.out.on q
    have l1 := PkBlk.new u p.k p.f p.a p.q (some ⟨bb, oo, none⟩) (tm + 1) c1 be 0 c2
    have d1 := (Below.refl u.heap.size u).alloc (Nat.le_refl _) (.cells #[.int .u8 p.k, .int .u16 p.f, .int .u16 p.a, .int .i64 p.q, .slice (some ⟨bb, oo, none⟩) (tm + 1) c1, .slice be 0 c2] 26)
    have d2 := (Below.refl (u.alloc (.cells #[.int .u8 p.k, .int .u16 p.f, .int .u16 p.a, .int .i64 p.q, .slice (some ⟨bb, oo, none⟩) (tm + 1) c1, .slice be 0 c2] 26)).heap.size (u.alloc (.cells #[.int .u8 p.k, .int .u16 p.f, .int .u16 p.a, .int .i64 p.q, .slice (some ⟨bb, oo, none⟩) (tm + 1) c1, .slice be 0 c2] 26))).alloc (Nat.le_refl _) (.cells #[.int .u16 Y.n, .int .u8 Y.s, .int .i64 Y.i] 45)
    have l2 := l1.on d2
    have b2 := MBlk.new (u.alloc (.cells #[.int .u8 p.k, .int .u16 p.f, .int .u16 p.a, .int .i64 p.q, .slice (some ⟨bb, oo, none⟩) (tm + 1) c1, .slice be 0 c2] 26)) Y
    rw [World.size_alloc] at b2
    have f1 := (Below.refl u.heap.size u).alloc (Nat.le_refl _) (.cells #[.int .u8 p.k, .int .u16 p.f, .int .u16 p.a, .int .i64 p.q, .slice (some ⟨bb, oo, none⟩) tm c1, .slice be 0 c2] 26)
    have f2 := (Below.refl (u.alloc (.cells #[.int .u8 p.k, .int .u16 p.f, .int .u16 p.a, .int .i64 p.q, .slice (some ⟨bb, oo, none⟩) tm c1, .slice be 0 c2] 26)).heap.size (u.alloc (.cells #[.int .u8 p.k, .int .u16 p.f, .int .u16 p.a, .int .i64 p.q, .slice (some ⟨bb, oo, none⟩) tm c1, .slice be 0 c2] 26))).alloc (Nat.le_refl _) (.cells #[.int .u16 Y.n, .int .u8 Y.s, .int .i64 Y.i] 45)
    have l3 := (PkBlk.new u p.k p.f p.a p.q (some ⟨bb, oo, none⟩) tm c1 be 0 c2).on f2
    have b3 := MBlk.new (u.alloc (.cells #[.int .u8 p.k, .int .u16 p.f, .int .u16 p.a, .int .i64 p.q, .slice (some ⟨bb, oo, none⟩) tm c1, .slice be 0 c2] 26)) Y
    rw [World.size_alloc] at b3
    have d3 : Below u.heap.size u ((u.alloc (.cells #[.int .u8 p.k, .int .u16 p.f, .int .u16 p.a, .int .i64 p.q, .slice (some ⟨bb, oo, none⟩) tm c1, .slice be 0 c2] 26)).alloc (.cells #[.int .u16 Y.n, .int .u8 Y.s, .int .i64 Y.i] 45)) := f1.trans (f2.mono f1.size)
    have hsl := fun w => slice_toM (some ⟨bb, oo, none⟩) (tm + 1) c1 tm w hcap
    have wt : IntKind.i64.wrap ((tm : Int) + 1 - 1) = (tm : Int) := by rw [IntKind.wrap_i64]; omega
    have m0 := (d1.cell (p := ⟨bb, oo + tm * 3, none⟩) (World.block_lt_of_cell? u _ k0)).trans k0; have m1 := (d1.cell (p := ⟨bb, oo + tm * 3 + 1, none⟩) (World.block_lt_of_cell? u _ k1)).trans k1; have m2 := (d1.cell (p := ⟨bb, oo + tm * 3 + 2, none⟩) (World.block_lt_of_cell? u _ k2)).trans k2
    have y1 := l1.c4; have y2 := l2.c4; have y3 := l2.f 4
    have ltu := l2.lt
    have HP_ := Lib.hid (HPM.out _ (some ⟨bb, oo, none⟩) c1 be c2 (hMu.on d3) (hEu.onP d3) (s5.on d3).low)
    have HS_ := Lib.hid (And.intro (s5.on d3) b3)
    clear x0 x1 x2 x3 x4 x5 HC_ HS3 om oe q hMu hEu s5 d1 d2 d3 l1 l2 b2 b3 f1 f2 hcap k0 k1 k2
    have z0 := l3.c0; have z1 := l3.c1; have z2 := l3.c2; have z3 := l3.c3; have z4 := l3.c4; have z5 := l3.c5
    clear l3
    go_wp2_with (go_at_call 11; refine HP_.out.mono ?_; rintro e w8 ⟨a8, n8, c8, rfl, ho8, q8⟩; refine Hid.out ?_)
    refine Lib.hid ?_
    have hn8 : n8 = lm := (src_lenP ho8.src).trans HLM.out.1
    subst hn8
    have s8 := HS_.out.1.on q8
    have b8 := HS_.out.2.on q8
    have HS8 := Lib.hid s8
    have v0 := b8.c0; have v1 := b8.c1; have v2 := b8.c2
    clear z0 z1 z2 z3 z4 z5 y1 y2 y3 ltu hsl wt m0 m1 m2 HP_ HS_ ho8 q8 s8 b8
    go_wp2_with (go_at_call 20; refine (HMb.out _ HS8.out.low).mono ?_; rintro e w9 ⟨a9, n9, c9, rfl, ho9, q9⟩; refine Hid.out ?_)
    refine Lib.hid ?_
    have hn9 : n9 = zm := (src_lenP ho9.src).trans HLM.out.2
    subst hn9
    have HSM := Lib.hid (HS8.out.on q9)
    clear v0 v1 v2 HS8 q9 ho9
    have x0 := HSM.out.blk.c0; have x1 := HSM.out.blk.c1; have x2 := HSM.out.blk.c2; have x3 := HSM.out.blk.c3; have x4 := HSM.out.blk.c4; have x5 := HSM.out.blk.c5
    go_wp2_with (go_at_call 9; refine (HA.out _ HSM.out.low).mono ?_; rintro e w9 ⟨rfl, q9⟩; replace q9 := Lib.hid q9; refine Hid.out ?_)
    refine Lib.hid ?_
    go_wp2
    go_ret
    exact ⟨by first | rfl | simp, HSM.out.low.trans (q9.out.mono HSM.out.low.size)⟩
set_option maxRecDepth 100000 in
set_option maxHeartbeats 8000000 in
theorem pmore_11 (p : Pk) (hp : p.Ok) (am : Option Addr) (nm cm : Nat) (ae : Option Addr) (ne ce : Nat) (hnm : nm = p.ms.length) (hne : ne = p.es.length) (W : World) (hv : VarsOk W.heap.size W) (hM : MemsAt W am p.ms) (hE : EntsAt W ae p.es) (hz1 : am = none → cm = 0) (hz2 : ae = none → ce = 0) (h2 : checkP p = 0) (te : Nat) (hte : ne = te + 1) (tm : Nat) (htm : nm = tm + 1) :
    Calls Tryd.prog 7 #[.agg #[.int .u8 p.k, .int .u16 p.f, .int .u16 p.a, .int .i64 p.q, .slice am nm cm, .slice ae ne ce]] W fun e w' => e = .returned (.bool true) ∧ Below W.heap.size W w' := by
  have HA : Hid (∀ w, Below W.heap.size W w → Calls Tryd.prog 9 #[] w fun e w' => e = .returned (.bool true) ∧ Below w.heap.size w w') := Lib.hid (fun w hw => pawake_any W.heap.size w hw.size (hv.on hw))
  have d1 := (Below.refl W.heap.size W).alloc (Nat.le_refl _) (.cells #[.int .u8 p.k, .int .u16 p.f, .int .u16 p.a, .int .i64 p.q, .slice am nm cm, .slice ae ne ce] 26)
  have s0 : BSt W (W.alloc (.cells #[.int .u8 p.k, .int .u16 p.f, .int .u16 p.a, .int .i64 p.q, .slice am nm cm, .slice ae ne ce] 26)) p am nm cm ae ne ce (.slice none 0 0) [] := ⟨PkBlk.new W _ _ _ _ _ _ _ _ _ _, hM.on d1, hE.onP d1, .inl ⟨rfl, rfl⟩, d1⟩
  have HLi : Hid (Calls Tryd.prog 8 #[.agg #[.int .u8 p.k, .int .u16 p.f, .int .u16 p.a, .int .i64 p.q, .slice am nm cm, .slice ae ne ce]] (W.alloc (.cells #[.int .u8 p.k, .int .u16 p.f, .int .u16 p.a, .int .i64 p.q, .slice am nm cm, .slice ae ne ce] 26)) (LPost nm p.es (W.alloc (.cells #[.int .u8 p.k, .int .u16 p.f, .int .u16 p.a, .int .i64 p.q, .slice am nm cm, .slice ae ne ce] 26)))) := Lib.hid (yLightP_any p.k p.f p.a p.q am nm cm ae ne ce p.es _ hne s0.es)
  have HCk : Hid (∀ w, MemsAt w am p.ms → EntsAt w ae p.es → Below W.heap.size W w → Calls Tryd.prog 13 #[.agg #[.int .u8 p.k, .int .u16 p.f, .int .u16 p.a, .int .i64 p.q, .slice am nm cm, .slice ae ne ce]] w fun e w' => e = .returned (.int .i64 (checkP p)) ∧ Below w.heap.size w w') := Lib.hid (fun w m1 m2 hw => pCheck_any p hp am nm cm ae ne ce hnm hne W.heap.size w hw.size ((hv.on hw).tab) m1 m2)
  unfold LPost at HLi
  rw [h2] at HCk
  have hsm := checkP_zero h2
  have hs1 : nm ≤ 64 := by have h9 := hsm.2.1; simp only [memsP, Bool.and_eq_true, decide_eq_true_eq] at h9; omega
  have hs2 : ne ≤ 256 := by have := hsm.2.2.1; omega
  have HPP : Hid (∀ w, MemsAt w am p.ms → EntsAt w ae p.es → Below W.heap.size W w → Calls Tryd.prog 11 #[.agg #[.int .u8 p.k, .int .u16 p.f, .int .u16 p.a, .int .i64 p.q, .slice am nm cm, .slice ae ne ce]] w fun e w' => ∃ a n c, e = .returned (.tuple #[.slice a n c, .int .i64 0]) ∧ Own w' w.heap.size (.slice a n c) (layPk p) ∧ Below w.heap.size w w') := Lib.hid (fun w m1 m2 hw => pPut_ok p hp am nm cm ae ne ce hnm hne W.heap.size w hw.size ((hv.on hw).tab) m1 m2 h2)
  have HCp : Hid (∀ w, MemsAt w am p.ms → EntsAt w ae p.es → Calls Tryd.prog 10 #[.agg #[.int .u8 p.k, .int .u16 p.f, .int .u16 p.a, .int .i64 p.q, .slice am nm cm, .slice ae ne ce]] w (CpPost p nm ne w)) := Lib.hid (fun w m1 m2 => yCopy_any p am nm cm ae ne ce hnm hne w m1 m2 hz1 hz2 (by omega) (by omega))
  obtain ⟨N, hN⟩ : ∃ N, (layPk p).length = N := ⟨_, rfl⟩
  have hN1 : N ≤ 16384 := by have := hsm.2.2.2.2; omega
  unfold CpPost at HCp
  have hxe : te < p.es.length := by omega
  have HPE : Hid (∀ w (bm : Option Addr) (c1 : Nat) (be : Option Addr) (c2 : Nat), MemsAt w bm p.ms → EntsAt w be p.es → Below W.heap.size W w → Calls Tryd.prog 11 #[.agg #[.int .u8 p.k, .int .u16 p.f, .int .u16 p.a, .int .i64 p.q, .slice bm nm c1, .slice be te c2]] w fun e w' => ∃ a n c, e = .returned (.tuple #[.slice a n c, .int .i64 0]) ∧ Own w' w.heap.size (.slice a n c) (layPk (lessPE p te)) ∧ Below w.heap.size w w') := Lib.hid (fun w bm c1 be c2 m1 m2 hw => pPut_ok (lessPE p te) (lessPE_ok hp te) bm nm c1 be te c2 hnm (by simp only [lessPE, List.length_take]; omega) W.heap.size w hw.size ((hv.on hw).tab) m1 (m2.takeP te) (lessPE_check (by omega) h2))
  have HSz : Hid (∀ w, Below W.heap.size W w → Calls Tryd.prog 17 #[.agg #[.string p.es[te].k, .int .i64 p.es[te].t, .int .u16 p.es[te].o, .string p.es[te].v, .int .i64 p.es[te].u]] w fun e w' => e = .returned (.int .i64 ((putEn p.es[te]).length : Int)) ∧ Below w.heap.size w w') := Lib.hid (fun w hw => pSize_any p.es[te] (hp.es _ (List.getElem_mem hxe)) (by have := checkEn_small (entsP_all hsm.2.2.2.1 _ (List.getElem_mem hxe)); omega) (by have := checkEn_small (entsP_all hsm.2.2.2.1 _ (List.getElem_mem hxe)); omega) W.heap.size w hw.size ((hv.on hw).tab))
  have hle := lessPE_len (p := p) (t := te) (by omega)
  have HCE : Hid (∀ w (be : Option Addr), EntsAt w be p.es → ∃ b o, be = some ⟨b, o, none⟩ ∧ w.cell? ⟨b, o + te * 5, none⟩ = some (.string p.es[te].k) ∧ w.cell? ⟨b, o + te * 5 + 1, none⟩ = some (.int .i64 p.es[te].t) ∧ w.cell? ⟨b, o + te * 5 + 2, none⟩ = some (.int .u16 p.es[te].o) ∧ w.cell? ⟨b, o + te * 5 + 3, none⟩ = some (.string p.es[te].v) ∧ w.cell? ⟨b, o + te * 5 + 4, none⟩ = some (.int .i64 p.es[te].u)) := Lib.hid (fun w be h => by
    obtain ⟨b, o, e, -, rest⟩ := h.cellsP te hxe
    exact ⟨b, o, e, rest⟩)
  obtain ⟨ze, hze⟩ : ∃ ze, (putEn p.es[te]).length = ze := ⟨_, rfl⟩
  obtain ⟨le, hll⟩ : ∃ le, (layPk (lessPE p te)).length = le := ⟨_, rfl⟩
  have we : IntKind.i64.wrap ((le : Int) + (ze : Int)) = (N : Int) := by rw [IntKind.wrap_i64]; omega
  have hte1 : te ≤ 256 := by omega
  rw [hze] at HSz
  have HLE := Lib.hid hll
  clear hle hze hll
  generalize layPk (lessPE p te) = LE at *
  generalize p.es[te] = X at *
  clear hxe
  have hxm : tm < p.ms.length := by omega
  have HPM : Hid (∀ w (bm : Option Addr) (c1 : Nat) (be : Option Addr) (c2 : Nat), MemsAt w bm p.ms → EntsAt w be p.es → Below W.heap.size W w → Calls Tryd.prog 11 #[.agg #[.int .u8 p.k, .int .u16 p.f, .int .u16 p.a, .int .i64 p.q, .slice bm tm c1, .slice be ne c2]] w fun e w' => ∃ a n c, e = .returned (.tuple #[.slice a n c, .int .i64 0]) ∧ Own w' w.heap.size (.slice a n c) (layPk (lessPM p tm)) ∧ Below w.heap.size w w') := Lib.hid (fun w bm c1 be c2 m1 m2 hw => pPut_ok (lessPM p tm) (lessPM_ok hp tm) bm tm c1 be ne c2 (by simp only [lessPM, List.length_take]; omega) hne W.heap.size w hw.size ((hv.on hw).tab) (m1.take tm) m2 (lessPM_check (by omega) h2))
  have HMb : Hid (∀ w, Below W.heap.size W w → Calls Tryd.prog 20 #[.agg #[.int .u16 p.ms[tm].n, .int .u8 p.ms[tm].s, .int .i64 p.ms[tm].i]] w fun e w' => ∃ a k c, e = .returned (.slice a k c) ∧ Own w' w.heap.size (.slice a k c) (layM p.ms[tm]) ∧ Below w.heap.size w w') := Lib.hid (fun w hw => pMember_any p.ms[tm] (hp.ms _ (List.getElem_mem hxm)) W.heap.size w hw.size ((hv.on hw).tab))
  have hlm := lessPM_len (p := p) (t := tm) (by omega)
  have HCM : Hid (∀ w (bm : Option Addr), MemsAt w bm p.ms → ∃ b o, bm = some ⟨b, o, none⟩ ∧ w.cell? ⟨b, o + tm * 3, none⟩ = some (.int .u16 p.ms[tm].n) ∧ w.cell? ⟨b, o + tm * 3 + 1, none⟩ = some (.int .u8 p.ms[tm].s) ∧ w.cell? ⟨b, o + tm * 3 + 2, none⟩ = some (.int .i64 p.ms[tm].i)) := Lib.hid (fun w bm h => by
    obtain ⟨b, o, e, -, rest⟩ := h.cells tm hxm
    exact ⟨b, o, e, rest⟩)
  obtain ⟨zm, hzm⟩ : ∃ zm, (layM p.ms[tm]).length = zm := ⟨_, rfl⟩
  obtain ⟨lm, hll⟩ : ∃ lm, (layPk (lessPM p tm)).length = lm := ⟨_, rfl⟩
  have wm : IntKind.i64.wrap ((lm : Int) + (zm : Int)) = (N : Int) := by rw [IntKind.wrap_i64]; omega
  have htm1 : tm ≤ 64 := by omega
  have HLM := Lib.hid (And.intro hll hzm)
  clear hlm hzm hll
  generalize layPk (lessPM p tm) = LM at *
  generalize p.ms[tm] = Y at *
  clear hxm
  have HN := Lib.hid hN
  generalize layPk p = LP at *
  have HNM := Lib.hid (And.intro hnm hne)
  clear hsm h2 hs1 hs2 hN
  subst hte htm
  have HS0 := Lib.hid s0
  have x0 := HS0.out.blk.c0; have x1 := HS0.out.blk.c1; have x2 := HS0.out.blk.c2; have x3 := HS0.out.blk.c3; have x4 := HS0.out.blk.c4; have x5 := HS0.out.blk.c5
  clear hp hnm hne hv hM hE hz1 hz2 d1 s0
  go_enter Tryd.func7, Tryd.ntmps7
  go_wp2_with (go_at_call 8; refine HLi.out.mono ?_; rintro e w1 ⟨r, rfl, hr, q1⟩; replace hr := Lib.hid hr; refine Hid.out ?_)
  refine Lib.hid ?_
  have HS1 := Lib.hid (HS0.out.on q1)
  clear x0 x1 x2 x3 x4 x5 HS0 HLi q1
  cases r with
  | false =>
    go_wp2_with (go_at_call 9; refine (HA.out _ HS1.out.low).mono ?_; rintro e w9 ⟨rfl, q9⟩; replace q9 := Lib.hid q9; refine Hid.out ?_)
    refine Lib.hid ?_
    go_wp2
    go_ret
    exact ⟨by first | rfl | simp, HS1.out.low.trans (q9.out.mono HS1.out.low.size)⟩
  | true =>
    have x0 := HS1.out.blk.c0; have x1 := HS1.out.blk.c1; have x2 := HS1.out.blk.c2; have x3 := HS1.out.blk.c3; have x4 := HS1.out.blk.c4; have x5 := HS1.out.blk.c5
    have HC1 := Lib.hid (HCk.out _ HS1.out.ms HS1.out.es HS1.out.low)
    go_wp2_with (go_at_call 13; refine HC1.out.mono ?_; rintro e w2 ⟨rfl, q2⟩; refine Hid.out ?_)
    refine Lib.hid ?_
    have HS2 := Lib.hid (HS1.out.on q2)
    clear x0 x1 x2 x3 x4 x5 HS1 HC1 HCk q2
    have x0 := HS2.out.blk.c0; have x1 := HS2.out.blk.c1; have x2 := HS2.out.blk.c2; have x3 := HS2.out.blk.c3; have x4 := HS2.out.blk.c4; have x5 := HS2.out.blk.c5
    have HP2 := Lib.hid (HPP.out _ HS2.out.ms HS2.out.es HS2.out.low)
    go_wp2_with (go_at_call 11; refine HP2.out.mono ?_; rintro e w3 ⟨a3, n3, c3, rfl, ho3, q3⟩; refine Hid.out ?_)
    refine Lib.hid ?_
    have hn3 : n3 = N := (src_lenP ho3.src).trans HN.out
    subst hn3
    have HS3 := Lib.hid (HS2.out.on q3)
    clear x0 x1 x2 x3 x4 x5 HP2 HPP HS2 ho3 q3
    have x0 := HS3.out.blk.c0; have x1 := HS3.out.blk.c1; have x2 := HS3.out.blk.c2; have x3 := HS3.out.blk.c3; have x4 := HS3.out.blk.c4; have x5 := HS3.out.blk.c5
    have HC_ := Lib.hid (HCp.out _ HS3.out.ms HS3.out.es)
    go_wp2_with (go_at_call 10; refine HC_.out.mono ?_; rintro e u ⟨bm, c1, be, c2, rfl, om, oe, q⟩; replace om := Lib.hid om; replace oe := Lib.hid oe; refine Hid.out ?_)
    refine Lib.hid ?_
    have hcap : te ≤ c2 := by have h7 := oe.out.cap; have h8 := HNM.out; omega
    have hMu := om.out.mems
    have hEu := oe.out.ents
    obtain ⟨bb, oo, hbe, k0, k1, k2, k3, k4⟩ := HCE.out _ _ hEu
    subst hbe
    have s5 := HS3.out.on q
    have l1 := PkBlk.new u p.k p.f p.a p.q bm (tm + 1) c1 (some ⟨bb, oo, none⟩) (te + 1) c2
    have d1 := (Below.refl u.heap.size u).alloc (Nat.le_refl _) (.cells #[.int .u8 p.k, .int .u16 p.f, .int .u16 p.a, .int .i64 p.q, .slice bm (tm + 1) c1, .slice (some ⟨bb, oo, none⟩) (te + 1) c2] 26)
    have d2 := (Below.refl (u.alloc (.cells #[.int .u8 p.k, .int .u16 p.f, .int .u16 p.a, .int .i64 p.q, .slice bm (tm + 1) c1, .slice (some ⟨bb, oo, none⟩) (te + 1) c2] 26)).heap.size (u.alloc (.cells #[.int .u8 p.k, .int .u16 p.f, .int .u16 p.a, .int .i64 p.q, .slice bm (tm + 1) c1, .slice (some ⟨bb, oo, none⟩) (te + 1) c2] 26))).alloc (Nat.le_refl _) (.cells #[.string X.k, .int .i64 X.t, .int .u16 X.o, .string X.v, .int .i64 X.u] 48)
    have l2 := l1.on d2
    have b2 := EBlk.new (u.alloc (.cells #[.int .u8 p.k, .int .u16 p.f, .int .u16 p.a, .int .i64 p.q, .slice bm (tm + 1) c1, .slice (some ⟨bb, oo, none⟩) (te + 1) c2] 26)) X
    rw [World.size_alloc] at b2
    have f1 := (Below.refl u.heap.size u).alloc (Nat.le_refl _) (.cells #[.int .u8 p.k, .int .u16 p.f, .int .u16 p.a, .int .i64 p.q, .slice bm (tm + 1) c1, .slice (some ⟨bb, oo, none⟩) te c2] 26)
    have f2 := (Below.refl (u.alloc (.cells #[.int .u8 p.k, .int .u16 p.f, .int .u16 p.a, .int .i64 p.q, .slice bm (tm + 1) c1, .slice (some ⟨bb, oo, none⟩) te c2] 26)).heap.size (u.alloc (.cells #[.int .u8 p.k, .int .u16 p.f, .int .u16 p.a, .int .i64 p.q, .slice bm (tm + 1) c1, .slice (some ⟨bb, oo, none⟩) te c2] 26))).alloc (Nat.le_refl _) (.cells #[.string X.k, .int .i64 X.t, .int .u16 X.o, .string X.v, .int .i64 X.u] 48)
    have l3 := (PkBlk.new u p.k p.f p.a p.q bm (tm + 1) c1 (some ⟨bb, oo, none⟩) te c2).on f2
    have b3 := EBlk.new (u.alloc (.cells #[.int .u8 p.k, .int .u16 p.f, .int .u16 p.a, .int .i64 p.q, .slice bm (tm + 1) c1, .slice (some ⟨bb, oo, none⟩) te c2] 26)) X
    rw [World.size_alloc] at b3
    have d3 : Below u.heap.size u ((u.alloc (.cells #[.int .u8 p.k, .int .u16 p.f, .int .u16 p.a, .int .i64 p.q, .slice bm (tm + 1) c1, .slice (some ⟨bb, oo, none⟩) te c2] 26)).alloc (.cells #[.string X.k, .int .i64 X.t, .int .u16 X.o, .string X.v, .int .i64 X.u] 48)) := f1.trans (f2.mono f1.size)
    have hsl := fun w => slice_toE (some ⟨bb, oo, none⟩) (te + 1) c2 te w hcap
    have wt : IntKind.i64.wrap ((te : Int) + 1 - 1) = (te : Int) := by rw [IntKind.wrap_i64]; omega
    have m0 := (d1.cell (p := ⟨bb, oo + te * 5, none⟩) (World.block_lt_of_cell? u _ k0)).trans k0; have m1 := (d1.cell (p := ⟨bb, oo + te * 5 + 1, none⟩) (World.block_lt_of_cell? u _ k1)).trans k1; have m2 := (d1.cell (p := ⟨bb, oo + te * 5 + 2, none⟩) (World.block_lt_of_cell? u _ k2)).trans k2; have m3 := (d1.cell (p := ⟨bb, oo + te * 5 + 3, none⟩) (World.block_lt_of_cell? u _ k3)).trans k3; have m4 := (d1.cell (p := ⟨bb, oo + te * 5 + 4, none⟩) (World.block_lt_of_cell? u _ k4)).trans k4
    have y1 := l1.c5; have y2 := l2.c5; have y3 := l2.f 5
    have ltu := l2.lt
    have HP_ := Lib.hid (HPE.out _ bm c1 (some ⟨bb, oo, none⟩) c2 (hMu.on d3) (hEu.onP d3) (s5.on d3).low)
    have HS_ := Lib.hid (And.intro (s5.on d3) b3)
    clear x0 x1 x2 x3 x4 x5 HC_ HS3 om oe q hMu hEu s5 d1 d2 d3 l1 l2 b2 b3 f1 f2 hcap k0 k1 k2 k3 k4
    have z0 := l3.c0; have z1 := l3.c1; have z2 := l3.c2; have z3 := l3.c3; have z4 := l3.c4; have z5 := l3.c5
    clear l3
    go_wp2_with (go_at_call 11; refine HP_.out.mono ?_; rintro e w8 ⟨a8, n8, c8, rfl, ho8, q8⟩; refine Hid.out ?_)
    refine Lib.hid ?_
    have hn8 : n8 = le := (src_lenP ho8.src).trans HLE.out
    subst hn8
    have s8 := HS_.out.1.on q8
    have b8 := HS_.out.2.on q8
    have HS8 := Lib.hid s8
    have v0 := b8.c0; have v1 := b8.c1; have v2 := b8.c2; have v3 := b8.c3; have v4 := b8.c4
    clear z0 z1 z2 z3 z4 z5 y1 y2 y3 ltu hsl wt m0 m1 m2 m3 m4 HP_ HS_ ho8 q8 s8 b8
    go_wp2_with (go_at_call 17; refine (HSz.out _ HS8.out.low).mono ?_; rintro e w9 ⟨rfl, q9⟩; refine Hid.out ?_)
    refine Lib.hid ?_
    have HSE := Lib.hid (HS8.out.on q9)
    clear v0 v1 v2 v3 v4 HS8 q9
    have x0 := HSE.out.blk.c0; have x1 := HSE.out.blk.c1; have x2 := HSE.out.blk.c2; have x3 := HSE.out.blk.c3; have x4 := HSE.out.blk.c4; have x5 := HSE.out.blk.c5
    have HC_ := Lib.hid (HCp.out _ HSE.out.ms HSE.out.es)
    go_wp2_with (go_at_call 10; refine HC_.out.mono ?_; rintro e u ⟨bm, c1, be, c2, rfl, om, oe, q⟩; replace om := Lib.hid om; replace oe := Lib.hid oe; refine Hid.out ?_)
    refine Lib.hid ?_
    have hcap : tm ≤ c1 := by have h7 := om.out.cap; have h8 := HNM.out; omega
    have hMu := om.out.mems
    have hEu := oe.out.ents
    obtain ⟨bb, oo, hbe, k0, k1, k2⟩ := HCM.out _ _ hMu
    subst hbe
    have s5 := HSE.out.on q
    have l1 := PkBlk.new u p.k p.f p.a p.q (some ⟨bb, oo, none⟩) (tm + 1) c1 be (te + 1) c2
    have d1 := (Below.refl u.heap.size u).alloc (Nat.le_refl _) (.cells #[.int .u8 p.k, .int .u16 p.f, .int .u16 p.a, .int .i64 p.q, .slice (some ⟨bb, oo, none⟩) (tm + 1) c1, .slice be (te + 1) c2] 26)
    have d2 := (Below.refl (u.alloc (.cells #[.int .u8 p.k, .int .u16 p.f, .int .u16 p.a, .int .i64 p.q, .slice (some ⟨bb, oo, none⟩) (tm + 1) c1, .slice be (te + 1) c2] 26)).heap.size (u.alloc (.cells #[.int .u8 p.k, .int .u16 p.f, .int .u16 p.a, .int .i64 p.q, .slice (some ⟨bb, oo, none⟩) (tm + 1) c1, .slice be (te + 1) c2] 26))).alloc (Nat.le_refl _) (.cells #[.int .u16 Y.n, .int .u8 Y.s, .int .i64 Y.i] 45)
    have l2 := l1.on d2
    have b2 := MBlk.new (u.alloc (.cells #[.int .u8 p.k, .int .u16 p.f, .int .u16 p.a, .int .i64 p.q, .slice (some ⟨bb, oo, none⟩) (tm + 1) c1, .slice be (te + 1) c2] 26)) Y
    rw [World.size_alloc] at b2
    have f1 := (Below.refl u.heap.size u).alloc (Nat.le_refl _) (.cells #[.int .u8 p.k, .int .u16 p.f, .int .u16 p.a, .int .i64 p.q, .slice (some ⟨bb, oo, none⟩) tm c1, .slice be (te + 1) c2] 26)
    have f2 := (Below.refl (u.alloc (.cells #[.int .u8 p.k, .int .u16 p.f, .int .u16 p.a, .int .i64 p.q, .slice (some ⟨bb, oo, none⟩) tm c1, .slice be (te + 1) c2] 26)).heap.size (u.alloc (.cells #[.int .u8 p.k, .int .u16 p.f, .int .u16 p.a, .int .i64 p.q, .slice (some ⟨bb, oo, none⟩) tm c1, .slice be (te + 1) c2] 26))).alloc (Nat.le_refl _) (.cells #[.int .u16 Y.n, .int .u8 Y.s, .int .i64 Y.i] 45)
    have l3 := (PkBlk.new u p.k p.f p.a p.q (some ⟨bb, oo, none⟩) tm c1 be (te + 1) c2).on f2
    have b3 := MBlk.new (u.alloc (.cells #[.int .u8 p.k, .int .u16 p.f, .int .u16 p.a, .int .i64 p.q, .slice (some ⟨bb, oo, none⟩) tm c1, .slice be (te + 1) c2] 26)) Y
    rw [World.size_alloc] at b3
    have d3 : Below u.heap.size u ((u.alloc (.cells #[.int .u8 p.k, .int .u16 p.f, .int .u16 p.a, .int .i64 p.q, .slice (some ⟨bb, oo, none⟩) tm c1, .slice be (te + 1) c2] 26)).alloc (.cells #[.int .u16 Y.n, .int .u8 Y.s, .int .i64 Y.i] 45)) := f1.trans (f2.mono f1.size)
    have hsl := fun w => slice_toM (some ⟨bb, oo, none⟩) (tm + 1) c1 tm w hcap
    have wt : IntKind.i64.wrap ((tm : Int) + 1 - 1) = (tm : Int) := by rw [IntKind.wrap_i64]; omega
    have m0 := (d1.cell (p := ⟨bb, oo + tm * 3, none⟩) (World.block_lt_of_cell? u _ k0)).trans k0; have m1 := (d1.cell (p := ⟨bb, oo + tm * 3 + 1, none⟩) (World.block_lt_of_cell? u _ k1)).trans k1; have m2 := (d1.cell (p := ⟨bb, oo + tm * 3 + 2, none⟩) (World.block_lt_of_cell? u _ k2)).trans k2
    have y1 := l1.c4; have y2 := l2.c4; have y3 := l2.f 4
    have ltu := l2.lt
    have HP_ := Lib.hid (HPM.out _ (some ⟨bb, oo, none⟩) c1 be c2 (hMu.on d3) (hEu.onP d3) (s5.on d3).low)
    have HS_ := Lib.hid (And.intro (s5.on d3) b3)
    clear x0 x1 x2 x3 x4 x5 HC_ HSE om oe q hMu hEu s5 d1 d2 d3 l1 l2 b2 b3 f1 f2 hcap k0 k1 k2
    have z0 := l3.c0; have z1 := l3.c1; have z2 := l3.c2; have z3 := l3.c3; have z4 := l3.c4; have z5 := l3.c5
    clear l3
    go_wp2_with (go_at_call 11; refine HP_.out.mono ?_; rintro e w8 ⟨a8, n8, c8, rfl, ho8, q8⟩; refine Hid.out ?_)
    refine Lib.hid ?_
    have hn8 : n8 = lm := (src_lenP ho8.src).trans HLM.out.1
    subst hn8
    have s8 := HS_.out.1.on q8
    have b8 := HS_.out.2.on q8
    have HS8 := Lib.hid s8
    have v0 := b8.c0; have v1 := b8.c1; have v2 := b8.c2
    clear z0 z1 z2 z3 z4 z5 y1 y2 y3 ltu hsl wt m0 m1 m2 HP_ HS_ ho8 q8 s8 b8
    go_wp2_with (go_at_call 20; refine (HMb.out _ HS8.out.low).mono ?_; rintro e w9 ⟨a9, n9, c9, rfl, ho9, q9⟩; refine Hid.out ?_)
    refine Lib.hid ?_
    have hn9 : n9 = zm := (src_lenP ho9.src).trans HLM.out.2
    subst hn9
    have HSM := Lib.hid (HS8.out.on q9)
    clear v0 v1 v2 HS8 q9 ho9
    have x0 := HSM.out.blk.c0; have x1 := HSM.out.blk.c1; have x2 := HSM.out.blk.c2; have x3 := HSM.out.blk.c3; have x4 := HSM.out.blk.c4; have x5 := HSM.out.blk.c5
    go_wp2_with (go_at_call 9; refine (HA.out _ HSM.out.low).mono ?_; rintro e w9 ⟨rfl, q9⟩; replace q9 := Lib.hid q9; refine Hid.out ?_)
    refine Lib.hid ?_
    go_wp2
    go_ret
    exact ⟨by first | rfl | simp, HSM.out.low.trans (q9.out.mono HSM.out.low.size)⟩
theorem pmore_walk (p : Pk) (hp : p.Ok) (am : Option Addr) (nm cm : Nat) (ae : Option Addr) (ne ce : Nat) (hnm : nm = p.ms.length) (hne : ne = p.es.length) (W : World) (hv : VarsOk W.heap.size W) (hM : MemsAt W am p.ms) (hE : EntsAt W ae p.es) (hz1 : am = none → cm = 0) (hz2 : ae = none → ce = 0) :
    Calls Tryd.prog 7 #[.agg #[.int .u8 p.k, .int .u16 p.f, .int .u16 p.a, .int .i64 p.q, .slice am nm cm, .slice ae ne ce]] W fun e w' => e = .returned (.bool true) ∧ Below W.heap.size W w' := by
  by_cases h2 : checkP p = 0
  · by_cases he : ne = 0
    · by_cases hm : nm = 0
      · exact pmore_00 p hp am nm cm ae ne ce hnm hne W hv hM hE hz1 hz2 h2 he hm
      · exact pmore_01 p hp am nm cm ae ne ce hnm hne W hv hM hE hz1 hz2 h2 he (nm - 1) (by omega)
    · by_cases hm : nm = 0
      · exact pmore_10 p hp am nm cm ae ne ce hnm hne W hv hM hE hz1 hz2 h2 (ne - 1) (by omega) hm
      · exact pmore_11 p hp am nm cm ae ne ce hnm hne W hv hM hE hz1 hz2 h2 (ne - 1) (by omega) (nm - 1) (by omega)
  · exact pmore_no p hp am nm cm ae ne ce hnm hne W hv hM hE h2

end Go.Proofs.YtchhdffehkcecaaDoor
