/-
  The walk of PacketReads: any bytes are the packet that the reference says, or none.
-/
import Derived.Test.YtchhdffehkcecaaDoorP21
import Derived.Test.YtchhdffehkcecaaDoorP16
namespace Go.Proofs.YtchhdffehkcecaaDoor
open Go Go.RowKit

theorem VarsOk.up6 {B B' : Nat} {w : World} (h : VarsOk B w) (hB : B ≤ B') : VarsOk B' w := fun w' hb => h w' (hb.mono hB)
theorem yRead_yes {W : World} {a : Option Addr} {c n : Nat} {b : List UInt8} (hn : n = b.length) (hc : n ≤ c) (hs : SrcAt W (.slice a n c) b) (hv : VarsOk W.heap.size W) (hr : readOk b) :
    Calls Tryd.prog 16 #[.slice a n c] W fun e w' => ∃ qm nqm cqm qe nqe cqe, e = .returned (.tuple #[.agg #[.int .u8 (rdPk b).k, .int .u16 (rdPk b).f, .int .u16 (rdPk b).a, .int .i64 (rdPk b).q, .slice qm nqm cqm, .slice qe nqe cqe], .int .i64 0]) ∧ nqm = (rdPk b).ms.length ∧ nqe = (rdPk b).es.length ∧ MemsAt w' qm (rdPk b).ms ∧ EntsAt w' qe (rdPk b).es ∧ Below W.heap.size W w' :=
  (yRead_any W a c n b hn hc hs hv).mono fun _ _ h => by
    obtain ⟨qm, nqm, cqm, qe, nqe, cqe, e, h1, h2, h3, h4⟩ := h.1 hr
    exact ⟨qm, nqm, cqm, qe, nqe, cqe, e, h1, h2, h3, h4, h.2.2⟩
theorem yRead_no {W : World} {a : Option Addr} {c n : Nat} {b : List UInt8} (hn : n = b.length) (hc : n ≤ c) (hs : SrcAt W (.slice a n c) b) (hv : VarsOk W.heap.size W) (hr : ¬ readOk b) :
    Calls Tryd.prog 16 #[.slice a n c] W fun e w' => e = .returned (.tuple #[.agg #[.int .u8 0, .int .u16 0, .int .u16 0, .int .i64 0, .slice none 0 0, .slice none 0 0], .int .i64 14]) ∧ Below W.heap.size W w' :=
  (yRead_any W a c n b hn hc hs hv).mono fun _ _ h => ⟨h.2.1 hr, h.2.2⟩
set_option maxRecDepth 100000 in
set_option maxHeartbeats 8000000 in
theorem preads_ok (W : World) (a : Option Addr) (c n : Nat) (b : List UInt8) (hn : n = b.length) (hc : n ≤ c) (hs : SrcAt W (.slice a n c) b) (hv : VarsOk W.heap.size W) (hb : b.length ≤ 140737488351232) (hnil : a = none → n = 0 ∧ c = 0) (hr : readOk b) :
    Calls Tryd.prog 4 #[.slice a n c] W fun e w' => e = .returned (.bool true) ∧ Below W.heap.size W w' := by
  have HA : Hid (∀ w, Below W.heap.size W w → Calls Tryd.prog 9 #[] w fun e w' => e = .returned (.bool true) ∧ Below w.heap.size w w') := Lib.hid (fun w hw => pawake_any W.heap.size w hw.size (hv.on hw))
  have HBs := Lib.hid (And.intro hs (And.intro hn (And.intro hb hv)))
  have HRd : Hid (∀ w (p : Option Addr) (d m : Nat), SrcAt w (.slice p m d) b → Below W.heap.size W w → Calls Tryd.prog 15 #[.slice p m d] w fun e w' => ∃ qm nqm cqm qe nqe cqe, e = .returned (.tuple #[.agg #[.int .u8 (rdPk b).k, .int .u16 (rdPk b).f, .int .u16 (rdPk b).a, .int .i64 (rdPk b).q, .slice qm nqm cqm, .slice qe nqe cqe], .int .i64 0]) ∧ nqm = (rdPk b).ms.length ∧ nqe = (rdPk b).es.length ∧ MemsAt w' qm (rdPk b).ms ∧ EntsAt w' qe (rdPk b).es ∧ Below w.heap.size w w') := Lib.hid (fun w p d m h3 hw => by
    have := pRead_yes p m d b W.heap.size w hw.size (hv.on hw) h3 hr.1 hr.2.1 hr.2.2
    unfold RYes at this
    exact this)
  have HYd : Hid (∀ w, Below W.heap.size W w → Calls Tryd.prog 16 #[.slice a n c] w fun e w' => ∃ qm nqm cqm qe nqe cqe, e = .returned (.tuple #[.agg #[.int .u8 (rdPk b).k, .int .u16 (rdPk b).f, .int .u16 (rdPk b).a, .int .i64 (rdPk b).q, .slice qm nqm cqm, .slice qe nqe cqe], .int .i64 0]) ∧ nqm = (rdPk b).ms.length ∧ nqe = (rdPk b).es.length ∧ MemsAt w' qm (rdPk b).ms ∧ EntsAt w' qe (rdPk b).es ∧ Below w.heap.size w w') := Lib.hid (fun w hw => yRead_yes hn hc (hs.below hw (Nat.le_refl _)) ((hv.on hw).up6 hw.size) hr)
  have hml : (rdPk b).ms.length ≤ 64 := by have h9 := (checkP_zero hr.2.1).2.1; simp only [memsP, Bool.and_eq_true, decide_eq_true_eq] at h9; omega
  have hel : (rdPk b).es.length ≤ 256 := by have := (checkP_zero hr.2.1).2.2.1; omega
  have HSm : Hid (∀ w (qm : Option Addr) (nqm cqm : Nat) (qe : Option Addr) (nqe cqe : Nat) (rm : Option Addr) (nrm crm : Nat) (re : Option Addr) (nre cre : Nat), nqm = (rdPk b).ms.length → nqe = (rdPk b).es.length → nrm = (rdPk b).ms.length → nre = (rdPk b).es.length → MemsAt w qm (rdPk b).ms → EntsAt w qe (rdPk b).es → MemsAt w rm (rdPk b).ms → EntsAt w re (rdPk b).es → Calls Tryd.prog 14 #[.agg #[.int .u8 (rdPk b).k, .int .u16 (rdPk b).f, .int .u16 (rdPk b).a, .int .i64 (rdPk b).q, .slice qm nqm cqm, .slice qe nqe cqe], .agg #[.int .u8 (rdPk b).k, .int .u16 (rdPk b).f, .int .u16 (rdPk b).a, .int .i64 (rdPk b).q, .slice rm nrm crm, .slice re nre cre]] w fun e w' => e = .returned (.bool true) ∧ Below w.heap.size w w') := Lib.hid (fun w qm nqm cqm qe nqe cqe rm nrm crm re nre cre e1 e2 e3 e4 m1 m2 m3 m4 => by
    have := ySame_any (rdPk b) (rdPk b) qm nqm cqm qe nqe cqe rm nrm crm re nre cre w e1 e2 e3 e4 m1 m2 m3 m4 (by omega) (by omega)
    rw [sameP_refl] at this
    exact this)
  clear hr hml hel
  generalize rdPk b = Q at *
  obtain ⟨i0, hi, hz0, hz1, hz2⟩ := info_parts infoByte
  have hnews : ∀ ad, a = some ad → ∀ j u, (Lib.byteCells b)[j]? = some u → (W.alloc (.cells #[] 5)).cell? (ad.add j) = some u := by
    intro ad had j u hj
    simp only [Lib.byteCells, List.getElem?_map, Option.map_eq_some_iff] at hj
    obtain ⟨y, hy, rfl⟩ := hj
    obtain ⟨hj1, rfl⟩ := List.getElem?_eq_some_iff.1 hy
    rcases hs.below ((Below.refl W.heap.size W).alloc (Nat.le_refl _) (.cells #[] 5)) (Nat.le_refl _) with ⟨-, rfl⟩ | ⟨q, c', e, hcl⟩
    · simp at hj1
    · simp only [Value.slice.injEq] at e
      rw [had] at e
      obtain rfl := Option.some.inj e.1
      exact hcl j hj1
  have hone : ∀ u ∈ Lib.byteCells b, u.oneCell' = true := by
    intro u hu; simp only [Lib.byteCells, List.mem_map] at hu; obtain ⟨y, _, rfl⟩ := hu; rfl
  have hlen : (Lib.byteCells b).length = n * 1 := by simp [Lib.byteCells, hn]
  have h63 : n ≤ maxLen := by unfold maxLen; omega
  have hbt : n * 1 ≤ 140737488355328 := by omega
  have hB0 := (Below.refl W.heap.size W).alloc (Nat.le_refl _) (.cells #[] 5)
  have HB0 := Lib.hid hB0
  clear hn hc hs hv hb hB0
  go_enter Tryd.func4, Tryd.ntmps4
  go_wp2_with (at_builtin; refine wpList_clone 30 5 i0 (.int .u8 0) 1 1 Tryd.underlying30 hi hz0 hz1 hz2 rfl (by decide) rfl (.tmp 8) (.tmp 9) rfl W.heap.size W.heap.size (by kernel_rfl) (newE W (.cells #[] 5)) (Nat.le_refl _) a n c (Lib.byteCells b) (by kernel_rfl) hlen hnews hone hnil h63 hbt ?_; refine Hid.out ?_)
  refine Lib.hid ?_
  intro v1 w1 hown1 hb1
  have ho1 : Own w1 W.heap.size v1 b := Own.of hown1 rfl
  obtain ⟨a1, k1, c1, rfl⟩ := ho1.form
  have HL1 := Lib.hid (HB0.out.trans (hb1.mono (Nat.le_succ _)))
  have HO1 := Lib.hid ho1.src
  have HR1 := Lib.hid (HRd.out w1 a1 c1 k1 HO1.out HL1.out)
  clear hown1 hb1 ho1 HB0 HRd hi hz0 hz1 hz2 hnews hone hlen h63 hbt hnil
  go_wp2_with (go_at_call 15; refine HR1.out.mono ?_; rintro e w2 ⟨qm, nqm, cqm, qe, nqe, cqe, rfl, hq1, hq2, hqM, hqE, q2⟩; replace hq1 := Lib.hid hq1; replace hq2 := Lib.hid hq2; refine Hid.out ?_)
  refine Lib.hid ?_
  have qa := (Below.refl w2.heap.size w2).alloc (Nat.le_refl _) (.cells #[.int .u8 Q.k, .int .u16 Q.f, .int .u16 Q.a, .int .i64 Q.q, .slice qm nqm cqm, .slice qe nqe cqe] 26)
  have l2 : PkBlk (w2.alloc (.cells #[.int .u8 Q.k, .int .u16 Q.f, .int .u16 Q.a, .int .i64 Q.q, .slice qm nqm cqm, .slice qe nqe cqe] 26)) w2.heap.size Q.k Q.f Q.a Q.q qm nqm cqm qe nqe cqe := PkBlk.new w2 Q.k Q.f Q.a Q.q qm nqm cqm qe nqe cqe
  have c0 : BSt w2 (w2.alloc (.cells #[.int .u8 Q.k, .int .u16 Q.f, .int .u16 Q.a, .int .i64 Q.q, .slice qm nqm cqm, .slice qe nqe cqe] 26)) Q qm nqm cqm qe nqe cqe (.slice none 0 0) [] := ⟨l2, hqM.on qa, hqE.onP qa, .inl ⟨rfl, rfl⟩, qa⟩
  have HC2 := Lib.hid c0
  have HL2 := Lib.hid ((HL1.out.trans (q2.mono HL1.out.size)).trans (qa.mono (HL1.out.trans (q2.mono HL1.out.size)).size))
  have HO2 := Lib.hid ((HO1.out.below q2 (Nat.le_refl _)).below qa (Nat.le_refl _))
  have HY2 := Lib.hid (HYd.out _ HL2.out)
  clear HR1 HL1 HO1 HYd hqM hqE q2 qa l2 c0
  go_wp2_with (go_at_call 16; refine HY2.out.mono ?_; rintro e w3 ⟨rm, nrm, crm, re, nre, cre, rfl, hr1, hr2, hrM, hrE, q3⟩; replace hr1 := Lib.hid hr1; replace hr2 := Lib.hid hr2; refine Hid.out ?_)
  refine Lib.hid ?_
  have qb := (Below.refl w3.heap.size w3).alloc (Nat.le_refl _) (.cells #[.int .u8 Q.k, .int .u16 Q.f, .int .u16 Q.a, .int .i64 Q.q, .slice rm nrm crm, .slice re nre cre] 26)
  have c3 := (HC2.out.on q3).on qb
  have d3 : BSt w3 (w3.alloc (.cells #[.int .u8 Q.k, .int .u16 Q.f, .int .u16 Q.a, .int .i64 Q.q, .slice rm nrm crm, .slice re nre cre] 26)) Q rm nrm crm re nre cre (.slice none 0 0) [] := ⟨PkBlk.new w3 Q.k Q.f Q.a Q.q rm nrm crm re nre cre, hrM.on qb, hrE.onP qb, .inl ⟨rfl, rfl⟩, qb⟩
  have HL3 := Lib.hid ((HL2.out.trans (q3.mono HL2.out.size)).trans (qb.mono (HL2.out.trans (q3.mono HL2.out.size)).size))
  have HO3 := Lib.hid ((HO2.out.below q3 (Nat.le_refl _)).below qb (Nat.le_refl _))
  have HM3 := Lib.hid (HSm.out _ qm nqm cqm qe nqe cqe rm nrm crm re nre cre hq1.out hq2.out hr1.out hr2.out c3.ms c3.es d3.ms d3.es)
  have x0 := c3.blk.c0; have x1 := c3.blk.c1; have x2 := c3.blk.c2; have x3 := c3.blk.c3; have x4 := c3.blk.c4; have x5 := c3.blk.c5
  have y0 := d3.blk.c0; have y1 := d3.blk.c1; have y2 := d3.blk.c2; have y3 := d3.blk.c3; have y4 := d3.blk.c4; have y5 := d3.blk.c5
  clear HC2 HL2 HO2 HY2 HSm hrM hrE q3 qb c3 d3
  go_wp2_with (go_at_call 14; refine HM3.out.mono ?_; rintro e w4 ⟨rfl, q4⟩; refine Hid.out ?_)
  refine Lib.hid ?_
  clear x0 x1 x2 x3 x4 x5 y0 y1 y2 y3 y4 y5 HM3
  have HL4 := Lib.hid (HL3.out.trans (q4.mono HL3.out.size))
  have hc1 := src_string (HO3.out.below q4 (Nat.le_refl _))
  have hc2 := src_string (HBs.out.1.below HL4.out (Nat.le_refl _))
  have hKE : ((⟨b.toArray⟩ : ByteArray).toList == (⟨b.toArray⟩ : ByteArray).toList) = true := by simp
  clear HL3 HO3 HBs q4
  generalize (⟨b.toArray⟩ : ByteArray) = K at *
  go_wp2_with (go_at_call 9; refine (HA.out _ HL4.out).mono ?_; rintro e w9 ⟨rfl, q9⟩; replace q9 := Lib.hid q9; refine Hid.out ?_)
  refine Lib.hid ?_
  go_wp2
  go_ret
  exact ⟨by first | rfl | simp, HL4.out.trans (q9.out.mono HL4.out.size)⟩
set_option maxRecDepth 100000 in
set_option maxHeartbeats 8000000 in
theorem preads_none (W : World) (a : Option Addr) (c n : Nat) (b : List UInt8) (hn : n = b.length) (hc : n ≤ c) (hs : SrcAt W (.slice a n c) b) (hv : VarsOk W.heap.size W) (hb : b.length ≤ 140737488351232) (hnil : a = none → n = 0 ∧ c = 0) (hr : ¬ readOk b) :
    Calls Tryd.prog 4 #[.slice a n c] W fun e w' => e = .returned (.bool true) ∧ Below W.heap.size W w' := by
  have HA : Hid (∀ w, Below W.heap.size W w → Calls Tryd.prog 9 #[] w fun e w' => e = .returned (.bool true) ∧ Below w.heap.size w w') := Lib.hid (fun w hw => pawake_any W.heap.size w hw.size (hv.on hw))
  have HBs := Lib.hid (And.intro hs (And.intro hn (And.intro hb hv)))
  have HRd : Hid (∀ w (p : Option Addr) (d m : Nat), SrcAt w (.slice p m d) b → Below W.heap.size W w → Calls Tryd.prog 15 #[.slice p m d] w fun e w' => e = .returned (.tuple #[.agg #[.int .u8 0, .int .u16 0, .int .u16 0, .int .i64 0, .slice none 0 0, .slice none 0 0], .int .i64 14]) ∧ Below w.heap.size w w') := Lib.hid (fun w p d m h3 hw => pRead_no p m d b W.heap.size w hw.size (hv.on hw) h3 hr)
  have HYd : Hid (∀ w, Below W.heap.size W w → Calls Tryd.prog 16 #[.slice a n c] w fun e w' => e = .returned (.tuple #[.agg #[.int .u8 0, .int .u16 0, .int .u16 0, .int .i64 0, .slice none 0 0, .slice none 0 0], .int .i64 14]) ∧ Below w.heap.size w w') := Lib.hid (fun w hw => yRead_no hn hc (hs.below hw (Nat.le_refl _)) ((hv.on hw).up6 hw.size) hr)
  have HSm : Hid (∀ w, Calls Tryd.prog 14 #[.agg #[.int .u8 0, .int .u16 0, .int .u16 0, .int .i64 0, .slice none 0 0, .slice none 0 0], .agg #[.int .u8 0, .int .u16 0, .int .u16 0, .int .i64 0, .slice none 0 0, .slice none 0 0]] w fun e w' => e = .returned (.bool true) ∧ Below w.heap.size w w') := Lib.hid (fun w => by
    have := ySame_any zeroP zeroP none 0 0 none 0 0 none 0 0 none 0 0 w rfl rfl rfl rfl (fun h => absurd h (by decide)) (fun h => absurd h (by decide)) (fun h => absurd h (by decide)) (fun h => absurd h (by decide)) (by decide) (by decide)
    rw [sameP_refl] at this
    exact this)
  clear hr
  obtain ⟨i0, hi, hz0, hz1, hz2⟩ := info_parts infoByte
  have hnews : ∀ ad, a = some ad → ∀ j u, (Lib.byteCells b)[j]? = some u → (W.alloc (.cells #[] 5)).cell? (ad.add j) = some u := by
    intro ad had j u hj
    simp only [Lib.byteCells, List.getElem?_map, Option.map_eq_some_iff] at hj
    obtain ⟨y, hy, rfl⟩ := hj
    obtain ⟨hj1, rfl⟩ := List.getElem?_eq_some_iff.1 hy
    rcases hs.below ((Below.refl W.heap.size W).alloc (Nat.le_refl _) (.cells #[] 5)) (Nat.le_refl _) with ⟨-, rfl⟩ | ⟨q, c', e, hcl⟩
    · simp at hj1
    · simp only [Value.slice.injEq] at e
      rw [had] at e
      obtain rfl := Option.some.inj e.1
      exact hcl j hj1
  have hone : ∀ u ∈ Lib.byteCells b, u.oneCell' = true := by
    intro u hu; simp only [Lib.byteCells, List.mem_map] at hu; obtain ⟨y, _, rfl⟩ := hu; rfl
  have hlen : (Lib.byteCells b).length = n * 1 := by simp [Lib.byteCells, hn]
  have h63 : n ≤ maxLen := by unfold maxLen; omega
  have hbt : n * 1 ≤ 140737488355328 := by omega
  have hB0 := (Below.refl W.heap.size W).alloc (Nat.le_refl _) (.cells #[] 5)
  have HB0 := Lib.hid hB0
  clear hn hc hs hv hb hB0
  go_enter Tryd.func4, Tryd.ntmps4
  go_wp2_with (at_builtin; refine wpList_clone 30 5 i0 (.int .u8 0) 1 1 Tryd.underlying30 hi hz0 hz1 hz2 rfl (by decide) rfl (.tmp 8) (.tmp 9) rfl W.heap.size W.heap.size (by kernel_rfl) (newE W (.cells #[] 5)) (Nat.le_refl _) a n c (Lib.byteCells b) (by kernel_rfl) hlen hnews hone hnil h63 hbt ?_; refine Hid.out ?_)
  refine Lib.hid ?_
  intro v1 w1 hown1 hb1
  have ho1 : Own w1 W.heap.size v1 b := Own.of hown1 rfl
  obtain ⟨a1, k1, c1, rfl⟩ := ho1.form
  have HL1 := Lib.hid (HB0.out.trans (hb1.mono (Nat.le_succ _)))
  have HO1 := Lib.hid ho1.src
  have HR1 := Lib.hid (HRd.out w1 a1 c1 k1 HO1.out HL1.out)
  clear hown1 hb1 ho1 HB0 HRd hi hz0 hz1 hz2 hnews hone hlen h63 hbt hnil
  go_wp2_with (go_at_call 15; refine HR1.out.mono ?_; rintro e w2 ⟨rfl, q2⟩; refine Hid.out ?_)
  refine Lib.hid ?_
  have qa := (Below.refl w2.heap.size w2).alloc (Nat.le_refl _) (.cells #[.int .u8 0, .int .u16 0, .int .u16 0, .int .i64 0, .slice none 0 0, .slice none 0 0] 26)
  have HC2 := Lib.hid (PkBlk.new w2 0 0 0 0 none 0 0 none 0 0)
  have HL2 := Lib.hid ((HL1.out.trans (q2.mono HL1.out.size)).trans (qa.mono (HL1.out.trans (q2.mono HL1.out.size)).size))
  have HO2 := Lib.hid ((HO1.out.below q2 (Nat.le_refl _)).below qa (Nat.le_refl _))
  have HY2 := Lib.hid (HYd.out _ HL2.out)
  clear HR1 HL1 HO1 HYd q2 qa
  go_wp2_with (go_at_call 16; refine HY2.out.mono ?_; rintro e w3 ⟨rfl, q3⟩; refine Hid.out ?_)
  refine Lib.hid ?_
  have qb := (Below.refl w3.heap.size w3).alloc (Nat.le_refl _) (.cells #[.int .u8 0, .int .u16 0, .int .u16 0, .int .i64 0, .slice none 0 0, .slice none 0 0] 26)
  have c3 := (HC2.out.on q3).on qb
  have d3 := PkBlk.new w3 0 0 0 0 none 0 0 none 0 0
  have HL3 := Lib.hid ((HL2.out.trans (q3.mono HL2.out.size)).trans (qb.mono (HL2.out.trans (q3.mono HL2.out.size)).size))
  have HO3 := Lib.hid ((HO2.out.below q3 (Nat.le_refl _)).below qb (Nat.le_refl _))
  have x0 := c3.c0; have x1 := c3.c1; have x2 := c3.c2; have x3 := c3.c3; have x4 := c3.c4; have x5 := c3.c5
  have y0 := d3.c0; have y1 := d3.c1; have y2 := d3.c2; have y3 := d3.c3; have y4 := d3.c4; have y5 := d3.c5
  clear HC2 HL2 HO2 HY2 q3 qb c3 d3
  go_wp2_with (go_at_call 14; refine (HSm.out _).mono ?_; rintro e w4 ⟨rfl, q4⟩; refine Hid.out ?_)
  refine Lib.hid ?_
  clear x0 x1 x2 x3 x4 x5 y0 y1 y2 y3 y4 y5 HSm
  have HL4 := Lib.hid (HL3.out.trans (q4.mono HL3.out.size))
  have hc1 := src_string (HO3.out.below q4 (Nat.le_refl _))
  have hc2 := src_string (HBs.out.1.below HL4.out (Nat.le_refl _))
  have hKE : ((⟨b.toArray⟩ : ByteArray).toList == (⟨b.toArray⟩ : ByteArray).toList) = true := by simp
  clear HL3 HO3 HBs q4
  generalize (⟨b.toArray⟩ : ByteArray) = K at *
  go_wp2_with (go_at_call 9; refine (HA.out _ HL4.out).mono ?_; rintro e w9 ⟨rfl, q9⟩; replace q9 := Lib.hid q9; refine Hid.out ?_)
  refine Lib.hid ?_
  go_wp2
  go_ret
  exact ⟨by first | rfl | simp, HL4.out.trans (q9.out.mono HL4.out.size)⟩
theorem preads_walk (W : World) (a : Option Addr) (c n : Nat) (b : List UInt8) (hn : n = b.length) (hc : n ≤ c) (hs : SrcAt W (.slice a n c) b) (hv : VarsOk W.heap.size W) (hb : b.length ≤ 140737488351232) (hnil : a = none → n = 0 ∧ c = 0) :
    Calls Tryd.prog 4 #[.slice a n c] W fun e w' => e = .returned (.bool true) ∧ Below W.heap.size W w' := by
  by_cases hr : readOk b
  · exact preads_ok W a c n b hn hc hs hv hb hnil hr
  · exact preads_none W a c n b hn hc hs hv hb hnil hr

end Go.Proofs.YtchhdffehkcecaaDoor
