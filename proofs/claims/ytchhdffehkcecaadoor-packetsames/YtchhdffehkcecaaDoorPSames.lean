/-
  The walk of PacketSames: whether two packets are one, how a member is laid, and how long an entry is.
-/
import Derived.Test.YtchhdffehkcecaaDoorP16
import Derived.Test.YtchhdffehkcecaaDoorP17
import Derived.Test.YtchhdffehkcecaaDoorPMore
namespace Go.Proofs.YtchhdffehkcecaaDoor
open Go Go.RowKit

theorem wpAnyH_moreP {P : Program} {md : Region.Mode} {ops : Array Oper} {Q : Exit → Act → World → Prop} {S S' : World → Prop} (hs : ∀ w, S' w → S w) : ∀ (fuel : Nat) (listed : Array Bool) (a : Act) (w : World), wpAnyH P md ops Q S' fuel listed a w → wpAnyH P md ops Q S fuel listed a w
  | 0, _, _, _, h => h
  | fuel + 1, _, _, _, h => ⟨h.1, fun i hi => wpOp_mono (fun a' w' h' => ⟨hs _ h'.1, wpAnyH_moreP hs fuel _ a' w' h'.2⟩) (h.2 i hi)⟩
theorem eql_strP (l : List UInt8) (W : World) : (binOp .eql 9 (.string ⟨l.toArray⟩) (.string ⟨l.toArray⟩)).run Tryd.prog W = .ok (.bool true) W := by rw [binOp_string_eql]; simp
theorem RowE6.on6 {w w' : World} {b p : Nat} {x : Ent} (h : RowE6 w b p x) (hb : Below w.heap.size w w') : RowE6 w' b p x := by
  have hlt := World.block_lt_of_cell? w _ h.1
  have e := hb.block b hlt
  unfold RowE6 at h ⊢
  rw [World.cell?_of_block (a := ⟨b, p, none⟩) e, World.cell?_of_block (a := ⟨b, p + 1, none⟩) e, World.cell?_of_block (a := ⟨b, p + 2, none⟩) e, World.cell?_of_block (a := ⟨b, p + 3, none⟩) e, World.cell?_of_block (a := ⟨b, p + 4, none⟩) e]
  exact h
/-- What the law holds: both packets, the member. -/
structure DSt (W w : World) (p q : Pk) (m : Mem) (am : Option Addr) (nm cm : Nat) (ae : Option Addr) (ne ce : Nat) (bm : Option Addr) (mm dm : Nat) (be : Option Addr) (me de : Nat) : Prop where
  p1 : PkBlk w W.heap.size p.k p.f p.a p.q am nm cm ae ne ce
  p2 : PkBlk w (W.heap.size + 1) q.k q.f q.a q.q bm mm dm be me de
  p3 : MBlk w (W.heap.size + 2) m
  ms : MemsAt w am p.ms
  es : EntsAt w ae p.es
  ms2 : MemsAt w bm q.ms
  es2 : EntsAt w be q.es
  low : Below W.heap.size W w
theorem DSt.on {W w w' : World} {p q : Pk} {m : Mem} {am : Option Addr} {nm cm : Nat} {ae : Option Addr} {ne ce : Nat} {bm : Option Addr} {mm dm : Nat} {be : Option Addr} {me de : Nat} (h : DSt W w p q m am nm cm ae ne ce bm mm dm be me de) (hb : Below w.heap.size w w') : DSt W w' p q m am nm cm ae ne ce bm mm dm be me de :=
  ⟨h.p1.on hb, h.p2.on hb, h.p3.on hb, h.ms.on hb, h.es.onP hb, h.ms2.on hb, h.es2.onP hb, h.low.trans (hb.mono h.low.size)⟩

set_option maxRecDepth 100000 in
set_option maxHeartbeats 8000000 in
theorem psames_walk (p q : Pk) (m : Mem) (hp : p.Ok) (hm : m.Ok) (am : Option Addr) (nm cm : Nat) (ae : Option Addr) (ne ce : Nat) (bm : Option Addr) (mm dm : Nat) (be : Option Addr) (me de : Nat) (hnm : nm = p.ms.length) (hne : ne = p.es.length) (hmm : mm = q.ms.length) (hme : me = q.es.length) (W : World) (hv : VarsOk W.heap.size W) (hM : MemsAt W am p.ms) (hE : EntsAt W ae p.es) (hM2 : MemsAt W bm q.ms) (hE2 : EntsAt W be q.es) (hl1 : p.ms.length ≤ 9223372036854775807) (hl2 : p.es.length ≤ 9223372036854775807) :
    Calls Tryd.prog 5 #[.agg #[.int .u8 p.k, .int .u16 p.f, .int .u16 p.a, .int .i64 p.q, .slice am nm cm, .slice ae ne ce], .agg #[.int .u8 q.k, .int .u16 q.f, .int .u16 q.a, .int .i64 q.q, .slice bm mm dm, .slice be me de], .agg #[.int .u16 m.n, .int .u8 m.s, .int .i64 m.i]] W fun e w' => e = .returned (.bool true) ∧ Below W.heap.size W w' := by
  have HA : Hid (∀ w, Below W.heap.size W w → Calls Tryd.prog 9 #[] w fun e w' => e = .returned (.bool true) ∧ Below w.heap.size w w') := Lib.hid (fun w hw => pawake_any W.heap.size w hw.size (hv.on hw))
  have d1 := (Below.refl W.heap.size W).alloc (Nat.le_refl _) (.cells #[.int .u8 p.k, .int .u16 p.f, .int .u16 p.a, .int .i64 p.q, .slice am nm cm, .slice ae ne ce] 26)
  have d2 := d1.alloc (by simp) (.cells #[.int .u8 q.k, .int .u16 q.f, .int .u16 q.a, .int .i64 q.q, .slice bm mm dm, .slice be me de] 26)
  have d3 := d2.alloc (by simp; omega) (.cells #[.int .u16 m.n, .int .u8 m.s, .int .i64 m.i] 45)
  have f2 := (Below.refl (W.alloc (.cells #[.int .u8 p.k, .int .u16 p.f, .int .u16 p.a, .int .i64 p.q, .slice am nm cm, .slice ae ne ce] 26)).heap.size (W.alloc (.cells #[.int .u8 p.k, .int .u16 p.f, .int .u16 p.a, .int .i64 p.q, .slice am nm cm, .slice ae ne ce] 26))).alloc (Nat.le_refl _) (.cells #[.int .u8 q.k, .int .u16 q.f, .int .u16 q.a, .int .i64 q.q, .slice bm mm dm, .slice be me de] 26)
  have f3 := (Below.refl ((W.alloc (.cells #[.int .u8 p.k, .int .u16 p.f, .int .u16 p.a, .int .i64 p.q, .slice am nm cm, .slice ae ne ce] 26)).alloc (.cells #[.int .u8 q.k, .int .u16 q.f, .int .u16 q.a, .int .i64 q.q, .slice bm mm dm, .slice be me de] 26)).heap.size ((W.alloc (.cells #[.int .u8 p.k, .int .u16 p.f, .int .u16 p.a, .int .i64 p.q, .slice am nm cm, .slice ae ne ce] 26)).alloc (.cells #[.int .u8 q.k, .int .u16 q.f, .int .u16 q.a, .int .i64 q.q, .slice bm mm dm, .slice be me de] 26))).alloc (Nat.le_refl _) (.cells #[.int .u16 m.n, .int .u8 m.s, .int .i64 m.i] 45)
  have b1 := ((PkBlk.new W p.k p.f p.a p.q am nm cm ae ne ce).on f2).on f3
  have b2 := (PkBlk.new (W.alloc (.cells #[.int .u8 p.k, .int .u16 p.f, .int .u16 p.a, .int .i64 p.q, .slice am nm cm, .slice ae ne ce] 26)) q.k q.f q.a q.q bm mm dm be me de).on f3
  have b3 := MBlk.new ((W.alloc (.cells #[.int .u8 p.k, .int .u16 p.f, .int .u16 p.a, .int .i64 p.q, .slice am nm cm, .slice ae ne ce] 26)).alloc (.cells #[.int .u8 q.k, .int .u16 q.f, .int .u16 q.a, .int .i64 q.q, .slice bm mm dm, .slice be me de] 26)) m
  rw [World.size_alloc] at b2
  rw [World.size_alloc, World.size_alloc] at b3
  have s0 : DSt W (((W.alloc (.cells #[.int .u8 p.k, .int .u16 p.f, .int .u16 p.a, .int .i64 p.q, .slice am nm cm, .slice ae ne ce] 26)).alloc (.cells #[.int .u8 q.k, .int .u16 q.f, .int .u16 q.a, .int .i64 q.q, .slice bm mm dm, .slice be me de] 26)).alloc (.cells #[.int .u16 m.n, .int .u8 m.s, .int .i64 m.i] 45)) p q m am nm cm ae ne ce bm mm dm be me de := ⟨b1, b2, b3, hM.on d3, hE.onP d3, hM2.on d3, hE2.onP d3, d3⟩
  have HL1 : Hid (∀ w, EntsAt w ae p.es → Calls Tryd.prog 8 #[.agg #[.int .u8 p.k, .int .u16 p.f, .int .u16 p.a, .int .i64 p.q, .slice am nm cm, .slice ae ne ce]] w (LPost nm p.es w)) := Lib.hid (fun w he => yLightP_any p.k p.f p.a p.q am nm cm ae ne ce p.es w hne he)
  have HL2 : Hid (∀ w, EntsAt w be q.es → Calls Tryd.prog 8 #[.agg #[.int .u8 q.k, .int .u16 q.f, .int .u16 q.a, .int .i64 q.q, .slice bm mm dm, .slice be me de]] w (LPost mm q.es w)) := Lib.hid (fun w he => yLightP_any q.k q.f q.a q.q bm mm dm be me de q.es w hme he)
  unfold LPost at HL1 HL2
  have HSP : Hid (∀ w, MemsAt w am p.ms → EntsAt w ae p.es → MemsAt w bm q.ms → EntsAt w be q.es → Calls Tryd.prog 19 #[.agg #[.int .u8 p.k, .int .u16 p.f, .int .u16 p.a, .int .i64 p.q, .slice am nm cm, .slice ae ne ce], .agg #[.int .u8 q.k, .int .u16 q.f, .int .u16 q.a, .int .i64 q.q, .slice bm mm dm, .slice be me de]] w fun e w' => e = .returned (.bool (sameP p q)) ∧ Below w.heap.size w w') := Lib.hid (fun w m1 m2 m3 m4 => pSame_any p q am nm cm ae ne ce bm mm dm be me de w hnm hne hmm hme m1 m2 m3 m4 hl1 hl2)
  have HSY : Hid (∀ w, MemsAt w am p.ms → EntsAt w ae p.es → MemsAt w bm q.ms → EntsAt w be q.es → Calls Tryd.prog 14 #[.agg #[.int .u8 p.k, .int .u16 p.f, .int .u16 p.a, .int .i64 p.q, .slice am nm cm, .slice ae ne ce], .agg #[.int .u8 q.k, .int .u16 q.f, .int .u16 q.a, .int .i64 q.q, .slice bm mm dm, .slice be me de]] w fun e w' => e = .returned (.bool (sameP p q)) ∧ Below w.heap.size w w') := Lib.hid (fun w m1 m2 m3 m4 => ySame_any p q am nm cm ae ne ce bm mm dm be me de w hnm hne hmm hme m1 m2 m3 m4 hl1 hl2)
  have HMP : Hid (∀ w, Below W.heap.size W w → Calls Tryd.prog 20 #[.agg #[.int .u16 m.n, .int .u8 m.s, .int .i64 m.i]] w fun e w' => ∃ a k c, e = .returned (.slice a k c) ∧ Own w' w.heap.size (.slice a k c) (layM m) ∧ Below w.heap.size w w') := Lib.hid (fun w hw => pMember_any m hm W.heap.size w hw.size ((hv.on hw).tab))
  have HMY : Hid (∀ w, Below W.heap.size W w → Calls Tryd.prog 21 #[.agg #[.int .u16 m.n, .int .u8 m.s, .int .i64 m.i]] w fun e w' => ∃ a k c, e = .returned (.slice a k c) ∧ OwnM w' w.heap.size (.slice a k c) (layM m) ∧ Below w.heap.size w w') := Lib.hid (fun w hw => yMember_any m hm W.heap.size w hw.size ((hv.on hw).tab))
  have HSz : Hid (∀ w x, x ∈ p.es → x.k.size ≤ 40000 → x.v.size ≤ 40000 → Below W.heap.size W w → Calls Tryd.prog 17 #[.agg #[.string x.k, .int .i64 x.t, .int .u16 x.o, .string x.v, .int .i64 x.u]] w fun e w' => e = .returned (.int .i64 ((putEn x).length : Int)) ∧ Below w.heap.size w w') := Lib.hid (fun w x hx g1 g2 hw => pSize_any x (hp.es x hx) (by omega) (by omega) W.heap.size w hw.size ((hv.on hw).tab))
  have HRP : Hid (∀ w x, x ∈ p.es → x.k.size ≤ 40000 → x.v.size ≤ 40000 → Below W.heap.size W w → Calls Tryd.prog 18 #[.agg #[.string x.k, .int .i64 x.t, .int .u16 x.o, .string x.v, .int .i64 x.u]] w fun e w' => ∃ a k c, e = .returned (.slice a k c) ∧ OwnM w' w.heap.size (.slice a k c) (putEn x) ∧ Below w.heap.size w w') := Lib.hid (fun w x hx g1 g2 hw => eRefPut_any x (hp.es x hx) (by omega) (by omega) (by have := putEn_len x (hp.es x hx) (by omega) (by omega); omega) W.heap.size w hw.size ((hv.on hw).tab))
  generalize layM m = LM at *
  have HNE := Lib.hid hne
  have HS0 := Lib.hid s0
  have x0 := HS0.out.p1.c0; have x1 := HS0.out.p1.c1; have x2 := HS0.out.p1.c2; have x3 := HS0.out.p1.c3; have x4 := HS0.out.p1.c4; have x5 := HS0.out.p1.c5
  have y0 := HS0.out.p2.c0; have y1 := HS0.out.p2.c1; have y2 := HS0.out.p2.c2; have y3 := HS0.out.p2.c3; have y4 := HS0.out.p2.c4; have y5 := HS0.out.p2.c5
  clear hp hm hnm hne hmm hme hv hM hE hM2 hE2 hl1 hl2 d1 d2 d3 f2 f3 b1 b2 b3 s0
  generalize sameP p q = SQ at *
  have hSQ : (SQ == SQ) = true := by simp
  go_enter Tryd.func5, Tryd.ntmps5
  go_wp2_with (go_at_call 8; refine (HL1.out _ HS0.out.es).mono ?_; rintro e w1 ⟨r, rfl, hr, q1⟩; replace hr := Lib.hid hr; refine Hid.out ?_)
  refine Lib.hid ?_
  have HS1 := Lib.hid (HS0.out.on q1)
  clear x0 x1 x2 x3 x4 x5 y0 y1 y2 y3 y4 y5 HS0 HL1 q1
  cases r with
  | false =>
    go_wp2_with (go_at_call 9; refine (HA.out _ HS1.out.low).mono ?_; rintro e w9 ⟨rfl, q9⟩; replace q9 := Lib.hid q9; refine Hid.out ?_)
    refine Lib.hid ?_
    go_wp2
    go_ret
    exact ⟨by first | rfl | simp, HS1.out.low.trans (q9.out.mono HS1.out.low.size)⟩
  | true =>
    have y0 := HS1.out.p2.c0; have y1 := HS1.out.p2.c1; have y2 := HS1.out.p2.c2; have y3 := HS1.out.p2.c3; have y4 := HS1.out.p2.c4; have y5 := HS1.out.p2.c5
    go_wp2_with (go_at_call 8; refine (HL2.out _ HS1.out.es2).mono ?_; rintro e w2 ⟨r, rfl, -, q2⟩; refine Hid.out ?_)
    refine Lib.hid ?_
    have HS2 := Lib.hid (HS1.out.on q2)
    clear y0 y1 y2 y3 y4 y5 HS1 HL2 q2
    cases r with
    | false =>
      go_wp2_with (go_at_call 9; refine (HA.out _ HS2.out.low).mono ?_; rintro e w9 ⟨rfl, q9⟩; replace q9 := Lib.hid q9; refine Hid.out ?_)
      refine Lib.hid ?_
      go_wp2
      go_ret
      exact ⟨by first | rfl | simp, HS2.out.low.trans (q9.out.mono HS2.out.low.size)⟩
    | true =>
      have HR := Lib.hid ((hr.out (by simp)).2.2)
      have hne9 : ne ≤ 260 := by have h8 := (hr.out (by simp)).2.1; have h9 := HNE.out; omega
      go_wp2
      obtain ⟨wA, rfl⟩ : ∃ x, x = w2 := ⟨_, rfl⟩
      go_loopw [7] (fun i wr => ∃ k : Nat, k ≤ ne ∧ i = .int .i64 k ∧ Hid (Below wA.heap.size wA wr)) (fun i _ => ne - (intOf i).toNat)
      case atStart => exact ⟨0, Nat.zero_le _, rfl, Lib.hid (Below.refl _ _)⟩
      case round =>
        obtain ⟨k, hk, rfl, HB⟩ := hrel
        have HSw := Lib.hid (HS2.out.on HB.out)
        have x5 := HSw.out.p1.c5
        by_cases hlt : k < ne
        · have hkl : (k : Int) < (ne : Int) := by omega
          have hkx : k < p.es.length := by have := HNE.out; omega
          obtain ⟨b, o, e0, rE⟩ := HSw.out.es.row6 k hkx
          have h9 := HR.out p.es[k] (List.getElem_mem hkx)
          have HC1 : Hid (∀ w, Below W.heap.size W w → Calls Tryd.prog 17 #[.agg #[.string p.es[k].k, .int .i64 p.es[k].t, .int .u16 p.es[k].o, .string p.es[k].v, .int .i64 p.es[k].u]] w fun e w' => e = .returned (.int .i64 ((putEn p.es[k]).length : Int)) ∧ Below w.heap.size w w') := Lib.hid (fun w hw => HSz.out w p.es[k] (List.getElem_mem hkx) h9.1 h9.2 hw)
          have HC2 : Hid (∀ w, Below W.heap.size W w → Calls Tryd.prog 18 #[.agg #[.string p.es[k].k, .int .i64 p.es[k].t, .int .u16 p.es[k].o, .string p.es[k].v, .int .i64 p.es[k].u]] w fun e w' => ∃ a k1 c, e = .returned (.slice a k1 c) ∧ OwnM w' w.heap.size (.slice a k1 c) (putEn p.es[k]) ∧ Below w.heap.size w w') := Lib.hid (fun w hw => HRP.out w p.es[k] (List.getElem_mem hkx) h9.1 h9.2 hw)
          have HE0 := Lib.hid e0
          rw [e0] at x5
          clear h9 e0
          generalize p.es[k] = x at *
          clear hkx
          obtain ⟨N, hN⟩ : ∃ N, (putEn x).length = N := ⟨_, rfl⟩
          rw [hN] at HC1
          have HN := Lib.hid hN
          clear hN
          generalize putEn x = LE at *
          obtain ⟨kx, tx, ox, vx, ux⟩ := x
          dsimp only at HC1 HC2
          have HRE := Lib.hid rE
          clear rE
          go_wp2_with fail
          refine wp_region_any (by kernel_rfl) ?_
          change wpAny _ _ _ _ _ _ _ (World.drew _)
          have hS : (fun w' : World => DSt W w' p q m am nm cm ae ne ce bm mm dm be me de ∧ RowE6 w' b (o + k * 5) ⟨kx, tx, ox, vx, ux⟩) wr.drew := ⟨HSw.out.on (Below.refl wr.heap.size wr).drew, HRE.out⟩
          refine wpAny_of_held (S := fun w' => DSt W w' p q m am nm cm ae ne ce bm mm dm be me de ∧ RowE6 w' b (o + k * 5) ⟨kx, tx, ox, vx, ux⟩) _ _ _ _ ?_
          clear HRE x5
          refine wpAnyH_takeE (i := 0) (some 24) (v := ?_) rfl rfl (by as_aux_lemma => kernel_rfl) (by as_aux_lemma => kernel_rfl) (by as_aux_lemma => kernel_rfl) (fun _ _ _ h => h) (Or.inl ⟨by kernel_rfl, ?_⟩) hS ?_
          rotate_left
          · intro w hSw; have x5 := hSw.1.p1.c5; rw [HE0.out] at x5; obtain ⟨r0, r1, r2, r3, r4⟩ := hSw.2; dsimp only at r0 r1 r2 r3 r4; go_simp
            first | done | with_reducible rfl
          refine wpAnyH_takeE (i := 1) (some 25) (v := ?_) rfl rfl (by as_aux_lemma => kernel_rfl) (by as_aux_lemma => kernel_rfl) (by as_aux_lemma => kernel_rfl) (fun _ _ _ h => h) (Or.inl ⟨by kernel_rfl, ?_⟩) hS ?_
          rotate_left
          · intro w hSw; have x5 := hSw.1.p1.c5; rw [HE0.out] at x5; obtain ⟨r0, r1, r2, r3, r4⟩ := hSw.2; dsimp only at r0 r1 r2 r3 r4; go_simp
            first | done | with_reducible rfl
          refine wpAnyH_takeE (i := 2) (some 26) (v := ?_) rfl rfl (by as_aux_lemma => kernel_rfl) (by as_aux_lemma => kernel_rfl) (by as_aux_lemma => kernel_rfl) (fun _ _ _ h => h) (Or.inl ⟨by kernel_rfl, ?_⟩) hS ?_
          rotate_left
          · intro w hSw; have x5 := hSw.1.p1.c5; rw [HE0.out] at x5; obtain ⟨r0, r1, r2, r3, r4⟩ := hSw.2; dsimp only at r0 r1 r2 r3 r4; go_simp
            first | done | with_reducible rfl
          refine wpAnyH_takeE (i := 3) (some 27) (v := ?_) rfl rfl (by as_aux_lemma => kernel_rfl) (by as_aux_lemma => kernel_rfl) (by as_aux_lemma => kernel_rfl) (fun _ _ _ h => h) (Or.inl ⟨by kernel_rfl, ?_⟩) hS ?_
          rotate_left
          · intro w hSw; have x5 := hSw.1.p1.c5; rw [HE0.out] at x5; obtain ⟨r0, r1, r2, r3, r4⟩ := hSw.2; dsimp only at r0 r1 r2 r3 r4; go_simp
            first | done | with_reducible rfl
          refine wpAnyH_takeE (i := 4) (some 28) (v := ?_) rfl rfl (by as_aux_lemma => kernel_rfl) (by as_aux_lemma => kernel_rfl) (by as_aux_lemma => kernel_rfl) (fun _ _ _ h => h) (Or.inl ⟨by kernel_rfl, ?_⟩) hS ?_
          rotate_left
          · intro w hSw; have x5 := hSw.1.p1.c5; rw [HE0.out] at x5; obtain ⟨r0, r1, r2, r3, r4⟩ := hSw.2; dsimp only at r0 r1 r2 r3 r4; go_simp
            first | done | with_reducible rfl
          refine wpAnyH_takeE (i := 6) (some 30) (v := ?_) rfl rfl (by as_aux_lemma => kernel_rfl) (by as_aux_lemma => kernel_rfl) (by as_aux_lemma => kernel_rfl) (fun _ _ _ h => h) (Or.inl ⟨by kernel_rfl, ?_⟩) hS ?_
          rotate_left
          · intro w hSw; have x5 := hSw.1.p1.c5; rw [HE0.out] at x5; obtain ⟨r0, r1, r2, r3, r4⟩ := hSw.2; dsimp only at r0 r1 r2 r3 r4; go_simp
            first | done | with_reducible rfl
          refine wpAnyH_takeE (i := 7) (some 31) (v := ?_) rfl rfl (by as_aux_lemma => kernel_rfl) (by as_aux_lemma => kernel_rfl) (by as_aux_lemma => kernel_rfl) (fun _ _ _ h => h) (Or.inl ⟨by kernel_rfl, ?_⟩) hS ?_
          rotate_left
          · intro w hSw; have x5 := hSw.1.p1.c5; rw [HE0.out] at x5; obtain ⟨r0, r1, r2, r3, r4⟩ := hSw.2; dsimp only at r0 r1 r2 r3 r4; go_simp
            first | done | with_reducible rfl
          refine wpAnyH_takeE (i := 8) (some 32) (v := ?_) rfl rfl (by as_aux_lemma => kernel_rfl) (by as_aux_lemma => kernel_rfl) (by as_aux_lemma => kernel_rfl) (fun _ _ _ h => h) (Or.inl ⟨by kernel_rfl, ?_⟩) hS ?_
          rotate_left
          · intro w hSw; have x5 := hSw.1.p1.c5; rw [HE0.out] at x5; obtain ⟨r0, r1, r2, r3, r4⟩ := hSw.2; dsimp only at r0 r1 r2 r3 r4; go_simp
            first | done | with_reducible rfl
          refine wpAnyH_takeE (i := 9) (some 33) (v := ?_) rfl rfl (by as_aux_lemma => kernel_rfl) (by as_aux_lemma => kernel_rfl) (by as_aux_lemma => kernel_rfl) (fun _ _ _ h => h) (Or.inl ⟨by kernel_rfl, ?_⟩) hS ?_
          rotate_left
          · intro w hSw; have x5 := hSw.1.p1.c5; rw [HE0.out] at x5; obtain ⟨r0, r1, r2, r3, r4⟩ := hSw.2; dsimp only at r0 r1 r2 r3 r4; go_simp
            first | done | with_reducible rfl
          refine wpAnyH_takeE (i := 10) (some 34) (v := ?_) rfl rfl (by as_aux_lemma => kernel_rfl) (by as_aux_lemma => kernel_rfl) (by as_aux_lemma => kernel_rfl) (fun _ _ _ h => h) (Or.inl ⟨by kernel_rfl, ?_⟩) hS ?_
          rotate_left
          · intro w hSw; have x5 := hSw.1.p1.c5; rw [HE0.out] at x5; obtain ⟨r0, r1, r2, r3, r4⟩ := hSw.2; dsimp only at r0 r1 r2 r3 r4; go_simp
            first | done | with_reducible rfl
          refine wpAnyH_ready (rs := [5]) (by as_aux_lemma => kernel_rfl) (by simp) ?_
          refine AllReadyH.cons rfl (fun K hK => ?_) AllReadyH.nil
          go_simp
          go_wp2_with (go_at_call 17; refine (HC1.out _ HSw.out.low.drew).mono ?_; rintro e w3 ⟨rfl, hb3⟩)
          refine hK.out _ _ ?_ (fun hS => ?_)
          · exact ⟨hS.1.on hb3, hS.2.on6 hb3⟩
          clear hK K
          have HB3 := Lib.hid (HB.out.drew.trans (hb3.mono HB.out.drew.size))
          have HW3 := Lib.hid hS.1.low
          clear hb3 HC1 HB HSw
          refine wpAnyH_ready (rs := [11]) (by as_aux_lemma => kernel_rfl) (by simp) ?_
          refine AllReadyH.cons rfl (fun K hK => ?_) AllReadyH.nil
          go_simp
          go_wp2_with (go_at_call 18; refine (HC2.out _ HW3.out).mono ?_; rintro e w4 ⟨a4, n4, c4, rfl, ho4, hb4⟩)
          refine hK.out _ _ ?_ (fun hS => ?_)
          · exact ⟨hS.1.on hb4, hS.2.on6 hb4⟩
          clear hK K
          have hn4 : n4 = N := (src_lenP ho4.src).trans HN.out
          subst hn4
          have HB4 := Lib.hid (HB3.out.trans (hb4.mono HB3.out.size))
          clear hb4 ho4 HC2 HB3 HW3 HN
          refine wpAnyH_takeE (i := 12) (some 36) (v := ?_) rfl rfl (by as_aux_lemma => kernel_rfl) (by as_aux_lemma => kernel_rfl) (by as_aux_lemma => kernel_rfl) (fun _ _ _ h => h) (Or.inl ⟨by kernel_rfl, ?_⟩) hS ?_
          rotate_left
          · intro w hSw; skip; go_simp
            first | done | with_reducible rfl
          refine wpAnyH_takeE (i := 13) (some 37) (v := ?_) rfl rfl (by as_aux_lemma => kernel_rfl) (by as_aux_lemma => kernel_rfl) (by as_aux_lemma => kernel_rfl) (fun _ _ _ h => h) (Or.inl ⟨by kernel_rfl, ?_⟩) hS ?_
          rotate_left
          · intro w hSw; skip; go_simp
            first | done | with_reducible rfl
          refine wpAnyH_done (by kernel_rfl) ?_ _
          clear hS
          go_simp
          go_wp2
          go_roundw
          case rel => exact ⟨k + 1, by omega, by go_num, HB4⟩
          case measure => simp [intOf]; omega
        · have hkl : ¬ (k : Int) < (ne : Int) := by omega
          go_wp2_with fail
          clear x5 hlt hkl HS2 HB HSz HRP HR
          refine wp_region_any (by kernel_rfl) ?_
          change wpAny _ _ _ _ _ _ _ (World.drew _)
          have hS : (fun w' : World => DSt W w' p q m am nm cm ae ne ce bm mm dm be me de) wr.drew := HSw.out.on (Below.refl wr.heap.size wr).drew
          refine wpAny_of_held (S := fun w' => DSt W w' p q m am nm cm ae ne ce bm mm dm be me de) _ _ _ _ ?_
          have HD := Lib.hid HSw.out.low.drew
          clear HSw
          refine wpAnyH_takeE (i := 0) (some 38) (v := ?_) rfl rfl (by as_aux_lemma => kernel_rfl) (by as_aux_lemma => kernel_rfl) (by as_aux_lemma => kernel_rfl) (fun _ _ _ h => h) (Or.inl ⟨by kernel_rfl, ?_⟩) hS ?_
          rotate_left
          · intro w hSw; have x0 := hSw.p1.c0; have x1 := hSw.p1.c1; have x2 := hSw.p1.c2; have x3 := hSw.p1.c3; have x4 := hSw.p1.c4; have x5 := hSw.p1.c5; have y0 := hSw.p2.c0; have y1 := hSw.p2.c1; have y2 := hSw.p2.c2; have y3 := hSw.p2.c3; have y4 := hSw.p2.c4; have y5 := hSw.p2.c5; have z0 := hSw.p3.c0; have z1 := hSw.p3.c1; have z2 := hSw.p3.c2; go_simp
            first | done | with_reducible rfl
          refine wpAnyH_takeE (i := 1) (some 39) (v := ?_) rfl rfl (by as_aux_lemma => kernel_rfl) (by as_aux_lemma => kernel_rfl) (by as_aux_lemma => kernel_rfl) (fun _ _ _ h => h) (Or.inl ⟨by kernel_rfl, ?_⟩) hS ?_
          rotate_left
          · intro w hSw; have x0 := hSw.p1.c0; have x1 := hSw.p1.c1; have x2 := hSw.p1.c2; have x3 := hSw.p1.c3; have x4 := hSw.p1.c4; have x5 := hSw.p1.c5; have y0 := hSw.p2.c0; have y1 := hSw.p2.c1; have y2 := hSw.p2.c2; have y3 := hSw.p2.c3; have y4 := hSw.p2.c4; have y5 := hSw.p2.c5; have z0 := hSw.p3.c0; have z1 := hSw.p3.c1; have z2 := hSw.p3.c2; go_simp
            first | done | with_reducible rfl
          refine wpAnyH_takeE (i := 3) (some 41) (v := ?_) rfl rfl (by as_aux_lemma => kernel_rfl) (by as_aux_lemma => kernel_rfl) (by as_aux_lemma => kernel_rfl) (fun _ _ _ h => h) (Or.inl ⟨by kernel_rfl, ?_⟩) hS ?_
          rotate_left
          · intro w hSw; have x0 := hSw.p1.c0; have x1 := hSw.p1.c1; have x2 := hSw.p1.c2; have x3 := hSw.p1.c3; have x4 := hSw.p1.c4; have x5 := hSw.p1.c5; have y0 := hSw.p2.c0; have y1 := hSw.p2.c1; have y2 := hSw.p2.c2; have y3 := hSw.p2.c3; have y4 := hSw.p2.c4; have y5 := hSw.p2.c5; have z0 := hSw.p3.c0; have z1 := hSw.p3.c1; have z2 := hSw.p3.c2; go_simp
            first | done | with_reducible rfl
          refine wpAnyH_takeE (i := 4) (some 42) (v := ?_) rfl rfl (by as_aux_lemma => kernel_rfl) (by as_aux_lemma => kernel_rfl) (by as_aux_lemma => kernel_rfl) (fun _ _ _ h => h) (Or.inl ⟨by kernel_rfl, ?_⟩) hS ?_
          rotate_left
          · intro w hSw; have x0 := hSw.p1.c0; have x1 := hSw.p1.c1; have x2 := hSw.p1.c2; have x3 := hSw.p1.c3; have x4 := hSw.p1.c4; have x5 := hSw.p1.c5; have y0 := hSw.p2.c0; have y1 := hSw.p2.c1; have y2 := hSw.p2.c2; have y3 := hSw.p2.c3; have y4 := hSw.p2.c4; have y5 := hSw.p2.c5; have z0 := hSw.p3.c0; have z1 := hSw.p3.c1; have z2 := hSw.p3.c2; go_simp
            first | done | with_reducible rfl
          refine wpAnyH_ready (rs := [2]) (by as_aux_lemma => kernel_rfl) (by simp) ?_
          refine AllReadyH.cons rfl (fun K hK => ?_) AllReadyH.nil
          go_simp
          go_wp2_with (go_at_call 19; refine (HSP.out _ hS.ms hS.es hS.ms2 hS.es2).mono ?_; rintro e w3 ⟨rfl, hb3⟩)
          refine hK.out _ _ ?_ (fun hS => ?_)
          · exact hS.on hb3
          clear hK K
          clear hb3 HSP
          refine wpAnyH_ready (rs := [5]) (by as_aux_lemma => kernel_rfl) (by simp) ?_
          refine AllReadyH.cons rfl (fun K hK => ?_) AllReadyH.nil
          go_simp
          go_wp2_with (go_at_call 14; refine (HSY.out _ hS.ms hS.es hS.ms2 hS.es2).mono ?_; rintro e w4 ⟨rfl, hb4⟩)
          refine hK.out _ _ ?_ (fun hS => ?_)
          · exact hS.on hb4
          clear hK K
          clear hb4 HSY
          refine wpAnyH_takeE (i := 6) (some 44) (v := ?_) rfl rfl (by as_aux_lemma => kernel_rfl) (by as_aux_lemma => kernel_rfl) (by as_aux_lemma => kernel_rfl) (fun _ _ _ h => h) (Or.inl ⟨by kernel_rfl, ?_⟩) hS ?_
          rotate_left
          · intro w hSw; skip; go_simp
            first | done | with_reducible rfl
          refine wpAnyH_takeE (i := 7) (some 45) (v := ?_) rfl rfl (by as_aux_lemma => kernel_rfl) (by as_aux_lemma => kernel_rfl) (by as_aux_lemma => kernel_rfl) (fun _ _ _ h => h) (Or.inl ⟨by kernel_rfl, ?_⟩) hS ?_
          rotate_left
          · intro w hSw; skip; go_simp
            first | done | with_reducible rfl
          refine wpAnyH_takeE (i := 8) (some 46) (v := ?_) rfl rfl (by as_aux_lemma => kernel_rfl) (by as_aux_lemma => kernel_rfl) (by as_aux_lemma => kernel_rfl) (fun _ _ _ h => h) (Or.inl ⟨by kernel_rfl, ?_⟩) hS ?_
          rotate_left
          · intro w hSw; have x0 := hSw.p1.c0; have x1 := hSw.p1.c1; have x2 := hSw.p1.c2; have x3 := hSw.p1.c3; have x4 := hSw.p1.c4; have x5 := hSw.p1.c5; have y0 := hSw.p2.c0; have y1 := hSw.p2.c1; have y2 := hSw.p2.c2; have y3 := hSw.p2.c3; have y4 := hSw.p2.c4; have y5 := hSw.p2.c5; have z0 := hSw.p3.c0; have z1 := hSw.p3.c1; have z2 := hSw.p3.c2; go_simp
            first | done | with_reducible rfl
          refine wpAnyH_takeE (i := 11) (some 49) (v := ?_) rfl rfl (by as_aux_lemma => kernel_rfl) (by as_aux_lemma => kernel_rfl) (by as_aux_lemma => kernel_rfl) (fun _ _ _ h => h) (Or.inl ⟨by kernel_rfl, ?_⟩) hS ?_
          rotate_left
          · intro w hSw; have x0 := hSw.p1.c0; have x1 := hSw.p1.c1; have x2 := hSw.p1.c2; have x3 := hSw.p1.c3; have x4 := hSw.p1.c4; have x5 := hSw.p1.c5; have y0 := hSw.p2.c0; have y1 := hSw.p2.c1; have y2 := hSw.p2.c2; have y3 := hSw.p2.c3; have y4 := hSw.p2.c4; have y5 := hSw.p2.c5; have z0 := hSw.p3.c0; have z1 := hSw.p3.c1; have z2 := hSw.p3.c2; go_simp
            first | done | with_reducible rfl
          refine wpAnyH_ready (rs := [9]) (by as_aux_lemma => kernel_rfl) (by simp) ?_
          refine AllReadyH.cons rfl (fun K hK => ?_) AllReadyH.nil
          go_simp
          go_wp2_with (go_at_call 20; refine (HMP.out _ hS.low).mono ?_; rintro e w5 ⟨a5, n5, c5, rfl, ho5, hb5⟩)
          refine hK.out _ _ ?_ (fun hS => ?_)
          · exact hS.on hb5
          clear hK K
          clear hb5 HMP
          refine wpAnyH_moreP (S' := fun w' => DSt W w' p q m am nm cm ae ne ce bm mm dm be me de ∧ SrcAt w' (.slice a5 n5 c5) LM) (fun _ h => h.1) _ _ _ _ ?_
          replace hS : (fun w' : World => DSt W w' p q m am nm cm ae ne ce bm mm dm be me de ∧ SrcAt w' (.slice a5 n5 c5) LM) w5 := ⟨hS, ho5.src⟩
          clear ho5
          refine wpAnyH_takeE (i := 10) (some 48) (v := ?_) rfl rfl (by as_aux_lemma => kernel_rfl) (by as_aux_lemma => kernel_rfl) (by as_aux_lemma => kernel_rfl) (fun _ _ _ h => h) (Or.inl ⟨by kernel_rfl, ?_⟩) hS ?_
          rotate_left
          · intro w hSw; have hst := src_string hSw.2; go_simp
            first | done | with_reducible rfl
          refine wpAnyH_ready (rs := [12]) (by as_aux_lemma => kernel_rfl) (by simp) ?_
          refine AllReadyH.cons rfl (fun K hK => ?_) AllReadyH.nil
          go_simp
          go_wp2_with (go_at_call 21; refine (HMY.out _ hS.1.low).mono ?_; rintro e w6 ⟨a6, n6, c6, rfl, ho6, hb6⟩)
          refine hK.out _ _ ?_ (fun hS => ?_)
          · exact ⟨hS.1.on hb6, hS.2.below hb6 (Nat.le_refl _)⟩
          clear hK K
          clear hb6 HMY
          refine wpAnyH_moreP (S' := fun w' => (DSt W w' p q m am nm cm ae ne ce bm mm dm be me de ∧ SrcAt w' (.slice a5 n5 c5) LM) ∧ SrcAt w' (.slice a6 n6 c6) LM) (fun _ h => h.1) _ _ _ _ ?_
          replace hS : (fun w' : World => (DSt W w' p q m am nm cm ae ne ce bm mm dm be me de ∧ SrcAt w' (.slice a5 n5 c5) LM) ∧ SrcAt w' (.slice a6 n6 c6) LM) w6 := ⟨hS, ho6.src⟩
          clear ho6
          refine wpAnyH_takeE (i := 13) (some 51) (v := ?_) rfl rfl (by as_aux_lemma => kernel_rfl) (by as_aux_lemma => kernel_rfl) (by as_aux_lemma => kernel_rfl) (fun _ _ _ h => h) (Or.inl ⟨by kernel_rfl, ?_⟩) hS ?_
          rotate_left
          · intro w hSw; have hst := src_string hSw.2; go_simp
            first | done | with_reducible rfl
          refine wpAnyH_takeE (i := 14) (some 52) (v := ?_) rfl rfl (by as_aux_lemma => kernel_rfl) (by as_aux_lemma => kernel_rfl) (by as_aux_lemma => kernel_rfl) (fun _ _ _ h => h) (Or.inl ⟨by kernel_rfl, ?_⟩) hS ?_
          rotate_left
          · intro w hSw; have hq := eql_strP LM w; go_simp
            first | done | with_reducible rfl
          refine wpAnyH_takeE (i := 15) (some 53) (v := ?_) rfl rfl (by as_aux_lemma => kernel_rfl) (by as_aux_lemma => kernel_rfl) (by as_aux_lemma => kernel_rfl) (fun _ _ _ h => h) (Or.inl ⟨by kernel_rfl, ?_⟩) hS ?_
          rotate_left
          · intro w hSw; skip; go_simp
            first | done | with_reducible rfl
          refine wpAnyH_takeE (i := 16) (some 54) (v := ?_) rfl rfl (by as_aux_lemma => kernel_rfl) (by as_aux_lemma => kernel_rfl) (by as_aux_lemma => kernel_rfl) (fun _ _ _ h => h) (Or.inl ⟨by kernel_rfl, ?_⟩) hS ?_
          rotate_left
          · intro w hSw; skip; go_simp
            first | done | with_reducible rfl
          refine wpAnyH_ready (rs := [17]) (by as_aux_lemma => kernel_rfl) (by simp) ?_
          refine AllReadyH.cons rfl (fun K hK => ?_) AllReadyH.nil
          go_simp
          go_wp2_with (go_at_call 9; refine (HA.out _ hS.1.1.low).mono ?_; rintro e w7 ⟨rfl, hb7⟩)
          refine hK.out _ _ ?_ (fun hS => ?_)
          · exact ⟨⟨hS.1.1.on hb7, hS.1.2.below hb7 (Nat.le_refl _)⟩, hS.2.below hb7 (Nat.le_refl _)⟩
          clear hK K
          clear hb7
          refine wpAnyH_takeE (i := 18) (some 56) (v := ?_) rfl rfl (by as_aux_lemma => kernel_rfl) (by as_aux_lemma => kernel_rfl) (by as_aux_lemma => kernel_rfl) (fun _ _ _ h => h) (Or.inl ⟨by kernel_rfl, ?_⟩) hS ?_
          rotate_left
          · intro w hSw; skip; go_simp
            first | done | with_reducible rfl
          refine wpAnyH_takeE (i := 19) (some 6) (v := ?_) rfl rfl (by as_aux_lemma => kernel_rfl) (by as_aux_lemma => kernel_rfl) (by as_aux_lemma => kernel_rfl) (fun _ _ _ h => h) (Or.inl ⟨by kernel_rfl, ?_⟩) hS ?_
          rotate_left
          · intro w hSw; skip; go_simp
            first | done | with_reducible rfl
          have HF := Lib.hid hS.1.1.low
          refine wpAnyH_done (by kernel_rfl) ?_ _
          clear hS
          go_simp
          go_wp2
          go_ret
          exact ⟨by first | rfl | simp, HF.out⟩

end Go.Proofs.YtchhdffehkcecaaDoor
