/-
  What Push of package queue does.
-/
import Derived.Test.YtkbonifbnbdbkaaDoorQ7
import Derived.Deep.RegionLaw
namespace Go.Proofs.YtkbonifbnbdbkaaDoor
open Go.RowKit

theorem step_pushQ {w : World} {ops : Array Oper} {o : Oper} {act : Act} {K : Act → World → Prop} {Q : Exit → Act → World → Prop} {E : Prop} (hgd : o.guard = none) (s x : Operand)
    (ho : o.op = .call { callee := .builtin .append, args := #[s, x], argTypes := #[43, 43] }) (B : Nat) (a : Option Addr) (c n : Nat) (L : List Itm) (hs : act.eval s = .slice a n c) (hn : n = L.length) (hown : OwnI w B a c L) (hB : B ≤ w.heap.size) (hl : L.length ≤ 1000000)
    (y : Itm) (ad : Addr) (cc : Nat) (hx : act.eval x = .slice (some ad) 1 cc) (hnews : ∀ j u, (encI y)[j]? = some u → w.cell? (ad.add j) = some u)
    (h : ∀ a' c' w', OwnI w' B a' c' (L ++ [y]) → w.grownBy w' (a.map (·.block)) → (∀ q, a' = some q → a = some q ∨ w.heap.size ≤ q.block) → K (act.put o.dst (.slice a' (n + 1) c')) w') :
    if Region.wanted o (yielded ops act.tmps) = true then Oper.wp Tryd.prog o act w K Q else E := by
  have hw : Region.wanted o (yielded ops act.tmps) = true := by simp [Region.wanted, hgd]
  rw [if_pos hw]
  obtain ⟨a', c', w', hr, h1, h2, h3⟩ := hown.push hB hl y ad hnews cc n hn o.type
  unfold Oper.wp execOp
  simp only [ho, resolve, invoke, builtin, Sem.run_bind, Sem.run_pure, Result.andThen_ok, List.map_toArray, List.map_cons, List.map_nil, hs, hx, hr]
  exact h a' c' w' h1 h2 h3
/-- What every order of a region ends in. -/
def EndsQ (A : Option Addr → Nat → Act) (F : Option Addr → Nat → World → Prop) : Exit → Act → World → Prop
  | .normal, a, w => ∃ b b', a = A b b' ∧ F b b' w
  | _, _, _ => False
theorem code_join {P : Program} {c : Code} {Q : Exit → Act → World → Prop} {a : Act} {w : World} (F : Option Addr → Nat → World → Prop) (A : Option Addr → Nat → Act) (hR : c.wp P (EndsQ A F) a w) (hT : ∀ b b' w, F b b' w → Q .normal (A b b') w) : c.wp P Q a w :=
  Code.wp_mono (fun e a w h => by
    cases e with
    | normal =>
      obtain ⟨b, b', rfl, hF⟩ := h
      exact hT b b' w hF
    | _ => exact h.elim) hR
def Ends0 (A : Act) (F : World → Prop) : Exit → Act → World → Prop
  | .normal, a, w => a = A ∧ F w
  | _, _, _ => False
theorem code_join0 {P : Program} {c : Code} {Q : Exit → Act → World → Prop} {a : Act} {w : World} (F : World → Prop) (A : Act) (hR : c.wp P (Ends0 A F) a w) (hT : ∀ w, F w → Q .normal A w) : c.wp P Q a w :=
  Code.wp_mono (fun e a w h => by
    cases e with
    | normal =>
      obtain ⟨rfl, hF⟩ := h
      exact hT w hF
    | _ => exact h.elim) hR
theorem EBlk.turn {w w' : World} {X sb : Nat} {a : Option Addr} {e : Ent} (h : EBlk w X e) (t : QTurn w w' sb a) (h1 : X ≠ sb) (h2 : ∀ q, a = some q → X ≠ q.block) : EBlk w' X e := (t.block X h.lt h1 h2).trans h

theorem QBlk.past {w w' : World} {sb n c : Nat} {a a' : Option Addr} {p l : Int} (h : QBlk w sb a n c p l) (g : w.grownBy w' (a'.map (·.block))) (hne : ∀ q, a' = some q → sb ≠ q.block) : QBlk w' sb a n c p l :=
  h.kept g (fun e => by
    cases a' with
    | none => cases e
    | some q => exact hne q rfl (by simpa using e))
set_option maxRecDepth 100000 in
set_option maxHeartbeats 4000000 in
/-- An entry is not taken. -/
theorem qPush_no (sb B c : Nat) (a : Option Addr) (L : List Itm) (p l : Int) (e : Ent) (w : World) (h : QAt w B sb a c L p l) (hL : L.length ≤ 1000) (hno : checkEn e ≠ 0 ∨ L.any (newsP e) = true) :
    Calls Tryd.prog 8 #[.pointer (some ⟨sb, 0, none⟩), .agg #[.string e.k, .int .i64 e.t, .int .u16 e.o, .string e.v, .int .i64 e.u]] w fun r w' => r = .returned (.bool false) ∧ Below w.heap.size w w' := by
  have d1 := (Below.refl w.heap.size w).alloc (Nat.le_refl _) (.cells #[.string e.k, .int .i64 e.t, .int .u16 e.o, .string e.v, .int .i64 e.u] 27)
  have b1 := EBlk.new w e
  have HB := Lib.hid (And.intro b1 (And.intro (h.on d1) d1))
  have HC := Lib.hid (eCheck_any e (w.alloc (.cells #[.string e.k, .int .i64 e.t, .int .u16 e.o, .string e.v, .int .i64 e.u] 27)))
  have HN := Lib.hid (fun W (hW : QAt W B sb a c L p l) => qNews_any sb B c a L p l e W hW hL)
  obtain ⟨x0, x1, x2, x3, x4⟩ := And.intro b1.c0 (And.intro b1.c1 (And.intro b1.c2 (And.intro b1.c3 b1.c4)))
  have HO := Lib.hid hno
  generalize L.any (newsP e) = nb at *
  generalize hE : checkEn e = E at *
  clear hE hno b1 d1 h
  obtain ⟨ke, te, oe, ve, ue⟩ := e
  dsimp only at *
  by_cases hE0 : E = 0
  · subst hE0
    have hnb : nb = true := HO.out.resolve_left (fun h => h rfl)
    subst hnb
    go_enter Tryd.func8, Tryd.ntmps8
    go_wp2_with (go_at_call 17; refine HC.out.mono ?_; rintro r w2 ⟨rfl, q2⟩; replace q2 := Lib.hid q2; refine Hid.out ?_)
    refine Lib.hid ?_
    have b2 := HB.out.1.on q2.out
    obtain ⟨y0, y1, y2, y3, y4⟩ := And.intro b2.c0 (And.intro b2.c1 (And.intro b2.c2 (And.intro b2.c3 b2.c4)))
    dsimp only at y0 y1 y2 y3 y4
    have HN2 := Lib.hid (HN.out w2 (HB.out.2.1.on q2.out))
    clear b2 x0 x1 x2 x3 x4
    go_wp2_with (go_at_call 19; refine HN2.out.mono ?_; rintro r w3 ⟨rfl, q3⟩; replace q3 := Lib.hid q3; refine Hid.out ?_)
    refine Lib.hid ?_
    go_wp2
    go_ret
    have Q := HB.out.2.2.trans (q2.out.mono HB.out.2.2.size)
    exact ⟨rfl, Q.trans (q3.out.mono Q.size)⟩
  · have hE1 : (E != 0) = true := by simpa using hE0
    go_enter Tryd.func8, Tryd.ntmps8
    go_wp2_with (go_at_call 17; refine HC.out.mono ?_; rintro r w2 ⟨rfl, q2⟩; replace q2 := Lib.hid q2; refine Hid.out ?_)
    refine Lib.hid ?_
    go_wp2
    go_ret
    exact ⟨rfl, HB.out.2.2.trans (q2.out.mono HB.out.2.2.size)⟩

/-- What Push does with an entry that is taken. -/
def PushPost (w : World) (B sb : Nat) (a : Option Addr) (L : List Itm) (p l : Int) (e : Ent) (r : Ending) (w' : World) : Prop :=
  r = .returned (.bool true) ∧ (∃ L1 : List Itm, L1.Perm (L.filter (fun x => !sameK x.e e) ++ [⟨e, 0, p⟩]) ∧ L1.Pairwise (fun x y => ¬ lessQ y x) ∧ ∃ a' : Option Addr, (∃ c' : Nat, QAt w' B sb a' c' (L1.take 32) (p + 1) (l + (if 32 < L1.length then 1 else 0))) ∧ ∀ q, a' = some q → a = some q ∨ w.heap.size ≤ q.block) ∧ QTurn w w' sb a

set_option maxRecDepth 100000 in
set_option maxHeartbeats 8000000 in
theorem qPush_yes (sb B c : Nat) (a : Option Addr) (L : List Itm) (p l : Int) (e : Ent) (w : World) (h : QAt w B sb a c L p l) (hB : B ≤ w.heap.size) (hL : L.length ≤ 32) (hp : 0 ≤ p ∧ p ≤ 1000000) (hl : 0 ≤ l ∧ l ≤ 1000000) (hE : checkEn e = 0) (hnw : L.any (newsP e) = false) :
    Calls Tryd.prog 8 #[.pointer (some ⟨sb, 0, none⟩), .agg #[.string e.k, .int .i64 e.t, .int .u16 e.o, .string e.v, .int .i64 e.u]] w (PushPost w B sb a L p l e) := by
  have d1 := (Below.refl w.heap.size w).alloc (Nat.le_refl _) (.cells #[.string e.k, .int .i64 e.t, .int .u16 e.o, .string e.v, .int .i64 e.u] 27)
  have b1 := EBlk.new w e
  have HB := Lib.hid (And.intro b1 (And.intro (h.on d1) d1))
  have HX : Hid (w.heap.size ≠ sb ∧ ∀ q, a = some q → w.heap.size ≠ q.block) := Lib.hid ⟨by have := h.1.lt; omega, fun q e => by have := (h.has q e).2.1; omega⟩
  have HC := Lib.hid (eCheck_any e (w.alloc (.cells #[.string e.k, .int .i64 e.t, .int .u16 e.o, .string e.v, .int .i64 e.u] 27)))
  have HN := Lib.hid (fun W (hW : QAt W B sb a c L p l) => qNews_any sb B c a L p l e W hW (by omega))
  have eg : ∀ args w, (callFunc 21 args).run Tryd.prog w = .ok (.enter 21 args) w := enters_of Tryd.func21 (by kernel_rfl) rfl
  have HK : Hid (∀ W, QAt W B sb a c L p l → EBlk W w.heap.size e → Calls Tryd.prog 20 #[.pointer (some ⟨sb, 0, none⟩), .func (.func 21) #[] #[.pointer (some ⟨w.heap.size, 0, none⟩)]] W fun r w' => r = .returned (.tuple #[]) ∧ (∃ c', QAt w' B sb a c' (L.filter fun x => !sameK x.e e) p l) ∧ QTurn W w' sb a) :=
    Lib.hid (fun W hW hb => qKeep_any sb B c a L p l 21 #[.pointer (some ⟨w.heap.size, 0, none⟩)] (fun x => !sameK x.e e) eg W hW (by omega) (fun V hV x => qPush1_any x w.heap.size e V (hb.turn hV HX.out.1 HX.out.2)))
  obtain ⟨x0, x1, x2, x3, x4⟩ := And.intro b1.c0 (And.intro b1.c1 (And.intro b1.c2 (And.intro b1.c3 b1.c4)))
  have HF : Hid ((L.filter fun x => !sameK x.e e).length ≤ 32) := Lib.hid (Nat.le_trans (List.length_filter_le _ _) hL)
  unfold PushPost
  obtain ⟨F, hF⟩ : ∃ F, (L.filter fun x => !sameK x.e e) = F := ⟨_, rfl⟩
  rw [hF] at HF HK ⊢
  obtain ⟨m, hm⟩ : ∃ m, F.length = m := ⟨_, rfl⟩
  have HM := Lib.hid hm
  rw [hE] at HC
  rw [hnw] at HN
  have HBW := Lib.hid hB
  clear hE hnw b1 d1 h hF hm hB eg
  obtain ⟨ke, te, oe, ve, ue⟩ := e
  dsimp only at *
  go_enter Tryd.func8, Tryd.ntmps8
  go_wp2_with (go_at_call 17; refine HC.out.mono ?_; rintro r w2 ⟨rfl, q2⟩; replace q2 := Lib.hid q2; refine Hid.out ?_)
  refine Lib.hid ?_
  have b2 := HB.out.1.on q2.out
  obtain ⟨y0, y1, y2, y3, y4⟩ := And.intro b2.c0 (And.intro b2.c1 (And.intro b2.c2 (And.intro b2.c3 b2.c4)))
  dsimp only at y0 y1 y2 y3 y4
  have HB2 := Lib.hid (And.intro b2 (And.intro (HB.out.2.1.on q2.out) (HB.out.2.2.trans (q2.out.mono HB.out.2.2.size))))
  have HN2 := Lib.hid (HN.out w2 HB2.out.2.1)
  clear b2 x0 x1 x2 x3 x4 HB q2 HC
  go_wp2_with (go_at_call 19; refine HN2.out.mono ?_; rintro r w3 ⟨rfl, q3⟩; replace q3 := Lib.hid q3; refine Hid.out ?_)
  refine Lib.hid ?_
  have HB3 := Lib.hid (And.intro (HB2.out.1.on q3.out) (And.intro (HB2.out.2.1.on q3.out) (HB2.out.2.2.trans (q3.out.mono HB2.out.2.2.size))))
  have HK3 := Lib.hid (HK.out w3 HB3.out.2.1 HB3.out.1)
  clear HK HN2 HN HB2 q3 y0 y1 y2 y3 y4
  go_wp2_with (go_at_call 20; refine HK3.out.mono ?_; rintro r w4 ⟨rfl, ⟨c4, h4⟩, t4⟩; replace h4 := Lib.hid h4; replace t4 := Lib.hid t4; refine Hid.out ?_)
  refine Lib.hid ?_
  have HB4 : Hid (EBlk w4 w.heap.size ⟨ke, te, oe, ve, ue⟩ ∧ QAt w4 B sb a c4 F p l ∧ QTurn w w4 sb a) := Lib.hid ⟨HB3.out.1.turn t4.out HX.out.1 HX.out.2, h4.out, (QTurn.of HB3.out.2.2 sb a).step t4.out⟩
  clear HB3 HK3 h4 t4
  obtain ⟨b4, h4, t4⟩ := HB4.out
  obtain ⟨y0, y1, y2, y3, y4⟩ := And.intro b4.c0 (And.intro b4.c1 (And.intro b4.c2 (And.intro b4.c3 b4.c4)))
  dsimp only at y0 y1 y2 y3 y4
  have c0 := h4.1.c0
  have c1 := h4.1.c1
  rw [HM.out] at c0
  have f0 := h4.1.f 0
  have d5 : Below w4.heap.size w4 ((w4.drew).alloc (.cells #[.string ke, .int .i64 te, .int .u16 oe, .string ve, .int .i64 ue, .int .i64 0, .int .i64 p] 47)) := (Below.refl w4.heap.size w4).drew.alloc (Nat.le_refl _) _
  have o5 := h4.2.on d5
  have HQ5 := Lib.hid (And.intro (h4.1.on d5) (And.intro (t4.on d5) (And.intro h4.ne (h4.1.lt))))
  have hnews := World.news_of_block (newE w4.drew (.cells #[.string ke, .int .i64 te, .int .u16 oe, .string ve, .int .i64 ue, .int .i64 0, .int .i64 p] 47))
  have hB5 : B ≤ ((w4.drew).alloc (.cells #[.string ke, .int .i64 te, .int .u16 oe, .string ve, .int .i64 ue, .int .i64 0, .int .i64 p] 47)).heap.size := Nat.le_trans HBW.out (Nat.le_trans t4.size d5.size)
  have hl5 : F.length ≤ 1000000 := by have := HF.out; omega
  have c0a := (h4.1.on ((Below.refl w4.heap.size w4).alloc (Nat.le_refl _) (.cells #[.string ke, .int .i64 te, .int .u16 oe, .string ve, .int .i64 ue, .int .i64 0, .int .i64 p] 47))).c0
  rw [HM.out] at c0a
  have hm5 := HM.out.symm
  have HM5 := Lib.hid hm5
  clear hm5 b4 h4 t4 HB4 d5
  go_wp2_with fail
  apply code_join (fun a6 c6 w' => ∃ w6, w' = w6.setCell ⟨sb, 0, none⟩ (.slice a6 (m + 1) c6) ∧ QBlk w6 sb a m c4 p l ∧ OwnI w6 B a6 c6 (F ++ [⟨⟨ke, te, oe, ve, ue⟩, 0, p⟩]) ∧ QTurn w w6 sb a ∧ ∀ q, a6 = some q → a = some q ∨ w.heap.size ≤ q.block)
  · go_region_law (refine step_pushQ rfl _ _ rfl B a c4 m F (by simp [Act.eval]) HM5.out o5 hB5 hl5 ⟨⟨ke, te, oe, ve, ue⟩, 0, p⟩ ⟨w4.drew.heap.size, 0, none⟩ 1 (by simp [Act.eval]) hnews ?_; intro a6 c6 w6 o6 g6 n6; have k6 := HQ5.out.1.past g6 HQ5.out.2.2.1; have k60 := k6.c0; have k6f := k6.f 0)
    all_goals
      have t6 := HQ5.out.2.1.step (QTurn.map g6 sb)
      rw [HM.out] at k6
      exact ⟨a6, c6, rfl, w6, rfl, k6, o6, t6, fun q e => by
        rcases n6 q e with h | h
        · exact .inl h
        · exact .inr (Nat.le_trans HQ5.out.2.1.size h)⟩
  · rintro a6 c6 w7 ⟨w6, rfl, k6, o6, t6, hn6⟩
    have HN6 := Lib.hid hn6
    obtain ⟨hp0, hp1⟩ := hp
    have hpw : IntKind.i64.wrap (p + 1) = p + 1 := by rw [IntKind.wrap_i64]; omega
    have k61 := k6.c1; have k6g := k6.f 1
    have b7 : QBlk ((w6.setCell ⟨sb, 0, none⟩ (.slice a6 (m + 1) c6)).setCell ⟨sb, 1, none⟩ (.int .i64 (p + 1))) sb a6 (F ++ [(⟨⟨ke, te, oe, ve, ue⟩, 0, p⟩ : Itm)]).length c6 (p + 1) l := by
      rw [List.length_append, HM.out]
      exact k6.set0.set1
    have h7 : QAt ((w6.setCell ⟨sb, 0, none⟩ (.slice a6 (m + 1) c6)).setCell ⟨sb, 1, none⟩ (.int .i64 (p + 1))) B sb a6 c6 (F ++ [⟨⟨ke, te, oe, ve, ue⟩, 0, p⟩]) (p + 1) l := ⟨b7, (o6.setQ k6 0 _).setQ k6.set0 1 _⟩
    have HT7 := Lib.hid ((t6.step (QTurn.set w6 sb 0 a (.slice a6 (m + 1) c6))).step (QTurn.set _ sb 1 a (.int .i64 (p + 1))))
    have HO := Lib.hid (qOrder_any sb B c6 a6 (F ++ [⟨⟨ke, te, oe, ve, ue⟩, 0, p⟩]) (p + 1) l _ h7 (by rw [List.length_append]; have := HF.out; simp; omega))
    clear t6 b7 h7 o6 hn6 k6 o5 hnews hB5 hl5 HQ5 c0 c0a c1 f0 y0 y1 y2 y3 y4
    go_simp
    go_wp2_with (go_at_call 22; refine HO.out.mono ?_; rintro r w8 ⟨rfl, ⟨L1, hperm, hsort, h8⟩, t8⟩; replace hperm := Lib.hid hperm; replace hsort := Lib.hid hsort; replace h8 := Lib.hid h8; replace t8 := Lib.hid t8; refine Hid.out ?_)
    refine Lib.hid ?_
    have hlen : L1.length = m + 1 := by rw [hperm.out.length_eq, List.length_append, HM.out]; rfl
    have HT8 := Lib.hid (HT7.out.trans t8.out (fun q e => HN6.out q e))
    have HL8 := Lib.hid hlen
    have c80 := h8.out.1.c0
    have c82 := h8.out.1.c2
    have f80 := h8.out.1.f 0
    have f82 := h8.out.1.f 2
    rw [hlen] at c80
    clear k61 k6g HO HT7 hlen t8 hpw
    by_cases h32 : m = 32
    · subst h32
      obtain ⟨g, rfl⟩ := h8.out.2.there (by have := HL8.out; omega)
      have h33 : (32 : Int) < ((32 + 1 : Nat) : Int) := by omega
      have o8 : OwnI w8.drew B (some ⟨g, 0, none⟩) c6 L1 := h8.out.2
      have HDl := Lib.hid (qDel_any g B c6 L1 w8.drew o8 (by have := HL8.out; omega))
      have q8 : QBlk w8.drew sb (some ⟨g, 0, none⟩) L1.length c6 (p + 1) l := h8.out.1
      have HQ8 := Lib.hid (And.intro q8 (h8.out.ne _ rfl))
      obtain ⟨hl0, hl1⟩ := hl
      have hlw : IntKind.i64.wrap (l + 1) = l + 1 := by rw [IntKind.wrap_i64]; omega
      clear o8 q8
      go_wp2_with fail
      apply code_join0 (fun w' => ∃ w9, w' = w9.setCell ⟨sb, 0, none⟩ (.slice (some ⟨g, 0, none⟩) 32 c6) ∧ QBlk w9 sb (some ⟨g, 0, none⟩) L1.length c6 (p + 1) l ∧ OwnI w9 B (some ⟨g, 0, none⟩) c6 (L1.take 32) ∧ w8.drew.grownBy w9 (some g))
      · go_region_with (go_at_call 23; refine HDl.out.mono ?_; rintro r w9 ⟨rfl, o9, g9⟩; have k9 := HQ8.out.1.kept g9 (fun e => HQ8.out.2 (Option.some.inj e)); have k90 := k9.c0; have k9f := k9.f 0)
        all_goals exact ⟨rfl, w9, rfl, k9, o9, g9⟩
      · rintro w10 ⟨w9, rfl, k9, o9, g9⟩
        have e32 : (L1.take 32).length = 32 := by rw [List.length_take]; have := HL8.out; omega
        have k92 := k9.c2; have k9f := k9.f 2
        have b10 : QBlk ((w9.setCell ⟨sb, 0, none⟩ (.slice (some ⟨g, 0, none⟩) 32 c6)).setCell ⟨sb, 2, none⟩ (.int .i64 (l + 1))) sb (some ⟨g, 0, none⟩) (L1.take 32).length c6 (p + 1) (l + 1) := by
          rw [e32]
          exact k9.set0.set2
        have HF10 := Lib.hid (And.intro (show QAt _ B sb (some ⟨g, 0, none⟩) c6 (L1.take 32) (p + 1) (l + 1) from ⟨b10, (o9.setQ k9 0 _).setQ k9.set0 2 _⟩) (HT8.out.trans (((QTurn.of (show Below w8.heap.size w8 w8.drew from (Below.refl _ _).drew) sb (some ⟨g, 0, none⟩)).step (QTurn.grown g9 sb rfl)).step ((QTurn.set w9 sb 0 _ (.slice (some ⟨g, 0, none⟩) 32 c6)).step (QTurn.set _ sb 2 _ (.int .i64 (l + 1))))) (fun q e => HN6.out q e)))
        clear b10 o9 k9 g9 c80 c82 f80 f82 HQ8 HDl
        go_simp
        go_wp2
        go_ret
        exact ⟨rfl, ⟨L1, hperm.out, hsort.out, some ⟨g, 0, none⟩, ⟨c6, by rw [if_pos (by have := HL8.out; omega)]; exact HF10.out.1⟩, HN6.out⟩, HF10.out.2⟩
    · have hmm : m ≤ 32 := by have := HM.out; have := HF.out; omega
      have hgt : ¬ (32 : Int) < ((m + 1 : Nat) : Int) := by omega
      have hgt2 : ¬ (32 : Int) < ((m : Int) + 1) := by omega
      go_wp2
      go_ret
      exact ⟨rfl, ⟨L1, hperm.out, hsort.out, a6, ⟨c6, by rw [List.take_of_length_le (by have := HL8.out; omega), if_neg (by have := HL8.out; omega), Int.add_zero]; exact h8.out⟩, HN6.out⟩, HT8.out⟩

end Go.Proofs.YtkbonifbnbdbkaaDoor
