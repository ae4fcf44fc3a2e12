/-
  A part, as the program reads it: an atom, and what stands behind it.
-/
import Derived.Test.YtmanjegdgjeeiaaGreatDoorKW10
namespace Go.Proofs.YtmanjegdgjeeiaaGreatDoor
open Go.RowKit

variable {w w' w1 w2 : World} {B rb xb : Nat} {s : ByteArray} {k : Nat} {l : List UInt8} {v v' : Value} {pl pl' pl2 : List Pl} {P Q : Pc} {A A' : Lang} {l' : List UInt8} {k' : Nat}

theorem atom_any (n : Nat) (IH : RowsOk n B rb xb s) (h : St w B rb xb s k l v pl) (hl : l.length < n + 1) : Reads 184 (pAtom (pLoop n noL epsL) l) w B rb xb s v pl := by
  cases l with
  | nil => exact atom_nil n h
  | cons c l =>
    by_cases h1 : c = 40
    · subst h1; exact atom_open n IH h (by simp at hl; omega)
    · by_cases h2 : c = 91
      · subst h2; exact atom_set n h
      · by_cases h3 : c = 46
        · subst h3; exact atom_dot n h
        · by_cases h4 : c = 92
          · subst h4; exact atom_slash n h
          · cases hs : isSpec c with
            | true => exact atom_special n c h h1 h2 h3 h4 hs
            | false => exact atom_byte n c h h1 h2 h3 h4 hs

theorem Read.link (h : Read w w1 B rb xb s v pl P A l' k' v' pl') (hx : Rx w2 B xb v' ⟨0, 0, false⟩ pl2) (hc : Chg (fun b => some b = v'.ownBlock) w1 w2) (hlen : pl2.length = pl'.length) (hold : ∀ i, i < pl.length → pl2[i]? = pl'[i]?) (hf : Frag pl2 pl.length pl2.length Q A') : Read w w2 B rb xb s v pl Q A' l' k' v' pl2 := by
  have htl := h.st.tabB
  have hvl := h.st.vlt
  exact ⟨⟨h.st.rd.chg hc (fun e => h.st.rv e.symm), h.st.left, hx, h.st.ne, h.st.rv, h.st.B1, h.st.tab.chg hc (fun e => by have := (hvl _ e.symm).1; omega), h.st.tabB, by rw [hlen]; exact h.st.lim⟩, h.chg.on h.moved (chg_pl hc), h.moved, fun i hi => (hold i hi).trans (h.old i hi), hf⟩

/-- One or more times. -/
theorem Read.rep (h : Read w w1 B rb xb s v pl P A l' k' v' pl') (hx : Rx w2 B xb v' ⟨0, 0, false⟩ (linkL pl' P.last P.first)) (hc : Chg (fun b => some b = v'.ownBlock) w1 w2) : Read w w2 B rb xb s v pl P (PlusL A) l' k' v' (linkL pl' P.last P.first) := by
  refine h.link hx hc (linkL_len _ _ _) (fun i hi => linkL_no _ _ _ _ ?_) ?_
  · cases hb : P.last.testBit i with
    | false => rfl
    | true => have := (h.frag.last i hb).1; omega
  · rw [linkL_len]
    exact h.frag.repeat
theorem Read.may (h : Read w w1 B rb xb s v pl P A l' k' v' pl') : Read w w1 B rb xb s v pl (maybeP P) (optL A) l' k' v' pl' := ⟨h.st, h.chg, h.moved, h.old, h.frag.maybe⟩
theorem Read.bits (h : Read w w1 B rb xb s v pl P A l' k' v' pl') (i : Nat) (hi : P.last.testBit i = true) : i < pl'.length := (h.frag.last i hi).2

theorem pSuf_star (A : Lang) (l : List UInt8) : pSuf A (42 :: l) = pSuf (optL (PlusL A)) l := rfl
theorem pSuf_plus (A : Lang) (l : List UInt8) : pSuf A (43 :: l) = pSuf (PlusL A) l := rfl
theorem pSuf_may (A : Lang) (l : List UInt8) : pSuf A (63 :: l) = pSuf (optL A) l := rfl
theorem pSuf_end (A : Lang) (l : List UInt8) (h1 : l.head? ≠ some 42) (h2 : l.head? ≠ some 43) (h3 : l.head? ≠ some 63) : pSuf A l = (A, l) := by
  cases l with
  | nil => rfl
  | cons c l =>
    have e1 : c ≠ 42 := by simpa using h1
    have e2 : c ≠ 43 := by simpa using h2
    have e3 : c ≠ 63 := by simpa using h3
    simp [pSuf, e1, e2, e3]

theorem sees_no {l : List UInt8} {b : UInt8} (h : l.head? ≠ some b) : seesB l b = false := Bool.eq_false_iff.2 fun e => h (sees_head.1 e)

set_option maxHeartbeats 4000000 in
theorem part_any (n : Nat) (IH : RowsOk n B rb xb s) (h : St w B rb xb s k l v pl) (hl : l.length < n + 1) : Reads 181 (pPart (pLoop n noL epsL) l) w B rb xb s v pl := by
  have hrl := h.rlt
  have hxl := h.xlt
  have hvl := h.vlt
  have hBl := h.Ble
  have hBr := h.B1
  have hBx := h.rx.le
  obtain ⟨W, hW, hbW, hpW, hsW⟩ := h.pc
  have HR := atom_any n IH hsW hl
  unfold pPart
  cases ho : pAtom (pLoop n noL epsL) l with
  | none =>
    rw [ho] at HR
    have HR : Hid (Calls _ _ _ _ _) := Lib.hid HR
    clear ho IH
    subst hW
    show Calls Tryz.prog 181 _ w _
    go_enter Tryz.func181, Tryz.ntmps181
    go_wp2_with (go_at_call 184; refine HR.out.mono ?_; rintro e w2 ⟨rfl, hb2⟩)
    exact ⟨rfl, rfl, (hbW.mono hBl).trans hb2⟩
  | some q =>
    obtain ⟨A, l1⟩ := q
    rw [ho] at HR
    have HR : Hid (Calls _ _ _ _ _) := Lib.hid HR
    clear ho IH
    subst hW
    show Calls Tryz.prog 181 _ w fun e w' => ∃ P, e = .returned (.agg #[.int .u64 (P.first : Int), .int .u64 (P.last : Int), .bool P.empty]) ∧ ∃ k' v' pl', Read w w' B rb xb s v pl P (pSuf A l1).1 (pSuf A l1).2 k' v' pl'
    have HX : ∀ A2 l2, Hid (pSuf A l1 = (A2, l2)) → (pSuf A l1).1 = A2 ∧ (pSuf A l1).2 = l2 := fun A2 l2 e => by rw [e.out]; exact ⟨rfl, rfl⟩
    generalize hA1 : (pSuf A l1).1 = AF at *
    generalize hL1 : (pSuf A l1).2 = LF at *
    clear hA1 hL1
    go_enter Tryz.func181, Tryz.ntmps181
    go_wp2_with (go_at_call 184; refine HR.out.mono ?_; rintro e w2 ⟨P1, rfl, k1, v1, pl1, hR⟩; refine Hid.out ?_)
    refine Lib.hid ?_
    have hR3 := hR.below (w2 := w2.alloc (.cells #[.int .u64 (P1.first : Int), .int .u64 (P1.last : Int), .bool P1.empty] 186)) ((Below.refl _ _).alloc (Nat.le_refl _) _)
    have hp3 := pc_made w2 P1
    have hz : w.heap.size < w2.heap.size := by have := hR.chg.size; simp at this; omega
    have hq2 := hR.pcs hpW (by omega) (by omega) (fun e => by have := (hvl _ e).2; omega)
    have hq3 := hq2.below (w' := w2.alloc (.cells #[.int .u64 (P1.first : Int), .int .u64 (P1.last : Int), .bool P1.empty] 186)) ((Below.refl _ _).alloc (Nat.le_refl _) _)
    have hvn := hR.away (b := w.heap.size) (by simp) (fun e => by have := (hvl _ e).2; omega)
    have hvm : v1.ownBlock ≠ some w2.heap.size := fun e => by have := (hR.st.vlt _ e).2; omega
    have hR4 := hR3.early hbW
    clear hR hR3 hq2 HR hbW hpW hsW
    go_wp2_with fail
    go_loopg [7] l1.length (fun g _ wr => ∃ A' l' P k' v' pl', g = l'.length ∧ Hid (pSuf A l1 = pSuf A' l') ∧ Read w wr B rb xb s v pl P A' l' k' v' pl' ∧ PcBlk wr w2.heap.size P ∧ PcBlk wr w.heap.size ⟨0, 0, false⟩ ∧ v'.ownBlock ≠ some w.heap.size ∧ v'.ownBlock ≠ some w2.heap.size)
    case atStart => exact ⟨A, l1, P1, k1, v1, pl1, rfl, Lib.hid rfl, hR4, hp3, hq3, hvn, hvm⟩
    case round =>
      clear hR4 hp3 hq3 hvn hvm
      obtain ⟨A', l', P, k', v', pl', rfl, HE, hR5, hp4, hq4, hvn, hvm⟩ := hrel
      by_cases h42 : l'.head? = some 42
      · obtain ⟨r, rfl⟩ := head_form h42
        have HE2 : Hid (pSuf A l1 = pSuf (optL (PlusL A')) r) := Lib.hid (by rw [HE.out, pSuf_star])
        clear HE h42
        have HSa := Lib.hid (skip_ok rb xb s k' r 42 wr hR5.st.rd hR5.st.left)
        go_wp2_with (go_at_call 170; refine HSa.out.mono ?_; rintro e w4 ⟨rfl, hr4, hg4⟩; refine Hid.out ?_)
        refine Lib.hid ?_
        have hR5 := hR5.then hg4 hr4 hR5.st.left.next (by simp)
        have hp4 := hp4.chg (Chg.of_grown hg4) (by omega)
        have hq4 := hq4.chg (Chg.of_grown hg4) (by omega)
        have hz4 : w2.heap.size < w4.heap.size := hp4.lt
        clear HSa hg4 hr4
        have c0 := hR5.st.rd.cell0
        have a0 := hp4.c0
        have a1 := hp4.c1
        have a2 := hp4.c2
        have f0 := hp4.fz 0
        have f1 := hp4.fz 1
        have f2 := hp4.fz 2
        go_wp2
        go_region_with (first
          | (go_at_call 186; refine (repeat_any B xb v' ⟨0, 0, false⟩ pl' P w4.drew hR5.st.drew.rx hR5.first hR5.last hR5.bits hR5.st.drew.tab hR5.st.tabB).mono ?_; rintro e w5 ⟨rfl, hx5, hc5⟩; have hc6 := Chg.fromD hc5; have hR6 := hR5.rep hx5 hc6; have hp6 := hp4.chg hc6 (fun e => hvm e.symm); have hq6 := hq4.chg hc6 (fun e => hvn e.symm))
          | (go_at_call 185; refine (maybe_val P w5).mono ?_; rintro e w6 ⟨rfl, hb6⟩; have hR7 := hR6.may.below hb6; have hp7 := hp6.below hb6; have hq7 := hq6.below hb6; have b0 := hp7.c0; have b1 := hp7.c1; have b2 := hp7.c2; have g0 := hp7.fz 0; have g1 := hp7.fz 1; have g2 := hp7.fz 2))
        all_goals
          go_wp2
          go_roundg r.length
          case measure => simp
          case rel => exact ⟨_, r, maybeP P, _, _, _, rfl, HE2, hR7.sets (by omega) hrl hxl hvm _ _ _, hp7.sets (maybeP P), hq7.chg (chg_sets3 w6 w2.heap.size _ _ _) (by omega), hvn, hvm⟩
      · by_cases h43 : l'.head? = some 43
        · obtain ⟨r, rfl⟩ := head_form h43
          have HE2 : Hid (pSuf A l1 = pSuf (PlusL A') r) := Lib.hid (by rw [HE.out, pSuf_plus])
          have HSn := Lib.hid (skip_no rb xb s k' (43 :: r) 42 wr hR5.st.rd hR5.st.left rfl)
          clear HE h42 h43
          go_wp2_with (go_at_call 170; refine HSn.out.mono ?_; rintro e w4 ⟨rfl, nd, rfl⟩; refine Hid.out ?_)
          refine Lib.hid ?_
          have hR5 := hR5.below (below_drawn wr nd)
          have hp4 := hp4.below (below_drawn wr nd)
          have hq4 := hq4.below (below_drawn wr nd)
          generalize wr.drewN nd = wq at *
          have HSb := Lib.hid (skip_ok rb xb s k' r 43 wq hR5.st.rd hR5.st.left)
          go_wp2_with (go_at_call 170; refine HSb.out.mono ?_; rintro e w4 ⟨rfl, hr4, hg4⟩; refine Hid.out ?_)
          refine Lib.hid ?_
          have hR5 := hR5.then hg4 hr4 hR5.st.left.next (by simp)
          have hp4 := hp4.chg (Chg.of_grown hg4) (by omega)
          have hq4 := hq4.chg (Chg.of_grown hg4) (by omega)
          have hz4 : w2.heap.size < w4.heap.size := hp4.lt
          clear HSb hg4 hr4
          have c0 := hR5.st.rd.cell0
          have a0 := hp4.c0
          have a1 := hp4.c1
          have a2 := hp4.c2
          have f0 := hp4.fz 0
          have f1 := hp4.fz 1
          have f2 := hp4.fz 2
          go_wp2
          go_region_with (go_at_call 186; refine (repeat_any B xb v' ⟨0, 0, false⟩ pl' P w4.drew hR5.st.drew.rx hR5.first hR5.last hR5.bits hR5.st.drew.tab hR5.st.tabB).mono ?_; rintro e w5 ⟨rfl, hx5, hc5⟩; have hc6 := Chg.fromD hc5; have hR6 := hR5.rep hx5 hc6; have hp6 := hp4.chg hc6 (fun e => hvm e.symm); have hq6 := hq4.chg hc6 (fun e => hvn e.symm); have b0 := hp6.c0; have b1 := hp6.c1; have b2 := hp6.c2; have g0 := hp6.fz 0; have g1 := hp6.fz 1; have g2 := hp6.fz 2)
          all_goals
            go_wp2
            go_roundg r.length
            case measure => simp
            case rel => exact ⟨_, r, P, _, _, _, rfl, HE2, hR6.sets (by omega) hrl hxl hvm _ _ _, hp6.sets P, hq6.chg (chg_sets3 w5 w2.heap.size _ _ _) (by omega), hvn, hvm⟩
        · by_cases h63 : l'.head? = some 63
          · obtain ⟨r, rfl⟩ := head_form h63
            have HE2 : Hid (pSuf A l1 = pSuf (optL A') r) := Lib.hid (by rw [HE.out, pSuf_may])
            have HSn := Lib.hid (skip_no rb xb s k' (63 :: r) 42 wr hR5.st.rd hR5.st.left rfl)
            clear HE h42 h43 h63
            go_wp2_with (go_at_call 170; refine HSn.out.mono ?_; rintro e w4 ⟨rfl, nd, rfl⟩; refine Hid.out ?_)
            refine Lib.hid ?_
            have hR5 := hR5.below (below_drawn wr nd)
            have hp4 := hp4.below (below_drawn wr nd)
            have hq4 := hq4.below (below_drawn wr nd)
            generalize wr.drewN nd = wq at *
            have HSm := Lib.hid (skip_no rb xb s k' (63 :: r) 43 wq hR5.st.rd hR5.st.left rfl)
            go_wp2_with (go_at_call 170; refine HSm.out.mono ?_; rintro e w4 ⟨rfl, nd2, rfl⟩; refine Hid.out ?_)
            refine Lib.hid ?_
            have hR5 := hR5.below (below_drawn wq nd2)
            have hp4 := hp4.below (below_drawn wq nd2)
            have hq4 := hq4.below (below_drawn wq nd2)
            generalize wq.drewN nd2 = wp at *
            have HSc := Lib.hid (skip_ok rb xb s k' r 63 wp hR5.st.rd hR5.st.left)
            go_wp2_with (go_at_call 170; refine HSc.out.mono ?_; rintro e w4 ⟨rfl, hr4, hg4⟩; refine Hid.out ?_)
            refine Lib.hid ?_
            have hR5 := hR5.then hg4 hr4 hR5.st.left.next (by simp)
            have hp4 := hp4.chg (Chg.of_grown hg4) (by omega)
            have hq4 := hq4.chg (Chg.of_grown hg4) (by omega)
            have hz4 : w2.heap.size < w4.heap.size := hp4.lt
            clear HSc hg4 hr4
            have c0 := hR5.st.rd.cell0
            have a0 := hp4.c0
            have a1 := hp4.c1
            have a2 := hp4.c2
            have f0 := hp4.fz 0
            have f1 := hp4.fz 1
            have f2 := hp4.fz 2
            go_wp2_with (go_at_call 185; refine (maybe_val P w4).mono ?_; rintro e w6 ⟨rfl, hb6⟩; refine Hid.out ?_)
            refine Lib.hid ?_
            have hR7 := hR5.may.below hb6
            have hp7 := hp4.below hb6
            have hq7 := hq4.below hb6
            clear a0 a1 a2 f0 f1 f2 c0
            have b0 := hp7.c0
            have b1 := hp7.c1
            have b2 := hp7.c2
            have g0 := hp7.fz 0
            have g1 := hp7.fz 1
            have g2 := hp7.fz 2
            go_wp2
            go_roundg r.length
            case measure => simp
            case rel => exact ⟨_, r, maybeP P, _, _, _, rfl, HE2, hR7.sets (by omega) hrl hxl hvm _ _ _, hp7.sets (maybeP P), hq7.chg (chg_sets3 w6 w2.heap.size _ _ _) (by omega), hvn, hvm⟩
          · obtain ⟨e1, e2⟩ := HX A' l' (Lib.hid (by rw [HE.out, pSuf_end A' l' h42 h43 h63]))
            have HSa := Lib.hid (skip_no rb xb s k' l' 42 wr hR5.st.rd hR5.st.left (sees_no h42))
            have HSb := Lib.hid (fun m : Nat => skip_no rb xb s k' l' 43 (wr.drewN m) hR5.st.rd hR5.st.left (sees_no h43))
            have HSc := Lib.hid (fun m : Nat => skip_no rb xb s k' l' 63 (wr.drewN m) hR5.st.rd hR5.st.left (sees_no h63))
            have E12 := Lib.hid (And.intro e1 e2)
            clear HE h42 h43 h63 e1 e2 HX
            go_wp2_with (go_at_call 170; refine HSa.out.mono ?_; rintro e w4 ⟨rfl, nd, rfl⟩; refine Hid.out ?_)
            refine Lib.hid ?_
            go_wp2_with (go_at_call 170; refine (HSb.out nd).mono ?_; rintro e w4 ⟨rfl, nd2, rfl⟩; refine Hid.out ?_)
            refine Lib.hid ?_
            go_wp2_with (go_at_call 170; refine (HSc.out (nd + nd2)).mono ?_; rintro e w4 ⟨rfl, nd3, rfl⟩; refine Hid.out ?_)
            refine Lib.hid ?_
            have hR6 := hR5.below (below_drawn wr (nd + nd2 + nd3))
            have hp6 := hp4.below (below_drawn wr (nd + nd2 + nd3))
            have hq6 := hq4.below (below_drawn wr (nd + nd2 + nd3))
            generalize wr.drewN (nd + nd2 + nd3) = wz at *
            have b0 := hp6.c0
            have b1 := hp6.c1
            have b2 := hp6.c2
            have r0 := hq6.c0
            have r1 := hq6.c1
            have r2 := hq6.c2
            have g0 := hq6.fz 0
            have g1 := hq6.fz 1
            have g2 := hq6.fz 2
            go_wp2
            obtain ⟨e1, e2⟩ := E12.out
            rw [e1, e2]
            exact bodyPost_ret (v := .agg #[.int .u64 (P.first : Int), .int .u64 (P.last : Int), .bool P.empty]) (by simp [results, Tryz.results181, go_sem, r0, r1, r2]) rfl ⟨P, rfl, _, _, _, hR6.sets (Nat.le_refl _) hrl hxl hvn _ _ _⟩

end Go.Proofs.YtmanjegdgjeeiaaGreatDoor
