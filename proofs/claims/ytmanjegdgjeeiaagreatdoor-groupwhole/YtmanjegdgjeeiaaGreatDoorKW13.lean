/-
  Rows, as the program reads them: so all of a pattern.
-/
import Derived.Test.YtmanjegdgjeeiaaGreatDoorKW12
namespace Go.Proofs.YtmanjegdgjeeiaaGreatDoor
open Go.RowKit

variable {w : World} {B rb xb : Nat} {s : ByteArray} {k : Nat} {l : List UInt8} {v : Value} {pl : List Pl}

theorem altL_no (r : Lang) (s : List UInt8) : r s ↔ altL noL r s := ⟨.inr, fun h => h.elim (fun h => h.elim) id⟩

set_option maxHeartbeats 4000000 in
theorem rows_step (n : Nat) (IH : ∀ m, m < n → RowsOk m B rb xb s) : RowsOk n B rb xb s := by
  intro w k l v pl hl h
  have hrl := h.rlt
  have hxl := h.xlt
  have hvl := h.vlt
  have hBl := h.Ble
  have hBr := h.B1
  have hBx := h.rx.le
  obtain ⟨W, hW, hbW, hqW, hsW⟩ := h.pc
  refine Reads.of ?_
  generalize hO : pLoop n noL epsL l = O
  have HO := Lib.hid hO
  clear hO
  have HR := row_any n IH hsW hl
  cases ho : pRow n epsL l with
  | none =>
    rw [ho] at HR
    have HR : Hid (Calls _ _ _ _ _) := Lib.hid HR
    have HF : Hid (O = none) := Lib.hid (by rw [← HO.out, pRow_no ho])
    clear ho IH HO
    subst hW
    go_enter Tryz.func154, Tryz.ntmps154
    go_wp2_with (go_at_call 169; refine HR.out.mono ?_; rintro e w2 ⟨rfl, hb2⟩)
    exact ⟨rfl, .inl ⟨HF.out, rfl, (hbW.mono hBl).trans hb2⟩⟩
  | some q =>
    obtain ⟨m0, r0, l0⟩ := q
    rw [ho] at HR
    have HR : Hid (Calls _ _ _ _ _) := Lib.hid HR
    obtain ⟨hy1, hy2, hy3, hy4⟩ := pRow_yes ho hl
    have HY := Lib.hid (hy1 noL)
    clear ho hy1
    subst hW
    go_enter Tryz.func154, Tryz.ntmps154
    go_wp2_with (go_at_call 169; refine HR.out.mono ?_; rintro e w2 ⟨P1, rfl, k1, v1, pl1, hR⟩; refine Hid.out ?_)
    refine Lib.hid ?_
    have hR3 := hR.below (w2 := w2.alloc (.cells #[.int .u64 (P1.first : Int), .int .u64 (P1.last : Int), .bool P1.empty] 186)) ((Below.refl _ _).alloc (Nat.le_refl _) _)
    have hp3 := pc_made w2 P1
    have hz : w.heap.size < w2.heap.size := by have := hR.chg.size; simp at this; omega
    have hq2 := hR.pcs hqW (by omega) (by omega) (fun e => by have := (hvl _ e).2; omega)
    have hq3 := hq2.below (w' := w2.alloc (.cells #[.int .u64 (P1.first : Int), .int .u64 (P1.last : Int), .bool P1.empty] 186)) ((Below.refl _ _).alloc (Nat.le_refl _) _)
    have hvn := hR.away (b := w.heap.size) (by simp) (fun e => by have := (hvl _ e).2; omega)
    have hvm : v1.ownBlock ≠ some w2.heap.size := fun e => by have := (hR.st.vlt _ e).2; omega
    have hR4 := (hR3.early hbW).as (altL_no r0)
    clear hR hR3 hq2 HR hbW hqW hsW
    go_wp2_with fail
    go_loopg [6] l0.length (fun g _ wr => ∃ m R r l' P k' v' pl', g = l'.length ∧ l'.length < m ∧ m ≤ n ∧ Hid (pLoop n noL epsL l = pLoop m R r l' ∧ rowEnd l' = true) ∧ Read w wr B rb xb s v pl P (altL R r) l' k' v' pl' ∧ PcBlk wr w2.heap.size P ∧ PcBlk wr w.heap.size ⟨0, 0, false⟩ ∧ v'.ownBlock ≠ some w.heap.size ∧ v'.ownBlock ≠ some w2.heap.size)
    case atStart => exact ⟨m0, noL, r0, l0, P1, k1, v1, pl1, rfl, hy3, hy4, Lib.hid ⟨HY.out, hy2⟩, hR4, hp3, hq3, hvn, hvm⟩
    case round =>
      clear hR4 hp3 hq3 hvn hvm HY hy2 hy3 hy4
      obtain ⟨m, R, r, l', P, k', v', pl', rfl, hlm, hmn, HE, hR5, hp4, hq4, hvn, hvm⟩ := hrel
      obtain ⟨m, rfl⟩ : ∃ m1, m = m1 + 1 := ⟨m - 1, by omega⟩
      by_cases hh : l'.head? = some 124
      · obtain ⟨l2, rfl⟩ := head_form hh
        have HE2 : Hid (pLoop n noL epsL l = pLoop m (altL R r) epsL l2) := Lib.hid (by rw [HE.out.1, pLoop_bar])
        have HS := Lib.hid (skip_ok rb xb s k' l2 124 wr hR5.st.rd hR5.st.left)
        have hl2 : l2.length < m := by simp at hlm; omega
        clear HE hh
        go_wp2_with (go_at_call 170; refine HS.out.mono ?_; rintro e w4 ⟨rfl, hr4, hg4⟩; refine Hid.out ?_)
        refine Lib.hid ?_
        have hR6 := hR5.then hg4 hr4 hR5.st.left.next (by simp)
        have hp6 := hp4.chg (Chg.of_grown hg4) (by omega)
        have hq6 := hq4.chg (Chg.of_grown hg4) (by omega)
        have hz6 : w2.heap.size < w4.heap.size := hp6.lt
        clear HS hg4 hr4 hR5 hp4 hq4
        have hlo := h.lost hR6.chg
        have HP1 := row_any m (fun m' hm' => IH m' (by omega)) hR6.st.drew hl2
        have b0 := hp6.c0
        have b1 := hp6.c1
        have b2 := hp6.c2
        cases hpp : pRow m epsL l2 with
        | none =>
          have HF : Hid (O = none) := Lib.hid (by rw [← HO.out, HE2.out, pRow_no hpp])
          rw [hpp] at HP1
          have HP : Hid (Calls _ _ _ _ _) := Lib.hid HP1
          clear hpp HE2 HO HP1
          go_wp2
          refine wp_region_any (by kernel_rfl) ?_
          refine wpAny_take (i := 1) (v := ?_) rfl (by as_aux_lemma => kernel_rfl) (by as_aux_lemma => kernel_rfl) (by as_aux_lemma => kernel_rfl) (fun _ _ _ h => h) (Or.inl ⟨by kernel_rfl, ?_⟩) ?_
          rotate_left
          · intro w; go_simp
            first | done | with_reducible rfl
          refine wpAny_ready (rs := [0, 2]) (by as_aux_lemma => kernel_rfl) (by simp) ?_
          refine AllReady.cons rfl (fun K hK => ?_) (AllReady.cons rfl (fun K hK => ?_) AllReady.nil)
          · go_simp
            refine hK _ _ ?_
            clear hK K
            refine wpAny_ready (rs := [2]) (by as_aux_lemma => kernel_rfl) (by simp) ?_
            refine AllReady.cons rfl (fun K hK => ?_) AllReady.nil
            · go_simp
              go_wp2_with (go_at_call 169; refine HP.out.mono ?_; rintro e w5 ⟨rfl, hb5⟩)
              exact ⟨rfl, .inl ⟨HF.out, rfl, hlo.drew.trans hb5⟩⟩
          · go_simp
            go_wp2_with (go_at_call 169; refine HP.out.mono ?_; rintro e w5 ⟨rfl, hb5⟩)
            exact ⟨rfl, .inl ⟨HF.out, rfl, hlo.drew.trans hb5⟩⟩
        | some q =>
          obtain ⟨m5, r5, l5⟩ := q
          rw [hpp] at HP1
          have HP : Hid (Calls _ _ _ _ _) := Lib.hid HP1
          obtain ⟨hy1, hy2, hy3, hy4⟩ := pRow_yes hpp hl2
          have HE3 : Hid (pLoop n noL epsL l = pLoop m5 (altL R r) r5 l5 ∧ rowEnd l5 = true) := Lib.hid ⟨by rw [HE2.out, hy1], hy2⟩
          have hlen : l5.length ≤ l2.length := pRow_len hpp
          clear hpp HE2 HP1 hy1 hy2
          go_wp2
          go_region_with (first
            | (go_at_call 169; refine HP.out.mono ?_; rintro e w5 ⟨P5, rfl, k5, v5, pl5, hR7⟩; have hR7 := hR7.early (w := w4) ⟨rfl, rfl, rfl, Nat.le_refl _, fun _ _ => rfl⟩; have hp7 := hR7.pcs hp6 (by omega) (by omega) hvm; have hq7 := hR7.pcs hq6 (by omega) (by omega) hvn; have hvm7 := hR7.away (b := w2.heap.size) (by omega) hvm; have hvn7 := hR7.away (b := w.heap.size) (by omega) hvn; have d0 := hp7.c0; have d1 := hp7.c1; have d2 := hp7.c2)
            | (go_at_call 171; refine (either_val P P5 hR6.first hR7.first hR6.last hR7.last w5).mono ?_; rintro e w8 ⟨rfl, hb8⟩; have hR8 := (hR6.alt hR7).below hb8; have hp8 := hp7.below hb8; have hq8 := hq7.below hb8; have e0 := hp8.c0; have e1 := hp8.c1; have e2 := hp8.c2; have g0 := hp8.fz 0; have g1 := hp8.fz 1; have g2 := hp8.fz 2))
          all_goals
            go_wp2
            go_roundg l5.length
            case measure => simp; omega
            case rel => exact ⟨m5, _, r5, l5, eitherP P P5, _, _, _, rfl, hy3, by omega, HE3, hR8.sets (by omega) hrl hxl hvm7 _ _ _, hp8.sets (eitherP P P5), hq8.chg (chg_sets3 w8 w2.heap.size _ _ _) (by omega), hvn7, hvm7⟩
      · have HF : Hid (O = some (altL R r, l')) := Lib.hid (by rw [← HO.out, HE.out.1, pLoop_end HE.out.2 hh])
        have HS := Lib.hid (skip_no rb xb s k' l' 124 wr hR5.st.rd hR5.st.left (sees_no hh))
        clear HE hh HO
        go_wp2_with (go_at_call 170; refine HS.out.mono ?_; rintro e w4 ⟨rfl, nd, rfl⟩; refine Hid.out ?_)
        refine Lib.hid ?_
        have hR6 := hR5.below (below_drawn wr nd)
        have hp6 := hp4.below (below_drawn wr nd)
        have hq6 := hq4.below (below_drawn wr nd)
        generalize wr.drewN nd = wz at *
        have b0 := hp6.c0
        have b1 := hp6.c1
        have b2 := hp6.c2
        have r0' := hq6.c0
        have r1' := hq6.c1
        have r2' := hq6.c2
        have g0 := hq6.fz 0
        have g1 := hq6.fz 1
        have g2 := hq6.fz 2
        go_wp2
        exact bodyPost_ret (v := .agg #[.int .u64 (P.first : Int), .int .u64 (P.last : Int), .bool P.empty]) (by simp [results, Tryz.results154, go_sem, r0', r1', r2']) rfl (.inr ⟨_, _, P, HF.out, rfl, _, _, _, hR6.sets (Nat.le_refl _) hrl hxl hvn _ _ _⟩)

/-- Rows of whatever length. -/
theorem rows_ok (n : Nat) : RowsOk n B rb xb s := by
  induction n using Nat.strongRecOn with
  | _ n ih => exact rows_step n ih

end Go.Proofs.YtmanjegdgjeeiaaGreatDoor
