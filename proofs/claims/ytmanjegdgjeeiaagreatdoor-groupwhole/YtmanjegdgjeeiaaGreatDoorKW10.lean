/-
  An atom, as the program reads it.
-/
import Derived.Test.YtmanjegdgjeeiaaGreatDoorKW09
namespace Go.Proofs.YtmanjegdgjeeiaaGreatDoor
open Go.RowKit

variable {w w' : World} {B rb xb : Nat} {s : ByteArray} {k : Nat} {l : List UInt8} {v v' : Value} {pl : List Pl}

theorem St.placed {W : Nat → Nat} {T : BSet} (h : St w B rb xb s k l v pl) (hl : pl.length + l.length ≤ 63) (hx : Rx w' B xb v' ⟨0, 0, false⟩ (pl ++ [⟨W, 0⟩])) (hc : Chg (Mine xb v) w w') (hm : Moved w v v') (hT : hasW W = T) : Read w w' B rb xb s v pl ⟨2 ^ pl.length, 2 ^ pl.length, false⟩ (setL T) l k v' (pl ++ [⟨W, 0⟩]) := by
  have hrl := h.rlt
  have htl := h.tabB
  have hmine : ∀ b, Mine xb v b → B ≤ b := fun b e => (h.own3 b (e.elim (fun e => .inr (.inl e)) (fun e => .inr (.inr e)))).1
  refine ⟨⟨h.rd.chg hc ?_, h.left, hx, h.ne, ?_, h.B1, h.tab.chg hc (fun e => by have := hmine _ e; omega), h.tabB, by simp; omega⟩, chg_rx hc, hm, fun i hi => by rw [List.getElem?_append_left hi], ?_⟩
  · rintro (e | e)
    · exact h.ne e
    · exact h.rv e.symm
  · rcases hm with e | e
    · rw [e]; exact h.rv
    · intro e2; have := e rb e2; omega
  · rw [List.length_append, List.length_singleton]
    exact Frag.place pl ⟨W, 0⟩ T rfl fun c => by rw [← hT]; rfl

theorem n8 {c : UInt8} {d : UInt8} {z : Int} (h : c ≠ d) (hz : ((d.toNat : Nat) : Int) = z) : (((c.toNat : Nat) : Int) == z) = false := by rw [← hz]; exact u8_ne h

set_option maxHeartbeats 1000000 in
theorem atom_nil (n : Nat) (h : St w B rb xb s k [] v pl) : Reads 184 (pAtom (pLoop n noL epsL) []) w B rb xb s v pl := by
  have hBl := h.Ble
  obtain ⟨W, hW, hbW, hpW, hsW⟩ := h.pc
  have HT := Lib.hid (take_no rb xb s k W hsW.rd hsW.left)
  subst hW
  show Calls Tryz.prog 184 _ w _
  go_enter Tryz.func184, Tryz.ntmps184
  go_wp2_with (go_at_call 187; refine HT.out.mono ?_; rintro e w1 ⟨rfl, hb1⟩)
  exact ⟨rfl, rfl, (hbW.trans (hb1.mono hbW.size)).mono hBl⟩

set_option maxHeartbeats 2000000 in
theorem atom_open (n : Nat) (IH : RowsOk n B rb xb s) (h : St w B rb xb s k (40 :: l) v pl) (hl : l.length < n) : Reads 184 (pAtom (pLoop n noL epsL) (40 :: l)) w B rb xb s v pl := by
  have hrl := h.rlt
  have hxl := h.xlt
  have hvl := h.vlt
  have hBl := h.Ble
  have hl1 := h.left.next
  obtain ⟨W, hW, hbW, hpW, hsW⟩ := h.pc
  have HT := Lib.hid (xtake_ok rb xb s k 40 l W hsW.rd hsW.left)
  subst hW
  have hpa : pAtom (pLoop n noL epsL) (40 :: l) = pInner n l := rfl
  rw [hpa]
  cases ho : pInner n l with
  | none =>
    show Calls Tryz.prog 184 _ w _
    go_enter Tryz.func184, Tryz.ntmps184
    go_wp2_with (go_at_call 187; refine HT.out.mono ?_; rintro e w1 ⟨rfl, hr1, hg1⟩; refine Hid.out ?_)
    refine Lib.hid ?_
    have hs1 := hsW.went hg1 hr1 hl1 (by simp)
    have hq1 := hpW.chg (Chg.of_grown hg1) (by omega)
    have hz1 : w.heap.size < w1.heap.size := by have := hg1.size; simp at this; omega
    have hlim : pl.length + l.length ≤ 63 := by have := h.lim; simp at this; omega
    have HI := inner_any n IH hs1 hl
    rw [ho] at HI
    have HI : Hid (Calls _ _ _ _ _) := Lib.hid HI
    have hlo := hsW.lost (chg_rd hg1)
    clear ho hpa
    go_wp2_with (go_at_call 188; refine HI.out.mono ?_; rintro e w2 ⟨rfl, hb2⟩)
    exact ⟨rfl, rfl, ((hbW.mono hBl).trans hlo).trans hb2⟩
  | some q =>
    obtain ⟨A, l'⟩ := q
    show Calls Tryz.prog 184 _ w _
    go_enter Tryz.func184, Tryz.ntmps184
    go_wp2_with (go_at_call 187; refine HT.out.mono ?_; rintro e w1 ⟨rfl, hr1, hg1⟩; refine Hid.out ?_)
    refine Lib.hid ?_
    have hs1 := hsW.went hg1 hr1 hl1 (by simp)
    have hq1 := hpW.chg (Chg.of_grown hg1) (by omega)
    have hz1 : w.heap.size < w1.heap.size := by have := hg1.size; simp at this; omega
    have hlim : pl.length + l.length ≤ 63 := by have := h.lim; simp at this; omega
    have HI := inner_any n IH hs1 hl
    rw [ho] at HI
    have HI : Hid (Calls _ _ _ _ _) := Lib.hid HI
    clear ho hpa
    go_wp2_with (go_at_call 188; refine HI.out.mono ?_; rintro e w2 ⟨P, rfl, k2, v2, pl2, hR⟩; refine Hid.out ?_)
    refine Lib.hid ?_
    have hq2 := hR.pcs hq1 (by omega) (by omega) (fun e => by have := (hvl _ e).2; omega)
    have hvn := hR.away (b := w.heap.size) (by omega) (fun e => by have := (hvl _ e).2; omega)
    have hR2 := (hR.ahead hg1).early hbW
    clear hq1 hR hs1 hg1 hr1 HI HT hbW hpW hsW
    have r0 := hq2.c0
    have r1 := hq2.c1
    have r2 := hq2.c2
    have f0 := hq2.fz 0
    have f1 := hq2.fz 1
    have f2 := hq2.fz 2
    go_wp2
    exact bodyPost_ret (v := .agg #[.int .u64 (P.first : Int), .int .u64 (P.last : Int), .bool P.empty]) (by simp [results, Tryz.results184, go_sem, r0, r1, r2]) rfl ⟨P, rfl, _, _, _, hR2.sets (Nat.le_refl _) hrl hxl hvn _ _ _⟩

set_option maxHeartbeats 2000000 in
theorem atom_special (n : Nat) (c : UInt8) (h : St w B rb xb s k (c :: l) v pl) (n1 : c ≠ 40) (n2 : c ≠ 91) (n3 : c ≠ 46) (n4 : c ≠ 92) (hsp : isSpec c = true) : Reads 184 (pAtom (pLoop n noL epsL) (c :: l)) w B rb xb s v pl := by
  have hrl := h.rlt
  have hxl := h.xlt
  have hvl := h.vlt
  have hBl := h.Ble
  have hl1 := h.left.next
  obtain ⟨W, hW, hbW, hpW, hsW⟩ := h.pc
  have HT := Lib.hid (xtake_ok rb xb s k c l W hsW.rd hsW.left)
  subst hW
  have hpa : pAtom (pLoop n noL epsL) (c :: l) = none := by simp [pAtom, n1, n2, n3, n4, hsp]
  rw [hpa]
  have m1 := n8 (z := 40) n1 rfl
  have m2 := n8 (z := 91) n2 rfl
  have m3 := n8 (z := 46) n3 rfl
  have m4 := n8 (z := 92) n4 rfl
  have HP := Lib.hid (isSpecial_any c)
  rw [hsp] at HP
  clear hpa n1 n2 n3 n4 hsp
  show Calls Tryz.prog 184 _ w _
  go_enter Tryz.func184, Tryz.ntmps184
  go_wp2_with (go_at_call 187; refine HT.out.mono ?_; rintro e w1 ⟨rfl, hr1, hg1⟩; refine Hid.out ?_)
  refine Lib.hid ?_
  have hs1 := hsW.went hg1 hr1 hl1 (by simp)
  have hq1 := hpW.chg (Chg.of_grown hg1) (by omega)
  have hz1 : w.heap.size < w1.heap.size := by have := hg1.size; simp at this; omega
  have hlim : pl.length + l.length ≤ 63 := by have := h.lim; simp at this; omega
  have hlo := hsW.lost (chg_rd hg1)
  go_wp2_with (first | (go_at_call 192; refine (HP.out _).mono ?_; rintro e w2 ⟨rfl, rfl⟩) | (go_at_call 155; refine (giveUp_any _).mono ?_; rintro e w5 ⟨rfl, rfl⟩))
  exact ⟨rfl, rfl, (hbW.mono hBl).trans hlo⟩

set_option maxHeartbeats 2000000 in
theorem atom_set (n : Nat) (h : St w B rb xb s k (91 :: l) v pl) : Reads 184 (pAtom (pLoop n noL epsL) (91 :: l)) w B rb xb s v pl := by
  have hrl := h.rlt
  have hxl := h.xlt
  have hvl := h.vlt
  have hBl := h.Ble
  have hl1 := h.left.next
  obtain ⟨W, hW, hbW, hpW, hsW⟩ := h.pc
  have HT := Lib.hid (xtake_ok rb xb s k 91 l W hsW.rd hsW.left)
  subst hW
  have hpa : pAtom (pLoop n noL epsL) (91 :: l) = match pSet l with | none => none | some (T, l') => some (setL T, l') := rfl
  rw [hpa]
  cases ho : pSet l with
  | none =>
    show Calls Tryz.prog 184 _ w _
    go_enter Tryz.func184, Tryz.ntmps184
    go_wp2_with (go_at_call 187; refine HT.out.mono ?_; rintro e w1 ⟨rfl, hr1, hg1⟩; refine Hid.out ?_)
    refine Lib.hid ?_
    have hs1 := hsW.went hg1 hr1 hl1 (by simp)
    have hq1 := hpW.chg (Chg.of_grown hg1) (by omega)
    have hz1 : w.heap.size < w1.heap.size := by have := hg1.size; simp at this; omega
    have hlim : pl.length + l.length ≤ 63 := by have := h.lim; simp at this; omega
    have HS := Lib.hid (set_no rb xb s (k + 1) l w1.drew hr1 hl1 ho)
    have hlo := hsW.lost (chg_rd hg1)
    have hBr := h.B1
    have c0 := hr1.cell0
    clear ho hpa
    go_wp2
    refine wp_region_any (by kernel_rfl) ?_
    refine wpAny_take (i := 0) (v := ?_) rfl (by as_aux_lemma => kernel_rfl) (by as_aux_lemma => kernel_rfl) (by as_aux_lemma => kernel_rfl) (fun _ _ _ h => h) (Or.inl ⟨by kernel_rfl, ?_⟩) ?_
    rotate_left
    · intro w; go_simp
      first | done | with_reducible rfl
    refine wpAny_take (i := 1) (v := ?_) rfl (by as_aux_lemma => kernel_rfl) (by as_aux_lemma => kernel_rfl) (by as_aux_lemma => kernel_rfl) (fun _ _ _ h => h) (Or.inl ⟨by kernel_rfl, ?_⟩) ?_
    rotate_left
    · intro w; go_simp
      first | done | with_reducible rfl
    refine wpAny_take (i := 2) (v := ?_) rfl (by as_aux_lemma => kernel_rfl) (by as_aux_lemma => kernel_rfl) (by as_aux_lemma => kernel_rfl) (fun _ _ _ h => h) (Or.inl ⟨by kernel_rfl, ?_⟩) ?_
    rotate_left
    · intro w; go_simp
      first | done | with_reducible rfl
    refine wpAny_take (i := 4) (v := ?_) rfl (by as_aux_lemma => kernel_rfl) (by as_aux_lemma => kernel_rfl) (by as_aux_lemma => kernel_rfl) (fun _ _ _ h => h) (Or.inl ⟨by kernel_rfl, ?_⟩) ?_
    rotate_left
    · intro w; go_simp
      first | done | with_reducible rfl
    refine wpAny_ready (rs := [3, 5]) (by as_aux_lemma => kernel_rfl) (by simp) ?_
    refine AllReady.cons rfl (fun K hK => ?_) (AllReady.cons rfl (fun K hK => ?_) AllReady.nil)
    · go_simp
      refine hK _ _ ?_
      clear hK K
      refine wpAny_ready (rs := [5]) (by as_aux_lemma => kernel_rfl) (by simp) ?_
      refine AllReady.cons rfl (fun K hK => ?_) AllReady.nil
      · go_simp
        go_wp2_with (go_at_call 190; refine HS.out.mono ?_; rintro e w2 ⟨rfl, hg2⟩)
        exact ⟨rfl, rfl, ((hbW.mono hBl).trans hlo).trans ((Below.refl B w1).drew.trans ((Chg.of_grown hg2).below (by rintro b - rfl; exact hBr) (by show B ≤ w1.heap.size; omega)))⟩
    · go_simp
      go_wp2_with (go_at_call 190; refine HS.out.mono ?_; rintro e w2 ⟨rfl, hg2⟩)
      exact ⟨rfl, rfl, ((hbW.mono hBl).trans hlo).trans ((Below.refl B w1).drew.trans ((Chg.of_grown hg2).below (by rintro b - rfl; exact hBr) (by show B ≤ w1.heap.size; omega)))⟩
  | some q =>
    obtain ⟨T, l'⟩ := q
    show Calls Tryz.prog 184 _ w _
    go_enter Tryz.func184, Tryz.ntmps184
    go_wp2_with (go_at_call 187; refine HT.out.mono ?_; rintro e w1 ⟨rfl, hr1, hg1⟩; refine Hid.out ?_)
    refine Lib.hid ?_
    have hs1 := hsW.went hg1 hr1 hl1 (by simp)
    have hq1 := hpW.chg (Chg.of_grown hg1) (by omega)
    have hz1 : w.heap.size < w1.heap.size := by have := hg1.size; simp at this; omega
    have hlim : pl.length + l.length ≤ 63 := by have := h.lim; simp at this; omega
    have HS := Lib.hid (set_ok rb xb s (k + 1) l T l' w1.drew hr1 hl1 ho)
    have hll := pSet_len ho
    have c0 := hr1.cell0
    clear ho hpa
    go_wp2
    go_region_with (first
      | (go_at_call 190; refine HS.out.mono ?_; rintro e w2 ⟨W2, rfl, hT2, hW2, hg2, k2, hr2, hl2⟩; have c02 := hr2.cell0; have hs2 := hs1.drew.went hg2 hr2 hl2 (by omega); have hq2 := hq1.chg (Chg.fromD (Chg.of_grown hg2)) (by omega); have hz2 : w.heap.size < w2.heap.size := Nat.lt_of_lt_of_le hz1 hg2.size)
      | (go_at_call 189; refine (place_any B xb v ⟨0, 0, false⟩ pl W2 w2 hs2.rx hW2 (by omega)).mono ?_; rintro e w3 ⟨rfl, v3, hx3, hc3, hm3⟩; have hR3 := hs2.placed (by omega) hx3 hc3 hm3 hT2; have hq3 := hR3.pcs hq2 (by omega) (by omega) (fun e => by have := (hvl _ e).2; omega); have r0 := hq3.c0; have r1 := hq3.c1; have r2 := hq3.c2; have f0 := hq3.fz 0; have f1 := hq3.fz 1; have f2 := hq3.fz 2))
    all_goals
      have hvn := hR3.away (b := w.heap.size) (by omega) (fun e => by have := (hvl _ e).2; omega)
      have hg12 : (w.alloc (.cells #[.int .u64 0, .int .u64 0, .bool false] 186)).grownBy w2 (some rb) := xgrown_trans hg1 ⟨hg2.os, hg2.tape, hg2.output, hg2.size, hg2.block⟩
      have hR2 := (hR3.ahead hg12).early hbW
      go_wp2
      exact bodyPost_ret (v := .agg #[.int .u64 ((2 ^ pl.length : Nat) : Int), .int .u64 ((2 ^ pl.length : Nat) : Int), .bool false]) (by simp [results, Tryz.results184, go_sem, r0, r1, r2]) rfl ⟨⟨2 ^ pl.length, 2 ^ pl.length, false⟩, rfl, _, _, _, hR2.sets (Nat.le_refl _) hrl hxl hvn _ _ _⟩

theorem notW_zero : hasW (notW fun _ => 0) = notB noneB := by
  funext c
  rw [hasW_not _ (fun _ _ => by omega), hasW_zero]
theorem notW_lt (i : Nat) (_ : i < 4) : notW (fun _ => 0) i < 18446744073709551616 := by unfold notW; omega

set_option maxHeartbeats 2000000 in
theorem atom_dot (n : Nat) (h : St w B rb xb s k (46 :: l) v pl) : Reads 184 (pAtom (pLoop n noL epsL) (46 :: l)) w B rb xb s v pl := by
  have hrl := h.rlt
  have hxl := h.xlt
  have hvl := h.vlt
  have hBl := h.Ble
  have hl1 := h.left.next
  obtain ⟨W, hW, hbW, hpW, hsW⟩ := h.pc
  have HT := Lib.hid (xtake_ok rb xb s k 46 l W hsW.rd hsW.left)
  subst hW
  have hpa : pAtom (pLoop n noL epsL) (46 :: l) = some (setL (notB noneB), l) := rfl
  rw [hpa]
  show Calls Tryz.prog 184 _ w _
  go_enter Tryz.func184, Tryz.ntmps184
  go_wp2_with (go_at_call 187; refine HT.out.mono ?_; rintro e w1 ⟨rfl, hr1, hg1⟩; refine Hid.out ?_)
  refine Lib.hid ?_
  have hs1 := hsW.went hg1 hr1 hl1 (by simp)
  have hq1 := hpW.chg (Chg.of_grown hg1) (by omega)
  have hz1 : w.heap.size < w1.heap.size := by have := hg1.size; simp at this; omega
  have hlim : pl.length + l.length ≤ 63 := by have := h.lim; simp at this; omega
  have HO := Lib.hid (others_any (fun _ => 0) w1.drew (fun _ _ => by omega))
  have c0 := hr1.cell0
  clear hpa
  go_wp2
  go_region_with (first
    | (go_at_call 191; refine HO.out.mono ?_; rintro e w2 ⟨rfl, hb2⟩; have hb12 : Below w1.heap.size w1 w2 := ⟨hb2.os, hb2.tape, hb2.output, hb2.size, hb2.block⟩; have hs2 := hs1.below hb12; have c02 := hs2.rd.cell0; have hq2 := hq1.below hb12; have hz2 : w.heap.size < w2.heap.size := Nat.lt_of_lt_of_le hz1 hb2.size)
    | (go_at_call 189; refine (place_any B xb v ⟨0, 0, false⟩ pl (notW fun _ => 0) w2 hs2.rx notW_lt (by omega)).mono ?_; rintro e w3 ⟨rfl, v3, hx3, hc3, hm3⟩; have hR3 := hs2.placed (by omega) hx3 hc3 hm3 notW_zero; have hq3 := hR3.pcs hq2 (by omega) (by omega) (fun e => by have := (hvl _ e).2; omega); have r0 := hq3.c0; have r1 := hq3.c1; have r2 := hq3.c2; have f0 := hq3.fz 0; have f1 := hq3.fz 1; have f2 := hq3.fz 2))
  all_goals
    have hvn := hR3.away (b := w.heap.size) (by omega) (fun e => by have := (hvl _ e).2; omega)
    have hg12 : (w.alloc (.cells #[.int .u64 0, .int .u64 0, .bool false] 186)).grownBy w2 (some rb) := xgrown_trans hg1 (xgrown_of_below hb12)
    have hR2 := (hR3.ahead hg12).early hbW
    go_wp2
    exact bodyPost_ret (v := .agg #[.int .u64 ((2 ^ pl.length : Nat) : Int), .int .u64 ((2 ^ pl.length : Nat) : Int), .bool false]) (by simp [results, Tryz.results184, go_sem, r0, r1, r2]) rfl ⟨⟨2 ^ pl.length, 2 ^ pl.length, false⟩, rfl, _, _, _, hR2.sets (Nat.le_refl _) hrl hxl hvn _ _ _⟩

set_option maxHeartbeats 2000000 in
theorem atom_byte (n : Nat) (c : UInt8) (h : St w B rb xb s k (c :: l) v pl) (n1 : c ≠ 40) (n2 : c ≠ 91) (n3 : c ≠ 46) (n4 : c ≠ 92) (hsp : isSpec c = false) : Reads 184 (pAtom (pLoop n noL epsL) (c :: l)) w B rb xb s v pl := by
  have hrl := h.rlt
  have hxl := h.xlt
  have hvl := h.vlt
  have hBl := h.Ble
  have hl1 := h.left.next
  obtain ⟨W, hW, hbW, hpW, hsW⟩ := h.pc
  have HT := Lib.hid (xtake_ok rb xb s k c l W hsW.rd hsW.left)
  subst hW
  have hpa : pAtom (pLoop n noL epsL) (c :: l) = some (setL (addB noneB c c), l) := by simp [pAtom, n1, n2, n3, n4, hsp]
  rw [hpa]
  have m1 := n8 (z := 40) n1 rfl
  have m2 := n8 (z := 91) n2 rfl
  have m3 := n8 (z := 46) n3 rfl
  have m4 := n8 (z := 92) n4 rfl
  have HP := Lib.hid (isSpecial_any c)
  rw [hsp] at HP
  clear hpa n1 n2 n3 n4 hsp
  show Calls Tryz.prog 184 _ w _
  go_enter Tryz.func184, Tryz.ntmps184
  go_wp2_with (go_at_call 187; refine HT.out.mono ?_; rintro e w1 ⟨rfl, hr1, hg1⟩; refine Hid.out ?_)
  refine Lib.hid ?_
  have hs1 := hsW.went hg1 hr1 hl1 (by simp)
  have hq1 := hpW.chg (Chg.of_grown hg1) (by omega)
  have hz1 : w.heap.size < w1.heap.size := by have := hg1.size; simp at this; omega
  have hlim : pl.length + l.length ≤ 63 := by have := h.lim; simp at this; omega
  have hb2 : Below w1.heap.size w1 (w1.alloc (.cells #[.int .u64 0, .int .u64 0, .int .u64 0, .int .u64 0] 210)) := (Below.refl _ _).alloc (Nat.le_refl _) _
  have HA := Lib.hid (add_any w1.heap.size (fun _ => 0) c c _ (set_made w1 (fun _ => 0)) (fun _ _ => by omega))
  have hs2 := hs1.below hb2
  have hq2 := hq1.below hb2
  go_wp2_with (first | (go_at_call 192; refine (HP.out _).mono ?_; rintro e w2 ⟨rfl, rfl⟩) | (go_at_call 193; refine HA.out.mono ?_; rintro e w3 ⟨rfl, W3, hs3, hW3, hh3, hg3⟩; refine Hid.out ?_))
  refine Lib.hid ?_
  have hT3 : hasW W3 = addB noneB c c := by rw [← hasW_zero]; exact funext hh3
  have hvl2 := hs1.vlt
  have hrl2 := hs1.rlt
  have hxl2 := hs1.xlt
  have htl2 := hs1.tab.lt
  have hs4 := hs2.chg (Chg.of_grown hg3) (by
    rintro b rfl
    refine ⟨?_, by omega⟩
    rintro (e | e | e)
    · omega
    · omega
    · have := (hvl2 _ e.symm).2; omega)
  have hq4 := hq2.chg (Chg.of_grown hg3) (by omega)
  have hg14 : (w.alloc (.cells #[.int .u64 0, .int .u64 0, .bool false] 186)).grownBy w3 (some rb) := xgrown_trans hg1 ⟨hg3.os, hg3.tape, hg3.output, Nat.le_trans hb2.size hg3.size, fun i hi _ => (hg3.block i (Nat.lt_of_lt_of_le hi hb2.size) (by simp; omega)).trans (hb2.block i hi)⟩
  have hz3 : w.heap.size < w3.heap.size := by have := hg14.size; simp at this; omega
  have c0 := hs4.rd.cell0
  have d0 := hs3.cell 0 (by omega)
  have d1 := hs3.cell 1 (by omega)
  have d2 := hs3.cell 2 (by omega)
  have d3 := hs3.cell 3 (by omega)
  clear HA hs2 hq2 hg3
  go_wp2
  go_region_with (go_at_call 189; refine (place_any B xb v ⟨0, 0, false⟩ pl W3 w3.drew hs4.drew.rx hW3 (by omega)).mono ?_; rintro e w5 ⟨rfl, v5, hx5, hc5, hm5⟩; have hR3 := hs4.drew.placed (by omega) hx5 hc5 hm5 hT3; have hq3 := hR3.pcs hq4 (by omega) (by omega) (fun e => by have := (hvl _ e).2; omega); have r0 := hq3.c0; have r1 := hq3.c1; have r2 := hq3.c2; have f0 := hq3.fz 0; have f1 := hq3.fz 1; have f2 := hq3.fz 2)
  all_goals
    have hvn := hR3.away (b := w.heap.size) (by show _ < w3.heap.size; omega) (fun e => by have := (hvl _ e).2; omega)
    have hg12 : (w.alloc (.cells #[.int .u64 0, .int .u64 0, .bool false] 186)).grownBy w3.drew (some rb) := ⟨hg14.os, hg14.tape, hg14.output, hg14.size, hg14.block⟩
    have hR2 := (hR3.ahead hg12).early hbW
    go_wp2
    exact bodyPost_ret (v := .agg #[.int .u64 ((2 ^ pl.length : Nat) : Int), .int .u64 ((2 ^ pl.length : Nat) : Int), .bool false]) (by simp [results, Tryz.results184, go_sem, r0, r1, r2]) rfl ⟨⟨2 ^ pl.length, 2 ^ pl.length, false⟩, rfl, _, _, _, hR2.sets (Nat.le_refl _) hrl hxl hvn _ _ _⟩

set_option maxHeartbeats 2000000 in
theorem atom_slash (n : Nat) (h : St w B rb xb s k (92 :: l) v pl) : Reads 184 (pAtom (pLoop n noL epsL) (92 :: l)) w B rb xb s v pl := by
  have hrl := h.rlt
  have hxl := h.xlt
  have hvl := h.vlt
  have hBl := h.Ble
  have hl1 := h.left.next
  obtain ⟨W, hW, hbW, hpW, hsW⟩ := h.pc
  have HT := Lib.hid (xtake_ok rb xb s k 92 l W hsW.rd hsW.left)
  subst hW
  cases l with
  | nil =>
    have hpa : pAtom (pLoop n noL epsL) [92] = none := rfl
    rw [hpa]
    show Calls Tryz.prog 184 _ w _
    go_enter Tryz.func184, Tryz.ntmps184
    go_wp2_with (go_at_call 187; refine HT.out.mono ?_; rintro e w1 ⟨rfl, hr1, hg1⟩; refine Hid.out ?_)
    refine Lib.hid ?_
    have hs1 := hsW.went hg1 hr1 hl1 (by simp)
    have hq1 := hpW.chg (Chg.of_grown hg1) (by omega)
    have hz1 : w.heap.size < w1.heap.size := by have := hg1.size; simp at this; omega
    have HN := Lib.hid (take_no rb xb s (k + 1) w1 hr1 hl1)
    have hlo := hsW.lost (chg_rd hg1)
    have hB1 : B ≤ w1.heap.size := by omega
    clear hpa
    go_wp2_with (go_at_call 187; refine HN.out.mono ?_; rintro e w2 ⟨rfl, hb2⟩)
    exact ⟨rfl, rfl, ((hbW.mono hBl).trans hlo).trans (hb2.mono hB1)⟩
  | cons d l =>
    have hpa : pAtom (pLoop n noL epsL) (92 :: d :: l) = some (setL (addB noneB d d), l) := rfl
    rw [hpa]
    show Calls Tryz.prog 184 _ w _
    go_enter Tryz.func184, Tryz.ntmps184
    go_wp2_with (go_at_call 187; refine HT.out.mono ?_; rintro e w1 ⟨rfl, hr1, hg1⟩; refine Hid.out ?_)
    refine Lib.hid ?_
    have hs1 := hsW.went hg1 hr1 hl1 (by simp)
    have hq1 := hpW.chg (Chg.of_grown hg1) (by omega)
    have hz1 : w.heap.size < w1.heap.size := by have := hg1.size; simp at this; omega
    have hlim : pl.length + l.length ≤ 63 := by have := h.lim; simp at this; omega
    have HN := Lib.hid (xtake_ok rb xb s (k + 1) d l w1 hr1 hl1)
    have hl2 := hl1.next
    clear hpa
    go_wp2_with (go_at_call 187; refine HN.out.mono ?_; rintro e w2 ⟨rfl, hr2, hg2⟩; refine Hid.out ?_)
    refine Lib.hid ?_
    have hsx := hs1.went hg2 hr2 hl2 (by simp)
    have hqx := hq1.chg (Chg.of_grown hg2) (by omega)
    have hgx := xgrown_trans hg1 hg2
    have hz2 := Nat.lt_of_lt_of_le hz1 hg2.size
    have hb2 : Below w2.heap.size w2 (w2.alloc (.cells #[.int .u64 0, .int .u64 0, .int .u64 0, .int .u64 0] 210)) := (Below.refl _ _).alloc (Nat.le_refl _) _
    have HA := Lib.hid (add_any w2.heap.size (fun _ => 0) d d _ (set_made w2 (fun _ => 0)) (fun _ _ => by omega))
    have hs2 := hsx.below hb2
    have hq2 := hqx.below hb2
    go_wp2_with (first | (go_at_call 193; refine HA.out.mono ?_; rintro e w3 ⟨rfl, W3, hs3, hW3, hh3, hg3⟩; refine Hid.out ?_))
    refine Lib.hid ?_
    have hT3 : hasW W3 = addB noneB d d := by rw [← hasW_zero]; exact funext hh3
    have hvl2 := hsx.vlt
    have hrl2 := hsx.rlt
    have hxl2 := hsx.xlt
    have htl2 := hsx.tab.lt
    have hs4 := hs2.chg (Chg.of_grown hg3) (by
      rintro b rfl
      refine ⟨?_, by omega⟩
      rintro (e | e | e)
      · omega
      · omega
      · have := (hvl2 _ e.symm).2; omega)
    have hq4 := hq2.chg (Chg.of_grown hg3) (by omega)
    have hg14 : (w.alloc (.cells #[.int .u64 0, .int .u64 0, .bool false] 186)).grownBy w3 (some rb) := xgrown_trans hgx ⟨hg3.os, hg3.tape, hg3.output, Nat.le_trans hb2.size hg3.size, fun i hi _ => (hg3.block i (Nat.lt_of_lt_of_le hi hb2.size) (by simp; omega)).trans (hb2.block i hi)⟩
    have hz3 : w.heap.size < w3.heap.size := by have := hg14.size; simp at this; omega
    have c0 := hs4.rd.cell0
    have d0 := hs3.cell 0 (by omega)
    have d1 := hs3.cell 1 (by omega)
    have d2 := hs3.cell 2 (by omega)
    have d3 := hs3.cell 3 (by omega)
    clear HA hs2 hq2 hg3
    go_wp2
    go_region_with (go_at_call 189; refine (place_any B xb v ⟨0, 0, false⟩ pl W3 w3.drew hs4.drew.rx hW3 (by omega)).mono ?_; rintro e w5 ⟨rfl, v5, hx5, hc5, hm5⟩; have hR3 := hs4.drew.placed (by omega) hx5 hc5 hm5 hT3; have hq3 := hR3.pcs hq4 (by omega) (by omega) (fun e => by have := (hvl _ e).2; omega); have r0 := hq3.c0; have r1 := hq3.c1; have r2 := hq3.c2; have f0 := hq3.fz 0; have f1 := hq3.fz 1; have f2 := hq3.fz 2)
    all_goals
      have hvn := hR3.away (b := w.heap.size) (by show _ < w3.heap.size; omega) (fun e => by have := (hvl _ e).2; omega)
      have hg12 : (w.alloc (.cells #[.int .u64 0, .int .u64 0, .bool false] 186)).grownBy w3.drew (some rb) := ⟨hg14.os, hg14.tape, hg14.output, hg14.size, hg14.block⟩
      have hR2 := (hR3.ahead hg12).early hbW
      go_wp2
      exact bodyPost_ret (v := .agg #[.int .u64 ((2 ^ pl.length : Nat) : Int), .int .u64 ((2 ^ pl.length : Nat) : Int), .bool false]) (by simp [results, Tryz.results184, go_sem, r0, r1, r2]) rfl ⟨⟨2 ^ pl.length, 2 ^ pl.length, false⟩, rfl, _, _, _, hR2.sets (Nat.le_refl _) hrl hxl hvn _ _ _⟩

end Go.Proofs.YtmanjegdgjeeiaaGreatDoor
