/-
  A row, as the program reads it.
-/
import Derived.Test.YtmanjegdgjeeiaaGreatDoorKW11
namespace Go.Proofs.YtmanjegdgjeeiaaGreatDoor
open Go.RowKit

/-- The parts of a row, up to its end; how many steps are left. -/
def pRow : Nat → Lang → List UInt8 → Option (Nat × Lang × List UInt8)
  | 0, _, _ => none
  | n + 1, r, l => if rowEnd l = true then some (n + 1, r, l) else match pPart (pLoop n noL epsL) l with
    | none => none
    | some (A, l') => pRow n (catL r A) l'

theorem pRow_no {n : Nat} {r : Lang} {l : List UInt8} (h : pRow n r l = none) (R : Lang) : pLoop n R r l = none := by
  induction n generalizing r l with
  | zero => rfl
  | succ n ih =>
    unfold pRow at h
    split at h
    · cases h
    · rename_i he
      have he := Bool.eq_false_iff.2 he
      split at h
      · rename_i hp; exact pLoop_part_no he hp
      · rename_i A l' hp; rw [pLoop_part he hp]; exact ih h
theorem pRow_yes {n m : Nat} {r r' : Lang} {l l' : List UInt8} (h : pRow n r l = some (m, r', l')) (hl : l.length < n) : (∀ R, pLoop n R r l = pLoop m R r' l') ∧ rowEnd l' = true ∧ l'.length < m ∧ m ≤ n := by
  induction n generalizing r l with
  | zero => cases h
  | succ n ih =>
    unfold pRow at h
    split at h
    · rename_i he
      injection h with h
      injection h with h1 h2
      injection h2 with h2 h3
      subst h1 h2 h3
      exact ⟨fun R => rfl, he, hl, Nat.le_refl _⟩
    · rename_i he
      have he := Bool.eq_false_iff.2 he
      split at h
      · cases h
      · rename_i A l1 hp
        have hlen := pPart_len (fun l A l' hh => pLoop_len hh) hp
        obtain ⟨h1, h2, h3, h4⟩ := ih h (by omega)
        exact ⟨fun R => by rw [pLoop_part he hp]; exact h1 R, h2, h3, by omega⟩

theorem pRow_len {n m : Nat} {r r' : Lang} {l l' : List UInt8} (h : pRow n r l = some (m, r', l')) : l'.length ≤ l.length := by
  induction n generalizing r l with
  | zero => cases h
  | succ n ih =>
    unfold pRow at h
    split at h
    · injection h with h
      injection h with h1 h2
      injection h2 with h2 h3
      subst h3
      exact Nat.le_refl _
    · split at h
      · cases h
      · rename_i A l1 hp
        have hlen := pPart_len (fun l A l' hh => pLoop_len hh) hp
        have := ih h
        omega

variable {w w1 w2 w3 : World} {B rb xb : Nat} {s : ByteArray} {k : Nat} {l : List UInt8} {v v1 v2 : Value} {pl pl1 pl2 : List Pl} {P Q : Pc} {r A : Lang} {l1 l2 : List UInt8} {k1 k2 : Nat}

/-- Two pieces, one behind the other. -/
theorem Read.cat (h1 : Read w w1 B rb xb s v pl P r l1 k1 v1 pl1) (h2 : Read w1 w2 B rb xb s v1 pl1 Q A l2 k2 v2 pl2) (hx : Rx w3 B xb v2 ⟨0, 0, false⟩ (linkL pl2 P.last Q.first)) (hc : Chg (fun b => some b = v2.ownBlock) w2 w3) : Read w w3 B rb xb s v pl (joinP P Q) (catL r A) l2 k2 v2 (linkL pl2 P.last Q.first) := by
  have htl := h2.st.tabB
  have hvl := h2.st.vlt
  have hm := h1.moved.trans h1.chg.size h2.moved
  have hle : pl1.length ≤ pl2.length := h2.frag.le
  have hf := (h1.frag.mono (pl' := pl2) hle (fun i _ hi => h2.old i hi)).join h2.frag
  have hle0 : pl.length ≤ pl1.length := h1.frag.le
  refine ⟨⟨h2.st.rd.chg hc (fun e => h2.st.rv e.symm), h2.st.left, hx, h2.st.ne, h2.st.rv, h2.st.B1, h2.st.tab.chg hc (fun e => by have := (hvl _ e.symm).1; omega), h2.st.tabB, by rw [linkL_len]; exact h2.st.lim⟩, (h1.chg.on h1.moved h2.chg).on hm (chg_pl hc), hm, fun i hi => ?_, by rw [linkL_len]; exact hf⟩
  rw [linkL_no, h2.old i (by omega), h1.old i hi]
  cases hb : P.last.testBit i with
  | false => rfl
  | true => have := (h1.frag.last i hb).1; omega
/-- One piece, or another. -/
theorem Read.alt {R : Lang} (h1 : Read w w1 B rb xb s v pl P R l1 k1 v1 pl1) (h2 : Read w1 w2 B rb xb s v1 pl1 Q A l2 k2 v2 pl2) : Read w w2 B rb xb s v pl (eitherP P Q) (altL R A) l2 k2 v2 pl2 := by
  have hle : pl1.length ≤ pl2.length := h2.frag.le
  have hle0 : pl.length ≤ pl1.length := h1.frag.le
  exact ⟨h2.st, h1.chg.on h1.moved h2.chg, h1.moved.trans h1.chg.size h2.moved, fun i hi => (h2.old i (by omega)).trans (h1.old i hi), (h1.frag.mono (pl' := pl2) hle (fun i _ hi => h2.old i hi)).either h2.frag⟩
theorem Read.as {A' : Lang} (h : Read w w1 B rb xb s v pl P A l1 k1 v1 pl1) (e : ∀ s, A s ↔ A' s) : Read w w1 B rb xb s v pl P A' l1 k1 v1 pl1 := ⟨h.st, h.chg, h.moved, h.old, h.frag.as e⟩
/-- Nothing is read yet. -/
theorem St.zero (h : St w B rb xb s k l v pl) : Read w w B rb xb s v pl ⟨0, 0, true⟩ epsL l k v pl := ⟨h, Chg.refl _ _, Moved.refl _ _, fun _ _ => rfl, Frag.eps pl pl.length (Nat.le_refl _)⟩

/-- What a call comes to, told in one. -/
def Comes (o : Option (Lang × List UInt8)) (w : World) (B rb xb : Nat) (s : ByteArray) (v : Value) (pl : List Pl) (e : Ending) (w' : World) : Prop :=
  (o = none ∧ e = gaveUp ∧ Below B w w') ∨ ∃ A l' P, o = some (A, l') ∧ e = .returned (.agg #[.int .u64 (P.first : Int), .int .u64 (P.last : Int), .bool P.empty]) ∧ ∃ k' v' pl', Read w w' B rb xb s v pl P A l' k' v' pl'
theorem Reads.of {f : FuncId} {o : Option (Lang × List UInt8)} (h : Calls Tryz.prog f #[.pointer (some ⟨rb, 0, none⟩)] w (Comes o w B rb xb s v pl)) : Reads f o w B rb xb s v pl := by
  cases o with
  | none =>
    refine h.mono fun e w' hc => ?_
    rcases hc with ⟨-, h1, h2⟩ | ⟨A, l', P, h0, -⟩
    · exact ⟨h1, h2⟩
    · cases h0
  | some q =>
    refine h.mono fun e w' hc => ?_
    rcases hc with ⟨h0, -⟩ | ⟨A, l', P, h0, h1, h2⟩
    · cases h0
    · injection h0 with h0
      subst h0
      exact ⟨P, h1, h2⟩

theorem row_two (h : St w B rb xb s k l v pl) : ∃ W, (w.alloc (.cells #[.int .u64 0, .int .u64 0, .bool false] 186)).alloc (.cells #[.int .u64 0, .int .u64 0, .bool true] 186) = W ∧ Below w.heap.size w W ∧ PcBlk W w.heap.size ⟨0, 0, false⟩ ∧ PcBlk W (w.heap.size + 1) ⟨0, 0, true⟩ ∧ St W B rb xb s k l v pl := by
  have hb : Below w.heap.size w ((w.alloc (.cells #[.int .u64 0, .int .u64 0, .bool false] 186)).alloc (.cells #[.int .u64 0, .int .u64 0, .bool true] 186)) := ((Below.refl _ _).alloc (Nat.le_refl _) _).alloc (by simp) _
  refine ⟨_, rfl, hb, (pc_made w ⟨0, 0, false⟩).below ((Below.refl _ _).alloc (Nat.le_refl _) _), ?_, h.below hb⟩
  have := pc_made (w.alloc (.cells #[.int .u64 0, .int .u64 0, .bool false] 186)) ⟨0, 0, true⟩
  rw [World.size_alloc] at this
  exact this

theorem pRow_end {n : Nat} {r : Lang} {l : List UInt8} (hl : l.length < n) (he : rowEnd l = true) : pRow n r l = some (n, r, l) := by
  cases n with
  | zero => omega
  | succ n => unfold pRow; rw [if_pos he]
theorem pRow_part {n : Nat} {r A : Lang} {l l' : List UInt8} (he : rowEnd l = false) (hp : pPart (pLoop n noL epsL) l = some (A, l')) : pRow (n + 1) r l = pRow n (catL r A) l' := by
  rw [pRow, he, hp]; rfl
theorem pRow_part_no {n : Nat} {r : Lang} {l : List UInt8} (he : rowEnd l = false) (hp : pPart (pLoop n noL epsL) l = none) : pRow (n + 1) r l = none := by
  rw [pRow, he, hp]; rfl

set_option maxHeartbeats 4000000 in
theorem row_any (n : Nat) (IH : ∀ m, m < n → RowsOk m B rb xb s) (h : St w B rb xb s k l v pl) (hl : l.length < n) : Reads 169 ((pRow n epsL l).map fun q => (q.2.1, q.2.2)) w B rb xb s v pl := by
  have hrl := h.rlt
  have hxl := h.xlt
  have hvl := h.vlt
  have hBl := h.Ble
  have hBr := h.B1
  have hBx := h.rx.le
  obtain ⟨W, hW, hbW, hqW, hpW, hsW⟩ := row_two h
  have hRW := hsW.zero.early hbW
  have hvn : v.ownBlock ≠ some w.heap.size := fun e => by have := (hvl _ e).2; omega
  have hvm : v.ownBlock ≠ some (w.heap.size + 1) := fun e => by have := (hvl _ e).2; omega
  refine Reads.of ?_
  generalize hO : (pRow n epsL l).map (fun q => (q.2.1, q.2.2)) = O
  have HO := Lib.hid hO
  clear hO
  subst hW
  go_enter Tryz.func169, Tryz.ntmps169
  go_wp2_with fail
  go_loopg [5] l.length (fun g _ wr => ∃ m r l' P k' v' pl', g = l'.length ∧ l'.length < m ∧ m ≤ n ∧ Hid (pRow n epsL l = pRow m r l') ∧ Read w wr B rb xb s v pl P r l' k' v' pl' ∧ PcBlk wr (w.heap.size + 1) P ∧ PcBlk wr w.heap.size ⟨0, 0, false⟩ ∧ v'.ownBlock ≠ some w.heap.size ∧ v'.ownBlock ≠ some (w.heap.size + 1))
  case atStart => exact ⟨n, epsL, l, ⟨0, 0, true⟩, k, v, pl, rfl, hl, Nat.le_refl _, Lib.hid rfl, hRW, hpW, hqW, hvn, hvm⟩
  case round =>
    clear hRW hpW hqW hvn hvm hbW hsW
    obtain ⟨m, r, l', P, k', v', pl', rfl, hlm, hmn, HE, hR5, hp4, hq4, hvn, hvm⟩ := hrel
    have c1 := hR5.st.rd.cell1
    have c2 := hR5.st.rd.cell2
    have hlf := hR5.st.left
    have hsl := hlf.le
    have HA : Hid (∀ m : Nat, Calls Tryz.prog 179 #[.pointer (some ⟨rb, 0, none⟩), .int .u8 124] (wr.drewN m) fun e w' => e = .returned (.bool (seesB l' 124)) ∧ ∃ n, w' = (wr.drewN m).drewN n) := Lib.hid (fun m : Nat => sees_any rb xb s k' l' 124 (wr.drewN m) hR5.st.rd hlf)
    have HB : Hid (∀ m : Nat, Calls Tryz.prog 179 #[.pointer (some ⟨rb, 0, none⟩), .int .u8 41] (wr.drewN m) fun e w' => e = .returned (.bool (seesB l' 41)) ∧ ∃ n, w' = (wr.drewN m).drewN n) := Lib.hid (fun m : Nat => sees_any rb xb s k' l' 41 (wr.drewN m) hR5.st.rd hlf)
    cases hre : rowEnd l' with
    | true =>
      have HF : Hid (O = some (r, l')) := Lib.hid (by rw [← HO.out, HE.out, pRow_end hlm hre]; rfl)
      clear HE HO
      cases l' with
      | nil =>
        have hk := hlf.nil
        have hd : decide (k' < s.size) = false := decide_eq_false (by omega)
        clear hre hk hlf
        go_wp2
        go_quiet ((first | (go_at_call_of 179 (Value.int IntKind.u8 124); exact Calls.quiet_of (HA.out _)) | (go_at_call_of 179 (Value.int IntKind.u8 41); exact Calls.quiet_of (HB.out _))))
        have hR6 := hR5.below (below_drawn wr nq)
        have hp6 := hp4.below (below_drawn wr nq)
        have hq6 := hq4.below (below_drawn wr nq)
        generalize wr.drewN nq = wz at *
        have b0 := hp6.c0
        have b1 := hp6.c1
        have b2 := hp6.c2
        have r0 := hq6.c0
        have r1 := hq6.c1
        have r2 := hq6.c2
        have g0 := hq6.fz 0
        have g1 := hq6.fz 1
        have g2 := hq6.fz 2
        clear c1 c2
        go_wp2
        exact bodyPost_ret (v := .agg #[.int .u64 (P.first : Int), .int .u64 (P.last : Int), .bool P.empty]) (by simp [results, Tryz.results169, go_sem, r0, r1, r2]) rfl (.inr ⟨r, _, P, HF.out, rfl, _, _, _, hR6.sets (Nat.le_refl _) hrl hxl hvn _ _ _⟩)
      | cons c l2 =>
        have hd : decide (k' < s.size) = true := decide_eq_true (by have := hlf.lt; omega)
        by_cases hc : c = 124
        · subst hc
          simp only [show seesB (124 :: l2) 124 = true from rfl] at HA
          clear hre hlf
          go_wp2
          go_quiet ((first | (go_at_call_of 179 (Value.int IntKind.u8 124); exact Calls.quiet_of (HA.out _)) | (go_at_call_of 179 (Value.int IntKind.u8 41); exact Calls.quiet_of (HB.out _))))
          have hR6 := hR5.below (below_drawn wr nq)
          have hp6 := hp4.below (below_drawn wr nq)
          have hq6 := hq4.below (below_drawn wr nq)
          generalize wr.drewN nq = wz at *
          have b0 := hp6.c0
          have b1 := hp6.c1
          have b2 := hp6.c2
          have r0 := hq6.c0
          have r1 := hq6.c1
          have r2 := hq6.c2
          have g0 := hq6.fz 0
          have g1 := hq6.fz 1
          have g2 := hq6.fz 2
          clear c1 c2
          go_wp2
          exact bodyPost_ret (v := .agg #[.int .u64 (P.first : Int), .int .u64 (P.last : Int), .bool P.empty]) (by simp [results, Tryz.results169, go_sem, r0, r1, r2]) rfl (.inr ⟨r, _, P, HF.out, rfl, _, _, _, hR6.sets (Nat.le_refl _) hrl hxl hvn _ _ _⟩)
        · have hc2 : c = 41 := by simpa [rowEnd, hc] using hre
          subst hc2
          simp only [show seesB (41 :: l2) 124 = false from rfl] at HA
          simp only [show seesB (41 :: l2) 41 = true from rfl] at HB
          clear hre hlf hc
          go_wp2
          go_quiet ((first | (go_at_call_of 179 (Value.int IntKind.u8 124); exact Calls.quiet_of (HA.out _)) | (go_at_call_of 179 (Value.int IntKind.u8 41); exact Calls.quiet_of (HB.out _))))
          have hR6 := hR5.below (below_drawn wr nq)
          have hp6 := hp4.below (below_drawn wr nq)
          have hq6 := hq4.below (below_drawn wr nq)
          generalize wr.drewN nq = wz at *
          have b0 := hp6.c0
          have b1 := hp6.c1
          have b2 := hp6.c2
          have r0 := hq6.c0
          have r1 := hq6.c1
          have r2 := hq6.c2
          have g0 := hq6.fz 0
          have g1 := hq6.fz 1
          have g2 := hq6.fz 2
          clear c1 c2
          go_wp2
          exact bodyPost_ret (v := .agg #[.int .u64 (P.first : Int), .int .u64 (P.last : Int), .bool P.empty]) (by simp [results, Tryz.results169, go_sem, r0, r1, r2]) rfl (.inr ⟨r, _, P, HF.out, rfl, _, _, _, hR6.sets (Nat.le_refl _) hrl hxl hvn _ _ _⟩)
    | false =>
      obtain ⟨c, l2, rfl⟩ : ∃ c l2, l' = c :: l2 := by
        cases l' with
        | nil => cases hre
        | cons c l2 => exact ⟨c, l2, rfl⟩
      have hd : decide (k' < s.size) = true := decide_eq_true (by have := hlf.lt; omega)
      have hc1 : seesB (c :: l2) 124 = false := by simp [rowEnd] at hre; simp [seesB, hre.1]
      have hc2 : seesB (c :: l2) 41 = false := by simp [rowEnd] at hre; simp [seesB, hre.2]
      simp only [hc1] at HA
      simp only [hc2] at HB
      obtain ⟨m, rfl⟩ : ∃ m0, m = m0 + 1 := ⟨m - 1, by omega⟩
      have HP0 := Lib.hid (fun (u : World) (hu : St u B rb xb s k' (c :: l2) v' pl') => part_any m (IH m (by omega)) hu (by omega))
      have hlo := h.lost hR5.chg
      clear hc1 hc2 hlf
      go_wp2
      go_quiet ((first | (go_at_call_of 179 (Value.int IntKind.u8 124); exact Calls.quiet_of (HA.out _)) | (go_at_call_of 179 (Value.int IntKind.u8 41); exact Calls.quiet_of (HB.out _))))
      have hR6 := hR5.below (below_drawn wr nq)
      have hp6 := hp4.below (below_drawn wr nq)
      have hq6 := hq4.below (below_drawn wr nq)
      have hlo6 : Below B w (wr.drewN nq) := ⟨hlo.os, hlo.tape, hlo.output, hlo.size, hlo.block⟩
      clear hR5 hp4 hq4 hlo c1 c2 HA HB hd
      generalize wr.drewN nq = wz at *
      have hlo := hlo6.drew
      have HP1 := HP0.out wz.drew hR6.st.drew
      have c0 := hR6.st.rd.cell0
      have b0 := hp6.c0
      have b1 := hp6.c1
      have b2 := hp6.c2
      have hz6 : w.heap.size + 1 < wz.heap.size := hp6.lt
      cases hpp : pPart (pLoop m noL epsL) (c :: l2) with
      | none =>
        have HF : Hid (O = none) := Lib.hid (by rw [← HO.out, HE.out, pRow_part_no hre hpp]; rfl)
        rw [hpp] at HP1
        have HP : Hid (Calls _ _ _ _ _) := Lib.hid HP1
        clear hpp HE HO hre HP1
        go_wp2
        refine wp_region_any (by kernel_rfl) ?_
        refine wpAny_take (i := 0) (v := ?_) rfl (by as_aux_lemma => kernel_rfl) (by as_aux_lemma => kernel_rfl) (by as_aux_lemma => kernel_rfl) (fun _ _ _ h => h) (Or.inl ⟨by kernel_rfl, ?_⟩) ?_
        rotate_left
        · intro w; go_simp
          first | done | with_reducible rfl
        refine wpAny_take (i := 1) (v := ?_) rfl (by as_aux_lemma => kernel_rfl) (by as_aux_lemma => kernel_rfl) (by as_aux_lemma => kernel_rfl) (fun _ _ _ h => h) (Or.inl ⟨by kernel_rfl, ?_⟩) ?_
        rotate_left
        · intro w; go_simp
          first | done | with_reducible rfl
        refine wpAny_take (i := 2) (v := ?_) rfl (by as_aux_lemma => kernel_rfl) (by as_aux_lemma => kernel_rfl) (by as_aux_lemma => kernel_rfl) (fun _ _ _ h => h) (Or.inl ⟨by kernel_rfl, ?_⟩) ?_
        rotate_left
        · intro w; go_simp
          first | done | with_reducible rfl
        refine wpAny_take (i := 5) (v := ?_) rfl (by as_aux_lemma => kernel_rfl) (by as_aux_lemma => kernel_rfl) (by as_aux_lemma => kernel_rfl) (fun _ _ _ h => h) (Or.inl ⟨by kernel_rfl, ?_⟩) ?_
        rotate_left
        · intro w; go_simp
          first | done | with_reducible rfl
        refine wpAny_ready (rs := [3, 4, 6]) (by as_aux_lemma => kernel_rfl) (by simp) ?_
        refine AllReady.cons rfl (fun K hK => ?_) (AllReady.cons rfl (fun K hK => ?_) (AllReady.cons rfl (fun K hK => ?_) AllReady.nil))
        · go_simp
          refine hK _ _ ?_
          clear hK K
          refine wpAny_ready (rs := [4, 6]) (by as_aux_lemma => kernel_rfl) (by simp) ?_
          refine AllReady.cons rfl (fun K hK => ?_) (AllReady.cons rfl (fun K hK => ?_) AllReady.nil)
          · go_simp
            refine hK _ _ ?_
            clear hK K
            refine wpAny_ready (rs := [6]) (by as_aux_lemma => kernel_rfl) (by simp) ?_
            refine AllReady.cons rfl (fun K hK => ?_) AllReady.nil
            · go_simp
              go_wp2_with (go_at_call 181; refine HP.out.mono ?_; rintro e w4 ⟨rfl, hb4⟩)
              exact ⟨rfl, .inl ⟨HF.out, rfl, hlo.trans hb4⟩⟩
          · go_simp
            go_wp2_with (go_at_call 181; refine HP.out.mono ?_; rintro e w4 ⟨rfl, hb4⟩)
            exact ⟨rfl, .inl ⟨HF.out, rfl, hlo.trans hb4⟩⟩
        · go_simp
          refine hK _ _ ?_
          clear hK K
          refine wpAny_ready (rs := [3, 6]) (by as_aux_lemma => kernel_rfl) (by simp) ?_
          refine AllReady.cons rfl (fun K hK => ?_) (AllReady.cons rfl (fun K hK => ?_) AllReady.nil)
          · go_simp
            refine hK _ _ ?_
            clear hK K
            refine wpAny_ready (rs := [6]) (by as_aux_lemma => kernel_rfl) (by simp) ?_
            refine AllReady.cons rfl (fun K hK => ?_) AllReady.nil
            · go_simp
              go_wp2_with (go_at_call 181; refine HP.out.mono ?_; rintro e w4 ⟨rfl, hb4⟩)
              exact ⟨rfl, .inl ⟨HF.out, rfl, hlo.trans hb4⟩⟩
          · go_simp
            go_wp2_with (go_at_call 181; refine HP.out.mono ?_; rintro e w4 ⟨rfl, hb4⟩)
            exact ⟨rfl, .inl ⟨HF.out, rfl, hlo.trans hb4⟩⟩
        · go_simp
          go_wp2_with (go_at_call 181; refine HP.out.mono ?_; rintro e w4 ⟨rfl, hb4⟩)
          exact ⟨rfl, .inl ⟨HF.out, rfl, hlo.trans hb4⟩⟩
      | some q =>
        obtain ⟨A, l4⟩ := q
        have hlen := pPart_len (fun l A l' hh => pLoop_len hh) hpp
        have HE2 : Hid (pRow n epsL l = pRow m (catL r A) l4) := Lib.hid (by rw [HE.out, pRow_part hre hpp])
        rw [hpp] at HP1
        have HP : Hid (Calls _ _ _ _ _) := Lib.hid HP1
        clear hpp HE hre HP1
        go_wp2
        go_region_with (first
          | (go_at_call 181; refine HP.out.mono ?_; rintro e w4 ⟨P4, rfl, k4, v4, pl4, hR4⟩; have hR4 := hR4.early (w := wz) ⟨rfl, rfl, rfl, Nat.le_refl _, fun _ _ => rfl⟩; have hp7 := hR4.pcs hp6 (by omega) (by omega) hvm; have hq7 := hR4.pcs hq6 (by omega) (by omega) hvn; have hvm7 := hR4.away (b := w.heap.size + 1) (by omega) hvm; have hvn7 := hR4.away (b := w.heap.size) (by omega) hvn; have c07 := hR4.st.rd.cell0; have d0 := hp7.c0; have d1 := hp7.c1; have d2 := hp7.c2; have hlp := Nat.le_trans hR6.frag.len hR4.frag.le)
          | (go_at_call 180; refine (join_any B xb v4 ⟨0, 0, false⟩ pl4 P P4 w4 hR4.st.rx hR6.first hR6.last hR4.first hR4.last (fun i hi => Nat.lt_of_lt_of_le (hR6.bits i hi) hlp) hR4.st.tab hR4.st.tabB).mono ?_; rintro e w5 ⟨rfl, hx5, hc5⟩; have hR8 := hR6.cat hR4 hx5 hc5; have hp8 := hp7.chg hc5 (fun e => hvm7 e.symm); have hq8 := hq7.chg hc5 (fun e => hvn7 e.symm); have e0 := hp8.c0; have e1 := hp8.c1; have e2 := hp8.c2; have g0 := hp8.fz 0; have g1 := hp8.fz 1; have g2 := hp8.fz 2))
        all_goals
          go_wp2
          go_roundg l4.length
          case measure => exact hlen
          case rel => exact ⟨m, _, l4, joinP P P4, _, _, _, rfl, by omega, by omega, HE2, hR8.sets (by omega) hrl hxl hvm7 _ _ _, hp8.sets (joinP P P4), hq8.chg (chg_sets3 w5 (w.heap.size + 1) _ _ _) (by omega), hvn7, hvm7⟩

end Go.Proofs.YtmanjegdgjeeiaaGreatDoor
