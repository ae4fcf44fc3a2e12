/-
  What same of package watchfirelaw07 tells: both stores have the same, also behind what was told is changed.
-/
import Derived.Test.YtinohakjemjkhaaDoorA16
namespace Go.Proofs.YtinohakjemjkhaaDoor
open Go.RowKit

/-- What was told may be written to: its heads stand, its labels' values are texts in blocks from B on. -/
def SpC (w : World) (B : Nat) (a : Option Addr) (L : List Rw) : Prop := ∀ i (hi : i < L.length), ∃ g0, a = some ⟨g0, 0, none⟩ ∧ w.cell? ⟨g0, i * 3, none⟩ = some (.slice L[i].ad L[i].ps.length L[i].cp) ∧
  ∀ k, k < L[i].ps.length → ∃ g, L[i].ad = some ⟨g, 0, none⟩ ∧ B ≤ g ∧ (∃ s, w.cell? ⟨g, k * 2 + 1, none⟩ = some (.string s)) ∧ w.frozen? ⟨g, k * 2 + 1, none⟩ = false
theorem Picked.spc {w : World} {B : Nat} {a : Option Addr} {n c : Nat} {L : List Rw} (h : Picked w B (.slice a n c) L) : SpC w B a L := fun i hi => by
  obtain ⟨a', c', hv, -, -, hc⟩ := h.1.form
  simp only [Value.slice.injEq] at hv
  obtain ⟨rfl, -, -⟩ := hv
  obtain ⟨g0, e0, h0, -, -⟩ := hc i hi
  refine ⟨g0, e0, h0, fun k hk => ?_⟩
  obtain ⟨g, eg, hgB, hfr, h1, -, -, -⟩ := OwnP.store (h.2 _ (List.getElem_mem hi)) rfl k hk
  exact ⟨g, eg, hgB, ⟨_, h1⟩, hfr _⟩
theorem cell_set {w : World} {p q : Addr} {v u : Value} (h : w.cell? q = some u) : (w.setCell p v).cell? q = some (if q = p then v else u) := by
  by_cases e : q = p
  · subst e
    rw [if_pos rfl]
    exact World.cell?_setCell_same _ _ _ h
  · rw [if_neg e, World.cell?_setCell_other _ _ _ _ (fun x => e x.symm)]
    exact h
theorem SpC.belowD {w w' : World} {B : Nat} {a : Option Addr} {L : List Rw} (h : SpC w B a L) (hb : Below w.heap.size w w') : SpC w' B a L := fun i hi => by
  obtain ⟨g0, e0, h0, hk⟩ := h i hi
  refine ⟨g0, e0, (hb.cell (p := ⟨g0, i * 3, none⟩) (World.block_lt_of_cell? w _ h0)).trans h0, fun k hkl => ?_⟩
  obtain ⟨g, eg, hB, ⟨s', hs⟩, hf⟩ := hk k hkl
  have hlt : g < w.heap.size := World.block_lt_of_cell? w _ hs
  exact ⟨g, eg, hB, ⟨s', (hb.cell (p := ⟨g, k * 2 + 1, none⟩) hlt).trans hs⟩, (World.frozen?_of_block (a := ⟨g, k * 2 + 1, none⟩) (hb.block g hlt)).trans hf⟩
theorem SpC.set {w : World} {B : Nat} {a : Option Addr} {L : List Rw} (h : SpC w B a L) {p : Addr} {s : ByteArray} (hp : w.cell? p = some (.string s)) (t : ByteArray) : SpC (w.setCell p (.string t)) B a L := fun i hi => by
  obtain ⟨g0, e0, h0, hk⟩ := h i hi
  refine ⟨g0, e0, ?_, fun k hkl => ?_⟩
  · rw [cell_set h0, if_neg]
    rintro rfl
    rw [h0] at hp
    cases hp
  · obtain ⟨g, eg, hB, ⟨s', hs⟩, hf⟩ := hk k hkl
    refine ⟨g, eg, hB, ?_, by rw [World.frozen?_setCell]; exact hf⟩
    rw [cell_set hs]
    by_cases e : (⟨g, k * 2 + 1, none⟩ : Addr) = p
    · exact ⟨t, by rw [if_pos e]⟩
    · exact ⟨s', by rw [if_neg e]⟩

set_option maxRecDepth 100000 in
set_option maxHeartbeats 8000000 in
theorem awSame_any (sb bm : Nat) (S : List Rw) (a : Option Addr) (c : Nat) (R : List Rw) (now : Int) (w : World) (hS : StAt w sb bm S) (hR : RsAt w a c R) (hsim : Sim S R) (h64 : S.length ≤ 64) (n : Nat) (hn : n = R.length) :
    Calls Tryd.prog 13 #[.pointer (some ⟨sb, 0, none⟩), .agg #[.slice a n c], .int .i64 now] w fun e w' => e = .returned (.bool true) ∧ Below w.heap.size w w' := by
  have d1 := (Below.refl w.heap.size w).alloc (Nat.le_refl _) (.cells #[.slice a n c] 29)
  have k1 := RsBlk.new w a n c
  have s1 : (w.alloc (.cells #[.slice a n c] 29)).heap.size = w.heap.size + 1 := by simp
  have HAl := Lib.hid (fun u (q : Below w.heap.size w u) => aAll_any sb bm S u (hS.below q (Nat.le_refl _)) h64)
  have HFi := Lib.hid (fun u (q : Below w.heap.size w u) => aFiring_any sb bm S now u (hS.below q (Nat.le_refl _)) h64)
  have HLe := Lib.hid (fun u (q : Below w.heap.size w u) => aLen_any sb bm S u (hS.below q (Nat.le_refl _)).1 (hS.below q (Nat.le_refl _)).2.1)
  have HRf := Lib.hid (fun u (q : Below w.heap.size w u) => arFiring_any a c R now u (hR.1.below q (Nat.le_refl _)) (by rw [← hsim.len]; exact h64))
  have hlSR : S.length = n := by rw [hn]; exact hsim.len
  have HRA := Lib.hid (And.intro hR (And.intro hsim (And.intro hS hn)))
  rw [hlSR] at HLe h64
  unfold FirPost at HRf
  rw [← hn] at HRf
  have HK1 := Lib.hid (And.intro d1 (And.intro k1 s1))
  have HA0 := Lib.hid (HAl.out _ d1)
  clear d1 k1 s1 hS hR hsim hlSR hn
  go_enter Tryd.func13, Tryd.ntmps13
  go_wp2_with (go_at_call 18; refine HA0.out.mono ?_; rintro e w2 ⟨a2, c2, L2, rfl, hL2, hm2, q2⟩; refine Hid.out ?_)
  refine Lib.hid ?_
  obtain ⟨d1, k1, s1⟩ := HK1.out
  obtain ⟨hR, hsim, hS, hn⟩ := HRA.out
  have b2 := d1.trans (q2.mono d1.size)
  have k2 := k1.below q2 (ltA k1)
  have hSa2 : decide (L2.map Rw.al = R.map Rw.al) = true := decide_eq_true (by rw [hm2]; exact hsim)
  have hL2n : L2.length = n := by rw [hn, ← hsim.len]; simpa using congrArg List.length hm2
  have hSm := arSame_any a2 a c2 c L2 R w2.drew (Picked.at hL2) (hR.1.below b2.drew (Nat.le_refl _)) (st_fits hS (al_mem hm2)) (by omega)
  rw [hSa2, hL2n, ← hn] at hSm
  have HSm := Lib.hid hSm
  have HSp : Hid (SpC w2 (w.heap.size + 1) a2 L2) := Lib.hid (by have := hL2.spc; rwa [s1] at this)
  have HL2 := Lib.hid hL2n
  have HPs : Hid (∀ r ∈ L2, r.ps.length ≤ 8) := Lib.hid fun r hr => by
    obtain ⟨s, hs, e⟩ := al_mem hm2 r hr
    have e2 : s.ps = r.ps := congrArg (fun p : Al => p.1) e
    rw [← e2]
    exact acheck_len (alE_zero (hS.2.2 s hs).2).1
  have HB2 := Lib.hid b2
  have HQ2 : Hid (Below (w.heap.size + 1) (w.alloc (.cells #[.slice a n c] 29)) w2) := Lib.hid (by rwa [s1] at q2)
  rw [hL2n]
  clear d1 k1 s1 hR hsim hS hn hSa2 hSm hm2 hL2 q2 HA0 hL2n
  go_wp2_with fail
  refine wp_region_any (by kernel_rfl) ?_
  change wpAny _ _ _ _ _ _ _ (World.drew _)
  have hS : (fun w' : World => RsBlk w' w.heap.size a n c) w2.drew := k2
  refine wpAny_of_held (S := fun w' => RsBlk w' w.heap.size a n c) _ _ _ _ ?_
  refine wpAnyH_takeA (i := 0) (some 13) (v := ?_) rfl rfl (by as_aux_lemma => kernel_rfl) (by as_aux_lemma => kernel_rfl) (by as_aux_lemma => kernel_rfl) (fun _ _ _ h => h) (Or.inl ⟨by kernel_rfl, ?_⟩) hS ?_
  rotate_left
  · intro w hSw; have c0 := hSw.c0; go_simp
    first | done | with_reducible rfl
  refine wpAnyH_takeA (i := 1) (some 14) (v := ?_) rfl rfl (by as_aux_lemma => kernel_rfl) (by as_aux_lemma => kernel_rfl) (by as_aux_lemma => kernel_rfl) (fun _ _ _ h => h) (Or.inl ⟨by kernel_rfl, ?_⟩) hS ?_
  rotate_left
  · intro w hSw; have c0 := hSw.c0; go_simp
    first | done | with_reducible rfl
  refine wpAnyH_takeA (i := 2) (some 15) (v := ?_) rfl rfl (by as_aux_lemma => kernel_rfl) (by as_aux_lemma => kernel_rfl) (by as_aux_lemma => kernel_rfl) (fun _ _ _ h => h) (Or.inl ⟨by kernel_rfl, ?_⟩) hS ?_
  rotate_left
  · intro w hSw; have c0 := hSw.c0; go_simp
    first | done | with_reducible rfl
  refine wpAnyH_ready (rs := [3]) (by as_aux_lemma => kernel_rfl) (by simp) ?_
  refine AllReadyH.cons rfl (fun K hK => ?_) AllReadyH.nil
  go_simp
  go_wp2_with (go_at_call 28; refine HSm.out.mono ?_; rintro e w3 ⟨rfl, q3⟩)
  refine hK.out _ _ ?_ (fun hS => ?_)
  · exact RsBlk.below (w := w2.drew) k2 q3 (ltA k2)
  clear hK K
  refine wpAnyH_takeA (i := 4) (some 17) (v := ?_) rfl rfl (by as_aux_lemma => kernel_rfl) (by as_aux_lemma => kernel_rfl) (by as_aux_lemma => kernel_rfl) (fun _ _ _ h => h) (Or.inl ⟨by kernel_rfl, ?_⟩) hS ?_
  rotate_left
  · intro w hSw; have c0 := hSw.c0; go_simp
    first | done | with_reducible rfl
  refine wpAnyH_takeA (i := 5) (some 18) (v := ?_) rfl rfl (by as_aux_lemma => kernel_rfl) (by as_aux_lemma => kernel_rfl) (by as_aux_lemma => kernel_rfl) (fun _ _ _ h => h) (Or.inl ⟨by kernel_rfl, ?_⟩) hS ?_
  rotate_left
  · intro w hSw; have c0 := hSw.c0; go_simp
    first | done | with_reducible rfl
  refine wpAnyH_takeA (i := 7) (some 20) (v := ?_) rfl rfl (by as_aux_lemma => kernel_rfl) (by as_aux_lemma => kernel_rfl) (by as_aux_lemma => kernel_rfl) (fun _ _ _ h => h) (Or.inl ⟨by kernel_rfl, ?_⟩) hS ?_
  rotate_left
  · intro w hSw; have c0 := hSw.c0; go_simp
    first | done | with_reducible rfl
  refine wpAnyH_takeA (i := 8) (some 21) (v := ?_) rfl rfl (by as_aux_lemma => kernel_rfl) (by as_aux_lemma => kernel_rfl) (by as_aux_lemma => kernel_rfl) (fun _ _ _ h => h) (Or.inl ⟨by kernel_rfl, ?_⟩) hS ?_
  rotate_left
  · intro w hSw; have c0 := hSw.c0; go_simp
    first | done | with_reducible rfl
  refine wpAnyH_takeA (i := 9) (some 22) (v := ?_) rfl rfl (by as_aux_lemma => kernel_rfl) (by as_aux_lemma => kernel_rfl) (by as_aux_lemma => kernel_rfl) (fun _ _ _ h => h) (Or.inl ⟨by kernel_rfl, ?_⟩) hS ?_
  rotate_left
  · intro w hSw; have c0 := hSw.c0; go_simp
    first | done | with_reducible rfl
  have HLe3 := Lib.hid (HLe.out w3 (HB2.out.trans (((Below.refl w2.heap.size w2).drew.trans q3).mono HB2.out.size)))
  refine wpAnyH_ready (rs := [6]) (by as_aux_lemma => kernel_rfl) (by simp) ?_
  refine AllReadyH.cons rfl (fun K hK => ?_) AllReadyH.nil
  go_simp
  go_wp2_with (go_at_call 21; refine HLe3.out.mono ?_; rintro e w3' ⟨rfl, hw3'⟩; replace hw3' := hw3'.symm; subst hw3')
  refine hK.out _ _ ?_ (fun hS => ?_)
  · exact hS
  clear hK K
  refine wpAnyH_takeA (i := 10) (some 23) (v := ?_) rfl rfl (by as_aux_lemma => kernel_rfl) (by as_aux_lemma => kernel_rfl) (by as_aux_lemma => kernel_rfl) (fun _ _ _ h => h) (Or.inl ⟨by kernel_rfl, ?_⟩) hS ?_
  rotate_left
  · intro w hSw; have c0 := hSw.c0; go_simp
    first | done | with_reducible rfl
  refine wpAnyH_takeA (i := 11) (some 24) (v := ?_) rfl rfl (by as_aux_lemma => kernel_rfl) (by as_aux_lemma => kernel_rfl) (by as_aux_lemma => kernel_rfl) (fun _ _ _ h => h) (Or.inl ⟨by kernel_rfl, ?_⟩) hS ?_
  rotate_left
  · intro w hSw; have c0 := hSw.c0; go_simp
    first | done | with_reducible rfl
  refine wpAnyH_takeA (i := 12) (some 8) (v := ?_) rfl rfl (by as_aux_lemma => kernel_rfl) (by as_aux_lemma => kernel_rfl) (by as_aux_lemma => kernel_rfl) (fun _ _ _ h => h) (Or.inl ⟨by kernel_rfl, ?_⟩) hS ?_
  rotate_left
  · intro w hSw; have c0 := hSw.c0; go_simp
    first | done | with_reducible rfl
  refine wpAnyH_done (by kernel_rfl) ?_ _
  have b3 := HB2.out.trans (((Below.refl w2.heap.size w2).drew.trans q3).mono HB2.out.size)
  have q3' : Below (w.heap.size + 1) w2 w3 := ((Below.refl w2.heap.size w2).drew.trans q3).mono (by have := ltA k2; omega)
  have HSp3 : Hid (SpC w3 (w.heap.size + 1) a2 L2) := Lib.hid (HSp.out.belowD ((Below.refl w2.heap.size w2).drew.trans q3))
  have HQ3 := Lib.hid (HQ2.out.trans q3')
  clear hS q3 q3' HSm b2 b3 k2 HSp HQ2 HB2
  go_simp
  go_wp2
  go_loopw [9] (fun i wr => ∃ k : Nat, k ≤ n ∧ i = .int .i64 k ∧ Hid (SpC wr (w.heap.size + 1) a2 L2 ∧ Below (w.heap.size + 1) (w.alloc (.cells #[.slice a n c] 29)) wr)) (fun i _ => n - (intOf i).toNat)
  case atStart => exact ⟨0, Nat.zero_le _, rfl, Lib.hid ⟨HSp3.out, HQ3.out⟩⟩
  case round =>
    obtain ⟨k, hk, rfl, HI⟩ := hrel
    obtain ⟨wo, hwo⟩ : ∃ x, x = wr := ⟨_, rfl⟩
    by_cases hlt : k < n
    · have hkl : (k : Int) < (n : Int) := by omega
      have hkL : k < L2.length := by rw [HL2.out]; exact hlt
      obtain ⟨g0, rfl, h0, hks⟩ := HI.out.1 k hkL
      have hps : L2[k].ps.length ≤ 8 := HPs.out _ (List.getElem_mem hkL)
      have HKS := Lib.hid hks
      have hI2 := HI.out.2
      clear hks
      go_wp2
      obtain ⟨np, hnp⟩ : ∃ np, np = L2[k].ps.length := ⟨_, rfl⟩
      have HNP := Lib.hid hnp
      rw [← hnp] at hps
      go_loopw [10] (fun i wi => ∃ j : Nat, j ≤ np ∧ i = .int .i64 j ∧ Hid (SpC wi (w.heap.size + 1) (some ⟨g0, 0, none⟩) L2 ∧ Below (w.heap.size + 1) (w.alloc (.cells #[.slice a n c] 29)) wi)) (fun i _ => np - (intOf i).toNat)
      case atStart => exact ⟨0, Nat.zero_le _, rfl, Lib.hid HI.out⟩
      case round =>
        obtain ⟨j, hj, rfl, HJ⟩ := hrel
        obtain ⟨g1, e1, h1, hks⟩ := HJ.out.1 k hkL
        obtain rfl : g0 = g1 := by simpa using e1
        rw [← HNP.out] at h1
        by_cases hlj : j < np
        · have hjl : (j : Int) < (np : Int) := by omega
          obtain ⟨g, eg, hgB, ⟨s', hs⟩, hf⟩ := hks j (by rw [← HNP.out]; exact hlj)
          rw [eg] at h1
          have HJ2 := Lib.hid (And.intro (HJ.out.1.set hs ⟨#[63]⟩) (HJ.out.2.setCell (p := ⟨g, j * 2 + 1, none⟩) hgB (.string ⟨#[63]⟩)))
          clear hks eg e1 HJ
          generalize L2[k].cp = ck at *
          go_wp2
          go_roundw
          case rel => exact ⟨j + 1, by omega, by go_num, HJ2⟩
          case measure => simp [intOf]; omega
        · have hjl : ¬ (j : Int) < (np : Int) := by omega
          clear hks e1
          generalize L2[k].ad = ak at *
          generalize L2[k].cp = ck at *
          go_wp2
          go_roundw
          case rel => exact ⟨k + 1, by omega, by go_num, HJ⟩
          case measure => simp [intOf]; omega
    · have hkl : ¬ (k : Int) < (n : Int) := by omega
      obtain ⟨d1, k1, s1⟩ := HK1.out
      have kr := k1.below HI.out.2 (by omega)
      have br : Below w.heap.size w wr := d1.trans (HI.out.2.mono (by omega))
      have HBr := Lib.hid br
      have HA4 := Lib.hid (HAl.out wr.drew br.drew)
      clear d1 k1 s1 br HI HAl HLe HSp3 HQ3 HPs hwo
      go_wp2_with fail
      refine wp_region_any (by kernel_rfl) ?_
      change wpAny _ _ _ _ _ _ _ (World.drew _)
      have hS : (fun w' : World => RsBlk w' w.heap.size a n c) wr.drew := kr
      refine wpAny_of_held (S := fun w' => RsBlk w' w.heap.size a n c) _ _ _ _ ?_
      refine wpAnyH_takeA (i := 0) (some 49) (v := ?_) rfl rfl (by as_aux_lemma => kernel_rfl) (by as_aux_lemma => kernel_rfl) (by as_aux_lemma => kernel_rfl) (fun _ _ _ h => h) (Or.inl ⟨by kernel_rfl, ?_⟩) hS ?_
      rotate_left
      · intro w hSw; have c0 := hSw.c0; go_simp
        first | done | with_reducible rfl
      refine wpAnyH_takeA (i := 1) (some 50) (v := ?_) rfl rfl (by as_aux_lemma => kernel_rfl) (by as_aux_lemma => kernel_rfl) (by as_aux_lemma => kernel_rfl) (fun _ _ _ h => h) (Or.inl ⟨by kernel_rfl, ?_⟩) hS ?_
      rotate_left
      · intro w hSw; have c0 := hSw.c0; go_simp
        first | done | with_reducible rfl
      refine wpAnyH_takeA (i := 2) (some 51) (v := ?_) rfl rfl (by as_aux_lemma => kernel_rfl) (by as_aux_lemma => kernel_rfl) (by as_aux_lemma => kernel_rfl) (fun _ _ _ h => h) (Or.inl ⟨by kernel_rfl, ?_⟩) hS ?_
      rotate_left
      · intro w hSw; have c0 := hSw.c0; go_simp
        first | done | with_reducible rfl
      refine wpAnyH_takeA (i := 4) (some 53) (v := ?_) rfl rfl (by as_aux_lemma => kernel_rfl) (by as_aux_lemma => kernel_rfl) (by as_aux_lemma => kernel_rfl) (fun _ _ _ h => h) (Or.inl ⟨by kernel_rfl, ?_⟩) hS ?_
      rotate_left
      · intro w hSw; have c0 := hSw.c0; go_simp
        first | done | with_reducible rfl
      refine wpAnyH_takeA (i := 5) (some 54) (v := ?_) rfl rfl (by as_aux_lemma => kernel_rfl) (by as_aux_lemma => kernel_rfl) (by as_aux_lemma => kernel_rfl) (fun _ _ _ h => h) (Or.inl ⟨by kernel_rfl, ?_⟩) hS ?_
      rotate_left
      · intro w hSw; have c0 := hSw.c0; go_simp
        first | done | with_reducible rfl
      refine wpAnyH_ready (rs := [3]) (by as_aux_lemma => kernel_rfl) (by simp) ?_
      refine AllReadyH.cons rfl (fun K hK => ?_) AllReadyH.nil
      go_simp
      go_wp2_with (go_at_call 18; refine HA4.out.mono ?_; rintro e w4 ⟨a4, c4, L4, rfl, hL4, hm4, q4⟩)
      refine hK.out _ _ ?_ (fun hS => ?_)
      · exact RsBlk.below (w := wr.drew) kr q4 (ltA kr)
      clear hK K
      have b4 := HBr.out.trans (((Below.refl wr.heap.size wr).drew.trans q4).mono HBr.out.size)
      have HS4 : Hid (Calls Tryd.prog 28 #[.slice a4 L4.length c4, .slice a n c] w4 fun r w' => r = .returned (.bool true) ∧ Below w4.heap.size w4 w') := Lib.hid (by
        obtain ⟨hR, hsim, hS, hn⟩ := HRA.out
        have hl4 : L4.length ≤ 1000000 := by
          have e4 : L4.length = S.length := by simpa using congrArg List.length hm4
          have := hsim.len
          omega
        have hSm := arSame_any a4 a c4 c L4 R w4 (Picked.at hL4) (hR.1.below b4 (Nat.le_refl _)) (st_fits hS (al_mem hm4)) hl4
        rw [decide_eq_true (show L4.map Rw.al = R.map Rw.al by rw [hm4]; exact hsim), ← hn] at hSm
        exact hSm)
      generalize L4.length = n4 at *
      refine wpAnyH_ready (rs := [6]) (by as_aux_lemma => kernel_rfl) (by simp) ?_
      refine AllReadyH.cons rfl (fun K hK => ?_) AllReadyH.nil
      go_simp
      go_wp2_with (go_at_call 28; refine HS4.out.mono ?_; rintro e w5 ⟨rfl, q5⟩)
      refine hK.out _ _ ?_ (fun hS => ?_)
      · exact hS.below q5 (ltA hS)
      clear hK K
      have b5 := b4.trans (q5.mono b4.size)
      refine wpAnyH_takeA (i := 7) (some 56) (v := ?_) rfl rfl (by as_aux_lemma => kernel_rfl) (by as_aux_lemma => kernel_rfl) (by as_aux_lemma => kernel_rfl) (fun _ _ _ h => h) (Or.inl ⟨by kernel_rfl, ?_⟩) hS ?_
      rotate_left
      · intro w hSw; have c0 := hSw.c0; go_simp
        first | done | with_reducible rfl
      refine wpAnyH_takeA (i := 8) (some 57) (v := ?_) rfl rfl (by as_aux_lemma => kernel_rfl) (by as_aux_lemma => kernel_rfl) (by as_aux_lemma => kernel_rfl) (fun _ _ _ h => h) (Or.inl ⟨by kernel_rfl, ?_⟩) hS ?_
      rotate_left
      · intro w hSw; have c0 := hSw.c0; go_simp
        first | done | with_reducible rfl
      refine wpAnyH_takeA (i := 9) (some 58) (v := ?_) rfl rfl (by as_aux_lemma => kernel_rfl) (by as_aux_lemma => kernel_rfl) (by as_aux_lemma => kernel_rfl) (fun _ _ _ h => h) (Or.inl ⟨by kernel_rfl, ?_⟩) hS ?_
      rotate_left
      · intro w hSw; have c0 := hSw.c0; go_simp
        first | done | with_reducible rfl
      refine wpAnyH_takeA (i := 10) (some 59) (v := ?_) rfl rfl (by as_aux_lemma => kernel_rfl) (by as_aux_lemma => kernel_rfl) (by as_aux_lemma => kernel_rfl) (fun _ _ _ h => h) (Or.inl ⟨by kernel_rfl, ?_⟩) hS ?_
      rotate_left
      · intro w hSw; have c0 := hSw.c0; go_simp
        first | done | with_reducible rfl
      refine wpAnyH_takeA (i := 12) (some 61) (v := ?_) rfl rfl (by as_aux_lemma => kernel_rfl) (by as_aux_lemma => kernel_rfl) (by as_aux_lemma => kernel_rfl) (fun _ _ _ h => h) (Or.inl ⟨by kernel_rfl, ?_⟩) hS ?_
      rotate_left
      · intro w hSw; have c0 := hSw.c0; go_simp
        first | done | with_reducible rfl
      refine wpAnyH_takeA (i := 13) (some 62) (v := ?_) rfl rfl (by as_aux_lemma => kernel_rfl) (by as_aux_lemma => kernel_rfl) (by as_aux_lemma => kernel_rfl) (fun _ _ _ h => h) (Or.inl ⟨by kernel_rfl, ?_⟩) hS ?_
      rotate_left
      · intro w hSw; have c0 := hSw.c0; go_simp
        first | done | with_reducible rfl
      have HF5 := Lib.hid (HFi.out w5 b5)
      have HR5 := Lib.hid (HRf.out w5 b5)
      refine wpAnyH_ready (rs := [11]) (by as_aux_lemma => kernel_rfl) (by simp) ?_
      refine AllReadyH.cons rfl (fun K hK => ?_) AllReadyH.nil
      · go_simp
        go_wp2_with (go_at_call 19; refine HF5.out.mono ?_; rintro e w6 ⟨a6, c6, L6, rfl, hL6, hm6, q6⟩)
        refine hK.out _ _ ?_ (fun hS => ?_)
        · exact hS.below q6 (ltA hS)
        clear hK K
        have b6 := b5.trans (q6.mono b5.size)
        have HR6 := Lib.hid (HRf.out w6 b6)
        refine wpAnyH_ready (rs := [14]) (by as_aux_lemma => kernel_rfl) (by simp) ?_
        refine AllReadyH.cons rfl (fun K hK => ?_) AllReadyH.nil
        go_simp
        go_wp2_with (go_at_call 31; refine HR6.out.mono ?_; rintro e w7 ⟨a7, c7, rfl, hA7, q7⟩)
        refine hK.out _ _ ?_ (fun hS => ?_)
        · exact hS.below q7 (ltA hS)
        clear hK K
        have b7 := b6.trans (q7.mono b6.size)
        have hA6 := (Picked.at hL6).below q7 (Nat.le_refl _)
        clear hL6 q6 q7 b6 HR6
        have HS8 : Hid (Calls Tryd.prog 28 #[.slice a6 L6.length c6, .slice a7 (R.filter (fun r : Rw => firesP r.st r.en now)).length c7] w7 fun r w' => r = .returned (.bool true) ∧ Below w7.heap.size w7 w') := Lib.hid (by
          obtain ⟨hR, hsim, hS, hn⟩ := HRA.out
          have hSm := arSame_any a6 a7 c6 c7 L6 (R.filter (fun r : Rw => firesP r.st r.en now)) w7 hA6 hA7 (st_fits hS fun r hr => by
            obtain ⟨s, hs, e⟩ := al_mem hm6 r hr
            exact ⟨s, (List.mem_filter.1 hs).1, e⟩) (by
            have e6 : L6.length = (S.filter fun r => firesP r.st r.en now).length := by simpa using congrArg List.length hm6
            have := List.length_filter_le (fun r : Rw => firesP r.st r.en now) S
            have := hsim.len
            omega)
          rw [decide_eq_true (show L6.map Rw.al = (R.filter (fun r : Rw => firesP r.st r.en now)).map Rw.al by rw [hm6]; exact hsim.filter (fun s e => firesP s e now))] at hSm
          exact hSm)
        clear hA6 hA7 hm6
        generalize (R.filter (fun r : Rw => firesP r.st r.en now)).length = n7 at *
        generalize L6.length = n6 at *
        refine wpAnyH_ready (rs := [15]) (by as_aux_lemma => kernel_rfl) (by simp) ?_
        refine AllReadyH.cons rfl (fun K hK => ?_) AllReadyH.nil
        go_simp
        go_wp2_with (go_at_call 28; refine HS8.out.mono ?_; rintro e w8 ⟨rfl, q8⟩)
        refine hK.out _ _ ?_ (fun hS => ?_)
        · exact hS.below q8 (ltA hS)
        clear hK K
        refine wpAnyH_takeA (i := 16) (some 65) (v := ?_) rfl rfl (by as_aux_lemma => kernel_rfl) (by as_aux_lemma => kernel_rfl) (by as_aux_lemma => kernel_rfl) (fun _ _ _ h => h) (Or.inl ⟨by kernel_rfl, ?_⟩) hS ?_
        rotate_left
        · intro w hSw; have c0 := hSw.c0; go_simp
          first | done | with_reducible rfl
        refine wpAnyH_takeA (i := 17) (some 6) (v := ?_) rfl rfl (by as_aux_lemma => kernel_rfl) (by as_aux_lemma => kernel_rfl) (by as_aux_lemma => kernel_rfl) (fun _ _ _ h => h) (Or.inl ⟨by kernel_rfl, ?_⟩) hS ?_
        rotate_left
        · intro w hSw; have c0 := hSw.c0; go_simp
          first | done | with_reducible rfl
        refine wpAnyH_done (by kernel_rfl) ?_ _
        have HB8 := Lib.hid (b7.trans (q8.mono b7.size))
        clear hS q8 HS8 b7 b5 b4 q4 q5 kr HF5 HR5 hL4 hm4 HS4
        go_simp
        go_wp2
        go_ret
        exact ⟨rfl, HB8.out⟩
end Go.Proofs.YtinohakjemjkhaaDoor
