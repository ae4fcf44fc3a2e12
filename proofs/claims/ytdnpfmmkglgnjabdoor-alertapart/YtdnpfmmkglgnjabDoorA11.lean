/-
  The reference's Put, where an alert is taken.
-/
import Derived.Test.YtdnpfmmkglgnjabDoorA10
namespace Go.Proofs.YtdnpfmmkglgnjabDoor
open Go.RowKit

set_option maxRecDepth 100000 in
set_option maxHeartbeats 8000000 in
theorem arPut_apart1 (b0 o0 : Nat) (c : Nat) (S : List Rw) (a1 : Option Addr) (c1 : Nat) (ps : List Pr) (s e : Int) (w : World) (h : RsAt w (some ⟨b0, o0, none⟩) c S) (hp : PairsAt w a1 ps) (hsz : ∀ p ∈ ps, p.1.size ≤ 9223372036854775807) (n1 : Nat) (hn1 : n1 = ps.length) (hn : S.length ≤ 64) (hc1 : a1 = none → c1 = 0) (hE : alE ps s e = 0) (r0 : Rw) (hyes : isAt S (keyL ps) = true) (hr0 : S[placeN S (keyL ps)]? = some r0) (hm1 : ¬ s ≤ r0.en) : Calls Tryd.prog 16 #[.agg #[.slice (some ⟨b0, o0, none⟩) S.length c], .agg #[.slice a1 n1 c1, .int .i64 s, .int .i64 e]] w (RPutPost w S ps s e) := by
  have hfi := find_place (keyL ps) h.2.2.2.2
  rw [hyes, if_pos rfl, hr0] at hfi
  have hR : putE S ps s e = 0 := by unfold putE; rw [if_neg (by simp [hE]), if_neg (by rw [hfi]; rintro ⟨h, -⟩; cases h)]
  have hmt : meetP r0.st r0.en s e = false := by unfold meetP; simp; omega
  have hA : startA S ps s e = s := by unfold startA; rw [hfi]; simp only [hmt]; rfl
  have HE2 : Hid (alE ps s e = 0) := Lib.hid (by rw [← hA]; exact start_range (w := w) (fun r hr => ⟨h.pairs r hr, h.2.2.2.1 r hr⟩) hE)
  have hsp : ∀ ad cp, putR ⟨ps, s, e, ad, cp⟩ S = S.take (placeN S (keyL ps)) ++ ⟨ps, s, e, ad, cp⟩ :: S.drop (placeN S (keyL ps) + 1) := fun ad cp => by
    have := put_split (x := ⟨ps, s, e, ad, cp⟩) h.2.2.2.2
    have hk : (⟨ps, s, e, ad, cp⟩ : Rw).key = keyL ps := rfl
    rw [hk, hyes] at this
    exact this
  obtain ⟨hck, hln, -, -, -⟩ := alE_zero hE
  obtain ⟨n, hnl⟩ : ∃ n, n = S.length := ⟨_, rfl⟩
  rw [← hnl]
  have HNL := Lib.hid hnl
  have d1 := (Below.refl w.heap.size w).alloc (Nat.le_refl _) (.cells #[.slice (some ⟨b0, o0, none⟩) n c] 32)
  have d2 := d1.alloc (by simp) (.cells #[.slice a1 n1 c1, .int .i64 s, .int .i64 e] 25)
  have d3 := d2.alloc (by simp; omega) (.cells #[.slice none 0 0] 32)
  have s1 : (w.alloc (.cells #[.slice (some ⟨b0, o0, none⟩) n c] 32)).heap.size = w.heap.size + 1 := by simp
  have s2 : ((w.alloc (.cells #[.slice (some ⟨b0, o0, none⟩) n c] 32)).alloc (.cells #[.slice a1 n1 c1, .int .i64 s, .int .i64 e] 25)).heap.size = w.heap.size + 1 + 1 := by simp
  have s3 : (((w.alloc (.cells #[.slice (some ⟨b0, o0, none⟩) n c] 32)).alloc (.cells #[.slice a1 n1 c1, .int .i64 s, .int .i64 e] 25)).alloc (.cells #[.slice none 0 0] 32)).heap.size = w.heap.size + 1 + 1 + 1 := by simp
  have k1 := RsBlk.new w (some ⟨b0, o0, none⟩) n c
  have k2 := AlBlk.new (w.alloc (.cells #[.slice (some ⟨b0, o0, none⟩) n c] 32)) a1 n1 c1 s e
  have k3 := RsBlk.new ((w.alloc (.cells #[.slice (some ⟨b0, o0, none⟩) n c] 32)).alloc (.cells #[.slice a1 n1 c1, .int .i64 s, .int .i64 e] 25)) none 0 0
  rw [s1] at k2
  rw [s2] at k3
  replace k1 := (k1.below ((Below.refl _ _).alloc (Nat.le_refl _) (.cells #[.slice a1 n1 c1, .int .i64 s, .int .i64 e] 25)) (by simp)).below ((Below.refl _ _).alloc (Nat.le_refl _) (.cells #[.slice none 0 0] 32)) (by simp; omega)
  replace k2 := k2.below ((Below.refl _ _).alloc (Nat.le_refl _) (.cells #[.slice none 0 0] 32)) (by simp)
  have HC := Lib.hid (arCheck_any a1 c1 ps s e (((w.alloc (.cells #[.slice (some ⟨b0, o0, none⟩) n c] 32)).alloc (.cells #[.slice a1 n1 c1, .int .i64 s, .int .i64 e] 25)).alloc (.cells #[.slice none 0 0] 32)) (hp.below d3 (Nat.le_refl _)) hsz n1 hn1)
  have HW := Lib.hid (And.intro d3 (And.intro s3 (And.intro k1 (And.intro k2 k3))))
  have HH := Lib.hid h
  have HPA := Lib.hid hp
  have HN1 := Lib.hid hn1
  clear d1 d2 d3 s1 s2 s3 k1 k2 k3 hnl hn1 hsz
  rw [hE] at HC
  have HK0 := Lib.hid (fun u (hb : Below w.heap.size w u) => arKey_ok a1 c1 ps u (hp.below hb (Nat.le_refl _)) hck n1 HN1.out)
  have HPl := Lib.hid (fun u (hb : Below w.heap.size w u) => arPlace_any (some ⟨b0, o0, none⟩) c S (keyL ps) u (h.1.below hb (Nat.le_refl _)) h.2.2.2.1 (by omega))
  rw [← HNL.out] at HPl
  have hc := h.2.1
  rw [← HNL.out] at hc hn
  have hps8 := acheck_len hck
  rw [hyes] at HPl
  have HR := Lib.hid (And.intro hR (And.intro hA hsp))
  have HC0 := Lib.hid hc1
  have HR0 := Lib.hid hr0
  unfold RPutPost
  obtain ⟨P, HP⟩ : ∃ P, Hid (placeN S (keyL ps) = P) := ⟨_, Lib.hid rfl⟩
  have hPn : P ≤ n := by rw [← HP.out, HNL.out]; exact place_le _ _
  rw [HP.out] at HPl
  obtain ⟨kk, HKK⟩ : ∃ k, Hid (keyL ps = k) := ⟨_, Lib.hid rfl⟩
  rw [HKK.out] at HK0 HPl
  have HE := Lib.hid hE
  clear h hp hE hck hln hfi hR hA hsp hc1 hyes hr0
  go_enter Tryd.func16, Tryd.ntmps16
  go_wp2_with (go_at_call 27; refine HC.out.mono ?_; rintro r w2 ⟨rfl, q2⟩; refine Hid.out ?_)
  refine Lib.hid ?_
  obtain ⟨d3, s3, k1, k2, k3⟩ := HW.out
  rw [s3] at q2
  replace k1 := k1.below q2 (by omega)
  replace k2 := k2.below q2 (by omega)
  replace k3 := k3.below q2 (by omega)
  have b2 := d3.trans (q2.mono (by omega))
  have b2' : Below w.heap.size w w2.drew := b2.drew
  have HK := Lib.hid (HK0.out w2.drew b2')
  clear d3 s3 q2 HC HW HK0
  go_wp2_with fail
  refine wp_region_any (by kernel_rfl) ?_
  change wpAny _ _ _ _ _ _ _ (World.drew _)
  have hS : (fun w' : World => RsBlk w' w.heap.size (some ⟨b0, o0, none⟩) n c ∧ AlBlk w' (w.heap.size + 1) a1 n1 c1 s e ∧ RsBlk w' (w.heap.size + 1 + 1) none 0 0) w2.drew := ⟨k1, k2, k3⟩
  refine wpAny_of_held (S := fun w' => RsBlk w' w.heap.size (some ⟨b0, o0, none⟩) n c ∧ AlBlk w' (w.heap.size + 1) a1 n1 c1 s e ∧ RsBlk w' (w.heap.size + 1 + 1) none 0 0) _ _ _ _ ?_
  refine wpAnyH_takeA (i := 0) (some 19) (v := ?_) rfl rfl (by as_aux_lemma => kernel_rfl) (by as_aux_lemma => kernel_rfl) (by as_aux_lemma => kernel_rfl) (fun _ _ _ h => h) (Or.inl ⟨by kernel_rfl, ?_⟩) hS ?_
  rotate_left
  · intro w hSw; have c0 := hSw.1.c0; have c1 := hSw.2.1.c0; have c2 := hSw.2.1.c1; have c3 := hSw.2.1.c2; go_simp
    first | done | with_reducible rfl
  refine wpAnyH_takeA (i := 1) (some 20) (v := ?_) rfl rfl (by as_aux_lemma => kernel_rfl) (by as_aux_lemma => kernel_rfl) (by as_aux_lemma => kernel_rfl) (fun _ _ _ h => h) (Or.inl ⟨by kernel_rfl, ?_⟩) hS ?_
  rotate_left
  · intro w hSw; have c0 := hSw.1.c0; have c1 := hSw.2.1.c0; have c2 := hSw.2.1.c1; have c3 := hSw.2.1.c2; go_simp
    first | done | with_reducible rfl
  refine wpAnyH_takeA (i := 2) (some 21) (v := ?_) rfl rfl (by as_aux_lemma => kernel_rfl) (by as_aux_lemma => kernel_rfl) (by as_aux_lemma => kernel_rfl) (fun _ _ _ h => h) (Or.inl ⟨by kernel_rfl, ?_⟩) hS ?_
  rotate_left
  · intro w hSw; have c0 := hSw.1.c0; have c1 := hSw.2.1.c0; have c2 := hSw.2.1.c1; have c3 := hSw.2.1.c2; go_simp
    first | done | with_reducible rfl
  refine wpAnyH_ready (rs := [3]) (by as_aux_lemma => kernel_rfl) (by simp) ?_
  refine AllReadyH.cons rfl (fun K hK => ?_) AllReadyH.nil
  go_simp
  go_wp2_with (go_at_call 29; refine HK.out.mono ?_; rintro r w3 ⟨rfl, q3⟩)
  refine hK.out _ _ ?_ (fun hS => ?_)
  · exact ⟨hS.1.below q3 (ltA hS.1), hS.2.1.below q3 (ltA hS.2.1), hS.2.2.below q3 (ltA hS.2.2)⟩
  clear hK K
  have HPl2 := Lib.hid (HPl.out w3 (b2'.trans (q3.mono b2'.size)))
  refine wpAnyH_ready (rs := [4]) (by as_aux_lemma => kernel_rfl) (by simp) ?_
  refine AllReadyH.cons rfl (fun K hK => ?_) AllReadyH.nil
  go_simp
  go_wp2_with (go_at_call 28; refine HPl2.out.mono ?_; rintro r w4 ⟨rfl, q4⟩)
  refine hK.out _ _ ?_ (fun hS => ?_)
  · exact ⟨hS.1.below q4 (ltA hS.1), hS.2.1.below q4 (ltA hS.2.1), hS.2.2.below q4 (ltA hS.2.2)⟩
  clear hK K
  refine wpAnyH_takeA (i := 5) (some 18) (v := ?_) rfl rfl (by as_aux_lemma => kernel_rfl) (by as_aux_lemma => kernel_rfl) (by as_aux_lemma => kernel_rfl) (fun _ _ _ h => h) (Or.inl ⟨by kernel_rfl, ?_⟩) hS ?_
  rotate_left
  · intro w hSw; have c0 := hSw.1.c0; have c1 := hSw.2.1.c0; have c2 := hSw.2.1.c1; have c3 := hSw.2.1.c2; go_simp
    first | done | with_reducible rfl
  refine wpAnyH_takeA (i := 6) (some 24) (v := ?_) rfl rfl (by as_aux_lemma => kernel_rfl) (by as_aux_lemma => kernel_rfl) (by as_aux_lemma => kernel_rfl) (fun _ _ _ h => h) (Or.inl ⟨by kernel_rfl, ?_⟩) hS ?_
  rotate_left
  · intro w hSw; have c0 := hSw.1.c0; have c1 := hSw.2.1.c0; have c2 := hSw.2.1.c1; have c3 := hSw.2.1.c2; go_simp
    first | done | with_reducible rfl
  refine wpAnyH_takeA (i := 7) (some 25) (v := ?_) rfl rfl (by as_aux_lemma => kernel_rfl) (by as_aux_lemma => kernel_rfl) (by as_aux_lemma => kernel_rfl) (fun _ _ _ h => h) (Or.inl ⟨by kernel_rfl, ?_⟩) hS ?_
  rotate_left
  · intro w hSw; have c0 := hSw.1.c0; have c1 := hSw.2.1.c0; have c2 := hSw.2.1.c1; have c3 := hSw.2.1.c2; go_simp
    first | done | with_reducible rfl
  refine wpAnyH_takeA (i := 8) (some 7) (v := ?_) rfl rfl (by as_aux_lemma => kernel_rfl) (by as_aux_lemma => kernel_rfl) (by as_aux_lemma => kernel_rfl) (fun _ _ _ h => h) (Or.inl ⟨by kernel_rfl, ?_⟩) hS ?_
  rotate_left
  · intro w hSw; have c0 := hSw.1.c0; have c1 := hSw.2.1.c0; have c2 := hSw.2.1.c1; have c3 := hSw.2.1.c2; go_simp
    first | done | with_reducible rfl
  refine wpAnyH_takeA (i := 9) (some 8) (v := ?_) rfl rfl (by as_aux_lemma => kernel_rfl) (by as_aux_lemma => kernel_rfl) (by as_aux_lemma => kernel_rfl) (fun _ _ _ h => h) (Or.inl ⟨by kernel_rfl, ?_⟩) hS ?_
  rotate_left
  · intro w hSw; have c0 := hSw.1.c0; have c1 := hSw.2.1.c0; have c2 := hSw.2.1.c1; have c3 := hSw.2.1.c2; go_simp
    first | done | with_reducible rfl
  refine wpAnyH_done (by kernel_rfl) ?_ _
  have b4 : Below w.heap.size w w4 := (b2'.trans (q3.mono b2'.size)).trans (q4.mono (Nat.le_trans b2'.size q3.size))
  obtain ⟨k1, k2, k3⟩ := hS
  clear q3 q4 HK HPl HPl2 b2'
  go_simp
  have h10 := k1.c0
  have c0 := k2.c0; have f0 := k2.f 0
  have z5 := newA w4 (.cells #[] 52)
  have d5 := (Below.refl w4.heap.size w4).alloc (Nat.le_refl _) (.cells #[] 52)
  have own5 : OwnP (w4.alloc (.cells #[] 52)) w4.heap.size (.slice (some ⟨w4.heap.size, 0, none⟩) 0 0) [] := ownP_made w4 _ (Nat.le_refl _)
  have hpa5 := (HPA.out.below b4 (Nat.le_refl _)).below d5 (Nat.le_refl _)
  have k10 := k1.c0
  have HB4 := Lib.hid (And.intro b4 (And.intro d5 (And.intro k1 (And.intro k2 k3))))
  have hnone : a1 = none → c1 = 0 := HC0.out
  have hb5 : ([] : List Pr).length + ps.length ≤ 4398046511103 := by simp; omega
  have hsz5 : w4.heap.size ≤ (w4.alloc (.cells #[] 52)).heap.size := by simp
  have c05 : (w4.alloc (.cells #[] 52)).cell? ⟨w.heap.size + 1, 0, none⟩ = some (.slice a1 n1 c1) := (k2.below d5 (ltA k2)).c0
  clear b4 d5 k1 k2 k3 z5
  go_wp2_with (at_builtin; refine wpList_append_pairs _ rfl _ _ rfl w4.heap.size _ _ rfl own5 a1 n1 c1 ps rfl HN1.out hpa5 hnone hb5 hsz5 ?_; refine Hid.out ?_)
  refine Lib.hid ?_
  intro v6 w6 own6 g6
  obtain ⟨b4, d5, k1, k2, k3⟩ := HB4.out
  obtain ⟨a6, c6, rfl, -, -, -⟩ := OwnP.form own6
  have b6 : Below w4.heap.size w4 w6 := d5.grown g6 (by simp) (fun j e => by simp [Value.ownBlock] at e; omega)
  replace k1 := k1.below b6 (ltA k1)
  replace k2 := k2.below b6 (ltA k2)
  replace k3 := k3.below b6 (ltA k3)
  replace own6 : OwnP w6 w4.heap.size (.slice a6 ps.length c6) ps := own6
  have hw4 : w.heap.size + 1 + 1 < w4.heap.size := ltA (HB4.out.2.2.2.2)
  have c0 := k2.c0; have f0 := k2.f 0
  replace k1 : RsBlk (w6.setCell ⟨w.heap.size + 1, 0, none⟩ (.slice a6 ps.length c6)) w.heap.size (some ⟨b0, o0, none⟩) n c := (Below.heap_setCell w6 _ _ _ (by simp)).trans k1
  replace k2 : AlBlk (w6.setCell ⟨w.heap.size + 1, 0, none⟩ (.slice a6 ps.length c6)) (w.heap.size + 1) a6 ps.length c6 s e := k2.set0
  replace k3 : RsBlk (w6.setCell ⟨w.heap.size + 1, 0, none⟩ (.slice a6 ps.length c6)) (w.heap.size + 1 + 1) none 0 0 := (Below.heap_setCell w6 _ _ _ (by simp)).trans k3
  have own7 : OwnP (w6.setCell ⟨w.heap.size + 1, 0, none⟩ (.slice a6 ps.length c6)) w4.heap.size (.slice a6 ps.length c6) ps := ownsRow_setCell_below own6 (by show w.heap.size + 1 < _; omega) _
  have b7 : Below w.heap.size w (w6.setCell ⟨w.heap.size + 1, 0, none⟩ (.slice a6 ps.length c6)) := (b4.trans (b6.mono b4.size)).setCell (p := ⟨w.heap.size + 1, 0, none⟩) (by show w.heap.size ≤ w.heap.size + 1; omega) _
  have own8 : OwnP (w6.setCell ⟨w.heap.size + 1, 0, none⟩ (.slice a6 ps.length c6)) w.heap.size (.slice a6 ps.length c6) ps := baseA own7 b4.size
  have hw6 : w.heap.size + 1 + 1 < (w6.setCell ⟨w.heap.size + 1, 0, none⟩ (.slice a6 ps.length c6)).heap.size := ltA k3
  clear own5 own6 own7 g6 b4 d5 b6 hpa5 HB4 hnone hb5 hsz5 c05 k10 hw4
  have HI := Lib.hid (And.intro k1 (And.intro k2 (And.intro k3 (And.intro own8 (And.intro b7 hw6)))))
  have hr0' := HR0.out
  rw [HP.out] at hr0'
  obtain ⟨hPS, hPr⟩ := List.getElem?_eq_some_iff.1 hr0'
  have hPl : P < n := by rw [HNL.out]; exact hPS
  have hPi : (P : Int) < (n : Int) := by omega
  obtain ⟨b', o', hbo, hC0, -⟩ := (HH.out.1.below b7 (Nat.le_refl _)).c P hPS
  rw [hPr] at hC0
  obtain ⟨rfl, rfl⟩ : b0 = b' ∧ o0 = o' := by simpa using hbo
  have e0 := hC0.2.1; have e1 := hC0.2.2.1; have e2 := hC0.2.2.2
  have c0' := k1.c0
  have d8 := (Below.refl _ (w6.setCell ⟨w.heap.size + 1, 0, none⟩ (.slice a6 ps.length c6))).alloc (Nat.le_refl _) (.cells #[.slice r0.ad r0.ps.length r0.cp, .int .i64 r0.st, .int .i64 r0.en] 25)
  have o8 := AlBlk.new (w6.setCell ⟨w.heap.size + 1, 0, none⟩ (.slice a6 ps.length c6)) r0.ad r0.ps.length r0.cp r0.st r0.en
  replace k1 := k1.below d8 (ltA k1)
  replace k2 := k2.below d8 (ltA k2)
  replace k3 := k3.below d8 (ltA k3)
  have own9 := OwnP.onB own8 d8 (Nat.le_refl _)
  have b8 := b7.trans (d8.mono b7.size)
  obtain ⟨w8, hw8⟩ : ∃ x, x = (w6.setCell ⟨w.heap.size + 1, 0, none⟩ (.slice a6 ps.length c6)).alloc (.cells #[.slice r0.ad r0.ps.length r0.cp, .int .i64 r0.st, .int .i64 r0.en] 25) := ⟨_, rfl⟩
  rw [← hw8] at d8 o8 k1 k2 k3 own9 b8
  have p1 := k2.c1; have p2 := k2.c2; have pf := k2.f 1
  have hw68 : w.heap.size + 1 + 1 < w8.heap.size := ltA k3
  clear HI
  have HI := Lib.hid (And.intro k1 (And.intro k2 (And.intro k3 (And.intro own9 (And.intro b8 hw68)))))
  clear k1 k2 k3 own8 own9 b7 b8 hw6 hw68 hC0 hPS hPr hr0' d8 hbo
  subst hw8
  have q0 := o8.c0; have q1 := o8.c1; have q2 := o8.c2
  clear o8
  go_wp2_with fail
  obtain ⟨k1, k2, k3, own8, b7, hw7⟩ := HI.out
  clear HI
  generalize ((w6.setCell ⟨w.heap.size + 1, 0, none⟩ (.slice a6 ps.length c6)).alloc (.cells #[.slice r0.ad r0.ps.length r0.cp, .int .i64 r0.st, .int .i64 r0.en] 25)) = w7 at *
  have hat : AlsAt w7 (some ⟨b0, o0, none⟩) S := HH.out.1.below b7 (Nat.le_refl _)
  have hnone : ((some ⟨b0, o0, none⟩) : Option Addr) = none → c = 0 := HH.out.2.2.1
  have hP1 : (P : Int) ≤ (c : Int) := by omega
  have hP2 : P ≤ c := by omega
  have HTK : Hid (P = (S.take P).length) := Lib.hid (by rw [List.length_take, ← HNL.out]; omega)
  have hwsz : w.heap.size ≤ w7.heap.size := b7.size
  have HK3 := Lib.hid k3
  refine wp_region_any (by kernel_rfl) ?_
  change wpAny _ _ _ _ _ _ _ (World.drew _)
  have hS : (fun w' : World => RsBlk w' w.heap.size (some ⟨b0, o0, none⟩) n c ∧ AlBlk w' (w.heap.size + 1) a6 ps.length c6 s e ∧ RsBlk w' (w.heap.size + 1 + 1) none 0 0) w7.drew := ⟨k1, k2, k3⟩
  refine wpAny_of_held (S := fun w' => RsBlk w' w.heap.size (some ⟨b0, o0, none⟩) n c ∧ AlBlk w' (w.heap.size + 1) a6 ps.length c6 s e ∧ RsBlk w' (w.heap.size + 1 + 1) none 0 0) _ _ _ _ ?_
  refine wpAnyH_takeA (i := 0) (some 67) (v := ?_) rfl rfl (by as_aux_lemma => kernel_rfl) (by as_aux_lemma => kernel_rfl) (by as_aux_lemma => kernel_rfl) (fun _ _ _ h => h) (Or.inl ⟨by kernel_rfl, ?_⟩) hS ?_
  rotate_left
  · intro w hSw; have c0 := hSw.1.c0; have c1 := hSw.2.1.c0; have c2 := hSw.2.1.c1; have c3 := hSw.2.1.c2; go_simp
    first | done | with_reducible rfl
  refine wpAnyH_takeA (i := 1) (some 68) (v := ?_) rfl rfl (by as_aux_lemma => kernel_rfl) (by as_aux_lemma => kernel_rfl) (by as_aux_lemma => kernel_rfl) (fun _ _ _ h => h) (Or.inl ⟨by kernel_rfl, ?_⟩) hS ?_
  rotate_left
  · intro w hSw; have c0 := hSw.1.c0; have c1 := hSw.2.1.c0; have c2 := hSw.2.1.c1; have c3 := hSw.2.1.c2; go_simp
    first | done | with_reducible rfl
  refine wpAnyH_takeA (i := 2) (some 69) (v := ?_) rfl rfl (by as_aux_lemma => kernel_rfl) (by as_aux_lemma => kernel_rfl) (by as_aux_lemma => kernel_rfl) (fun _ _ _ h => h) (Or.inl ⟨by kernel_rfl, ?_⟩) hS ?_
  rotate_left
  · intro w hSw; have c0 := hSw.1.c0; have c1 := hSw.2.1.c0; have c2 := hSw.2.1.c1; have c3 := hSw.2.1.c2; go_simp
    first | done | with_reducible rfl
  refine wpAnyH_takeA (i := 3) (some 70) (v := ?_) rfl rfl (by as_aux_lemma => kernel_rfl) (by as_aux_lemma => kernel_rfl) (by as_aux_lemma => kernel_rfl) (fun _ _ _ h => h) (Or.inl ⟨by kernel_rfl, ?_⟩) hS ?_
  rotate_left
  · intro w hSw; have c0 := hSw.1.c0; have c1 := hSw.2.1.c0; have c2 := hSw.2.1.c1; have c3 := hSw.2.1.c2; go_simp
    first | done | with_reducible rfl
  refine wpAnyH_takeA (i := 4) (some 71) (v := ?_) rfl rfl (by as_aux_lemma => kernel_rfl) (by as_aux_lemma => kernel_rfl) (by as_aux_lemma => kernel_rfl) (fun _ _ _ h => h) (Or.inl ⟨by kernel_rfl, ?_⟩) hS ?_
  rotate_left
  · intro w hSw; have c0 := hSw.1.c0; have c1 := hSw.2.1.c0; have c2 := hSw.2.1.c1; have c3 := hSw.2.1.c2; go_simp
    first | done | with_reducible rfl
  refine wpAnyH_takeA (i := 6) (some 73) (v := ?_) rfl rfl (by as_aux_lemma => kernel_rfl) (by as_aux_lemma => kernel_rfl) (by as_aux_lemma => kernel_rfl) (fun _ _ _ h => h) (Or.inl ⟨by kernel_rfl, ?_⟩) hS ?_
  rotate_left
  · intro w hSw; have c0 := hSw.1.c0; have c1 := hSw.2.1.c0; have c2 := hSw.2.1.c1; have c3 := hSw.2.1.c2; go_simp
    first | done | with_reducible rfl
  refine wpAnyH_ready (rs := [5, 7]) (by as_aux_lemma => kernel_rfl) (by simp) ?_
  refine AllReadyH.cons rfl (fun K hK => ?_) (AllReadyH.cons rfl (fun K hK => ?_) AllReadyH.nil)
  · have own0 : OwnA w7.drew w7.heap.size (.slice none 0 0) [] := World.ownsRow_nil _ _ _ _
    have hat0 : AlsAt w7.drew (some ⟨b0, o0, none⟩) (S.take P) := hat.take P
    have hle0 : ([] : List Rw).length + (S.take P).length ≤ 1000000 := by rw [← HTK.out]; simp; omega
    have hsz0 : w7.heap.size ≤ w7.drew.heap.size := Nat.le_refl _
    refine step_append_als (w := w7.drew) rfl _ _ rfl w7.heap.size (.slice none 0 0) [] (by kernel_rfl) own0 (some ⟨b0, o0, none⟩) P c (S.take P) (by kernel_rfl) HTK.out hat0 hnone hle0 hsz0 ?_
    intro v8 w8 own8a g8
    have q8 : Below w7.heap.size w7 w8 := (Below.refl w7.heap.size w7).drew.grown g8 (Nat.le_refl _) (fun j e => by cases e)
    refine hK.out _ _ ⟨k1.below q8 (ltA k1), k2.below q8 (ltA k2), k3.below q8 (ltA k3)⟩ (fun hS => ?_)
    clear hK K
    refine wpAnyH_ready (rs := [7]) (by as_aux_lemma => kernel_rfl) (by simp) ?_
    refine AllReadyH.cons rfl (fun K hK => ?_) AllReadyH.nil
    go_simp
    have d9 := (Below.refl w8.heap.size w8).alloc (Nat.le_refl _) (.cells #[.slice a6 ps.length c6, .int .i64 s, .int .i64 e] 25)
    refine hK.out _ _ ⟨hS.1.below d9 (ltA hS.1), hS.2.1.below d9 (ltA hS.2.1), hS.2.2.below d9 (ltA hS.2.2)⟩ (fun hS => ?_)
    clear hK K
    have own9 := OwnA.onB own8a d9 (Nat.le_refl _)
    have ownx := (OwnP.onB own8 q8 (Nat.le_refl _)).onB d9 (Nat.le_refl _)
    have hx9 : AlsAt (w8.alloc (.cells #[.slice a6 ps.length c6, .int .i64 s, .int .i64 e] 25)) (some ⟨w8.heap.size, 0, none⟩) [(⟨ps, s, e, a6, c6⟩ : Rw)] := alsAt_one w8 (⟨ps, s, e, a6, c6⟩ : Rw) ownx.at
    refine wpAnyH_ready (rs := [8]) (by as_aux_lemma => kernel_rfl) (by simp) ?_
    refine AllReadyH.cons rfl (fun K hK => ?_) AllReadyH.nil
    refine step_append_als rfl _ _ rfl w7.heap.size v8 ([] ++ S.take P) (by kernel_rfl) own9 (some ⟨w8.heap.size, 0, none⟩) 1 1 [(⟨ps, s, e, a6, c6⟩ : Rw)] (by kernel_rfl) rfl hx9 (fun e => by cases e) (by have := HTK.out; simp at this ⊢; omega) (Nat.le_trans q8.size d9.size) ?_
    intro v10 w10 own10 g10
    have q10 : Below w7.heap.size w7 w10 := (q8.trans (d9.mono q8.size)).grown g10 (Nat.le_trans q8.size d9.size) (fun j e => (World.ownsRow.lt own9 j e).1)
    have ownx10 := ownx.past own9 g10
    refine hK.out _ _ ⟨k1.below q10 (ltA k1), k2.below q10 (ltA k2), k3.below q10 (ltA k3)⟩ (fun hS => ?_)
    clear hK K d9 own9 ownx hx9 g10 own8a g8 q8

    refine wpAnyH_takeA (i := 9) (some 11) (v := ?_) rfl rfl (by as_aux_lemma => kernel_rfl) (by as_aux_lemma => kernel_rfl) (by as_aux_lemma => kernel_rfl) (fun _ _ _ h => h) (Or.inl ⟨by kernel_rfl, ?_⟩) hS ?_
    rotate_left
    · intro w hSw; have c0 := hSw.1.c0; have c1 := hSw.2.1.c0; have c2 := hSw.2.1.c1; have c3 := hSw.2.1.c2; go_simp
      first | done | with_reducible rfl
    refine wpAnyH_done (by kernel_rfl) ?_ _
    rw [List.nil_append] at own10
    have b10 := b7.trans (q10.mono b7.size)
    obtain ⟨k1', k2', k3'⟩ := hS
    obtain ⟨a10, c10, rfl, -⟩ := own10.form
    clear own8 k1 k2 k3 hat HTK
    obtain ⟨A10, HA10⟩ : ∃ l, Hid (S.take P ++ [(⟨ps, s, e, a6, c6⟩ : Rw)] = l) := ⟨_, Lib.hid rfl⟩
    obtain ⟨D10, HD10⟩ : ∃ l, Hid (S.drop (P + 1) = l) := ⟨_, Lib.hid rfl⟩
    rw [HA10.out] at own10 ⊢
    generalize hN10 : A10.length = n10 at *
    have HN10 := Lib.hid hN10
    clear hN10
    go_simp
    have c0 := k1'.c0
    have hkc : (P + 1 : Int) ≤ (c : Int) := by omega
    have hkn : (P + 1 : Int) ≤ (n : Int) := by omega
    have hat10 : AlsAt w10 (some ⟨b0, o0, none⟩) S := HH.out.1.below b10 (Nat.le_refl _)
    have hKn : P + 1 ≤ n := by omega
    have HLN : Hid (n - (P + 1) = D10.length) := Lib.hid (by rw [← HD10.out, List.length_drop, ← HNL.out])
    have hle10 : A10.length + D10.length ≤ 1000000 := by rw [← HLN.out, ← HA10.out, List.length_append, List.length_take, ← HNL.out]; simp; omega
    have hsz10 : w7.heap.size ≤ w10.heap.size := q10.size
    have HFin := Lib.hid (fun v12 w12 (own12 : OwnA w12 w7.heap.size v12 (A10 ++ D10)) (g12 : w10.grownBy w12 (Value.slice a10 n10 c10).ownBlock) => rput_end HH.out b7 (w.heap.size + 1 + 1) HK3.out (by omega) q10 own10 ownx10 own12 g12 (by rw [HR.out.2.2 a6 c6, HP.out, ← HA10.out, ← HD10.out, List.append_assoc]; rfl) HE2.out)
    have HLS : Hid (A10 ++ D10 = putR ⟨ps, s, e, a6, c6⟩ S) := Lib.hid (by rw [HR.out.2.2 a6 c6, HP.out, ← HA10.out, ← HD10.out, List.append_assoc]; rfl)
    clear HN10 b10 k1' k2' k3' q10 ownx10 b7 HK3
    by_cases hce : c = P + 1
    · have hnil0 : AlsAt w10 (some ⟨b0, o0, none⟩) D10 := by
        have : D10 = [] := by rw [← HD10.out]; exact List.drop_eq_nil_of_le (by rw [← HNL.out]; omega)
        subst this
        exact fun h => by simp at h
      have HL0 : Hid (0 = D10.length) := Lib.hid (by rw [← HLN.out]; omega)
      have hn0 : n = P + 1 := by omega
      clear hkn hKn
      replace hce := hce.symm
      subst hce
      go_wp2_with (at_builtin; refine wpList_append_als _ rfl _ _ rfl w7.heap.size _ _ rfl own10 (some ⟨b0, o0, none⟩) _ _ D10 rfl (by have := HL0.out; omega) hnil0 (by simp) hle10 hsz10 ?_; refine Hid.out ?_)
      refine Lib.hid ?_
      intro v12 w12 own12 g12
      obtain ⟨a12, c12, rfl, k12, hR12, hB12⟩ := HFin.out v12 w12 own12 g12
      have hk3 := k12.c0; have hf3 := k12.f 0
      generalize hRR : A10 ++ D10 = RR at *
      have HRR := HLS
      clear hRR
      generalize hNN : RR.length = NN at *
      have HNN := Lib.hid hNN
      clear hNN
      have rr0 := (k12.set (a' := a12) (n' := NN) (c' := c12)).c0
      have HF := Lib.hid (And.intro hR12 hB12)
      clear hR12 hB12 own12 g12 k12 own10 HFin c0 hat10
      go_wp2
      exact bodyPost_ret (v := .tuple #[.agg #[.slice a12 NN c12], .int .i64 0]) (by simp [results, Tryd.results16, go_sem, rr0]) rfl ⟨a12, c12, RR, by rw [HNN.out, HR.out.1], HF.out.1, fun e => absurd HR.out.1 e, fun _ => ⟨a6, c6, by rw [HR.out.2.1]; exact HRR.out⟩, HF.out.2⟩
    · have hcl : P + 1 < c := by omega
      have hdr := AlsAt.dropA hat10 (P + 1)
      rw [HD10.out] at hdr
      go_wp2_with (at_builtin; refine wpList_append_als _ rfl _ _ rfl w7.heap.size _ _ rfl own10 (some ((⟨b0, o0, none⟩ : Addr).add ((P + 1) * 3))) _ _ D10 rfl HLN.out hdr (fun e => by cases e) hle10 hsz10 ?_; refine Hid.out ?_)
      refine Lib.hid ?_
      intro v12 w12 own12 g12
      obtain ⟨a12, c12, rfl, k12, hR12, hB12⟩ := HFin.out v12 w12 own12 g12
      have hk3 := k12.c0; have hf3 := k12.f 0
      generalize hRR : A10 ++ D10 = RR at *
      have HRR := HLS
      clear hRR
      generalize hNN : RR.length = NN at *
      have HNN := Lib.hid hNN
      clear hNN
      have rr0 := (k12.set (a' := a12) (n' := NN) (c' := c12)).c0
      have HF := Lib.hid (And.intro hR12 hB12)
      clear hR12 hB12 own12 g12 k12 own10 HFin c0 hat10
      go_wp2
      exact bodyPost_ret (v := .tuple #[.agg #[.slice a12 NN c12], .int .i64 0]) (by simp [results, Tryd.results16, go_sem, rr0]) rfl ⟨a12, c12, RR, by rw [HNN.out, HR.out.1], HF.out.1, fun e => absurd HR.out.1 e, fun _ => ⟨a6, c6, by rw [HR.out.2.1]; exact HRR.out⟩, HF.out.2⟩
  · go_simp
    have d8 := (Below.refl w7.heap.size w7).alloc (Nat.le_refl _) (.cells #[.slice a6 ps.length c6, .int .i64 s, .int .i64 e] 25)
    have d8' : Below w7.heap.size w7 (w7.alloc (.cells #[.slice a6 ps.length c6, .int .i64 s, .int .i64 e] 25)).drew := d8.drew
    refine hK.out _ _ ⟨k1.below d8' (ltA k1), k2.below d8' (ltA k2), k3.below d8' (ltA k3)⟩ (fun hS => ?_)
    clear hK K
    have own0 : OwnA (w7.alloc (.cells #[.slice a6 ps.length c6, .int .i64 s, .int .i64 e] 25)).drew w7.heap.size (.slice none 0 0) [] := World.ownsRow_nil _ _ _ _
    have hat0 : AlsAt (w7.alloc (.cells #[.slice a6 ps.length c6, .int .i64 s, .int .i64 e] 25)).drew (some ⟨b0, o0, none⟩) (S.take P) := (hat.below d8 (Nat.le_refl _)).take P
    have hle0 : ([] : List Rw).length + (S.take P).length ≤ 1000000 := by rw [← HTK.out]; simp; omega
    have hsz0 : w7.heap.size ≤ (w7.alloc (.cells #[.slice a6 ps.length c6, .int .i64 s, .int .i64 e] 25)).drew.heap.size := d8.size
    refine wpAnyH_ready (rs := [5]) (by as_aux_lemma => kernel_rfl) (by simp) ?_
    refine AllReadyH.cons rfl (fun K hK => ?_) AllReadyH.nil
    refine step_append_als (w := (w7.alloc (.cells #[.slice a6 ps.length c6, .int .i64 s, .int .i64 e] 25)).drew) rfl _ _ rfl w7.heap.size (.slice none 0 0) [] (by kernel_rfl) own0 (some ⟨b0, o0, none⟩) P c (S.take P) (by kernel_rfl) HTK.out hat0 hnone hle0 hsz0 ?_
    intro v8 w8 own8a g8
    have q8' : Below (w7.alloc (.cells #[.slice a6 ps.length c6, .int .i64 s, .int .i64 e] 25)).heap.size (w7.alloc (.cells #[.slice a6 ps.length c6, .int .i64 s, .int .i64 e] 25)) w8 := (Below.refl _ _).drew.grown g8 (Nat.le_refl _) (fun j e => by cases e)
    have q8 : Below w7.heap.size w7 w8 := d8.trans (q8'.mono d8.size)
    refine hK.out _ _ ⟨k1.below q8 (ltA k1), k2.below q8 (ltA k2), k3.below q8 (ltA k3)⟩ (fun hS => ?_)
    clear hK K
    have ownx := OwnP.onB own8 q8 (Nat.le_refl _)
    have hx9 : AlsAt w8 (some ⟨w7.heap.size, 0, none⟩) [(⟨ps, s, e, a6, c6⟩ : Rw)] := (alsAt_one w7 (⟨ps, s, e, a6, c6⟩ : Rw) (OwnP.at (OwnP.onB own8 d8 (Nat.le_refl _)))).below q8' (Nat.le_refl _)
    refine wpAnyH_ready (rs := [8]) (by as_aux_lemma => kernel_rfl) (by simp) ?_
    refine AllReadyH.cons rfl (fun K hK => ?_) AllReadyH.nil
    refine step_append_als rfl _ _ rfl w7.heap.size v8 ([] ++ S.take P) (by kernel_rfl) own8a (some ⟨w7.heap.size, 0, none⟩) 1 1 [(⟨ps, s, e, a6, c6⟩ : Rw)] (by kernel_rfl) rfl hx9 (fun e => by cases e) (by have := HTK.out; simp at this ⊢; omega) q8.size ?_
    intro v10 w10 own10 g10
    have q10 : Below w7.heap.size w7 w10 := q8.grown g10 q8.size (fun j e => (World.ownsRow.lt own8a j e).1)
    have ownx10 := ownx.past own8a g10
    refine hK.out _ _ ⟨k1.below q10 (ltA k1), k2.below q10 (ltA k2), k3.below q10 (ltA k3)⟩ (fun hS => ?_)
    clear hK K d8 d8' q8' ownx hx9 g10 own8a g8 q8 own0 hat0 hle0 hsz0

    refine wpAnyH_takeA (i := 9) (some 11) (v := ?_) rfl rfl (by as_aux_lemma => kernel_rfl) (by as_aux_lemma => kernel_rfl) (by as_aux_lemma => kernel_rfl) (fun _ _ _ h => h) (Or.inl ⟨by kernel_rfl, ?_⟩) hS ?_
    rotate_left
    · intro w hSw; have c0 := hSw.1.c0; have c1 := hSw.2.1.c0; have c2 := hSw.2.1.c1; have c3 := hSw.2.1.c2; go_simp
      first | done | with_reducible rfl
    refine wpAnyH_done (by kernel_rfl) ?_ _
    rw [List.nil_append] at own10
    have b10 := b7.trans (q10.mono b7.size)
    obtain ⟨k1', k2', k3'⟩ := hS
    obtain ⟨a10, c10, rfl, -⟩ := own10.form
    clear own8 k1 k2 k3 hat HTK
    obtain ⟨A10, HA10⟩ : ∃ l, Hid (S.take P ++ [(⟨ps, s, e, a6, c6⟩ : Rw)] = l) := ⟨_, Lib.hid rfl⟩
    obtain ⟨D10, HD10⟩ : ∃ l, Hid (S.drop (P + 1) = l) := ⟨_, Lib.hid rfl⟩
    rw [HA10.out] at own10 ⊢
    generalize hN10 : A10.length = n10 at *
    have HN10 := Lib.hid hN10
    clear hN10
    go_simp
    have c0 := k1'.c0
    have hkc : (P + 1 : Int) ≤ (c : Int) := by omega
    have hkn : (P + 1 : Int) ≤ (n : Int) := by omega
    have hat10 : AlsAt w10 (some ⟨b0, o0, none⟩) S := HH.out.1.below b10 (Nat.le_refl _)
    have hKn : P + 1 ≤ n := by omega
    have HLN : Hid (n - (P + 1) = D10.length) := Lib.hid (by rw [← HD10.out, List.length_drop, ← HNL.out])
    have hle10 : A10.length + D10.length ≤ 1000000 := by rw [← HLN.out, ← HA10.out, List.length_append, List.length_take, ← HNL.out]; simp; omega
    have hsz10 : w7.heap.size ≤ w10.heap.size := q10.size
    have HFin := Lib.hid (fun v12 w12 (own12 : OwnA w12 w7.heap.size v12 (A10 ++ D10)) (g12 : w10.grownBy w12 (Value.slice a10 n10 c10).ownBlock) => rput_end HH.out b7 (w.heap.size + 1 + 1) HK3.out (by omega) q10 own10 ownx10 own12 g12 (by rw [HR.out.2.2 a6 c6, HP.out, ← HA10.out, ← HD10.out, List.append_assoc]; rfl) HE2.out)
    have HLS : Hid (A10 ++ D10 = putR ⟨ps, s, e, a6, c6⟩ S) := Lib.hid (by rw [HR.out.2.2 a6 c6, HP.out, ← HA10.out, ← HD10.out, List.append_assoc]; rfl)
    clear HN10 b10 k1' k2' k3' q10 ownx10 b7 HK3
    by_cases hce : c = P + 1
    · have hnil0 : AlsAt w10 (some ⟨b0, o0, none⟩) D10 := by
        have : D10 = [] := by rw [← HD10.out]; exact List.drop_eq_nil_of_le (by rw [← HNL.out]; omega)
        subst this
        exact fun h => by simp at h
      have HL0 : Hid (0 = D10.length) := Lib.hid (by rw [← HLN.out]; omega)
      have hn0 : n = P + 1 := by omega
      clear hkn hKn
      replace hce := hce.symm
      subst hce
      go_wp2_with (at_builtin; refine wpList_append_als _ rfl _ _ rfl w7.heap.size _ _ rfl own10 (some ⟨b0, o0, none⟩) _ _ D10 rfl (by have := HL0.out; omega) hnil0 (by simp) hle10 hsz10 ?_; refine Hid.out ?_)
      refine Lib.hid ?_
      intro v12 w12 own12 g12
      obtain ⟨a12, c12, rfl, k12, hR12, hB12⟩ := HFin.out v12 w12 own12 g12
      have hk3 := k12.c0; have hf3 := k12.f 0
      generalize hRR : A10 ++ D10 = RR at *
      have HRR := HLS
      clear hRR
      generalize hNN : RR.length = NN at *
      have HNN := Lib.hid hNN
      clear hNN
      have rr0 := (k12.set (a' := a12) (n' := NN) (c' := c12)).c0
      have HF := Lib.hid (And.intro hR12 hB12)
      clear hR12 hB12 own12 g12 k12 own10 HFin c0 hat10
      go_wp2
      exact bodyPost_ret (v := .tuple #[.agg #[.slice a12 NN c12], .int .i64 0]) (by simp [results, Tryd.results16, go_sem, rr0]) rfl ⟨a12, c12, RR, by rw [HNN.out, HR.out.1], HF.out.1, fun e => absurd HR.out.1 e, fun _ => ⟨a6, c6, by rw [HR.out.2.1]; exact HRR.out⟩, HF.out.2⟩
    · have hcl : P + 1 < c := by omega
      have hdr := AlsAt.dropA hat10 (P + 1)
      rw [HD10.out] at hdr
      go_wp2_with (at_builtin; refine wpList_append_als _ rfl _ _ rfl w7.heap.size _ _ rfl own10 (some ((⟨b0, o0, none⟩ : Addr).add ((P + 1) * 3))) _ _ D10 rfl HLN.out hdr (fun e => by cases e) hle10 hsz10 ?_; refine Hid.out ?_)
      refine Lib.hid ?_
      intro v12 w12 own12 g12
      obtain ⟨a12, c12, rfl, k12, hR12, hB12⟩ := HFin.out v12 w12 own12 g12
      have hk3 := k12.c0; have hf3 := k12.f 0
      generalize hRR : A10 ++ D10 = RR at *
      have HRR := HLS
      clear hRR
      generalize hNN : RR.length = NN at *
      have HNN := Lib.hid hNN
      clear hNN
      have rr0 := (k12.set (a' := a12) (n' := NN) (c' := c12)).c0
      have HF := Lib.hid (And.intro hR12 hB12)
      clear hR12 hB12 own12 g12 k12 own10 HFin c0 hat10
      go_wp2
      exact bodyPost_ret (v := .tuple #[.agg #[.slice a12 NN c12], .int .i64 0]) (by simp [results, Tryd.results16, go_sem, rr0]) rfl ⟨a12, c12, RR, by rw [HNN.out, HR.out.1], HF.out.1, fun e => absurd HR.out.1 e, fun _ => ⟨a6, c6, by rw [HR.out.2.1]; exact HRR.out⟩, HF.out.2⟩

set_option maxRecDepth 100000 in
set_option maxHeartbeats 8000000 in
theorem arPut_apart2 (b0 o0 : Nat) (c : Nat) (S : List Rw) (a1 : Option Addr) (c1 : Nat) (ps : List Pr) (s e : Int) (w : World) (h : RsAt w (some ⟨b0, o0, none⟩) c S) (hp : PairsAt w a1 ps) (hsz : ∀ p ∈ ps, p.1.size ≤ 9223372036854775807) (n1 : Nat) (hn1 : n1 = ps.length) (hn : S.length ≤ 64) (hc1 : a1 = none → c1 = 0) (hE : alE ps s e = 0) (r0 : Rw) (hyes : isAt S (keyL ps) = true) (hr0 : S[placeN S (keyL ps)]? = some r0) (hm1 : s ≤ r0.en) (hm2 : ¬ r0.st ≤ e) : Calls Tryd.prog 16 #[.agg #[.slice (some ⟨b0, o0, none⟩) S.length c], .agg #[.slice a1 n1 c1, .int .i64 s, .int .i64 e]] w (RPutPost w S ps s e) := by
  have hfi := find_place (keyL ps) h.2.2.2.2
  rw [hyes, if_pos rfl, hr0] at hfi
  have hR : putE S ps s e = 0 := by unfold putE; rw [if_neg (by simp [hE]), if_neg (by rw [hfi]; rintro ⟨h, -⟩; cases h)]
  have hmt : meetP r0.st r0.en s e = false := by unfold meetP; simp; omega
  have hA : startA S ps s e = s := by unfold startA; rw [hfi]; simp only [hmt]; rfl
  have HE2 : Hid (alE ps s e = 0) := Lib.hid (by rw [← hA]; exact start_range (w := w) (fun r hr => ⟨h.pairs r hr, h.2.2.2.1 r hr⟩) hE)
  have hsp : ∀ ad cp, putR ⟨ps, s, e, ad, cp⟩ S = S.take (placeN S (keyL ps)) ++ ⟨ps, s, e, ad, cp⟩ :: S.drop (placeN S (keyL ps) + 1) := fun ad cp => by
    have := put_split (x := ⟨ps, s, e, ad, cp⟩) h.2.2.2.2
    have hk : (⟨ps, s, e, ad, cp⟩ : Rw).key = keyL ps := rfl
    rw [hk, hyes] at this
    exact this
  obtain ⟨hck, hln, -, -, -⟩ := alE_zero hE
  obtain ⟨n, hnl⟩ : ∃ n, n = S.length := ⟨_, rfl⟩
  rw [← hnl]
  have HNL := Lib.hid hnl
  have d1 := (Below.refl w.heap.size w).alloc (Nat.le_refl _) (.cells #[.slice (some ⟨b0, o0, none⟩) n c] 32)
  have d2 := d1.alloc (by simp) (.cells #[.slice a1 n1 c1, .int .i64 s, .int .i64 e] 25)
  have d3 := d2.alloc (by simp; omega) (.cells #[.slice none 0 0] 32)
  have s1 : (w.alloc (.cells #[.slice (some ⟨b0, o0, none⟩) n c] 32)).heap.size = w.heap.size + 1 := by simp
  have s2 : ((w.alloc (.cells #[.slice (some ⟨b0, o0, none⟩) n c] 32)).alloc (.cells #[.slice a1 n1 c1, .int .i64 s, .int .i64 e] 25)).heap.size = w.heap.size + 1 + 1 := by simp
  have s3 : (((w.alloc (.cells #[.slice (some ⟨b0, o0, none⟩) n c] 32)).alloc (.cells #[.slice a1 n1 c1, .int .i64 s, .int .i64 e] 25)).alloc (.cells #[.slice none 0 0] 32)).heap.size = w.heap.size + 1 + 1 + 1 := by simp
  have k1 := RsBlk.new w (some ⟨b0, o0, none⟩) n c
  have k2 := AlBlk.new (w.alloc (.cells #[.slice (some ⟨b0, o0, none⟩) n c] 32)) a1 n1 c1 s e
  have k3 := RsBlk.new ((w.alloc (.cells #[.slice (some ⟨b0, o0, none⟩) n c] 32)).alloc (.cells #[.slice a1 n1 c1, .int .i64 s, .int .i64 e] 25)) none 0 0
  rw [s1] at k2
  rw [s2] at k3
  replace k1 := (k1.below ((Below.refl _ _).alloc (Nat.le_refl _) (.cells #[.slice a1 n1 c1, .int .i64 s, .int .i64 e] 25)) (by simp)).below ((Below.refl _ _).alloc (Nat.le_refl _) (.cells #[.slice none 0 0] 32)) (by simp; omega)
  replace k2 := k2.below ((Below.refl _ _).alloc (Nat.le_refl _) (.cells #[.slice none 0 0] 32)) (by simp)
  have HC := Lib.hid (arCheck_any a1 c1 ps s e (((w.alloc (.cells #[.slice (some ⟨b0, o0, none⟩) n c] 32)).alloc (.cells #[.slice a1 n1 c1, .int .i64 s, .int .i64 e] 25)).alloc (.cells #[.slice none 0 0] 32)) (hp.below d3 (Nat.le_refl _)) hsz n1 hn1)
  have HW := Lib.hid (And.intro d3 (And.intro s3 (And.intro k1 (And.intro k2 k3))))
  have HH := Lib.hid h
  have HPA := Lib.hid hp
  have HN1 := Lib.hid hn1
  clear d1 d2 d3 s1 s2 s3 k1 k2 k3 hnl hn1 hsz
  rw [hE] at HC
  have HK0 := Lib.hid (fun u (hb : Below w.heap.size w u) => arKey_ok a1 c1 ps u (hp.below hb (Nat.le_refl _)) hck n1 HN1.out)
  have HPl := Lib.hid (fun u (hb : Below w.heap.size w u) => arPlace_any (some ⟨b0, o0, none⟩) c S (keyL ps) u (h.1.below hb (Nat.le_refl _)) h.2.2.2.1 (by omega))
  rw [← HNL.out] at HPl
  have hc := h.2.1
  rw [← HNL.out] at hc hn
  have hps8 := acheck_len hck
  rw [hyes] at HPl
  have HR := Lib.hid (And.intro hR (And.intro hA hsp))
  have HC0 := Lib.hid hc1
  have HR0 := Lib.hid hr0
  unfold RPutPost
  obtain ⟨P, HP⟩ : ∃ P, Hid (placeN S (keyL ps) = P) := ⟨_, Lib.hid rfl⟩
  have hPn : P ≤ n := by rw [← HP.out, HNL.out]; exact place_le _ _
  rw [HP.out] at HPl
  obtain ⟨kk, HKK⟩ : ∃ k, Hid (keyL ps = k) := ⟨_, Lib.hid rfl⟩
  rw [HKK.out] at HK0 HPl
  have HE := Lib.hid hE
  clear h hp hE hck hln hfi hR hA hsp hc1 hyes hr0
  go_enter Tryd.func16, Tryd.ntmps16
  go_wp2_with (go_at_call 27; refine HC.out.mono ?_; rintro r w2 ⟨rfl, q2⟩; refine Hid.out ?_)
  refine Lib.hid ?_
  obtain ⟨d3, s3, k1, k2, k3⟩ := HW.out
  rw [s3] at q2
  replace k1 := k1.below q2 (by omega)
  replace k2 := k2.below q2 (by omega)
  replace k3 := k3.below q2 (by omega)
  have b2 := d3.trans (q2.mono (by omega))
  have b2' : Below w.heap.size w w2.drew := b2.drew
  have HK := Lib.hid (HK0.out w2.drew b2')
  clear d3 s3 q2 HC HW HK0
  go_wp2_with fail
  refine wp_region_any (by kernel_rfl) ?_
  change wpAny _ _ _ _ _ _ _ (World.drew _)
  have hS : (fun w' : World => RsBlk w' w.heap.size (some ⟨b0, o0, none⟩) n c ∧ AlBlk w' (w.heap.size + 1) a1 n1 c1 s e ∧ RsBlk w' (w.heap.size + 1 + 1) none 0 0) w2.drew := ⟨k1, k2, k3⟩
  refine wpAny_of_held (S := fun w' => RsBlk w' w.heap.size (some ⟨b0, o0, none⟩) n c ∧ AlBlk w' (w.heap.size + 1) a1 n1 c1 s e ∧ RsBlk w' (w.heap.size + 1 + 1) none 0 0) _ _ _ _ ?_
  refine wpAnyH_takeA (i := 0) (some 19) (v := ?_) rfl rfl (by as_aux_lemma => kernel_rfl) (by as_aux_lemma => kernel_rfl) (by as_aux_lemma => kernel_rfl) (fun _ _ _ h => h) (Or.inl ⟨by kernel_rfl, ?_⟩) hS ?_
  rotate_left
  · intro w hSw; have c0 := hSw.1.c0; have c1 := hSw.2.1.c0; have c2 := hSw.2.1.c1; have c3 := hSw.2.1.c2; go_simp
    first | done | with_reducible rfl
  refine wpAnyH_takeA (i := 1) (some 20) (v := ?_) rfl rfl (by as_aux_lemma => kernel_rfl) (by as_aux_lemma => kernel_rfl) (by as_aux_lemma => kernel_rfl) (fun _ _ _ h => h) (Or.inl ⟨by kernel_rfl, ?_⟩) hS ?_
  rotate_left
  · intro w hSw; have c0 := hSw.1.c0; have c1 := hSw.2.1.c0; have c2 := hSw.2.1.c1; have c3 := hSw.2.1.c2; go_simp
    first | done | with_reducible rfl
  refine wpAnyH_takeA (i := 2) (some 21) (v := ?_) rfl rfl (by as_aux_lemma => kernel_rfl) (by as_aux_lemma => kernel_rfl) (by as_aux_lemma => kernel_rfl) (fun _ _ _ h => h) (Or.inl ⟨by kernel_rfl, ?_⟩) hS ?_
  rotate_left
  · intro w hSw; have c0 := hSw.1.c0; have c1 := hSw.2.1.c0; have c2 := hSw.2.1.c1; have c3 := hSw.2.1.c2; go_simp
    first | done | with_reducible rfl
  refine wpAnyH_ready (rs := [3]) (by as_aux_lemma => kernel_rfl) (by simp) ?_
  refine AllReadyH.cons rfl (fun K hK => ?_) AllReadyH.nil
  go_simp
  go_wp2_with (go_at_call 29; refine HK.out.mono ?_; rintro r w3 ⟨rfl, q3⟩)
  refine hK.out _ _ ?_ (fun hS => ?_)
  · exact ⟨hS.1.below q3 (ltA hS.1), hS.2.1.below q3 (ltA hS.2.1), hS.2.2.below q3 (ltA hS.2.2)⟩
  clear hK K
  have HPl2 := Lib.hid (HPl.out w3 (b2'.trans (q3.mono b2'.size)))
  refine wpAnyH_ready (rs := [4]) (by as_aux_lemma => kernel_rfl) (by simp) ?_
  refine AllReadyH.cons rfl (fun K hK => ?_) AllReadyH.nil
  go_simp
  go_wp2_with (go_at_call 28; refine HPl2.out.mono ?_; rintro r w4 ⟨rfl, q4⟩)
  refine hK.out _ _ ?_ (fun hS => ?_)
  · exact ⟨hS.1.below q4 (ltA hS.1), hS.2.1.below q4 (ltA hS.2.1), hS.2.2.below q4 (ltA hS.2.2)⟩
  clear hK K
  refine wpAnyH_takeA (i := 5) (some 18) (v := ?_) rfl rfl (by as_aux_lemma => kernel_rfl) (by as_aux_lemma => kernel_rfl) (by as_aux_lemma => kernel_rfl) (fun _ _ _ h => h) (Or.inl ⟨by kernel_rfl, ?_⟩) hS ?_
  rotate_left
  · intro w hSw; have c0 := hSw.1.c0; have c1 := hSw.2.1.c0; have c2 := hSw.2.1.c1; have c3 := hSw.2.1.c2; go_simp
    first | done | with_reducible rfl
  refine wpAnyH_takeA (i := 6) (some 24) (v := ?_) rfl rfl (by as_aux_lemma => kernel_rfl) (by as_aux_lemma => kernel_rfl) (by as_aux_lemma => kernel_rfl) (fun _ _ _ h => h) (Or.inl ⟨by kernel_rfl, ?_⟩) hS ?_
  rotate_left
  · intro w hSw; have c0 := hSw.1.c0; have c1 := hSw.2.1.c0; have c2 := hSw.2.1.c1; have c3 := hSw.2.1.c2; go_simp
    first | done | with_reducible rfl
  refine wpAnyH_takeA (i := 7) (some 25) (v := ?_) rfl rfl (by as_aux_lemma => kernel_rfl) (by as_aux_lemma => kernel_rfl) (by as_aux_lemma => kernel_rfl) (fun _ _ _ h => h) (Or.inl ⟨by kernel_rfl, ?_⟩) hS ?_
  rotate_left
  · intro w hSw; have c0 := hSw.1.c0; have c1 := hSw.2.1.c0; have c2 := hSw.2.1.c1; have c3 := hSw.2.1.c2; go_simp
    first | done | with_reducible rfl
  refine wpAnyH_takeA (i := 8) (some 7) (v := ?_) rfl rfl (by as_aux_lemma => kernel_rfl) (by as_aux_lemma => kernel_rfl) (by as_aux_lemma => kernel_rfl) (fun _ _ _ h => h) (Or.inl ⟨by kernel_rfl, ?_⟩) hS ?_
  rotate_left
  · intro w hSw; have c0 := hSw.1.c0; have c1 := hSw.2.1.c0; have c2 := hSw.2.1.c1; have c3 := hSw.2.1.c2; go_simp
    first | done | with_reducible rfl
  refine wpAnyH_takeA (i := 9) (some 8) (v := ?_) rfl rfl (by as_aux_lemma => kernel_rfl) (by as_aux_lemma => kernel_rfl) (by as_aux_lemma => kernel_rfl) (fun _ _ _ h => h) (Or.inl ⟨by kernel_rfl, ?_⟩) hS ?_
  rotate_left
  · intro w hSw; have c0 := hSw.1.c0; have c1 := hSw.2.1.c0; have c2 := hSw.2.1.c1; have c3 := hSw.2.1.c2; go_simp
    first | done | with_reducible rfl
  refine wpAnyH_done (by kernel_rfl) ?_ _
  have b4 : Below w.heap.size w w4 := (b2'.trans (q3.mono b2'.size)).trans (q4.mono (Nat.le_trans b2'.size q3.size))
  obtain ⟨k1, k2, k3⟩ := hS
  clear q3 q4 HK HPl HPl2 b2'
  go_simp
  have h10 := k1.c0
  have c0 := k2.c0; have f0 := k2.f 0
  have z5 := newA w4 (.cells #[] 52)
  have d5 := (Below.refl w4.heap.size w4).alloc (Nat.le_refl _) (.cells #[] 52)
  have own5 : OwnP (w4.alloc (.cells #[] 52)) w4.heap.size (.slice (some ⟨w4.heap.size, 0, none⟩) 0 0) [] := ownP_made w4 _ (Nat.le_refl _)
  have hpa5 := (HPA.out.below b4 (Nat.le_refl _)).below d5 (Nat.le_refl _)
  have k10 := k1.c0
  have HB4 := Lib.hid (And.intro b4 (And.intro d5 (And.intro k1 (And.intro k2 k3))))
  have hnone : a1 = none → c1 = 0 := HC0.out
  have hb5 : ([] : List Pr).length + ps.length ≤ 4398046511103 := by simp; omega
  have hsz5 : w4.heap.size ≤ (w4.alloc (.cells #[] 52)).heap.size := by simp
  have c05 : (w4.alloc (.cells #[] 52)).cell? ⟨w.heap.size + 1, 0, none⟩ = some (.slice a1 n1 c1) := (k2.below d5 (ltA k2)).c0
  clear b4 d5 k1 k2 k3 z5
  go_wp2_with (at_builtin; refine wpList_append_pairs _ rfl _ _ rfl w4.heap.size _ _ rfl own5 a1 n1 c1 ps rfl HN1.out hpa5 hnone hb5 hsz5 ?_; refine Hid.out ?_)
  refine Lib.hid ?_
  intro v6 w6 own6 g6
  obtain ⟨b4, d5, k1, k2, k3⟩ := HB4.out
  obtain ⟨a6, c6, rfl, -, -, -⟩ := OwnP.form own6
  have b6 : Below w4.heap.size w4 w6 := d5.grown g6 (by simp) (fun j e => by simp [Value.ownBlock] at e; omega)
  replace k1 := k1.below b6 (ltA k1)
  replace k2 := k2.below b6 (ltA k2)
  replace k3 := k3.below b6 (ltA k3)
  replace own6 : OwnP w6 w4.heap.size (.slice a6 ps.length c6) ps := own6
  have hw4 : w.heap.size + 1 + 1 < w4.heap.size := ltA (HB4.out.2.2.2.2)
  have c0 := k2.c0; have f0 := k2.f 0
  replace k1 : RsBlk (w6.setCell ⟨w.heap.size + 1, 0, none⟩ (.slice a6 ps.length c6)) w.heap.size (some ⟨b0, o0, none⟩) n c := (Below.heap_setCell w6 _ _ _ (by simp)).trans k1
  replace k2 : AlBlk (w6.setCell ⟨w.heap.size + 1, 0, none⟩ (.slice a6 ps.length c6)) (w.heap.size + 1) a6 ps.length c6 s e := k2.set0
  replace k3 : RsBlk (w6.setCell ⟨w.heap.size + 1, 0, none⟩ (.slice a6 ps.length c6)) (w.heap.size + 1 + 1) none 0 0 := (Below.heap_setCell w6 _ _ _ (by simp)).trans k3
  have own7 : OwnP (w6.setCell ⟨w.heap.size + 1, 0, none⟩ (.slice a6 ps.length c6)) w4.heap.size (.slice a6 ps.length c6) ps := ownsRow_setCell_below own6 (by show w.heap.size + 1 < _; omega) _
  have b7 : Below w.heap.size w (w6.setCell ⟨w.heap.size + 1, 0, none⟩ (.slice a6 ps.length c6)) := (b4.trans (b6.mono b4.size)).setCell (p := ⟨w.heap.size + 1, 0, none⟩) (by show w.heap.size ≤ w.heap.size + 1; omega) _
  have own8 : OwnP (w6.setCell ⟨w.heap.size + 1, 0, none⟩ (.slice a6 ps.length c6)) w.heap.size (.slice a6 ps.length c6) ps := baseA own7 b4.size
  have hw6 : w.heap.size + 1 + 1 < (w6.setCell ⟨w.heap.size + 1, 0, none⟩ (.slice a6 ps.length c6)).heap.size := ltA k3
  clear own5 own6 own7 g6 b4 d5 b6 hpa5 HB4 hnone hb5 hsz5 c05 k10 hw4
  have HI := Lib.hid (And.intro k1 (And.intro k2 (And.intro k3 (And.intro own8 (And.intro b7 hw6)))))
  have hr0' := HR0.out
  rw [HP.out] at hr0'
  obtain ⟨hPS, hPr⟩ := List.getElem?_eq_some_iff.1 hr0'
  have hPl : P < n := by rw [HNL.out]; exact hPS
  have hPi : (P : Int) < (n : Int) := by omega
  obtain ⟨b', o', hbo, hC0, -⟩ := (HH.out.1.below b7 (Nat.le_refl _)).c P hPS
  rw [hPr] at hC0
  obtain ⟨rfl, rfl⟩ : b0 = b' ∧ o0 = o' := by simpa using hbo
  have e0 := hC0.2.1; have e1 := hC0.2.2.1; have e2 := hC0.2.2.2
  have c0' := k1.c0
  have d8 := (Below.refl _ (w6.setCell ⟨w.heap.size + 1, 0, none⟩ (.slice a6 ps.length c6))).alloc (Nat.le_refl _) (.cells #[.slice r0.ad r0.ps.length r0.cp, .int .i64 r0.st, .int .i64 r0.en] 25)
  have o8 := AlBlk.new (w6.setCell ⟨w.heap.size + 1, 0, none⟩ (.slice a6 ps.length c6)) r0.ad r0.ps.length r0.cp r0.st r0.en
  replace k1 := k1.below d8 (ltA k1)
  replace k2 := k2.below d8 (ltA k2)
  replace k3 := k3.below d8 (ltA k3)
  have own9 := OwnP.onB own8 d8 (Nat.le_refl _)
  have b8 := b7.trans (d8.mono b7.size)
  obtain ⟨w8, hw8⟩ : ∃ x, x = (w6.setCell ⟨w.heap.size + 1, 0, none⟩ (.slice a6 ps.length c6)).alloc (.cells #[.slice r0.ad r0.ps.length r0.cp, .int .i64 r0.st, .int .i64 r0.en] 25) := ⟨_, rfl⟩
  rw [← hw8] at d8 o8 k1 k2 k3 own9 b8
  have p1 := k2.c1; have p2 := k2.c2; have pf := k2.f 1
  have hw68 : w.heap.size + 1 + 1 < w8.heap.size := ltA k3
  clear HI
  have HI := Lib.hid (And.intro k1 (And.intro k2 (And.intro k3 (And.intro own9 (And.intro b8 hw68)))))
  clear k1 k2 k3 own8 own9 b7 b8 hw6 hw68 hC0 hPS hPr hr0' d8 hbo
  subst hw8
  have q0 := o8.c0; have q1 := o8.c1; have q2 := o8.c2
  clear o8
  go_wp2_with fail
  obtain ⟨k1, k2, k3, own8, b7, hw7⟩ := HI.out
  clear HI
  generalize ((w6.setCell ⟨w.heap.size + 1, 0, none⟩ (.slice a6 ps.length c6)).alloc (.cells #[.slice r0.ad r0.ps.length r0.cp, .int .i64 r0.st, .int .i64 r0.en] 25)) = w7 at *
  have hat : AlsAt w7 (some ⟨b0, o0, none⟩) S := HH.out.1.below b7 (Nat.le_refl _)
  have hnone : ((some ⟨b0, o0, none⟩) : Option Addr) = none → c = 0 := HH.out.2.2.1
  have hP1 : (P : Int) ≤ (c : Int) := by omega
  have hP2 : P ≤ c := by omega
  have HTK : Hid (P = (S.take P).length) := Lib.hid (by rw [List.length_take, ← HNL.out]; omega)
  have hwsz : w.heap.size ≤ w7.heap.size := b7.size
  have HK3 := Lib.hid k3
  refine wp_region_any (by kernel_rfl) ?_
  change wpAny _ _ _ _ _ _ _ (World.drew _)
  have hS : (fun w' : World => RsBlk w' w.heap.size (some ⟨b0, o0, none⟩) n c ∧ AlBlk w' (w.heap.size + 1) a6 ps.length c6 s e ∧ RsBlk w' (w.heap.size + 1 + 1) none 0 0) w7.drew := ⟨k1, k2, k3⟩
  refine wpAny_of_held (S := fun w' => RsBlk w' w.heap.size (some ⟨b0, o0, none⟩) n c ∧ AlBlk w' (w.heap.size + 1) a6 ps.length c6 s e ∧ RsBlk w' (w.heap.size + 1 + 1) none 0 0) _ _ _ _ ?_
  refine wpAnyH_takeA (i := 0) (some 67) (v := ?_) rfl rfl (by as_aux_lemma => kernel_rfl) (by as_aux_lemma => kernel_rfl) (by as_aux_lemma => kernel_rfl) (fun _ _ _ h => h) (Or.inl ⟨by kernel_rfl, ?_⟩) hS ?_
  rotate_left
  · intro w hSw; have c0 := hSw.1.c0; have c1 := hSw.2.1.c0; have c2 := hSw.2.1.c1; have c3 := hSw.2.1.c2; go_simp
    first | done | with_reducible rfl
  refine wpAnyH_takeA (i := 1) (some 68) (v := ?_) rfl rfl (by as_aux_lemma => kernel_rfl) (by as_aux_lemma => kernel_rfl) (by as_aux_lemma => kernel_rfl) (fun _ _ _ h => h) (Or.inl ⟨by kernel_rfl, ?_⟩) hS ?_
  rotate_left
  · intro w hSw; have c0 := hSw.1.c0; have c1 := hSw.2.1.c0; have c2 := hSw.2.1.c1; have c3 := hSw.2.1.c2; go_simp
    first | done | with_reducible rfl
  refine wpAnyH_takeA (i := 2) (some 69) (v := ?_) rfl rfl (by as_aux_lemma => kernel_rfl) (by as_aux_lemma => kernel_rfl) (by as_aux_lemma => kernel_rfl) (fun _ _ _ h => h) (Or.inl ⟨by kernel_rfl, ?_⟩) hS ?_
  rotate_left
  · intro w hSw; have c0 := hSw.1.c0; have c1 := hSw.2.1.c0; have c2 := hSw.2.1.c1; have c3 := hSw.2.1.c2; go_simp
    first | done | with_reducible rfl
  refine wpAnyH_takeA (i := 3) (some 70) (v := ?_) rfl rfl (by as_aux_lemma => kernel_rfl) (by as_aux_lemma => kernel_rfl) (by as_aux_lemma => kernel_rfl) (fun _ _ _ h => h) (Or.inl ⟨by kernel_rfl, ?_⟩) hS ?_
  rotate_left
  · intro w hSw; have c0 := hSw.1.c0; have c1 := hSw.2.1.c0; have c2 := hSw.2.1.c1; have c3 := hSw.2.1.c2; go_simp
    first | done | with_reducible rfl
  refine wpAnyH_takeA (i := 4) (some 71) (v := ?_) rfl rfl (by as_aux_lemma => kernel_rfl) (by as_aux_lemma => kernel_rfl) (by as_aux_lemma => kernel_rfl) (fun _ _ _ h => h) (Or.inl ⟨by kernel_rfl, ?_⟩) hS ?_
  rotate_left
  · intro w hSw; have c0 := hSw.1.c0; have c1 := hSw.2.1.c0; have c2 := hSw.2.1.c1; have c3 := hSw.2.1.c2; go_simp
    first | done | with_reducible rfl
  refine wpAnyH_takeA (i := 6) (some 73) (v := ?_) rfl rfl (by as_aux_lemma => kernel_rfl) (by as_aux_lemma => kernel_rfl) (by as_aux_lemma => kernel_rfl) (fun _ _ _ h => h) (Or.inl ⟨by kernel_rfl, ?_⟩) hS ?_
  rotate_left
  · intro w hSw; have c0 := hSw.1.c0; have c1 := hSw.2.1.c0; have c2 := hSw.2.1.c1; have c3 := hSw.2.1.c2; go_simp
    first | done | with_reducible rfl
  refine wpAnyH_ready (rs := [5, 7]) (by as_aux_lemma => kernel_rfl) (by simp) ?_
  refine AllReadyH.cons rfl (fun K hK => ?_) (AllReadyH.cons rfl (fun K hK => ?_) AllReadyH.nil)
  · have own0 : OwnA w7.drew w7.heap.size (.slice none 0 0) [] := World.ownsRow_nil _ _ _ _
    have hat0 : AlsAt w7.drew (some ⟨b0, o0, none⟩) (S.take P) := hat.take P
    have hle0 : ([] : List Rw).length + (S.take P).length ≤ 1000000 := by rw [← HTK.out]; simp; omega
    have hsz0 : w7.heap.size ≤ w7.drew.heap.size := Nat.le_refl _
    refine step_append_als (w := w7.drew) rfl _ _ rfl w7.heap.size (.slice none 0 0) [] (by kernel_rfl) own0 (some ⟨b0, o0, none⟩) P c (S.take P) (by kernel_rfl) HTK.out hat0 hnone hle0 hsz0 ?_
    intro v8 w8 own8a g8
    have q8 : Below w7.heap.size w7 w8 := (Below.refl w7.heap.size w7).drew.grown g8 (Nat.le_refl _) (fun j e => by cases e)
    refine hK.out _ _ ⟨k1.below q8 (ltA k1), k2.below q8 (ltA k2), k3.below q8 (ltA k3)⟩ (fun hS => ?_)
    clear hK K
    refine wpAnyH_ready (rs := [7]) (by as_aux_lemma => kernel_rfl) (by simp) ?_
    refine AllReadyH.cons rfl (fun K hK => ?_) AllReadyH.nil
    go_simp
    have d9 := (Below.refl w8.heap.size w8).alloc (Nat.le_refl _) (.cells #[.slice a6 ps.length c6, .int .i64 s, .int .i64 e] 25)
    refine hK.out _ _ ⟨hS.1.below d9 (ltA hS.1), hS.2.1.below d9 (ltA hS.2.1), hS.2.2.below d9 (ltA hS.2.2)⟩ (fun hS => ?_)
    clear hK K
    have own9 := OwnA.onB own8a d9 (Nat.le_refl _)
    have ownx := (OwnP.onB own8 q8 (Nat.le_refl _)).onB d9 (Nat.le_refl _)
    have hx9 : AlsAt (w8.alloc (.cells #[.slice a6 ps.length c6, .int .i64 s, .int .i64 e] 25)) (some ⟨w8.heap.size, 0, none⟩) [(⟨ps, s, e, a6, c6⟩ : Rw)] := alsAt_one w8 (⟨ps, s, e, a6, c6⟩ : Rw) ownx.at
    refine wpAnyH_ready (rs := [8]) (by as_aux_lemma => kernel_rfl) (by simp) ?_
    refine AllReadyH.cons rfl (fun K hK => ?_) AllReadyH.nil
    refine step_append_als rfl _ _ rfl w7.heap.size v8 ([] ++ S.take P) (by kernel_rfl) own9 (some ⟨w8.heap.size, 0, none⟩) 1 1 [(⟨ps, s, e, a6, c6⟩ : Rw)] (by kernel_rfl) rfl hx9 (fun e => by cases e) (by have := HTK.out; simp at this ⊢; omega) (Nat.le_trans q8.size d9.size) ?_
    intro v10 w10 own10 g10
    have q10 : Below w7.heap.size w7 w10 := (q8.trans (d9.mono q8.size)).grown g10 (Nat.le_trans q8.size d9.size) (fun j e => (World.ownsRow.lt own9 j e).1)
    have ownx10 := ownx.past own9 g10
    refine hK.out _ _ ⟨k1.below q10 (ltA k1), k2.below q10 (ltA k2), k3.below q10 (ltA k3)⟩ (fun hS => ?_)
    clear hK K d9 own9 ownx hx9 g10 own8a g8 q8

    refine wpAnyH_takeA (i := 9) (some 11) (v := ?_) rfl rfl (by as_aux_lemma => kernel_rfl) (by as_aux_lemma => kernel_rfl) (by as_aux_lemma => kernel_rfl) (fun _ _ _ h => h) (Or.inl ⟨by kernel_rfl, ?_⟩) hS ?_
    rotate_left
    · intro w hSw; have c0 := hSw.1.c0; have c1 := hSw.2.1.c0; have c2 := hSw.2.1.c1; have c3 := hSw.2.1.c2; go_simp
      first | done | with_reducible rfl
    refine wpAnyH_done (by kernel_rfl) ?_ _
    rw [List.nil_append] at own10
    have b10 := b7.trans (q10.mono b7.size)
    obtain ⟨k1', k2', k3'⟩ := hS
    obtain ⟨a10, c10, rfl, -⟩ := own10.form
    clear own8 k1 k2 k3 hat HTK
    obtain ⟨A10, HA10⟩ : ∃ l, Hid (S.take P ++ [(⟨ps, s, e, a6, c6⟩ : Rw)] = l) := ⟨_, Lib.hid rfl⟩
    obtain ⟨D10, HD10⟩ : ∃ l, Hid (S.drop (P + 1) = l) := ⟨_, Lib.hid rfl⟩
    rw [HA10.out] at own10 ⊢
    generalize hN10 : A10.length = n10 at *
    have HN10 := Lib.hid hN10
    clear hN10
    go_simp
    have c0 := k1'.c0
    have hkc : (P + 1 : Int) ≤ (c : Int) := by omega
    have hkn : (P + 1 : Int) ≤ (n : Int) := by omega
    have hat10 : AlsAt w10 (some ⟨b0, o0, none⟩) S := HH.out.1.below b10 (Nat.le_refl _)
    have hKn : P + 1 ≤ n := by omega
    have HLN : Hid (n - (P + 1) = D10.length) := Lib.hid (by rw [← HD10.out, List.length_drop, ← HNL.out])
    have hle10 : A10.length + D10.length ≤ 1000000 := by rw [← HLN.out, ← HA10.out, List.length_append, List.length_take, ← HNL.out]; simp; omega
    have hsz10 : w7.heap.size ≤ w10.heap.size := q10.size
    have HFin := Lib.hid (fun v12 w12 (own12 : OwnA w12 w7.heap.size v12 (A10 ++ D10)) (g12 : w10.grownBy w12 (Value.slice a10 n10 c10).ownBlock) => rput_end HH.out b7 (w.heap.size + 1 + 1) HK3.out (by omega) q10 own10 ownx10 own12 g12 (by rw [HR.out.2.2 a6 c6, HP.out, ← HA10.out, ← HD10.out, List.append_assoc]; rfl) HE2.out)
    have HLS : Hid (A10 ++ D10 = putR ⟨ps, s, e, a6, c6⟩ S) := Lib.hid (by rw [HR.out.2.2 a6 c6, HP.out, ← HA10.out, ← HD10.out, List.append_assoc]; rfl)
    clear HN10 b10 k1' k2' k3' q10 ownx10 b7 HK3
    by_cases hce : c = P + 1
    · have hnil0 : AlsAt w10 (some ⟨b0, o0, none⟩) D10 := by
        have : D10 = [] := by rw [← HD10.out]; exact List.drop_eq_nil_of_le (by rw [← HNL.out]; omega)
        subst this
        exact fun h => by simp at h
      have HL0 : Hid (0 = D10.length) := Lib.hid (by rw [← HLN.out]; omega)
      have hn0 : n = P + 1 := by omega
      clear hkn hKn
      replace hce := hce.symm
      subst hce
      go_wp2_with (at_builtin; refine wpList_append_als _ rfl _ _ rfl w7.heap.size _ _ rfl own10 (some ⟨b0, o0, none⟩) _ _ D10 rfl (by have := HL0.out; omega) hnil0 (by simp) hle10 hsz10 ?_; refine Hid.out ?_)
      refine Lib.hid ?_
      intro v12 w12 own12 g12
      obtain ⟨a12, c12, rfl, k12, hR12, hB12⟩ := HFin.out v12 w12 own12 g12
      have hk3 := k12.c0; have hf3 := k12.f 0
      generalize hRR : A10 ++ D10 = RR at *
      have HRR := HLS
      clear hRR
      generalize hNN : RR.length = NN at *
      have HNN := Lib.hid hNN
      clear hNN
      have rr0 := (k12.set (a' := a12) (n' := NN) (c' := c12)).c0
      have HF := Lib.hid (And.intro hR12 hB12)
      clear hR12 hB12 own12 g12 k12 own10 HFin c0 hat10
      go_wp2
      exact bodyPost_ret (v := .tuple #[.agg #[.slice a12 NN c12], .int .i64 0]) (by simp [results, Tryd.results16, go_sem, rr0]) rfl ⟨a12, c12, RR, by rw [HNN.out, HR.out.1], HF.out.1, fun e => absurd HR.out.1 e, fun _ => ⟨a6, c6, by rw [HR.out.2.1]; exact HRR.out⟩, HF.out.2⟩
    · have hcl : P + 1 < c := by omega
      have hdr := AlsAt.dropA hat10 (P + 1)
      rw [HD10.out] at hdr
      go_wp2_with (at_builtin; refine wpList_append_als _ rfl _ _ rfl w7.heap.size _ _ rfl own10 (some ((⟨b0, o0, none⟩ : Addr).add ((P + 1) * 3))) _ _ D10 rfl HLN.out hdr (fun e => by cases e) hle10 hsz10 ?_; refine Hid.out ?_)
      refine Lib.hid ?_
      intro v12 w12 own12 g12
      obtain ⟨a12, c12, rfl, k12, hR12, hB12⟩ := HFin.out v12 w12 own12 g12
      have hk3 := k12.c0; have hf3 := k12.f 0
      generalize hRR : A10 ++ D10 = RR at *
      have HRR := HLS
      clear hRR
      generalize hNN : RR.length = NN at *
      have HNN := Lib.hid hNN
      clear hNN
      have rr0 := (k12.set (a' := a12) (n' := NN) (c' := c12)).c0
      have HF := Lib.hid (And.intro hR12 hB12)
      clear hR12 hB12 own12 g12 k12 own10 HFin c0 hat10
      go_wp2
      exact bodyPost_ret (v := .tuple #[.agg #[.slice a12 NN c12], .int .i64 0]) (by simp [results, Tryd.results16, go_sem, rr0]) rfl ⟨a12, c12, RR, by rw [HNN.out, HR.out.1], HF.out.1, fun e => absurd HR.out.1 e, fun _ => ⟨a6, c6, by rw [HR.out.2.1]; exact HRR.out⟩, HF.out.2⟩
  · go_simp
    have d8 := (Below.refl w7.heap.size w7).alloc (Nat.le_refl _) (.cells #[.slice a6 ps.length c6, .int .i64 s, .int .i64 e] 25)
    have d8' : Below w7.heap.size w7 (w7.alloc (.cells #[.slice a6 ps.length c6, .int .i64 s, .int .i64 e] 25)).drew := d8.drew
    refine hK.out _ _ ⟨k1.below d8' (ltA k1), k2.below d8' (ltA k2), k3.below d8' (ltA k3)⟩ (fun hS => ?_)
    clear hK K
    have own0 : OwnA (w7.alloc (.cells #[.slice a6 ps.length c6, .int .i64 s, .int .i64 e] 25)).drew w7.heap.size (.slice none 0 0) [] := World.ownsRow_nil _ _ _ _
    have hat0 : AlsAt (w7.alloc (.cells #[.slice a6 ps.length c6, .int .i64 s, .int .i64 e] 25)).drew (some ⟨b0, o0, none⟩) (S.take P) := (hat.below d8 (Nat.le_refl _)).take P
    have hle0 : ([] : List Rw).length + (S.take P).length ≤ 1000000 := by rw [← HTK.out]; simp; omega
    have hsz0 : w7.heap.size ≤ (w7.alloc (.cells #[.slice a6 ps.length c6, .int .i64 s, .int .i64 e] 25)).drew.heap.size := d8.size
    refine wpAnyH_ready (rs := [5]) (by as_aux_lemma => kernel_rfl) (by simp) ?_
    refine AllReadyH.cons rfl (fun K hK => ?_) AllReadyH.nil
    refine step_append_als (w := (w7.alloc (.cells #[.slice a6 ps.length c6, .int .i64 s, .int .i64 e] 25)).drew) rfl _ _ rfl w7.heap.size (.slice none 0 0) [] (by kernel_rfl) own0 (some ⟨b0, o0, none⟩) P c (S.take P) (by kernel_rfl) HTK.out hat0 hnone hle0 hsz0 ?_
    intro v8 w8 own8a g8
    have q8' : Below (w7.alloc (.cells #[.slice a6 ps.length c6, .int .i64 s, .int .i64 e] 25)).heap.size (w7.alloc (.cells #[.slice a6 ps.length c6, .int .i64 s, .int .i64 e] 25)) w8 := (Below.refl _ _).drew.grown g8 (Nat.le_refl _) (fun j e => by cases e)
    have q8 : Below w7.heap.size w7 w8 := d8.trans (q8'.mono d8.size)
    refine hK.out _ _ ⟨k1.below q8 (ltA k1), k2.below q8 (ltA k2), k3.below q8 (ltA k3)⟩ (fun hS => ?_)
    clear hK K
    have ownx := OwnP.onB own8 q8 (Nat.le_refl _)
    have hx9 : AlsAt w8 (some ⟨w7.heap.size, 0, none⟩) [(⟨ps, s, e, a6, c6⟩ : Rw)] := (alsAt_one w7 (⟨ps, s, e, a6, c6⟩ : Rw) (OwnP.at (OwnP.onB own8 d8 (Nat.le_refl _)))).below q8' (Nat.le_refl _)
    refine wpAnyH_ready (rs := [8]) (by as_aux_lemma => kernel_rfl) (by simp) ?_
    refine AllReadyH.cons rfl (fun K hK => ?_) AllReadyH.nil
    refine step_append_als rfl _ _ rfl w7.heap.size v8 ([] ++ S.take P) (by kernel_rfl) own8a (some ⟨w7.heap.size, 0, none⟩) 1 1 [(⟨ps, s, e, a6, c6⟩ : Rw)] (by kernel_rfl) rfl hx9 (fun e => by cases e) (by have := HTK.out; simp at this ⊢; omega) q8.size ?_
    intro v10 w10 own10 g10
    have q10 : Below w7.heap.size w7 w10 := q8.grown g10 q8.size (fun j e => (World.ownsRow.lt own8a j e).1)
    have ownx10 := ownx.past own8a g10
    refine hK.out _ _ ⟨k1.below q10 (ltA k1), k2.below q10 (ltA k2), k3.below q10 (ltA k3)⟩ (fun hS => ?_)
    clear hK K d8 d8' q8' ownx hx9 g10 own8a g8 q8 own0 hat0 hle0 hsz0

    refine wpAnyH_takeA (i := 9) (some 11) (v := ?_) rfl rfl (by as_aux_lemma => kernel_rfl) (by as_aux_lemma => kernel_rfl) (by as_aux_lemma => kernel_rfl) (fun _ _ _ h => h) (Or.inl ⟨by kernel_rfl, ?_⟩) hS ?_
    rotate_left
    · intro w hSw; have c0 := hSw.1.c0; have c1 := hSw.2.1.c0; have c2 := hSw.2.1.c1; have c3 := hSw.2.1.c2; go_simp
      first | done | with_reducible rfl
    refine wpAnyH_done (by kernel_rfl) ?_ _
    rw [List.nil_append] at own10
    have b10 := b7.trans (q10.mono b7.size)
    obtain ⟨k1', k2', k3'⟩ := hS
    obtain ⟨a10, c10, rfl, -⟩ := own10.form
    clear own8 k1 k2 k3 hat HTK
    obtain ⟨A10, HA10⟩ : ∃ l, Hid (S.take P ++ [(⟨ps, s, e, a6, c6⟩ : Rw)] = l) := ⟨_, Lib.hid rfl⟩
    obtain ⟨D10, HD10⟩ : ∃ l, Hid (S.drop (P + 1) = l) := ⟨_, Lib.hid rfl⟩
    rw [HA10.out] at own10 ⊢
    generalize hN10 : A10.length = n10 at *
    have HN10 := Lib.hid hN10
    clear hN10
    go_simp
    have c0 := k1'.c0
    have hkc : (P + 1 : Int) ≤ (c : Int) := by omega
    have hkn : (P + 1 : Int) ≤ (n : Int) := by omega
    have hat10 : AlsAt w10 (some ⟨b0, o0, none⟩) S := HH.out.1.below b10 (Nat.le_refl _)
    have hKn : P + 1 ≤ n := by omega
    have HLN : Hid (n - (P + 1) = D10.length) := Lib.hid (by rw [← HD10.out, List.length_drop, ← HNL.out])
    have hle10 : A10.length + D10.length ≤ 1000000 := by rw [← HLN.out, ← HA10.out, List.length_append, List.length_take, ← HNL.out]; simp; omega
    have hsz10 : w7.heap.size ≤ w10.heap.size := q10.size
    have HFin := Lib.hid (fun v12 w12 (own12 : OwnA w12 w7.heap.size v12 (A10 ++ D10)) (g12 : w10.grownBy w12 (Value.slice a10 n10 c10).ownBlock) => rput_end HH.out b7 (w.heap.size + 1 + 1) HK3.out (by omega) q10 own10 ownx10 own12 g12 (by rw [HR.out.2.2 a6 c6, HP.out, ← HA10.out, ← HD10.out, List.append_assoc]; rfl) HE2.out)
    have HLS : Hid (A10 ++ D10 = putR ⟨ps, s, e, a6, c6⟩ S) := Lib.hid (by rw [HR.out.2.2 a6 c6, HP.out, ← HA10.out, ← HD10.out, List.append_assoc]; rfl)
    clear HN10 b10 k1' k2' k3' q10 ownx10 b7 HK3
    by_cases hce : c = P + 1
    · have hnil0 : AlsAt w10 (some ⟨b0, o0, none⟩) D10 := by
        have : D10 = [] := by rw [← HD10.out]; exact List.drop_eq_nil_of_le (by rw [← HNL.out]; omega)
        subst this
        exact fun h => by simp at h
      have HL0 : Hid (0 = D10.length) := Lib.hid (by rw [← HLN.out]; omega)
      have hn0 : n = P + 1 := by omega
      clear hkn hKn
      replace hce := hce.symm
      subst hce
      go_wp2_with (at_builtin; refine wpList_append_als _ rfl _ _ rfl w7.heap.size _ _ rfl own10 (some ⟨b0, o0, none⟩) _ _ D10 rfl (by have := HL0.out; omega) hnil0 (by simp) hle10 hsz10 ?_; refine Hid.out ?_)
      refine Lib.hid ?_
      intro v12 w12 own12 g12
      obtain ⟨a12, c12, rfl, k12, hR12, hB12⟩ := HFin.out v12 w12 own12 g12
      have hk3 := k12.c0; have hf3 := k12.f 0
      generalize hRR : A10 ++ D10 = RR at *
      have HRR := HLS
      clear hRR
      generalize hNN : RR.length = NN at *
      have HNN := Lib.hid hNN
      clear hNN
      have rr0 := (k12.set (a' := a12) (n' := NN) (c' := c12)).c0
      have HF := Lib.hid (And.intro hR12 hB12)
      clear hR12 hB12 own12 g12 k12 own10 HFin c0 hat10
      go_wp2
      exact bodyPost_ret (v := .tuple #[.agg #[.slice a12 NN c12], .int .i64 0]) (by simp [results, Tryd.results16, go_sem, rr0]) rfl ⟨a12, c12, RR, by rw [HNN.out, HR.out.1], HF.out.1, fun e => absurd HR.out.1 e, fun _ => ⟨a6, c6, by rw [HR.out.2.1]; exact HRR.out⟩, HF.out.2⟩
    · have hcl : P + 1 < c := by omega
      have hdr := AlsAt.dropA hat10 (P + 1)
      rw [HD10.out] at hdr
      go_wp2_with (at_builtin; refine wpList_append_als _ rfl _ _ rfl w7.heap.size _ _ rfl own10 (some ((⟨b0, o0, none⟩ : Addr).add ((P + 1) * 3))) _ _ D10 rfl HLN.out hdr (fun e => by cases e) hle10 hsz10 ?_; refine Hid.out ?_)
      refine Lib.hid ?_
      intro v12 w12 own12 g12
      obtain ⟨a12, c12, rfl, k12, hR12, hB12⟩ := HFin.out v12 w12 own12 g12
      have hk3 := k12.c0; have hf3 := k12.f 0
      generalize hRR : A10 ++ D10 = RR at *
      have HRR := HLS
      clear hRR
      generalize hNN : RR.length = NN at *
      have HNN := Lib.hid hNN
      clear hNN
      have rr0 := (k12.set (a' := a12) (n' := NN) (c' := c12)).c0
      have HF := Lib.hid (And.intro hR12 hB12)
      clear hR12 hB12 own12 g12 k12 own10 HFin c0 hat10
      go_wp2
      exact bodyPost_ret (v := .tuple #[.agg #[.slice a12 NN c12], .int .i64 0]) (by simp [results, Tryd.results16, go_sem, rr0]) rfl ⟨a12, c12, RR, by rw [HNN.out, HR.out.1], HF.out.1, fun e => absurd HR.out.1 e, fun _ => ⟨a6, c6, by rw [HR.out.2.1]; exact HRR.out⟩, HF.out.2⟩

end Go.Proofs.YtdnpfmmkglgnjabDoor
