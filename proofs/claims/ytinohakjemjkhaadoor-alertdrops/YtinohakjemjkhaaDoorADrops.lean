/-
  The walk of AlertDrops.
-/
import Derived.Test.YtinohakjemjkhaaDoorA16
namespace Go.Proofs.YtinohakjemjkhaaDoor
open Go.RowKit

set_option maxRecDepth 100000 in
set_option maxHeartbeats 8000000 in
theorem drops_walk (a0 : Option Addr) (c0 : Nat) (l : List Ac) (before : Int) (w : World) (hv : TabOk w.heap.size w) (hl : AcsAt w a0 l) (hok : ∀ x ∈ l, AcOk x) (hn : l.length ≤ 9223372036854775807) :
    Calls Tryd.prog 8 #[.slice a0 l.length c0, .int .i64 before] w fun e w' => e = .returned (.bool true) ∧ Below w.heap.size w w' := by
  have HFw := Lib.hid (awFew_any a0 c0 l w hl hn)
  have HAw := Lib.hid (fun u (hb : Below w.heap.size w u) => aawake_any w.heap.size u hb.size (hv.on hb))
  have HNw := Lib.hid (aNew_st w)
  have HV := Lib.hid hv
  obtain ⟨m, hm⟩ : ∃ m, m = l.length := ⟨_, rfl⟩
  have HL := Lib.hid (And.intro hm (And.intro hl hok))
  rw [← hm] at HFw hn ⊢
  unfold FewPost at HFw
  clear hv hl hok hm
  by_cases hf : fewP l
  case neg =>
    go_enter Tryd.func8, Tryd.ntmps8
    go_wp2_with (go_at_call 9; refine HFw.out.mono ?_; rintro e w1 ⟨b, rfl, hb, hw1⟩; replace hw1 := hw1.symm; subst hw1; refine Hid.out ?_)
    refine Lib.hid ?_
    obtain rfl : b = false := by rw [← Bool.not_eq_true]; exact fun e => hf (hb.1 e)
    have HA1 := Lib.hid (HAw.out w (Below.refl _ _))
    clear hb
    go_wp2_with (go_at_call 10; refine HA1.out.mono ?_; rintro e w2 ⟨rfl, q2⟩)
    go_ret
    exact ⟨rfl, q2⟩
  case pos =>
  have HF := Lib.hid hf
  have hm80 : m ≤ 80 := by rw [HL.out.1]; exact hf.1
  go_enter Tryd.func8, Tryd.ntmps8
  go_wp2_with (go_at_call 9; refine HFw.out.mono ?_; rintro e w1 ⟨b, rfl, hb, hw1⟩; replace hw1 := hw1.symm; subst hw1; refine Hid.out ?_)
  refine Lib.hid ?_
  obtain rfl : b = true := hb.2 hf
  clear hb hf HFw
  go_wp2_with (go_at_call 11; refine HNw.out.mono ?_; rintro e wn ⟨rfl, hsn, qn⟩; refine Hid.out ?_)
  refine Lib.hid ?_
  have drn := (Below.refl wn.heap.size wn).alloc (Nat.le_refl _) (.cells #[.slice none 0 0] 29)
  have hrn := RsBlk.new wn none 0 0
  have hBn : Both (wn.alloc (.cells #[.slice none 0 0] 29)) (w.heap.size + 1) w.heap.size wn.heap.size [] none 0 0 [] := ⟨rfl, hsn.below drn (Nat.le_refl _), rs_nil _, rfl, by simp, hrn⟩
  have hwn : w.heap.size + 1 < wn.heap.size := ltA hsn.1
  have HBn := Lib.hid hBn
  have HBn2 := Lib.hid (qn.trans (drn.mono qn.size))
  clear drn hrn hBn hsn qn HNw
  obtain ⟨RB, hRB⟩ : ∃ RB, RB = wn.heap.size := ⟨_, rfl⟩
  have HRB := Lib.hid hRB
  rw [← hRB] at HBn hwn
  clear hRB
  go_wp2
  rw [← HRB.out]
  go_loopw [7] (fun i wr => ∃ (k : Nat) (S : List Rw) (a : Option Addr) (n c : Nat) (R : List Rw), k ≤ m ∧ i = .int .i64 k ∧ Hid (Both wr (w.heap.size + 1) w.heap.size RB S a n c R) ∧ Hid (Below w.heap.size w wr)) (fun i _ => m - (intOf i).toNat)
  case atStart => exact ⟨0, [], none, 0, 0, [], Nat.zero_le _, rfl, HBn, HBn2⟩
  case round =>
    clear HBn HBn2
    obtain ⟨k, S, a, n, c, R, hk, rfl, HBo, HB⟩ := hrel
    by_cases hlt : k < m
    · have hkl : (k : Int) < (m : Int) := by omega
      obtain ⟨hml, hl, hok⟩ := HL.out
      have hkl2 : k < l.length := by omega
      obtain ⟨b1, o1, rfl, hC0, hp0⟩ := hl.c k hkl2
      have hb1 : b1 < w.heap.size := hC0.1
      have hC1 := hC0.below HB.out (Nat.le_refl _)
      have hBo := HBo.out
      have HDo := Lib.hid (awDo_any _ _ S a c R l[k] wr.drew hBo.2.1 hBo.2.2.1 hBo.2.2.2.1 hBo.2.2.2.2.1 w.heap.size HB.out.size (Nat.le_refl _) (HV.out.on HB.out.drew) (hp0.below HB.out.drew (Nat.le_refl _)) (hok _ (List.getElem_mem hkl2)) (HF.out.2 _ (List.getElem_mem hkl2)))
      rw [← hBo.1] at HDo
      clear hml hl hok hC0 hp0
      generalize l[k] = xk at *
      go_wp2_with fail
      refine wp_region_any (by kernel_rfl) ?_
      change wpAny _ _ _ _ _ _ _ (World.drew _)
      have hcr := hBo.2.2.2.2.2.c0
      have hS : (fun w' : World => AcC w' b1 (o1 + k * 5) xk) wr.drew := hC1
      refine wpAny_of_held (S := fun w' => AcC w' b1 (o1 + k * 5) xk) _ _ _ _ ?_
      refine wpAnyH_takeA (i := 0) (some 26) (v := ?_) rfl rfl (by as_aux_lemma => kernel_rfl) (by as_aux_lemma => kernel_rfl) (by as_aux_lemma => kernel_rfl) (fun _ _ _ h => h) (Or.inl ⟨by kernel_rfl, ?_⟩) hS ?_
      rotate_left
      · intro w hSw; have c1 := hSw.2.1; have c2 := hSw.2.2.1; have c3 := hSw.2.2.2.1; have c4 := hSw.2.2.2.2.1; have c5 := hSw.2.2.2.2.2; go_simp
        first | done | with_reducible rfl
      refine wpAnyH_takeA (i := 2) (some 28) (v := ?_) rfl rfl (by as_aux_lemma => kernel_rfl) (by as_aux_lemma => kernel_rfl) (by as_aux_lemma => kernel_rfl) (fun _ _ _ h => h) (Or.inl ⟨by kernel_rfl, ?_⟩) hS ?_
      rotate_left
      · intro w hSw; have c1 := hSw.2.1; have c2 := hSw.2.2.1; have c3 := hSw.2.2.2.1; have c4 := hSw.2.2.2.2.1; have c5 := hSw.2.2.2.2.2; go_simp
        first | done | with_reducible rfl
      refine wpAnyH_takeA (i := 3) (some 29) (v := ?_) rfl rfl (by as_aux_lemma => kernel_rfl) (by as_aux_lemma => kernel_rfl) (by as_aux_lemma => kernel_rfl) (fun _ _ _ h => h) (Or.inl ⟨by kernel_rfl, ?_⟩) hS ?_
      rotate_left
      · intro w hSw; have c1 := hSw.2.1; have c2 := hSw.2.2.1; have c3 := hSw.2.2.2.1; have c4 := hSw.2.2.2.2.1; have c5 := hSw.2.2.2.2.2; go_simp
        first | done | with_reducible rfl
      refine wpAnyH_takeA (i := 4) (some 30) (v := ?_) rfl rfl (by as_aux_lemma => kernel_rfl) (by as_aux_lemma => kernel_rfl) (by as_aux_lemma => kernel_rfl) (fun _ _ _ h => h) (Or.inl ⟨by kernel_rfl, ?_⟩) hS ?_
      rotate_left
      · intro w hSw; have c1 := hSw.2.1; have c2 := hSw.2.2.1; have c3 := hSw.2.2.2.1; have c4 := hSw.2.2.2.2.1; have c5 := hSw.2.2.2.2.2; go_simp
        first | done | with_reducible rfl
      refine wpAnyH_takeA (i := 5) (some 31) (v := ?_) rfl rfl (by as_aux_lemma => kernel_rfl) (by as_aux_lemma => kernel_rfl) (by as_aux_lemma => kernel_rfl) (fun _ _ _ h => h) (Or.inl ⟨by kernel_rfl, ?_⟩) hS ?_
      rotate_left
      · intro w hSw; have c1 := hSw.2.1; have c2 := hSw.2.2.1; have c3 := hSw.2.2.2.1; have c4 := hSw.2.2.2.2.1; have c5 := hSw.2.2.2.2.2; go_simp
        first | done | with_reducible rfl
      refine wpAnyH_ready (rs := [1]) (by as_aux_lemma => kernel_rfl) (by simp) ?_
      refine AllReadyH.cons rfl (fun K hK => ?_) AllReadyH.nil
      go_simp
      refine hK.out _ _ hC1 (fun hS => ?_)
      clear hK K
      refine wpAnyH_ready (rs := [6]) (by as_aux_lemma => kernel_rfl) (by simp) ?_
      refine AllReadyH.cons rfl (fun K hK => ?_) AllReadyH.nil
      go_simp
      go_wp2_with (go_at_call 12; refine HDo.out.mono ?_; rintro e w3 ⟨a3, c3, S3, R3, rfl, hS3, hR3, hsim3, h643, g3⟩)
      replace g3 : wr.grownBy w3 (some w.heap.size) := ⟨g3.os, g3.tape, g3.output, g3.size, g3.block⟩
      have hrb3 := hBo.2.2.2.2.2.kept (w' := w3) g3 (fun e => by have := Option.some.inj e; omega)
      have hC3 : AcC w3 b1 (o1 + k * 5) xk := AcC.turn (w := wr) hC1 g3 (by omega)
      refine hK.out _ _ hC3 (fun hS => ?_)
      clear hK K
      refine wpAnyH_takeA (i := 7) (some 25) (v := ?_) rfl rfl (by as_aux_lemma => kernel_rfl) (by as_aux_lemma => kernel_rfl) (by as_aux_lemma => kernel_rfl) (fun _ _ _ h => h) (Or.inl ⟨by kernel_rfl, ?_⟩) hS ?_
      rotate_left
      · intro w hSw; have c1 := hSw.2.1; have c2 := hSw.2.2.1; have c3 := hSw.2.2.2.1; have c4 := hSw.2.2.2.2.1; have c5 := hSw.2.2.2.2.2; go_simp
        first | done | with_reducible rfl
      refine wpAnyH_takeA (i := 8) (some 33) (v := ?_) rfl rfl (by as_aux_lemma => kernel_rfl) (by as_aux_lemma => kernel_rfl) (by as_aux_lemma => kernel_rfl) (fun _ _ _ h => h) (Or.inl ⟨by kernel_rfl, ?_⟩) hS ?_
      rotate_left
      · intro w hSw; have c1 := hSw.2.1; have c2 := hSw.2.2.1; have c3 := hSw.2.2.2.1; have c4 := hSw.2.2.2.2.1; have c5 := hSw.2.2.2.2.2; go_simp
        first | done | with_reducible rfl
      refine wpAnyH_takeA (i := 9) (some 34) (v := ?_) rfl rfl (by as_aux_lemma => kernel_rfl) (by as_aux_lemma => kernel_rfl) (by as_aux_lemma => kernel_rfl) (fun _ _ _ h => h) (Or.inl ⟨by kernel_rfl, ?_⟩) hS ?_
      rotate_left
      · intro w hSw; have c1 := hSw.2.1; have c2 := hSw.2.2.1; have c3 := hSw.2.2.2.1; have c4 := hSw.2.2.2.2.1; have c5 := hSw.2.2.2.2.2; go_simp
        first | done | with_reducible rfl
      have f0 := hrb3.c0; have ff0 := hrb3.f 0
      refine wpAnyH_ready (rs := [10]) (by as_aux_lemma => kernel_rfl) (by simp) ?_
      refine AllReadyH.cons rfl (fun K hK => ?_) AllReadyH.nil
      go_simp
      refine hK.out _ _ ?_ (fun hS => ?_)
      · exact hC3.other (by omega)
      clear hK K
      refine wpAnyH_done (by kernel_rfl) ?_ _
      have hBo3 := Both.play (w := wr) hBo (by omega) hS3 hR3 hsim3 h643 g3
      have hB3 : Below w.heap.size w (w3.setCell ⟨RB, 0, none⟩ (.slice a3 R3.length c3)) := (HB.out.grown (w := wr) g3 HB.out.size (fun j e => by obtain rfl := Option.some.inj e; exact Nat.le_refl _)).setCell (p := ⟨RB, 0, none⟩) (by show w.heap.size ≤ RB; omega) _

      have HBo3 := Lib.hid hBo3
      have HB3 := Lib.hid hB3
      clear hcr hBo3 hB3 hS hS3 hR3 hsim3 h643 g3 hrb3 hC3 f0 ff0 hBo hC1 HDo HBo HB
      generalize R3.length = n3 at *
      go_simp
      go_wp2
      go_roundw
      case rel => exact ⟨k + 1, S3, a3, n3, c3, R3, by omega, by go_num, HBo3, HB3⟩
      case measure => simp [intOf]; omega
    · have hkl : ¬ (k : Int) < (m : Int) := by omega
      have hBo := HBo.out
      have HLe := Lib.hid (aLen_any _ _ _ wr hBo.2.1.1 hBo.2.1.2.1)
      have HFi := Lib.hid (aFiring_any _ _ S before wr hBo.2.1 hBo.2.2.2.2.1)
      have HX := Lib.hid (And.intro hBo.2.1 hBo.2.2.2.2.1)
      clear hBo HBo
      go_wp2_with (first
        | (go_at_call 21; refine HLe.out.mono ?_; rintro e w2 ⟨rfl, rfl⟩)
        | (go_at_call 19; refine HFi.out.mono ?_; rintro e w3 ⟨a3, c3, L3, rfl, hL3, hm3, q3⟩; refine Hid.out ?_))
      refine Lib.hid ?_
      obtain ⟨hS, h64⟩ := HX.out
      have b3 := HB.out.trans (q3.mono HB.out.size)
      have hS3 := hS.below q3 (Nat.le_refl _)
      have HD3 := Lib.hid (aDrop_any _ _ S before w3 hS3 h64)
      have HP3 := Lib.hid (And.intro b3 (And.intro hS3 (And.intro (hL3.base (B' := w.heap.size + 1) (by have := ltA hS.1; omega)) hm3)))
      generalize hN3 : L3.length = n3 at *
      have HN3 := Lib.hid hN3
      clear hN3 b3 hS3 hL3 hm3 q3 hS h64 HLe HFi HB
      go_wp2_with (go_at_call 20; refine HD3.out.mono ?_; rintro e w4 ⟨rfl, g4, h4⟩; refine Hid.out ?_)
      refine Lib.hid ?_
      obtain ⟨b3, hS3, hL3, hm3⟩ := HP3.out
      have b4 : Below w.heap.size w w4 := b3.grown g4 b3.size (fun j e => by obtain rfl := Option.some.inj e; exact Nat.le_refl _)
      have hL4 := hL3.turn g4 (by omega)
      have HA4 := Lib.hid (aAll_any _ _ (dropS S before) w4 h4 (Nat.le_trans (drop_len S before) HX.out.2))
      have HP4 := Lib.hid (And.intro b4 (And.intro h4 (And.intro hL4 hm3)))
      clear b3 hS3 hL3 hm3 b4 hL4 h4 g4 HD3 HP3
      go_wp2_with (go_at_call 18; refine HA4.out.mono ?_; rintro e w5 ⟨a5, c5, L5, rfl, hL5, hm5, q5⟩; refine Hid.out ?_)
      refine Lib.hid ?_
      obtain ⟨b4, h4, hL4, hm3⟩ := HP4.out
      have b5 := b4.trans (q5.mono b4.size)
      have h5 := h4.below q5 (Nat.le_refl _)
      have hL45 := hL4.onB q5 (Nat.le_refl _)
      have HA5 := Lib.hid (Picked.at hL5)
      have HE5 : Hid (∀ r ∈ L5, ¬ r.en < before) := Lib.hid fun r hr => by
        obtain ⟨s, hs, e⟩ := al_mem hm5 r hr
        have e2 : s.en = r.en := congrArg (fun p : Al => p.2.2) e
        have := (List.mem_filter.1 hs).2
        rw [← e2]
        simpa using this
      have HLn5 : Hid (L5.length = (dropS S before).length) := Lib.hid (by simpa using congrArg List.length hm5)
      have hL5n : L5.length ≤ 64 := by rw [HLn5.out]; exact Nat.le_trans (drop_len S before) HX.out.2
      have HP5 := Lib.hid (And.intro b5 (And.intro h5 (And.intro hL45 hm3)))
      clear b4 h4 hL4 hm3 b5 h5 hL45 hL5 hm5 q5 HA4 HP4
      generalize hN5 : L5.length = n5 at *
      have HN5 := Lib.hid hN5
      clear hN5
      go_wp2
      go_loop [12] (fun i => ∃ k : Nat, k ≤ n5 ∧ i = .int .i64 k) (fun i => n5 - (intOf i).toNat)
      case atStart => exact ⟨0, Nat.zero_le _, rfl⟩
      case round =>
        obtain ⟨k5, hk5, rfl⟩ := hrel
        by_cases hlt5 : k5 < n5
        · have hkl5 : (k5 : Int) < (n5 : Int) := by omega
          have hk5L : k5 < L5.length := by rw [HN5.out]; exact hlt5
          obtain ⟨b6, o6, rfl, hC6, -⟩ := HA5.out.c k5 hk5L
          have e2 := hC6.2.2.2
          have hen := HE5.out _ (List.getElem_mem hk5L)
          clear hC6
          generalize L5[k5].en = ek at *
          go_wp2
          go_round
          case rel => exact ⟨k5 + 1, by omega, by go_num⟩
          case measure => simp [intOf]; omega
        · have hkl5 : ¬ (k5 : Int) < (n5 : Int) := by omega
          obtain ⟨b5, h5, hL45, hm3⟩ := HP5.out
          have HF5 := Lib.hid (aFiring_any _ _ (dropS S before) before w5 h5 (Nat.le_trans (drop_len S before) HX.out.2))
          have hsum : (n5 : Int) + ((S.length : Int) - ((dropS S before).length : Int)) = (S.length : Int) := by rw [HLn5.out]; omega
          have hdl := drop_len S before
          have hSl := HX.out.2
          have hwrap : IntKind.i64.wrap ((n5 : Int) + ((S.length : Int) - ((dropS S before).length : Int))) = (S.length : Int) := by rw [hsum, IntKind.wrap_i64]; omega
          have HSM := Lib.hid (And.intro b5 (And.intro h5 (And.intro hL45 hm3)))
          clear hsum b5 h5 hL45 hm3 HP5
          generalize hDL : (dropS S before).length = dl at *
          have HDL := Lib.hid hDL
          clear hDL
          generalize hSL : S.length = slen at *
          have HSL := Lib.hid hSL
          clear hSL
          go_wp2_with (go_at_call 19; refine HF5.out.mono ?_; rintro e w6 ⟨a6, c6, L6, rfl, hL6, hm6, q6⟩; refine Hid.out ?_)
          refine Lib.hid ?_
          obtain ⟨b5, h5, hL45, hm3⟩ := HSM.out
          have b6 := b5.trans (q6.mono b5.size)
          have h6 := h5.below q6 (Nat.le_refl _)
          have hL46 := hL45.onB q6 (Nat.le_refl _)
          have hsame : decide (L6.map Rw.al = L3.map Rw.al) = true := decide_eq_true (by rw [hm6, hm3, fires_drop])
          have hfit : Fits7 L6 := st_fits h6 fun r hr => by
            obtain ⟨s, hs, e⟩ := al_mem hm6 r hr
            exact ⟨s, (List.mem_filter.1 hs).1, e⟩
          have hl6 : L6.length ≤ 1000000 := by
            have e6 : L6.length = ((dropS S before).filter fun r => firesP r.st r.en before).length := by simpa using congrArg List.length hm6
            have := List.length_filter_le (fun r : Rw => firesP r.st r.en before) (dropS S before)
            have := HDL.out
            omega
          have HSa := Lib.hid (arSame_any a6 a3 c6 c3 L6 L3 w6 (Picked.at hL6) (Picked.at hL46) hfit hl6)
          rw [hsame, HN3.out] at HSa
          have HSM6 := Lib.hid (And.intro b6 h6)
          clear b5 h5 hL45 hm3 b6 h6 hL46 hsame hfit hl6 hL6 hm6 q6 HF5 HSM
          generalize L6.length = n6 at *
          go_wp2_with (go_at_call 28; refine HSa.out.mono ?_; rintro e w7 ⟨rfl, q7⟩; refine Hid.out ?_)
          refine Lib.hid ?_
          obtain ⟨b6, h6⟩ := HSM6.out
          have b7 := b6.trans (q7.mono b6.size)
          have h7 := h6.below q7 (Nat.le_refl _)
          have HD7 := Lib.hid (aDrop_any _ _ (dropS S before) before w7 h7 (by rw [HDL.out]; omega))
          rw [drop_twice] at HD7
          simp only [Int.sub_self] at HD7
          have HB7 := Lib.hid b7
          clear b6 h6 b7 h7 q7 HSa HSM6
          go_wp2_with (go_at_call 20; refine HD7.out.mono ?_; rintro e w8 ⟨rfl, g8, -⟩; refine Hid.out ?_)
          refine Lib.hid ?_
          have b8 : Below w.heap.size w w8 := HB7.out.grown g8 HB7.out.size (fun j e => by obtain rfl := Option.some.inj e; exact Nat.le_refl _)
          have HA8 := Lib.hid (HAw.out w8 b8)
          have HB8 := Lib.hid b8
          clear b8 g8 HD7 HB7
          go_wp2_with (go_at_call 10; refine HA8.out.mono ?_; rintro e w9 ⟨rfl, q9⟩)
          go_ret
          exact ⟨rfl, HB8.out.trans (q9.mono HB8.out.size)⟩


end Go.Proofs.YtinohakjemjkhaaDoor
