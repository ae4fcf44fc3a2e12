/-
  The walk of AlertForks.
-/
import Derived.Test.YtinohakjemjkhaaDoorA17
import Derived.Test.YtinohakjemjkhaaDoorA18
namespace Go.Proofs.YtinohakjemjkhaaDoor
open Go.RowKit

theorem Both.keep {w w' : World} {sb bm rb : Nat} {S : List Rw} {a : Option Addr} {n c : Nat} {R : List Rw} {bm2 : Nat} {S2 : List Rw} (h : Both w sb bm rb S a n c R) (hg : w.grownBy w' (some bm2)) (hm2 : StMap w bm2 S2) (hne : bm ≠ bm2) : Both w' sb bm rb S a n c R := by
  have h1 : sb ≠ bm2 := fun e => by
    have h1 := h.2.1.1
    obtain ⟨es, clock, hb, -⟩ := hm2
    unfold StBlk at h1
    rw [e, hb] at h1
    cases h1
  have h2 : rb ≠ bm2 := fun e => by
    have h1 := h.2.2.2.2.2
    obtain ⟨es, clock, hb, -⟩ := hm2
    unfold RsBlk at h1
    rw [e, hb] at h1
    cases h1
  exact ⟨h.1, ⟨h.2.1.1.kept hg (fun e => h1 (Option.some.inj e)), h.2.1.2.1.kept hg (fun e => hne (Option.some.inj e)), fun r hr => ⟨(h.2.1.2.2 r hr).1.turn hg hm2, (h.2.1.2.2 r hr).2⟩⟩, h.2.2.1.turn hg hm2, h.2.2.2.1, h.2.2.2.2.1, h.2.2.2.2.2.kept hg (fun e => h2 (Option.some.inj e))⟩
theorem Both.keepSet {w : World} {sb bm rb : Nat} {S : List Rw} {a : Option Addr} {n c : Nat} {R : List Rw} {X : Nat} {a' : Option Addr} {n' c' : Nat} {v : Value} (h : Both w sb bm rb S a n c R) (hX : RsBlk w X a' n' c') (hne : rb ≠ X) : Both (w.setCell ⟨X, 0, none⟩ v) sb bm rb S a n c R :=
  ⟨h.1, h.2.1.past (gSet w X 0 v) hX, ⟨h.2.2.1.1.past (gSet w X 0 v) hX, h.2.2.1.2⟩, h.2.2.2.1, h.2.2.2.2.1, h.2.2.2.2.2.kept (gSet w X 0 v) (fun e => hne (Option.some.inj e))⟩

set_option maxRecDepth 100000 in
set_option maxHeartbeats 8000000 in
theorem forks_walk (a0 : Option Addr) (c0 : Nat) (l : List Ac) (am : Option Addr) (cm : Nat) (lm : List Ac) (w : World) (hv : TabOk w.heap.size w) (hl : AcsAt w a0 l) (hok : ∀ x ∈ l, AcOk x) (hn : l.length ≤ 9223372036854775807) (hlm : AcsAt w am lm) (hokm : ∀ x ∈ lm, AcOk x) (hnm : lm.length ≤ 9223372036854775807) :
    Calls Tryd.prog 5 #[.slice a0 l.length c0, .slice am lm.length cm] w fun e w' => e = .returned (.bool true) ∧ Below w.heap.size w w' := by
  have HFw := Lib.hid (awFew_any a0 c0 l w hl hn)
  have HFm := Lib.hid (awFew_any am cm lm w hlm hnm)
  have HAw := Lib.hid (fun u (hb : Below w.heap.size w u) => aawake_any w.heap.size u hb.size (hv.on hb))
  have HNw := Lib.hid (aNew_st w)
  have HV := Lib.hid hv
  obtain ⟨m, hm⟩ : ∃ m, m = l.length := ⟨_, rfl⟩
  have HL := Lib.hid (And.intro hm (And.intro hl hok))
  obtain ⟨m2, hm2⟩ : ∃ m2, m2 = lm.length := ⟨_, rfl⟩
  have HLm := Lib.hid (And.intro hm2 (And.intro hlm hokm))
  rw [← hm2] at HFm hnm ⊢
  rw [← hm] at HFw hn ⊢
  unfold FewPost at HFm
  unfold FewPost at HFw
  clear hv hl hok hm hlm hokm hm2
  by_cases hf : fewP l
  case neg =>
    go_enter Tryd.func5, Tryd.ntmps5
    go_wp2_with (go_at_call 9; refine HFw.out.mono ?_; rintro e w1 ⟨b, rfl, hb, hw1⟩; replace hw1 := hw1.symm; subst hw1; refine Hid.out ?_)
    refine Lib.hid ?_
    obtain rfl : b = false := by rw [← Bool.not_eq_true]; exact fun e => hf (hb.1 e)
    have HA1 := Lib.hid (HAw.out w (Below.refl _ _))
    clear hb
    go_wp2_with (go_at_call 10; refine HA1.out.mono ?_; rintro e w2 ⟨rfl, q2⟩)
    go_ret
    exact ⟨rfl, q2⟩
  case pos =>
  by_cases hf2 : fewP lm
  case neg =>
    go_enter Tryd.func5, Tryd.ntmps5
    go_wp2_with (go_at_call 9; refine HFw.out.mono ?_; rintro e w1 ⟨b, rfl, hb, hw1⟩; replace hw1 := hw1.symm; subst hw1; refine Hid.out ?_)
    refine Lib.hid ?_
    obtain rfl : b = true := hb.2 hf
    clear hb HFw
    go_wp2_with (go_at_call 9; refine HFm.out.mono ?_; rintro e w1 ⟨b, rfl, hb, hw1⟩; replace hw1 := hw1.symm; subst hw1; refine Hid.out ?_)
    refine Lib.hid ?_
    obtain rfl : b = false := by rw [← Bool.not_eq_true]; exact fun e => hf2 (hb.1 e)
    have HA1 := Lib.hid (HAw.out w (Below.refl _ _))
    clear hb
    go_wp2_with (go_at_call 10; refine HA1.out.mono ?_; rintro e w2 ⟨rfl, q2⟩)
    go_ret
    exact ⟨rfl, q2⟩
  case pos =>
  have HF := Lib.hid hf
  have HF2 := Lib.hid hf2
  have hm80 : m ≤ 80 := by rw [HL.out.1]; exact hf.1
  have hm280 : m2 ≤ 80 := by rw [HLm.out.1]; exact hf2.1
  go_enter Tryd.func5, Tryd.ntmps5
  go_wp2_with (go_at_call 9; refine HFw.out.mono ?_; rintro e w1 ⟨b, rfl, hb, hw1⟩; replace hw1 := hw1.symm; subst hw1; refine Hid.out ?_)
  refine Lib.hid ?_
  obtain rfl : b = true := hb.2 hf
  clear hb hf HFw
  go_wp2_with (go_at_call 9; refine HFm.out.mono ?_; rintro e w1 ⟨b, rfl, hb, hw1⟩; replace hw1 := hw1.symm; subst hw1; refine Hid.out ?_)
  refine Lib.hid ?_
  obtain rfl : b = true := hb.2 hf2
  clear hb hf2 HFm
  go_wp2_with (go_at_call 11; refine HNw.out.mono ?_; rintro e wn ⟨rfl, hsn, qn⟩; refine Hid.out ?_)
  refine Lib.hid ?_
  have drn := (Below.refl wn.heap.size wn).alloc (Nat.le_refl _) (.cells #[.slice none 0 0] 29)
  have hrn := RsBlk.new wn none 0 0
  have hBn : Both (wn.alloc (.cells #[.slice none 0 0] 29)) (w.heap.size + 1) w.heap.size wn.heap.size [] none 0 0 [] := ⟨rfl, hsn.below drn (Nat.le_refl _), rs_nil _, rfl, by simp, hrn⟩
  have hwn : w.heap.size + 1 < wn.heap.size := ltA hsn.1
  have HBn := Lib.hid hBn
  have HBn2 := Lib.hid (qn.trans (drn.mono qn.size))
  clear drn hrn hBn hsn qn HNw
  obtain ⟨RB, hRB⟩ : ∃ RB, RB = wn.heap.size := ⟨_, rfl⟩
  have HRB := Lib.hid hRB
  rw [← hRB] at HBn hwn
  clear hRB
  go_wp2
  rw [← HRB.out]
  go_loopw [7] (fun i wr => ∃ (k : Nat) (S : List Rw) (a : Option Addr) (n c : Nat) (R : List Rw), k ≤ m ∧ i = .int .i64 k ∧ Hid (Both wr (w.heap.size + 1) w.heap.size RB S a n c R) ∧ Hid (Below w.heap.size w wr)) (fun i _ => m - (intOf i).toNat)
  case atStart => exact ⟨0, [], none, 0, 0, [], Nat.zero_le _, rfl, HBn, HBn2⟩
  case round =>
    clear HBn HBn2
    obtain ⟨k, S, a, n, c, R, hk, rfl, HBo, HB⟩ := hrel
    by_cases hlt : k < m
    · have hkl : (k : Int) < (m : Int) := by omega
      obtain ⟨hml, hl, hok⟩ := HL.out
      have hkl2 : k < l.length := by omega
      obtain ⟨b1, o1, rfl, hC0, hp0⟩ := hl.c k hkl2
      have hb1 : b1 < w.heap.size := hC0.1
      have hC1 := hC0.below HB.out (Nat.le_refl _)
      have hBo := HBo.out
      have HDo := Lib.hid (awDo_any _ _ S a c R l[k] wr.drew hBo.2.1 hBo.2.2.1 hBo.2.2.2.1 hBo.2.2.2.2.1 w.heap.size HB.out.size (Nat.le_refl _) (HV.out.on HB.out.drew) (hp0.below HB.out.drew (Nat.le_refl _)) (hok _ (List.getElem_mem hkl2)) (HF.out.2 _ (List.getElem_mem hkl2)))
      rw [← hBo.1] at HDo
      clear hml hl hok hC0 hp0
      generalize l[k] = xk at *
      go_wp2_with fail
      refine wp_region_any (by kernel_rfl) ?_
      change wpAny _ _ _ _ _ _ _ (World.drew _)
      have hcr := hBo.2.2.2.2.2.c0
      have hS : (fun w' : World => AcC w' b1 (o1 + k * 5) xk) wr.drew := hC1
      refine wpAny_of_held (S := fun w' => AcC w' b1 (o1 + k * 5) xk) _ _ _ _ ?_
      refine wpAnyH_takeA (i := 0) (some 30) (v := ?_) rfl rfl (by as_aux_lemma => kernel_rfl) (by as_aux_lemma => kernel_rfl) (by as_aux_lemma => kernel_rfl) (fun _ _ _ h => h) (Or.inl ⟨by kernel_rfl, ?_⟩) hS ?_
      rotate_left
      · intro w hSw; have c1 := hSw.2.1; have c2 := hSw.2.2.1; have c3 := hSw.2.2.2.1; have c4 := hSw.2.2.2.2.1; have c5 := hSw.2.2.2.2.2; go_simp
        first | done | with_reducible rfl
      refine wpAnyH_takeA (i := 2) (some 32) (v := ?_) rfl rfl (by as_aux_lemma => kernel_rfl) (by as_aux_lemma => kernel_rfl) (by as_aux_lemma => kernel_rfl) (fun _ _ _ h => h) (Or.inl ⟨by kernel_rfl, ?_⟩) hS ?_
      rotate_left
      · intro w hSw; have c1 := hSw.2.1; have c2 := hSw.2.2.1; have c3 := hSw.2.2.2.1; have c4 := hSw.2.2.2.2.1; have c5 := hSw.2.2.2.2.2; go_simp
        first | done | with_reducible rfl
      refine wpAnyH_takeA (i := 3) (some 33) (v := ?_) rfl rfl (by as_aux_lemma => kernel_rfl) (by as_aux_lemma => kernel_rfl) (by as_aux_lemma => kernel_rfl) (fun _ _ _ h => h) (Or.inl ⟨by kernel_rfl, ?_⟩) hS ?_
      rotate_left
      · intro w hSw; have c1 := hSw.2.1; have c2 := hSw.2.2.1; have c3 := hSw.2.2.2.1; have c4 := hSw.2.2.2.2.1; have c5 := hSw.2.2.2.2.2; go_simp
        first | done | with_reducible rfl
      refine wpAnyH_takeA (i := 4) (some 34) (v := ?_) rfl rfl (by as_aux_lemma => kernel_rfl) (by as_aux_lemma => kernel_rfl) (by as_aux_lemma => kernel_rfl) (fun _ _ _ h => h) (Or.inl ⟨by kernel_rfl, ?_⟩) hS ?_
      rotate_left
      · intro w hSw; have c1 := hSw.2.1; have c2 := hSw.2.2.1; have c3 := hSw.2.2.2.1; have c4 := hSw.2.2.2.2.1; have c5 := hSw.2.2.2.2.2; go_simp
        first | done | with_reducible rfl
      refine wpAnyH_takeA (i := 5) (some 35) (v := ?_) rfl rfl (by as_aux_lemma => kernel_rfl) (by as_aux_lemma => kernel_rfl) (by as_aux_lemma => kernel_rfl) (fun _ _ _ h => h) (Or.inl ⟨by kernel_rfl, ?_⟩) hS ?_
      rotate_left
      · intro w hSw; have c1 := hSw.2.1; have c2 := hSw.2.2.1; have c3 := hSw.2.2.2.1; have c4 := hSw.2.2.2.2.1; have c5 := hSw.2.2.2.2.2; go_simp
        first | done | with_reducible rfl
      refine wpAnyH_ready (rs := [1]) (by as_aux_lemma => kernel_rfl) (by simp) ?_
      refine AllReadyH.cons rfl (fun K hK => ?_) AllReadyH.nil
      go_simp
      refine hK.out _ _ hC1 (fun hS => ?_)
      clear hK K
      refine wpAnyH_ready (rs := [6]) (by as_aux_lemma => kernel_rfl) (by simp) ?_
      refine AllReadyH.cons rfl (fun K hK => ?_) AllReadyH.nil
      go_simp
      go_wp2_with (go_at_call 12; refine HDo.out.mono ?_; rintro e w3 ⟨a3, c3, S3, R3, rfl, hS3, hR3, hsim3, h643, g3⟩)
      replace g3 : wr.grownBy w3 (some w.heap.size) := ⟨g3.os, g3.tape, g3.output, g3.size, g3.block⟩
      have hrb3 := hBo.2.2.2.2.2.kept (w' := w3) g3 (fun e => by have := Option.some.inj e; omega)
      have hC3 : AcC w3 b1 (o1 + k * 5) xk := AcC.turn (w := wr) hC1 g3 (by omega)
      refine hK.out _ _ hC3 (fun hS => ?_)
      clear hK K
      refine wpAnyH_takeA (i := 7) (some 29) (v := ?_) rfl rfl (by as_aux_lemma => kernel_rfl) (by as_aux_lemma => kernel_rfl) (by as_aux_lemma => kernel_rfl) (fun _ _ _ h => h) (Or.inl ⟨by kernel_rfl, ?_⟩) hS ?_
      rotate_left
      · intro w hSw; have c1 := hSw.2.1; have c2 := hSw.2.2.1; have c3 := hSw.2.2.2.1; have c4 := hSw.2.2.2.2.1; have c5 := hSw.2.2.2.2.2; go_simp
        first | done | with_reducible rfl
      refine wpAnyH_takeA (i := 8) (some 37) (v := ?_) rfl rfl (by as_aux_lemma => kernel_rfl) (by as_aux_lemma => kernel_rfl) (by as_aux_lemma => kernel_rfl) (fun _ _ _ h => h) (Or.inl ⟨by kernel_rfl, ?_⟩) hS ?_
      rotate_left
      · intro w hSw; have c1 := hSw.2.1; have c2 := hSw.2.2.1; have c3 := hSw.2.2.2.1; have c4 := hSw.2.2.2.2.1; have c5 := hSw.2.2.2.2.2; go_simp
        first | done | with_reducible rfl
      refine wpAnyH_takeA (i := 9) (some 38) (v := ?_) rfl rfl (by as_aux_lemma => kernel_rfl) (by as_aux_lemma => kernel_rfl) (by as_aux_lemma => kernel_rfl) (fun _ _ _ h => h) (Or.inl ⟨by kernel_rfl, ?_⟩) hS ?_
      rotate_left
      · intro w hSw; have c1 := hSw.2.1; have c2 := hSw.2.2.1; have c3 := hSw.2.2.2.1; have c4 := hSw.2.2.2.2.1; have c5 := hSw.2.2.2.2.2; go_simp
        first | done | with_reducible rfl
      have f0 := hrb3.c0; have ff0 := hrb3.f 0
      refine wpAnyH_ready (rs := [10]) (by as_aux_lemma => kernel_rfl) (by simp) ?_
      refine AllReadyH.cons rfl (fun K hK => ?_) AllReadyH.nil
      go_simp
      refine hK.out _ _ ?_ (fun hS => ?_)
      · exact hC3.other (by omega)
      clear hK K
      refine wpAnyH_done (by kernel_rfl) ?_ _
      have hBo3 := Both.play (w := wr) hBo (by omega) hS3 hR3 hsim3 h643 g3
      have hB3 : Below w.heap.size w (w3.setCell ⟨RB, 0, none⟩ (.slice a3 R3.length c3)) := (HB.out.grown (w := wr) g3 HB.out.size (fun j e => by obtain rfl := Option.some.inj e; exact Nat.le_refl _)).setCell (p := ⟨RB, 0, none⟩) (by show w.heap.size ≤ RB; omega) _

      have HBo3 := Lib.hid hBo3
      have HB3 := Lib.hid hB3
      clear hcr hBo3 hB3 hS hS3 hR3 hsim3 h643 g3 hrb3 hC3 f0 ff0 hBo hC1 HDo HBo HB
      generalize R3.length = n3 at *
      go_simp
      go_wp2
      go_roundw
      case rel => exact ⟨k + 1, S3, a3, n3, c3, R3, by omega, by go_num, HBo3, HB3⟩
      case measure => simp [intOf]; omega
    · have hkl : ¬ (k : Int) < (m : Int) := by omega
      have hBo := HBo.out
      have HFo := Lib.hid (aFork_any _ _ S wr.drew hBo.2.1 hBo.2.2.2.2.1)
      have HFo2 := Lib.hid (aFork_any _ _ S (wr.alloc (.cells #[.slice none 0 0] 29)).drew (hBo.2.1.below ((Below.refl wr.heap.size wr).alloc (Nat.le_refl _) _).drew (Nat.le_refl _)) hBo.2.2.2.2.1)
      have hwr : RB < wr.heap.size := ltA hBo.2.2.2.2.2
      have HB0 := Lib.hid HB.out
      clear HBo
      go_wp2_with fail
      refine wp_region_any (by kernel_rfl) ?_
      change wpAny _ _ _ _ _ _ _ (World.drew _)
      have hS : (fun w' : World => RsBlk w' RB a n c) wr.drew := hBo.2.2.2.2.2
      refine wpAny_of_held (S := fun w' => RsBlk w' RB a n c) _ _ _ _ ?_
      refine wpAnyH_takeA (i := 0) (some 39) (v := ?_) rfl rfl (by as_aux_lemma => kernel_rfl) (by as_aux_lemma => kernel_rfl) (by as_aux_lemma => kernel_rfl) (fun _ _ _ h => h) (Or.inl ⟨by kernel_rfl, ?_⟩) hS ?_
      rotate_left
      · intro w hSw; have c0 := hSw.c0; go_simp
        first | done | with_reducible rfl
      refine wpAnyH_takeA (i := 2) (some 41) (v := ?_) rfl rfl (by as_aux_lemma => kernel_rfl) (by as_aux_lemma => kernel_rfl) (by as_aux_lemma => kernel_rfl) (fun _ _ _ h => h) (Or.inl ⟨by kernel_rfl, ?_⟩) hS ?_
      rotate_left
      · intro w hSw; have c0 := hSw.c0; go_simp
        first | done | with_reducible rfl
      refine wpAnyH_ready (rs := [1, 3]) (by as_aux_lemma => kernel_rfl) (by simp) ?_
      refine AllReadyH.cons rfl (fun K hK => ?_) (AllReadyH.cons rfl (fun K hK => ?_) AllReadyH.nil)
      · go_simp
        go_wp2_with (go_at_call 22; refine HFo.out.mono ?_; rintro e w4 ⟨F, ⟨rfl, hF4, hsF⟩, q4⟩)
        replace q4 : Below wr.heap.size wr w4 := (Below.refl wr.heap.size wr).drew.trans q4
        have hB4 := hBo.below q4
        refine hK.out _ _ hB4.2.2.2.2.2 (fun hS => ?_)
        clear hK K
        have d5 := (Below.refl w4.heap.size w4).alloc (Nat.le_refl _) (.cells #[.slice a n c] 29)
        have d5' := (Below.refl w4.heap.size w4).alloc (Nat.le_refl _) (.cells #[.slice none 0 0] 29)
        refine wpAnyH_ready (rs := [3]) (by as_aux_lemma => kernel_rfl) (by simp) ?_
        refine AllReadyH.cons rfl (fun K hK => ?_) AllReadyH.nil
        go_simp
        refine hK.out _ _ (hB4.below d5').2.2.2.2.2 (fun hS => ?_)
        clear hK K
        refine wpAnyH_takeA (i := 4) (some 8) (v := ?_) rfl rfl (by as_aux_lemma => kernel_rfl) (by as_aux_lemma => kernel_rfl) (by as_aux_lemma => kernel_rfl) (fun _ _ _ h => h) (Or.inl ⟨by kernel_rfl, ?_⟩) hS ?_
        rotate_left
        · intro w hSw; have c0 := hSw.c0; go_simp
          first | done | with_reducible rfl
        refine wpAnyH_ready (rs := [5]) (by as_aux_lemma => kernel_rfl) (by simp) ?_
        refine AllReadyH.cons rfl (fun K hK => ?_) AllReadyH.nil
        go_simp
        refine hK.out _ _ (hB4.below d5).2.2.2.2.2 (fun hS => ?_)
        clear hK K
        refine wpAnyH_takeA (i := 6) (some 10) (v := ?_) rfl rfl (by as_aux_lemma => kernel_rfl) (by as_aux_lemma => kernel_rfl) (by as_aux_lemma => kernel_rfl) (fun _ _ _ h => h) (Or.inl ⟨by kernel_rfl, ?_⟩) hS ?_
        rotate_left
        · intro w hSw; have c0 := hSw.c0; go_simp
          first | done | with_reducible rfl
        refine wpAnyH_done (by kernel_rfl) ?_ _
        have hB5 := hB4.below d5
        have hF5 := hF4.below d5 (Nat.le_refl _)
        have hlF : F.length = S.length := hsF.len
        have hk5 := RsBlk.new w4 a n c
        have HFk : Hid (Both (w4.alloc (.cells #[.slice a n c] 29)) (w.heap.size + 1) w.heap.size RB S a n c R ∧ Both (w4.alloc (.cells #[.slice a n c] 29)) (wr.heap.size + 1) wr.heap.size w4.heap.size F a n c R ∧ Below w.heap.size w (w4.alloc (.cells #[.slice a n c] 29))) := Lib.hid ⟨hB5, ⟨hB5.1, hF5, hB5.2.2.1, Eq.trans hsF hB5.2.2.2.1, by rw [hlF]; exact hB5.2.2.2.2.1, hk5⟩, (HB0.out.trans (q4.mono HB0.out.size)).trans (d5.mono (Nat.le_trans HB0.out.size q4.size))⟩
        have hq4 : wr.heap.size + 1 < w4.heap.size := ltA hF4.1
        have hbm2 : w.heap.size ≤ wr.heap.size := HB0.out.size
        clear hB4 hB5 hF4 hF5 hsF hlF hk5 d5 d5' q4 hS hBo HFo HFo2 HB0 HB
        generalize hw5 : (w4.alloc (.cells #[.slice a n c] 29)) = w5 at *
        clear hw5
        obtain ⟨RB2, hRB2⟩ : ∃ x, x = w4.heap.size := ⟨_, rfl⟩
        obtain ⟨bm2, hbb⟩ : ∃ x, x = wr.heap.size := ⟨_, rfl⟩
        rw [← hRB2, ← hbb] at HFk ⊢
        have hq5 : bm2 + 1 < RB2 := by omega
        rw [← hbb] at hbm2 hwr
        clear hRB2 hbb hq4
        obtain ⟨sb2, hsb2⟩ : ∃ x, x = bm2 + 1 := ⟨_, rfl⟩
        rw [← hsb2] at HFk ⊢
        clear hsb2
        obtain ⟨So, hSo⟩ : ∃ x, x = S := ⟨_, rfl⟩
        obtain ⟨Ro, hRo⟩ : ∃ x, x = R := ⟨_, rfl⟩
        rw [← hSo, ← hRo] at HFk
        clear hSo hRo
        generalize a = ao at *
        generalize n = no at *
        generalize c = co at *
        obtain ⟨hBo0, HBf, hB0⟩ := HFk.out
        clear HFk
        have HB0 := Lib.hid hB0
        have HBo0 := Lib.hid hBo0
        have HBF := Lib.hid HBf
        clear hBo0 HBf hB0
        go_simp
        go_wp2
        go_loopw [11] (fun i wr => ∃ (k : Nat) (S : List Rw) (a : Option Addr) (n c : Nat) (R : List Rw), k ≤ m2 ∧ i = .int .i64 k ∧ Hid (Both wr (w.heap.size + 1) w.heap.size RB So ao no co Ro ∧ Both wr sb2 bm2 RB2 S a n c R) ∧ Hid (Below w.heap.size w wr)) (fun i _ => m2 - (intOf i).toNat)
        case atStart => exact ⟨0, F, ao, no, co, Ro, Nat.zero_le _, rfl, Lib.hid ⟨HBo0.out, HBF.out⟩, HB0⟩
        case round =>
          clear HBo0 HBF HB0
          obtain ⟨k, S, a, n, c, R, hk, rfl, HBB, HB⟩ := hrel
          by_cases hlt : k < m2
          · have hkl : (k : Int) < (m2 : Int) := by omega
            obtain ⟨hml, hl, hok⟩ := HLm.out
            have hkl2 : k < lm.length := by omega
            obtain ⟨b1, o1, rfl, hC0, hp0⟩ := hl.c k hkl2
            have hb1 : b1 < w.heap.size := hC0.1
            have hC1 := hC0.below HB.out (Nat.le_refl _)
            have hBo := HBB.out.2
            have hBs := HBB.out.1
            have HDo := Lib.hid (awDo_any _ _ S a c R lm[k] wr.drew hBo.2.1 hBo.2.2.1 hBo.2.2.2.1 hBo.2.2.2.2.1 w.heap.size HB.out.size hbm2 (HV.out.on HB.out.drew) (hp0.below HB.out.drew (Nat.le_refl _)) (hok _ (List.getElem_mem hkl2)) (HF2.out.2 _ (List.getElem_mem hkl2)))
            rw [← hBo.1] at HDo
            clear hml hl hok hC0 hp0
            generalize lm[k] = xk at *
            go_wp2_with fail
            refine wp_region_any (by kernel_rfl) ?_
            change wpAny _ _ _ _ _ _ _ (World.drew _)
            have hcr := hBo.2.2.2.2.2.c0
            have hS : (fun w' : World => AcC w' b1 (o1 + k * 5) xk) wr.drew := hC1
            refine wpAny_of_held (S := fun w' => AcC w' b1 (o1 + k * 5) xk) _ _ _ _ ?_
            refine wpAnyH_takeA (i := 0) (some 51) (v := ?_) rfl rfl (by as_aux_lemma => kernel_rfl) (by as_aux_lemma => kernel_rfl) (by as_aux_lemma => kernel_rfl) (fun _ _ _ h => h) (Or.inl ⟨by kernel_rfl, ?_⟩) hS ?_
            rotate_left
            · intro w hSw; have c1 := hSw.2.1; have c2 := hSw.2.2.1; have c3 := hSw.2.2.2.1; have c4 := hSw.2.2.2.2.1; have c5 := hSw.2.2.2.2.2; go_simp
              first | done | with_reducible rfl
            refine wpAnyH_takeA (i := 2) (some 53) (v := ?_) rfl rfl (by as_aux_lemma => kernel_rfl) (by as_aux_lemma => kernel_rfl) (by as_aux_lemma => kernel_rfl) (fun _ _ _ h => h) (Or.inl ⟨by kernel_rfl, ?_⟩) hS ?_
            rotate_left
            · intro w hSw; have c1 := hSw.2.1; have c2 := hSw.2.2.1; have c3 := hSw.2.2.2.1; have c4 := hSw.2.2.2.2.1; have c5 := hSw.2.2.2.2.2; go_simp
              first | done | with_reducible rfl
            refine wpAnyH_takeA (i := 3) (some 54) (v := ?_) rfl rfl (by as_aux_lemma => kernel_rfl) (by as_aux_lemma => kernel_rfl) (by as_aux_lemma => kernel_rfl) (fun _ _ _ h => h) (Or.inl ⟨by kernel_rfl, ?_⟩) hS ?_
            rotate_left
            · intro w hSw; have c1 := hSw.2.1; have c2 := hSw.2.2.1; have c3 := hSw.2.2.2.1; have c4 := hSw.2.2.2.2.1; have c5 := hSw.2.2.2.2.2; go_simp
              first | done | with_reducible rfl
            refine wpAnyH_takeA (i := 4) (some 55) (v := ?_) rfl rfl (by as_aux_lemma => kernel_rfl) (by as_aux_lemma => kernel_rfl) (by as_aux_lemma => kernel_rfl) (fun _ _ _ h => h) (Or.inl ⟨by kernel_rfl, ?_⟩) hS ?_
            rotate_left
            · intro w hSw; have c1 := hSw.2.1; have c2 := hSw.2.2.1; have c3 := hSw.2.2.2.1; have c4 := hSw.2.2.2.2.1; have c5 := hSw.2.2.2.2.2; go_simp
              first | done | with_reducible rfl
            refine wpAnyH_takeA (i := 5) (some 56) (v := ?_) rfl rfl (by as_aux_lemma => kernel_rfl) (by as_aux_lemma => kernel_rfl) (by as_aux_lemma => kernel_rfl) (fun _ _ _ h => h) (Or.inl ⟨by kernel_rfl, ?_⟩) hS ?_
            rotate_left
            · intro w hSw; have c1 := hSw.2.1; have c2 := hSw.2.2.1; have c3 := hSw.2.2.2.1; have c4 := hSw.2.2.2.2.1; have c5 := hSw.2.2.2.2.2; go_simp
              first | done | with_reducible rfl
            refine wpAnyH_ready (rs := [1]) (by as_aux_lemma => kernel_rfl) (by simp) ?_
            refine AllReadyH.cons rfl (fun K hK => ?_) AllReadyH.nil
            go_simp
            refine hK.out _ _ hC1 (fun hS => ?_)
            clear hK K
            refine wpAnyH_ready (rs := [6]) (by as_aux_lemma => kernel_rfl) (by simp) ?_
            refine AllReadyH.cons rfl (fun K hK => ?_) AllReadyH.nil
            go_simp
            go_wp2_with (go_at_call 12; refine HDo.out.mono ?_; rintro e w3 ⟨a3, c3, S3, R3, rfl, hS3, hR3, hsim3, h643, g3⟩)
            replace g3 : wr.grownBy w3 (some bm2) := ⟨g3.os, g3.tape, g3.output, g3.size, g3.block⟩
            have hrb3 := hBo.2.2.2.2.2.kept (w' := w3) g3 (fun e => by have := Option.some.inj e; omega)
            have hC3 : AcC w3 b1 (o1 + k * 5) xk := AcC.turn (w := wr) hC1 g3 (by omega)
            refine hK.out _ _ hC3 (fun hS => ?_)
            clear hK K
            refine wpAnyH_takeA (i := 7) (some 50) (v := ?_) rfl rfl (by as_aux_lemma => kernel_rfl) (by as_aux_lemma => kernel_rfl) (by as_aux_lemma => kernel_rfl) (fun _ _ _ h => h) (Or.inl ⟨by kernel_rfl, ?_⟩) hS ?_
            rotate_left
            · intro w hSw; have c1 := hSw.2.1; have c2 := hSw.2.2.1; have c3 := hSw.2.2.2.1; have c4 := hSw.2.2.2.2.1; have c5 := hSw.2.2.2.2.2; go_simp
              first | done | with_reducible rfl
            refine wpAnyH_takeA (i := 8) (some 58) (v := ?_) rfl rfl (by as_aux_lemma => kernel_rfl) (by as_aux_lemma => kernel_rfl) (by as_aux_lemma => kernel_rfl) (fun _ _ _ h => h) (Or.inl ⟨by kernel_rfl, ?_⟩) hS ?_
            rotate_left
            · intro w hSw; have c1 := hSw.2.1; have c2 := hSw.2.2.1; have c3 := hSw.2.2.2.1; have c4 := hSw.2.2.2.2.1; have c5 := hSw.2.2.2.2.2; go_simp
              first | done | with_reducible rfl
            refine wpAnyH_takeA (i := 9) (some 59) (v := ?_) rfl rfl (by as_aux_lemma => kernel_rfl) (by as_aux_lemma => kernel_rfl) (by as_aux_lemma => kernel_rfl) (fun _ _ _ h => h) (Or.inl ⟨by kernel_rfl, ?_⟩) hS ?_
            rotate_left
            · intro w hSw; have c1 := hSw.2.1; have c2 := hSw.2.2.1; have c3 := hSw.2.2.2.1; have c4 := hSw.2.2.2.2.1; have c5 := hSw.2.2.2.2.2; go_simp
              first | done | with_reducible rfl
            have f0 := hrb3.c0; have ff0 := hrb3.f 0
            refine wpAnyH_ready (rs := [10]) (by as_aux_lemma => kernel_rfl) (by simp) ?_
            refine AllReadyH.cons rfl (fun K hK => ?_) AllReadyH.nil
            go_simp
            refine hK.out _ _ ?_ (fun hS => ?_)
            · exact hC3.other (by omega)
            clear hK K
            refine wpAnyH_takeA (i := 11) (some 10) (v := ?_) rfl rfl (by as_aux_lemma => kernel_rfl) (by as_aux_lemma => kernel_rfl) (by as_aux_lemma => kernel_rfl) (fun _ _ _ h => h) (Or.inl ⟨by kernel_rfl, ?_⟩) hS ?_
            rotate_left
            · intro w hSw; have c1 := hSw.2.1; go_simp
              first | done | with_reducible rfl
            refine wpAnyH_done (by kernel_rfl) ?_ _
            have hBo3 := Both.play (w := wr) hBo (by omega) hS3 hR3 hsim3 h643 g3
            have hB3 : Below w.heap.size w (w3.setCell ⟨RB2, 0, none⟩ (.slice a3 R3.length c3)) := (HB.out.grown (w := wr) g3 HB.out.size (fun j e => by obtain rfl := Option.some.inj e; exact hbm2)).setCell (p := ⟨RB2, 0, none⟩) (by show w.heap.size ≤ RB2; omega) _
            have hBs3 := (hBs.keep g3 hBo.2.1.2.1 (by omega)).keepSet hrb3 (v := .slice a3 R3.length c3) (by omega)
            have HBB3 := Lib.hid (And.intro hBs3 hBo3)
            have HB3 := Lib.hid hB3
            clear hcr hBo3 hB3 hBs3 hBs hS hS3 hR3 hsim3 h643 g3 hrb3 hC3 f0 ff0 hBo hC1 HDo HBB HB
            generalize R3.length = n3 at *
            go_simp
            go_wp2
            go_roundw
            case rel => exact ⟨k + 1, S3, a3, n3, c3, R3, by omega, by go_num, HBB3, HB3⟩
            case measure => simp [intOf]; omega
          · have hkl : ¬ (k : Int) < (m2 : Int) := by omega
            obtain ⟨hBs, hBf⟩ := HBB.out
            have HS1 := Lib.hid (awSame_any _ _ S a c R 5 wr hBf.2.1 hBf.2.2.1 hBf.2.2.2.1 hBf.2.2.2.2.1 n hBf.1)
            have HS2 := Lib.hid (fun u (q : Below wr.heap.size wr u) => awSame_any _ _ So ao co Ro 5 u (hBs.2.1.below q (Nat.le_refl _)) (hBs.2.2.1.below q (Nat.le_refl _)) hBs.2.2.2.1 hBs.2.2.2.2.1 no hBs.1)
            have f0 := hBf.2.2.2.2.2.c0
            have HRb := Lib.hid hBs.2.2.2.2.2
            clear hBs hBf HBB
            go_wp2_with (go_at_call 13; refine HS1.out.mono ?_; rintro e w5 ⟨rfl, q5⟩; refine Hid.out ?_)
            refine Lib.hid ?_
            have HS5 := Lib.hid (HS2.out w5 q5)
            have f1 := (HRb.out.below q5 (ltA HRb.out)).c0
            have HB5 := Lib.hid (HB.out.trans (q5.mono HB.out.size))
            clear q5 f0 HS1 HS2 HB HRb
            go_wp2_with (go_at_call 13; refine HS5.out.mono ?_; rintro e w6 ⟨rfl, q6⟩; refine Hid.out ?_)
            refine Lib.hid ?_
            have b6 := HB5.out.trans (q6.mono HB5.out.size)
            have HA8 := Lib.hid (HAw.out w6 b6)
            have HB6 := Lib.hid b6
            clear q6 b6 HS5 f1 HB5
            go_wp2_with (go_at_call 10; refine HA8.out.mono ?_; rintro e w9 ⟨rfl, q9⟩)
            go_ret
            exact ⟨rfl, HB6.out.trans (q9.mono HB6.out.size)⟩
      · go_simp
        have d4 := (Below.refl wr.heap.size wr).alloc (Nat.le_refl _) (.cells #[.slice none 0 0] 29)
        have hB4 := hBo.below d4
        have hk4 := RsBlk.new wr none 0 0
        refine hK.out _ _ hB4.2.2.2.2.2 (fun hS => ?_)
        clear hK K
        refine wpAnyH_ready (rs := [1]) (by as_aux_lemma => kernel_rfl) (by simp) ?_
        refine AllReadyH.cons rfl (fun K hK => ?_) AllReadyH.nil
        go_simp
        go_wp2_with (go_at_call 22; refine HFo2.out.mono ?_; rintro e w5 ⟨F, ⟨rfl, hF5, hsF⟩, q5⟩)
        have sz4 : (wr.alloc (.cells #[.slice none 0 0] 29)).drew.heap.size = wr.heap.size + 1 := by simp
        rw [sz4] at hF5
        replace q5 : Below (wr.alloc (.cells #[.slice none 0 0] 29)).heap.size (wr.alloc (.cells #[.slice none 0 0] 29)) w5 := (Below.refl _ _).drew.trans q5
        have hB5 := hB4.below q5
        have hk5 := hk4.below q5 (by simp)
        refine hK.out _ _ hB5.2.2.2.2.2 (fun hS => ?_)
        clear hK K
        refine wpAnyH_takeA (i := 4) (some 8) (v := ?_) rfl rfl (by as_aux_lemma => kernel_rfl) (by as_aux_lemma => kernel_rfl) (by as_aux_lemma => kernel_rfl) (fun _ _ _ h => h) (Or.inl ⟨by kernel_rfl, ?_⟩) hS ?_
        rotate_left
        · intro w hSw; have c0 := hSw.c0; go_simp
          first | done | with_reducible rfl
        have f5 := hk5.c0; have ff5 := hk5.f 0
        have hg6 := gSet w5 wr.heap.size 0 (.slice a n c)
        have hB6 := hB5.keepSet hk5 (v := .slice a n c) (by omega)
        refine wpAnyH_ready (rs := [5]) (by as_aux_lemma => kernel_rfl) (by simp) ?_
        refine AllReadyH.cons rfl (fun K hK => ?_) AllReadyH.nil
        go_simp
        refine hK.out _ _ hB6.2.2.2.2.2 (fun hS => ?_)
        clear hK K
        refine wpAnyH_takeA (i := 6) (some 10) (v := ?_) rfl rfl (by as_aux_lemma => kernel_rfl) (by as_aux_lemma => kernel_rfl) (by as_aux_lemma => kernel_rfl) (fun _ _ _ h => h) (Or.inl ⟨by kernel_rfl, ?_⟩) hS ?_
        rotate_left
        · intro w hSw; have c0 := hSw.c0; go_simp
          first | done | with_reducible rfl
        refine wpAnyH_done (by kernel_rfl) ?_ _
        have hF6 := hF5.past hg6 hk5
        have hlF : F.length = S.length := hsF.len
        have hk6 := hk5.set (a' := a) (n' := n) (c' := c)
        have hb6 : Below w.heap.size w (w5.setCell ⟨wr.heap.size, 0, none⟩ (.slice a n c)) := ((HB0.out.trans (d4.mono HB0.out.size)).trans (q5.mono (Nat.le_trans HB0.out.size d4.size))).setCell (p := ⟨wr.heap.size, 0, none⟩) HB0.out.size _
        have HFk : Hid (Both (w5.setCell ⟨wr.heap.size, 0, none⟩ (.slice a n c)) (w.heap.size + 1) w.heap.size RB S a n c R ∧ Both (w5.setCell ⟨wr.heap.size, 0, none⟩ (.slice a n c)) (wr.heap.size + 1 + 1) (wr.heap.size + 1) wr.heap.size F a n c R ∧ Below w.heap.size w (w5.setCell ⟨wr.heap.size, 0, none⟩ (.slice a n c))) := Lib.hid ⟨hB6, ⟨hB6.1, hF6, hB6.2.2.1, Eq.trans hsF hB6.2.2.2.1, by rw [hlF]; exact hB6.2.2.2.2.1, hk6⟩, hb6⟩
        have hbm2 : w.heap.size ≤ wr.heap.size + 1 := Nat.le_succ_of_le HB0.out.size
        clear hB4 hB5 hB6 hF5 hF6 hsF hlF hk4 hk5 hk6 d4 q5 hS hBo HFo HFo2 HB0 HB f5 ff5 hg6 hb6 sz4
        generalize hw6 : (w5.setCell ⟨wr.heap.size, 0, none⟩ (.slice a n c)) = w6 at *
        clear hw6
        obtain ⟨RB2, hRB2⟩ : ∃ x, x = wr.heap.size := ⟨_, rfl⟩
        rw [← hRB2] at HFk hbm2 hwr ⊢
        clear hRB2
        obtain ⟨bm2, hbb⟩ : ∃ x, x = RB2 + 1 := ⟨_, rfl⟩
        rw [← hbb] at HFk hbm2 ⊢
        have hq5 : RB2 + 1 = bm2 := hbb.symm
        have HQ5 := Lib.hid hq5
        have hq6 : RB2 < bm2 := by omega
        clear hbb hq5
        obtain ⟨sb2, hsb2⟩ : ∃ x, x = bm2 + 1 := ⟨_, rfl⟩
        rw [← hsb2] at HFk ⊢
        clear hsb2
        obtain ⟨So, hSo⟩ : ∃ x, x = S := ⟨_, rfl⟩
        obtain ⟨Ro, hRo⟩ : ∃ x, x = R := ⟨_, rfl⟩
        rw [← hSo, ← hRo] at HFk
        clear hSo hRo
        generalize a = ao at *
        generalize n = no at *
        generalize c = co at *
        obtain ⟨hBo0, HBf, hB0⟩ := HFk.out
        clear HFk
        have HB0 := Lib.hid hB0
        have HBo0 := Lib.hid hBo0
        have HBF := Lib.hid HBf
        clear hBo0 HBf hB0
        go_simp
        go_wp2
        go_loopw [11] (fun i wr => ∃ (k : Nat) (S : List Rw) (a : Option Addr) (n c : Nat) (R : List Rw), k ≤ m2 ∧ i = .int .i64 k ∧ Hid (Both wr (w.heap.size + 1) w.heap.size RB So ao no co Ro ∧ Both wr sb2 bm2 RB2 S a n c R) ∧ Hid (Below w.heap.size w wr)) (fun i _ => m2 - (intOf i).toNat)
        case atStart => exact ⟨0, F, ao, no, co, Ro, Nat.zero_le _, rfl, Lib.hid ⟨HBo0.out, HBF.out⟩, HB0⟩
        case round =>
          clear HBo0 HBF HB0
          obtain ⟨k, S, a, n, c, R, hk, rfl, HBB, HB⟩ := hrel
          by_cases hlt : k < m2
          · have hkl : (k : Int) < (m2 : Int) := by omega
            obtain ⟨hml, hl, hok⟩ := HLm.out
            have hkl2 : k < lm.length := by omega
            obtain ⟨b1, o1, rfl, hC0, hp0⟩ := hl.c k hkl2
            have hb1 : b1 < w.heap.size := hC0.1
            have hC1 := hC0.below HB.out (Nat.le_refl _)
            have hBo := HBB.out.2
            have hBs := HBB.out.1
            have HDo := Lib.hid (awDo_any _ _ S a c R lm[k] wr.drew hBo.2.1 hBo.2.2.1 hBo.2.2.2.1 hBo.2.2.2.2.1 w.heap.size HB.out.size hbm2 (HV.out.on HB.out.drew) (hp0.below HB.out.drew (Nat.le_refl _)) (hok _ (List.getElem_mem hkl2)) (HF2.out.2 _ (List.getElem_mem hkl2)))
            rw [← hBo.1] at HDo
            clear hml hl hok hC0 hp0
            generalize lm[k] = xk at *
            go_wp2_with fail
            refine wp_region_any (by kernel_rfl) ?_
            change wpAny _ _ _ _ _ _ _ (World.drew _)
            have hcr := hBo.2.2.2.2.2.c0
            have hS : (fun w' : World => AcC w' b1 (o1 + k * 5) xk) wr.drew := hC1
            refine wpAny_of_held (S := fun w' => AcC w' b1 (o1 + k * 5) xk) _ _ _ _ ?_
            refine wpAnyH_takeA (i := 0) (some 51) (v := ?_) rfl rfl (by as_aux_lemma => kernel_rfl) (by as_aux_lemma => kernel_rfl) (by as_aux_lemma => kernel_rfl) (fun _ _ _ h => h) (Or.inl ⟨by kernel_rfl, ?_⟩) hS ?_
            rotate_left
            · intro w hSw; have c1 := hSw.2.1; have c2 := hSw.2.2.1; have c3 := hSw.2.2.2.1; have c4 := hSw.2.2.2.2.1; have c5 := hSw.2.2.2.2.2; go_simp
              first | done | with_reducible rfl
            refine wpAnyH_takeA (i := 2) (some 53) (v := ?_) rfl rfl (by as_aux_lemma => kernel_rfl) (by as_aux_lemma => kernel_rfl) (by as_aux_lemma => kernel_rfl) (fun _ _ _ h => h) (Or.inl ⟨by kernel_rfl, ?_⟩) hS ?_
            rotate_left
            · intro w hSw; have c1 := hSw.2.1; have c2 := hSw.2.2.1; have c3 := hSw.2.2.2.1; have c4 := hSw.2.2.2.2.1; have c5 := hSw.2.2.2.2.2; go_simp
              first | done | with_reducible rfl
            refine wpAnyH_takeA (i := 3) (some 54) (v := ?_) rfl rfl (by as_aux_lemma => kernel_rfl) (by as_aux_lemma => kernel_rfl) (by as_aux_lemma => kernel_rfl) (fun _ _ _ h => h) (Or.inl ⟨by kernel_rfl, ?_⟩) hS ?_
            rotate_left
            · intro w hSw; have c1 := hSw.2.1; have c2 := hSw.2.2.1; have c3 := hSw.2.2.2.1; have c4 := hSw.2.2.2.2.1; have c5 := hSw.2.2.2.2.2; go_simp
              first | done | with_reducible rfl
            refine wpAnyH_takeA (i := 4) (some 55) (v := ?_) rfl rfl (by as_aux_lemma => kernel_rfl) (by as_aux_lemma => kernel_rfl) (by as_aux_lemma => kernel_rfl) (fun _ _ _ h => h) (Or.inl ⟨by kernel_rfl, ?_⟩) hS ?_
            rotate_left
            · intro w hSw; have c1 := hSw.2.1; have c2 := hSw.2.2.1; have c3 := hSw.2.2.2.1; have c4 := hSw.2.2.2.2.1; have c5 := hSw.2.2.2.2.2; go_simp
              first | done | with_reducible rfl
            refine wpAnyH_takeA (i := 5) (some 56) (v := ?_) rfl rfl (by as_aux_lemma => kernel_rfl) (by as_aux_lemma => kernel_rfl) (by as_aux_lemma => kernel_rfl) (fun _ _ _ h => h) (Or.inl ⟨by kernel_rfl, ?_⟩) hS ?_
            rotate_left
            · intro w hSw; have c1 := hSw.2.1; have c2 := hSw.2.2.1; have c3 := hSw.2.2.2.1; have c4 := hSw.2.2.2.2.1; have c5 := hSw.2.2.2.2.2; go_simp
              first | done | with_reducible rfl
            refine wpAnyH_ready (rs := [1]) (by as_aux_lemma => kernel_rfl) (by simp) ?_
            refine AllReadyH.cons rfl (fun K hK => ?_) AllReadyH.nil
            go_simp
            refine hK.out _ _ hC1 (fun hS => ?_)
            clear hK K
            refine wpAnyH_ready (rs := [6]) (by as_aux_lemma => kernel_rfl) (by simp) ?_
            refine AllReadyH.cons rfl (fun K hK => ?_) AllReadyH.nil
            go_simp
            go_wp2_with (go_at_call 12; refine HDo.out.mono ?_; rintro e w3 ⟨a3, c3, S3, R3, rfl, hS3, hR3, hsim3, h643, g3⟩)
            replace g3 : wr.grownBy w3 (some bm2) := ⟨g3.os, g3.tape, g3.output, g3.size, g3.block⟩
            have hrb3 := hBo.2.2.2.2.2.kept (w' := w3) g3 (fun e => by have := Option.some.inj e; omega)
            have hC3 : AcC w3 b1 (o1 + k * 5) xk := AcC.turn (w := wr) hC1 g3 (by omega)
            refine hK.out _ _ hC3 (fun hS => ?_)
            clear hK K
            refine wpAnyH_takeA (i := 7) (some 50) (v := ?_) rfl rfl (by as_aux_lemma => kernel_rfl) (by as_aux_lemma => kernel_rfl) (by as_aux_lemma => kernel_rfl) (fun _ _ _ h => h) (Or.inl ⟨by kernel_rfl, ?_⟩) hS ?_
            rotate_left
            · intro w hSw; have c1 := hSw.2.1; have c2 := hSw.2.2.1; have c3 := hSw.2.2.2.1; have c4 := hSw.2.2.2.2.1; have c5 := hSw.2.2.2.2.2; go_simp
              first | done | with_reducible rfl
            refine wpAnyH_takeA (i := 8) (some 58) (v := ?_) rfl rfl (by as_aux_lemma => kernel_rfl) (by as_aux_lemma => kernel_rfl) (by as_aux_lemma => kernel_rfl) (fun _ _ _ h => h) (Or.inl ⟨by kernel_rfl, ?_⟩) hS ?_
            rotate_left
            · intro w hSw; have c1 := hSw.2.1; have c2 := hSw.2.2.1; have c3 := hSw.2.2.2.1; have c4 := hSw.2.2.2.2.1; have c5 := hSw.2.2.2.2.2; go_simp
              first | done | with_reducible rfl
            refine wpAnyH_takeA (i := 9) (some 59) (v := ?_) rfl rfl (by as_aux_lemma => kernel_rfl) (by as_aux_lemma => kernel_rfl) (by as_aux_lemma => kernel_rfl) (fun _ _ _ h => h) (Or.inl ⟨by kernel_rfl, ?_⟩) hS ?_
            rotate_left
            · intro w hSw; have c1 := hSw.2.1; have c2 := hSw.2.2.1; have c3 := hSw.2.2.2.1; have c4 := hSw.2.2.2.2.1; have c5 := hSw.2.2.2.2.2; go_simp
              first | done | with_reducible rfl
            have f0 := hrb3.c0; have ff0 := hrb3.f 0
            refine wpAnyH_ready (rs := [10]) (by as_aux_lemma => kernel_rfl) (by simp) ?_
            refine AllReadyH.cons rfl (fun K hK => ?_) AllReadyH.nil
            go_simp
            refine hK.out _ _ ?_ (fun hS => ?_)
            · exact hC3.other (by omega)
            clear hK K
            refine wpAnyH_takeA (i := 11) (some 10) (v := ?_) rfl rfl (by as_aux_lemma => kernel_rfl) (by as_aux_lemma => kernel_rfl) (by as_aux_lemma => kernel_rfl) (fun _ _ _ h => h) (Or.inl ⟨by kernel_rfl, ?_⟩) hS ?_
            rotate_left
            · intro w hSw; have c1 := hSw.2.1; go_simp
              first | done | with_reducible rfl
            refine wpAnyH_done (by kernel_rfl) ?_ _
            have hBo3 := Both.play (w := wr) hBo (by omega) hS3 hR3 hsim3 h643 g3
            have hB3 : Below w.heap.size w (w3.setCell ⟨RB2, 0, none⟩ (.slice a3 R3.length c3)) := (HB.out.grown (w := wr) g3 HB.out.size (fun j e => by obtain rfl := Option.some.inj e; exact hbm2)).setCell (p := ⟨RB2, 0, none⟩) (by show w.heap.size ≤ RB2; omega) _
            have hBs3 := (hBs.keep g3 hBo.2.1.2.1 (by omega)).keepSet hrb3 (v := .slice a3 R3.length c3) (by omega)
            have HBB3 := Lib.hid (And.intro hBs3 hBo3)
            have HB3 := Lib.hid hB3
            clear hcr hBo3 hB3 hBs3 hBs hS hS3 hR3 hsim3 h643 g3 hrb3 hC3 f0 ff0 hBo hC1 HDo HBB HB
            generalize R3.length = n3 at *
            go_simp
            go_wp2
            go_roundw
            case rel => exact ⟨k + 1, S3, a3, n3, c3, R3, by omega, by go_num, HBB3, HB3⟩
            case measure => simp [intOf]; omega
          · have hkl : ¬ (k : Int) < (m2 : Int) := by omega
            obtain ⟨hBs, hBf⟩ := HBB.out
            have HS1 := Lib.hid (awSame_any _ _ S a c R 5 wr hBf.2.1 hBf.2.2.1 hBf.2.2.2.1 hBf.2.2.2.2.1 n hBf.1)
            have HS2 := Lib.hid (fun u (q : Below wr.heap.size wr u) => awSame_any _ _ So ao co Ro 5 u (hBs.2.1.below q (Nat.le_refl _)) (hBs.2.2.1.below q (Nat.le_refl _)) hBs.2.2.2.1 hBs.2.2.2.2.1 no hBs.1)
            have f0 := hBf.2.2.2.2.2.c0
            have HRb := Lib.hid hBs.2.2.2.2.2
            clear hBs hBf HBB
            go_wp2_with (go_at_call 13; refine HS1.out.mono ?_; rintro e w5 ⟨rfl, q5⟩; refine Hid.out ?_)
            refine Lib.hid ?_
            have HS5 := Lib.hid (HS2.out w5 q5)
            have f1 := (HRb.out.below q5 (ltA HRb.out)).c0
            have HB5 := Lib.hid (HB.out.trans (q5.mono HB.out.size))
            clear q5 f0 HS1 HS2 HB HRb
            go_wp2_with (go_at_call 13; refine HS5.out.mono ?_; rintro e w6 ⟨rfl, q6⟩; refine Hid.out ?_)
            refine Lib.hid ?_
            have b6 := HB5.out.trans (q6.mono HB5.out.size)
            have HA8 := Lib.hid (HAw.out w6 b6)
            have HB6 := Lib.hid b6
            clear q6 b6 HS5 f1 HB5
            go_wp2_with (go_at_call 10; refine HA8.out.mono ?_; rintro e w9 ⟨rfl, q9⟩)
            go_ret
            exact ⟨rfl, HB6.out.trans (q9.mono HB6.out.size)⟩

end Go.Proofs.YtinohakjemjkhaaDoor
