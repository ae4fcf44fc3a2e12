/-
  The walk of AlertPlays.
-/
import Derived.Test.YtinohakjemjkhaaDoorA17
namespace Go.Proofs.YtinohakjemjkhaaDoor
open Go.RowKit

set_option maxRecDepth 100000 in
set_option maxHeartbeats 8000000 in
theorem plays_walk (a0 : Option Addr) (c0 : Nat) (l : List Ac) (now : Int) (w : World) (hv : TabOk w.heap.size w) (hl : AcsAt w a0 l) (hok : ∀ x ∈ l, AcOk x) (hn : l.length ≤ 9223372036854775807) :
    Calls Tryd.prog 3 #[.slice a0 l.length c0, .int .i64 now] w fun e w' => e = .returned (.bool true) ∧ Below w.heap.size w w' := by
  have HFw := Lib.hid (awFew_any a0 c0 l w hl hn)
  have HAw := Lib.hid (fun u (hb : Below w.heap.size w u) => aawake_any w.heap.size u hb.size (hv.on hb))
  have HNw := Lib.hid (aNew_st w)
  have HV := Lib.hid hv
  obtain ⟨m, hm⟩ : ∃ m, m = l.length := ⟨_, rfl⟩
  have HL := Lib.hid (And.intro hm (And.intro hl hok))
  rw [← hm] at HFw hn ⊢
  unfold FewPost at HFw
  clear hv hl hok hm
  by_cases hf : fewP l
  case neg =>
    go_enter Tryd.func3, Tryd.ntmps3
    go_wp2_with (go_at_call 9; refine HFw.out.mono ?_; rintro e w1 ⟨b, rfl, hb, hw1⟩; replace hw1 := hw1.symm; subst hw1; refine Hid.out ?_)
    refine Lib.hid ?_
    obtain rfl : b = false := by rw [← Bool.not_eq_true]; exact fun e => hf (hb.1 e)
    have HA1 := Lib.hid (HAw.out w (Below.refl _ _))
    clear hb
    go_wp2_with (go_at_call 10; refine HA1.out.mono ?_; rintro e w2 ⟨rfl, q2⟩)
    go_ret
    exact ⟨rfl, q2⟩
  case pos =>
  have HF := Lib.hid hf
  have hm80 : m ≤ 80 := by rw [HL.out.1]; exact hf.1
  go_enter Tryd.func3, Tryd.ntmps3
  go_wp2_with (go_at_call 9; refine HFw.out.mono ?_; rintro e w1 ⟨b, rfl, hb, hw1⟩; replace hw1 := hw1.symm; subst hw1; refine Hid.out ?_)
  refine Lib.hid ?_
  obtain rfl : b = true := hb.2 hf
  clear hb hf HFw
  go_wp2_with (go_at_call 11; refine HNw.out.mono ?_; rintro e wn ⟨rfl, hsn, qn⟩; refine Hid.out ?_)
  refine Lib.hid ?_
  have drn := (Below.refl wn.heap.size wn).alloc (Nat.le_refl _) (.cells #[.slice none 0 0] 29)
  have hrn := RsBlk.new wn none 0 0
  have hBn : Both (wn.alloc (.cells #[.slice none 0 0] 29)) (w.heap.size + 1) w.heap.size wn.heap.size [] none 0 0 [] := ⟨rfl, hsn.below drn (Nat.le_refl _), rs_nil _, rfl, by simp, hrn⟩
  have hwn : w.heap.size + 1 < wn.heap.size := ltA hsn.1
  have HBn := Lib.hid hBn
  have HBn2 := Lib.hid (qn.trans (drn.mono qn.size))
  clear drn hrn hBn hsn qn HNw
  obtain ⟨RB, hRB⟩ : ∃ RB, RB = wn.heap.size := ⟨_, rfl⟩
  have HRB := Lib.hid hRB
  rw [← hRB] at HBn hwn
  clear hRB
  go_wp2
  rw [← HRB.out]
  go_loopw [8] (fun i wr => ∃ (k : Nat) (S : List Rw) (a : Option Addr) (n c : Nat) (R : List Rw), k ≤ m ∧ i = .int .i64 k ∧ Hid (Both wr (w.heap.size + 1) w.heap.size RB S a n c R) ∧ Hid (Below w.heap.size w wr)) (fun i _ => m - (intOf i).toNat)
  case atStart => exact ⟨0, [], none, 0, 0, [], Nat.zero_le _, rfl, HBn, HBn2⟩
  case round =>
    clear HBn HBn2
    obtain ⟨k, S, a, n, c, R, hk, rfl, HBo, HB⟩ := hrel
    by_cases hlt : k < m
    · have hkl : (k : Int) < (m : Int) := by omega
      obtain ⟨hml, hl, hok⟩ := HL.out
      have hkl2 : k < l.length := by omega
      obtain ⟨b1, o1, rfl, hC0, hp0⟩ := hl.c k hkl2
      have hb1 : b1 < w.heap.size := hC0.1
      have hC1 := hC0.below HB.out (Nat.le_refl _)
      have hBo := HBo.out
      have HDo := Lib.hid (awDo_any _ _ S a c R l[k] wr.drew hBo.2.1 hBo.2.2.1 hBo.2.2.2.1 hBo.2.2.2.2.1 w.heap.size HB.out.size (Nat.le_refl _) (HV.out.on HB.out.drew) (hp0.below HB.out.drew (Nat.le_refl _)) (hok _ (List.getElem_mem hkl2)) (HF.out.2 _ (List.getElem_mem hkl2)))
      rw [← hBo.1] at HDo
      clear hml hl hok hC0 hp0
      generalize l[k] = xk at *
      go_wp2_with fail
      refine wp_region_any (by kernel_rfl) ?_
      change wpAny _ _ _ _ _ _ _ (World.drew _)
      have hcr := hBo.2.2.2.2.2.c0
      have hS : (fun w' : World => AcC w' b1 (o1 + k * 5) xk) wr.drew := hC1
      refine wpAny_of_held (S := fun w' => AcC w' b1 (o1 + k * 5) xk) _ _ _ _ ?_
      refine wpAnyH_takeA (i := 0) (some 22) (v := ?_) rfl rfl (by as_aux_lemma => kernel_rfl) (by as_aux_lemma => kernel_rfl) (by as_aux_lemma => kernel_rfl) (fun _ _ _ h => h) (Or.inl ⟨by kernel_rfl, ?_⟩) hS ?_
      rotate_left
      · intro w hSw; have c1 := hSw.2.1; have c2 := hSw.2.2.1; have c3 := hSw.2.2.2.1; have c4 := hSw.2.2.2.2.1; have c5 := hSw.2.2.2.2.2; go_simp
        first | done | with_reducible rfl
      refine wpAnyH_takeA (i := 2) (some 24) (v := ?_) rfl rfl (by as_aux_lemma => kernel_rfl) (by as_aux_lemma => kernel_rfl) (by as_aux_lemma => kernel_rfl) (fun _ _ _ h => h) (Or.inl ⟨by kernel_rfl, ?_⟩) hS ?_
      rotate_left
      · intro w hSw; have c1 := hSw.2.1; have c2 := hSw.2.2.1; have c3 := hSw.2.2.2.1; have c4 := hSw.2.2.2.2.1; have c5 := hSw.2.2.2.2.2; go_simp
        first | done | with_reducible rfl
      refine wpAnyH_takeA (i := 3) (some 25) (v := ?_) rfl rfl (by as_aux_lemma => kernel_rfl) (by as_aux_lemma => kernel_rfl) (by as_aux_lemma => kernel_rfl) (fun _ _ _ h => h) (Or.inl ⟨by kernel_rfl, ?_⟩) hS ?_
      rotate_left
      · intro w hSw; have c1 := hSw.2.1; have c2 := hSw.2.2.1; have c3 := hSw.2.2.2.1; have c4 := hSw.2.2.2.2.1; have c5 := hSw.2.2.2.2.2; go_simp
        first | done | with_reducible rfl
      refine wpAnyH_takeA (i := 4) (some 26) (v := ?_) rfl rfl (by as_aux_lemma => kernel_rfl) (by as_aux_lemma => kernel_rfl) (by as_aux_lemma => kernel_rfl) (fun _ _ _ h => h) (Or.inl ⟨by kernel_rfl, ?_⟩) hS ?_
      rotate_left
      · intro w hSw; have c1 := hSw.2.1; have c2 := hSw.2.2.1; have c3 := hSw.2.2.2.1; have c4 := hSw.2.2.2.2.1; have c5 := hSw.2.2.2.2.2; go_simp
        first | done | with_reducible rfl
      refine wpAnyH_takeA (i := 5) (some 27) (v := ?_) rfl rfl (by as_aux_lemma => kernel_rfl) (by as_aux_lemma => kernel_rfl) (by as_aux_lemma => kernel_rfl) (fun _ _ _ h => h) (Or.inl ⟨by kernel_rfl, ?_⟩) hS ?_
      rotate_left
      · intro w hSw; have c1 := hSw.2.1; have c2 := hSw.2.2.1; have c3 := hSw.2.2.2.1; have c4 := hSw.2.2.2.2.1; have c5 := hSw.2.2.2.2.2; go_simp
        first | done | with_reducible rfl
      refine wpAnyH_ready (rs := [1]) (by as_aux_lemma => kernel_rfl) (by simp) ?_
      refine AllReadyH.cons rfl (fun K hK => ?_) AllReadyH.nil
      go_simp
      refine hK.out _ _ hC1 (fun hS => ?_)
      clear hK K
      refine wpAnyH_ready (rs := [6]) (by as_aux_lemma => kernel_rfl) (by simp) ?_
      refine AllReadyH.cons rfl (fun K hK => ?_) AllReadyH.nil
      go_simp
      go_wp2_with (go_at_call 12; refine HDo.out.mono ?_; rintro e w3 ⟨a3, c3, S3, R3, rfl, hS3, hR3, hsim3, h643, g3⟩)
      replace g3 : wr.grownBy w3 (some w.heap.size) := ⟨g3.os, g3.tape, g3.output, g3.size, g3.block⟩
      have hrb3 := hBo.2.2.2.2.2.kept (w' := w3) g3 (fun e => by have := Option.some.inj e; omega)
      have hC3 : AcC w3 b1 (o1 + k * 5) xk := AcC.turn (w := wr) hC1 g3 (by omega)
      refine hK.out _ _ hC3 (fun hS => ?_)
      clear hK K
      refine wpAnyH_takeA (i := 7) (some 21) (v := ?_) rfl rfl (by as_aux_lemma => kernel_rfl) (by as_aux_lemma => kernel_rfl) (by as_aux_lemma => kernel_rfl) (fun _ _ _ h => h) (Or.inl ⟨by kernel_rfl, ?_⟩) hS ?_
      rotate_left
      · intro w hSw; have c1 := hSw.2.1; have c2 := hSw.2.2.1; have c3 := hSw.2.2.2.1; have c4 := hSw.2.2.2.2.1; have c5 := hSw.2.2.2.2.2; go_simp
        first | done | with_reducible rfl
      refine wpAnyH_takeA (i := 8) (some 29) (v := ?_) rfl rfl (by as_aux_lemma => kernel_rfl) (by as_aux_lemma => kernel_rfl) (by as_aux_lemma => kernel_rfl) (fun _ _ _ h => h) (Or.inl ⟨by kernel_rfl, ?_⟩) hS ?_
      rotate_left
      · intro w hSw; have c1 := hSw.2.1; have c2 := hSw.2.2.1; have c3 := hSw.2.2.2.1; have c4 := hSw.2.2.2.2.1; have c5 := hSw.2.2.2.2.2; go_simp
        first | done | with_reducible rfl
      refine wpAnyH_takeA (i := 9) (some 30) (v := ?_) rfl rfl (by as_aux_lemma => kernel_rfl) (by as_aux_lemma => kernel_rfl) (by as_aux_lemma => kernel_rfl) (fun _ _ _ h => h) (Or.inl ⟨by kernel_rfl, ?_⟩) hS ?_
      rotate_left
      · intro w hSw; have c1 := hSw.2.1; have c2 := hSw.2.2.1; have c3 := hSw.2.2.2.1; have c4 := hSw.2.2.2.2.1; have c5 := hSw.2.2.2.2.2; go_simp
        first | done | with_reducible rfl
      have f0 := hrb3.c0; have ff0 := hrb3.f 0
      refine wpAnyH_ready (rs := [10]) (by as_aux_lemma => kernel_rfl) (by simp) ?_
      refine AllReadyH.cons rfl (fun K hK => ?_) AllReadyH.nil
      go_simp
      refine hK.out _ _ ?_ (fun hS => ?_)
      · exact hC3.other (by omega)
      clear hK K
      refine wpAnyH_takeA (i := 11) (some 7) (v := ?_) rfl rfl (by as_aux_lemma => kernel_rfl) (by as_aux_lemma => kernel_rfl) (by as_aux_lemma => kernel_rfl) (fun _ _ _ h => h) (Or.inl ⟨by kernel_rfl, ?_⟩) hS ?_
      rotate_left
      · intro w hSw; have c1 := hSw.2.1; go_simp
        first | done | with_reducible rfl
      refine wpAnyH_done (by kernel_rfl) ?_ _
      have hBo3 := Both.play (w := wr) hBo (by omega) hS3 hR3 hsim3 h643 g3
      have hB3 : Below w.heap.size w (w3.setCell ⟨RB, 0, none⟩ (.slice a3 R3.length c3)) := (HB.out.grown (w := wr) g3 HB.out.size (fun j e => by obtain rfl := Option.some.inj e; exact Nat.le_refl _)).setCell (p := ⟨RB, 0, none⟩) (by show w.heap.size ≤ RB; omega) _

      have HSm := Lib.hid (awSame_any _ _ S3 a3 c3 R3 now _ hBo3.2.1 hBo3.2.2.1 hBo3.2.2.2.1 hBo3.2.2.2.2.1 _ rfl)
      have f1 := hBo3.2.2.2.2.2.c0
      have HBo3 := Lib.hid hBo3
      have HB3 := Lib.hid hB3
      clear hcr hBo3 hB3 hS hS3 hR3 hsim3 h643 g3 hrb3 hC3 f0 ff0 hBo hC1 HDo HBo HB
      generalize hw4 : (w3.setCell ⟨RB, 0, none⟩ (.slice a3 R3.length c3)) = w4 at *
      clear hw4
      generalize R3.length = n3 at *
      go_simp
      go_wp2_with (go_at_call 13; refine HSm.out.mono ?_; rintro e w5 ⟨rfl, q5⟩; refine Hid.out ?_)
      refine Lib.hid ?_
      have HBo5 := Lib.hid (HBo3.out.below q5)
      have HB5 := Lib.hid (HB3.out.trans (q5.mono HB3.out.size))
      clear q5 HSm HBo3 HB3 f1
      go_wp2
      go_roundw
      case rel => exact ⟨k + 1, S3, a3, n3, c3, R3, by omega, by go_num, HBo5, HB5⟩
      case measure => simp [intOf]; omega
    · have hkl : ¬ (k : Int) < (m : Int) := by omega
      have HA8 := Lib.hid (HAw.out wr HB.out)
      clear HBo
      go_wp2_with (go_at_call 10; refine HA8.out.mono ?_; rintro e w9 ⟨rfl, q9⟩)
      go_ret
      exact ⟨rfl, HB.out.trans (q9.mono HB.out.size)⟩


end Go.Proofs.YtinohakjemjkhaaDoor
