/-
  The walk of AlertApart.
-/
import Derived.Test.YtdnpfmmkglgnjabDoorA20
import Derived.Test.YtdnpfmmkglgnjabDoorLSame
namespace Go.Proofs.YtdnpfmmkglgnjabDoor
open Go.RowKit

set_option maxRecDepth 100000 in
set_option maxHeartbeats 8000000 in
theorem apart_walk (a0 : Option Addr) (c0 : Nat) (l : List Ac) (y : Rw) (w : World) (hv : TabOk w.heap.size w) (hl : AcsAt w a0 l) (hok : ∀ x ∈ l, AcOk x) (hn : l.length ≤ 9223372036854775807) (hy : PairsAt w y.ad y.ps) (hyl : y.ps.length ≤ 9223372036854775807) :
    Calls Tryd.prog 3 #[.slice a0 l.length c0, .agg #[.slice y.ad y.ps.length y.cp, .int .i64 y.st, .int .i64 y.en]] w fun e w' => e = .returned (.bool true) ∧ Below w.heap.size w w' := by
  obtain ⟨ny, hny⟩ : ∃ n, n = y.ps.length := ⟨_, rfl⟩
  have d0 := (Below.refl w.heap.size w).alloc (Nat.le_refl _) (.cells #[.slice y.ad ny y.cp, .int .i64 y.st, .int .i64 y.en] 25)
  have k0 := AlBlk.new w y.ad ny y.cp y.st y.en
  have s0 : (w.alloc (.cells #[.slice y.ad ny y.cp, .int .i64 y.st, .int .i64 y.en] 25)).heap.size = w.heap.size + 1 := by simp
  have HFw := Lib.hid (awFew_any a0 c0 l _ (hl.below d0 (Nat.le_refl _)) hn)
  have HAw := Lib.hid (fun u (hb : Below w.heap.size w u) => aawake_any w.heap.size u hb.size (hv.on hb))
  obtain ⟨m, hm⟩ : ∃ m, m = l.length := ⟨_, rfl⟩
  have HL := Lib.hid (And.intro hm (And.intro (hl.below d0 (Nat.le_refl _)) hok))
  have HU := Lib.hid (And.intro d0 (And.intro k0 (And.intro s0 (And.intro (hv.on d0) (hy.below d0 (Nat.le_refl _))))))
  have HY := Lib.hid (And.intro hny (And.intro hyl trivial))
  rw [← hm] at HFw hn ⊢
  rw [← hny] at hyl ⊢
  unfold FewPost at HFw
  clear hv hl hok hm d0 k0 s0 hy hny 
  by_cases hf : fewP l
  case neg =>
    go_enter Tryd.func3, Tryd.ntmps3
    go_wp2_with (go_at_call 4; refine HFw.out.mono ?_; rintro e u ⟨b, rfl, hb, hu⟩; replace hu := Lib.hid hu; refine Hid.out ?_)
    refine Lib.hid ?_
    obtain rfl : b = false := by rw [← Bool.not_eq_true]; exact fun e => hf (hb.1 e)
    have HA1 := Lib.hid (HAw.out u (by rw [hu.out]; exact HU.out.1))
    have HB1 : Hid (Below w.heap.size w u) := Lib.hid (by rw [hu.out]; exact HU.out.1)
    have c0 : u.cell? ⟨w.heap.size, 0, none⟩ = some (.slice y.ad ny y.cp) := by rw [hu.out]; exact HU.out.2.1.c0
    clear hb hu HU
    go_wp2_with (go_at_call 5; refine HA1.out.mono ?_; rintro e w2 ⟨rfl, q2⟩)
    go_ret
    exact ⟨rfl, HB1.out.trans (q2.mono HB1.out.size)⟩
  case pos =>
  by_cases h12 : 12 < ny
  case pos =>
    have h12' : (12 : Int) < (ny : Int) := by omega
    go_enter Tryd.func3, Tryd.ntmps3
    go_wp2_with (go_at_call 4; refine HFw.out.mono ?_; rintro e u ⟨b, rfl, hb, hu⟩; replace hu := Lib.hid hu; refine Hid.out ?_)
    refine Lib.hid ?_
    obtain rfl : b = true := hb.2 hf
    have HA1 := Lib.hid (HAw.out u (by rw [hu.out]; exact HU.out.1))
    have HB1 : Hid (Below w.heap.size w u) := Lib.hid (by rw [hu.out]; exact HU.out.1)
    have c0 : u.cell? ⟨w.heap.size, 0, none⟩ = some (.slice y.ad ny y.cp) := by rw [hu.out]; exact HU.out.2.1.c0
    clear hb hu HU
    go_wp2_with (go_at_call 5; refine HA1.out.mono ?_; rintro e w2 ⟨rfl, q2⟩)
    go_ret
    exact ⟨rfl, HB1.out.trans (q2.mono HB1.out.size)⟩
  case neg =>
  have h12' : ¬ (12 : Int) < (ny : Int) := by omega
  have HF := Lib.hid hf
  have hm80 : m ≤ 80 := by rw [HL.out.1]; exact hf.1
  go_enter Tryd.func3, Tryd.ntmps3
  go_wp2_with (go_at_call 4; refine HFw.out.mono ?_; rintro e u ⟨b, rfl, hb, hu⟩; replace hu := Lib.hid hu; refine Hid.out ?_)
  refine Lib.hid ?_
  obtain rfl : b = true := hb.2 hf
  clear hb hf HFw
  rw [← hu.out] at HU HL
  clear hu
  have HV := Lib.hid HU.out.2.2.2.1
  have HPy := Lib.hid HU.out.2.2.2.2
  have hwu : w.heap.size < u.heap.size := by have := HU.out.2.2.1; omega
  have HK0 := Lib.hid HU.out.2.1
  have HD0 := Lib.hid HU.out.1
  have HNw := Lib.hid (aNew_st u)
  have c0 := HK0.out.c0
  clear HU
  go_wp2_with (go_at_call 6; refine HNw.out.mono ?_; rintro e wn ⟨rfl, hsn, qn⟩; refine Hid.out ?_)
  refine Lib.hid ?_
  have drn := (Below.refl wn.heap.size wn).alloc (Nat.le_refl _) (.cells #[.slice none 0 0] 32)
  have hrn := RsBlk.new wn none 0 0
  have hBn : Both (wn.alloc (.cells #[.slice none 0 0] 32)) (u.heap.size + 1) u.heap.size wn.heap.size [] none 0 0 [] := ⟨rfl, hsn.below drn (Nat.le_refl _), rs_nil _, rfl, by simp, hrn⟩
  have hwn : u.heap.size + 1 < wn.heap.size := ltA hsn.1
  have HBn := Lib.hid hBn
  have HBn2 := Lib.hid (qn.trans (drn.mono qn.size))
  clear drn hrn hBn hsn qn HNw
  obtain ⟨RB, hRB⟩ : ∃ RB, RB = wn.heap.size := ⟨_, rfl⟩
  have HRB := Lib.hid hRB
  rw [← hRB] at HBn hwn
  clear hRB
  go_wp2
  rw [← HRB.out]
  go_loopw [7] (fun i wr => ∃ (k : Nat) (S : List Rw) (a : Option Addr) (n c : Nat) (R : List Rw), k ≤ m ∧ i = .int .i64 k ∧ Hid (Both wr (u.heap.size + 1) u.heap.size RB S a n c R) ∧ Hid (Below u.heap.size u wr)) (fun i _ => m - (intOf i).toNat)
  case atStart => exact ⟨0, [], none, 0, 0, [], Nat.zero_le _, rfl, HBn, HBn2⟩
  case round =>
    clear HBn HBn2
    obtain ⟨k, S, a, n, c, R, hk, rfl, HBo, HB⟩ := hrel
    by_cases hlt : k < m
    · have hkl : (k : Int) < (m : Int) := by omega
      obtain ⟨hml, hl, hok⟩ := HL.out
      have hkl2 : k < l.length := by omega
      obtain ⟨b1, o1, rfl, hC0, hp0⟩ := hl.c k hkl2
      have hb1 : b1 < u.heap.size := hC0.1
      have hC1 := hC0.below HB.out (Nat.le_refl _)
      have hBo := HBo.out
      have HDo := Lib.hid (awDo_any _ _ S a c R l[k] wr.drew hBo.2.1 hBo.2.2.1 hBo.2.2.2.1 hBo.2.2.2.2.1 w.heap.size (Nat.le_trans (Nat.le_of_lt hwu) HB.out.size) (Nat.le_of_lt hwu) (HV.out.on (HB.out.drew.mono (Nat.le_of_lt hwu))) (hp0.below HB.out.drew (Nat.le_refl _)) (hok _ (List.getElem_mem hkl2)) (HF.out.2 _ (List.getElem_mem hkl2)))
      rw [← hBo.1] at HDo
      clear hml hl hok hC0 hp0
      generalize l[k] = xk at *
      go_wp2_with fail
      refine wp_region_any (by kernel_rfl) ?_
      change wpAny _ _ _ _ _ _ _ (World.drew _)
      have hcr := hBo.2.2.2.2.2.c0
      have hS : (fun w' : World => AcC w' b1 (o1 + k * 5) xk) wr.drew := hC1
      refine wpAny_of_held (S := fun w' => AcC w' b1 (o1 + k * 5) xk) _ _ _ _ ?_
      refine wpAnyH_takeA (i := 0) (some 32) (v := ?_) rfl rfl (by as_aux_lemma => kernel_rfl) (by as_aux_lemma => kernel_rfl) (by as_aux_lemma => kernel_rfl) (fun _ _ _ h => h) (Or.inl ⟨by kernel_rfl, ?_⟩) hS ?_
      rotate_left
      · intro u hSw; have c1 := hSw.2.1; have c2 := hSw.2.2.1; have c3 := hSw.2.2.2.1; have c4 := hSw.2.2.2.2.1; have c5 := hSw.2.2.2.2.2; go_simp
        first | done | with_reducible rfl
      refine wpAnyH_takeA (i := 2) (some 34) (v := ?_) rfl rfl (by as_aux_lemma => kernel_rfl) (by as_aux_lemma => kernel_rfl) (by as_aux_lemma => kernel_rfl) (fun _ _ _ h => h) (Or.inl ⟨by kernel_rfl, ?_⟩) hS ?_
      rotate_left
      · intro u hSw; have c1 := hSw.2.1; have c2 := hSw.2.2.1; have c3 := hSw.2.2.2.1; have c4 := hSw.2.2.2.2.1; have c5 := hSw.2.2.2.2.2; go_simp
        first | done | with_reducible rfl
      refine wpAnyH_takeA (i := 3) (some 35) (v := ?_) rfl rfl (by as_aux_lemma => kernel_rfl) (by as_aux_lemma => kernel_rfl) (by as_aux_lemma => kernel_rfl) (fun _ _ _ h => h) (Or.inl ⟨by kernel_rfl, ?_⟩) hS ?_
      rotate_left
      · intro u hSw; have c1 := hSw.2.1; have c2 := hSw.2.2.1; have c3 := hSw.2.2.2.1; have c4 := hSw.2.2.2.2.1; have c5 := hSw.2.2.2.2.2; go_simp
        first | done | with_reducible rfl
      refine wpAnyH_takeA (i := 4) (some 36) (v := ?_) rfl rfl (by as_aux_lemma => kernel_rfl) (by as_aux_lemma => kernel_rfl) (by as_aux_lemma => kernel_rfl) (fun _ _ _ h => h) (Or.inl ⟨by kernel_rfl, ?_⟩) hS ?_
      rotate_left
      · intro u hSw; have c1 := hSw.2.1; have c2 := hSw.2.2.1; have c3 := hSw.2.2.2.1; have c4 := hSw.2.2.2.2.1; have c5 := hSw.2.2.2.2.2; go_simp
        first | done | with_reducible rfl
      refine wpAnyH_takeA (i := 5) (some 37) (v := ?_) rfl rfl (by as_aux_lemma => kernel_rfl) (by as_aux_lemma => kernel_rfl) (by as_aux_lemma => kernel_rfl) (fun _ _ _ h => h) (Or.inl ⟨by kernel_rfl, ?_⟩) hS ?_
      rotate_left
      · intro u hSw; have c1 := hSw.2.1; have c2 := hSw.2.2.1; have c3 := hSw.2.2.2.1; have c4 := hSw.2.2.2.2.1; have c5 := hSw.2.2.2.2.2; go_simp
        first | done | with_reducible rfl
      refine wpAnyH_ready (rs := [1]) (by as_aux_lemma => kernel_rfl) (by simp) ?_
      refine AllReadyH.cons rfl (fun K hK => ?_) AllReadyH.nil
      go_simp
      refine hK.out _ _ hC1 (fun hS => ?_)
      clear hK K
      refine wpAnyH_ready (rs := [6]) (by as_aux_lemma => kernel_rfl) (by simp) ?_
      refine AllReadyH.cons rfl (fun K hK => ?_) AllReadyH.nil
      go_simp
      go_wp2_with (go_at_call 7; refine HDo.out.mono ?_; rintro e w3 ⟨a3, c3, S3, R3, rfl, hS3, hR3, hsim3, h643, g3⟩)
      replace g3 : wr.grownBy w3 (some u.heap.size) := ⟨g3.os, g3.tape, g3.output, g3.size, g3.block⟩
      have hrb3 := hBo.2.2.2.2.2.kept (w' := w3) g3 (fun e => by have := Option.some.inj e; omega)
      have hC3 : AcC w3 b1 (o1 + k * 5) xk := AcC.turn (w := wr) hC1 g3 (by omega)
      refine hK.out _ _ hC3 (fun hS => ?_)
      clear hK K
      refine wpAnyH_takeA (i := 7) (some 31) (v := ?_) rfl rfl (by as_aux_lemma => kernel_rfl) (by as_aux_lemma => kernel_rfl) (by as_aux_lemma => kernel_rfl) (fun _ _ _ h => h) (Or.inl ⟨by kernel_rfl, ?_⟩) hS ?_
      rotate_left
      · intro u hSw; have c1 := hSw.2.1; have c2 := hSw.2.2.1; have c3 := hSw.2.2.2.1; have c4 := hSw.2.2.2.2.1; have c5 := hSw.2.2.2.2.2; go_simp
        first | done | with_reducible rfl
      refine wpAnyH_takeA (i := 8) (some 39) (v := ?_) rfl rfl (by as_aux_lemma => kernel_rfl) (by as_aux_lemma => kernel_rfl) (by as_aux_lemma => kernel_rfl) (fun _ _ _ h => h) (Or.inl ⟨by kernel_rfl, ?_⟩) hS ?_
      rotate_left
      · intro u hSw; have c1 := hSw.2.1; have c2 := hSw.2.2.1; have c3 := hSw.2.2.2.1; have c4 := hSw.2.2.2.2.1; have c5 := hSw.2.2.2.2.2; go_simp
        first | done | with_reducible rfl
      refine wpAnyH_takeA (i := 9) (some 40) (v := ?_) rfl rfl (by as_aux_lemma => kernel_rfl) (by as_aux_lemma => kernel_rfl) (by as_aux_lemma => kernel_rfl) (fun _ _ _ h => h) (Or.inl ⟨by kernel_rfl, ?_⟩) hS ?_
      rotate_left
      · intro u hSw; have c1 := hSw.2.1; have c2 := hSw.2.2.1; have c3 := hSw.2.2.2.1; have c4 := hSw.2.2.2.2.1; have c5 := hSw.2.2.2.2.2; go_simp
        first | done | with_reducible rfl
      have f0 := hrb3.c0; have ff0 := hrb3.f 0
      refine wpAnyH_ready (rs := [10]) (by as_aux_lemma => kernel_rfl) (by simp) ?_
      refine AllReadyH.cons rfl (fun K hK => ?_) AllReadyH.nil
      go_simp
      refine hK.out _ _ ?_ (fun hS => ?_)
      · exact hC3.other (by omega)
      clear hK K
      refine wpAnyH_done (by kernel_rfl) ?_ _
      have hBo3 := Both.play (w := wr) hBo (by omega) hS3 hR3 hsim3 h643 g3
      have hB3 : Below u.heap.size u (w3.setCell ⟨RB, 0, none⟩ (.slice a3 R3.length c3)) := (HB.out.grown (w := wr) g3 HB.out.size (fun j e => by obtain rfl := Option.some.inj e; exact Nat.le_refl _)).setCell (p := ⟨RB, 0, none⟩) (by show u.heap.size ≤ RB; omega) _

      have HBo3 := Lib.hid hBo3
      have HB3 := Lib.hid hB3
      clear hcr hBo3 hB3 hS hS3 hR3 hsim3 h643 g3 hrb3 hC3 f0 ff0 hBo hC1 HDo HBo HB
      generalize R3.length = n3 at *
      go_simp
      go_wp2
      go_roundw
      case rel => exact ⟨k + 1, S3, a3, n3, c3, R3, by omega, by go_num, HBo3, HB3⟩
      case measure => simp [intOf]; omega
    · have hkl : ¬ (k : Int) < (m : Int) := by omega
      have hBo := HBo.out
      have kr := HK0.out.below HB.out hwu
      have hpr := HPy.out.below HB.out (Nat.le_refl _)
      have HA1 := Lib.hid (aAll_any _ _ S wr hBo.2.1 hBo.2.2.2.2.1)
      have hbm1 : u.heap.size < wr.heap.size := by have := ltA hBo.2.1.1; omega
      have hSle : Hid (S.length ≤ 64) := Lib.hid hBo.2.2.2.2.1
      have HX1 := Lib.hid (And.intro hBo.2.1 (And.intro hBo.2.2.2.2.1 (And.intro kr (And.intro hpr (And.intro (HD0.out.trans (HB.out.mono (Nat.le_of_lt hwu))) HB.out)))))
      clear hBo kr hpr HBo HB c0
      go_wp2_with (go_at_call 8; refine HA1.out.mono ?_; rintro e w1 ⟨aw, cw, W, rfl, hW, hWm, q1⟩; refine Hid.out ?_)
      refine Lib.hid ?_
      obtain ⟨hS, h64, kr, hpr, bw, bu⟩ := HX1.out
      have hS1 := hS.below q1 (Nat.le_refl _)
      have k1 := kr.below q1 (ltA kr)
      have hp1 := hpr.below q1 (Nat.le_refl _)
      have b1 := bw.trans (q1.mono bw.size)
      have HP1 := Lib.hid (aPut_any _ _ S y.ad y.cp y.ps y.st y.en w.heap.size w1 hS1 hp1 b1.size (HV.out.on ((bu.trans (q1.mono bu.size)).mono (Nat.le_of_lt hwu))) ny HY.out.1 h64)
      have hfW := st_fits hS1 (al_mem hWm)
      have HX2 := Lib.hid (And.intro hS1 (And.intro h64 (And.intro k1 (And.intro hp1 (And.intro b1 (And.intro hW (And.intro hWm (And.intro hbm1 hfW))))))))
      have c0 := k1.c0; have c1 := k1.c1; have c2 := k1.c2
      generalize hNW : W.length = nW at *
      have HNW := Lib.hid hNW
      unfold PutPost at HP1
      obtain ⟨E, HE⟩ : ∃ E, Hid (putE S y.ps y.st y.en = E) := ⟨_, Lib.hid rfl⟩
      rw [HE.out] at HP1
      clear hNW hS h64 kr hpr bw bu hS1 k1 hp1 b1 hW hWm hbm1 hfW q1 HA1 HX1
      go_wp2_with (go_at_call 9; refine HP1.out.mono ?_; rintro e w2 ⟨rfl, g2, S2, hS2, hs1, hs2⟩; refine Hid.out ?_)
      refine Lib.hid ?_
      obtain ⟨hS1, h64, k1, hp1, b1, hW, hWm, hbm1, hfW⟩ := HX2.out
      have hW2 := hW.turn g2 hbm1
      have k2 : AlBlk w2 w.heap.size y.ad ny y.cp y.st y.en := (g2.block w.heap.size (ltA k1) (fun e => by have := Option.some.inj e; omega)).trans k1
      have hp2 := hp1.turn g2 hS1.2.1
      have b2 : Below w.heap.size w w2 := b1.grown g2 b1.size (fun j e => by obtain rfl := Option.some.inj e; exact Nat.le_of_lt hwu)
      rw [← HE.out] at hs1 hs2
      have hl2 : S2.length ≤ 64 := put_le h64 hs1 hs2 hS2.2.1 hS1.2.1
      have HS2le := Lib.hid hl2
      have hrs := put_rest hS1.2.2 hs1 hs2
      rw [HE.out] at hrs
      have HA2 := Lib.hid (aAll_any _ _ S2 w2 hS2 hl2)
      have HX3 := Lib.hid (And.intro hS2 (And.intro k2 (And.intro hp2 (And.intro b2 (And.intro hW2 (And.intro hWm (And.intro hfW hrs)))))))
      clear hS1 h64 k1 hp1 b1 hW hWm hbm1 hfW hW2 k2 hp2 b2 hl2 hrs hS2 hs1 hs2 g2 HP1 HX2 c0 c1 c2
      go_wp2_with (go_at_call 8; refine HA2.out.mono ?_; rintro e w3 ⟨an, cn, N, rfl, hN, hNm, q3⟩; refine Hid.out ?_)
      refine Lib.hid ?_
      obtain ⟨hS2, k2, hp2, b2, hW2, hWm, hfW, hrs⟩ := HX3.out
      have HR0 : Hid (restA y.ps (decide (E = 0)) W = restA y.ps (decide (E = 0)) N) := Lib.hid (by rw [rest_of hWm, rest_of hNm, hrs])
      have HX := Lib.hid (And.intro (Picked.at (hW2.onB q3 (Nat.le_refl _))) (And.intro (Picked.at hN) (And.intro (k2.below q3 (ltA k2)) (And.intro (hp2.below q3 (Nat.le_refl _)) (And.intro hfW (And.intro (st_fits (hS2.below q3 (Nat.le_refl _)) (al_mem hNm)) (b2.trans (q3.mono b2.size))))))))
      generalize hNN : N.length = nN at *
      have HNN := Lib.hid hNN
      have hnW : nW ≤ 1000000 := by have h1 := HX.out.1; have := congrArg List.length hWm; simp at this; have := HNW.out; have := hSle.out; omega
      have hnN : nN ≤ 1000000 := by have := congrArg List.length hNm; simp at this; have := HS2le.out; omega
      clear hNN hS2 k2 hp2 b2 hW2 hWm hfW hrs hN hNm q3 HA2 HX3
      go_wp2
      go_loopw [11, 12] (fun nv iv wr => ∃ (n k : Nat), k ≤ nN ∧ n ≤ nW ∧ nv = .int .i64 n ∧ iv = .int .i64 k ∧ Hid (restA y.ps (decide (E = 0)) (W.drop n) = restA y.ps (decide (E = 0)) (N.drop k)) ∧ Hid (Below w3.heap.size w3 wr)) (fun _ i _ => nN - (intOf i).toNat)
      case atStart => exact ⟨0, 0, Nat.zero_le _, Nat.zero_le _, rfl, rfl, Lib.hid HR0.out, Lib.hid (Below.refl _ _)⟩
      case round =>
        clear HR0
        obtain ⟨n, k, hk, hn', rfl, rfl, HR, HB⟩ := hrel
        by_cases hlt : k < nN
        · have hkl : (k : Int) < (nN : Int) := by omega
          obtain ⟨haW, haN, k3, hp3, hfW, hfN, b3⟩ := HX.out
          have hkN : k < N.length := by have := HNN.out; omega
          obtain ⟨b1, o1, rfl, hC0, hpx⟩ := (haN.below HB.out (Nat.le_refl _)).c k hkN
          have hb1 := hC0.1
          have kr := k3.below HB.out (ltA k3)
          have hfx := hfN _ (List.getElem_mem hkN)
          have HSa := Lib.hid (Same_any N[k].ad y.ad N[k].cp y.cp N[k].ps y.ps wr.drew (hpx.below (Below.refl wr.heap.size wr).drew (Nat.le_refl _)) ((hp3.below HB.out (Nat.le_refl _)).below (Below.refl wr.heap.size wr).drew (Nat.le_refl _)) hfx _ ny rfl HY.out.1)
          have HSk : Hid (skP y.ps (decide (E = 0)) N[k] = true → restA y.ps (decide (E = 0)) (W.drop n) = restA y.ps (decide (E = 0)) (N.drop (k + 1))) := Lib.hid fun e => by rw [HR.out, rest_skip hkN e]
          have HTk : Hid (skP y.ps (decide (E = 0)) N[k] = false → restA y.ps (decide (E = 0)) (W.drop n) = N[k].al :: restA y.ps (decide (E = 0)) (N.drop (k + 1))) := Lib.hid fun e => by rw [HR.out, rest_take hkN e]
          have hH1 := And.intro hC0 kr
          have HPx := Lib.hid (And.intro hpx (And.intro hfx (And.intro hfW hC0)))
          clear haW haN k3 hp3 hfW hfN b3 hC0 hpx kr hfx HR
          unfold skP at HSk HTk
          generalize N[k] = x at *
          by_cases hs : x.ps = y.ps
          · by_cases hE : E = 0
            · rw [decide_eq_true hs] at HSa
              have HR2 := Lib.hid (HSk.out (by rw [decide_eq_true hs, decide_eq_true hE]; rfl))
              clear HSk HTk HPx hs
              have hE' : (E == 0) = true := beq_iff_eq.2 hE
              clear hE
              go_wp2_with fail
              refine wp_region_any (by kernel_rfl) ?_
              change wpAny _ _ _ _ _ _ _ (World.drew _)
              have hS : (fun w' : World => AlC w' b1 (o1 + k * 3) x ∧ AlBlk w' w.heap.size y.ad ny y.cp y.st y.en) wr.drew := hH1
              refine wpAny_of_held (S := fun w' => AlC w' b1 (o1 + k * 3) x ∧ AlBlk w' w.heap.size y.ad ny y.cp y.st y.en) _ _ _ _ ?_
              refine wpAnyH_takeA (i := 0) (some 54) (v := ?_) rfl rfl (by as_aux_lemma => kernel_rfl) (by as_aux_lemma => kernel_rfl) (by as_aux_lemma => kernel_rfl) (fun _ _ _ h => h) (Or.inl ⟨by kernel_rfl, ?_⟩) hS ?_
              rotate_left
              · intro w hSw; have c0 := hSw.1.2.1; have d0 := hSw.2.c0; go_simp
                first | done | with_reducible rfl
              refine wpAnyH_takeA (i := 1) (some 55) (v := ?_) rfl rfl (by as_aux_lemma => kernel_rfl) (by as_aux_lemma => kernel_rfl) (by as_aux_lemma => kernel_rfl) (fun _ _ _ h => h) (Or.inl ⟨by kernel_rfl, ?_⟩) hS ?_
              rotate_left
              · intro w hSw; have c0 := hSw.1.2.1; have d0 := hSw.2.c0; go_simp
                first | done | with_reducible rfl
              refine wpAnyH_takeA (i := 2) (some 56) (v := ?_) rfl rfl (by as_aux_lemma => kernel_rfl) (by as_aux_lemma => kernel_rfl) (by as_aux_lemma => kernel_rfl) (fun _ _ _ h => h) (Or.inl ⟨by kernel_rfl, ?_⟩) hS ?_
              rotate_left
              · intro w hSw; have c0 := hSw.1.2.1; have d0 := hSw.2.c0; go_simp
                first | done | with_reducible rfl
              refine wpAnyH_takeA (i := 3) (some 57) (v := ?_) rfl rfl (by as_aux_lemma => kernel_rfl) (by as_aux_lemma => kernel_rfl) (by as_aux_lemma => kernel_rfl) (fun _ _ _ h => h) (Or.inl ⟨by kernel_rfl, ?_⟩) hS ?_
              rotate_left
              · intro w hSw; have c0 := hSw.1.2.1; have d0 := hSw.2.c0; go_simp
                first | done | with_reducible rfl
              refine wpAnyH_takeA (i := 4) (some 58) (v := ?_) rfl rfl (by as_aux_lemma => kernel_rfl) (by as_aux_lemma => kernel_rfl) (by as_aux_lemma => kernel_rfl) (fun _ _ _ h => h) (Or.inl ⟨by kernel_rfl, ?_⟩) hS ?_
              rotate_left
              · intro w hSw; have c0 := hSw.1.2.1; have d0 := hSw.2.c0; go_simp
                first | done | with_reducible rfl
              refine wpAnyH_takeA (i := 5) (some 59) (v := ?_) rfl rfl (by as_aux_lemma => kernel_rfl) (by as_aux_lemma => kernel_rfl) (by as_aux_lemma => kernel_rfl) (fun _ _ _ h => h) (Or.inl ⟨by kernel_rfl, ?_⟩) hS ?_
              rotate_left
              · intro w hSw; have c0 := hSw.1.2.1; have d0 := hSw.2.c0; go_simp
                first | done | with_reducible rfl
              refine wpAnyH_takeA (i := 6) (some 60) (v := ?_) rfl rfl (by as_aux_lemma => kernel_rfl) (by as_aux_lemma => kernel_rfl) (by as_aux_lemma => kernel_rfl) (fun _ _ _ h => h) (Or.inl ⟨by kernel_rfl, ?_⟩) hS ?_
              rotate_left
              · intro w hSw; have c0 := hSw.1.2.1; have d0 := hSw.2.c0; go_simp
                first | done | with_reducible rfl
              refine wpAnyH_ready (rs := [7]) (by as_aux_lemma => kernel_rfl) (by simp) ?_
              refine AllReadyH.cons rfl (fun K hK => ?_) AllReadyH.nil
              go_simp
              go_wp2_with (go_at_call 10; refine HSa.out.mono ?_; rintro e w8 ⟨rfl, q8⟩; replace q8 : Below wr.heap.size wr w8 := (Below.refl wr.heap.size wr).drew.trans q8)
              refine hK.out _ _ ?_ (fun hS => ?_)
              · exact ⟨hH1.1.below q8 (Nat.le_refl _), hH1.2.below q8 (ltA hH1.2)⟩
              clear hK K
              refine wpAnyH_takeA (i := 8) (some 62) (v := ?_) rfl rfl (by as_aux_lemma => kernel_rfl) (by as_aux_lemma => kernel_rfl) (by as_aux_lemma => kernel_rfl) (fun _ _ _ h => h) (Or.inl ⟨by kernel_rfl, ?_⟩) hS ?_
              rotate_left
              · intro w hSw; have c0 := hSw.1.2.1; have d0 := hSw.2.c0; go_simp
                first | done | with_reducible rfl
              refine wpAnyH_takeA (i := 9) (some 63) (v := ?_) rfl rfl (by as_aux_lemma => kernel_rfl) (by as_aux_lemma => kernel_rfl) (by as_aux_lemma => kernel_rfl) (fun _ _ _ h => h) (Or.inl ⟨by kernel_rfl, ?_⟩) hS ?_
              rotate_left
              · intro w hSw; have c0 := hSw.1.2.1; have d0 := hSw.2.c0; go_simp
                first | done | with_reducible rfl
              refine wpAnyH_takeA (i := 10) (some 64) (v := ?_) rfl rfl (by as_aux_lemma => kernel_rfl) (by as_aux_lemma => kernel_rfl) (by as_aux_lemma => kernel_rfl) (fun _ _ _ h => h) (Or.inl ⟨by kernel_rfl, ?_⟩) hS ?_
              rotate_left
              · intro w hSw; have c0 := hSw.1.2.1; have d0 := hSw.2.c0; go_simp
                first | done | with_reducible rfl
              refine wpAnyH_takeA (i := 11) (some 65) (v := ?_) rfl rfl (by as_aux_lemma => kernel_rfl) (by as_aux_lemma => kernel_rfl) (by as_aux_lemma => kernel_rfl) (fun _ _ _ h => h) (Or.inl ⟨by kernel_rfl, ?_⟩) hS ?_
              rotate_left
              · intro w hSw; have c0 := hSw.1.2.1; have d0 := hSw.2.c0; go_simp
                first | done | with_reducible rfl
              refine wpAnyH_done (by kernel_rfl) ?_ _
              have HB8 := Lib.hid (HB.out.trans (q8.mono HB.out.size))
              skip
              clear q8 hS
              clear hH1 HSa HB
              go_simp
              go_wp2
              go_roundw
              case rel => exact ⟨n, k + 1, by omega, hn', rfl, by go_num, HR2, HB8⟩
              case measure => simp [intOf]; omega
            · have hE' : (E == 0) = false := beq_eq_false_iff_ne.2 hE
              rw [decide_eq_true hs] at HSa
              have HR2 := Lib.hid (HTk.out (by rw [decide_eq_true hs, decide_eq_false hE]; rfl))
              clear HSk HTk hs
              go_wp2_with fail
              refine wp_region_any (by kernel_rfl) ?_
              change wpAny _ _ _ _ _ _ _ (World.drew _)
              have hS : (fun w' : World => AlC w' b1 (o1 + k * 3) x ∧ AlBlk w' w.heap.size y.ad ny y.cp y.st y.en) wr.drew := hH1
              refine wpAny_of_held (S := fun w' => AlC w' b1 (o1 + k * 3) x ∧ AlBlk w' w.heap.size y.ad ny y.cp y.st y.en) _ _ _ _ ?_
              refine wpAnyH_takeA (i := 0) (some 54) (v := ?_) rfl rfl (by as_aux_lemma => kernel_rfl) (by as_aux_lemma => kernel_rfl) (by as_aux_lemma => kernel_rfl) (fun _ _ _ h => h) (Or.inl ⟨by kernel_rfl, ?_⟩) hS ?_
              rotate_left
              · intro w hSw; have c0 := hSw.1.2.1; have d0 := hSw.2.c0; go_simp
                first | done | with_reducible rfl
              refine wpAnyH_takeA (i := 1) (some 55) (v := ?_) rfl rfl (by as_aux_lemma => kernel_rfl) (by as_aux_lemma => kernel_rfl) (by as_aux_lemma => kernel_rfl) (fun _ _ _ h => h) (Or.inl ⟨by kernel_rfl, ?_⟩) hS ?_
              rotate_left
              · intro w hSw; have c0 := hSw.1.2.1; have d0 := hSw.2.c0; go_simp
                first | done | with_reducible rfl
              refine wpAnyH_takeA (i := 2) (some 56) (v := ?_) rfl rfl (by as_aux_lemma => kernel_rfl) (by as_aux_lemma => kernel_rfl) (by as_aux_lemma => kernel_rfl) (fun _ _ _ h => h) (Or.inl ⟨by kernel_rfl, ?_⟩) hS ?_
              rotate_left
              · intro w hSw; have c0 := hSw.1.2.1; have d0 := hSw.2.c0; go_simp
                first | done | with_reducible rfl
              refine wpAnyH_takeA (i := 3) (some 57) (v := ?_) rfl rfl (by as_aux_lemma => kernel_rfl) (by as_aux_lemma => kernel_rfl) (by as_aux_lemma => kernel_rfl) (fun _ _ _ h => h) (Or.inl ⟨by kernel_rfl, ?_⟩) hS ?_
              rotate_left
              · intro w hSw; have c0 := hSw.1.2.1; have d0 := hSw.2.c0; go_simp
                first | done | with_reducible rfl
              refine wpAnyH_takeA (i := 4) (some 58) (v := ?_) rfl rfl (by as_aux_lemma => kernel_rfl) (by as_aux_lemma => kernel_rfl) (by as_aux_lemma => kernel_rfl) (fun _ _ _ h => h) (Or.inl ⟨by kernel_rfl, ?_⟩) hS ?_
              rotate_left
              · intro w hSw; have c0 := hSw.1.2.1; have d0 := hSw.2.c0; go_simp
                first | done | with_reducible rfl
              refine wpAnyH_takeA (i := 5) (some 59) (v := ?_) rfl rfl (by as_aux_lemma => kernel_rfl) (by as_aux_lemma => kernel_rfl) (by as_aux_lemma => kernel_rfl) (fun _ _ _ h => h) (Or.inl ⟨by kernel_rfl, ?_⟩) hS ?_
              rotate_left
              · intro w hSw; have c0 := hSw.1.2.1; have d0 := hSw.2.c0; go_simp
                first | done | with_reducible rfl
              refine wpAnyH_takeA (i := 6) (some 60) (v := ?_) rfl rfl (by as_aux_lemma => kernel_rfl) (by as_aux_lemma => kernel_rfl) (by as_aux_lemma => kernel_rfl) (fun _ _ _ h => h) (Or.inl ⟨by kernel_rfl, ?_⟩) hS ?_
              rotate_left
              · intro w hSw; have c0 := hSw.1.2.1; have d0 := hSw.2.c0; go_simp
                first | done | with_reducible rfl
              refine wpAnyH_ready (rs := [7]) (by as_aux_lemma => kernel_rfl) (by simp) ?_
              refine AllReadyH.cons rfl (fun K hK => ?_) AllReadyH.nil
              go_simp
              go_wp2_with (go_at_call 10; refine HSa.out.mono ?_; rintro e w8 ⟨rfl, q8⟩; replace q8 : Below wr.heap.size wr w8 := (Below.refl wr.heap.size wr).drew.trans q8)
              refine hK.out _ _ ?_ (fun hS => ?_)
              · exact ⟨hH1.1.below q8 (Nat.le_refl _), hH1.2.below q8 (ltA hH1.2)⟩
              clear hK K
              refine wpAnyH_takeA (i := 8) (some 62) (v := ?_) rfl rfl (by as_aux_lemma => kernel_rfl) (by as_aux_lemma => kernel_rfl) (by as_aux_lemma => kernel_rfl) (fun _ _ _ h => h) (Or.inl ⟨by kernel_rfl, ?_⟩) hS ?_
              rotate_left
              · intro w hSw; have c0 := hSw.1.2.1; have d0 := hSw.2.c0; go_simp
                first | done | with_reducible rfl
              refine wpAnyH_takeA (i := 9) (some 63) (v := ?_) rfl rfl (by as_aux_lemma => kernel_rfl) (by as_aux_lemma => kernel_rfl) (by as_aux_lemma => kernel_rfl) (fun _ _ _ h => h) (Or.inl ⟨by kernel_rfl, ?_⟩) hS ?_
              rotate_left
              · intro w hSw; have c0 := hSw.1.2.1; have d0 := hSw.2.c0; go_simp
                first | done | with_reducible rfl
              refine wpAnyH_takeA (i := 10) (some 64) (v := ?_) rfl rfl (by as_aux_lemma => kernel_rfl) (by as_aux_lemma => kernel_rfl) (by as_aux_lemma => kernel_rfl) (fun _ _ _ h => h) (Or.inl ⟨by kernel_rfl, ?_⟩) hS ?_
              rotate_left
              · intro w hSw; have c0 := hSw.1.2.1; have d0 := hSw.2.c0; go_simp
                first | done | with_reducible rfl
              refine wpAnyH_takeA (i := 11) (some 65) (v := ?_) rfl rfl (by as_aux_lemma => kernel_rfl) (by as_aux_lemma => kernel_rfl) (by as_aux_lemma => kernel_rfl) (fun _ _ _ h => h) (Or.inl ⟨by kernel_rfl, ?_⟩) hS ?_
              rotate_left
              · intro w hSw; have c0 := hSw.1.2.1; have d0 := hSw.2.c0; go_simp
                first | done | with_reducible rfl
              refine wpAnyH_done (by kernel_rfl) ?_ _
              have HB8 := Lib.hid (HB.out.trans (q8.mono HB.out.size))
              have HPx8 := Lib.hid q8
              clear q8 hS
              clear hH1 HSa HB
              go_simp
              go_wp2
              go_loopw [11] (fun nv wr => ∃ (n : Nat), n ≤ nW ∧ nv = .int .i64 n ∧ Hid (restA y.ps (decide (E = 0)) (W.drop n) = x.al :: restA y.ps (decide (E = 0)) (N.drop (k + 1))) ∧ Hid (Below w8.heap.size w8 wr)) (fun nv _ => nW - (intOf nv).toNat)
              case atStart => exact ⟨n, hn', rfl, HR2, Lib.hid (Below.refl _ _)⟩
              case round =>
                clear HR2 hn'
                obtain ⟨n, hn', rfl, HR, HB⟩ := hrel
                have hnW' : n < W.length := by
                  refine Nat.lt_of_not_le fun hle => ?_
                  have h1 := HR.out
                  rw [rest_end hle] at h1
                  cases h1
                have hlt3 : n < nW := by have := HNW.out; omega
                have hkl3 : (n : Int) < (nW : Int) := by omega
                have hkl4 : decide ((nW : Int) ≤ (n : Int)) = false := decide_eq_false (by omega)
                have hkl5 : decide ((n : Int) ≥ (nW : Int)) = false := decide_eq_false (by omega)
                obtain ⟨haW, -, k3, hp3, hfW, -, b3⟩ := HX.out
                have bb := HB8.out.trans (HB.out.mono HB8.out.size)
                obtain ⟨b2, o2, rfl, hC2, hpz⟩ := (haW.below bb (Nat.le_refl _)).c n hnW'
                have kr := k3.below bb (ltA k3)
                have hfz := hfW _ (List.getElem_mem hnW')
                have q8r := HPx8.out.trans (HB.out.mono HPx8.out.size)
                have hC1 := HPx.out.2.2.2.below q8r (Nat.le_refl _)
                have hpx := HPx.out.1.below q8r (Nat.le_refl _)
                have HSa := Lib.hid (Same_any W[n].ad y.ad W[n].cp y.cp W[n].ps y.ps wr.drew (hpz.below (Below.refl wr.heap.size wr).drew (Nat.le_refl _)) ((hp3.below bb (Nat.le_refl _)).below (Below.refl wr.heap.size wr).drew (Nat.le_refl _)) hfz _ ny rfl HY.out.1)
                have HSA := Lib.hid (fun v (q : Below wr.heap.size wr v) => arSameA_any W[n] x v (hpz.below q (Nat.le_refl _)) (hpx.below q (Nat.le_refl _)) hfz)
                have HSk : Hid (skP y.ps (decide (E = 0)) W[n] = true → restA y.ps (decide (E = 0)) (W.drop (n + 1)) = x.al :: restA y.ps (decide (E = 0)) (N.drop (k + 1))) := Lib.hid fun e => by rw [← HR.out, ← rest_skip hnW' e]
                have HTk : Hid (skP y.ps (decide (E = 0)) W[n] = false → W[n].al = x.al ∧ restA y.ps (decide (E = 0)) (W.drop (n + 1)) = restA y.ps (decide (E = 0)) (N.drop (k + 1))) := Lib.hid fun e => by
                  have h1 := HR.out
                  rw [rest_take hnW' e] at h1
                  injection h1 with h1 h2
                  exact ⟨h1, h2⟩
                have hH2 := And.intro hC2 (And.intro kr hC1)
                clear haW k3 hp3 hfW b3 bb hC2 hpz kr hfz hC1 hpx q8r HR
                unfold skP at HSk HTk
                generalize W[n] = z at *
                by_cases hz : z.ps = y.ps
                · by_cases hEz : E = 0
                  · exact absurd hEz (beq_eq_false_iff_ne.1 hE')
                  · have hEz' : (E == 0) = false := beq_eq_false_iff_ne.2 hEz
                    rw [decide_eq_true hz] at HSa
                    have HR3 := Lib.hid (HTk.out (by rw [decide_eq_true hz, decide_eq_false hEz]; rfl))
                    clear HSk HTk hz
                    go_wp2_with fail
                    refine wp_region_any (by kernel_rfl) ?_
                    change wpAny _ _ _ _ _ _ _ (World.drew _)
                    have hS : (fun w' : World => AlC w' b2 (o2 + n * 3) z ∧ AlBlk w' w.heap.size y.ad ny y.cp y.st y.en ∧ AlC w' b1 (o1 + k * 3) x) wr.drew := hH2
                    refine wpAny_of_held (S := fun w' => AlC w' b2 (o2 + n * 3) z ∧ AlBlk w' w.heap.size y.ad ny y.cp y.st y.en ∧ AlC w' b1 (o1 + k * 3) x) _ _ _ _ ?_
                    refine wpAnyH_takeA (i := 0) (some 66) (v := ?_) rfl rfl (by as_aux_lemma => kernel_rfl) (by as_aux_lemma => kernel_rfl) (by as_aux_lemma => kernel_rfl) (fun _ _ _ h => h) (Or.inl ⟨by kernel_rfl, ?_⟩) hS ?_
                    rotate_left
                    · intro w hSw; have c0 := hSw.1.2.1; have c1 := hSw.1.2.2.1; have c2 := hSw.1.2.2.2; have d0 := hSw.2.1.c0; have e0 := hSw.2.2.2.1; have e1 := hSw.2.2.2.2.1; have e2 := hSw.2.2.2.2.2; go_simp
                      first | done | with_reducible rfl
                    refine wpAnyH_takeA (i := 1) (some 67) (v := ?_) rfl rfl (by as_aux_lemma => kernel_rfl) (by as_aux_lemma => kernel_rfl) (by as_aux_lemma => kernel_rfl) (fun _ _ _ h => h) (Or.inl ⟨by kernel_rfl, ?_⟩) hS ?_
                    rotate_left
                    · intro w hSw; have c0 := hSw.1.2.1; have c1 := hSw.1.2.2.1; have c2 := hSw.1.2.2.2; have d0 := hSw.2.1.c0; have e0 := hSw.2.2.2.1; have e1 := hSw.2.2.2.2.1; have e2 := hSw.2.2.2.2.2; go_simp
                      first | done | with_reducible rfl
                    refine wpAnyH_takeA (i := 2) (some 68) (v := ?_) rfl rfl (by as_aux_lemma => kernel_rfl) (by as_aux_lemma => kernel_rfl) (by as_aux_lemma => kernel_rfl) (fun _ _ _ h => h) (Or.inl ⟨by kernel_rfl, ?_⟩) hS ?_
                    rotate_left
                    · intro w hSw; have c0 := hSw.1.2.1; have c1 := hSw.1.2.2.1; have c2 := hSw.1.2.2.2; have d0 := hSw.2.1.c0; have e0 := hSw.2.2.2.1; have e1 := hSw.2.2.2.2.1; have e2 := hSw.2.2.2.2.2; go_simp
                      first | done | with_reducible rfl
                    refine wpAnyH_takeA (i := 3) (some 69) (v := ?_) rfl rfl (by as_aux_lemma => kernel_rfl) (by as_aux_lemma => kernel_rfl) (by as_aux_lemma => kernel_rfl) (fun _ _ _ h => h) (Or.inl ⟨by kernel_rfl, ?_⟩) hS ?_
                    rotate_left
                    · intro w hSw; have c0 := hSw.1.2.1; have c1 := hSw.1.2.2.1; have c2 := hSw.1.2.2.2; have d0 := hSw.2.1.c0; have e0 := hSw.2.2.2.1; have e1 := hSw.2.2.2.2.1; have e2 := hSw.2.2.2.2.2; go_simp
                      first | done | with_reducible rfl
                    refine wpAnyH_takeA (i := 4) (some 70) (v := ?_) rfl rfl (by as_aux_lemma => kernel_rfl) (by as_aux_lemma => kernel_rfl) (by as_aux_lemma => kernel_rfl) (fun _ _ _ h => h) (Or.inl ⟨by kernel_rfl, ?_⟩) hS ?_
                    rotate_left
                    · intro w hSw; have c0 := hSw.1.2.1; have c1 := hSw.1.2.2.1; have c2 := hSw.1.2.2.2; have d0 := hSw.2.1.c0; have e0 := hSw.2.2.2.1; have e1 := hSw.2.2.2.2.1; have e2 := hSw.2.2.2.2.2; go_simp
                      first | done | with_reducible rfl
                    refine wpAnyH_takeA (i := 5) (some 71) (v := ?_) rfl rfl (by as_aux_lemma => kernel_rfl) (by as_aux_lemma => kernel_rfl) (by as_aux_lemma => kernel_rfl) (fun _ _ _ h => h) (Or.inl ⟨by kernel_rfl, ?_⟩) hS ?_
                    rotate_left
                    · intro w hSw; have c0 := hSw.1.2.1; have c1 := hSw.1.2.2.1; have c2 := hSw.1.2.2.2; have d0 := hSw.2.1.c0; have e0 := hSw.2.2.2.1; have e1 := hSw.2.2.2.2.1; have e2 := hSw.2.2.2.2.2; go_simp
                      first | done | with_reducible rfl
                    refine wpAnyH_takeA (i := 6) (some 72) (v := ?_) rfl rfl (by as_aux_lemma => kernel_rfl) (by as_aux_lemma => kernel_rfl) (by as_aux_lemma => kernel_rfl) (fun _ _ _ h => h) (Or.inl ⟨by kernel_rfl, ?_⟩) hS ?_
                    rotate_left
                    · intro w hSw; have c0 := hSw.1.2.1; have c1 := hSw.1.2.2.1; have c2 := hSw.1.2.2.2; have d0 := hSw.2.1.c0; have e0 := hSw.2.2.2.1; have e1 := hSw.2.2.2.2.1; have e2 := hSw.2.2.2.2.2; go_simp
                      first | done | with_reducible rfl
                    refine wpAnyH_takeA (i := 7) (some 73) (v := ?_) rfl rfl (by as_aux_lemma => kernel_rfl) (by as_aux_lemma => kernel_rfl) (by as_aux_lemma => kernel_rfl) (fun _ _ _ h => h) (Or.inl ⟨by kernel_rfl, ?_⟩) hS ?_
                    rotate_left
                    · intro w hSw; have c0 := hSw.1.2.1; have c1 := hSw.1.2.2.1; have c2 := hSw.1.2.2.2; have d0 := hSw.2.1.c0; have e0 := hSw.2.2.2.1; have e1 := hSw.2.2.2.2.1; have e2 := hSw.2.2.2.2.2; go_simp
                      first | done | with_reducible rfl
                    refine wpAnyH_takeA (i := 8) (some 74) (v := ?_) rfl rfl (by as_aux_lemma => kernel_rfl) (by as_aux_lemma => kernel_rfl) (by as_aux_lemma => kernel_rfl) (fun _ _ _ h => h) (Or.inl ⟨by kernel_rfl, ?_⟩) hS ?_
                    rotate_left
                    · intro w hSw; have c0 := hSw.1.2.1; have c1 := hSw.1.2.2.1; have c2 := hSw.1.2.2.2; have d0 := hSw.2.1.c0; have e0 := hSw.2.2.2.1; have e1 := hSw.2.2.2.2.1; have e2 := hSw.2.2.2.2.2; go_simp
                      first | done | with_reducible rfl
                    refine wpAnyH_takeA (i := 9) (some 75) (v := ?_) rfl rfl (by as_aux_lemma => kernel_rfl) (by as_aux_lemma => kernel_rfl) (by as_aux_lemma => kernel_rfl) (fun _ _ _ h => h) (Or.inl ⟨by kernel_rfl, ?_⟩) hS ?_
                    rotate_left
                    · intro w hSw; have c0 := hSw.1.2.1; have c1 := hSw.1.2.2.1; have c2 := hSw.1.2.2.2; have d0 := hSw.2.1.c0; have e0 := hSw.2.2.2.1; have e1 := hSw.2.2.2.2.1; have e2 := hSw.2.2.2.2.2; go_simp
                      first | done | with_reducible rfl
                    refine wpAnyH_takeA (i := 10) (some 76) (v := ?_) rfl rfl (by as_aux_lemma => kernel_rfl) (by as_aux_lemma => kernel_rfl) (by as_aux_lemma => kernel_rfl) (fun _ _ _ h => h) (Or.inl ⟨by kernel_rfl, ?_⟩) hS ?_
                    rotate_left
                    · intro w hSw; have c0 := hSw.1.2.1; have c1 := hSw.1.2.2.1; have c2 := hSw.1.2.2.2; have d0 := hSw.2.1.c0; have e0 := hSw.2.2.2.1; have e1 := hSw.2.2.2.2.1; have e2 := hSw.2.2.2.2.2; go_simp
                      first | done | with_reducible rfl
                    refine wpAnyH_takeA (i := 11) (some 77) (v := ?_) rfl rfl (by as_aux_lemma => kernel_rfl) (by as_aux_lemma => kernel_rfl) (by as_aux_lemma => kernel_rfl) (fun _ _ _ h => h) (Or.inl ⟨by kernel_rfl, ?_⟩) hS ?_
                    rotate_left
                    · intro w hSw; have c0 := hSw.1.2.1; have c1 := hSw.1.2.2.1; have c2 := hSw.1.2.2.2; have d0 := hSw.2.1.c0; have e0 := hSw.2.2.2.1; have e1 := hSw.2.2.2.2.1; have e2 := hSw.2.2.2.2.2; go_simp
                      first | done | with_reducible rfl
                    refine wpAnyH_ready (rs := [12]) (by as_aux_lemma => kernel_rfl) (by simp) ?_
                    refine AllReadyH.cons rfl (fun K hK => ?_) AllReadyH.nil
                    go_simp
                    go_wp2_with (go_at_call 10; refine HSa.out.mono ?_; rintro e w9 ⟨rfl, q9⟩; replace q9 : Below wr.heap.size wr w9 := (Below.refl wr.heap.size wr).drew.trans q9)
                    refine hK.out _ _ ?_ (fun hS => ?_)
                    · exact ⟨hH2.1.below q9 (Nat.le_refl _), hH2.2.1.below q9 (ltA hH2.2.1), hH2.2.2.below q9 (Nat.le_refl _)⟩
                    clear hK K
                    have hH3 := hS
                    refine wpAnyH_takeA (i := 13) (some 79) (v := ?_) rfl rfl (by as_aux_lemma => kernel_rfl) (by as_aux_lemma => kernel_rfl) (by as_aux_lemma => kernel_rfl) (fun _ _ _ h => h) (Or.inl ⟨by kernel_rfl, ?_⟩) hS ?_
                    rotate_left
                    · intro w hSw; have c0 := hSw.1.2.1; have c1 := hSw.1.2.2.1; have c2 := hSw.1.2.2.2; have d0 := hSw.2.1.c0; have e0 := hSw.2.2.2.1; have e1 := hSw.2.2.2.2.1; have e2 := hSw.2.2.2.2.2; go_simp
                      first | done | with_reducible rfl
                    refine wpAnyH_takeA (i := 14) (some 80) (v := ?_) rfl rfl (by as_aux_lemma => kernel_rfl) (by as_aux_lemma => kernel_rfl) (by as_aux_lemma => kernel_rfl) (fun _ _ _ h => h) (Or.inl ⟨by kernel_rfl, ?_⟩) hS ?_
                    rotate_left
                    · intro w hSw; have c0 := hSw.1.2.1; have c1 := hSw.1.2.2.1; have c2 := hSw.1.2.2.2; have d0 := hSw.2.1.c0; have e0 := hSw.2.2.2.1; have e1 := hSw.2.2.2.2.1; have e2 := hSw.2.2.2.2.2; go_simp
                      first | done | with_reducible rfl
                    refine wpAnyH_takeA (i := 15) (some 81) (v := ?_) rfl rfl (by as_aux_lemma => kernel_rfl) (by as_aux_lemma => kernel_rfl) (by as_aux_lemma => kernel_rfl) (fun _ _ _ h => h) (Or.inl ⟨by kernel_rfl, ?_⟩) hS ?_
                    rotate_left
                    · intro w hSw; have c0 := hSw.1.2.1; have c1 := hSw.1.2.2.1; have c2 := hSw.1.2.2.2; have d0 := hSw.2.1.c0; have e0 := hSw.2.2.2.1; have e1 := hSw.2.2.2.2.1; have e2 := hSw.2.2.2.2.2; go_simp
                      first | done | with_reducible rfl
                    refine wpAnyH_takeA (i := 16) (some 82) (v := ?_) rfl rfl (by as_aux_lemma => kernel_rfl) (by as_aux_lemma => kernel_rfl) (by as_aux_lemma => kernel_rfl) (fun _ _ _ h => h) (Or.inl ⟨by kernel_rfl, ?_⟩) hS ?_
                    rotate_left
                    · intro w hSw; have c0 := hSw.1.2.1; have c1 := hSw.1.2.2.1; have c2 := hSw.1.2.2.2; have d0 := hSw.2.1.c0; have e0 := hSw.2.2.2.1; have e1 := hSw.2.2.2.2.1; have e2 := hSw.2.2.2.2.2; go_simp
                      first | done | with_reducible rfl
                    refine wpAnyH_takeA (i := 17) (some 83) (v := ?_) rfl rfl (by as_aux_lemma => kernel_rfl) (by as_aux_lemma => kernel_rfl) (by as_aux_lemma => kernel_rfl) (fun _ _ _ h => h) (Or.inl ⟨by kernel_rfl, ?_⟩) hS ?_
                    rotate_left
                    · intro w hSw; have c0 := hSw.1.2.1; have c1 := hSw.1.2.2.1; have c2 := hSw.1.2.2.2; have d0 := hSw.2.1.c0; have e0 := hSw.2.2.2.1; have e1 := hSw.2.2.2.2.1; have e2 := hSw.2.2.2.2.2; go_simp
                      first | done | with_reducible rfl
                    refine wpAnyH_done (by kernel_rfl) ?_ _
                    have HB9 := Lib.hid (HB.out.trans (q9.mono HB.out.size))
                    have hsm : sameA z x = true := by unfold sameA; exact decide_eq_true HR3.out.1
                    have HSB := Lib.hid (HSA.out w9.drew q9.drew)
                    rw [hsm] at HSB
                    have HR4 := Lib.hid HR3.out.2
                    clear hsm HSA HR3 hS hH2 HSa HB
                    go_simp
                    go_wp2_with fail
                    refine wp_region_any (by kernel_rfl) ?_
                    change wpAny _ _ _ _ _ _ _ (World.drew _)
                    have hS : (fun w' : World => AlC w' b2 (o2 + n * 3) z ∧ AlBlk w' w.heap.size y.ad ny y.cp y.st y.en ∧ AlC w' b1 (o1 + k * 3) x) w9.drew := hH3
                    refine wpAny_of_held (S := fun w' => AlC w' b2 (o2 + n * 3) z ∧ AlBlk w' w.heap.size y.ad ny y.cp y.st y.en ∧ AlC w' b1 (o1 + k * 3) x) _ _ _ _ ?_
                    refine wpAnyH_takeA (i := 0) (some 86) (v := ?_) rfl rfl (by as_aux_lemma => kernel_rfl) (by as_aux_lemma => kernel_rfl) (by as_aux_lemma => kernel_rfl) (fun _ _ _ h => h) (Or.inl ⟨by kernel_rfl, ?_⟩) hS ?_
                    rotate_left
                    · intro w hSw; have c0 := hSw.1.2.1; have c1 := hSw.1.2.2.1; have c2 := hSw.1.2.2.2; have d0 := hSw.2.1.c0; have e0 := hSw.2.2.2.1; have e1 := hSw.2.2.2.2.1; have e2 := hSw.2.2.2.2.2; go_simp
                      first | done | with_reducible rfl
                    refine wpAnyH_takeA (i := 1) (some 87) (v := ?_) rfl rfl (by as_aux_lemma => kernel_rfl) (by as_aux_lemma => kernel_rfl) (by as_aux_lemma => kernel_rfl) (fun _ _ _ h => h) (Or.inl ⟨by kernel_rfl, ?_⟩) hS ?_
                    rotate_left
                    · intro w hSw; have c0 := hSw.1.2.1; have c1 := hSw.1.2.2.1; have c2 := hSw.1.2.2.2; have d0 := hSw.2.1.c0; have e0 := hSw.2.2.2.1; have e1 := hSw.2.2.2.2.1; have e2 := hSw.2.2.2.2.2; go_simp
                      first | done | with_reducible rfl
                    refine wpAnyH_takeA (i := 2) (some 88) (v := ?_) rfl rfl (by as_aux_lemma => kernel_rfl) (by as_aux_lemma => kernel_rfl) (by as_aux_lemma => kernel_rfl) (fun _ _ _ h => h) (Or.inl ⟨by kernel_rfl, ?_⟩) hS ?_
                    rotate_left
                    · intro w hSw; have c0 := hSw.1.2.1; have c1 := hSw.1.2.2.1; have c2 := hSw.1.2.2.2; have d0 := hSw.2.1.c0; have e0 := hSw.2.2.2.1; have e1 := hSw.2.2.2.2.1; have e2 := hSw.2.2.2.2.2; go_simp
                      first | done | with_reducible rfl
                    refine wpAnyH_takeA (i := 3) (some 89) (v := .bool false) rfl rfl (by as_aux_lemma => kernel_rfl) (by as_aux_lemma => kernel_rfl) (by as_aux_lemma => kernel_rfl) (fun _ _ _ h => h) (Or.inl ⟨by kernel_rfl, ?_⟩) hS ?_
                    · intro w hSw; have c0 := hSw.1.2.1; have c1 := hSw.1.2.2.1; have c2 := hSw.1.2.2.2; have d0 := hSw.2.1.c0; have e0 := hSw.2.2.2.1; have e1 := hSw.2.2.2.2.1; have e2 := hSw.2.2.2.2.2; go_simp
                      first | done | with_reducible rfl | (simp; omega) | omega
                    refine wpAnyH_takeA (i := 4) (some 90) (v := ?_) rfl rfl (by as_aux_lemma => kernel_rfl) (by as_aux_lemma => kernel_rfl) (by as_aux_lemma => kernel_rfl) (fun _ _ _ h => h) (Or.inl ⟨by kernel_rfl, ?_⟩) hS ?_
                    rotate_left
                    · intro w hSw; have c0 := hSw.1.2.1; have c1 := hSw.1.2.2.1; have c2 := hSw.1.2.2.2; have d0 := hSw.2.1.c0; have e0 := hSw.2.2.2.1; have e1 := hSw.2.2.2.2.1; have e2 := hSw.2.2.2.2.2; go_simp
                      first | done | with_reducible rfl
                    refine wpAnyH_takeA (i := 5) (some 91) (v := ?_) rfl rfl (by as_aux_lemma => kernel_rfl) (by as_aux_lemma => kernel_rfl) (by as_aux_lemma => kernel_rfl) (fun _ _ _ h => h) (Or.inl ⟨by kernel_rfl, ?_⟩) hS ?_
                    rotate_left
                    · intro w hSw; have c0 := hSw.1.2.1; have c1 := hSw.1.2.2.1; have c2 := hSw.1.2.2.2; have d0 := hSw.2.1.c0; have e0 := hSw.2.2.2.1; have e1 := hSw.2.2.2.2.1; have e2 := hSw.2.2.2.2.2; go_simp
                      first | done | with_reducible rfl
                    refine wpAnyH_takeA (i := 6) (some 92) (v := ?_) rfl rfl (by as_aux_lemma => kernel_rfl) (by as_aux_lemma => kernel_rfl) (by as_aux_lemma => kernel_rfl) (fun _ _ _ h => h) (Or.inl ⟨by kernel_rfl, ?_⟩) hS ?_
                    rotate_left
                    · intro w hSw; have c0 := hSw.1.2.1; have c1 := hSw.1.2.2.1; have c2 := hSw.1.2.2.2; have d0 := hSw.2.1.c0; have e0 := hSw.2.2.2.1; have e1 := hSw.2.2.2.2.1; have e2 := hSw.2.2.2.2.2; go_simp
                      first | done | with_reducible rfl
                    refine wpAnyH_takeA (i := 7) (some 93) (v := ?_) rfl rfl (by as_aux_lemma => kernel_rfl) (by as_aux_lemma => kernel_rfl) (by as_aux_lemma => kernel_rfl) (fun _ _ _ h => h) (Or.inl ⟨by kernel_rfl, ?_⟩) hS ?_
                    rotate_left
                    · intro w hSw; have c0 := hSw.1.2.1; have c1 := hSw.1.2.2.1; have c2 := hSw.1.2.2.2; have d0 := hSw.2.1.c0; have e0 := hSw.2.2.2.1; have e1 := hSw.2.2.2.2.1; have e2 := hSw.2.2.2.2.2; go_simp
                      first | done | with_reducible rfl
                    refine wpAnyH_takeA (i := 8) (some 94) (v := ?_) rfl rfl (by as_aux_lemma => kernel_rfl) (by as_aux_lemma => kernel_rfl) (by as_aux_lemma => kernel_rfl) (fun _ _ _ h => h) (Or.inl ⟨by kernel_rfl, ?_⟩) hS ?_
                    rotate_left
                    · intro w hSw; have c0 := hSw.1.2.1; have c1 := hSw.1.2.2.1; have c2 := hSw.1.2.2.2; have d0 := hSw.2.1.c0; have e0 := hSw.2.2.2.1; have e1 := hSw.2.2.2.2.1; have e2 := hSw.2.2.2.2.2; go_simp
                      first | done | with_reducible rfl
                    refine wpAnyH_takeA (i := 9) (some 95) (v := ?_) rfl rfl (by as_aux_lemma => kernel_rfl) (by as_aux_lemma => kernel_rfl) (by as_aux_lemma => kernel_rfl) (fun _ _ _ h => h) (Or.inl ⟨by kernel_rfl, ?_⟩) hS ?_
                    rotate_left
                    · intro w hSw; have c0 := hSw.1.2.1; have c1 := hSw.1.2.2.1; have c2 := hSw.1.2.2.2; have d0 := hSw.2.1.c0; have e0 := hSw.2.2.2.1; have e1 := hSw.2.2.2.2.1; have e2 := hSw.2.2.2.2.2; go_simp
                      first | done | with_reducible rfl
                    refine wpAnyH_takeA (i := 10) (some 96) (v := ?_) rfl rfl (by as_aux_lemma => kernel_rfl) (by as_aux_lemma => kernel_rfl) (by as_aux_lemma => kernel_rfl) (fun _ _ _ h => h) (Or.inl ⟨by kernel_rfl, ?_⟩) hS ?_
                    rotate_left
                    · intro w hSw; have c0 := hSw.1.2.1; have c1 := hSw.1.2.2.1; have c2 := hSw.1.2.2.2; have d0 := hSw.2.1.c0; have e0 := hSw.2.2.2.1; have e1 := hSw.2.2.2.2.1; have e2 := hSw.2.2.2.2.2; go_simp
                      first | done | with_reducible rfl
                    refine wpAnyH_takeA (i := 11) (some 97) (v := ?_) rfl rfl (by as_aux_lemma => kernel_rfl) (by as_aux_lemma => kernel_rfl) (by as_aux_lemma => kernel_rfl) (fun _ _ _ h => h) (Or.inl ⟨by kernel_rfl, ?_⟩) hS ?_
                    rotate_left
                    · intro w hSw; have c0 := hSw.1.2.1; have c1 := hSw.1.2.2.1; have c2 := hSw.1.2.2.2; have d0 := hSw.2.1.c0; have e0 := hSw.2.2.2.1; have e1 := hSw.2.2.2.2.1; have e2 := hSw.2.2.2.2.2; go_simp
                      first | done | with_reducible rfl
                    refine wpAnyH_takeA (i := 12) (some 98) (v := ?_) rfl rfl (by as_aux_lemma => kernel_rfl) (by as_aux_lemma => kernel_rfl) (by as_aux_lemma => kernel_rfl) (fun _ _ _ h => h) (Or.inl ⟨by kernel_rfl, ?_⟩) hS ?_
                    rotate_left
                    · intro w hSw; have c0 := hSw.1.2.1; have c1 := hSw.1.2.2.1; have c2 := hSw.1.2.2.2; have d0 := hSw.2.1.c0; have e0 := hSw.2.2.2.1; have e1 := hSw.2.2.2.2.1; have e2 := hSw.2.2.2.2.2; go_simp
                      first | done | with_reducible rfl
                    refine wpAnyH_ready (rs := [13]) (by as_aux_lemma => kernel_rfl) (by simp) ?_
                    refine AllReadyH.cons rfl (fun K hK => ?_) AllReadyH.nil
                    go_simp
                    go_wp2_with (go_at_call 11; refine HSB.out.mono ?_; rintro e w10 ⟨rfl, q10⟩; replace q10 : Below w9.heap.size w9 w10 := (Below.refl w9.heap.size w9).drew.trans q10)
                    refine hK.out _ _ ?_ (fun hS => ?_)
                    · exact ⟨hH3.1.below q10 (Nat.le_refl _), hH3.2.1.below q10 (ltA hH3.2.1), hH3.2.2.below q10 (Nat.le_refl _)⟩
                    clear hK K
                    refine wpAnyH_takeA (i := 14) (some 100) (v := ?_) rfl rfl (by as_aux_lemma => kernel_rfl) (by as_aux_lemma => kernel_rfl) (by as_aux_lemma => kernel_rfl) (fun _ _ _ h => h) (Or.inl ⟨by kernel_rfl, ?_⟩) hS ?_
                    rotate_left
                    · intro w hSw; have c0 := hSw.1.2.1; have c1 := hSw.1.2.2.1; have c2 := hSw.1.2.2.2; have d0 := hSw.2.1.c0; have e0 := hSw.2.2.2.1; have e1 := hSw.2.2.2.2.1; have e2 := hSw.2.2.2.2.2; go_simp
                      first | done | with_reducible rfl
                    refine wpAnyH_takeA (i := 15) (some 101) (v := ?_) rfl rfl (by as_aux_lemma => kernel_rfl) (by as_aux_lemma => kernel_rfl) (by as_aux_lemma => kernel_rfl) (fun _ _ _ h => h) (Or.inl ⟨by kernel_rfl, ?_⟩) hS ?_
                    rotate_left
                    · intro w hSw; have c0 := hSw.1.2.1; have c1 := hSw.1.2.2.1; have c2 := hSw.1.2.2.2; have d0 := hSw.2.1.c0; have e0 := hSw.2.2.2.1; have e1 := hSw.2.2.2.2.1; have e2 := hSw.2.2.2.2.2; go_simp
                      first | done | with_reducible rfl
                    refine wpAnyH_done (by kernel_rfl) ?_ _
                    have b9 := HB9.out.trans (q10.mono HB9.out.size)
                    have HB10 := Lib.hid (HB8.out.trans (b9.mono HB8.out.size))
                    clear b9 hH3 hS q9 q10 HSB HB9 HB8
                    go_simp
                    go_wp2
                    go_roundw
                    case rel => exact ⟨n + 1, k + 1, by omega, by omega, by go_num, by go_num, HR4, HB10⟩
                    case measure => simp [intOf]; omega
                · rw [decide_eq_false hz] at HSa
                  have HR3 := Lib.hid (HTk.out (by rw [decide_eq_false hz]; rfl))
                  clear HSk HTk hz
                  go_wp2_with fail
                  refine wp_region_any (by kernel_rfl) ?_
                  change wpAny _ _ _ _ _ _ _ (World.drew _)
                  have hS : (fun w' : World => AlC w' b2 (o2 + n * 3) z ∧ AlBlk w' w.heap.size y.ad ny y.cp y.st y.en ∧ AlC w' b1 (o1 + k * 3) x) wr.drew := hH2
                  refine wpAny_of_held (S := fun w' => AlC w' b2 (o2 + n * 3) z ∧ AlBlk w' w.heap.size y.ad ny y.cp y.st y.en ∧ AlC w' b1 (o1 + k * 3) x) _ _ _ _ ?_
                  refine wpAnyH_takeA (i := 0) (some 66) (v := ?_) rfl rfl (by as_aux_lemma => kernel_rfl) (by as_aux_lemma => kernel_rfl) (by as_aux_lemma => kernel_rfl) (fun _ _ _ h => h) (Or.inl ⟨by kernel_rfl, ?_⟩) hS ?_
                  rotate_left
                  · intro w hSw; have c0 := hSw.1.2.1; have c1 := hSw.1.2.2.1; have c2 := hSw.1.2.2.2; have d0 := hSw.2.1.c0; have e0 := hSw.2.2.2.1; have e1 := hSw.2.2.2.2.1; have e2 := hSw.2.2.2.2.2; go_simp
                    first | done | with_reducible rfl
                  refine wpAnyH_takeA (i := 1) (some 67) (v := ?_) rfl rfl (by as_aux_lemma => kernel_rfl) (by as_aux_lemma => kernel_rfl) (by as_aux_lemma => kernel_rfl) (fun _ _ _ h => h) (Or.inl ⟨by kernel_rfl, ?_⟩) hS ?_
                  rotate_left
                  · intro w hSw; have c0 := hSw.1.2.1; have c1 := hSw.1.2.2.1; have c2 := hSw.1.2.2.2; have d0 := hSw.2.1.c0; have e0 := hSw.2.2.2.1; have e1 := hSw.2.2.2.2.1; have e2 := hSw.2.2.2.2.2; go_simp
                    first | done | with_reducible rfl
                  refine wpAnyH_takeA (i := 2) (some 68) (v := ?_) rfl rfl (by as_aux_lemma => kernel_rfl) (by as_aux_lemma => kernel_rfl) (by as_aux_lemma => kernel_rfl) (fun _ _ _ h => h) (Or.inl ⟨by kernel_rfl, ?_⟩) hS ?_
                  rotate_left
                  · intro w hSw; have c0 := hSw.1.2.1; have c1 := hSw.1.2.2.1; have c2 := hSw.1.2.2.2; have d0 := hSw.2.1.c0; have e0 := hSw.2.2.2.1; have e1 := hSw.2.2.2.2.1; have e2 := hSw.2.2.2.2.2; go_simp
                    first | done | with_reducible rfl
                  refine wpAnyH_takeA (i := 3) (some 69) (v := ?_) rfl rfl (by as_aux_lemma => kernel_rfl) (by as_aux_lemma => kernel_rfl) (by as_aux_lemma => kernel_rfl) (fun _ _ _ h => h) (Or.inl ⟨by kernel_rfl, ?_⟩) hS ?_
                  rotate_left
                  · intro w hSw; have c0 := hSw.1.2.1; have c1 := hSw.1.2.2.1; have c2 := hSw.1.2.2.2; have d0 := hSw.2.1.c0; have e0 := hSw.2.2.2.1; have e1 := hSw.2.2.2.2.1; have e2 := hSw.2.2.2.2.2; go_simp
                    first | done | with_reducible rfl
                  refine wpAnyH_takeA (i := 4) (some 70) (v := ?_) rfl rfl (by as_aux_lemma => kernel_rfl) (by as_aux_lemma => kernel_rfl) (by as_aux_lemma => kernel_rfl) (fun _ _ _ h => h) (Or.inl ⟨by kernel_rfl, ?_⟩) hS ?_
                  rotate_left
                  · intro w hSw; have c0 := hSw.1.2.1; have c1 := hSw.1.2.2.1; have c2 := hSw.1.2.2.2; have d0 := hSw.2.1.c0; have e0 := hSw.2.2.2.1; have e1 := hSw.2.2.2.2.1; have e2 := hSw.2.2.2.2.2; go_simp
                    first | done | with_reducible rfl
                  refine wpAnyH_takeA (i := 5) (some 71) (v := ?_) rfl rfl (by as_aux_lemma => kernel_rfl) (by as_aux_lemma => kernel_rfl) (by as_aux_lemma => kernel_rfl) (fun _ _ _ h => h) (Or.inl ⟨by kernel_rfl, ?_⟩) hS ?_
                  rotate_left
                  · intro w hSw; have c0 := hSw.1.2.1; have c1 := hSw.1.2.2.1; have c2 := hSw.1.2.2.2; have d0 := hSw.2.1.c0; have e0 := hSw.2.2.2.1; have e1 := hSw.2.2.2.2.1; have e2 := hSw.2.2.2.2.2; go_simp
                    first | done | with_reducible rfl
                  refine wpAnyH_takeA (i := 6) (some 72) (v := ?_) rfl rfl (by as_aux_lemma => kernel_rfl) (by as_aux_lemma => kernel_rfl) (by as_aux_lemma => kernel_rfl) (fun _ _ _ h => h) (Or.inl ⟨by kernel_rfl, ?_⟩) hS ?_
                  rotate_left
                  · intro w hSw; have c0 := hSw.1.2.1; have c1 := hSw.1.2.2.1; have c2 := hSw.1.2.2.2; have d0 := hSw.2.1.c0; have e0 := hSw.2.2.2.1; have e1 := hSw.2.2.2.2.1; have e2 := hSw.2.2.2.2.2; go_simp
                    first | done | with_reducible rfl
                  refine wpAnyH_takeA (i := 7) (some 73) (v := ?_) rfl rfl (by as_aux_lemma => kernel_rfl) (by as_aux_lemma => kernel_rfl) (by as_aux_lemma => kernel_rfl) (fun _ _ _ h => h) (Or.inl ⟨by kernel_rfl, ?_⟩) hS ?_
                  rotate_left
                  · intro w hSw; have c0 := hSw.1.2.1; have c1 := hSw.1.2.2.1; have c2 := hSw.1.2.2.2; have d0 := hSw.2.1.c0; have e0 := hSw.2.2.2.1; have e1 := hSw.2.2.2.2.1; have e2 := hSw.2.2.2.2.2; go_simp
                    first | done | with_reducible rfl
                  refine wpAnyH_takeA (i := 8) (some 74) (v := ?_) rfl rfl (by as_aux_lemma => kernel_rfl) (by as_aux_lemma => kernel_rfl) (by as_aux_lemma => kernel_rfl) (fun _ _ _ h => h) (Or.inl ⟨by kernel_rfl, ?_⟩) hS ?_
                  rotate_left
                  · intro w hSw; have c0 := hSw.1.2.1; have c1 := hSw.1.2.2.1; have c2 := hSw.1.2.2.2; have d0 := hSw.2.1.c0; have e0 := hSw.2.2.2.1; have e1 := hSw.2.2.2.2.1; have e2 := hSw.2.2.2.2.2; go_simp
                    first | done | with_reducible rfl
                  refine wpAnyH_takeA (i := 9) (some 75) (v := ?_) rfl rfl (by as_aux_lemma => kernel_rfl) (by as_aux_lemma => kernel_rfl) (by as_aux_lemma => kernel_rfl) (fun _ _ _ h => h) (Or.inl ⟨by kernel_rfl, ?_⟩) hS ?_
                  rotate_left
                  · intro w hSw; have c0 := hSw.1.2.1; have c1 := hSw.1.2.2.1; have c2 := hSw.1.2.2.2; have d0 := hSw.2.1.c0; have e0 := hSw.2.2.2.1; have e1 := hSw.2.2.2.2.1; have e2 := hSw.2.2.2.2.2; go_simp
                    first | done | with_reducible rfl
                  refine wpAnyH_takeA (i := 10) (some 76) (v := ?_) rfl rfl (by as_aux_lemma => kernel_rfl) (by as_aux_lemma => kernel_rfl) (by as_aux_lemma => kernel_rfl) (fun _ _ _ h => h) (Or.inl ⟨by kernel_rfl, ?_⟩) hS ?_
                  rotate_left
                  · intro w hSw; have c0 := hSw.1.2.1; have c1 := hSw.1.2.2.1; have c2 := hSw.1.2.2.2; have d0 := hSw.2.1.c0; have e0 := hSw.2.2.2.1; have e1 := hSw.2.2.2.2.1; have e2 := hSw.2.2.2.2.2; go_simp
                    first | done | with_reducible rfl
                  refine wpAnyH_takeA (i := 11) (some 77) (v := ?_) rfl rfl (by as_aux_lemma => kernel_rfl) (by as_aux_lemma => kernel_rfl) (by as_aux_lemma => kernel_rfl) (fun _ _ _ h => h) (Or.inl ⟨by kernel_rfl, ?_⟩) hS ?_
                  rotate_left
                  · intro w hSw; have c0 := hSw.1.2.1; have c1 := hSw.1.2.2.1; have c2 := hSw.1.2.2.2; have d0 := hSw.2.1.c0; have e0 := hSw.2.2.2.1; have e1 := hSw.2.2.2.2.1; have e2 := hSw.2.2.2.2.2; go_simp
                    first | done | with_reducible rfl
                  refine wpAnyH_ready (rs := [12]) (by as_aux_lemma => kernel_rfl) (by simp) ?_
                  refine AllReadyH.cons rfl (fun K hK => ?_) AllReadyH.nil
                  go_simp
                  go_wp2_with (go_at_call 10; refine HSa.out.mono ?_; rintro e w9 ⟨rfl, q9⟩; replace q9 : Below wr.heap.size wr w9 := (Below.refl wr.heap.size wr).drew.trans q9)
                  refine hK.out _ _ ?_ (fun hS => ?_)
                  · exact ⟨hH2.1.below q9 (Nat.le_refl _), hH2.2.1.below q9 (ltA hH2.2.1), hH2.2.2.below q9 (Nat.le_refl _)⟩
                  clear hK K
                  have hH3 := hS
                  refine wpAnyH_takeA (i := 13) (some 79) (v := ?_) rfl rfl (by as_aux_lemma => kernel_rfl) (by as_aux_lemma => kernel_rfl) (by as_aux_lemma => kernel_rfl) (fun _ _ _ h => h) (Or.inl ⟨by kernel_rfl, ?_⟩) hS ?_
                  rotate_left
                  · intro w hSw; have c0 := hSw.1.2.1; have c1 := hSw.1.2.2.1; have c2 := hSw.1.2.2.2; have d0 := hSw.2.1.c0; have e0 := hSw.2.2.2.1; have e1 := hSw.2.2.2.2.1; have e2 := hSw.2.2.2.2.2; go_simp
                    first | done | with_reducible rfl
                  refine wpAnyH_takeA (i := 14) (some 80) (v := ?_) rfl rfl (by as_aux_lemma => kernel_rfl) (by as_aux_lemma => kernel_rfl) (by as_aux_lemma => kernel_rfl) (fun _ _ _ h => h) (Or.inl ⟨by kernel_rfl, ?_⟩) hS ?_
                  rotate_left
                  · intro w hSw; have c0 := hSw.1.2.1; have c1 := hSw.1.2.2.1; have c2 := hSw.1.2.2.2; have d0 := hSw.2.1.c0; have e0 := hSw.2.2.2.1; have e1 := hSw.2.2.2.2.1; have e2 := hSw.2.2.2.2.2; go_simp
                    first | done | with_reducible rfl
                  refine wpAnyH_takeA (i := 15) (some 81) (v := undef) rfl rfl (by as_aux_lemma => kernel_rfl) (by as_aux_lemma => kernel_rfl) (by as_aux_lemma => kernel_rfl) (fun _ _ _ h => h) (Or.inr ⟨by kernel_rfl, rfl⟩) hS ?_
                  refine wpAnyH_takeA (i := 16) (some 82) (v := undef) rfl rfl (by as_aux_lemma => kernel_rfl) (by as_aux_lemma => kernel_rfl) (by as_aux_lemma => kernel_rfl) (fun _ _ _ h => h) (Or.inr ⟨by kernel_rfl, rfl⟩) hS ?_
                  refine wpAnyH_takeA (i := 17) (some 83) (v := ?_) rfl rfl (by as_aux_lemma => kernel_rfl) (by as_aux_lemma => kernel_rfl) (by as_aux_lemma => kernel_rfl) (fun _ _ _ h => h) (Or.inl ⟨by kernel_rfl, ?_⟩) hS ?_
                  rotate_left
                  · intro w hSw; have c0 := hSw.1.2.1; have c1 := hSw.1.2.2.1; have c2 := hSw.1.2.2.2; have d0 := hSw.2.1.c0; have e0 := hSw.2.2.2.1; have e1 := hSw.2.2.2.2.1; have e2 := hSw.2.2.2.2.2; go_simp
                    first | done | with_reducible rfl
                  refine wpAnyH_done (by kernel_rfl) ?_ _
                  have HB9 := Lib.hid (HB.out.trans (q9.mono HB.out.size))
                  have hsm : sameA z x = true := by unfold sameA; exact decide_eq_true HR3.out.1
                  have HSB := Lib.hid (HSA.out w9.drew q9.drew)
                  rw [hsm] at HSB
                  have HR4 := Lib.hid HR3.out.2
                  clear hsm HSA HR3 hS hH2 HSa HB
                  go_simp
                  go_wp2_with fail
                  refine wp_region_any (by kernel_rfl) ?_
                  change wpAny _ _ _ _ _ _ _ (World.drew _)
                  have hS : (fun w' : World => AlC w' b2 (o2 + n * 3) z ∧ AlBlk w' w.heap.size y.ad ny y.cp y.st y.en ∧ AlC w' b1 (o1 + k * 3) x) w9.drew := hH3
                  refine wpAny_of_held (S := fun w' => AlC w' b2 (o2 + n * 3) z ∧ AlBlk w' w.heap.size y.ad ny y.cp y.st y.en ∧ AlC w' b1 (o1 + k * 3) x) _ _ _ _ ?_
                  refine wpAnyH_takeA (i := 0) (some 86) (v := ?_) rfl rfl (by as_aux_lemma => kernel_rfl) (by as_aux_lemma => kernel_rfl) (by as_aux_lemma => kernel_rfl) (fun _ _ _ h => h) (Or.inl ⟨by kernel_rfl, ?_⟩) hS ?_
                  rotate_left
                  · intro w hSw; have c0 := hSw.1.2.1; have c1 := hSw.1.2.2.1; have c2 := hSw.1.2.2.2; have d0 := hSw.2.1.c0; have e0 := hSw.2.2.2.1; have e1 := hSw.2.2.2.2.1; have e2 := hSw.2.2.2.2.2; go_simp
                    first | done | with_reducible rfl
                  refine wpAnyH_takeA (i := 1) (some 87) (v := ?_) rfl rfl (by as_aux_lemma => kernel_rfl) (by as_aux_lemma => kernel_rfl) (by as_aux_lemma => kernel_rfl) (fun _ _ _ h => h) (Or.inl ⟨by kernel_rfl, ?_⟩) hS ?_
                  rotate_left
                  · intro w hSw; have c0 := hSw.1.2.1; have c1 := hSw.1.2.2.1; have c2 := hSw.1.2.2.2; have d0 := hSw.2.1.c0; have e0 := hSw.2.2.2.1; have e1 := hSw.2.2.2.2.1; have e2 := hSw.2.2.2.2.2; go_simp
                    first | done | with_reducible rfl
                  refine wpAnyH_takeA (i := 2) (some 88) (v := ?_) rfl rfl (by as_aux_lemma => kernel_rfl) (by as_aux_lemma => kernel_rfl) (by as_aux_lemma => kernel_rfl) (fun _ _ _ h => h) (Or.inl ⟨by kernel_rfl, ?_⟩) hS ?_
                  rotate_left
                  · intro w hSw; have c0 := hSw.1.2.1; have c1 := hSw.1.2.2.1; have c2 := hSw.1.2.2.2; have d0 := hSw.2.1.c0; have e0 := hSw.2.2.2.1; have e1 := hSw.2.2.2.2.1; have e2 := hSw.2.2.2.2.2; go_simp
                    first | done | with_reducible rfl
                  refine wpAnyH_takeA (i := 3) (some 89) (v := .bool false) rfl rfl (by as_aux_lemma => kernel_rfl) (by as_aux_lemma => kernel_rfl) (by as_aux_lemma => kernel_rfl) (fun _ _ _ h => h) (Or.inl ⟨by kernel_rfl, ?_⟩) hS ?_
                  · intro w hSw; have c0 := hSw.1.2.1; have c1 := hSw.1.2.2.1; have c2 := hSw.1.2.2.2; have d0 := hSw.2.1.c0; have e0 := hSw.2.2.2.1; have e1 := hSw.2.2.2.2.1; have e2 := hSw.2.2.2.2.2; go_simp
                    first | done | with_reducible rfl | (simp; omega) | omega
                  refine wpAnyH_takeA (i := 4) (some 90) (v := ?_) rfl rfl (by as_aux_lemma => kernel_rfl) (by as_aux_lemma => kernel_rfl) (by as_aux_lemma => kernel_rfl) (fun _ _ _ h => h) (Or.inl ⟨by kernel_rfl, ?_⟩) hS ?_
                  rotate_left
                  · intro w hSw; have c0 := hSw.1.2.1; have c1 := hSw.1.2.2.1; have c2 := hSw.1.2.2.2; have d0 := hSw.2.1.c0; have e0 := hSw.2.2.2.1; have e1 := hSw.2.2.2.2.1; have e2 := hSw.2.2.2.2.2; go_simp
                    first | done | with_reducible rfl
                  refine wpAnyH_takeA (i := 5) (some 91) (v := ?_) rfl rfl (by as_aux_lemma => kernel_rfl) (by as_aux_lemma => kernel_rfl) (by as_aux_lemma => kernel_rfl) (fun _ _ _ h => h) (Or.inl ⟨by kernel_rfl, ?_⟩) hS ?_
                  rotate_left
                  · intro w hSw; have c0 := hSw.1.2.1; have c1 := hSw.1.2.2.1; have c2 := hSw.1.2.2.2; have d0 := hSw.2.1.c0; have e0 := hSw.2.2.2.1; have e1 := hSw.2.2.2.2.1; have e2 := hSw.2.2.2.2.2; go_simp
                    first | done | with_reducible rfl
                  refine wpAnyH_takeA (i := 6) (some 92) (v := ?_) rfl rfl (by as_aux_lemma => kernel_rfl) (by as_aux_lemma => kernel_rfl) (by as_aux_lemma => kernel_rfl) (fun _ _ _ h => h) (Or.inl ⟨by kernel_rfl, ?_⟩) hS ?_
                  rotate_left
                  · intro w hSw; have c0 := hSw.1.2.1; have c1 := hSw.1.2.2.1; have c2 := hSw.1.2.2.2; have d0 := hSw.2.1.c0; have e0 := hSw.2.2.2.1; have e1 := hSw.2.2.2.2.1; have e2 := hSw.2.2.2.2.2; go_simp
                    first | done | with_reducible rfl
                  refine wpAnyH_takeA (i := 7) (some 93) (v := ?_) rfl rfl (by as_aux_lemma => kernel_rfl) (by as_aux_lemma => kernel_rfl) (by as_aux_lemma => kernel_rfl) (fun _ _ _ h => h) (Or.inl ⟨by kernel_rfl, ?_⟩) hS ?_
                  rotate_left
                  · intro w hSw; have c0 := hSw.1.2.1; have c1 := hSw.1.2.2.1; have c2 := hSw.1.2.2.2; have d0 := hSw.2.1.c0; have e0 := hSw.2.2.2.1; have e1 := hSw.2.2.2.2.1; have e2 := hSw.2.2.2.2.2; go_simp
                    first | done | with_reducible rfl
                  refine wpAnyH_takeA (i := 8) (some 94) (v := ?_) rfl rfl (by as_aux_lemma => kernel_rfl) (by as_aux_lemma => kernel_rfl) (by as_aux_lemma => kernel_rfl) (fun _ _ _ h => h) (Or.inl ⟨by kernel_rfl, ?_⟩) hS ?_
                  rotate_left
                  · intro w hSw; have c0 := hSw.1.2.1; have c1 := hSw.1.2.2.1; have c2 := hSw.1.2.2.2; have d0 := hSw.2.1.c0; have e0 := hSw.2.2.2.1; have e1 := hSw.2.2.2.2.1; have e2 := hSw.2.2.2.2.2; go_simp
                    first | done | with_reducible rfl
                  refine wpAnyH_takeA (i := 9) (some 95) (v := ?_) rfl rfl (by as_aux_lemma => kernel_rfl) (by as_aux_lemma => kernel_rfl) (by as_aux_lemma => kernel_rfl) (fun _ _ _ h => h) (Or.inl ⟨by kernel_rfl, ?_⟩) hS ?_
                  rotate_left
                  · intro w hSw; have c0 := hSw.1.2.1; have c1 := hSw.1.2.2.1; have c2 := hSw.1.2.2.2; have d0 := hSw.2.1.c0; have e0 := hSw.2.2.2.1; have e1 := hSw.2.2.2.2.1; have e2 := hSw.2.2.2.2.2; go_simp
                    first | done | with_reducible rfl
                  refine wpAnyH_takeA (i := 10) (some 96) (v := ?_) rfl rfl (by as_aux_lemma => kernel_rfl) (by as_aux_lemma => kernel_rfl) (by as_aux_lemma => kernel_rfl) (fun _ _ _ h => h) (Or.inl ⟨by kernel_rfl, ?_⟩) hS ?_
                  rotate_left
                  · intro w hSw; have c0 := hSw.1.2.1; have c1 := hSw.1.2.2.1; have c2 := hSw.1.2.2.2; have d0 := hSw.2.1.c0; have e0 := hSw.2.2.2.1; have e1 := hSw.2.2.2.2.1; have e2 := hSw.2.2.2.2.2; go_simp
                    first | done | with_reducible rfl
                  refine wpAnyH_takeA (i := 11) (some 97) (v := ?_) rfl rfl (by as_aux_lemma => kernel_rfl) (by as_aux_lemma => kernel_rfl) (by as_aux_lemma => kernel_rfl) (fun _ _ _ h => h) (Or.inl ⟨by kernel_rfl, ?_⟩) hS ?_
                  rotate_left
                  · intro w hSw; have c0 := hSw.1.2.1; have c1 := hSw.1.2.2.1; have c2 := hSw.1.2.2.2; have d0 := hSw.2.1.c0; have e0 := hSw.2.2.2.1; have e1 := hSw.2.2.2.2.1; have e2 := hSw.2.2.2.2.2; go_simp
                    first | done | with_reducible rfl
                  refine wpAnyH_takeA (i := 12) (some 98) (v := ?_) rfl rfl (by as_aux_lemma => kernel_rfl) (by as_aux_lemma => kernel_rfl) (by as_aux_lemma => kernel_rfl) (fun _ _ _ h => h) (Or.inl ⟨by kernel_rfl, ?_⟩) hS ?_
                  rotate_left
                  · intro w hSw; have c0 := hSw.1.2.1; have c1 := hSw.1.2.2.1; have c2 := hSw.1.2.2.2; have d0 := hSw.2.1.c0; have e0 := hSw.2.2.2.1; have e1 := hSw.2.2.2.2.1; have e2 := hSw.2.2.2.2.2; go_simp
                    first | done | with_reducible rfl
                  refine wpAnyH_ready (rs := [13]) (by as_aux_lemma => kernel_rfl) (by simp) ?_
                  refine AllReadyH.cons rfl (fun K hK => ?_) AllReadyH.nil
                  go_simp
                  go_wp2_with (go_at_call 11; refine HSB.out.mono ?_; rintro e w10 ⟨rfl, q10⟩; replace q10 : Below w9.heap.size w9 w10 := (Below.refl w9.heap.size w9).drew.trans q10)
                  refine hK.out _ _ ?_ (fun hS => ?_)
                  · exact ⟨hH3.1.below q10 (Nat.le_refl _), hH3.2.1.below q10 (ltA hH3.2.1), hH3.2.2.below q10 (Nat.le_refl _)⟩
                  clear hK K
                  refine wpAnyH_takeA (i := 14) (some 100) (v := ?_) rfl rfl (by as_aux_lemma => kernel_rfl) (by as_aux_lemma => kernel_rfl) (by as_aux_lemma => kernel_rfl) (fun _ _ _ h => h) (Or.inl ⟨by kernel_rfl, ?_⟩) hS ?_
                  rotate_left
                  · intro w hSw; have c0 := hSw.1.2.1; have c1 := hSw.1.2.2.1; have c2 := hSw.1.2.2.2; have d0 := hSw.2.1.c0; have e0 := hSw.2.2.2.1; have e1 := hSw.2.2.2.2.1; have e2 := hSw.2.2.2.2.2; go_simp
                    first | done | with_reducible rfl
                  refine wpAnyH_takeA (i := 15) (some 101) (v := ?_) rfl rfl (by as_aux_lemma => kernel_rfl) (by as_aux_lemma => kernel_rfl) (by as_aux_lemma => kernel_rfl) (fun _ _ _ h => h) (Or.inl ⟨by kernel_rfl, ?_⟩) hS ?_
                  rotate_left
                  · intro w hSw; have c0 := hSw.1.2.1; have c1 := hSw.1.2.2.1; have c2 := hSw.1.2.2.2; have d0 := hSw.2.1.c0; have e0 := hSw.2.2.2.1; have e1 := hSw.2.2.2.2.1; have e2 := hSw.2.2.2.2.2; go_simp
                    first | done | with_reducible rfl
                  refine wpAnyH_done (by kernel_rfl) ?_ _
                  have b9 := HB9.out.trans (q10.mono HB9.out.size)
                  have HB10 := Lib.hid (HB8.out.trans (b9.mono HB8.out.size))
                  clear b9 hH3 hS q9 q10 HSB HB9 HB8
                  go_simp
                  go_wp2
                  go_roundw
                  case rel => exact ⟨n + 1, k + 1, by omega, by omega, by go_num, by go_num, HR4, HB10⟩
                  case measure => simp [intOf]; omega
          · rw [decide_eq_false hs] at HSa
            have HR2 := Lib.hid (HTk.out (by rw [decide_eq_false hs]; rfl))
            clear HSk HTk hs
            go_wp2_with fail
            refine wp_region_any (by kernel_rfl) ?_
            change wpAny _ _ _ _ _ _ _ (World.drew _)
            have hS : (fun w' : World => AlC w' b1 (o1 + k * 3) x ∧ AlBlk w' w.heap.size y.ad ny y.cp y.st y.en) wr.drew := hH1
            refine wpAny_of_held (S := fun w' => AlC w' b1 (o1 + k * 3) x ∧ AlBlk w' w.heap.size y.ad ny y.cp y.st y.en) _ _ _ _ ?_
            refine wpAnyH_takeA (i := 0) (some 54) (v := ?_) rfl rfl (by as_aux_lemma => kernel_rfl) (by as_aux_lemma => kernel_rfl) (by as_aux_lemma => kernel_rfl) (fun _ _ _ h => h) (Or.inl ⟨by kernel_rfl, ?_⟩) hS ?_
            rotate_left
            · intro w hSw; have c0 := hSw.1.2.1; have d0 := hSw.2.c0; go_simp
              first | done | with_reducible rfl
            refine wpAnyH_takeA (i := 1) (some 55) (v := ?_) rfl rfl (by as_aux_lemma => kernel_rfl) (by as_aux_lemma => kernel_rfl) (by as_aux_lemma => kernel_rfl) (fun _ _ _ h => h) (Or.inl ⟨by kernel_rfl, ?_⟩) hS ?_
            rotate_left
            · intro w hSw; have c0 := hSw.1.2.1; have d0 := hSw.2.c0; go_simp
              first | done | with_reducible rfl
            refine wpAnyH_takeA (i := 2) (some 56) (v := ?_) rfl rfl (by as_aux_lemma => kernel_rfl) (by as_aux_lemma => kernel_rfl) (by as_aux_lemma => kernel_rfl) (fun _ _ _ h => h) (Or.inl ⟨by kernel_rfl, ?_⟩) hS ?_
            rotate_left
            · intro w hSw; have c0 := hSw.1.2.1; have d0 := hSw.2.c0; go_simp
              first | done | with_reducible rfl
            refine wpAnyH_takeA (i := 3) (some 57) (v := ?_) rfl rfl (by as_aux_lemma => kernel_rfl) (by as_aux_lemma => kernel_rfl) (by as_aux_lemma => kernel_rfl) (fun _ _ _ h => h) (Or.inl ⟨by kernel_rfl, ?_⟩) hS ?_
            rotate_left
            · intro w hSw; have c0 := hSw.1.2.1; have d0 := hSw.2.c0; go_simp
              first | done | with_reducible rfl
            refine wpAnyH_takeA (i := 4) (some 58) (v := ?_) rfl rfl (by as_aux_lemma => kernel_rfl) (by as_aux_lemma => kernel_rfl) (by as_aux_lemma => kernel_rfl) (fun _ _ _ h => h) (Or.inl ⟨by kernel_rfl, ?_⟩) hS ?_
            rotate_left
            · intro w hSw; have c0 := hSw.1.2.1; have d0 := hSw.2.c0; go_simp
              first | done | with_reducible rfl
            refine wpAnyH_takeA (i := 5) (some 59) (v := ?_) rfl rfl (by as_aux_lemma => kernel_rfl) (by as_aux_lemma => kernel_rfl) (by as_aux_lemma => kernel_rfl) (fun _ _ _ h => h) (Or.inl ⟨by kernel_rfl, ?_⟩) hS ?_
            rotate_left
            · intro w hSw; have c0 := hSw.1.2.1; have d0 := hSw.2.c0; go_simp
              first | done | with_reducible rfl
            refine wpAnyH_takeA (i := 6) (some 60) (v := ?_) rfl rfl (by as_aux_lemma => kernel_rfl) (by as_aux_lemma => kernel_rfl) (by as_aux_lemma => kernel_rfl) (fun _ _ _ h => h) (Or.inl ⟨by kernel_rfl, ?_⟩) hS ?_
            rotate_left
            · intro w hSw; have c0 := hSw.1.2.1; have d0 := hSw.2.c0; go_simp
              first | done | with_reducible rfl
            refine wpAnyH_ready (rs := [7]) (by as_aux_lemma => kernel_rfl) (by simp) ?_
            refine AllReadyH.cons rfl (fun K hK => ?_) AllReadyH.nil
            go_simp
            go_wp2_with (go_at_call 10; refine HSa.out.mono ?_; rintro e w8 ⟨rfl, q8⟩; replace q8 : Below wr.heap.size wr w8 := (Below.refl wr.heap.size wr).drew.trans q8)
            refine hK.out _ _ ?_ (fun hS => ?_)
            · exact ⟨hH1.1.below q8 (Nat.le_refl _), hH1.2.below q8 (ltA hH1.2)⟩
            clear hK K
            refine wpAnyH_takeA (i := 8) (some 62) (v := ?_) rfl rfl (by as_aux_lemma => kernel_rfl) (by as_aux_lemma => kernel_rfl) (by as_aux_lemma => kernel_rfl) (fun _ _ _ h => h) (Or.inl ⟨by kernel_rfl, ?_⟩) hS ?_
            rotate_left
            · intro w hSw; have c0 := hSw.1.2.1; have d0 := hSw.2.c0; go_simp
              first | done | with_reducible rfl
            refine wpAnyH_takeA (i := 9) (some 63) (v := undef) rfl rfl (by as_aux_lemma => kernel_rfl) (by as_aux_lemma => kernel_rfl) (by as_aux_lemma => kernel_rfl) (fun _ _ _ h => h) (Or.inr ⟨by kernel_rfl, rfl⟩) hS ?_
            refine wpAnyH_takeA (i := 10) (some 64) (v := undef) rfl rfl (by as_aux_lemma => kernel_rfl) (by as_aux_lemma => kernel_rfl) (by as_aux_lemma => kernel_rfl) (fun _ _ _ h => h) (Or.inr ⟨by kernel_rfl, rfl⟩) hS ?_
            refine wpAnyH_takeA (i := 11) (some 65) (v := ?_) rfl rfl (by as_aux_lemma => kernel_rfl) (by as_aux_lemma => kernel_rfl) (by as_aux_lemma => kernel_rfl) (fun _ _ _ h => h) (Or.inl ⟨by kernel_rfl, ?_⟩) hS ?_
            rotate_left
            · intro w hSw; have c0 := hSw.1.2.1; have d0 := hSw.2.c0; go_simp
              first | done | with_reducible rfl
            refine wpAnyH_done (by kernel_rfl) ?_ _
            have HB8 := Lib.hid (HB.out.trans (q8.mono HB.out.size))
            have HPx8 := Lib.hid q8
            clear q8 hS
            clear hH1 HSa HB
            go_simp
            go_wp2
            go_loopw [11] (fun nv wr => ∃ (n : Nat), n ≤ nW ∧ nv = .int .i64 n ∧ Hid (restA y.ps (decide (E = 0)) (W.drop n) = x.al :: restA y.ps (decide (E = 0)) (N.drop (k + 1))) ∧ Hid (Below w8.heap.size w8 wr)) (fun nv _ => nW - (intOf nv).toNat)
            case atStart => exact ⟨n, hn', rfl, HR2, Lib.hid (Below.refl _ _)⟩
            case round =>
              clear HR2 hn'
              obtain ⟨n, hn', rfl, HR, HB⟩ := hrel
              have hnW' : n < W.length := by
                refine Nat.lt_of_not_le fun hle => ?_
                have h1 := HR.out
                rw [rest_end hle] at h1
                cases h1
              have hlt3 : n < nW := by have := HNW.out; omega
              have hkl3 : (n : Int) < (nW : Int) := by omega
              have hkl4 : decide ((nW : Int) ≤ (n : Int)) = false := decide_eq_false (by omega)
              have hkl5 : decide ((n : Int) ≥ (nW : Int)) = false := decide_eq_false (by omega)
              obtain ⟨haW, -, k3, hp3, hfW, -, b3⟩ := HX.out
              have bb := HB8.out.trans (HB.out.mono HB8.out.size)
              obtain ⟨b2, o2, rfl, hC2, hpz⟩ := (haW.below bb (Nat.le_refl _)).c n hnW'
              have kr := k3.below bb (ltA k3)
              have hfz := hfW _ (List.getElem_mem hnW')
              have q8r := HPx8.out.trans (HB.out.mono HPx8.out.size)
              have hC1 := HPx.out.2.2.2.below q8r (Nat.le_refl _)
              have hpx := HPx.out.1.below q8r (Nat.le_refl _)
              have HSa := Lib.hid (Same_any W[n].ad y.ad W[n].cp y.cp W[n].ps y.ps wr.drew (hpz.below (Below.refl wr.heap.size wr).drew (Nat.le_refl _)) ((hp3.below bb (Nat.le_refl _)).below (Below.refl wr.heap.size wr).drew (Nat.le_refl _)) hfz _ ny rfl HY.out.1)
              have HSA := Lib.hid (fun v (q : Below wr.heap.size wr v) => arSameA_any W[n] x v (hpz.below q (Nat.le_refl _)) (hpx.below q (Nat.le_refl _)) hfz)
              have HSk : Hid (skP y.ps (decide (E = 0)) W[n] = true → restA y.ps (decide (E = 0)) (W.drop (n + 1)) = x.al :: restA y.ps (decide (E = 0)) (N.drop (k + 1))) := Lib.hid fun e => by rw [← HR.out, ← rest_skip hnW' e]
              have HTk : Hid (skP y.ps (decide (E = 0)) W[n] = false → W[n].al = x.al ∧ restA y.ps (decide (E = 0)) (W.drop (n + 1)) = restA y.ps (decide (E = 0)) (N.drop (k + 1))) := Lib.hid fun e => by
                have h1 := HR.out
                rw [rest_take hnW' e] at h1
                injection h1 with h1 h2
                exact ⟨h1, h2⟩
              have hH2 := And.intro hC2 (And.intro kr hC1)
              clear haW k3 hp3 hfW b3 bb hC2 hpz kr hfz hC1 hpx q8r HR
              unfold skP at HSk HTk
              generalize W[n] = z at *
              by_cases hz : z.ps = y.ps
              · by_cases hEz : E = 0
                · rw [decide_eq_true hz] at HSa
                  have HR3 := Lib.hid (HSk.out (by rw [decide_eq_true hz, decide_eq_true hEz]; rfl))
                  clear HSk HTk HSA hz
                  have hEz' : (E == 0) = true := beq_iff_eq.2 hEz
                  clear hEz
                  go_wp2_with fail
                  refine wp_region_any (by kernel_rfl) ?_
                  change wpAny _ _ _ _ _ _ _ (World.drew _)
                  have hS : (fun w' : World => AlC w' b2 (o2 + n * 3) z ∧ AlBlk w' w.heap.size y.ad ny y.cp y.st y.en ∧ AlC w' b1 (o1 + k * 3) x) wr.drew := hH2
                  refine wpAny_of_held (S := fun w' => AlC w' b2 (o2 + n * 3) z ∧ AlBlk w' w.heap.size y.ad ny y.cp y.st y.en ∧ AlC w' b1 (o1 + k * 3) x) _ _ _ _ ?_
                  refine wpAnyH_takeA (i := 0) (some 66) (v := ?_) rfl rfl (by as_aux_lemma => kernel_rfl) (by as_aux_lemma => kernel_rfl) (by as_aux_lemma => kernel_rfl) (fun _ _ _ h => h) (Or.inl ⟨by kernel_rfl, ?_⟩) hS ?_
                  rotate_left
                  · intro w hSw; have c0 := hSw.1.2.1; have c1 := hSw.1.2.2.1; have c2 := hSw.1.2.2.2; have d0 := hSw.2.1.c0; have e0 := hSw.2.2.2.1; have e1 := hSw.2.2.2.2.1; have e2 := hSw.2.2.2.2.2; go_simp
                    first | done | with_reducible rfl
                  refine wpAnyH_takeA (i := 1) (some 67) (v := ?_) rfl rfl (by as_aux_lemma => kernel_rfl) (by as_aux_lemma => kernel_rfl) (by as_aux_lemma => kernel_rfl) (fun _ _ _ h => h) (Or.inl ⟨by kernel_rfl, ?_⟩) hS ?_
                  rotate_left
                  · intro w hSw; have c0 := hSw.1.2.1; have c1 := hSw.1.2.2.1; have c2 := hSw.1.2.2.2; have d0 := hSw.2.1.c0; have e0 := hSw.2.2.2.1; have e1 := hSw.2.2.2.2.1; have e2 := hSw.2.2.2.2.2; go_simp
                    first | done | with_reducible rfl
                  refine wpAnyH_takeA (i := 2) (some 68) (v := ?_) rfl rfl (by as_aux_lemma => kernel_rfl) (by as_aux_lemma => kernel_rfl) (by as_aux_lemma => kernel_rfl) (fun _ _ _ h => h) (Or.inl ⟨by kernel_rfl, ?_⟩) hS ?_
                  rotate_left
                  · intro w hSw; have c0 := hSw.1.2.1; have c1 := hSw.1.2.2.1; have c2 := hSw.1.2.2.2; have d0 := hSw.2.1.c0; have e0 := hSw.2.2.2.1; have e1 := hSw.2.2.2.2.1; have e2 := hSw.2.2.2.2.2; go_simp
                    first | done | with_reducible rfl
                  refine wpAnyH_takeA (i := 3) (some 69) (v := ?_) rfl rfl (by as_aux_lemma => kernel_rfl) (by as_aux_lemma => kernel_rfl) (by as_aux_lemma => kernel_rfl) (fun _ _ _ h => h) (Or.inl ⟨by kernel_rfl, ?_⟩) hS ?_
                  rotate_left
                  · intro w hSw; have c0 := hSw.1.2.1; have c1 := hSw.1.2.2.1; have c2 := hSw.1.2.2.2; have d0 := hSw.2.1.c0; have e0 := hSw.2.2.2.1; have e1 := hSw.2.2.2.2.1; have e2 := hSw.2.2.2.2.2; go_simp
                    first | done | with_reducible rfl
                  refine wpAnyH_takeA (i := 4) (some 70) (v := ?_) rfl rfl (by as_aux_lemma => kernel_rfl) (by as_aux_lemma => kernel_rfl) (by as_aux_lemma => kernel_rfl) (fun _ _ _ h => h) (Or.inl ⟨by kernel_rfl, ?_⟩) hS ?_
                  rotate_left
                  · intro w hSw; have c0 := hSw.1.2.1; have c1 := hSw.1.2.2.1; have c2 := hSw.1.2.2.2; have d0 := hSw.2.1.c0; have e0 := hSw.2.2.2.1; have e1 := hSw.2.2.2.2.1; have e2 := hSw.2.2.2.2.2; go_simp
                    first | done | with_reducible rfl
                  refine wpAnyH_takeA (i := 5) (some 71) (v := ?_) rfl rfl (by as_aux_lemma => kernel_rfl) (by as_aux_lemma => kernel_rfl) (by as_aux_lemma => kernel_rfl) (fun _ _ _ h => h) (Or.inl ⟨by kernel_rfl, ?_⟩) hS ?_
                  rotate_left
                  · intro w hSw; have c0 := hSw.1.2.1; have c1 := hSw.1.2.2.1; have c2 := hSw.1.2.2.2; have d0 := hSw.2.1.c0; have e0 := hSw.2.2.2.1; have e1 := hSw.2.2.2.2.1; have e2 := hSw.2.2.2.2.2; go_simp
                    first | done | with_reducible rfl
                  refine wpAnyH_takeA (i := 6) (some 72) (v := ?_) rfl rfl (by as_aux_lemma => kernel_rfl) (by as_aux_lemma => kernel_rfl) (by as_aux_lemma => kernel_rfl) (fun _ _ _ h => h) (Or.inl ⟨by kernel_rfl, ?_⟩) hS ?_
                  rotate_left
                  · intro w hSw; have c0 := hSw.1.2.1; have c1 := hSw.1.2.2.1; have c2 := hSw.1.2.2.2; have d0 := hSw.2.1.c0; have e0 := hSw.2.2.2.1; have e1 := hSw.2.2.2.2.1; have e2 := hSw.2.2.2.2.2; go_simp
                    first | done | with_reducible rfl
                  refine wpAnyH_takeA (i := 7) (some 73) (v := ?_) rfl rfl (by as_aux_lemma => kernel_rfl) (by as_aux_lemma => kernel_rfl) (by as_aux_lemma => kernel_rfl) (fun _ _ _ h => h) (Or.inl ⟨by kernel_rfl, ?_⟩) hS ?_
                  rotate_left
                  · intro w hSw; have c0 := hSw.1.2.1; have c1 := hSw.1.2.2.1; have c2 := hSw.1.2.2.2; have d0 := hSw.2.1.c0; have e0 := hSw.2.2.2.1; have e1 := hSw.2.2.2.2.1; have e2 := hSw.2.2.2.2.2; go_simp
                    first | done | with_reducible rfl
                  refine wpAnyH_takeA (i := 8) (some 74) (v := ?_) rfl rfl (by as_aux_lemma => kernel_rfl) (by as_aux_lemma => kernel_rfl) (by as_aux_lemma => kernel_rfl) (fun _ _ _ h => h) (Or.inl ⟨by kernel_rfl, ?_⟩) hS ?_
                  rotate_left
                  · intro w hSw; have c0 := hSw.1.2.1; have c1 := hSw.1.2.2.1; have c2 := hSw.1.2.2.2; have d0 := hSw.2.1.c0; have e0 := hSw.2.2.2.1; have e1 := hSw.2.2.2.2.1; have e2 := hSw.2.2.2.2.2; go_simp
                    first | done | with_reducible rfl
                  refine wpAnyH_takeA (i := 9) (some 75) (v := ?_) rfl rfl (by as_aux_lemma => kernel_rfl) (by as_aux_lemma => kernel_rfl) (by as_aux_lemma => kernel_rfl) (fun _ _ _ h => h) (Or.inl ⟨by kernel_rfl, ?_⟩) hS ?_
                  rotate_left
                  · intro w hSw; have c0 := hSw.1.2.1; have c1 := hSw.1.2.2.1; have c2 := hSw.1.2.2.2; have d0 := hSw.2.1.c0; have e0 := hSw.2.2.2.1; have e1 := hSw.2.2.2.2.1; have e2 := hSw.2.2.2.2.2; go_simp
                    first | done | with_reducible rfl
                  refine wpAnyH_takeA (i := 10) (some 76) (v := ?_) rfl rfl (by as_aux_lemma => kernel_rfl) (by as_aux_lemma => kernel_rfl) (by as_aux_lemma => kernel_rfl) (fun _ _ _ h => h) (Or.inl ⟨by kernel_rfl, ?_⟩) hS ?_
                  rotate_left
                  · intro w hSw; have c0 := hSw.1.2.1; have c1 := hSw.1.2.2.1; have c2 := hSw.1.2.2.2; have d0 := hSw.2.1.c0; have e0 := hSw.2.2.2.1; have e1 := hSw.2.2.2.2.1; have e2 := hSw.2.2.2.2.2; go_simp
                    first | done | with_reducible rfl
                  refine wpAnyH_takeA (i := 11) (some 77) (v := ?_) rfl rfl (by as_aux_lemma => kernel_rfl) (by as_aux_lemma => kernel_rfl) (by as_aux_lemma => kernel_rfl) (fun _ _ _ h => h) (Or.inl ⟨by kernel_rfl, ?_⟩) hS ?_
                  rotate_left
                  · intro w hSw; have c0 := hSw.1.2.1; have c1 := hSw.1.2.2.1; have c2 := hSw.1.2.2.2; have d0 := hSw.2.1.c0; have e0 := hSw.2.2.2.1; have e1 := hSw.2.2.2.2.1; have e2 := hSw.2.2.2.2.2; go_simp
                    first | done | with_reducible rfl
                  refine wpAnyH_ready (rs := [12]) (by as_aux_lemma => kernel_rfl) (by simp) ?_
                  refine AllReadyH.cons rfl (fun K hK => ?_) AllReadyH.nil
                  go_simp
                  go_wp2_with (go_at_call 10; refine HSa.out.mono ?_; rintro e w9 ⟨rfl, q9⟩; replace q9 : Below wr.heap.size wr w9 := (Below.refl wr.heap.size wr).drew.trans q9)
                  refine hK.out _ _ ?_ (fun hS => ?_)
                  · exact ⟨hH2.1.below q9 (Nat.le_refl _), hH2.2.1.below q9 (ltA hH2.2.1), hH2.2.2.below q9 (Nat.le_refl _)⟩
                  clear hK K
                  refine wpAnyH_takeA (i := 13) (some 79) (v := ?_) rfl rfl (by as_aux_lemma => kernel_rfl) (by as_aux_lemma => kernel_rfl) (by as_aux_lemma => kernel_rfl) (fun _ _ _ h => h) (Or.inl ⟨by kernel_rfl, ?_⟩) hS ?_
                  rotate_left
                  · intro w hSw; have c0 := hSw.1.2.1; have c1 := hSw.1.2.2.1; have c2 := hSw.1.2.2.2; have d0 := hSw.2.1.c0; have e0 := hSw.2.2.2.1; have e1 := hSw.2.2.2.2.1; have e2 := hSw.2.2.2.2.2; go_simp
                    first | done | with_reducible rfl
                  refine wpAnyH_takeA (i := 14) (some 80) (v := ?_) rfl rfl (by as_aux_lemma => kernel_rfl) (by as_aux_lemma => kernel_rfl) (by as_aux_lemma => kernel_rfl) (fun _ _ _ h => h) (Or.inl ⟨by kernel_rfl, ?_⟩) hS ?_
                  rotate_left
                  · intro w hSw; have c0 := hSw.1.2.1; have c1 := hSw.1.2.2.1; have c2 := hSw.1.2.2.2; have d0 := hSw.2.1.c0; have e0 := hSw.2.2.2.1; have e1 := hSw.2.2.2.2.1; have e2 := hSw.2.2.2.2.2; go_simp
                    first | done | with_reducible rfl
                  refine wpAnyH_takeA (i := 15) (some 81) (v := ?_) rfl rfl (by as_aux_lemma => kernel_rfl) (by as_aux_lemma => kernel_rfl) (by as_aux_lemma => kernel_rfl) (fun _ _ _ h => h) (Or.inl ⟨by kernel_rfl, ?_⟩) hS ?_
                  rotate_left
                  · intro w hSw; have c0 := hSw.1.2.1; have c1 := hSw.1.2.2.1; have c2 := hSw.1.2.2.2; have d0 := hSw.2.1.c0; have e0 := hSw.2.2.2.1; have e1 := hSw.2.2.2.2.1; have e2 := hSw.2.2.2.2.2; go_simp
                    first | done | with_reducible rfl
                  refine wpAnyH_takeA (i := 16) (some 82) (v := ?_) rfl rfl (by as_aux_lemma => kernel_rfl) (by as_aux_lemma => kernel_rfl) (by as_aux_lemma => kernel_rfl) (fun _ _ _ h => h) (Or.inl ⟨by kernel_rfl, ?_⟩) hS ?_
                  rotate_left
                  · intro w hSw; have c0 := hSw.1.2.1; have c1 := hSw.1.2.2.1; have c2 := hSw.1.2.2.2; have d0 := hSw.2.1.c0; have e0 := hSw.2.2.2.1; have e1 := hSw.2.2.2.2.1; have e2 := hSw.2.2.2.2.2; go_simp
                    first | done | with_reducible rfl
                  refine wpAnyH_takeA (i := 17) (some 83) (v := ?_) rfl rfl (by as_aux_lemma => kernel_rfl) (by as_aux_lemma => kernel_rfl) (by as_aux_lemma => kernel_rfl) (fun _ _ _ h => h) (Or.inl ⟨by kernel_rfl, ?_⟩) hS ?_
                  rotate_left
                  · intro w hSw; have c0 := hSw.1.2.1; have c1 := hSw.1.2.2.1; have c2 := hSw.1.2.2.2; have d0 := hSw.2.1.c0; have e0 := hSw.2.2.2.1; have e1 := hSw.2.2.2.2.1; have e2 := hSw.2.2.2.2.2; go_simp
                    first | done | with_reducible rfl
                  refine wpAnyH_done (by kernel_rfl) ?_ _
                  have HB9 := Lib.hid (HB.out.trans (q9.mono HB.out.size))
                  clear q9 hS
                  clear hH2 HSa HB
                  go_simp
                  go_wp2
                  go_roundw
                  case rel => exact ⟨n + 1, by omega, by go_num, HR3, HB9⟩
                  case measure => simp [intOf]; omega
                · have hEz' : (E == 0) = false := beq_eq_false_iff_ne.2 hEz
                  rw [decide_eq_true hz] at HSa
                  have HR3 := Lib.hid (HTk.out (by rw [decide_eq_true hz, decide_eq_false hEz]; rfl))
                  clear HSk HTk hz
                  go_wp2_with fail
                  refine wp_region_any (by kernel_rfl) ?_
                  change wpAny _ _ _ _ _ _ _ (World.drew _)
                  have hS : (fun w' : World => AlC w' b2 (o2 + n * 3) z ∧ AlBlk w' w.heap.size y.ad ny y.cp y.st y.en ∧ AlC w' b1 (o1 + k * 3) x) wr.drew := hH2
                  refine wpAny_of_held (S := fun w' => AlC w' b2 (o2 + n * 3) z ∧ AlBlk w' w.heap.size y.ad ny y.cp y.st y.en ∧ AlC w' b1 (o1 + k * 3) x) _ _ _ _ ?_
                  refine wpAnyH_takeA (i := 0) (some 66) (v := ?_) rfl rfl (by as_aux_lemma => kernel_rfl) (by as_aux_lemma => kernel_rfl) (by as_aux_lemma => kernel_rfl) (fun _ _ _ h => h) (Or.inl ⟨by kernel_rfl, ?_⟩) hS ?_
                  rotate_left
                  · intro w hSw; have c0 := hSw.1.2.1; have c1 := hSw.1.2.2.1; have c2 := hSw.1.2.2.2; have d0 := hSw.2.1.c0; have e0 := hSw.2.2.2.1; have e1 := hSw.2.2.2.2.1; have e2 := hSw.2.2.2.2.2; go_simp
                    first | done | with_reducible rfl
                  refine wpAnyH_takeA (i := 1) (some 67) (v := ?_) rfl rfl (by as_aux_lemma => kernel_rfl) (by as_aux_lemma => kernel_rfl) (by as_aux_lemma => kernel_rfl) (fun _ _ _ h => h) (Or.inl ⟨by kernel_rfl, ?_⟩) hS ?_
                  rotate_left
                  · intro w hSw; have c0 := hSw.1.2.1; have c1 := hSw.1.2.2.1; have c2 := hSw.1.2.2.2; have d0 := hSw.2.1.c0; have e0 := hSw.2.2.2.1; have e1 := hSw.2.2.2.2.1; have e2 := hSw.2.2.2.2.2; go_simp
                    first | done | with_reducible rfl
                  refine wpAnyH_takeA (i := 2) (some 68) (v := ?_) rfl rfl (by as_aux_lemma => kernel_rfl) (by as_aux_lemma => kernel_rfl) (by as_aux_lemma => kernel_rfl) (fun _ _ _ h => h) (Or.inl ⟨by kernel_rfl, ?_⟩) hS ?_
                  rotate_left
                  · intro w hSw; have c0 := hSw.1.2.1; have c1 := hSw.1.2.2.1; have c2 := hSw.1.2.2.2; have d0 := hSw.2.1.c0; have e0 := hSw.2.2.2.1; have e1 := hSw.2.2.2.2.1; have e2 := hSw.2.2.2.2.2; go_simp
                    first | done | with_reducible rfl
                  refine wpAnyH_takeA (i := 3) (some 69) (v := ?_) rfl rfl (by as_aux_lemma => kernel_rfl) (by as_aux_lemma => kernel_rfl) (by as_aux_lemma => kernel_rfl) (fun _ _ _ h => h) (Or.inl ⟨by kernel_rfl, ?_⟩) hS ?_
                  rotate_left
                  · intro w hSw; have c0 := hSw.1.2.1; have c1 := hSw.1.2.2.1; have c2 := hSw.1.2.2.2; have d0 := hSw.2.1.c0; have e0 := hSw.2.2.2.1; have e1 := hSw.2.2.2.2.1; have e2 := hSw.2.2.2.2.2; go_simp
                    first | done | with_reducible rfl
                  refine wpAnyH_takeA (i := 4) (some 70) (v := ?_) rfl rfl (by as_aux_lemma => kernel_rfl) (by as_aux_lemma => kernel_rfl) (by as_aux_lemma => kernel_rfl) (fun _ _ _ h => h) (Or.inl ⟨by kernel_rfl, ?_⟩) hS ?_
                  rotate_left
                  · intro w hSw; have c0 := hSw.1.2.1; have c1 := hSw.1.2.2.1; have c2 := hSw.1.2.2.2; have d0 := hSw.2.1.c0; have e0 := hSw.2.2.2.1; have e1 := hSw.2.2.2.2.1; have e2 := hSw.2.2.2.2.2; go_simp
                    first | done | with_reducible rfl
                  refine wpAnyH_takeA (i := 5) (some 71) (v := ?_) rfl rfl (by as_aux_lemma => kernel_rfl) (by as_aux_lemma => kernel_rfl) (by as_aux_lemma => kernel_rfl) (fun _ _ _ h => h) (Or.inl ⟨by kernel_rfl, ?_⟩) hS ?_
                  rotate_left
                  · intro w hSw; have c0 := hSw.1.2.1; have c1 := hSw.1.2.2.1; have c2 := hSw.1.2.2.2; have d0 := hSw.2.1.c0; have e0 := hSw.2.2.2.1; have e1 := hSw.2.2.2.2.1; have e2 := hSw.2.2.2.2.2; go_simp
                    first | done | with_reducible rfl
                  refine wpAnyH_takeA (i := 6) (some 72) (v := ?_) rfl rfl (by as_aux_lemma => kernel_rfl) (by as_aux_lemma => kernel_rfl) (by as_aux_lemma => kernel_rfl) (fun _ _ _ h => h) (Or.inl ⟨by kernel_rfl, ?_⟩) hS ?_
                  rotate_left
                  · intro w hSw; have c0 := hSw.1.2.1; have c1 := hSw.1.2.2.1; have c2 := hSw.1.2.2.2; have d0 := hSw.2.1.c0; have e0 := hSw.2.2.2.1; have e1 := hSw.2.2.2.2.1; have e2 := hSw.2.2.2.2.2; go_simp
                    first | done | with_reducible rfl
                  refine wpAnyH_takeA (i := 7) (some 73) (v := ?_) rfl rfl (by as_aux_lemma => kernel_rfl) (by as_aux_lemma => kernel_rfl) (by as_aux_lemma => kernel_rfl) (fun _ _ _ h => h) (Or.inl ⟨by kernel_rfl, ?_⟩) hS ?_
                  rotate_left
                  · intro w hSw; have c0 := hSw.1.2.1; have c1 := hSw.1.2.2.1; have c2 := hSw.1.2.2.2; have d0 := hSw.2.1.c0; have e0 := hSw.2.2.2.1; have e1 := hSw.2.2.2.2.1; have e2 := hSw.2.2.2.2.2; go_simp
                    first | done | with_reducible rfl
                  refine wpAnyH_takeA (i := 8) (some 74) (v := ?_) rfl rfl (by as_aux_lemma => kernel_rfl) (by as_aux_lemma => kernel_rfl) (by as_aux_lemma => kernel_rfl) (fun _ _ _ h => h) (Or.inl ⟨by kernel_rfl, ?_⟩) hS ?_
                  rotate_left
                  · intro w hSw; have c0 := hSw.1.2.1; have c1 := hSw.1.2.2.1; have c2 := hSw.1.2.2.2; have d0 := hSw.2.1.c0; have e0 := hSw.2.2.2.1; have e1 := hSw.2.2.2.2.1; have e2 := hSw.2.2.2.2.2; go_simp
                    first | done | with_reducible rfl
                  refine wpAnyH_takeA (i := 9) (some 75) (v := ?_) rfl rfl (by as_aux_lemma => kernel_rfl) (by as_aux_lemma => kernel_rfl) (by as_aux_lemma => kernel_rfl) (fun _ _ _ h => h) (Or.inl ⟨by kernel_rfl, ?_⟩) hS ?_
                  rotate_left
                  · intro w hSw; have c0 := hSw.1.2.1; have c1 := hSw.1.2.2.1; have c2 := hSw.1.2.2.2; have d0 := hSw.2.1.c0; have e0 := hSw.2.2.2.1; have e1 := hSw.2.2.2.2.1; have e2 := hSw.2.2.2.2.2; go_simp
                    first | done | with_reducible rfl
                  refine wpAnyH_takeA (i := 10) (some 76) (v := ?_) rfl rfl (by as_aux_lemma => kernel_rfl) (by as_aux_lemma => kernel_rfl) (by as_aux_lemma => kernel_rfl) (fun _ _ _ h => h) (Or.inl ⟨by kernel_rfl, ?_⟩) hS ?_
                  rotate_left
                  · intro w hSw; have c0 := hSw.1.2.1; have c1 := hSw.1.2.2.1; have c2 := hSw.1.2.2.2; have d0 := hSw.2.1.c0; have e0 := hSw.2.2.2.1; have e1 := hSw.2.2.2.2.1; have e2 := hSw.2.2.2.2.2; go_simp
                    first | done | with_reducible rfl
                  refine wpAnyH_takeA (i := 11) (some 77) (v := ?_) rfl rfl (by as_aux_lemma => kernel_rfl) (by as_aux_lemma => kernel_rfl) (by as_aux_lemma => kernel_rfl) (fun _ _ _ h => h) (Or.inl ⟨by kernel_rfl, ?_⟩) hS ?_
                  rotate_left
                  · intro w hSw; have c0 := hSw.1.2.1; have c1 := hSw.1.2.2.1; have c2 := hSw.1.2.2.2; have d0 := hSw.2.1.c0; have e0 := hSw.2.2.2.1; have e1 := hSw.2.2.2.2.1; have e2 := hSw.2.2.2.2.2; go_simp
                    first | done | with_reducible rfl
                  refine wpAnyH_ready (rs := [12]) (by as_aux_lemma => kernel_rfl) (by simp) ?_
                  refine AllReadyH.cons rfl (fun K hK => ?_) AllReadyH.nil
                  go_simp
                  go_wp2_with (go_at_call 10; refine HSa.out.mono ?_; rintro e w9 ⟨rfl, q9⟩; replace q9 : Below wr.heap.size wr w9 := (Below.refl wr.heap.size wr).drew.trans q9)
                  refine hK.out _ _ ?_ (fun hS => ?_)
                  · exact ⟨hH2.1.below q9 (Nat.le_refl _), hH2.2.1.below q9 (ltA hH2.2.1), hH2.2.2.below q9 (Nat.le_refl _)⟩
                  clear hK K
                  have hH3 := hS
                  refine wpAnyH_takeA (i := 13) (some 79) (v := ?_) rfl rfl (by as_aux_lemma => kernel_rfl) (by as_aux_lemma => kernel_rfl) (by as_aux_lemma => kernel_rfl) (fun _ _ _ h => h) (Or.inl ⟨by kernel_rfl, ?_⟩) hS ?_
                  rotate_left
                  · intro w hSw; have c0 := hSw.1.2.1; have c1 := hSw.1.2.2.1; have c2 := hSw.1.2.2.2; have d0 := hSw.2.1.c0; have e0 := hSw.2.2.2.1; have e1 := hSw.2.2.2.2.1; have e2 := hSw.2.2.2.2.2; go_simp
                    first | done | with_reducible rfl
                  refine wpAnyH_takeA (i := 14) (some 80) (v := ?_) rfl rfl (by as_aux_lemma => kernel_rfl) (by as_aux_lemma => kernel_rfl) (by as_aux_lemma => kernel_rfl) (fun _ _ _ h => h) (Or.inl ⟨by kernel_rfl, ?_⟩) hS ?_
                  rotate_left
                  · intro w hSw; have c0 := hSw.1.2.1; have c1 := hSw.1.2.2.1; have c2 := hSw.1.2.2.2; have d0 := hSw.2.1.c0; have e0 := hSw.2.2.2.1; have e1 := hSw.2.2.2.2.1; have e2 := hSw.2.2.2.2.2; go_simp
                    first | done | with_reducible rfl
                  refine wpAnyH_takeA (i := 15) (some 81) (v := ?_) rfl rfl (by as_aux_lemma => kernel_rfl) (by as_aux_lemma => kernel_rfl) (by as_aux_lemma => kernel_rfl) (fun _ _ _ h => h) (Or.inl ⟨by kernel_rfl, ?_⟩) hS ?_
                  rotate_left
                  · intro w hSw; have c0 := hSw.1.2.1; have c1 := hSw.1.2.2.1; have c2 := hSw.1.2.2.2; have d0 := hSw.2.1.c0; have e0 := hSw.2.2.2.1; have e1 := hSw.2.2.2.2.1; have e2 := hSw.2.2.2.2.2; go_simp
                    first | done | with_reducible rfl
                  refine wpAnyH_takeA (i := 16) (some 82) (v := ?_) rfl rfl (by as_aux_lemma => kernel_rfl) (by as_aux_lemma => kernel_rfl) (by as_aux_lemma => kernel_rfl) (fun _ _ _ h => h) (Or.inl ⟨by kernel_rfl, ?_⟩) hS ?_
                  rotate_left
                  · intro w hSw; have c0 := hSw.1.2.1; have c1 := hSw.1.2.2.1; have c2 := hSw.1.2.2.2; have d0 := hSw.2.1.c0; have e0 := hSw.2.2.2.1; have e1 := hSw.2.2.2.2.1; have e2 := hSw.2.2.2.2.2; go_simp
                    first | done | with_reducible rfl
                  refine wpAnyH_takeA (i := 17) (some 83) (v := ?_) rfl rfl (by as_aux_lemma => kernel_rfl) (by as_aux_lemma => kernel_rfl) (by as_aux_lemma => kernel_rfl) (fun _ _ _ h => h) (Or.inl ⟨by kernel_rfl, ?_⟩) hS ?_
                  rotate_left
                  · intro w hSw; have c0 := hSw.1.2.1; have c1 := hSw.1.2.2.1; have c2 := hSw.1.2.2.2; have d0 := hSw.2.1.c0; have e0 := hSw.2.2.2.1; have e1 := hSw.2.2.2.2.1; have e2 := hSw.2.2.2.2.2; go_simp
                    first | done | with_reducible rfl
                  refine wpAnyH_done (by kernel_rfl) ?_ _
                  have HB9 := Lib.hid (HB.out.trans (q9.mono HB.out.size))
                  have hsm : sameA z x = true := by unfold sameA; exact decide_eq_true HR3.out.1
                  have HSB := Lib.hid (HSA.out w9.drew q9.drew)
                  rw [hsm] at HSB
                  have HR4 := Lib.hid HR3.out.2
                  clear hsm HSA HR3 hS hH2 HSa HB
                  go_simp
                  go_wp2_with fail
                  refine wp_region_any (by kernel_rfl) ?_
                  change wpAny _ _ _ _ _ _ _ (World.drew _)
                  have hS : (fun w' : World => AlC w' b2 (o2 + n * 3) z ∧ AlBlk w' w.heap.size y.ad ny y.cp y.st y.en ∧ AlC w' b1 (o1 + k * 3) x) w9.drew := hH3
                  refine wpAny_of_held (S := fun w' => AlC w' b2 (o2 + n * 3) z ∧ AlBlk w' w.heap.size y.ad ny y.cp y.st y.en ∧ AlC w' b1 (o1 + k * 3) x) _ _ _ _ ?_
                  refine wpAnyH_takeA (i := 0) (some 86) (v := ?_) rfl rfl (by as_aux_lemma => kernel_rfl) (by as_aux_lemma => kernel_rfl) (by as_aux_lemma => kernel_rfl) (fun _ _ _ h => h) (Or.inl ⟨by kernel_rfl, ?_⟩) hS ?_
                  rotate_left
                  · intro w hSw; have c0 := hSw.1.2.1; have c1 := hSw.1.2.2.1; have c2 := hSw.1.2.2.2; have d0 := hSw.2.1.c0; have e0 := hSw.2.2.2.1; have e1 := hSw.2.2.2.2.1; have e2 := hSw.2.2.2.2.2; go_simp
                    first | done | with_reducible rfl
                  refine wpAnyH_takeA (i := 1) (some 87) (v := ?_) rfl rfl (by as_aux_lemma => kernel_rfl) (by as_aux_lemma => kernel_rfl) (by as_aux_lemma => kernel_rfl) (fun _ _ _ h => h) (Or.inl ⟨by kernel_rfl, ?_⟩) hS ?_
                  rotate_left
                  · intro w hSw; have c0 := hSw.1.2.1; have c1 := hSw.1.2.2.1; have c2 := hSw.1.2.2.2; have d0 := hSw.2.1.c0; have e0 := hSw.2.2.2.1; have e1 := hSw.2.2.2.2.1; have e2 := hSw.2.2.2.2.2; go_simp
                    first | done | with_reducible rfl
                  refine wpAnyH_takeA (i := 2) (some 88) (v := ?_) rfl rfl (by as_aux_lemma => kernel_rfl) (by as_aux_lemma => kernel_rfl) (by as_aux_lemma => kernel_rfl) (fun _ _ _ h => h) (Or.inl ⟨by kernel_rfl, ?_⟩) hS ?_
                  rotate_left
                  · intro w hSw; have c0 := hSw.1.2.1; have c1 := hSw.1.2.2.1; have c2 := hSw.1.2.2.2; have d0 := hSw.2.1.c0; have e0 := hSw.2.2.2.1; have e1 := hSw.2.2.2.2.1; have e2 := hSw.2.2.2.2.2; go_simp
                    first | done | with_reducible rfl
                  refine wpAnyH_takeA (i := 3) (some 89) (v := .bool false) rfl rfl (by as_aux_lemma => kernel_rfl) (by as_aux_lemma => kernel_rfl) (by as_aux_lemma => kernel_rfl) (fun _ _ _ h => h) (Or.inl ⟨by kernel_rfl, ?_⟩) hS ?_
                  · intro w hSw; have c0 := hSw.1.2.1; have c1 := hSw.1.2.2.1; have c2 := hSw.1.2.2.2; have d0 := hSw.2.1.c0; have e0 := hSw.2.2.2.1; have e1 := hSw.2.2.2.2.1; have e2 := hSw.2.2.2.2.2; go_simp
                    first | done | with_reducible rfl | (simp; omega) | omega
                  refine wpAnyH_takeA (i := 4) (some 90) (v := ?_) rfl rfl (by as_aux_lemma => kernel_rfl) (by as_aux_lemma => kernel_rfl) (by as_aux_lemma => kernel_rfl) (fun _ _ _ h => h) (Or.inl ⟨by kernel_rfl, ?_⟩) hS ?_
                  rotate_left
                  · intro w hSw; have c0 := hSw.1.2.1; have c1 := hSw.1.2.2.1; have c2 := hSw.1.2.2.2; have d0 := hSw.2.1.c0; have e0 := hSw.2.2.2.1; have e1 := hSw.2.2.2.2.1; have e2 := hSw.2.2.2.2.2; go_simp
                    first | done | with_reducible rfl
                  refine wpAnyH_takeA (i := 5) (some 91) (v := ?_) rfl rfl (by as_aux_lemma => kernel_rfl) (by as_aux_lemma => kernel_rfl) (by as_aux_lemma => kernel_rfl) (fun _ _ _ h => h) (Or.inl ⟨by kernel_rfl, ?_⟩) hS ?_
                  rotate_left
                  · intro w hSw; have c0 := hSw.1.2.1; have c1 := hSw.1.2.2.1; have c2 := hSw.1.2.2.2; have d0 := hSw.2.1.c0; have e0 := hSw.2.2.2.1; have e1 := hSw.2.2.2.2.1; have e2 := hSw.2.2.2.2.2; go_simp
                    first | done | with_reducible rfl
                  refine wpAnyH_takeA (i := 6) (some 92) (v := ?_) rfl rfl (by as_aux_lemma => kernel_rfl) (by as_aux_lemma => kernel_rfl) (by as_aux_lemma => kernel_rfl) (fun _ _ _ h => h) (Or.inl ⟨by kernel_rfl, ?_⟩) hS ?_
                  rotate_left
                  · intro w hSw; have c0 := hSw.1.2.1; have c1 := hSw.1.2.2.1; have c2 := hSw.1.2.2.2; have d0 := hSw.2.1.c0; have e0 := hSw.2.2.2.1; have e1 := hSw.2.2.2.2.1; have e2 := hSw.2.2.2.2.2; go_simp
                    first | done | with_reducible rfl
                  refine wpAnyH_takeA (i := 7) (some 93) (v := ?_) rfl rfl (by as_aux_lemma => kernel_rfl) (by as_aux_lemma => kernel_rfl) (by as_aux_lemma => kernel_rfl) (fun _ _ _ h => h) (Or.inl ⟨by kernel_rfl, ?_⟩) hS ?_
                  rotate_left
                  · intro w hSw; have c0 := hSw.1.2.1; have c1 := hSw.1.2.2.1; have c2 := hSw.1.2.2.2; have d0 := hSw.2.1.c0; have e0 := hSw.2.2.2.1; have e1 := hSw.2.2.2.2.1; have e2 := hSw.2.2.2.2.2; go_simp
                    first | done | with_reducible rfl
                  refine wpAnyH_takeA (i := 8) (some 94) (v := ?_) rfl rfl (by as_aux_lemma => kernel_rfl) (by as_aux_lemma => kernel_rfl) (by as_aux_lemma => kernel_rfl) (fun _ _ _ h => h) (Or.inl ⟨by kernel_rfl, ?_⟩) hS ?_
                  rotate_left
                  · intro w hSw; have c0 := hSw.1.2.1; have c1 := hSw.1.2.2.1; have c2 := hSw.1.2.2.2; have d0 := hSw.2.1.c0; have e0 := hSw.2.2.2.1; have e1 := hSw.2.2.2.2.1; have e2 := hSw.2.2.2.2.2; go_simp
                    first | done | with_reducible rfl
                  refine wpAnyH_takeA (i := 9) (some 95) (v := ?_) rfl rfl (by as_aux_lemma => kernel_rfl) (by as_aux_lemma => kernel_rfl) (by as_aux_lemma => kernel_rfl) (fun _ _ _ h => h) (Or.inl ⟨by kernel_rfl, ?_⟩) hS ?_
                  rotate_left
                  · intro w hSw; have c0 := hSw.1.2.1; have c1 := hSw.1.2.2.1; have c2 := hSw.1.2.2.2; have d0 := hSw.2.1.c0; have e0 := hSw.2.2.2.1; have e1 := hSw.2.2.2.2.1; have e2 := hSw.2.2.2.2.2; go_simp
                    first | done | with_reducible rfl
                  refine wpAnyH_takeA (i := 10) (some 96) (v := ?_) rfl rfl (by as_aux_lemma => kernel_rfl) (by as_aux_lemma => kernel_rfl) (by as_aux_lemma => kernel_rfl) (fun _ _ _ h => h) (Or.inl ⟨by kernel_rfl, ?_⟩) hS ?_
                  rotate_left
                  · intro w hSw; have c0 := hSw.1.2.1; have c1 := hSw.1.2.2.1; have c2 := hSw.1.2.2.2; have d0 := hSw.2.1.c0; have e0 := hSw.2.2.2.1; have e1 := hSw.2.2.2.2.1; have e2 := hSw.2.2.2.2.2; go_simp
                    first | done | with_reducible rfl
                  refine wpAnyH_takeA (i := 11) (some 97) (v := ?_) rfl rfl (by as_aux_lemma => kernel_rfl) (by as_aux_lemma => kernel_rfl) (by as_aux_lemma => kernel_rfl) (fun _ _ _ h => h) (Or.inl ⟨by kernel_rfl, ?_⟩) hS ?_
                  rotate_left
                  · intro w hSw; have c0 := hSw.1.2.1; have c1 := hSw.1.2.2.1; have c2 := hSw.1.2.2.2; have d0 := hSw.2.1.c0; have e0 := hSw.2.2.2.1; have e1 := hSw.2.2.2.2.1; have e2 := hSw.2.2.2.2.2; go_simp
                    first | done | with_reducible rfl
                  refine wpAnyH_takeA (i := 12) (some 98) (v := ?_) rfl rfl (by as_aux_lemma => kernel_rfl) (by as_aux_lemma => kernel_rfl) (by as_aux_lemma => kernel_rfl) (fun _ _ _ h => h) (Or.inl ⟨by kernel_rfl, ?_⟩) hS ?_
                  rotate_left
                  · intro w hSw; have c0 := hSw.1.2.1; have c1 := hSw.1.2.2.1; have c2 := hSw.1.2.2.2; have d0 := hSw.2.1.c0; have e0 := hSw.2.2.2.1; have e1 := hSw.2.2.2.2.1; have e2 := hSw.2.2.2.2.2; go_simp
                    first | done | with_reducible rfl
                  refine wpAnyH_ready (rs := [13]) (by as_aux_lemma => kernel_rfl) (by simp) ?_
                  refine AllReadyH.cons rfl (fun K hK => ?_) AllReadyH.nil
                  go_simp
                  go_wp2_with (go_at_call 11; refine HSB.out.mono ?_; rintro e w10 ⟨rfl, q10⟩; replace q10 : Below w9.heap.size w9 w10 := (Below.refl w9.heap.size w9).drew.trans q10)
                  refine hK.out _ _ ?_ (fun hS => ?_)
                  · exact ⟨hH3.1.below q10 (Nat.le_refl _), hH3.2.1.below q10 (ltA hH3.2.1), hH3.2.2.below q10 (Nat.le_refl _)⟩
                  clear hK K
                  refine wpAnyH_takeA (i := 14) (some 100) (v := ?_) rfl rfl (by as_aux_lemma => kernel_rfl) (by as_aux_lemma => kernel_rfl) (by as_aux_lemma => kernel_rfl) (fun _ _ _ h => h) (Or.inl ⟨by kernel_rfl, ?_⟩) hS ?_
                  rotate_left
                  · intro w hSw; have c0 := hSw.1.2.1; have c1 := hSw.1.2.2.1; have c2 := hSw.1.2.2.2; have d0 := hSw.2.1.c0; have e0 := hSw.2.2.2.1; have e1 := hSw.2.2.2.2.1; have e2 := hSw.2.2.2.2.2; go_simp
                    first | done | with_reducible rfl
                  refine wpAnyH_takeA (i := 15) (some 101) (v := ?_) rfl rfl (by as_aux_lemma => kernel_rfl) (by as_aux_lemma => kernel_rfl) (by as_aux_lemma => kernel_rfl) (fun _ _ _ h => h) (Or.inl ⟨by kernel_rfl, ?_⟩) hS ?_
                  rotate_left
                  · intro w hSw; have c0 := hSw.1.2.1; have c1 := hSw.1.2.2.1; have c2 := hSw.1.2.2.2; have d0 := hSw.2.1.c0; have e0 := hSw.2.2.2.1; have e1 := hSw.2.2.2.2.1; have e2 := hSw.2.2.2.2.2; go_simp
                    first | done | with_reducible rfl
                  refine wpAnyH_done (by kernel_rfl) ?_ _
                  have b9 := HB9.out.trans (q10.mono HB9.out.size)
                  have HB10 := Lib.hid (HB8.out.trans (b9.mono HB8.out.size))
                  clear b9 hH3 hS q9 q10 HSB HB9 HB8
                  go_simp
                  go_wp2
                  go_roundw
                  case rel => exact ⟨n + 1, k + 1, by omega, by omega, by go_num, by go_num, HR4, HB10⟩
                  case measure => simp [intOf]; omega
              · rw [decide_eq_false hz] at HSa
                have HR3 := Lib.hid (HTk.out (by rw [decide_eq_false hz]; rfl))
                clear HSk HTk hz
                go_wp2_with fail
                refine wp_region_any (by kernel_rfl) ?_
                change wpAny _ _ _ _ _ _ _ (World.drew _)
                have hS : (fun w' : World => AlC w' b2 (o2 + n * 3) z ∧ AlBlk w' w.heap.size y.ad ny y.cp y.st y.en ∧ AlC w' b1 (o1 + k * 3) x) wr.drew := hH2
                refine wpAny_of_held (S := fun w' => AlC w' b2 (o2 + n * 3) z ∧ AlBlk w' w.heap.size y.ad ny y.cp y.st y.en ∧ AlC w' b1 (o1 + k * 3) x) _ _ _ _ ?_
                refine wpAnyH_takeA (i := 0) (some 66) (v := ?_) rfl rfl (by as_aux_lemma => kernel_rfl) (by as_aux_lemma => kernel_rfl) (by as_aux_lemma => kernel_rfl) (fun _ _ _ h => h) (Or.inl ⟨by kernel_rfl, ?_⟩) hS ?_
                rotate_left
                · intro w hSw; have c0 := hSw.1.2.1; have c1 := hSw.1.2.2.1; have c2 := hSw.1.2.2.2; have d0 := hSw.2.1.c0; have e0 := hSw.2.2.2.1; have e1 := hSw.2.2.2.2.1; have e2 := hSw.2.2.2.2.2; go_simp
                  first | done | with_reducible rfl
                refine wpAnyH_takeA (i := 1) (some 67) (v := ?_) rfl rfl (by as_aux_lemma => kernel_rfl) (by as_aux_lemma => kernel_rfl) (by as_aux_lemma => kernel_rfl) (fun _ _ _ h => h) (Or.inl ⟨by kernel_rfl, ?_⟩) hS ?_
                rotate_left
                · intro w hSw; have c0 := hSw.1.2.1; have c1 := hSw.1.2.2.1; have c2 := hSw.1.2.2.2; have d0 := hSw.2.1.c0; have e0 := hSw.2.2.2.1; have e1 := hSw.2.2.2.2.1; have e2 := hSw.2.2.2.2.2; go_simp
                  first | done | with_reducible rfl
                refine wpAnyH_takeA (i := 2) (some 68) (v := ?_) rfl rfl (by as_aux_lemma => kernel_rfl) (by as_aux_lemma => kernel_rfl) (by as_aux_lemma => kernel_rfl) (fun _ _ _ h => h) (Or.inl ⟨by kernel_rfl, ?_⟩) hS ?_
                rotate_left
                · intro w hSw; have c0 := hSw.1.2.1; have c1 := hSw.1.2.2.1; have c2 := hSw.1.2.2.2; have d0 := hSw.2.1.c0; have e0 := hSw.2.2.2.1; have e1 := hSw.2.2.2.2.1; have e2 := hSw.2.2.2.2.2; go_simp
                  first | done | with_reducible rfl
                refine wpAnyH_takeA (i := 3) (some 69) (v := ?_) rfl rfl (by as_aux_lemma => kernel_rfl) (by as_aux_lemma => kernel_rfl) (by as_aux_lemma => kernel_rfl) (fun _ _ _ h => h) (Or.inl ⟨by kernel_rfl, ?_⟩) hS ?_
                rotate_left
                · intro w hSw; have c0 := hSw.1.2.1; have c1 := hSw.1.2.2.1; have c2 := hSw.1.2.2.2; have d0 := hSw.2.1.c0; have e0 := hSw.2.2.2.1; have e1 := hSw.2.2.2.2.1; have e2 := hSw.2.2.2.2.2; go_simp
                  first | done | with_reducible rfl
                refine wpAnyH_takeA (i := 4) (some 70) (v := ?_) rfl rfl (by as_aux_lemma => kernel_rfl) (by as_aux_lemma => kernel_rfl) (by as_aux_lemma => kernel_rfl) (fun _ _ _ h => h) (Or.inl ⟨by kernel_rfl, ?_⟩) hS ?_
                rotate_left
                · intro w hSw; have c0 := hSw.1.2.1; have c1 := hSw.1.2.2.1; have c2 := hSw.1.2.2.2; have d0 := hSw.2.1.c0; have e0 := hSw.2.2.2.1; have e1 := hSw.2.2.2.2.1; have e2 := hSw.2.2.2.2.2; go_simp
                  first | done | with_reducible rfl
                refine wpAnyH_takeA (i := 5) (some 71) (v := ?_) rfl rfl (by as_aux_lemma => kernel_rfl) (by as_aux_lemma => kernel_rfl) (by as_aux_lemma => kernel_rfl) (fun _ _ _ h => h) (Or.inl ⟨by kernel_rfl, ?_⟩) hS ?_
                rotate_left
                · intro w hSw; have c0 := hSw.1.2.1; have c1 := hSw.1.2.2.1; have c2 := hSw.1.2.2.2; have d0 := hSw.2.1.c0; have e0 := hSw.2.2.2.1; have e1 := hSw.2.2.2.2.1; have e2 := hSw.2.2.2.2.2; go_simp
                  first | done | with_reducible rfl
                refine wpAnyH_takeA (i := 6) (some 72) (v := ?_) rfl rfl (by as_aux_lemma => kernel_rfl) (by as_aux_lemma => kernel_rfl) (by as_aux_lemma => kernel_rfl) (fun _ _ _ h => h) (Or.inl ⟨by kernel_rfl, ?_⟩) hS ?_
                rotate_left
                · intro w hSw; have c0 := hSw.1.2.1; have c1 := hSw.1.2.2.1; have c2 := hSw.1.2.2.2; have d0 := hSw.2.1.c0; have e0 := hSw.2.2.2.1; have e1 := hSw.2.2.2.2.1; have e2 := hSw.2.2.2.2.2; go_simp
                  first | done | with_reducible rfl
                refine wpAnyH_takeA (i := 7) (some 73) (v := ?_) rfl rfl (by as_aux_lemma => kernel_rfl) (by as_aux_lemma => kernel_rfl) (by as_aux_lemma => kernel_rfl) (fun _ _ _ h => h) (Or.inl ⟨by kernel_rfl, ?_⟩) hS ?_
                rotate_left
                · intro w hSw; have c0 := hSw.1.2.1; have c1 := hSw.1.2.2.1; have c2 := hSw.1.2.2.2; have d0 := hSw.2.1.c0; have e0 := hSw.2.2.2.1; have e1 := hSw.2.2.2.2.1; have e2 := hSw.2.2.2.2.2; go_simp
                  first | done | with_reducible rfl
                refine wpAnyH_takeA (i := 8) (some 74) (v := ?_) rfl rfl (by as_aux_lemma => kernel_rfl) (by as_aux_lemma => kernel_rfl) (by as_aux_lemma => kernel_rfl) (fun _ _ _ h => h) (Or.inl ⟨by kernel_rfl, ?_⟩) hS ?_
                rotate_left
                · intro w hSw; have c0 := hSw.1.2.1; have c1 := hSw.1.2.2.1; have c2 := hSw.1.2.2.2; have d0 := hSw.2.1.c0; have e0 := hSw.2.2.2.1; have e1 := hSw.2.2.2.2.1; have e2 := hSw.2.2.2.2.2; go_simp
                  first | done | with_reducible rfl
                refine wpAnyH_takeA (i := 9) (some 75) (v := ?_) rfl rfl (by as_aux_lemma => kernel_rfl) (by as_aux_lemma => kernel_rfl) (by as_aux_lemma => kernel_rfl) (fun _ _ _ h => h) (Or.inl ⟨by kernel_rfl, ?_⟩) hS ?_
                rotate_left
                · intro w hSw; have c0 := hSw.1.2.1; have c1 := hSw.1.2.2.1; have c2 := hSw.1.2.2.2; have d0 := hSw.2.1.c0; have e0 := hSw.2.2.2.1; have e1 := hSw.2.2.2.2.1; have e2 := hSw.2.2.2.2.2; go_simp
                  first | done | with_reducible rfl
                refine wpAnyH_takeA (i := 10) (some 76) (v := ?_) rfl rfl (by as_aux_lemma => kernel_rfl) (by as_aux_lemma => kernel_rfl) (by as_aux_lemma => kernel_rfl) (fun _ _ _ h => h) (Or.inl ⟨by kernel_rfl, ?_⟩) hS ?_
                rotate_left
                · intro w hSw; have c0 := hSw.1.2.1; have c1 := hSw.1.2.2.1; have c2 := hSw.1.2.2.2; have d0 := hSw.2.1.c0; have e0 := hSw.2.2.2.1; have e1 := hSw.2.2.2.2.1; have e2 := hSw.2.2.2.2.2; go_simp
                  first | done | with_reducible rfl
                refine wpAnyH_takeA (i := 11) (some 77) (v := ?_) rfl rfl (by as_aux_lemma => kernel_rfl) (by as_aux_lemma => kernel_rfl) (by as_aux_lemma => kernel_rfl) (fun _ _ _ h => h) (Or.inl ⟨by kernel_rfl, ?_⟩) hS ?_
                rotate_left
                · intro w hSw; have c0 := hSw.1.2.1; have c1 := hSw.1.2.2.1; have c2 := hSw.1.2.2.2; have d0 := hSw.2.1.c0; have e0 := hSw.2.2.2.1; have e1 := hSw.2.2.2.2.1; have e2 := hSw.2.2.2.2.2; go_simp
                  first | done | with_reducible rfl
                refine wpAnyH_ready (rs := [12]) (by as_aux_lemma => kernel_rfl) (by simp) ?_
                refine AllReadyH.cons rfl (fun K hK => ?_) AllReadyH.nil
                go_simp
                go_wp2_with (go_at_call 10; refine HSa.out.mono ?_; rintro e w9 ⟨rfl, q9⟩; replace q9 : Below wr.heap.size wr w9 := (Below.refl wr.heap.size wr).drew.trans q9)
                refine hK.out _ _ ?_ (fun hS => ?_)
                · exact ⟨hH2.1.below q9 (Nat.le_refl _), hH2.2.1.below q9 (ltA hH2.2.1), hH2.2.2.below q9 (Nat.le_refl _)⟩
                clear hK K
                have hH3 := hS
                refine wpAnyH_takeA (i := 13) (some 79) (v := ?_) rfl rfl (by as_aux_lemma => kernel_rfl) (by as_aux_lemma => kernel_rfl) (by as_aux_lemma => kernel_rfl) (fun _ _ _ h => h) (Or.inl ⟨by kernel_rfl, ?_⟩) hS ?_
                rotate_left
                · intro w hSw; have c0 := hSw.1.2.1; have c1 := hSw.1.2.2.1; have c2 := hSw.1.2.2.2; have d0 := hSw.2.1.c0; have e0 := hSw.2.2.2.1; have e1 := hSw.2.2.2.2.1; have e2 := hSw.2.2.2.2.2; go_simp
                  first | done | with_reducible rfl
                refine wpAnyH_takeA (i := 14) (some 80) (v := ?_) rfl rfl (by as_aux_lemma => kernel_rfl) (by as_aux_lemma => kernel_rfl) (by as_aux_lemma => kernel_rfl) (fun _ _ _ h => h) (Or.inl ⟨by kernel_rfl, ?_⟩) hS ?_
                rotate_left
                · intro w hSw; have c0 := hSw.1.2.1; have c1 := hSw.1.2.2.1; have c2 := hSw.1.2.2.2; have d0 := hSw.2.1.c0; have e0 := hSw.2.2.2.1; have e1 := hSw.2.2.2.2.1; have e2 := hSw.2.2.2.2.2; go_simp
                  first | done | with_reducible rfl
                refine wpAnyH_takeA (i := 15) (some 81) (v := undef) rfl rfl (by as_aux_lemma => kernel_rfl) (by as_aux_lemma => kernel_rfl) (by as_aux_lemma => kernel_rfl) (fun _ _ _ h => h) (Or.inr ⟨by kernel_rfl, rfl⟩) hS ?_
                refine wpAnyH_takeA (i := 16) (some 82) (v := undef) rfl rfl (by as_aux_lemma => kernel_rfl) (by as_aux_lemma => kernel_rfl) (by as_aux_lemma => kernel_rfl) (fun _ _ _ h => h) (Or.inr ⟨by kernel_rfl, rfl⟩) hS ?_
                refine wpAnyH_takeA (i := 17) (some 83) (v := ?_) rfl rfl (by as_aux_lemma => kernel_rfl) (by as_aux_lemma => kernel_rfl) (by as_aux_lemma => kernel_rfl) (fun _ _ _ h => h) (Or.inl ⟨by kernel_rfl, ?_⟩) hS ?_
                rotate_left
                · intro w hSw; have c0 := hSw.1.2.1; have c1 := hSw.1.2.2.1; have c2 := hSw.1.2.2.2; have d0 := hSw.2.1.c0; have e0 := hSw.2.2.2.1; have e1 := hSw.2.2.2.2.1; have e2 := hSw.2.2.2.2.2; go_simp
                  first | done | with_reducible rfl
                refine wpAnyH_done (by kernel_rfl) ?_ _
                have HB9 := Lib.hid (HB.out.trans (q9.mono HB.out.size))
                have hsm : sameA z x = true := by unfold sameA; exact decide_eq_true HR3.out.1
                have HSB := Lib.hid (HSA.out w9.drew q9.drew)
                rw [hsm] at HSB
                have HR4 := Lib.hid HR3.out.2
                clear hsm HSA HR3 hS hH2 HSa HB
                go_simp
                go_wp2_with fail
                refine wp_region_any (by kernel_rfl) ?_
                change wpAny _ _ _ _ _ _ _ (World.drew _)
                have hS : (fun w' : World => AlC w' b2 (o2 + n * 3) z ∧ AlBlk w' w.heap.size y.ad ny y.cp y.st y.en ∧ AlC w' b1 (o1 + k * 3) x) w9.drew := hH3
                refine wpAny_of_held (S := fun w' => AlC w' b2 (o2 + n * 3) z ∧ AlBlk w' w.heap.size y.ad ny y.cp y.st y.en ∧ AlC w' b1 (o1 + k * 3) x) _ _ _ _ ?_
                refine wpAnyH_takeA (i := 0) (some 86) (v := ?_) rfl rfl (by as_aux_lemma => kernel_rfl) (by as_aux_lemma => kernel_rfl) (by as_aux_lemma => kernel_rfl) (fun _ _ _ h => h) (Or.inl ⟨by kernel_rfl, ?_⟩) hS ?_
                rotate_left
                · intro w hSw; have c0 := hSw.1.2.1; have c1 := hSw.1.2.2.1; have c2 := hSw.1.2.2.2; have d0 := hSw.2.1.c0; have e0 := hSw.2.2.2.1; have e1 := hSw.2.2.2.2.1; have e2 := hSw.2.2.2.2.2; go_simp
                  first | done | with_reducible rfl
                refine wpAnyH_takeA (i := 1) (some 87) (v := ?_) rfl rfl (by as_aux_lemma => kernel_rfl) (by as_aux_lemma => kernel_rfl) (by as_aux_lemma => kernel_rfl) (fun _ _ _ h => h) (Or.inl ⟨by kernel_rfl, ?_⟩) hS ?_
                rotate_left
                · intro w hSw; have c0 := hSw.1.2.1; have c1 := hSw.1.2.2.1; have c2 := hSw.1.2.2.2; have d0 := hSw.2.1.c0; have e0 := hSw.2.2.2.1; have e1 := hSw.2.2.2.2.1; have e2 := hSw.2.2.2.2.2; go_simp
                  first | done | with_reducible rfl
                refine wpAnyH_takeA (i := 2) (some 88) (v := ?_) rfl rfl (by as_aux_lemma => kernel_rfl) (by as_aux_lemma => kernel_rfl) (by as_aux_lemma => kernel_rfl) (fun _ _ _ h => h) (Or.inl ⟨by kernel_rfl, ?_⟩) hS ?_
                rotate_left
                · intro w hSw; have c0 := hSw.1.2.1; have c1 := hSw.1.2.2.1; have c2 := hSw.1.2.2.2; have d0 := hSw.2.1.c0; have e0 := hSw.2.2.2.1; have e1 := hSw.2.2.2.2.1; have e2 := hSw.2.2.2.2.2; go_simp
                  first | done | with_reducible rfl
                refine wpAnyH_takeA (i := 3) (some 89) (v := .bool false) rfl rfl (by as_aux_lemma => kernel_rfl) (by as_aux_lemma => kernel_rfl) (by as_aux_lemma => kernel_rfl) (fun _ _ _ h => h) (Or.inl ⟨by kernel_rfl, ?_⟩) hS ?_
                · intro w hSw; have c0 := hSw.1.2.1; have c1 := hSw.1.2.2.1; have c2 := hSw.1.2.2.2; have d0 := hSw.2.1.c0; have e0 := hSw.2.2.2.1; have e1 := hSw.2.2.2.2.1; have e2 := hSw.2.2.2.2.2; go_simp
                  first | done | with_reducible rfl | (simp; omega) | omega
                refine wpAnyH_takeA (i := 4) (some 90) (v := ?_) rfl rfl (by as_aux_lemma => kernel_rfl) (by as_aux_lemma => kernel_rfl) (by as_aux_lemma => kernel_rfl) (fun _ _ _ h => h) (Or.inl ⟨by kernel_rfl, ?_⟩) hS ?_
                rotate_left
                · intro w hSw; have c0 := hSw.1.2.1; have c1 := hSw.1.2.2.1; have c2 := hSw.1.2.2.2; have d0 := hSw.2.1.c0; have e0 := hSw.2.2.2.1; have e1 := hSw.2.2.2.2.1; have e2 := hSw.2.2.2.2.2; go_simp
                  first | done | with_reducible rfl
                refine wpAnyH_takeA (i := 5) (some 91) (v := ?_) rfl rfl (by as_aux_lemma => kernel_rfl) (by as_aux_lemma => kernel_rfl) (by as_aux_lemma => kernel_rfl) (fun _ _ _ h => h) (Or.inl ⟨by kernel_rfl, ?_⟩) hS ?_
                rotate_left
                · intro w hSw; have c0 := hSw.1.2.1; have c1 := hSw.1.2.2.1; have c2 := hSw.1.2.2.2; have d0 := hSw.2.1.c0; have e0 := hSw.2.2.2.1; have e1 := hSw.2.2.2.2.1; have e2 := hSw.2.2.2.2.2; go_simp
                  first | done | with_reducible rfl
                refine wpAnyH_takeA (i := 6) (some 92) (v := ?_) rfl rfl (by as_aux_lemma => kernel_rfl) (by as_aux_lemma => kernel_rfl) (by as_aux_lemma => kernel_rfl) (fun _ _ _ h => h) (Or.inl ⟨by kernel_rfl, ?_⟩) hS ?_
                rotate_left
                · intro w hSw; have c0 := hSw.1.2.1; have c1 := hSw.1.2.2.1; have c2 := hSw.1.2.2.2; have d0 := hSw.2.1.c0; have e0 := hSw.2.2.2.1; have e1 := hSw.2.2.2.2.1; have e2 := hSw.2.2.2.2.2; go_simp
                  first | done | with_reducible rfl
                refine wpAnyH_takeA (i := 7) (some 93) (v := ?_) rfl rfl (by as_aux_lemma => kernel_rfl) (by as_aux_lemma => kernel_rfl) (by as_aux_lemma => kernel_rfl) (fun _ _ _ h => h) (Or.inl ⟨by kernel_rfl, ?_⟩) hS ?_
                rotate_left
                · intro w hSw; have c0 := hSw.1.2.1; have c1 := hSw.1.2.2.1; have c2 := hSw.1.2.2.2; have d0 := hSw.2.1.c0; have e0 := hSw.2.2.2.1; have e1 := hSw.2.2.2.2.1; have e2 := hSw.2.2.2.2.2; go_simp
                  first | done | with_reducible rfl
                refine wpAnyH_takeA (i := 8) (some 94) (v := ?_) rfl rfl (by as_aux_lemma => kernel_rfl) (by as_aux_lemma => kernel_rfl) (by as_aux_lemma => kernel_rfl) (fun _ _ _ h => h) (Or.inl ⟨by kernel_rfl, ?_⟩) hS ?_
                rotate_left
                · intro w hSw; have c0 := hSw.1.2.1; have c1 := hSw.1.2.2.1; have c2 := hSw.1.2.2.2; have d0 := hSw.2.1.c0; have e0 := hSw.2.2.2.1; have e1 := hSw.2.2.2.2.1; have e2 := hSw.2.2.2.2.2; go_simp
                  first | done | with_reducible rfl
                refine wpAnyH_takeA (i := 9) (some 95) (v := ?_) rfl rfl (by as_aux_lemma => kernel_rfl) (by as_aux_lemma => kernel_rfl) (by as_aux_lemma => kernel_rfl) (fun _ _ _ h => h) (Or.inl ⟨by kernel_rfl, ?_⟩) hS ?_
                rotate_left
                · intro w hSw; have c0 := hSw.1.2.1; have c1 := hSw.1.2.2.1; have c2 := hSw.1.2.2.2; have d0 := hSw.2.1.c0; have e0 := hSw.2.2.2.1; have e1 := hSw.2.2.2.2.1; have e2 := hSw.2.2.2.2.2; go_simp
                  first | done | with_reducible rfl
                refine wpAnyH_takeA (i := 10) (some 96) (v := ?_) rfl rfl (by as_aux_lemma => kernel_rfl) (by as_aux_lemma => kernel_rfl) (by as_aux_lemma => kernel_rfl) (fun _ _ _ h => h) (Or.inl ⟨by kernel_rfl, ?_⟩) hS ?_
                rotate_left
                · intro w hSw; have c0 := hSw.1.2.1; have c1 := hSw.1.2.2.1; have c2 := hSw.1.2.2.2; have d0 := hSw.2.1.c0; have e0 := hSw.2.2.2.1; have e1 := hSw.2.2.2.2.1; have e2 := hSw.2.2.2.2.2; go_simp
                  first | done | with_reducible rfl
                refine wpAnyH_takeA (i := 11) (some 97) (v := ?_) rfl rfl (by as_aux_lemma => kernel_rfl) (by as_aux_lemma => kernel_rfl) (by as_aux_lemma => kernel_rfl) (fun _ _ _ h => h) (Or.inl ⟨by kernel_rfl, ?_⟩) hS ?_
                rotate_left
                · intro w hSw; have c0 := hSw.1.2.1; have c1 := hSw.1.2.2.1; have c2 := hSw.1.2.2.2; have d0 := hSw.2.1.c0; have e0 := hSw.2.2.2.1; have e1 := hSw.2.2.2.2.1; have e2 := hSw.2.2.2.2.2; go_simp
                  first | done | with_reducible rfl
                refine wpAnyH_takeA (i := 12) (some 98) (v := ?_) rfl rfl (by as_aux_lemma => kernel_rfl) (by as_aux_lemma => kernel_rfl) (by as_aux_lemma => kernel_rfl) (fun _ _ _ h => h) (Or.inl ⟨by kernel_rfl, ?_⟩) hS ?_
                rotate_left
                · intro w hSw; have c0 := hSw.1.2.1; have c1 := hSw.1.2.2.1; have c2 := hSw.1.2.2.2; have d0 := hSw.2.1.c0; have e0 := hSw.2.2.2.1; have e1 := hSw.2.2.2.2.1; have e2 := hSw.2.2.2.2.2; go_simp
                  first | done | with_reducible rfl
                refine wpAnyH_ready (rs := [13]) (by as_aux_lemma => kernel_rfl) (by simp) ?_
                refine AllReadyH.cons rfl (fun K hK => ?_) AllReadyH.nil
                go_simp
                go_wp2_with (go_at_call 11; refine HSB.out.mono ?_; rintro e w10 ⟨rfl, q10⟩; replace q10 : Below w9.heap.size w9 w10 := (Below.refl w9.heap.size w9).drew.trans q10)
                refine hK.out _ _ ?_ (fun hS => ?_)
                · exact ⟨hH3.1.below q10 (Nat.le_refl _), hH3.2.1.below q10 (ltA hH3.2.1), hH3.2.2.below q10 (Nat.le_refl _)⟩
                clear hK K
                refine wpAnyH_takeA (i := 14) (some 100) (v := ?_) rfl rfl (by as_aux_lemma => kernel_rfl) (by as_aux_lemma => kernel_rfl) (by as_aux_lemma => kernel_rfl) (fun _ _ _ h => h) (Or.inl ⟨by kernel_rfl, ?_⟩) hS ?_
                rotate_left
                · intro w hSw; have c0 := hSw.1.2.1; have c1 := hSw.1.2.2.1; have c2 := hSw.1.2.2.2; have d0 := hSw.2.1.c0; have e0 := hSw.2.2.2.1; have e1 := hSw.2.2.2.2.1; have e2 := hSw.2.2.2.2.2; go_simp
                  first | done | with_reducible rfl
                refine wpAnyH_takeA (i := 15) (some 101) (v := ?_) rfl rfl (by as_aux_lemma => kernel_rfl) (by as_aux_lemma => kernel_rfl) (by as_aux_lemma => kernel_rfl) (fun _ _ _ h => h) (Or.inl ⟨by kernel_rfl, ?_⟩) hS ?_
                rotate_left
                · intro w hSw; have c0 := hSw.1.2.1; have c1 := hSw.1.2.2.1; have c2 := hSw.1.2.2.2; have d0 := hSw.2.1.c0; have e0 := hSw.2.2.2.1; have e1 := hSw.2.2.2.2.1; have e2 := hSw.2.2.2.2.2; go_simp
                  first | done | with_reducible rfl
                refine wpAnyH_done (by kernel_rfl) ?_ _
                have b9 := HB9.out.trans (q10.mono HB9.out.size)
                have HB10 := Lib.hid (HB8.out.trans (b9.mono HB8.out.size))
                clear b9 hH3 hS q9 q10 HSB HB9 HB8
                go_simp
                go_wp2
                go_roundw
                case rel => exact ⟨n + 1, k + 1, by omega, by omega, by go_num, by go_num, HR4, HB10⟩
                case measure => simp [intOf]; omega
        · have hkl : ¬ (k : Int) < (nN : Int) := by omega
          have b8 := HX.out.2.2.2.2.2.2.trans (HB.out.mono HX.out.2.2.2.2.2.2.size)
          have HA8 := Lib.hid (HAw.out wr b8)
          have HB8 := Lib.hid b8
          clear b8 HB HR
          go_wp2_with (go_at_call 5; refine HA8.out.mono ?_; rintro e w9 ⟨rfl, q9⟩)
          go_ret
          exact ⟨rfl, HB8.out.trans (q9.mono HB8.out.size)⟩
end Go.Proofs.YtdnpfmmkglgnjabDoor
