/-
  The walk of AlertGets.
-/
import Derived.Test.YtinohakjemjkhaaDoorA19
import Derived.Test.YtinohakjemjkhaaDoorA7
namespace Go.Proofs.YtinohakjemjkhaaDoor
open Go.RowKit

theorem got_len {w : World} {sb bm : Nat} {S : List Rw} {k : List UInt8} (h : StAt w sb bm S) : ∀ v b, gotR S k = (v, b) → v.1.length ≤ 8 := fun v b e => by
  unfold gotR at e
  cases hf : S.find? (fun r => r.key == k) with
  | none => rw [hf] at e; cases e; simp
  | some r =>
    rw [hf] at e
    cases e
    exact acheck_len (alE_zero (h.2.2 r (List.mem_of_find?_eq_some hf)).2).1

set_option maxRecDepth 100000 in
set_option maxHeartbeats 8000000 in
theorem gets_walk (a0 : Option Addr) (c0 : Nat) (l : List Ac) (y : Rw) (now : Int) (w : World) (hv : TabOk w.heap.size w) (hl : AcsAt w a0 l) (hok : ∀ x ∈ l, AcOk x) (hn : l.length ≤ 9223372036854775807) (hy : PairsAt w y.ad y.ps) (hyl : y.ps.length ≤ 4398046511103) (hys : ∀ p ∈ y.ps, p.1.size ≤ 1048576 ∧ p.2.size ≤ 1048576) (hyf : (partsK y.ps).flatten.length ≤ 100000000) :
    Calls Tryd.prog 4 #[.slice a0 l.length c0, .agg #[.slice y.ad y.ps.length y.cp, .int .i64 y.st, .int .i64 y.en], .int .i64 now] w fun e w' => e = .returned (.bool true) ∧ Below w.heap.size w w' := by
  obtain ⟨ny, hny⟩ : ∃ n, n = y.ps.length := ⟨_, rfl⟩
  have d0 := (Below.refl w.heap.size w).alloc (Nat.le_refl _) (.cells #[.slice y.ad ny y.cp, .int .i64 y.st, .int .i64 y.en] 34)
  have k0 := AlBlk.new w y.ad ny y.cp y.st y.en
  have s0 : (w.alloc (.cells #[.slice y.ad ny y.cp, .int .i64 y.st, .int .i64 y.en] 34)).heap.size = w.heap.size + 1 := by simp
  have HFw := Lib.hid (awFew_any a0 c0 l _ (hl.below d0 (Nat.le_refl _)) hn)
  have HAw := Lib.hid (fun u (hb : Below w.heap.size w u) => aawake_any w.heap.size u hb.size (hv.on hb))
  obtain ⟨m, hm⟩ : ∃ m, m = l.length := ⟨_, rfl⟩
  have HL := Lib.hid (And.intro hm (And.intro (hl.below d0 (Nat.le_refl _)) hok))
  have HU := Lib.hid (And.intro d0 (And.intro k0 (And.intro s0 (And.intro (hv.on d0) (hy.below d0 (Nat.le_refl _))))))
  have HY := Lib.hid (And.intro hny (And.intro hyl (And.intro hys hyf)))
  rw [← hm] at HFw hn ⊢
  rw [← hny] at hyl ⊢
  unfold FewPost at HFw
  clear hv hl hok hm d0 k0 s0 hy hny hys hyf
  by_cases hf : fewP l
  case neg =>
    go_enter Tryd.func4, Tryd.ntmps4
    go_wp2_with (go_at_call 9; refine HFw.out.mono ?_; rintro e u ⟨b, rfl, hb, hu⟩; replace hu := Lib.hid hu; refine Hid.out ?_)
    refine Lib.hid ?_
    obtain rfl : b = false := by rw [← Bool.not_eq_true]; exact fun e => hf (hb.1 e)
    have HA1 := Lib.hid (HAw.out u (by rw [hu.out]; exact HU.out.1))
    have HB1 : Hid (Below w.heap.size w u) := Lib.hid (by rw [hu.out]; exact HU.out.1)
    have c0 : u.cell? ⟨w.heap.size, 0, none⟩ = some (.slice y.ad ny y.cp) := by rw [hu.out]; exact HU.out.2.1.c0
    clear hb hu HU
    go_wp2_with (go_at_call 10; refine HA1.out.mono ?_; rintro e w2 ⟨rfl, q2⟩)
    go_ret
    exact ⟨rfl, HB1.out.trans (q2.mono HB1.out.size)⟩
  case pos =>
  by_cases h12 : 12 < ny
  case pos =>
    have h12' : (12 : Int) < (ny : Int) := by omega
    go_enter Tryd.func4, Tryd.ntmps4
    go_wp2_with (go_at_call 9; refine HFw.out.mono ?_; rintro e u ⟨b, rfl, hb, hu⟩; replace hu := Lib.hid hu; refine Hid.out ?_)
    refine Lib.hid ?_
    obtain rfl : b = true := hb.2 hf
    have HA1 := Lib.hid (HAw.out u (by rw [hu.out]; exact HU.out.1))
    have HB1 : Hid (Below w.heap.size w u) := Lib.hid (by rw [hu.out]; exact HU.out.1)
    have c0 : u.cell? ⟨w.heap.size, 0, none⟩ = some (.slice y.ad ny y.cp) := by rw [hu.out]; exact HU.out.2.1.c0
    clear hb hu HU
    go_wp2_with (go_at_call 10; refine HA1.out.mono ?_; rintro e w2 ⟨rfl, q2⟩)
    go_ret
    exact ⟨rfl, HB1.out.trans (q2.mono HB1.out.size)⟩
  case neg =>
  have h12' : ¬ (12 : Int) < (ny : Int) := by omega
  have HF := Lib.hid hf
  have hm80 : m ≤ 80 := by rw [HL.out.1]; exact hf.1
  go_enter Tryd.func4, Tryd.ntmps4
  go_wp2_with (go_at_call 9; refine HFw.out.mono ?_; rintro e u ⟨b, rfl, hb, hu⟩; replace hu := Lib.hid hu; refine Hid.out ?_)
  refine Lib.hid ?_
  obtain rfl : b = true := hb.2 hf
  clear hb hf HFw
  rw [← hu.out] at HU HL
  clear hu
  have HV := Lib.hid HU.out.2.2.2.1
  have HPy := Lib.hid HU.out.2.2.2.2
  have hwu : w.heap.size < u.heap.size := by have := HU.out.2.2.1; omega
  have HK0 := Lib.hid HU.out.2.1
  have HD0 := Lib.hid HU.out.1
  have HNw := Lib.hid (aNew_st u)
  have c0 := HK0.out.c0
  clear HU
  go_wp2_with (go_at_call 11; refine HNw.out.mono ?_; rintro e wn ⟨rfl, hsn, qn⟩; refine Hid.out ?_)
  refine Lib.hid ?_
  have drn := (Below.refl wn.heap.size wn).alloc (Nat.le_refl _) (.cells #[.slice none 0 0] 29)
  have hrn := RsBlk.new wn none 0 0
  have hBn : Both (wn.alloc (.cells #[.slice none 0 0] 29)) (u.heap.size + 1) u.heap.size wn.heap.size [] none 0 0 [] := ⟨rfl, hsn.below drn (Nat.le_refl _), rs_nil _, rfl, by simp, hrn⟩
  have hwn : u.heap.size + 1 < wn.heap.size := ltA hsn.1
  have HBn := Lib.hid hBn
  have HBn2 := Lib.hid (qn.trans (drn.mono qn.size))
  clear drn hrn hBn hsn qn HNw
  obtain ⟨RB, hRB⟩ : ∃ RB, RB = wn.heap.size := ⟨_, rfl⟩
  have HRB := Lib.hid hRB
  rw [← hRB] at HBn hwn
  clear hRB
  go_wp2
  rw [← HRB.out]
  go_loopw [9] (fun i wr => ∃ (k : Nat) (S : List Rw) (a : Option Addr) (n c : Nat) (R : List Rw), k ≤ m ∧ i = .int .i64 k ∧ Hid (Both wr (u.heap.size + 1) u.heap.size RB S a n c R) ∧ Hid (Below u.heap.size u wr)) (fun i _ => m - (intOf i).toNat)
  case atStart => exact ⟨0, [], none, 0, 0, [], Nat.zero_le _, rfl, HBn, HBn2⟩
  case round =>
    clear HBn HBn2
    obtain ⟨k, S, a, n, c, R, hk, rfl, HBo, HB⟩ := hrel
    by_cases hlt : k < m
    · have hkl : (k : Int) < (m : Int) := by omega
      obtain ⟨hml, hl, hok⟩ := HL.out
      have hkl2 : k < l.length := by omega
      obtain ⟨b1, o1, rfl, hC0, hp0⟩ := hl.c k hkl2
      have hb1 : b1 < u.heap.size := hC0.1
      have hC1 := hC0.below HB.out (Nat.le_refl _)
      have hBo := HBo.out
      have HDo := Lib.hid (awDo_any _ _ S a c R l[k] wr.drew hBo.2.1 hBo.2.2.1 hBo.2.2.2.1 hBo.2.2.2.2.1 w.heap.size (Nat.le_trans (Nat.le_of_lt hwu) HB.out.size) (Nat.le_of_lt hwu) (HV.out.on (HB.out.drew.mono (Nat.le_of_lt hwu))) (hp0.below HB.out.drew (Nat.le_refl _)) (hok _ (List.getElem_mem hkl2)) (HF.out.2 _ (List.getElem_mem hkl2)))
      rw [← hBo.1] at HDo
      clear hml hl hok hC0 hp0
      generalize l[k] = xk at *
      go_wp2_with fail
      refine wp_region_any (by kernel_rfl) ?_
      change wpAny _ _ _ _ _ _ _ (World.drew _)
      have hcr := hBo.2.2.2.2.2.c0
      have hS : (fun w' : World => AcC w' b1 (o1 + k * 5) xk) wr.drew := hC1
      refine wpAny_of_held (S := fun w' => AcC w' b1 (o1 + k * 5) xk) _ _ _ _ ?_
      refine wpAnyH_takeA (i := 0) (some 38) (v := ?_) rfl rfl (by as_aux_lemma => kernel_rfl) (by as_aux_lemma => kernel_rfl) (by as_aux_lemma => kernel_rfl) (fun _ _ _ h => h) (Or.inl ⟨by kernel_rfl, ?_⟩) hS ?_
      rotate_left
      · intro u hSw; have c1 := hSw.2.1; have c2 := hSw.2.2.1; have c3 := hSw.2.2.2.1; have c4 := hSw.2.2.2.2.1; have c5 := hSw.2.2.2.2.2; go_simp
        first | done | with_reducible rfl
      refine wpAnyH_takeA (i := 2) (some 40) (v := ?_) rfl rfl (by as_aux_lemma => kernel_rfl) (by as_aux_lemma => kernel_rfl) (by as_aux_lemma => kernel_rfl) (fun _ _ _ h => h) (Or.inl ⟨by kernel_rfl, ?_⟩) hS ?_
      rotate_left
      · intro u hSw; have c1 := hSw.2.1; have c2 := hSw.2.2.1; have c3 := hSw.2.2.2.1; have c4 := hSw.2.2.2.2.1; have c5 := hSw.2.2.2.2.2; go_simp
        first | done | with_reducible rfl
      refine wpAnyH_takeA (i := 3) (some 41) (v := ?_) rfl rfl (by as_aux_lemma => kernel_rfl) (by as_aux_lemma => kernel_rfl) (by as_aux_lemma => kernel_rfl) (fun _ _ _ h => h) (Or.inl ⟨by kernel_rfl, ?_⟩) hS ?_
      rotate_left
      · intro u hSw; have c1 := hSw.2.1; have c2 := hSw.2.2.1; have c3 := hSw.2.2.2.1; have c4 := hSw.2.2.2.2.1; have c5 := hSw.2.2.2.2.2; go_simp
        first | done | with_reducible rfl
      refine wpAnyH_takeA (i := 4) (some 42) (v := ?_) rfl rfl (by as_aux_lemma => kernel_rfl) (by as_aux_lemma => kernel_rfl) (by as_aux_lemma => kernel_rfl) (fun _ _ _ h => h) (Or.inl ⟨by kernel_rfl, ?_⟩) hS ?_
      rotate_left
      · intro u hSw; have c1 := hSw.2.1; have c2 := hSw.2.2.1; have c3 := hSw.2.2.2.1; have c4 := hSw.2.2.2.2.1; have c5 := hSw.2.2.2.2.2; go_simp
        first | done | with_reducible rfl
      refine wpAnyH_takeA (i := 5) (some 43) (v := ?_) rfl rfl (by as_aux_lemma => kernel_rfl) (by as_aux_lemma => kernel_rfl) (by as_aux_lemma => kernel_rfl) (fun _ _ _ h => h) (Or.inl ⟨by kernel_rfl, ?_⟩) hS ?_
      rotate_left
      · intro u hSw; have c1 := hSw.2.1; have c2 := hSw.2.2.1; have c3 := hSw.2.2.2.1; have c4 := hSw.2.2.2.2.1; have c5 := hSw.2.2.2.2.2; go_simp
        first | done | with_reducible rfl
      refine wpAnyH_ready (rs := [1]) (by as_aux_lemma => kernel_rfl) (by simp) ?_
      refine AllReadyH.cons rfl (fun K hK => ?_) AllReadyH.nil
      go_simp
      refine hK.out _ _ hC1 (fun hS => ?_)
      clear hK K
      refine wpAnyH_ready (rs := [6]) (by as_aux_lemma => kernel_rfl) (by simp) ?_
      refine AllReadyH.cons rfl (fun K hK => ?_) AllReadyH.nil
      go_simp
      go_wp2_with (go_at_call 12; refine HDo.out.mono ?_; rintro e w3 ⟨a3, c3, S3, R3, rfl, hS3, hR3, hsim3, h643, g3⟩)
      replace g3 : wr.grownBy w3 (some u.heap.size) := ⟨g3.os, g3.tape, g3.output, g3.size, g3.block⟩
      have hrb3 := hBo.2.2.2.2.2.kept (w' := w3) g3 (fun e => by have := Option.some.inj e; omega)
      have hC3 : AcC w3 b1 (o1 + k * 5) xk := AcC.turn (w := wr) hC1 g3 (by omega)
      refine hK.out _ _ hC3 (fun hS => ?_)
      clear hK K
      refine wpAnyH_takeA (i := 7) (some 37) (v := ?_) rfl rfl (by as_aux_lemma => kernel_rfl) (by as_aux_lemma => kernel_rfl) (by as_aux_lemma => kernel_rfl) (fun _ _ _ h => h) (Or.inl ⟨by kernel_rfl, ?_⟩) hS ?_
      rotate_left
      · intro u hSw; have c1 := hSw.2.1; have c2 := hSw.2.2.1; have c3 := hSw.2.2.2.1; have c4 := hSw.2.2.2.2.1; have c5 := hSw.2.2.2.2.2; go_simp
        first | done | with_reducible rfl
      refine wpAnyH_takeA (i := 8) (some 45) (v := ?_) rfl rfl (by as_aux_lemma => kernel_rfl) (by as_aux_lemma => kernel_rfl) (by as_aux_lemma => kernel_rfl) (fun _ _ _ h => h) (Or.inl ⟨by kernel_rfl, ?_⟩) hS ?_
      rotate_left
      · intro u hSw; have c1 := hSw.2.1; have c2 := hSw.2.2.1; have c3 := hSw.2.2.2.1; have c4 := hSw.2.2.2.2.1; have c5 := hSw.2.2.2.2.2; go_simp
        first | done | with_reducible rfl
      refine wpAnyH_takeA (i := 9) (some 46) (v := ?_) rfl rfl (by as_aux_lemma => kernel_rfl) (by as_aux_lemma => kernel_rfl) (by as_aux_lemma => kernel_rfl) (fun _ _ _ h => h) (Or.inl ⟨by kernel_rfl, ?_⟩) hS ?_
      rotate_left
      · intro u hSw; have c1 := hSw.2.1; have c2 := hSw.2.2.1; have c3 := hSw.2.2.2.1; have c4 := hSw.2.2.2.2.1; have c5 := hSw.2.2.2.2.2; go_simp
        first | done | with_reducible rfl
      have f0 := hrb3.c0; have ff0 := hrb3.f 0
      refine wpAnyH_ready (rs := [10]) (by as_aux_lemma => kernel_rfl) (by simp) ?_
      refine AllReadyH.cons rfl (fun K hK => ?_) AllReadyH.nil
      go_simp
      refine hK.out _ _ ?_ (fun hS => ?_)
      · exact hC3.other (by omega)
      clear hK K
      refine wpAnyH_done (by kernel_rfl) ?_ _
      have hBo3 := Both.play (w := wr) hBo (by omega) hS3 hR3 hsim3 h643 g3
      have hB3 : Below u.heap.size u (w3.setCell ⟨RB, 0, none⟩ (.slice a3 R3.length c3)) := (HB.out.grown (w := wr) g3 HB.out.size (fun j e => by obtain rfl := Option.some.inj e; exact Nat.le_refl _)).setCell (p := ⟨RB, 0, none⟩) (by show u.heap.size ≤ RB; omega) _

      have HBo3 := Lib.hid hBo3
      have HB3 := Lib.hid hB3
      clear hcr hBo3 hB3 hS hS3 hR3 hsim3 h643 g3 hrb3 hC3 f0 ff0 hBo hC1 HDo HBo HB
      generalize R3.length = n3 at *
      go_simp
      go_wp2
      go_roundw
      case rel => exact ⟨k + 1, S3, a3, n3, c3, R3, by omega, by go_num, HBo3, HB3⟩
      case measure => simp [intOf]; omega
    · have hkl : ¬ (k : Int) < (m : Int) := by omega
      have hBo := HBo.out
      have kr := HK0.out.below HB.out hwu
      have HKr := Lib.hid kr
      have c0' := kr.c0
      have hpr := HPy.out.below HB.out (Nat.le_refl _)
      have HKy := Lib.hid (refKey_any y.ad y.cp y.ps wr hpr (by rw [← HY.out.1]; omega) HY.out.2.2.1 (by have := HY.out.2.2.2; omega) ny HY.out.1)
      have hkl : (keyL y.ps).length ≤ maxLen := by
        have e : (keyL y.ps).length = (partsK y.ps).flatten.length + 2 := by rw [keyL_tail]; simp [tailK]
        have := HY.out.2.2.2
        unfold maxLen
        omega
      have HGo : Hid (∃ v b, gotR S (keyL y.ps) = (v, b) ∧ gotR R (keyL y.ps) = (v, b)) := Lib.hid ⟨_, _, rfl, (hBo.2.2.2.1.got _).symm⟩
      have HR64 : Hid (R.length ≤ 64) := Lib.hid (by rw [← hBo.2.2.2.1.len]; exact hBo.2.2.2.2.1)
      have HGL : Hid (∀ v b, gotR S (keyL y.ps) = (v, b) → v.1.length ≤ 8) := Lib.hid (got_len hBo.2.1)
      obtain ⟨gv, gb, hg1, hg2⟩ := HGo.out
      have gv1 := Lib.hid (HGL.out gv gb hg1)
      have HG1 := Lib.hid (fun v (h : StAt v (u.heap.size + 1) u.heap.size S) => aGet_any _ _ S (keyL y.ps) v h hkl)
      have HG2 := Lib.hid (fun v (h : RsAt v a c R) => arGet_any a c R (keyL y.ps) v h HR64.out)
      rw [hg1] at HG1
      rw [hg2, ← hBo.1] at HG2
      have HBw := Lib.hid (HD0.out.trans (HB.out.mono (Nat.le_of_lt hwu)))
      clear hg1 hg2 HGo HGL HR64 hkl hpr kr hBo c0
      generalize keyL y.ps = kk at *
      unfold GetPost at HG1 HG2
      go_wp2_with (go_at_call 14; refine HKy.out.mono ?_; rintro e w1 ⟨rfl, q1⟩; refine Hid.out ?_)
      refine Lib.hid ?_
      have hB1 := HBo.out.below q1
      have HG1' := Lib.hid (HG1.out w1 hB1.2.1)
      have HH1 := Lib.hid (And.intro hB1 (And.intro (HBw.out.trans (q1.mono HBw.out.size)) (And.intro (HKr.out.below q1 (ltA HKr.out)) (HB.out.trans (q1.mono HB.out.size)))))
      clear hB1 q1 HKy HBo HB HBw HKr HG1 c0'
      go_wp2_with (go_at_call 15; refine HG1'.out.mono ?_; rintro e w2 ⟨y2, rfl, hy2, hp2, q2⟩; refine Hid.out ?_)
      refine Lib.hid ?_
      obtain ⟨hB1, b1, k1, bu1⟩ := HH1.out
      have d2 := (Below.refl w2.heap.size w2).alloc (Nat.le_refl _) (.cells #[.slice y2.ad y2.ps.length y2.cp, .int .i64 y2.st, .int .i64 y2.en] 34)
      have q2' := q2.trans (d2.mono q2.size)
      have hB2 := hB1.below q2'
      have x2 := AlBlk.new w2 y2.ad y2.ps.length y2.cp y2.st y2.en
      have HG2' := Lib.hid (HG2.out _ hB2.2.2.1)
      have cr := hB2.2.2.2.2.2.c0
      have HH2 := Lib.hid (And.intro (b1.trans (q2'.mono b1.size)) (And.intro (k1.below q2' (ltA k1)) (And.intro x2 (And.intro (hp2.below d2 (Nat.le_refl _)) (bu1.trans (q2'.mono bu1.size))))))
      have HY2 := Lib.hid hy2
      clear hB1 b1 k1 bu1 d2 q2 q2' hB2 x2 hp2 hy2 HG1' HG2 HH1
      go_wp2_with (go_at_call 16; refine HG2'.out.mono ?_; rintro e w3 ⟨y3, rfl, hy3, hp3, q3⟩; refine Hid.out ?_)
      refine Lib.hid ?_
      obtain ⟨b2, k2, x2, p2, bu2⟩ := HH2.out
      generalize hv2 : w2.alloc (.cells #[.slice y2.ad y2.ps.length y2.cp, .int .i64 y2.st, .int .i64 y2.en] 34) = v2 at *
      generalize w2.heap.size = X2 at *
      clear hv2 HG2'
      have d3 := (Below.refl w3.heap.size w3).alloc (Nat.le_refl _) (.cells #[.slice y3.ad y3.ps.length y3.cp, .int .i64 y3.st, .int .i64 y3.en] 34)
      have q3' := q3.trans (d3.mono q3.size)
      have x3 := AlBlk.new w3 y3.ad y3.ps.length y3.cp y3.st y3.en
      have HH3 := Lib.hid (And.intro (b2.trans (q3'.mono b2.size)) (And.intro (k2.below q3' (ltA k2)) (And.intro (x2.below q3' (ltA x2)) (And.intro (p2.below q3' (Nat.le_refl _)) (And.intro x3 (And.intro (hp3.below d3 (Nat.le_refl _)) (bu2.trans (q3'.mono bu2.size))))))))
      have HY3 := Lib.hid hy3
      have HNg := Lib.hid (nGet_any kk (w3.alloc (.cells #[.slice y3.ad y3.ps.length y3.cp, .int .i64 y3.st, .int .i64 y3.en] 34)))
      unfold GetPost at HNg
      clear b2 k2 x2 p2 bu2 d3 q3 q3' x3 hp3 hy3 HH2 cr
      go_wp2_with (go_at_call 15; refine HNg.out.mono ?_; rintro e w4 ⟨y4, rfl, hy4, -, q4⟩; refine Hid.out ?_)
      refine Lib.hid ?_
      generalize hv3 : w3.alloc (.cells #[.slice y3.ad y3.ps.length y3.cp, .int .i64 y3.st, .int .i64 y3.en] 34) = v3 at *
      generalize w3.heap.size = X3 at *
      clear hv3
      have d4 := (Below.refl w4.heap.size w4).alloc (Nat.le_refl _) (.cells #[.slice y4.ad y4.ps.length y4.cp, .int .i64 y4.st, .int .i64 y4.en] 34)
      have q4' := q4.trans (d4.mono q4.size)
      obtain ⟨b3, k3, x2, p2, x3, p3, bu3⟩ := HH3.out
      have k4 := k3.below q4' (ltA k3)
      have c0 := k4.c0; have c1 := k4.c1; have c2 := k4.c2
      have HH4 := Lib.hid (And.intro (b3.trans (q4'.mono b3.size)) (And.intro k4 (And.intro (x2.below q4' (ltA x2)) (And.intro (p2.below q4' (Nat.le_refl _)) (And.intro (x3.below q4' (ltA x3)) (And.intro (p3.below q4' (Nat.le_refl _)) (bu3.trans (q4'.mono bu3.size))))))))
      clear b3 k3 x2 p2 x3 p3 bu3 d4 q4 q4' k4 hy4 HNg HH3
      have HNp := Lib.hid (nPut_any y.ad ny y.cp y.st y.en (w4.alloc (.cells #[.slice y4.ad y4.ps.length y4.cp, .int .i64 y4.st, .int .i64 y4.en] 34)))
      go_wp2_with (go_at_call 17; refine HNp.out.mono ?_; rintro e w5 ⟨rfl, q5⟩; refine Hid.out ?_)
      refine Lib.hid ?_
      generalize w4.alloc (.cells #[.slice y4.ad y4.ps.length y4.cp, .int .i64 y4.st, .int .i64 y4.en] 34) = v4 at *
      generalize w4.heap.size = X4 at *
      have HNa := Lib.hid (nAll_any w5)
      clear HNp c0 c1 c2
      go_wp2_with (go_at_call 18; refine HNa.out.mono ?_; rintro e w6 ⟨rfl, q6⟩; refine Hid.out ?_)
      refine Lib.hid ?_
      have HNf := Lib.hid (nFiring_any now w6)
      clear HNa
      go_wp2_with (go_at_call 19; refine HNf.out.mono ?_; rintro e w7 ⟨rfl, q7⟩; refine Hid.out ?_)
      refine Lib.hid ?_
      have HNd := Lib.hid (nDrop_any now w7)
      have HNl := Lib.hid (nLen_any w7)
      have HNk := Lib.hid (nFork_any w7)
      have q47 := q5.trans ((q6.trans (q7.mono q6.size)).mono q5.size)
      obtain ⟨b4, k4, x2, p2, x3, p3, bu4⟩ := HH4.out
      have k7 := k4.below q47 (ltA k4)
      have x27 := x2.below q47 (ltA x2)
      have x37 := x3.below q47 (ltA x3)
      have b7 := b4.trans (q47.mono b4.size)
      have HS7 := Lib.hid (arSameA_any y2 y3 w7.drew (p2.below q47.drew (Nat.le_refl _)) (p3.below q47.drew (Nat.le_refl _)) (by have := al_len HY2.out; have := gv1.out; omega))
      have hsm : sameA y2 y3 = true := by unfold sameA; rw [HY2.out, HY3.out]; exact decide_eq_true rfl
      rw [hsm] at HS7
      have HFa := Lib.hid (fun v => aFires_any y.ad ny y.cp y.st y.en now v)
      have HFr := Lib.hid (fun v => arFires_any y.ad ny y.cp y.st y.en now v)
      generalize firesP y.st y.en now = fr at *
      have HH7 := Lib.hid (And.intro k7 (And.intro x27 (And.intro x37 b7)))
      clear q5 q6 q7 q47 b4 k4 x2 p2 x3 p3 bu4 k7 x27 x37 b7 hsm HNf HH4
      generalize y2.ps.length = n2 at *
      generalize y3.ps.length = n3 at *
      go_wp2_with (first
        | (go_at_call 20; refine HNd.out.mono ?_; rintro e w8 ⟨rfl, hw8⟩; replace hw8 := hw8.symm; subst hw8)
        | (go_at_call 21; refine HNl.out.mono ?_; rintro e w8 ⟨rfl, hw8⟩; replace hw8 := hw8.symm; subst hw8)
        | (go_at_call 22; refine HNk.out.mono ?_; rintro e w8 ⟨rfl, hw8⟩; replace hw8 := hw8.symm; subst hw8))
      obtain ⟨k7, x27, x37, b7⟩ := HH7.out
      have hH7 := And.intro x27 (And.intro x37 k7)
      refine wp_region_any (by kernel_rfl) ?_
      change wpAny _ _ _ _ _ _ _ (World.drew _)
      have hS : (fun w' : World => AlBlk w' X2 y2.ad n2 y2.cp y2.st y2.en ∧ AlBlk w' X3 y3.ad n3 y3.cp y3.st y3.en ∧ AlBlk w' w.heap.size y.ad ny y.cp y.st y.en) w7.drew := hH7
      refine wpAny_of_held (S := fun w' => AlBlk w' X2 y2.ad n2 y2.cp y2.st y2.en ∧ AlBlk w' X3 y3.ad n3 y3.cp y3.st y3.en ∧ AlBlk w' w.heap.size y.ad ny y.cp y.st y.en) _ _ _ _ ?_
      refine wpAnyH_takeA (i := 0) (some 105) (v := ?_) rfl rfl (by as_aux_lemma => kernel_rfl) (by as_aux_lemma => kernel_rfl) (by as_aux_lemma => kernel_rfl) (fun _ _ _ h => h) (Or.inl ⟨by kernel_rfl, ?_⟩) hS ?_
      rotate_left
      · intro w hSw; have c0 := hSw.1.c0; have c1 := hSw.1.c1; have c2 := hSw.1.c2; have d0 := hSw.2.1.c0; have d1 := hSw.2.1.c1; have d2 := hSw.2.1.c2; have e0 := hSw.2.2.c0; have e1 := hSw.2.2.c1; have e2 := hSw.2.2.c2; go_simp
        first | done | with_reducible rfl
      refine wpAnyH_takeA (i := 1) (some 106) (v := ?_) rfl rfl (by as_aux_lemma => kernel_rfl) (by as_aux_lemma => kernel_rfl) (by as_aux_lemma => kernel_rfl) (fun _ _ _ h => h) (Or.inl ⟨by kernel_rfl, ?_⟩) hS ?_
      rotate_left
      · intro w hSw; have c0 := hSw.1.c0; have c1 := hSw.1.c1; have c2 := hSw.1.c2; have d0 := hSw.2.1.c0; have d1 := hSw.2.1.c1; have d2 := hSw.2.1.c2; have e0 := hSw.2.2.c0; have e1 := hSw.2.2.c1; have e2 := hSw.2.2.c2; go_simp
        first | done | with_reducible rfl
      refine wpAnyH_ready (rs := [2]) (by as_aux_lemma => kernel_rfl) (by simp) ?_
      refine AllReadyH.cons rfl (fun K hK => ?_) AllReadyH.nil
      go_simp
      go_wp2_with (go_at_call 23; refine HS7.out.mono ?_; rintro e w8 ⟨rfl, q8⟩; replace q8 : Below w7.heap.size w7 w8 := (Below.refl w7.heap.size w7).drew.trans q8)
      refine hK.out _ _ ?_ (fun hS => ?_)
      · exact ⟨hH7.1.below q8 (ltA hH7.1), hH7.2.1.below q8 (ltA hH7.2.1), hH7.2.2.below q8 (ltA hH7.2.2)⟩
      clear hK K
      have hH8 := hS
      refine wpAnyH_takeA (i := 3) (some 108) (v := ?_) rfl rfl (by as_aux_lemma => kernel_rfl) (by as_aux_lemma => kernel_rfl) (by as_aux_lemma => kernel_rfl) (fun _ _ _ h => h) (Or.inl ⟨by kernel_rfl, ?_⟩) hS ?_
      rotate_left
      · intro w hSw; have c0 := hSw.1.c0; have c1 := hSw.1.c1; have c2 := hSw.1.c2; have d0 := hSw.2.1.c0; have d1 := hSw.2.1.c1; have d2 := hSw.2.1.c2; have e0 := hSw.2.2.c0; have e1 := hSw.2.2.c1; have e2 := hSw.2.2.c2; go_simp
        first | done | with_reducible rfl
      refine wpAnyH_takeA (i := 4) (some 109) (v := ?_) rfl rfl (by as_aux_lemma => kernel_rfl) (by as_aux_lemma => kernel_rfl) (by as_aux_lemma => kernel_rfl) (fun _ _ _ h => h) (Or.inl ⟨by kernel_rfl, ?_⟩) hS ?_
      rotate_left
      · intro w hSw; have c0 := hSw.1.c0; have c1 := hSw.1.c1; have c2 := hSw.1.c2; have d0 := hSw.2.1.c0; have d1 := hSw.2.1.c1; have d2 := hSw.2.1.c2; have e0 := hSw.2.2.c0; have e1 := hSw.2.2.c1; have e2 := hSw.2.2.c2; go_simp
        first | done | with_reducible rfl
      refine wpAnyH_takeA (i := 5) (some 110) (v := ?_) rfl rfl (by as_aux_lemma => kernel_rfl) (by as_aux_lemma => kernel_rfl) (by as_aux_lemma => kernel_rfl) (fun _ _ _ h => h) (Or.inl ⟨by kernel_rfl, ?_⟩) hS ?_
      rotate_left
      · intro w hSw; have c0 := hSw.1.c0; have c1 := hSw.1.c1; have c2 := hSw.1.c2; have d0 := hSw.2.1.c0; have d1 := hSw.2.1.c1; have d2 := hSw.2.1.c2; have e0 := hSw.2.2.c0; have e1 := hSw.2.2.c1; have e2 := hSw.2.2.c2; go_simp
        first | done | with_reducible rfl
      refine wpAnyH_takeA (i := 6) (some 111) (v := ?_) rfl rfl (by as_aux_lemma => kernel_rfl) (by as_aux_lemma => kernel_rfl) (by as_aux_lemma => kernel_rfl) (fun _ _ _ h => h) (Or.inl ⟨by kernel_rfl, ?_⟩) hS ?_
      rotate_left
      · intro w hSw; have c0 := hSw.1.c0; have c1 := hSw.1.c1; have c2 := hSw.1.c2; have d0 := hSw.2.1.c0; have d1 := hSw.2.1.c1; have d2 := hSw.2.1.c2; have e0 := hSw.2.2.c0; have e1 := hSw.2.2.c1; have e2 := hSw.2.2.c2; go_simp
        first | done | with_reducible rfl
      refine wpAnyH_takeA (i := 7) (some 112) (v := ?_) rfl rfl (by as_aux_lemma => kernel_rfl) (by as_aux_lemma => kernel_rfl) (by as_aux_lemma => kernel_rfl) (fun _ _ _ h => h) (Or.inl ⟨by kernel_rfl, ?_⟩) hS ?_
      rotate_left
      · intro w hSw; have c0 := hSw.1.c0; have c1 := hSw.1.c1; have c2 := hSw.1.c2; have d0 := hSw.2.1.c0; have d1 := hSw.2.1.c1; have d2 := hSw.2.1.c2; have e0 := hSw.2.2.c0; have e1 := hSw.2.2.c1; have e2 := hSw.2.2.c2; go_simp
        first | done | with_reducible rfl
      refine wpAnyH_takeA (i := 8) (some 113) (v := ?_) rfl rfl (by as_aux_lemma => kernel_rfl) (by as_aux_lemma => kernel_rfl) (by as_aux_lemma => kernel_rfl) (fun _ _ _ h => h) (Or.inl ⟨by kernel_rfl, ?_⟩) hS ?_
      rotate_left
      · intro w hSw; have c0 := hSw.1.c0; have c1 := hSw.1.c1; have c2 := hSw.1.c2; have d0 := hSw.2.1.c0; have d1 := hSw.2.1.c1; have d2 := hSw.2.1.c2; have e0 := hSw.2.2.c0; have e1 := hSw.2.2.c1; have e2 := hSw.2.2.c2; go_simp
        first | done | with_reducible rfl
      refine wpAnyH_takeA (i := 9) (some 114) (v := ?_) rfl rfl (by as_aux_lemma => kernel_rfl) (by as_aux_lemma => kernel_rfl) (by as_aux_lemma => kernel_rfl) (fun _ _ _ h => h) (Or.inl ⟨by kernel_rfl, ?_⟩) hS ?_
      rotate_left
      · intro w hSw; have c0 := hSw.1.c0; have c1 := hSw.1.c1; have c2 := hSw.1.c2; have d0 := hSw.2.1.c0; have d1 := hSw.2.1.c1; have d2 := hSw.2.1.c2; have e0 := hSw.2.2.c0; have e1 := hSw.2.2.c1; have e2 := hSw.2.2.c2; go_simp
        first | done | with_reducible rfl
      refine wpAnyH_takeA (i := 10) (some 115) (v := ?_) rfl rfl (by as_aux_lemma => kernel_rfl) (by as_aux_lemma => kernel_rfl) (by as_aux_lemma => kernel_rfl) (fun _ _ _ h => h) (Or.inl ⟨by kernel_rfl, ?_⟩) hS ?_
      rotate_left
      · intro w hSw; have c0 := hSw.1.c0; have c1 := hSw.1.c1; have c2 := hSw.1.c2; have d0 := hSw.2.1.c0; have d1 := hSw.2.1.c1; have d2 := hSw.2.1.c2; have e0 := hSw.2.2.c0; have e1 := hSw.2.2.c1; have e2 := hSw.2.2.c2; go_simp
        first | done | with_reducible rfl
      refine wpAnyH_takeA (i := 12) (some 117) (v := ?_) rfl rfl (by as_aux_lemma => kernel_rfl) (by as_aux_lemma => kernel_rfl) (by as_aux_lemma => kernel_rfl) (fun _ _ _ h => h) (Or.inl ⟨by kernel_rfl, ?_⟩) hS ?_
      rotate_left
      · intro w hSw; have c0 := hSw.1.c0; have c1 := hSw.1.c1; have c2 := hSw.1.c2; have d0 := hSw.2.1.c0; have d1 := hSw.2.1.c1; have d2 := hSw.2.1.c2; have e0 := hSw.2.2.c0; have e1 := hSw.2.2.c1; have e2 := hSw.2.2.c2; go_simp
        first | done | with_reducible rfl
      refine wpAnyH_takeA (i := 13) (some 118) (v := ?_) rfl rfl (by as_aux_lemma => kernel_rfl) (by as_aux_lemma => kernel_rfl) (by as_aux_lemma => kernel_rfl) (fun _ _ _ h => h) (Or.inl ⟨by kernel_rfl, ?_⟩) hS ?_
      rotate_left
      · intro w hSw; have c0 := hSw.1.c0; have c1 := hSw.1.c1; have c2 := hSw.1.c2; have d0 := hSw.2.1.c0; have d1 := hSw.2.1.c1; have d2 := hSw.2.1.c2; have e0 := hSw.2.2.c0; have e1 := hSw.2.2.c1; have e2 := hSw.2.2.c2; go_simp
        first | done | with_reducible rfl
      refine wpAnyH_ready (rs := [11]) (by as_aux_lemma => kernel_rfl) (by simp) ?_
      refine AllReadyH.cons rfl (fun K hK => ?_) AllReadyH.nil
      go_simp
      go_wp2_with (go_at_call 24; refine (HFa.out w8).mono ?_; rintro e w9 ⟨rfl, q9⟩)
      refine hK.out _ _ ?_ (fun hS => ?_)
      · exact ⟨hH8.1.below q9 (ltA hH8.1), hH8.2.1.below q9 (ltA hH8.2.1), hH8.2.2.below q9 (ltA hH8.2.2)⟩
      clear hK K
      have hH9 := hS
      refine wpAnyH_ready (rs := [14]) (by as_aux_lemma => kernel_rfl) (by simp) ?_
      refine AllReadyH.cons rfl (fun K hK => ?_) AllReadyH.nil
      go_simp
      go_wp2_with (go_at_call 25; refine (HFr.out w9).mono ?_; rintro e w10 ⟨rfl, q10⟩)
      refine hK.out _ _ ?_ (fun hS => ?_)
      · exact ⟨hH9.1.below q10 (ltA hH9.1), hH9.2.1.below q10 (ltA hH9.2.1), hH9.2.2.below q10 (ltA hH9.2.2)⟩
      clear hK K
      have hH10 := hS
      refine wpAnyH_takeA (i := 15) (some 120) (v := ?_) rfl rfl (by as_aux_lemma => kernel_rfl) (by as_aux_lemma => kernel_rfl) (by as_aux_lemma => kernel_rfl) (fun _ _ _ h => h) (Or.inl ⟨by kernel_rfl, ?_⟩) hS ?_
      rotate_left
      · intro w hSw; have c0 := hSw.1.c0; have c1 := hSw.1.c1; have c2 := hSw.1.c2; have d0 := hSw.2.1.c0; have d1 := hSw.2.1.c1; have d2 := hSw.2.1.c2; have e0 := hSw.2.2.c0; have e1 := hSw.2.2.c1; have e2 := hSw.2.2.c2; go_simp
        first | done | with_reducible rfl
      refine wpAnyH_takeA (i := 16) (some 121) (v := ?_) rfl rfl (by as_aux_lemma => kernel_rfl) (by as_aux_lemma => kernel_rfl) (by as_aux_lemma => kernel_rfl) (fun _ _ _ h => h) (Or.inl ⟨by kernel_rfl, ?_⟩) hS ?_
      rotate_left
      · intro w hSw; have c0 := hSw.1.c0; have c1 := hSw.1.c1; have c2 := hSw.1.c2; have d0 := hSw.2.1.c0; have d1 := hSw.2.1.c1; have d2 := hSw.2.1.c2; have e0 := hSw.2.2.c0; have e1 := hSw.2.2.c1; have e2 := hSw.2.2.c2; go_simp
        first | done | with_reducible rfl
      refine wpAnyH_takeA (i := 17) (some 122) (v := ?_) rfl rfl (by as_aux_lemma => kernel_rfl) (by as_aux_lemma => kernel_rfl) (by as_aux_lemma => kernel_rfl) (fun _ _ _ h => h) (Or.inl ⟨by kernel_rfl, ?_⟩) hS ?_
      rotate_left
      · intro w hSw; have c0 := hSw.1.c0; have c1 := hSw.1.c1; have c2 := hSw.1.c2; have d0 := hSw.2.1.c0; have d1 := hSw.2.1.c1; have d2 := hSw.2.1.c2; have e0 := hSw.2.2.c0; have e1 := hSw.2.2.c1; have e2 := hSw.2.2.c2; go_simp
        first | done | with_reducible rfl
      refine wpAnyH_takeA (i := 18) (some 123) (v := ?_) rfl rfl (by as_aux_lemma => kernel_rfl) (by as_aux_lemma => kernel_rfl) (by as_aux_lemma => kernel_rfl) (fun _ _ _ h => h) (Or.inl ⟨by kernel_rfl, ?_⟩) hS ?_
      rotate_left
      · intro w hSw; have c0 := hSw.1.c0; have c1 := hSw.1.c1; have c2 := hSw.1.c2; have d0 := hSw.2.1.c0; have d1 := hSw.2.1.c1; have d2 := hSw.2.1.c2; have e0 := hSw.2.2.c0; have e1 := hSw.2.2.c1; have e2 := hSw.2.2.c2; go_simp
        first | done | with_reducible rfl
      refine wpAnyH_takeA (i := 19) (some 124) (v := ?_) rfl rfl (by as_aux_lemma => kernel_rfl) (by as_aux_lemma => kernel_rfl) (by as_aux_lemma => kernel_rfl) (fun _ _ _ h => h) (Or.inl ⟨by kernel_rfl, ?_⟩) hS ?_
      rotate_left
      · intro w hSw; have c0 := hSw.1.c0; have c1 := hSw.1.c1; have c2 := hSw.1.c2; have d0 := hSw.2.1.c0; have d1 := hSw.2.1.c1; have d2 := hSw.2.1.c2; have e0 := hSw.2.2.c0; have e1 := hSw.2.2.c1; have e2 := hSw.2.2.c2; go_simp
        first | done | with_reducible rfl
      refine wpAnyH_takeA (i := 20) (some 125) (v := ?_) rfl rfl (by as_aux_lemma => kernel_rfl) (by as_aux_lemma => kernel_rfl) (by as_aux_lemma => kernel_rfl) (fun _ _ _ h => h) (Or.inl ⟨by kernel_rfl, ?_⟩) hS ?_
      rotate_left
      · intro w hSw; have c0 := hSw.1.c0; have c1 := hSw.1.c1; have c2 := hSw.1.c2; have d0 := hSw.2.1.c0; have d1 := hSw.2.1.c1; have d2 := hSw.2.1.c2; have e0 := hSw.2.2.c0; have e1 := hSw.2.2.c1; have e2 := hSw.2.2.c2; go_simp
        first | done | with_reducible rfl
      have b10 : Below w.heap.size w w10 := (((b7.trans (q8.mono b7.size)).trans (q9.mono (Nat.le_trans b7.size q8.size)))).trans (q10.mono (Nat.le_trans (Nat.le_trans b7.size q8.size) q9.size))
      refine wpAnyH_ready (rs := [21]) (by as_aux_lemma => kernel_rfl) (by simp) ?_
      refine AllReadyH.cons rfl (fun K hK => ?_) AllReadyH.nil
      go_simp
      go_wp2_with (go_at_call 10; refine (HAw.out w10 b10).mono ?_; rintro e w11 ⟨rfl, q11⟩)
      refine hK.out _ _ ?_ (fun hS => ?_)
      · exact ⟨hH10.1.below q11 (ltA hH10.1), hH10.2.1.below q11 (ltA hH10.2.1), hH10.2.2.below q11 (ltA hH10.2.2)⟩
      clear hK K
      refine wpAnyH_takeA (i := 22) (some 127) (v := ?_) rfl rfl (by as_aux_lemma => kernel_rfl) (by as_aux_lemma => kernel_rfl) (by as_aux_lemma => kernel_rfl) (fun _ _ _ h => h) (Or.inl ⟨by kernel_rfl, ?_⟩) hS ?_
      rotate_left
      · intro w hSw; have c0 := hSw.1.c0; have c1 := hSw.1.c1; have c2 := hSw.1.c2; have d0 := hSw.2.1.c0; have d1 := hSw.2.1.c1; have d2 := hSw.2.1.c2; have e0 := hSw.2.2.c0; have e1 := hSw.2.2.c1; have e2 := hSw.2.2.c2; go_simp
        first | done | with_reducible rfl
      refine wpAnyH_takeA (i := 23) (some 6) (v := ?_) rfl rfl (by as_aux_lemma => kernel_rfl) (by as_aux_lemma => kernel_rfl) (by as_aux_lemma => kernel_rfl) (fun _ _ _ h => h) (Or.inl ⟨by kernel_rfl, ?_⟩) hS ?_
      rotate_left
      · intro w hSw; have c0 := hSw.1.c0; have c1 := hSw.1.c1; have c2 := hSw.1.c2; have d0 := hSw.2.1.c0; have d1 := hSw.2.1.c1; have d2 := hSw.2.1.c2; have e0 := hSw.2.2.c0; have e1 := hSw.2.2.c1; have e2 := hSw.2.2.c2; go_simp
        first | done | with_reducible rfl
      refine wpAnyH_done (by kernel_rfl) ?_ _
      have HBe := Lib.hid (b10.trans (q11.mono b10.size))
      go_simp
      go_wp2
      go_ret
      exact ⟨rfl, HBe.out⟩
end Go.Proofs.YtinohakjemjkhaaDoor
