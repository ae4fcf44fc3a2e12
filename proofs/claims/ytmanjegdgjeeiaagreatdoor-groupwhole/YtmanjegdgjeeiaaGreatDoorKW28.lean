/-
  The groups of alerts: what Of of package group tells.
-/
import Derived.Test.YtmanjegdgjeeiaaGreatDoorKW27
namespace Go.Proofs.YtmanjegdgjeeiaaGreatDoor
open Go.RowKit Go.Maps

/-- What Of tells. -/
def OfPost (w w' : World) (l : List Rt) (W : List Pr → List Nat) (L : List Rw) (e : Ending) : Prop := ∃ (aG : Option Addr) (cG : Nat) (G : List Gm), e = .returned (.slice aG G.length cG) ∧ GroupsAt w' aG G ∧ (G.map Gm.sh).Perm (ofS l W ((sortR L).map Rw.sh)) ∧ (G.Pairwise fun x y => ¬ y.less x) ∧ Below w.heap.size w w'

set_option maxHeartbeats 16000000 in
set_option maxRecDepth 100000 in
theorem gOf_ok (a : Option Addr) (c : Nat) (l : List Rt) (b : Option Addr) (d : Nat) (ls : List Rl) (pt rs : Int) (aL : Option Addr) (cL : Nat) (L : List Rw) (W : List Pr → List Nat) (hW : GoesOk l W) (w : World) (htab : TabW w) (hvv : VarsOk w.heap.size w) (hl : RtsAt w a l) (hls : RlsAt w b ls) (okl : ∀ r ∈ l, RtOk r) (okls : ∀ r ∈ ls, RlOk r) (hl20 : l.length ≤ 20) (hm : ls.length ≤ 9223372036854775807) (hby : ∀ r ∈ l, r.bys.length ≤ 9223372036854775807) (hE : confE l ls pt rs = 0) (hL : AlsAt w aL L) (h20 : L.length ≤ 20) (hLi : ∀ r ∈ L, RwLight r) (n : Nat) (hn : n = L.length) :
    Calls Tryz.prog 10 #[.agg #[.slice a l.length c, .slice b ls.length d, .int .i64 pt, .int .i64 rs], .slice aL n cL] w fun e w' => OfPost w w' l W L e := by
  have htl := htab.lt
  have hA := (Below.refl w.heap.size w).alloc (Nat.le_refl _) (.cells #[.slice a l.length c, .slice b ls.length d, .int .i64 pt, .int .i64 rs] 25)
  have hm0 : CfBlk (w.alloc (.cells #[.slice a l.length c, .slice b ls.length d, .int .i64 pt, .int .i64 rs] 25)) w.heap.size a l.length c b ls.length d pt rs := newA w _
  have hz0 : (w.alloc (.cells #[.slice a l.length c, .slice b ls.length d, .int .i64 pt, .int .i64 rs] 25)).heap.size = w.heap.size + 1 := by simp
  have hC := tCheck_any a c l b d ls pt rs (w.alloc (.cells #[.slice a l.length c, .slice b ls.length d, .int .i64 pt, .int .i64 rs] 25)) (htab.on hA htl) (hl.below hA (Nat.le_refl _)) (hls.below hA (Nat.le_refl _)) okl okls (by omega) hm
  rw [hE] at hC
  have HC := Lib.hid hC
  have HA := Lib.hid (And.intro hA (And.intro hm0 hz0))
  have HV := Lib.hid (fun u (hb : Below w.heap.size w u) => And.intro (hvv.on hb) (htab.on hb htl))
  have HBY := Lib.hid (fun u (hb : Below w.heap.size w u) (hB : w.heap.size ≤ u.heap.size) => gByKey_any aL cL L w.heap.size u (hL.below hb (Nat.le_refl _)) (by omega) hLi hB (hvv.on hb).tabOk n hn)
  have HRL := Lib.hid (And.intro hl (And.intro okl hby))
  have hms := sortR_len L
  have HLM : Hid (∀ r ∈ sortR L, RwLight r ∧ PairsAt w r.ad r.ps) := Lib.hid fun r hr => by
    have h1 := (sortR_perm L).mem_iff.1 hr
    exact ⟨hLi r h1, hL.pairs r h1⟩
  have HPost : Hid (∀ (aG : Option Addr) (cG : Nat) (G : List Gm) w', GroupsAt w' aG G → (G.map Gm.sh).Perm (ofS l W ((sortR L).map Rw.sh)) → (G.Pairwise fun x y => ¬ y.less x) → Below w.heap.size w w' → OfPost w w' l W L (.returned (.slice aG G.length cG))) := Lib.hid fun aG cG G w' h1 h2 h3 h4 => ⟨aG, cG, G, rfl, h1, h2, h3, h4⟩
  have hMn : (sortR L).length ≤ n ∧ n ≤ (sortR L).length := by omega
  have hn20 : n ≤ 20 := by omega
  have hmm := @run_makeMap Tryz.prog
  generalize OfPost w = PO at *
  generalize sortR L = M at *
  clear hC hA hm0 hz0 hE hL hLi hvv htab hl okl hby hls okls hms hn h20
  go_enter Tryz.func10, Tryz.ntmps10
  go_wp2_with (go_at_call 12; refine HC.out.mono ?_; rintro e w1 ⟨rfl, q1⟩; refine Hid.out ?_)
  refine Lib.hid ?_
  obtain ⟨hA, hm0, hz0⟩ := HA.out
  generalize hwc : w.alloc (.cells #[.slice a l.length c, .slice b ls.length d, .int .i64 pt, .int .i64 rs] 25) = wc at *
  clear hwc HC
  have b1 := hA.trans (q1.mono hA.size)
  have q1m := q1.alloc q1.size (.map #[] 0)
  have b1m := hA.trans (q1m.mono hA.size)
  have mp1 := MpAt.made w1
  have sz1 : (w1.alloc (.map #[] 0)).heap.size = w1.heap.size + 1 := by simp
  have HB1 := Lib.hid (HBY.out _ b1m (by have := b1m.size; exact this))
  have HQ1 := Lib.hid (And.intro q1 (And.intro q1m (And.intro mp1 sz1)))
  clear q1 b1 q1m b1m mp1 sz1 HBY
  go_wp2_with (go_at_call 22; refine HB1.out.mono ?_; rintro e w2 ⟨a1, c1, rfl, hk1, hb2⟩; refine Hid.out ?_)
  refine Lib.hid ?_
  obtain ⟨q1, q1m, mp1, sz1⟩ := HQ1.out
  have hs2 := hb2.size
  have hbm : w1.heap.size < w2.heap.size := by omega
  have hwc1 := q1.size
  have hwcs : w.heap.size < wc.heap.size := by omega
  have mp2 : MpAt w2 w1.heap.size [] := mp1.kept (gOf hb2 none) (by simp)
  have bel2 : Below wc.heap.size wc w2 := q1m.trans (hb2.mono q1m.size)
  have HF0 : Hid (Fill wc w2 w2 w1.heap.size (.slice none 0 0) []) := Lib.hid ⟨GInv.nil _ _, mp2, World.grownBy.refl _ _, bel2⟩
  rw [sz1] at hk1
  have HK1 := Lib.hid hk1
  clear hk1 hb2 HB1 HQ1 q1 q1m mp1 sz1 mp2 bel2
  generalize hbmE : w1.heap.size = bm at *
  clear hbmE
  go_wp2
  go_loopw [5, 22] (fun v5 v22 wr => ∃ (k : Nat) (aG : Option Addr) (nG cG : Nat) (G : List Gm), k ≤ n ∧ v22 = .int .i64 k ∧ v5 = .slice aG nG cG ∧ Hid (nG = G.length) ∧ Hid (Fill wc w2 wr bm (.slice aG nG cG) G) ∧ Hid (G.map Gm.sh = ((M.map Rw.sh).take k).foldl (oneS l W) [])) (fun _ i _ => n - (intOf i).toNat)
  case atStart => exact ⟨0, none, 0, 0, [], Nat.zero_le _, rfl, rfl, Lib.hid rfl, HF0.out |> Lib.hid, Lib.hid rfl⟩
  case round =>
    obtain ⟨k, aG, nG, cG, G, hk, rfl, rfl, HN, HF, HG⟩ := hrel
    have hGl : nG ≤ k * 420 := by
      have h1 := ofS_len hW hl20 ((M.map Rw.sh).take k) []
      have h2 := congrArg List.length HG.out
      have h3 := HN.out
      rw [List.length_map] at h2
      rw [← h2, List.length_take] at h1
      simp only [List.length_nil, List.length_map] at h1
      have h4 : min k M.length * 420 ≤ k * 420 := Nat.mul_le_mul_right _ (Nat.min_le_left _ _)
      omega
    by_cases hlt : k < n
    · have hkl : (k : Int) < (n : Int) := by omega
      have hkM : k < M.length := by omega
      have hF := HF.out
      obtain ⟨g, rfl, hgB, hgl, hc⟩ := HK1.out (by omega)
      obtain ⟨hc1, hc2, hc3, hc4⟩ := hc k hkM
      have hne : some g ≠ some bm := fun e => by have := Option.some.inj e; omega
      rw [← hF.far.cell_far ⟨g, k * 4, none⟩ hgl hne] at hc1
      rw [← hF.far.cell_far ⟨g, k * 4 + 1, none⟩ hgl hne] at hc2
      rw [← hF.far.cell_far ⟨g, k * 4 + 2, none⟩ hgl hne] at hc3
      rw [← hF.far.cell_far ⟨g, k * 4 + 3, none⟩ hgl hne] at hc4
      obtain ⟨hli, hpa⟩ := HLM.out M[k] (List.getElem_mem _)
      have HTG : Hid (totS (G.map Gm.sh) ≤ k * 420) := Lib.hid (by
        have h1 := totS_few hW hl20 ((M.map Rw.sh).take k) []
        rw [← HG.out, List.length_take, List.length_map] at h1
        have h4 : min k M.length * 420 ≤ k * 420 := Nat.mul_le_mul_right _ (Nat.min_le_left _ _)
        simp only [totS] at h1
        omega)
      have HX : Hid (((M.map Rw.sh).take (k + 1)).foldl (oneS l W) [] = oneS l W (G.map Gm.sh) (Rw.sh M[k])) := Lib.hid (by rw [fold_take _ _ _ _ (by rw [List.length_map]; exact hkM), ← HG.out, List.getElem_map])
      clear HG hc
      generalize M[k] = r0 at *
      have kb := KdBlk.new wr r0
      have dwb := (Below.refl wr.heap.size wr).alloc (Nat.le_refl _) (.cells #[.slice r0.ad r0.ps.length r0.cp, .int .i64 r0.st, .int .i64 r0.en, .string ⟨r0.key.toArray⟩] 67)
      have hF1 := hF.below dwb
      have bw1 : Below w.heap.size w (wr.alloc (.cells #[.slice r0.ad r0.ps.length r0.cp, .int .i64 r0.st, .int .i64 r0.en, .string ⟨r0.key.toArray⟩] 67)) := hA.trans (hF1.bel.mono (by omega))
      have cf1 : CfBlk (wr.alloc (.cells #[.slice r0.ad r0.ps.length r0.cp, .int .i64 r0.st, .int .i64 r0.en, .string ⟨r0.key.toArray⟩] 67)) w.heap.size a l.length c b ls.length d pt rs := (hF1.bel.block _ hwcs).trans hm0
      have cfc := cf1.x0
      obtain ⟨kc1, kc2, kc3, kc4⟩ := kb.cell
      obtain ⟨tk, htk, hWe⟩ := hW r0.ps
      have HT := Lib.hid (tWalk_row a c l r0.ad r0.cp r0.ps tk htk (wr.alloc (.cells #[.slice r0.ad r0.ps.length r0.cp, .int .i64 r0.st, .int .i64 r0.en, .string ⟨r0.key.toArray⟩] 67)) (HV.out _ bw1).2 (HRL.out.1.below bw1 (Nat.le_refl _)) (hpa.below bw1 (Nat.le_refl _)) (by omega) (fun r hr => (HRL.out.2.1 r hr).1.1) (by have := hli.1; omega) (fun q hq => by have := (hli.2 q hq).2; omega))
      rw [← hWe] at HT
      have hWlen : (W r0.ps).length ≤ 420 := hW.few hl20 _
      have HWlt : Hid (∀ x ∈ W r0.ps, x < l.length) := Lib.hid fun x hx => hW.lt hx
      have HOne : Hid (oneS l W (G.map Gm.sh) (Rw.sh r0) = (W r0.ps).foldl (stepS l (Rw.sh r0)) (G.map Gm.sh)) := Lib.hid rfl
      have szk : (wr.alloc (.cells #[.slice r0.ad r0.ps.length r0.cp, .int .i64 r0.st, .int .i64 r0.en, .string ⟨r0.key.toArray⟩] 67)).heap.size = wr.heap.size + 1 := by simp
      have HZ1 := Lib.hid (And.intro hF1 (And.intro kb (And.intro bw1 szk)))
      have HPA := Lib.hid hpa
      have HLI := Lib.hid hli
      have hGs : (G.map Gm.sh).length = nG := by rw [List.length_map]; exact HN.out.symm
      generalize W r0.ps = Wl at *
      have HGL := Lib.hid hGl
      clear hF HF kb dwb hF1 bw1 cf1 htk hWe hpa hli szk hne hgB hGl
      go_wp2_with (go_at_call 13; refine HT.out.mono ?_; rintro e w3 ⟨⟨aW, cW, rfl, hrW⟩, hb3⟩; refine Hid.out ?_)
      refine Lib.hid ?_
      obtain ⟨hF1, kb, bw1, szk⟩ := HZ1.out
      have HF3 := Lib.hid (hF1.below hb3)
      have HKR := Lib.hid (And.intro (kb.below hb3 (by omega)) hrW)
      clear hF1 kb bw1 hb3 hrW HT HZ1 hc1 hc2 hc3 hc4 kc1 kc2 kc3 kc4 cfc
      generalize (wr.alloc (.cells #[.slice r0.ad r0.ps.length r0.cp, .int .i64 r0.st, .int .i64 r0.en, .string ⟨r0.key.toArray⟩] 67)).heap.size = B3 at *
      generalize wr.heap.size = xb at *
      clear szk
      go_wp2
      go_loopw [5, 33] (fun v5 v33 wi => ∃ (m : Nat) (aI : Option Addr) (nI cI : Nat) (I : List Gm), m ≤ Wl.length ∧ v33 = .int .i64 m ∧ v5 = .slice aI nI cI ∧ Hid (nI = I.length) ∧ Hid (Fill wc w2 wi bm (.slice aI nI cI) I) ∧ Hid (I.map Gm.sh = (Wl.take m).foldl (stepS l (Rw.sh r0)) (G.map Gm.sh)) ∧ Hid (KdBlk wi xb r0 ∧ wi.ownsRow B3 3 1 (.slice aW Wl.length cW) Wl.length (intsV Wl))) (fun _ i _ => Wl.length - (intOf i).toNat)
      case atStart => exact ⟨0, aG, nG, cG, G, Nat.zero_le _, rfl, rfl, HN, HF3, Lib.hid rfl, HKR⟩
      case round =>
        obtain ⟨m, aI, nI, cI, I, hmW, rfl, rfl, HNI, HFI, HGI, HRI⟩ := hrel
        by_cases hlm : m < Wl.length
        · have hml : (m : Int) < (Wl.length : Int) := by omega
          obtain ⟨wi, hwi⟩ : ∃ x, x = wr := ⟨_, rfl⟩
          subst hwi
          have hFI := HFI.out
          obtain ⟨hkb, hrw⟩ := HRI.out
          have hz := HWlt.out Wl[m] (List.getElem_mem _)
          have hNats : NatsAt wi aW Wl := by
            obtain ⟨x, y, e, hI⟩ := ints_own hrw
            simp only [Value.slice.injEq] at e
            rw [e.1]
            exact hI
          obtain ⟨gW, oW, rfl, hgW, hcw⟩ := hNats (by omega)
          have hcm := hcw m hlm
          have HM : Hid ((Wl.take (m + 1)).foldl (stepS l (Rw.sh r0)) (G.map Gm.sh) = stepS l (Rw.sh r0) (I.map Gm.sh) Wl[m]) := Lib.hid (by rw [fold_take _ _ _ _ hlm, ← HGI.out])
          have hIl : nI ≤ k * 420 + m := by
            have h1 := stepS_len l (Rw.sh r0) (Wl.take m) (G.map Gm.sh)
            rw [← HGI.out, List.length_map, ← HNI.out, hGs, List.length_take] at h1
            have := HGL.out
            omega
          have HTI : Hid (totS (I.map Gm.sh) ≤ k * 420 + 420) := Lib.hid (by
            have h1 := totS_steps l (Rw.sh r0) (Wl.take m) (G.map Gm.sh)
            rw [← HGI.out, List.length_take] at h1
            have h2 := HTG.out
            omega)
          clear HGI hcw
          generalize Wl[m] = z at *
          have hzl : (z : Int) < (l.length : Int) := by omega
          have bwi : Below w.heap.size w wi := hA.trans (hFI.bel.mono (by omega))
          obtain ⟨rb, ro, rfl, hrb, hcr⟩ := (HRL.out.1.below bwi (Nat.le_refl _)) (by omega)
          obtain ⟨hcz, -, hsz⟩ := hcr z hz
          have cfi : CfBlk wi w.heap.size (some ⟨rb, ro, none⟩) l.length c b ls.length d pt rs := (hFI.bel.block _ hwcs).trans hm0
          have hbyl := HRL.out.2.2 l[z] (List.getElem_mem _)
          have HBz : Hid (bysAt l z = l[z].bys) := Lib.hid (bysAt_eq hz)
          clear hcr
          generalize l[z] = rz at *
          have hd : Below wi.heap.size wi wi.drew := (Below.refl wi.heap.size wi).drew
          have hS0 : S11 wi.drew w.heap.size (some ⟨rb, ro, none⟩) l.length c b ls.length d pt rs rb (ro + z * 8) rz xb r0 := ⟨cfi, hcz, hkb⟩
          have HP := Lib.hid (Pick_any r0.ad rz.ba r0.cp rz.bc r0.ps rz.bys wi.drew (HPA.out.below bwi.drew (Nat.le_refl _)) (fun hn => by obtain ⟨sb, so, e, -, h⟩ := hsz hn; exact ⟨sb, so, e, h⟩) (by have := HLI.out.1; omega) hbyl _ rfl _ rfl)
          have HZ2 := Lib.hid (And.intro (hFI.below hd) (And.intro hkb (And.intro (row_onD hrw) (And.intro hS0 bwi.drew))))
          clear hFI hkb hrw hd hS0 bwi cfi hcz hsz hbyl HFI HRI hrb hgW
          go_wp2_with fail
          obtain ⟨hFd, hkb, hrw, hS0, bwd⟩ := HZ2.out
          clear HZ2
          refine wp_region_any (by kernel_rfl) ?_
          change wpAny _ _ _ _ _ _ _ (World.drew _)
          have hS : (fun w' : World => S11 w' w.heap.size (some ⟨rb, ro, none⟩) l.length c b ls.length d pt rs rb (ro + z * 8) rz xb r0) wi.drew := hS0
          refine wpAny_of_held (S := fun w' => S11 w' w.heap.size (some ⟨rb, ro, none⟩) l.length c b ls.length d pt rs rb (ro + z * 8) rz xb r0) _ _ _ _ ?_
          refine wpAnyH_takeA (i := 0) (some 37) (v := ?_) rfl rfl (by as_aux_lemma => kernel_rfl) (by as_aux_lemma => kernel_rfl) (by as_aux_lemma => kernel_rfl) (fun _ _ _ h => h) (Or.inl ⟨by kernel_rfl, ?_⟩) hS ?_
          rotate_left
          · intro w hSw; have c0 := hSw.1.x0; have c1 := hSw.2.1 3 _ rfl; obtain ⟨c2, c3, c4, c5⟩ := hSw.2.2.cell; go_simp
            first | done | with_reducible rfl
          refine wpAnyH_takeA (i := 1) (some 38) (v := ?_) rfl rfl (by as_aux_lemma => kernel_rfl) (by as_aux_lemma => kernel_rfl) (by as_aux_lemma => kernel_rfl) (fun _ _ _ h => h) (Or.inl ⟨by kernel_rfl, ?_⟩) hS ?_
          rotate_left
          · intro w hSw; have c0 := hSw.1.x0; have c1 := hSw.2.1 3 _ rfl; obtain ⟨c2, c3, c4, c5⟩ := hSw.2.2.cell; go_simp
            first | done | with_reducible rfl
          refine wpAnyH_takeA (i := 2) (some 39) (v := ?_) rfl rfl (by as_aux_lemma => kernel_rfl) (by as_aux_lemma => kernel_rfl) (by as_aux_lemma => kernel_rfl) (fun _ _ _ h => h) (Or.inl ⟨by kernel_rfl, ?_⟩) hS ?_
          rotate_left
          · intro w hSw; have c0 := hSw.1.x0; have c1 := hSw.2.1 3 _ rfl; obtain ⟨c2, c3, c4, c5⟩ := hSw.2.2.cell; go_simp
            first | done | with_reducible rfl
          refine wpAnyH_takeA (i := 3) (some 40) (v := ?_) rfl rfl (by as_aux_lemma => kernel_rfl) (by as_aux_lemma => kernel_rfl) (by as_aux_lemma => kernel_rfl) (fun _ _ _ h => h) (Or.inl ⟨by kernel_rfl, ?_⟩) hS ?_
          rotate_left
          · intro w hSw; have c0 := hSw.1.x0; have c1 := hSw.2.1 3 _ rfl; obtain ⟨c2, c3, c4, c5⟩ := hSw.2.2.cell; go_simp
            first | done | with_reducible rfl
          refine wpAnyH_takeA (i := 4) (some 41) (v := ?_) rfl rfl (by as_aux_lemma => kernel_rfl) (by as_aux_lemma => kernel_rfl) (by as_aux_lemma => kernel_rfl) (fun _ _ _ h => h) (Or.inl ⟨by kernel_rfl, ?_⟩) hS ?_
          rotate_left
          · intro w hSw; have c0 := hSw.1.x0; have c1 := hSw.2.1 3 _ rfl; obtain ⟨c2, c3, c4, c5⟩ := hSw.2.2.cell; go_simp
            first | done | with_reducible rfl
          refine wpAnyH_takeA (i := 5) (some 42) (v := ?_) rfl rfl (by as_aux_lemma => kernel_rfl) (by as_aux_lemma => kernel_rfl) (by as_aux_lemma => kernel_rfl) (fun _ _ _ h => h) (Or.inl ⟨by kernel_rfl, ?_⟩) hS ?_
          rotate_left
          · intro w hSw; have c0 := hSw.1.x0; have c1 := hSw.2.1 3 _ rfl; obtain ⟨c2, c3, c4, c5⟩ := hSw.2.2.cell; go_simp
            first | done | with_reducible rfl
          refine wpAnyH_takeA (i := 6) (some 43) (v := ?_) rfl rfl (by as_aux_lemma => kernel_rfl) (by as_aux_lemma => kernel_rfl) (by as_aux_lemma => kernel_rfl) (fun _ _ _ h => h) (Or.inl ⟨by kernel_rfl, ?_⟩) hS ?_
          rotate_left
          · intro w hSw; have c0 := hSw.1.x0; have c1 := hSw.2.1 3 _ rfl; obtain ⟨c2, c3, c4, c5⟩ := hSw.2.2.cell; go_simp
            first | done | with_reducible rfl
          refine wpAnyH_takeA (i := 7) (some 44) (v := ?_) rfl rfl (by as_aux_lemma => kernel_rfl) (by as_aux_lemma => kernel_rfl) (by as_aux_lemma => kernel_rfl) (fun _ _ _ h => h) (Or.inl ⟨by kernel_rfl, ?_⟩) hS ?_
          rotate_left
          · intro w hSw; have c0 := hSw.1.x0; have c1 := hSw.2.1 3 _ rfl; obtain ⟨c2, c3, c4, c5⟩ := hSw.2.2.cell; go_simp
            first | done | with_reducible rfl
          refine wpAnyH_takeA (i := 8) (some 45) (v := ?_) rfl rfl (by as_aux_lemma => kernel_rfl) (by as_aux_lemma => kernel_rfl) (by as_aux_lemma => kernel_rfl) (fun _ _ _ h => h) (Or.inl ⟨by kernel_rfl, ?_⟩) hS ?_
          rotate_left
          · intro w hSw; have c0 := hSw.1.x0; have c1 := hSw.2.1 3 _ rfl; obtain ⟨c2, c3, c4, c5⟩ := hSw.2.2.cell; go_simp
            first | done | with_reducible rfl
          refine wpAnyH_ready (rs := [9]) (by as_aux_lemma => kernel_rfl) (by simp) ?_
          refine AllReadyH.cons rfl (fun K hK => ?_) AllReadyH.nil
          go_simp
          go_wp2_with (go_at_call 16; refine HP.out.mono ?_; rintro e w4 ⟨aP, cP, rfl, hoP, hb4⟩)
          refine hK.out _ _ ?_ (fun hS => ?_)
          · exact S11.below hS hb4
          clear hK K
          refine wpAnyH_takeA (i := 10) (some 11) (v := ?_) rfl rfl (by as_aux_lemma => kernel_rfl) (by as_aux_lemma => kernel_rfl) (by as_aux_lemma => kernel_rfl) (fun _ _ _ h => h) (Or.inl ⟨by kernel_rfl, ?_⟩) hS ?_
          rotate_left
          · intro w hSw; skip; go_simp
            first | done | with_reducible rfl
          refine wpAnyH_done (by kernel_rfl) ?_ _
          have hF4 := hFd.below hb4
          have kb4 := hkb.below (hd_drew wi |>.trans hb4) (ltA hkb)
          have rw4 := onB_row hrw hb4 (Nat.le_refl _)
          have bw4 := bwd.trans (hb4.mono bwd.size)
          obtain ⟨hp10, hp100⟩ := pick_light HLI.out rz.bys
          obtain ⟨hq1, hq2⟩ := flatQs z (by omega) (pickL r0.ps rz.bys) hp10 hp100
          have HKy := Lib.hid (gKey_any (z : Int) (by omega) (by omega) aP cP (pickL r0.ps rz.bys) w.heap.size w4 (OwnP.at hoP) (by omega) (fun p hp => by have := hp100 p hp; omega) (by omega) bw4.size (HV.out w4 bw4).1 _ rfl)
          have HZ3 := Lib.hid (And.intro hF4 (And.intro kb4 (And.intro rw4 (And.intro bw4 hoP))))
          have HST : Hid (stepS l (Rw.sh r0) (I.map Gm.sh) z = putS z (pickL r0.ps rz.bys) (Rw.sh r0) (I.map Gm.sh)) := Lib.hid (by unfold stepS; rw [HBz.out]; rfl)
          have HP10 := Lib.hid (And.intro hp10 hp100)
          have hBo : w2.heap.size ≤ wi.heap.size := by have := hFd.far.size; exact this
          generalize pickL r0.ps rz.bys = lb at *
          generalize hkkE : (gKeyL (z : Int) lb) = kk at *
          have HKK := Lib.hid hkkE
          clear hkkE hFd hkb hrw hS hb4 hF4 kb4 rw4 bw4 hoP bwd hS0 HP hp10 hp100
          go_wp2_with (go_at_call 14; refine HKy.out.mono ?_; rintro e w5 ⟨rfl, hb5⟩; refine Hid.out ?_)
          refine Lib.hid ?_
          obtain ⟨hF4, kb4, rw4, bw4, hoP⟩ := HZ3.out
          have hF5 := hF4.below hb5
          have kb5 := kb4.below hb5 (ltA kb4)
          have rw5 := onB_row rw4 hb5 (Nat.le_refl _)
          have hoP5 : OwnP w5 w2.heap.size (.slice aP lb.length cP) lb := baseA (onB_row hoP hb5 (Nat.le_refl _)) hBo
          have hklen : kk.length ≤ maxLen := by unfold maxLen; omega
          have hwc2 : wc.heap.size ≤ w2.heap.size := by omega
          have HAI : Hid (∀ g ∈ I, g.al.length ≤ 9000) := Lib.hid fun g hg => by
            have h1 := totS_mem (List.mem_map_of_mem (f := Gm.sh) hg)
            have h2 := HTI.out
            have h3 : g.sh.al.length = g.al.length := by simp [Gm.sh]
            omega
          clear hF4 kb4 rw4 bw4 hoP hb5 HKy HZ3 HTI
          by_cases hin : kk ∈ I.map Gm.key
          · obtain ⟨p, hpm, hpe⟩ := List.getElem_of_mem hin
            have hp : p < I.length := by simpa using hpm
            have hlk := hF5.mp.look_yes p hpm hpe hklen
            obtain ⟨gq, rfl, hNQ⟩ := hF5.inv.own.some (by omega)
            have HRes : Hid (∀ (r : Rw) (a' : Option Addr) (c' : Nat), r.sh = r0.sh → (I.set p (I[p].put (I[p].al ++ [r]) a' c')).map Gm.sh = (Wl.take (m + 1)).foldl (stepS l (Rw.sh r0)) (G.map Gm.sh)) := Lib.hid fun r a' c' er => by
              rw [HM.out, HST.out, ← er]
              refine sh_hit I z lb p hp (by rw [HKK.out, ← hpe, List.getElem_map]) (fun j hj hjl e => ?_) r a' c'
              have := hF5.mp.first (i := j) (j := p) (by simpa using hjl) hpm (by rw [hpe, List.getElem_map, e, HKK.out])
              omega
            have hall : I[p].al.length + 1 ≤ 1000000 := by have := HAI.out I[p] (List.getElem_mem hp); omega
            have HFq := Lib.hid hF5
            have HKq := Lib.hid (And.intro kb5 rw5)
            clear hF5 kb5 rw5 hoP5 hpe
            have hFq := HFq.out
            obtain ⟨hkq, hrq⟩ := HKq.out
            obtain ⟨hgq, hgB, hcq, hfq⟩ := hFq.inv.own.slot p hp
            have hpn : (p : Int) < (nI : Int) := by omega
            have bwq : Below w.heap.size w w5 := hA.trans (hFq.bel.mono (by omega))
            have HO := Lib.hid (gOwn_any r0.ad r0.cp r0.ps r0.st r0.en w5.drew (HPA.out.below bwq.drew (Nat.le_refl _)) (by have := HLI.out.1; omega) _ rfl)
            have HQ := Lib.hid (And.intro hFq (And.intro hkq (And.intro hrq hcq)))
            have HNQ := Lib.hid hNQ
            try clear hnE
            try clear hNI
            clear hFq hkq hrq hgB hfq bwq HFq HKq hNQ
            go_wp2_with fail
            obtain ⟨hFq, hkq, hrq, hcq⟩ := HQ.out
            have hcd : w5.drew.cell? ⟨gq, p * 4 + 3, none⟩ = some (.slice I[p].aa I[p].al.length I[p].ac) := hcq
            clear HQ
            refine wp_region_any (by kernel_rfl) ?_
            change wpAny _ _ _ _ _ _ _ (World.drew _)
            have hS : (fun w' : World => KdBlk w' xb r0) w5.drew := hkq
            refine wpAny_of_held (S := fun w' => KdBlk w' xb r0) _ _ _ _ ?_
            refine wpAnyH_takeA (i := 0) (some 70) (v := ?_) rfl rfl (by as_aux_lemma => kernel_rfl) (by as_aux_lemma => kernel_rfl) (by as_aux_lemma => kernel_rfl) (fun _ _ _ h => h) (Or.inl ⟨by kernel_rfl, ?_⟩) hS ?_
            rotate_left
            · intro w hSw; obtain ⟨c2, c3, c4, c5⟩ := hSw.cell; go_simp
              first | done | with_reducible rfl
            refine wpAnyH_takeA (i := 1) (some 71) (v := ?_) rfl rfl (by as_aux_lemma => kernel_rfl) (by as_aux_lemma => kernel_rfl) (by as_aux_lemma => kernel_rfl) (fun _ _ _ h => h) (Or.inl ⟨by kernel_rfl, ?_⟩) hS ?_
            rotate_left
            · intro w hSw; obtain ⟨c2, c3, c4, c5⟩ := hSw.cell; go_simp
              first | done | with_reducible rfl
            refine wpAnyH_takeA (i := 2) (some 72) (v := ?_) rfl rfl (by as_aux_lemma => kernel_rfl) (by as_aux_lemma => kernel_rfl) (by as_aux_lemma => kernel_rfl) (fun _ _ _ h => h) (Or.inl ⟨by kernel_rfl, ?_⟩) hS ?_
            rotate_left
            · intro w hSw; obtain ⟨c2, c3, c4, c5⟩ := hSw.cell; go_simp
              first | done | with_reducible rfl
            refine wpAnyH_takeA (i := 3) (some 73) (v := ?_) rfl rfl (by as_aux_lemma => kernel_rfl) (by as_aux_lemma => kernel_rfl) (by as_aux_lemma => kernel_rfl) (fun _ _ _ h => h) (Or.inl ⟨by kernel_rfl, ?_⟩) hS ?_
            rotate_left
            · intro w hSw; obtain ⟨c2, c3, c4, c5⟩ := hSw.cell; go_simp
              first | done | with_reducible rfl
            refine wpAnyH_takeA (i := 4) (some 74) (v := ?_) rfl rfl (by as_aux_lemma => kernel_rfl) (by as_aux_lemma => kernel_rfl) (by as_aux_lemma => kernel_rfl) (fun _ _ _ h => h) (Or.inl ⟨by kernel_rfl, ?_⟩) hS ?_
            rotate_left
            · intro w hSw; obtain ⟨c2, c3, c4, c5⟩ := hSw.cell; go_simp
              first | done | with_reducible rfl
            refine wpAnyH_takeA (i := 5) (some 75) (v := ?_) rfl rfl (by as_aux_lemma => kernel_rfl) (by as_aux_lemma => kernel_rfl) (by as_aux_lemma => kernel_rfl) (fun _ _ _ h => h) (Or.inl ⟨by kernel_rfl, ?_⟩) hS ?_
            rotate_left
            · intro w hSw; obtain ⟨c2, c3, c4, c5⟩ := hSw.cell; go_simp
              first | done | with_reducible rfl
            refine wpAnyH_takeA (i := 7) (some 77) (v := ?_) rfl rfl (by as_aux_lemma => kernel_rfl) (by as_aux_lemma => kernel_rfl) (by as_aux_lemma => kernel_rfl) (fun _ _ _ h => h) (Or.inl ⟨by kernel_rfl, ?_⟩) hS ?_
            rotate_left
            · intro w hSw; obtain ⟨c2, c3, c4, c5⟩ := hSw.cell; go_simp
              first | done | with_reducible rfl
            refine wpAnyH_takeA (i := 8) (some 78) (v := ?_) rfl rfl (by as_aux_lemma => kernel_rfl) (by as_aux_lemma => kernel_rfl) (by as_aux_lemma => kernel_rfl) (fun _ _ _ h => h) (Or.inl ⟨by kernel_rfl, ?_⟩) hS ?_
            rotate_left
            · intro w hSw; obtain ⟨c2, c3, c4, c5⟩ := hSw.cell; go_simp
              first | done | with_reducible rfl
            refine wpAnyH_ready (rs := [6, 9]) (by as_aux_lemma => kernel_rfl) (by simp) ?_
            refine AllReadyH.cons rfl (fun K hK => ?_) (AllReadyH.cons rfl (fun K hK => ?_) AllReadyH.nil)
            · skip
              go_simp
              go_wp2_with (fail)
              refine hK.out _ _ ?_ (fun hS => ?_)
              · exact hS
              clear hK K
              refine wpAnyH_ready (rs := [9]) (by as_aux_lemma => kernel_rfl) (by simp) ?_
              refine AllReadyH.cons rfl (fun K hK => ?_) AllReadyH.nil
              go_simp
              go_wp2_with (go_at_call 23; refine HO.out.mono ?_; rintro e w6 ⟨aO, cO, rfl, hown, hb6⟩)
              refine hK.out _ _ ?_ (fun hS => ?_)
              · exact KdBlk.below hS hb6 (ltA hS)
              clear hK K
              refine wpAnyH_ready (rs := [10]) (by as_aux_lemma => kernel_rfl) (by simp) ?_
              refine AllReadyH.cons rfl (fun K hK => ?_) AllReadyH.nil
              go_simp
              go_wp2_with (fail)
              refine hK.out _ _ ?_ (fun hS => ?_)
              · exact KdBlk.below hS ((Below.refl w6.heap.size w6).alloc (Nat.le_refl _) _) (ltA hS)
              clear hK K
              have d7 := (Below.refl w6.heap.size w6).alloc (Nat.le_refl _) (.cells #[.slice aO r0.ps.length cO, .int .i64 r0.st, .int .i64 r0.en] 42)
              have b67 : Below w5.heap.size w5 (w6.alloc (.cells #[.slice aO r0.ps.length cO, .int .i64 r0.st, .int .i64 r0.en] 42)) := ((hd_drew w5).trans hb6).trans (d7.mono (by have := hb6.size; exact this))
              have hF7 := hFq.below b67
              have hr7 := onB_row hrq b67 (Nat.le_refl _)
              have hx7 : AlsAt (w6.alloc (.cells #[.slice aO r0.ps.length cO, .int .i64 r0.st, .int .i64 r0.en] 42)) (some ⟨w6.heap.size, 0, none⟩) [(⟨r0.ps, r0.st, r0.en, aO, cO⟩ : Rw)] := alsAt_one w6 ⟨r0.ps, r0.st, r0.en, aO, cO⟩ (OwnP.at (onB_row hown d7 (Nat.le_refl _)))
              have hals7 := hF7.inv.als I[p] (List.getElem_mem hp)
              have hw27 : w2.heap.size ≤ (w6.alloc (.cells #[.slice aO r0.ps.length cO, .int .i64 r0.st, .int .i64 r0.en] 42)).heap.size := hF7.far.size
              have hxo : OwnP (w6.alloc (.cells #[.slice aO r0.ps.length cO, .int .i64 r0.st, .int .i64 r0.en] 42)) w2.heap.size (.slice aO r0.ps.length cO) r0.ps := baseA (onB_row hown d7 (Nat.le_refl _)) (show w2.heap.size ≤ w5.heap.size from hFq.far.size)
              refine wpAnyH_ready (rs := [11]) (by as_aux_lemma => kernel_rfl) (by simp) ?_
              refine AllReadyH.cons rfl (fun K hK => ?_) AllReadyH.nil
              refine step_append_al rfl _ _ rfl w2.heap.size I[p].aa I[p].al.length I[p].ac I[p].al (by kernel_rfl) hals7 w6.heap.size ⟨r0.ps, r0.st, r0.en, aO, cO⟩ (by kernel_rfl) hx7 hall hw27 ?_
              intro a8 c8 w8 own8 g8 hn8
              refine hK.out _ _ (KdBlk.past hS hals7 (by decide) g8) (fun hS => ?_)
              clear hK K
              have hF9 := hF7.filled hbm hwc2 hp (x := ⟨r0.ps, r0.st, r0.en, aO, cO⟩) hxo own8 g8 hn8
              have own8g : OwnG w8 w2.heap.size (.slice (some ⟨gq, 0, none⟩) nI cI) I := past_row hF7.inv.own hals7 (by decide) g8
              obtain ⟨-, -, hc8, hf8⟩ := own8g.slot p hp
              have own8n : OwnG w8 w2.heap.size (.slice (some ⟨gq, 0, none⟩) I.length cI) I := by rw [← HNQ.out]; exact own8g
              have gs := (World.ownsRow.stored own8n (p * 4 + 3) (.slice a8 (I[p].al.length + 1) c8)).2
              have hr9 := past_row (past_row hr7 hals7 (by decide) g8) own8n (by decide) gs
              have hk9 := KdBlk.past hS own8n (by decide) gs
              have HF9 := Lib.hid hF9
              have HK9 := Lib.hid (And.intro hk9 hr9)
              have HR9 := Lib.hid (HRes.out ⟨r0.ps, r0.st, r0.en, aO, cO⟩ a8 c8 rfl)
              clear hF9 own8g own8n gs hr9 hF7 hr7 hx7 hals7 hxo own8 g8 hn8 hown hb6 d7 b67 hFq hkq hrq hcq hcd
              refine wpAnyH_takeA (i := 12) (some 82) (v := ?_) rfl rfl (by as_aux_lemma => kernel_rfl) (by as_aux_lemma => kernel_rfl) (by as_aux_lemma => kernel_rfl) (fun _ _ _ h => h) (Or.inl ⟨by kernel_rfl, ?_⟩) hS ?_
              rotate_left
              · intro w hSw; obtain ⟨c2, c3, c4, c5⟩ := hSw.cell; go_simp
                first | done | with_reducible rfl
              refine wpAnyH_takeA (i := 13) (some 83) (v := ?_) rfl rfl (by as_aux_lemma => kernel_rfl) (by as_aux_lemma => kernel_rfl) (by as_aux_lemma => kernel_rfl) (fun _ _ _ h => h) (Or.inl ⟨by kernel_rfl, ?_⟩) hS ?_
              rotate_left
              · intro w hSw; obtain ⟨c2, c3, c4, c5⟩ := hSw.cell; go_simp
                first | done | with_reducible rfl
              refine wpAnyH_ready (rs := [14]) (by as_aux_lemma => kernel_rfl) (by simp) ?_
              refine AllReadyH.cons rfl (fun K hK => ?_) AllReadyH.nil
              go_simp
              go_wp2_with fail
              refine hK.out _ _ ?_ (fun hS => ?_)
              · exact hk9
              clear hK K
              refine wpAnyH_done (by kernel_rfl) ?_ _
              go_wp2
              go_round
              case rel => exact ⟨m + 1, some ⟨gq, 0, none⟩, nI, cI, I.set p (I[p].put (I[p].al ++ [⟨r0.ps, r0.st, r0.en, aO, cO⟩]) a8 c8), by omega, by go_num, rfl, Lib.hid (by rw [List.length_set]; exact HNQ.out), HF9, HR9, HK9⟩
              case measure => simp [intOf]; omega
            · skip
              go_simp
              go_wp2_with (go_at_call 23; refine HO.out.mono ?_; rintro e w6 ⟨aO, cO, rfl, hown, hb6⟩)
              refine hK.out _ _ ?_ (fun hS => ?_)
              · exact KdBlk.below hS hb6 (ltA hS)
              clear hK K
              have hc6 : w6.cell? ⟨gq, p * 4 + 3, none⟩ = some (.slice I[p].aa I[p].al.length I[p].ac) := (hb6.cell (p := ⟨gq, p * 4 + 3, none⟩) hgq).trans hcd
              refine wpAnyH_ready (rs := [6, 10]) (by as_aux_lemma => kernel_rfl) (by simp) ?_
              refine AllReadyH.cons rfl (fun K hK => ?_) (AllReadyH.cons rfl (fun K hK => ?_) AllReadyH.nil)
              · skip
                go_simp
                go_wp2_with (fail)
                refine hK.out _ _ ?_ (fun hS => ?_)
                · exact hS
                clear hK K
                refine wpAnyH_ready (rs := [10]) (by as_aux_lemma => kernel_rfl) (by simp) ?_
                refine AllReadyH.cons rfl (fun K hK => ?_) AllReadyH.nil
                go_simp
                go_wp2_with (fail)
                refine hK.out _ _ ?_ (fun hS => ?_)
                · exact KdBlk.below hS ((Below.refl w6.heap.size w6).alloc (Nat.le_refl _) _) (ltA hS)
                clear hK K
                have d7 := (Below.refl w6.heap.size w6).alloc (Nat.le_refl _) (.cells #[.slice aO r0.ps.length cO, .int .i64 r0.st, .int .i64 r0.en] 42)
                have b67 : Below w5.heap.size w5 (w6.alloc (.cells #[.slice aO r0.ps.length cO, .int .i64 r0.st, .int .i64 r0.en] 42)) := ((hd_drew w5).trans hb6).trans (d7.mono (by have := hb6.size; exact this))
                have hF7 := hFq.below b67
                have hr7 := onB_row hrq b67 (Nat.le_refl _)
                have hx7 : AlsAt (w6.alloc (.cells #[.slice aO r0.ps.length cO, .int .i64 r0.st, .int .i64 r0.en] 42)) (some ⟨w6.heap.size, 0, none⟩) [(⟨r0.ps, r0.st, r0.en, aO, cO⟩ : Rw)] := alsAt_one w6 ⟨r0.ps, r0.st, r0.en, aO, cO⟩ (OwnP.at (onB_row hown d7 (Nat.le_refl _)))
                have hals7 := hF7.inv.als I[p] (List.getElem_mem hp)
                have hw27 : w2.heap.size ≤ (w6.alloc (.cells #[.slice aO r0.ps.length cO, .int .i64 r0.st, .int .i64 r0.en] 42)).heap.size := hF7.far.size
                have hxo : OwnP (w6.alloc (.cells #[.slice aO r0.ps.length cO, .int .i64 r0.st, .int .i64 r0.en] 42)) w2.heap.size (.slice aO r0.ps.length cO) r0.ps := baseA (onB_row hown d7 (Nat.le_refl _)) (show w2.heap.size ≤ w5.heap.size from hFq.far.size)
                refine wpAnyH_ready (rs := [11]) (by as_aux_lemma => kernel_rfl) (by simp) ?_
                refine AllReadyH.cons rfl (fun K hK => ?_) AllReadyH.nil
                refine step_append_al rfl _ _ rfl w2.heap.size I[p].aa I[p].al.length I[p].ac I[p].al (by kernel_rfl) hals7 w6.heap.size ⟨r0.ps, r0.st, r0.en, aO, cO⟩ (by kernel_rfl) hx7 hall hw27 ?_
                intro a8 c8 w8 own8 g8 hn8
                refine hK.out _ _ (KdBlk.past hS hals7 (by decide) g8) (fun hS => ?_)
                clear hK K
                have hF9 := hF7.filled hbm hwc2 hp (x := ⟨r0.ps, r0.st, r0.en, aO, cO⟩) hxo own8 g8 hn8
                have own8g : OwnG w8 w2.heap.size (.slice (some ⟨gq, 0, none⟩) nI cI) I := past_row hF7.inv.own hals7 (by decide) g8
                obtain ⟨-, -, hc8, hf8⟩ := own8g.slot p hp
                have own8n : OwnG w8 w2.heap.size (.slice (some ⟨gq, 0, none⟩) I.length cI) I := by rw [← HNQ.out]; exact own8g
                have gs := (World.ownsRow.stored own8n (p * 4 + 3) (.slice a8 (I[p].al.length + 1) c8)).2
                have hr9 := past_row (past_row hr7 hals7 (by decide) g8) own8n (by decide) gs
                have hk9 := KdBlk.past hS own8n (by decide) gs
                have HF9 := Lib.hid hF9
                have HK9 := Lib.hid (And.intro hk9 hr9)
                have HR9 := Lib.hid (HRes.out ⟨r0.ps, r0.st, r0.en, aO, cO⟩ a8 c8 rfl)
                clear hF9 own8g own8n gs hr9 hF7 hr7 hx7 hals7 hxo own8 g8 hn8 hown hb6 d7 b67 hFq hkq hrq hcq hcd
                refine wpAnyH_takeA (i := 12) (some 82) (v := ?_) rfl rfl (by as_aux_lemma => kernel_rfl) (by as_aux_lemma => kernel_rfl) (by as_aux_lemma => kernel_rfl) (fun _ _ _ h => h) (Or.inl ⟨by kernel_rfl, ?_⟩) hS ?_
                rotate_left
                · intro w hSw; obtain ⟨c2, c3, c4, c5⟩ := hSw.cell; go_simp
                  first | done | with_reducible rfl
                refine wpAnyH_takeA (i := 13) (some 83) (v := ?_) rfl rfl (by as_aux_lemma => kernel_rfl) (by as_aux_lemma => kernel_rfl) (by as_aux_lemma => kernel_rfl) (fun _ _ _ h => h) (Or.inl ⟨by kernel_rfl, ?_⟩) hS ?_
                rotate_left
                · intro w hSw; obtain ⟨c2, c3, c4, c5⟩ := hSw.cell; go_simp
                  first | done | with_reducible rfl
                refine wpAnyH_ready (rs := [14]) (by as_aux_lemma => kernel_rfl) (by simp) ?_
                refine AllReadyH.cons rfl (fun K hK => ?_) AllReadyH.nil
                go_simp
                go_wp2_with fail
                refine hK.out _ _ ?_ (fun hS => ?_)
                · exact hk9
                clear hK K
                refine wpAnyH_done (by kernel_rfl) ?_ _
                go_wp2
                go_round
                case rel => exact ⟨m + 1, some ⟨gq, 0, none⟩, nI, cI, I.set p (I[p].put (I[p].al ++ [⟨r0.ps, r0.st, r0.en, aO, cO⟩]) a8 c8), by omega, by go_num, rfl, Lib.hid (by rw [List.length_set]; exact HNQ.out), HF9, HR9, HK9⟩
                case measure => simp [intOf]; omega
              · skip
                go_simp
                go_wp2_with (fail)
                refine hK.out _ _ ?_ (fun hS => ?_)
                · exact KdBlk.below hS ((Below.refl w6.heap.size w6).alloc (Nat.le_refl _) _) (ltA hS)
                clear hK K
                have hc7 : (w6.alloc (.cells #[.slice aO r0.ps.length cO, .int .i64 r0.st, .int .i64 r0.en] 42)).cell? ⟨gq, p * 4 + 3, none⟩ = some (.slice I[p].aa I[p].al.length I[p].ac) := (((Below.refl w6.heap.size w6).alloc (Nat.le_refl _) (.cells #[.slice aO r0.ps.length cO, .int .i64 r0.st, .int .i64 r0.en] 42)).cell (p := ⟨gq, p * 4 + 3, none⟩) (Nat.lt_of_lt_of_le hgq hb6.size)).trans hc6
                refine wpAnyH_ready (rs := [6]) (by as_aux_lemma => kernel_rfl) (by simp) ?_
                refine AllReadyH.cons rfl (fun K hK => ?_) AllReadyH.nil
                go_simp
                go_wp2_with (fail)
                refine hK.out _ _ ?_ (fun hS => ?_)
                · exact hS
                clear hK K
                have d7 := (Below.refl w6.heap.size w6).alloc (Nat.le_refl _) (.cells #[.slice aO r0.ps.length cO, .int .i64 r0.st, .int .i64 r0.en] 42)
                have b67 : Below w5.heap.size w5 (w6.alloc (.cells #[.slice aO r0.ps.length cO, .int .i64 r0.st, .int .i64 r0.en] 42)) := ((hd_drew w5).trans hb6).trans (d7.mono (by have := hb6.size; exact this))
                have hF7 := hFq.below b67
                have hr7 := onB_row hrq b67 (Nat.le_refl _)
                have hx7 : AlsAt (w6.alloc (.cells #[.slice aO r0.ps.length cO, .int .i64 r0.st, .int .i64 r0.en] 42)) (some ⟨w6.heap.size, 0, none⟩) [(⟨r0.ps, r0.st, r0.en, aO, cO⟩ : Rw)] := alsAt_one w6 ⟨r0.ps, r0.st, r0.en, aO, cO⟩ (OwnP.at (onB_row hown d7 (Nat.le_refl _)))
                have hals7 := hF7.inv.als I[p] (List.getElem_mem hp)
                have hw27 : w2.heap.size ≤ (w6.alloc (.cells #[.slice aO r0.ps.length cO, .int .i64 r0.st, .int .i64 r0.en] 42)).heap.size := hF7.far.size
                have hxo : OwnP (w6.alloc (.cells #[.slice aO r0.ps.length cO, .int .i64 r0.st, .int .i64 r0.en] 42)) w2.heap.size (.slice aO r0.ps.length cO) r0.ps := baseA (onB_row hown d7 (Nat.le_refl _)) (show w2.heap.size ≤ w5.heap.size from hFq.far.size)
                refine wpAnyH_ready (rs := [11]) (by as_aux_lemma => kernel_rfl) (by simp) ?_
                refine AllReadyH.cons rfl (fun K hK => ?_) AllReadyH.nil
                refine step_append_al rfl _ _ rfl w2.heap.size I[p].aa I[p].al.length I[p].ac I[p].al (by kernel_rfl) hals7 w6.heap.size ⟨r0.ps, r0.st, r0.en, aO, cO⟩ (by kernel_rfl) hx7 hall hw27 ?_
                intro a8 c8 w8 own8 g8 hn8
                refine hK.out _ _ (KdBlk.past hS hals7 (by decide) g8) (fun hS => ?_)
                clear hK K
                have hF9 := hF7.filled hbm hwc2 hp (x := ⟨r0.ps, r0.st, r0.en, aO, cO⟩) hxo own8 g8 hn8
                have own8g : OwnG w8 w2.heap.size (.slice (some ⟨gq, 0, none⟩) nI cI) I := past_row hF7.inv.own hals7 (by decide) g8
                obtain ⟨-, -, hc8, hf8⟩ := own8g.slot p hp
                have own8n : OwnG w8 w2.heap.size (.slice (some ⟨gq, 0, none⟩) I.length cI) I := by rw [← HNQ.out]; exact own8g
                have gs := (World.ownsRow.stored own8n (p * 4 + 3) (.slice a8 (I[p].al.length + 1) c8)).2
                have hr9 := past_row (past_row hr7 hals7 (by decide) g8) own8n (by decide) gs
                have hk9 := KdBlk.past hS own8n (by decide) gs
                have HF9 := Lib.hid hF9
                have HK9 := Lib.hid (And.intro hk9 hr9)
                have HR9 := Lib.hid (HRes.out ⟨r0.ps, r0.st, r0.en, aO, cO⟩ a8 c8 rfl)
                clear hF9 own8g own8n gs hr9 hF7 hr7 hx7 hals7 hxo own8 g8 hn8 hown hb6 d7 b67 hFq hkq hrq hcq hcd
                refine wpAnyH_takeA (i := 12) (some 82) (v := ?_) rfl rfl (by as_aux_lemma => kernel_rfl) (by as_aux_lemma => kernel_rfl) (by as_aux_lemma => kernel_rfl) (fun _ _ _ h => h) (Or.inl ⟨by kernel_rfl, ?_⟩) hS ?_
                rotate_left
                · intro w hSw; obtain ⟨c2, c3, c4, c5⟩ := hSw.cell; go_simp
                  first | done | with_reducible rfl
                refine wpAnyH_takeA (i := 13) (some 83) (v := ?_) rfl rfl (by as_aux_lemma => kernel_rfl) (by as_aux_lemma => kernel_rfl) (by as_aux_lemma => kernel_rfl) (fun _ _ _ h => h) (Or.inl ⟨by kernel_rfl, ?_⟩) hS ?_
                rotate_left
                · intro w hSw; obtain ⟨c2, c3, c4, c5⟩ := hSw.cell; go_simp
                  first | done | with_reducible rfl
                refine wpAnyH_ready (rs := [14]) (by as_aux_lemma => kernel_rfl) (by simp) ?_
                refine AllReadyH.cons rfl (fun K hK => ?_) AllReadyH.nil
                go_simp
                go_wp2_with fail
                refine hK.out _ _ ?_ (fun hS => ?_)
                · exact hk9
                clear hK K
                refine wpAnyH_done (by kernel_rfl) ?_ _
                go_wp2
                go_round
                case rel => exact ⟨m + 1, some ⟨gq, 0, none⟩, nI, cI, I.set p (I[p].put (I[p].al ++ [⟨r0.ps, r0.st, r0.en, aO, cO⟩]) a8 c8), by omega, by go_num, rfl, Lib.hid (by rw [List.length_set]; exact HNQ.out), HF9, HR9, HK9⟩
                case measure => simp [intOf]; omega
          · have hlk := hF5.mp.look_no hin hklen
            have hNI := HNI.out
            obtain ⟨w16, hput, mp6, g6⟩ := hF5.mp.store hin hklen (by rw [List.length_map, ← hNI]; omega)
            rw [List.length_map, ← hNI] at hput
            have inv6 := hF5.inv.mapped hF5.mp.map g6
            have kb6 := kb5.mapped hF5.mp.map g6
            have rw6 := row_mapped rw5 hF5.mp.map g6
            have hoP6 := row_mapped hoP5 hF5.mp.map g6
            have far6 := far_trans hF5.far g6 (fun x e => .inl (Option.some.inj e).symm)
            have bel6 := below_trans hF5.bel g6 hF5.bel.size (fun x e => by have := Option.some.inj e; omega)
            have d7 := (Below.refl w16.heap.size w16).alloc (Nat.le_refl _) (.cells #[.int .i64 z, .slice aP lb.length cP, .string ⟨kk.toArray⟩, .slice none 0 0] 44)
            have inv7 := inv6.below d7
            have kb7 := kb6.below d7 (ltA kb6)
            have rw7 := onB_row rw6 d7 (Nat.le_refl _)
            have hoP7 := onB_row hoP6 d7 (Nat.le_refl _)
            have n7 := newA w16 (.cells #[.int .i64 z, .slice aP lb.length cP, .string ⟨kk.toArray⟩, .slice none 0 0] 44)
            have c47 : C4 (w16.alloc (.cells #[.int .i64 z, .slice aP lb.length cP, .string ⟨kk.toArray⟩, .slice none 0 0] 44)) w16.heap.size ⟨z, lb, aP, cP, [], none, 0⟩ := ⟨cellA n7, cellA n7, (cellA n7).trans (by rw [← HKK.out]; rfl), cellA n7⟩
            have far7 := far_trans far6 (gOf d7 none) (fun x e => by cases e)
            have bel7 := bel6.trans (d7.mono bel6.size)
            have mp7 := mp6.kept (gOf d7 none) (by simp)
            have hl7 : I.length + 1 ≤ 1000000 := by omega
            have hB7 : w2.heap.size ≤ (w16.alloc (.cells #[.int .i64 z, .slice aP lb.length cP, .string ⟨kk.toArray⟩, .slice none 0 0] 44)).heap.size := far7.size
            have HZ7 := Lib.hid (And.intro inv7 (And.intro kb7 (And.intro rw7 (And.intro hoP7 (And.intro far7 (And.intro bel7 mp7))))))
            have HOW := Lib.hid (And.intro inv7.own (And.intro c47 (And.intro hl7 hB7)))
            have HNI2 := Lib.hid hNI
            clear inv6 kb6 rw6 hoP6 far6 bel6 d7 inv7 kb7 rw7 hoP7 n7 c47 far7 bel7 mp7 hF5 kb5 rw5 hoP5 mp6 g6 hl7 hB7 hNI
            go_wp2_with (at_builtin; refine wpList_append_grp _ rfl _ _ rfl w2.heap.size _ I rfl HOW.out.1 w16.heap.size ⟨z, lb, aP, cP, [], none, 0⟩ rfl HOW.out.2.1 HOW.out.2.2.1 HOW.out.2.2.2 ?_; refine Hid.out ?_)
            refine Lib.hid ?_
            intro v8 w18 own8 g8
            obtain ⟨inv7, kb7, rw7, hoP7, far7, bel7, mp7⟩ := HZ7.out
            have inv8 := inv7.more (g0 := ⟨z, lb, aP, cP, [], none, 0⟩) hoP7 rfl rfl rfl own8 g8
            have kb8 := kb7.past inv7.own (by decide) g8
            have rw8 := past_row rw7 inv7.own (by decide) g8
            have hr8 : ∀ x, (Value.slice aI nI cI).ownBlock = some x → w2.heap.size ≤ x := fun x e => (World.ownsRow.lt inv7.own x e).1
            have hNI := HNI2.out
            have hin' : gKeyL (z : Int) lb ∉ I.map Gm.key := by rw [HKK.out]; exact hin
            have ek : (I ++ [(⟨z, lb, aP, cP, [], none, 0⟩ : Gm)]).map Gm.key = I.map Gm.key ++ [kk] := by rw [List.map_append, ← HKK.out]; rfl
            have hF8 : Fill wc w2 w18 bm v8 (I ++ [⟨z, lb, aP, cP, [], none, 0⟩]) := ⟨inv8, by rw [ek]; exact mp7.kept g8 (fun e => by have := hr8 bm e.symm; omega), far_trans far7 g8 (fun x e => .inr (hr8 x e)), below_trans bel7 g8 bel7.size (fun x e => Nat.le_trans hwc2 (hr8 x e))⟩
            obtain ⟨aN, cN, rfl⟩ : ∃ aN cN, v8 = .slice aN (nI + 1) cN := by
              rcases own8.2 with ⟨-, h0⟩ | ⟨g', cap, cur, hv, -⟩
              · simp at h0
              · exact ⟨_, cap, by rw [hv, List.length_append, ← hNI]; rfl⟩
            obtain ⟨gq, rfl, hNQ⟩ := hF8.inv.own.some (by simp)
            have hpL : nI < (I ++ [(⟨z, lb, aP, cP, [], none, 0⟩ : Gm)]).length := by simp; omega
            have HRes : Hid (∀ (r : Rw) (a' : Option Addr) (c' : Nat), r.sh = r0.sh → ((I ++ [(⟨z, lb, aP, cP, [], none, 0⟩ : Gm)]).set nI ((I ++ [(⟨z, lb, aP, cP, [], none, 0⟩ : Gm)])[nI].put ((I ++ [(⟨z, lb, aP, cP, [], none, 0⟩ : Gm)])[nI].al ++ [r]) a' c')).map Gm.sh = (Wl.take (m + 1)).foldl (stepS l (Rw.sh r0)) (G.map Gm.sh)) := Lib.hid fun r a' c' er => by
              rw [HM.out, HST.out, ← er]
              subst hNI
              exact sh_miss I z lb _ rfl rfl rfl hin' hpL r a' c'
            have hall : (I ++ [(⟨z, lb, aP, cP, [], none, 0⟩ : Gm)])[nI].al.length + 1 ≤ 1000000 := by
              have h1 := List.getElem_mem hpL
              rcases List.mem_append.1 h1 with h1 | h1
              · have := HAI.out _ h1; omega
              · rw [List.mem_singleton.1 h1]; simp
            have HFq := Lib.hid hF8
            have HKq := Lib.hid (And.intro kb8 rw8)
            clear hF8 inv8 kb8 rw8 inv7 kb7 rw7 hoP7 far7 bel7 mp7 own8 g8 hr8 ek HZ7 HOW hin'
            generalize hQE : (I ++ [(⟨z, lb, aP, cP, [], none, 0⟩ : Gm)]) = Q at *
            clear hQE
            generalize hnE : nI + 1 = nQ at *
            have hp := hpL
            have hFq := HFq.out
            obtain ⟨hkq, hrq⟩ := HKq.out
            obtain ⟨hgq, hgB, hcq, hfq⟩ := hFq.inv.own.slot nI hp
            have hpn : (nI : Int) < (nQ : Int) := by omega
            have bwq : Below w.heap.size w w18 := hA.trans (hFq.bel.mono (by omega))
            have HO := Lib.hid (gOwn_any r0.ad r0.cp r0.ps r0.st r0.en w18.drew (HPA.out.below bwq.drew (Nat.le_refl _)) (by have := HLI.out.1; omega) _ rfl)
            have HQ := Lib.hid (And.intro hFq (And.intro hkq (And.intro hrq hcq)))
            have HNQ := Lib.hid hNQ
            try clear hnE
            try clear hNI
            clear hFq hkq hrq hgB hfq bwq HFq HKq hNQ
            go_wp2_with fail
            obtain ⟨hFq, hkq, hrq, hcq⟩ := HQ.out
            have hcd : w18.drew.cell? ⟨gq, nI * 4 + 3, none⟩ = some (.slice Q[nI].aa Q[nI].al.length Q[nI].ac) := hcq
            clear HQ
            refine wp_region_any (by kernel_rfl) ?_
            change wpAny _ _ _ _ _ _ _ (World.drew _)
            have hS : (fun w' : World => KdBlk w' xb r0) w18.drew := hkq
            refine wpAny_of_held (S := fun w' => KdBlk w' xb r0) _ _ _ _ ?_
            refine wpAnyH_takeA (i := 0) (some 70) (v := ?_) rfl rfl (by as_aux_lemma => kernel_rfl) (by as_aux_lemma => kernel_rfl) (by as_aux_lemma => kernel_rfl) (fun _ _ _ h => h) (Or.inl ⟨by kernel_rfl, ?_⟩) hS ?_
            rotate_left
            · intro w hSw; obtain ⟨c2, c3, c4, c5⟩ := hSw.cell; go_simp
              first | done | with_reducible rfl
            refine wpAnyH_takeA (i := 1) (some 71) (v := ?_) rfl rfl (by as_aux_lemma => kernel_rfl) (by as_aux_lemma => kernel_rfl) (by as_aux_lemma => kernel_rfl) (fun _ _ _ h => h) (Or.inl ⟨by kernel_rfl, ?_⟩) hS ?_
            rotate_left
            · intro w hSw; obtain ⟨c2, c3, c4, c5⟩ := hSw.cell; go_simp
              first | done | with_reducible rfl
            refine wpAnyH_takeA (i := 2) (some 72) (v := ?_) rfl rfl (by as_aux_lemma => kernel_rfl) (by as_aux_lemma => kernel_rfl) (by as_aux_lemma => kernel_rfl) (fun _ _ _ h => h) (Or.inl ⟨by kernel_rfl, ?_⟩) hS ?_
            rotate_left
            · intro w hSw; obtain ⟨c2, c3, c4, c5⟩ := hSw.cell; go_simp
              first | done | with_reducible rfl
            refine wpAnyH_takeA (i := 3) (some 73) (v := ?_) rfl rfl (by as_aux_lemma => kernel_rfl) (by as_aux_lemma => kernel_rfl) (by as_aux_lemma => kernel_rfl) (fun _ _ _ h => h) (Or.inl ⟨by kernel_rfl, ?_⟩) hS ?_
            rotate_left
            · intro w hSw; obtain ⟨c2, c3, c4, c5⟩ := hSw.cell; go_simp
              first | done | with_reducible rfl
            refine wpAnyH_takeA (i := 4) (some 74) (v := ?_) rfl rfl (by as_aux_lemma => kernel_rfl) (by as_aux_lemma => kernel_rfl) (by as_aux_lemma => kernel_rfl) (fun _ _ _ h => h) (Or.inl ⟨by kernel_rfl, ?_⟩) hS ?_
            rotate_left
            · intro w hSw; obtain ⟨c2, c3, c4, c5⟩ := hSw.cell; go_simp
              first | done | with_reducible rfl
            refine wpAnyH_takeA (i := 5) (some 75) (v := ?_) rfl rfl (by as_aux_lemma => kernel_rfl) (by as_aux_lemma => kernel_rfl) (by as_aux_lemma => kernel_rfl) (fun _ _ _ h => h) (Or.inl ⟨by kernel_rfl, ?_⟩) hS ?_
            rotate_left
            · intro w hSw; obtain ⟨c2, c3, c4, c5⟩ := hSw.cell; go_simp
              first | done | with_reducible rfl
            refine wpAnyH_takeA (i := 7) (some 77) (v := ?_) rfl rfl (by as_aux_lemma => kernel_rfl) (by as_aux_lemma => kernel_rfl) (by as_aux_lemma => kernel_rfl) (fun _ _ _ h => h) (Or.inl ⟨by kernel_rfl, ?_⟩) hS ?_
            rotate_left
            · intro w hSw; obtain ⟨c2, c3, c4, c5⟩ := hSw.cell; go_simp
              first | done | with_reducible rfl
            refine wpAnyH_takeA (i := 8) (some 78) (v := ?_) rfl rfl (by as_aux_lemma => kernel_rfl) (by as_aux_lemma => kernel_rfl) (by as_aux_lemma => kernel_rfl) (fun _ _ _ h => h) (Or.inl ⟨by kernel_rfl, ?_⟩) hS ?_
            rotate_left
            · intro w hSw; obtain ⟨c2, c3, c4, c5⟩ := hSw.cell; go_simp
              first | done | with_reducible rfl
            refine wpAnyH_ready (rs := [6, 9]) (by as_aux_lemma => kernel_rfl) (by simp) ?_
            refine AllReadyH.cons rfl (fun K hK => ?_) (AllReadyH.cons rfl (fun K hK => ?_) AllReadyH.nil)
            · skip
              go_simp
              go_wp2_with (fail)
              refine hK.out _ _ ?_ (fun hS => ?_)
              · exact hS
              clear hK K
              refine wpAnyH_ready (rs := [9]) (by as_aux_lemma => kernel_rfl) (by simp) ?_
              refine AllReadyH.cons rfl (fun K hK => ?_) AllReadyH.nil
              go_simp
              go_wp2_with (go_at_call 23; refine HO.out.mono ?_; rintro e w6 ⟨aO, cO, rfl, hown, hb6⟩)
              refine hK.out _ _ ?_ (fun hS => ?_)
              · exact KdBlk.below hS hb6 (ltA hS)
              clear hK K
              refine wpAnyH_ready (rs := [10]) (by as_aux_lemma => kernel_rfl) (by simp) ?_
              refine AllReadyH.cons rfl (fun K hK => ?_) AllReadyH.nil
              go_simp
              go_wp2_with (fail)
              refine hK.out _ _ ?_ (fun hS => ?_)
              · exact KdBlk.below hS ((Below.refl w6.heap.size w6).alloc (Nat.le_refl _) _) (ltA hS)
              clear hK K
              have d7 := (Below.refl w6.heap.size w6).alloc (Nat.le_refl _) (.cells #[.slice aO r0.ps.length cO, .int .i64 r0.st, .int .i64 r0.en] 42)
              have b67 : Below w18.heap.size w18 (w6.alloc (.cells #[.slice aO r0.ps.length cO, .int .i64 r0.st, .int .i64 r0.en] 42)) := ((hd_drew w18).trans hb6).trans (d7.mono (by have := hb6.size; exact this))
              have hF7 := hFq.below b67
              have hr7 := onB_row hrq b67 (Nat.le_refl _)
              have hx7 : AlsAt (w6.alloc (.cells #[.slice aO r0.ps.length cO, .int .i64 r0.st, .int .i64 r0.en] 42)) (some ⟨w6.heap.size, 0, none⟩) [(⟨r0.ps, r0.st, r0.en, aO, cO⟩ : Rw)] := alsAt_one w6 ⟨r0.ps, r0.st, r0.en, aO, cO⟩ (OwnP.at (onB_row hown d7 (Nat.le_refl _)))
              have hals7 := hF7.inv.als Q[nI] (List.getElem_mem hp)
              have hw27 : w2.heap.size ≤ (w6.alloc (.cells #[.slice aO r0.ps.length cO, .int .i64 r0.st, .int .i64 r0.en] 42)).heap.size := hF7.far.size
              have hxo : OwnP (w6.alloc (.cells #[.slice aO r0.ps.length cO, .int .i64 r0.st, .int .i64 r0.en] 42)) w2.heap.size (.slice aO r0.ps.length cO) r0.ps := baseA (onB_row hown d7 (Nat.le_refl _)) (show w2.heap.size ≤ w18.heap.size from hFq.far.size)
              refine wpAnyH_ready (rs := [11]) (by as_aux_lemma => kernel_rfl) (by simp) ?_
              refine AllReadyH.cons rfl (fun K hK => ?_) AllReadyH.nil
              refine step_append_al rfl _ _ rfl w2.heap.size Q[nI].aa Q[nI].al.length Q[nI].ac Q[nI].al (by kernel_rfl) hals7 w6.heap.size ⟨r0.ps, r0.st, r0.en, aO, cO⟩ (by kernel_rfl) hx7 hall hw27 ?_
              intro a8 c8 w8 own8 g8 hn8
              refine hK.out _ _ (KdBlk.past hS hals7 (by decide) g8) (fun hS => ?_)
              clear hK K
              have hF9 := hF7.filled hbm hwc2 hp (x := ⟨r0.ps, r0.st, r0.en, aO, cO⟩) hxo own8 g8 hn8
              have own8g : OwnG w8 w2.heap.size (.slice (some ⟨gq, 0, none⟩) nQ cN) Q := past_row hF7.inv.own hals7 (by decide) g8
              obtain ⟨-, -, hc8, hf8⟩ := own8g.slot nI hp
              have own8n : OwnG w8 w2.heap.size (.slice (some ⟨gq, 0, none⟩) Q.length cN) Q := by rw [← HNQ.out]; exact own8g
              have gs := (World.ownsRow.stored own8n (nI * 4 + 3) (.slice a8 (Q[nI].al.length + 1) c8)).2
              have hr9 := past_row (past_row hr7 hals7 (by decide) g8) own8n (by decide) gs
              have hk9 := KdBlk.past hS own8n (by decide) gs
              have HF9 := Lib.hid hF9
              have HK9 := Lib.hid (And.intro hk9 hr9)
              have HR9 := Lib.hid (HRes.out ⟨r0.ps, r0.st, r0.en, aO, cO⟩ a8 c8 rfl)
              clear hF9 own8g own8n gs hr9 hF7 hr7 hx7 hals7 hxo own8 g8 hn8 hown hb6 d7 b67 hFq hkq hrq hcq hcd
              refine wpAnyH_takeA (i := 12) (some 82) (v := ?_) rfl rfl (by as_aux_lemma => kernel_rfl) (by as_aux_lemma => kernel_rfl) (by as_aux_lemma => kernel_rfl) (fun _ _ _ h => h) (Or.inl ⟨by kernel_rfl, ?_⟩) hS ?_
              rotate_left
              · intro w hSw; obtain ⟨c2, c3, c4, c5⟩ := hSw.cell; go_simp
                first | done | with_reducible rfl
              refine wpAnyH_takeA (i := 13) (some 83) (v := ?_) rfl rfl (by as_aux_lemma => kernel_rfl) (by as_aux_lemma => kernel_rfl) (by as_aux_lemma => kernel_rfl) (fun _ _ _ h => h) (Or.inl ⟨by kernel_rfl, ?_⟩) hS ?_
              rotate_left
              · intro w hSw; obtain ⟨c2, c3, c4, c5⟩ := hSw.cell; go_simp
                first | done | with_reducible rfl
              refine wpAnyH_ready (rs := [14]) (by as_aux_lemma => kernel_rfl) (by simp) ?_
              refine AllReadyH.cons rfl (fun K hK => ?_) AllReadyH.nil
              go_simp
              go_wp2_with fail
              refine hK.out _ _ ?_ (fun hS => ?_)
              · exact hk9
              clear hK K
              refine wpAnyH_done (by kernel_rfl) ?_ _
              go_wp2
              go_round
              case rel => exact ⟨m + 1, some ⟨gq, 0, none⟩, nQ, cN, Q.set nI (Q[nI].put (Q[nI].al ++ [⟨r0.ps, r0.st, r0.en, aO, cO⟩]) a8 c8), by omega, by go_num, rfl, Lib.hid (by rw [List.length_set]; exact HNQ.out), HF9, HR9, HK9⟩
              case measure => simp [intOf]; omega
            · skip
              go_simp
              go_wp2_with (go_at_call 23; refine HO.out.mono ?_; rintro e w6 ⟨aO, cO, rfl, hown, hb6⟩)
              refine hK.out _ _ ?_ (fun hS => ?_)
              · exact KdBlk.below hS hb6 (ltA hS)
              clear hK K
              have hc6 : w6.cell? ⟨gq, nI * 4 + 3, none⟩ = some (.slice Q[nI].aa Q[nI].al.length Q[nI].ac) := (hb6.cell (p := ⟨gq, nI * 4 + 3, none⟩) hgq).trans hcd
              refine wpAnyH_ready (rs := [6, 10]) (by as_aux_lemma => kernel_rfl) (by simp) ?_
              refine AllReadyH.cons rfl (fun K hK => ?_) (AllReadyH.cons rfl (fun K hK => ?_) AllReadyH.nil)
              · skip
                go_simp
                go_wp2_with (fail)
                refine hK.out _ _ ?_ (fun hS => ?_)
                · exact hS
                clear hK K
                refine wpAnyH_ready (rs := [10]) (by as_aux_lemma => kernel_rfl) (by simp) ?_
                refine AllReadyH.cons rfl (fun K hK => ?_) AllReadyH.nil
                go_simp
                go_wp2_with (fail)
                refine hK.out _ _ ?_ (fun hS => ?_)
                · exact KdBlk.below hS ((Below.refl w6.heap.size w6).alloc (Nat.le_refl _) _) (ltA hS)
                clear hK K
                have d7 := (Below.refl w6.heap.size w6).alloc (Nat.le_refl _) (.cells #[.slice aO r0.ps.length cO, .int .i64 r0.st, .int .i64 r0.en] 42)
                have b67 : Below w18.heap.size w18 (w6.alloc (.cells #[.slice aO r0.ps.length cO, .int .i64 r0.st, .int .i64 r0.en] 42)) := ((hd_drew w18).trans hb6).trans (d7.mono (by have := hb6.size; exact this))
                have hF7 := hFq.below b67
                have hr7 := onB_row hrq b67 (Nat.le_refl _)
                have hx7 : AlsAt (w6.alloc (.cells #[.slice aO r0.ps.length cO, .int .i64 r0.st, .int .i64 r0.en] 42)) (some ⟨w6.heap.size, 0, none⟩) [(⟨r0.ps, r0.st, r0.en, aO, cO⟩ : Rw)] := alsAt_one w6 ⟨r0.ps, r0.st, r0.en, aO, cO⟩ (OwnP.at (onB_row hown d7 (Nat.le_refl _)))
                have hals7 := hF7.inv.als Q[nI] (List.getElem_mem hp)
                have hw27 : w2.heap.size ≤ (w6.alloc (.cells #[.slice aO r0.ps.length cO, .int .i64 r0.st, .int .i64 r0.en] 42)).heap.size := hF7.far.size
                have hxo : OwnP (w6.alloc (.cells #[.slice aO r0.ps.length cO, .int .i64 r0.st, .int .i64 r0.en] 42)) w2.heap.size (.slice aO r0.ps.length cO) r0.ps := baseA (onB_row hown d7 (Nat.le_refl _)) (show w2.heap.size ≤ w18.heap.size from hFq.far.size)
                refine wpAnyH_ready (rs := [11]) (by as_aux_lemma => kernel_rfl) (by simp) ?_
                refine AllReadyH.cons rfl (fun K hK => ?_) AllReadyH.nil
                refine step_append_al rfl _ _ rfl w2.heap.size Q[nI].aa Q[nI].al.length Q[nI].ac Q[nI].al (by kernel_rfl) hals7 w6.heap.size ⟨r0.ps, r0.st, r0.en, aO, cO⟩ (by kernel_rfl) hx7 hall hw27 ?_
                intro a8 c8 w8 own8 g8 hn8
                refine hK.out _ _ (KdBlk.past hS hals7 (by decide) g8) (fun hS => ?_)
                clear hK K
                have hF9 := hF7.filled hbm hwc2 hp (x := ⟨r0.ps, r0.st, r0.en, aO, cO⟩) hxo own8 g8 hn8
                have own8g : OwnG w8 w2.heap.size (.slice (some ⟨gq, 0, none⟩) nQ cN) Q := past_row hF7.inv.own hals7 (by decide) g8
                obtain ⟨-, -, hc8, hf8⟩ := own8g.slot nI hp
                have own8n : OwnG w8 w2.heap.size (.slice (some ⟨gq, 0, none⟩) Q.length cN) Q := by rw [← HNQ.out]; exact own8g
                have gs := (World.ownsRow.stored own8n (nI * 4 + 3) (.slice a8 (Q[nI].al.length + 1) c8)).2
                have hr9 := past_row (past_row hr7 hals7 (by decide) g8) own8n (by decide) gs
                have hk9 := KdBlk.past hS own8n (by decide) gs
                have HF9 := Lib.hid hF9
                have HK9 := Lib.hid (And.intro hk9 hr9)
                have HR9 := Lib.hid (HRes.out ⟨r0.ps, r0.st, r0.en, aO, cO⟩ a8 c8 rfl)
                clear hF9 own8g own8n gs hr9 hF7 hr7 hx7 hals7 hxo own8 g8 hn8 hown hb6 d7 b67 hFq hkq hrq hcq hcd
                refine wpAnyH_takeA (i := 12) (some 82) (v := ?_) rfl rfl (by as_aux_lemma => kernel_rfl) (by as_aux_lemma => kernel_rfl) (by as_aux_lemma => kernel_rfl) (fun _ _ _ h => h) (Or.inl ⟨by kernel_rfl, ?_⟩) hS ?_
                rotate_left
                · intro w hSw; obtain ⟨c2, c3, c4, c5⟩ := hSw.cell; go_simp
                  first | done | with_reducible rfl
                refine wpAnyH_takeA (i := 13) (some 83) (v := ?_) rfl rfl (by as_aux_lemma => kernel_rfl) (by as_aux_lemma => kernel_rfl) (by as_aux_lemma => kernel_rfl) (fun _ _ _ h => h) (Or.inl ⟨by kernel_rfl, ?_⟩) hS ?_
                rotate_left
                · intro w hSw; obtain ⟨c2, c3, c4, c5⟩ := hSw.cell; go_simp
                  first | done | with_reducible rfl
                refine wpAnyH_ready (rs := [14]) (by as_aux_lemma => kernel_rfl) (by simp) ?_
                refine AllReadyH.cons rfl (fun K hK => ?_) AllReadyH.nil
                go_simp
                go_wp2_with fail
                refine hK.out _ _ ?_ (fun hS => ?_)
                · exact hk9
                clear hK K
                refine wpAnyH_done (by kernel_rfl) ?_ _
                go_wp2
                go_round
                case rel => exact ⟨m + 1, some ⟨gq, 0, none⟩, nQ, cN, Q.set nI (Q[nI].put (Q[nI].al ++ [⟨r0.ps, r0.st, r0.en, aO, cO⟩]) a8 c8), by omega, by go_num, rfl, Lib.hid (by rw [List.length_set]; exact HNQ.out), HF9, HR9, HK9⟩
                case measure => simp [intOf]; omega
              · skip
                go_simp
                go_wp2_with (fail)
                refine hK.out _ _ ?_ (fun hS => ?_)
                · exact KdBlk.below hS ((Below.refl w6.heap.size w6).alloc (Nat.le_refl _) _) (ltA hS)
                clear hK K
                have hc7 : (w6.alloc (.cells #[.slice aO r0.ps.length cO, .int .i64 r0.st, .int .i64 r0.en] 42)).cell? ⟨gq, nI * 4 + 3, none⟩ = some (.slice Q[nI].aa Q[nI].al.length Q[nI].ac) := (((Below.refl w6.heap.size w6).alloc (Nat.le_refl _) (.cells #[.slice aO r0.ps.length cO, .int .i64 r0.st, .int .i64 r0.en] 42)).cell (p := ⟨gq, nI * 4 + 3, none⟩) (Nat.lt_of_lt_of_le hgq hb6.size)).trans hc6
                refine wpAnyH_ready (rs := [6]) (by as_aux_lemma => kernel_rfl) (by simp) ?_
                refine AllReadyH.cons rfl (fun K hK => ?_) AllReadyH.nil
                go_simp
                go_wp2_with (fail)
                refine hK.out _ _ ?_ (fun hS => ?_)
                · exact hS
                clear hK K
                have d7 := (Below.refl w6.heap.size w6).alloc (Nat.le_refl _) (.cells #[.slice aO r0.ps.length cO, .int .i64 r0.st, .int .i64 r0.en] 42)
                have b67 : Below w18.heap.size w18 (w6.alloc (.cells #[.slice aO r0.ps.length cO, .int .i64 r0.st, .int .i64 r0.en] 42)) := ((hd_drew w18).trans hb6).trans (d7.mono (by have := hb6.size; exact this))
                have hF7 := hFq.below b67
                have hr7 := onB_row hrq b67 (Nat.le_refl _)
                have hx7 : AlsAt (w6.alloc (.cells #[.slice aO r0.ps.length cO, .int .i64 r0.st, .int .i64 r0.en] 42)) (some ⟨w6.heap.size, 0, none⟩) [(⟨r0.ps, r0.st, r0.en, aO, cO⟩ : Rw)] := alsAt_one w6 ⟨r0.ps, r0.st, r0.en, aO, cO⟩ (OwnP.at (onB_row hown d7 (Nat.le_refl _)))
                have hals7 := hF7.inv.als Q[nI] (List.getElem_mem hp)
                have hw27 : w2.heap.size ≤ (w6.alloc (.cells #[.slice aO r0.ps.length cO, .int .i64 r0.st, .int .i64 r0.en] 42)).heap.size := hF7.far.size
                have hxo : OwnP (w6.alloc (.cells #[.slice aO r0.ps.length cO, .int .i64 r0.st, .int .i64 r0.en] 42)) w2.heap.size (.slice aO r0.ps.length cO) r0.ps := baseA (onB_row hown d7 (Nat.le_refl _)) (show w2.heap.size ≤ w18.heap.size from hFq.far.size)
                refine wpAnyH_ready (rs := [11]) (by as_aux_lemma => kernel_rfl) (by simp) ?_
                refine AllReadyH.cons rfl (fun K hK => ?_) AllReadyH.nil
                refine step_append_al rfl _ _ rfl w2.heap.size Q[nI].aa Q[nI].al.length Q[nI].ac Q[nI].al (by kernel_rfl) hals7 w6.heap.size ⟨r0.ps, r0.st, r0.en, aO, cO⟩ (by kernel_rfl) hx7 hall hw27 ?_
                intro a8 c8 w8 own8 g8 hn8
                refine hK.out _ _ (KdBlk.past hS hals7 (by decide) g8) (fun hS => ?_)
                clear hK K
                have hF9 := hF7.filled hbm hwc2 hp (x := ⟨r0.ps, r0.st, r0.en, aO, cO⟩) hxo own8 g8 hn8
                have own8g : OwnG w8 w2.heap.size (.slice (some ⟨gq, 0, none⟩) nQ cN) Q := past_row hF7.inv.own hals7 (by decide) g8
                obtain ⟨-, -, hc8, hf8⟩ := own8g.slot nI hp
                have own8n : OwnG w8 w2.heap.size (.slice (some ⟨gq, 0, none⟩) Q.length cN) Q := by rw [← HNQ.out]; exact own8g
                have gs := (World.ownsRow.stored own8n (nI * 4 + 3) (.slice a8 (Q[nI].al.length + 1) c8)).2
                have hr9 := past_row (past_row hr7 hals7 (by decide) g8) own8n (by decide) gs
                have hk9 := KdBlk.past hS own8n (by decide) gs
                have HF9 := Lib.hid hF9
                have HK9 := Lib.hid (And.intro hk9 hr9)
                have HR9 := Lib.hid (HRes.out ⟨r0.ps, r0.st, r0.en, aO, cO⟩ a8 c8 rfl)
                clear hF9 own8g own8n gs hr9 hF7 hr7 hx7 hals7 hxo own8 g8 hn8 hown hb6 d7 b67 hFq hkq hrq hcq hcd
                refine wpAnyH_takeA (i := 12) (some 82) (v := ?_) rfl rfl (by as_aux_lemma => kernel_rfl) (by as_aux_lemma => kernel_rfl) (by as_aux_lemma => kernel_rfl) (fun _ _ _ h => h) (Or.inl ⟨by kernel_rfl, ?_⟩) hS ?_
                rotate_left
                · intro w hSw; obtain ⟨c2, c3, c4, c5⟩ := hSw.cell; go_simp
                  first | done | with_reducible rfl
                refine wpAnyH_takeA (i := 13) (some 83) (v := ?_) rfl rfl (by as_aux_lemma => kernel_rfl) (by as_aux_lemma => kernel_rfl) (by as_aux_lemma => kernel_rfl) (fun _ _ _ h => h) (Or.inl ⟨by kernel_rfl, ?_⟩) hS ?_
                rotate_left
                · intro w hSw; obtain ⟨c2, c3, c4, c5⟩ := hSw.cell; go_simp
                  first | done | with_reducible rfl
                refine wpAnyH_ready (rs := [14]) (by as_aux_lemma => kernel_rfl) (by simp) ?_
                refine AllReadyH.cons rfl (fun K hK => ?_) AllReadyH.nil
                go_simp
                go_wp2_with fail
                refine hK.out _ _ ?_ (fun hS => ?_)
                · exact hk9
                clear hK K
                refine wpAnyH_done (by kernel_rfl) ?_ _
                go_wp2
                go_round
                case rel => exact ⟨m + 1, some ⟨gq, 0, none⟩, nQ, cN, Q.set nI (Q[nI].put (Q[nI].al ++ [⟨r0.ps, r0.st, r0.en, aO, cO⟩]) a8 c8), by omega, by go_num, rfl, Lib.hid (by rw [List.length_set]; exact HNQ.out), HF9, HR9, HK9⟩
                case measure => simp [intOf]; omega
        · have hml : ¬ (m : Int) < (Wl.length : Int) := by omega
          have HXX : Hid (I.map Gm.sh = ((M.map Rw.sh).take (k + 1)).foldl (oneS l W) []) := Lib.hid (by rw [HX.out, HOne.out, HGI.out, List.take_of_length_le (by omega)])
          go_wp2
          go_round
          case rel => exact ⟨k + 1, aI, nI, cI, I, by omega, by go_num, rfl, HNI, HFI, HXX⟩
          case measure => simp [intOf]; omega
    · have hkl : ¬ (k : Int) < (n : Int) := by omega
      have hF := HF.out
      have hbs := hF.bel.size
      have HS := Lib.hid (gSort_own aG cG G w2.heap.size wr (by rw [← HN.out]; exact hF.inv) (by have := hF.far.size; exact this) (by have := HN.out; omega) nG HN.out)
      have HEnd : Hid (∀ (G' : List Gm) w4, G'.Perm G → (G'.Pairwise fun x y => ¬ y.less x) → GroupsAt w4 aG G' → Below w2.heap.size wr w4 → PO w4 l W L (.returned (.slice aG nG cG))) := Lib.hid fun G' w4 hp hs hg hb4 => by
        have h1 := HPost.out aG cG G' w4 hg (by
          have e1 : (M.map Rw.sh).take k = M.map Rw.sh := List.take_of_length_le (by rw [List.length_map]; omega)
          have e2 := HG.out
          rw [e1] at e2
          unfold ofS
          rw [← e2]
          exact hp.map _) hs (hA.trans ((hF.bel.mono (by omega)).trans (hb4.mono (by omega))))
        rw [hp.length_eq, ← HN.out] at h1
        exact h1
      clear hF HPost
      go_wp2_with (go_at_call 24; refine HS.out.mono ?_; rintro e w4 ⟨rfl, ⟨G', hp, hs, hg⟩, hb4⟩)
      exact HEnd.out G' w4 hp hs hg hb4


end Go.Proofs.YtmanjegdgjeeiaaGreatDoor
