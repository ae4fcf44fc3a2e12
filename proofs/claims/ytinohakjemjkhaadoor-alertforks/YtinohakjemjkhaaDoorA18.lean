/-
  What Fork of package alert does: a store of its own that is as this one.
-/
import Derived.Test.YtinohakjemjkhaaDoorA16
namespace Go.Proofs.YtinohakjemjkhaaDoor
open Go.RowKit Go.Maps

/-- The alerts that are no longer to come, as they stand in the fork. -/
def Forked (F S : List Rw) (left : Lit → Bool) : Prop := F.map Rw.al = (S.filter fun r => !left (.string r.key)).map Rw.al
theorem fork_start (S : List Rw) : Forked [] S (Maps.has (datum S)) := by
  unfold Forked
  have : (S.filter fun r => !Maps.has (datum S) (.string r.key)) = [] := List.filter_eq_nil_iff.2 fun r hr => by
    rw [datum_has]
    simp only [Bool.not_eq_true', Bool.not_eq_false]
    exact List.any_eq_true.2 ⟨r, hr, by simp⟩
  rw [this]
theorem fork_end {F S : List Rw} {left : Lit → Bool} (h : Forked F S left) (hl : ∀ kl, left kl = false) : Sim F S := by
  unfold Forked at h
  unfold Sim
  rw [h]
  congr 1
  exact List.filter_eq_self.2 fun r _ => by rw [hl]; rfl
theorem ins_filter {x : Rw} : ∀ {S : List Rw} {p : Rw → Bool}, Rising S → x ∈ S → p x = false → insR x (S.filter p) = S.filter (fun r => p r || (r.key == x.key))
  | y :: l, p, hR, hx, hp => by
    have hl := (List.pairwise_cons.1 hR).2
    have hall := (List.pairwise_cons.1 hR).1
    rcases List.mem_cons.1 hx with rfl | hx'
    · have e1 : (l.filter fun r => p r || (r.key == x.key)) = l.filter p := List.filter_congr fun r hr => by
        have hne : (r.key == x.key) = false := beq_eq_false_iff_ne.2 fun e => by have := hall r hr; rw [e] at this; exact key_irrefl _ this
        rw [hne, Bool.or_false]
      rw [List.filter_cons, hp, List.filter_cons]
      simp only [Bool.false_eq_true, if_false, BEq.rfl, Bool.or_true, if_true]
      rw [e1, ins_above fun r hr => hall r (List.mem_filter.1 hr).1]
    · have hlt := hall x hx'
      have hne : (y.key == x.key) = false := beq_eq_false_iff_ne.2 fun e => by rw [e] at hlt; exact key_irrefl _ hlt
      have ih := ins_filter (p := p) hl hx' hp
      rw [List.filter_cons, List.filter_cons, hne, Bool.or_false]
      by_cases hy : p y = true
      · rw [if_pos hy, if_pos hy, insR, if_neg (key_asymm hlt), ih]
      · rw [if_neg hy, if_neg hy, ih]
theorem ins_len (x : Rw) : ∀ S : List Rw, (insR x S).length = S.length + 1
  | [] => rfl
  | y :: l => by
    rw [insR]
    split
    · rfl
    · rw [List.length_cons, ins_len x l]; rfl
theorem put_len (x : Rw) (S : List Rw) : (putR x S).length ≤ S.length + 1 := by
  unfold putR
  rw [ins_len]
  have := List.length_filter_le (fun y : Rw => !(y.key == x.key)) S
  omega
theorem fork_step {F S : List Rw} {left : Lit → Bool} (h : Forked F S left) (hR : Rising S) {x y : Rw} (hx : x ∈ S) (hl : left (.string x.key) = true) (hy : y.al = x.al) : Forked (putR y F) S (fun z => left z && !z.sameKey (.string x.key)) := by
  have hk : y.key = x.key := congrArg (fun p : Al => keyL p.1) hy
  have hno : ∀ r ∈ F, r.key ≠ y.key := fun r hr e => by
    have hm : r.al ∈ (S.filter fun r => !left (.string r.key)).map Rw.al := by rw [← h]; exact List.mem_map.2 ⟨r, hr, rfl⟩
    obtain ⟨s, hs, es⟩ := List.mem_map.1 hm
    have hks : s.key = r.key := congrArg (fun p : Al => keyL p.1) es
    have := (List.mem_filter.1 hs).2
    rw [hks, e, hk, hl] at this
    cases this
  unfold Forked at h ⊢
  have e1 : (F.filter fun z => !(z.key == y.key)) = F := List.filter_eq_self.2 fun r hr => by
    simp only [Bool.not_eq_true', beq_eq_false_iff_ne]
    exact hno r hr
  unfold putR
  rw [e1, ins_al, hy, h, ← ins_al, ins_filter hR hx (by simp [hl])]
  congr 1
  refine List.filter_congr fun r _ => ?_
  have e2 : (Lit.string r.key).sameKey (.string x.key) = (r.key == x.key) := rfl
  simp only [e2]
  cases left (.string r.key) <;> simp

/-- A store stays what it is while a range's own block is turned. -/
theorem StAt.offI {w w' : World} {sb bm : Nat} {S : List Rw} {b r : Nat} {S0 : List Rw} {left : Lit → Bool} {cnt : Nat} (h : StAt w sb bm S) (hg : w.grownBy w' (some r)) (hr : StRange w b r S0 left cnt) (h1 : sb ≠ r) (h2 : bm ≠ r) : StAt w' sb bm S := by
  obtain ⟨es, clock, since, seen, c0, -, -, -, -, hi, -⟩ := hr
  refine h.off hg h1 h2 fun x hx q e hq => ?_
  obtain ⟨b, o, e', hc⟩ := (h.2.2 x hx).1 (alE_zero (h.2.2 x hx).2).2.1
  obtain rfl := Option.some.inj (e.symm.trans e')
  have := (hc 0 (alE_zero (h.2.2 x hx).2).2.1).1
  simp only at hq
  subst hq
  simp [World.cell?, hi] at this

set_option maxRecDepth 100000 in
set_option maxHeartbeats 4000000 in
theorem aFork_any (sb bm : Nat) (S : List Rw) (w : World) (h : StAt w sb bm S) (hn : S.length ≤ 64) :
    Calls Tryd.prog 22 #[.pointer (some ⟨sb, 0, none⟩)] w fun e w' => ∃ F, (e = .returned (.pointer (some ⟨w.heap.size + 1, 0, none⟩)) ∧ StAt w' (w.heap.size + 1) w.heap.size F ∧ Sim F S) ∧ Below w.heap.size w w' := by
  have hR := h.2.1.rising
  have HNw := Lib.hid (aNew_st w)
  have HH := Lib.hid h
  have hsb : sb < w.heap.size := ltA h.1
  have hbm : bm < w.heap.size := h.2.1.lt
  clear h
  go_enter Tryd.func22, Tryd.ntmps22
  go_wp2_with (go_at_call 11; refine HNw.out.mono ?_; rintro e wn ⟨rfl, hsn, qn⟩; refine Hid.out ?_)
  refine Lib.hid ?_
  have hn2 := HH.out.below qn (Nat.le_refl _)
  have c0 := hn2.1.c0
  have hm := hn2.2.1
  have hwn : w.heap.size + 1 < wn.heap.size := ltA hsn.1
  have HSn := Lib.hid (And.intro hsn qn)
  clear hn2 hsn qn HNw
  go_wp2_with (first
    | (at_range; refine wpList_range_st _ rfl _ rfl bm S rfl hm ?_; intro w0 hrg0 hg0 hs0)
    | go_in)
  go_frame
  have HR0 := Lib.hid (And.intro hrg0 (And.intro hg0 hs0))
  clear hrg0 hg0 hs0 hm c0
  go_loopw [4] (fun _ wr => ∃ (left : Lit → Bool) (cnt : Nat) (F : List Rw), Hid (StRange wr bm wn.heap.size S left cnt ∧ StAt wr (w.heap.size + 1) w.heap.size F ∧ Forked F S left ∧ F.length + cnt ≤ 64 ∧ Below w.heap.size w wr))
    (fun _ wr => wr.rangeLeft bm wn.heap.size)
  case atStart =>
    obtain ⟨hrg0, hg0, hs0⟩ := HR0.out
    obtain ⟨hsn, qn⟩ := HSn.out
    exact ⟨_, _, [], Lib.hid ⟨hrg0, hsn.below (B := wn.heap.size) ⟨hg0.os, hg0.tape, hg0.output, hg0.size, fun k hk => hg0.block k hk (by simp)⟩ (Nat.le_refl _), fork_start S, by simpa using hn, qn.trans ⟨hg0.os, hg0.tape, hg0.output, hg0.size, fun k hk => hg0.block k (by omega) (by simp)⟩⟩⟩
  case round =>
    clear HR0 HSn
    obtain ⟨left, cnt, F, HI⟩ := hrel
    have hrg := HI.out.1
    go_wp2_with (first
      | (at_next; refine wpList_next_st _ rfl _ rfl bm wn.heap.size S left cnt rfl hrg ?_ ?_)
      | go_in)
    · intro _ hl0
      obtain ⟨-, hF, hFo, -, hB⟩ := HI.out
      have HF := Lib.hid (And.intro hF (And.intro (fork_end hFo hl0) hB))
      clear hF hFo hB hrg HI hl0
      go_wp2
      go_ret
      exact ⟨F, ⟨rfl, HF.out.1, HF.out.2.1⟩, HF.out.2.2⟩
    · intro x w1 cnt1 hx hlx hrg1 hlt hg1 hs1 hen
--ROUND
      obtain ⟨-, hF, hFo, hcn, hB⟩ := HI.out
      have hal := HH.out.2.2 x hx
      have b1 : Below w.heap.size w w1 := hB.grown hg1 hB.size (fun j e => by obtain rfl := Option.some.inj e; omega)
      have HX1 : Hid (w.heap.size < w1.heap.size) := Lib.hid (by have := ltA hF.1; have := hg1.size; omega)
      have d2 := (Below.refl w1.heap.size w1).alloc (Nat.le_refl _) (.cells #[.slice x.ad x.ps.length x.cp, .int .i64 x.st, .int .i64 x.en] 34)
      have g2 := World.grownBy_alloc w1 (.cells #[.slice x.ad x.ps.length x.cp, .int .i64 x.st, .int .i64 x.en] 34) none
      have hF1 : StAt w1 (w.heap.size + 1) w.heap.size F := hF.offI hg1 hrg (by omega) (by omega)
      have hF2 := hF1.below d2 (Nat.le_refl _)
      have hrg2 := hrg1.kept g2 (by simp) (by simp)
      have kb2 := AlBlk.new w1 x.ad x.ps.length x.cp x.st x.en
      have b2 := b1.trans (d2.mono b1.size)
      have hxk : x.key.length ≤ maxLen := akey_len (alE_zero hal.2).1
      have HO := Lib.hid (aOwn_any x.ad x.cp x.ps x.st x.en (w1.alloc (.cells #[.slice x.ad x.ps.length x.cp, .int .i64 x.st, .int .i64 x.en] 34)).drew (hal.1.below b2.drew (Nat.le_refl _)) (by have := acheck_len (alE_zero hal.2).1; omega) _ rfl)
      have HC := Lib.hid (And.intro hrg.left_eq hlt)
      have HZ := Lib.hid (And.intro hF2 (And.intro hrg2 (And.intro kb2 (And.intro b2 (And.intro hFo (And.intro hcn hal))))))
      clear hF hFo hcn hB hal b1 d2 g2 hF1 hF2 hrg2 kb2 b2 hrg hrg1 hg1 hs1 hlt HI
      go_wp2_with fail
      obtain ⟨hF2, hrg2, kb2, b2, hFo, hcn, hal⟩ := HZ.out
      generalize hw2 : (w1.alloc (.cells #[.slice x.ad x.ps.length x.cp, .int .i64 x.st, .int .i64 x.en] 34)) = w2 at *
      clear hw2 hen
      refine wp_region_any (by kernel_rfl) ?_
      change wpAny _ _ _ _ _ _ _ (World.drew _)
      have hS : (fun w' : World => StBlk w' (w.heap.size + 1) w.heap.size ∧ AlBlk w' w1.heap.size x.ad x.ps.length x.cp x.st x.en) w2.drew := ⟨hF2.1, kb2⟩
      refine wpAny_of_held (S := fun w' => StBlk w' (w.heap.size + 1) w.heap.size ∧ AlBlk w' w1.heap.size x.ad x.ps.length x.cp x.st x.en) _ _ _ _ ?_
      refine wpAnyH_takeA (i := 0) (some 19) (v := ?_) rfl rfl (by as_aux_lemma => kernel_rfl) (by as_aux_lemma => kernel_rfl) (by as_aux_lemma => kernel_rfl) (fun _ _ _ h => h) (Or.inl ⟨by kernel_rfl, ?_⟩) hS ?_
      rotate_left
      · intro w hSw; have c0 := hSw.1.c0; have c1 := hSw.2.c0; have c2 := hSw.2.c1; have c3 := hSw.2.c2; go_simp
        first | done | with_reducible rfl
      refine wpAnyH_takeA (i := 1) (some 20) (v := ?_) rfl rfl (by as_aux_lemma => kernel_rfl) (by as_aux_lemma => kernel_rfl) (by as_aux_lemma => kernel_rfl) (fun _ _ _ h => h) (Or.inl ⟨by kernel_rfl, ?_⟩) hS ?_
      rotate_left
      · intro w hSw; have c0 := hSw.1.c0; have c1 := hSw.2.c0; have c2 := hSw.2.c1; have c3 := hSw.2.c2; go_simp
        first | done | with_reducible rfl
      refine wpAnyH_takeA (i := 2) (some 21) (v := ?_) rfl rfl (by as_aux_lemma => kernel_rfl) (by as_aux_lemma => kernel_rfl) (by as_aux_lemma => kernel_rfl) (fun _ _ _ h => h) (Or.inl ⟨by kernel_rfl, ?_⟩) hS ?_
      rotate_left
      · intro w hSw; have c0 := hSw.1.c0; have c1 := hSw.2.c0; have c2 := hSw.2.c1; have c3 := hSw.2.c2; go_simp
        first | done | with_reducible rfl
      refine wpAnyH_takeA (i := 3) (some 22) (v := ?_) rfl rfl (by as_aux_lemma => kernel_rfl) (by as_aux_lemma => kernel_rfl) (by as_aux_lemma => kernel_rfl) (fun _ _ _ h => h) (Or.inl ⟨by kernel_rfl, ?_⟩) hS ?_
      rotate_left
      · intro w hSw; have c0 := hSw.1.c0; have c1 := hSw.2.c0; have c2 := hSw.2.c1; have c3 := hSw.2.c2; go_simp
        first | done | with_reducible rfl
      refine wpAnyH_takeA (i := 4) (some 23) (v := ?_) rfl rfl (by as_aux_lemma => kernel_rfl) (by as_aux_lemma => kernel_rfl) (by as_aux_lemma => kernel_rfl) (fun _ _ _ h => h) (Or.inl ⟨by kernel_rfl, ?_⟩) hS ?_
      rotate_left
      · intro w hSw; have c0 := hSw.1.c0; have c1 := hSw.2.c0; have c2 := hSw.2.c1; have c3 := hSw.2.c2; go_simp
        first | done | with_reducible rfl
      refine wpAnyH_takeA (i := 5) (some 24) (v := ?_) rfl rfl (by as_aux_lemma => kernel_rfl) (by as_aux_lemma => kernel_rfl) (by as_aux_lemma => kernel_rfl) (fun _ _ _ h => h) (Or.inl ⟨by kernel_rfl, ?_⟩) hS ?_
      rotate_left
      · intro w hSw; have c0 := hSw.1.c0; have c1 := hSw.2.c0; have c2 := hSw.2.c1; have c3 := hSw.2.c2; go_simp
        first | done | with_reducible rfl
      refine wpAnyH_ready (rs := [6]) (by as_aux_lemma => kernel_rfl) (by simp) ?_
      refine AllReadyH.cons rfl (fun K hK => ?_) AllReadyH.nil
      go_simp
      go_wp2_with (go_at_call 34; refine HO.out.mono ?_; rintro r w3 ⟨a', c', rfl, hown, hb3⟩)
      refine hK.out _ _ ?_ (fun hS => ?_)
      · exact ⟨hS.1.below hb3 (ltA hS.1), hS.2.below hb3 (ltA hS.2)⟩
      clear hK K
      refine wpAnyH_ready (rs := [7]) (by as_aux_lemma => kernel_rfl) (by simp) ?_
      refine AllReadyH.cons rfl (fun K hK => ?_) AllReadyH.nil
      have hb3' : Below w2.heap.size w2 w3 := (Below.refl w2.heap.size w2).drew.trans hb3
      have hF3 := hF2.below hb3' (Nat.le_refl _)
      refine step_putR rfl _ _ _ rfl hF3.2.1 ⟨x.ps, x.st, x.en, a', c'⟩ hxk (by unfold maxLen; omega) (by kernel_rfl) (by kernel_rfl) (by kernel_rfl) ?_
      intro w4 hm4 hg4
      have hx1 : w.heap.size < w1.heap.size := HX1.out
      refine hK.out _ _ ⟨hS.1.kept hg4 (fun e => by have := Option.some.inj e; omega), hS.2.kept hg4 (fun e => by have := Option.some.inj e; omega)⟩ (fun _ => ?_)
      clear hK K
      refine wpAnyH_done (by kernel_rfl) ?_ _
      have hb4 := b2.trans (hb3'.mono b2.size)
      have HF4 : Hid (StRange w4 bm wn.heap.size S (fun z => left z && !z.sameKey (.string x.key)) cnt1 ∧ StAt w4 (w.heap.size + 1) w.heap.size (putR ⟨x.ps, x.st, x.en, a', c'⟩ F) ∧ Forked (putR ⟨x.ps, x.st, x.en, a', c'⟩ F) S (fun z => left z && !z.sameKey (.string x.key)) ∧ (putR ⟨x.ps, x.st, x.en, a', c'⟩ F).length + cnt1 ≤ 64 ∧ Below w.heap.size w w4) := Lib.hid
        ⟨(hrg2.kept (gOf hb3' none) (by simp) (by simp)).kept hg4 (fun e => by have := Option.some.inj e; omega) (fun e => by have := Option.some.inj e; omega),
         hF3.turn hg4 hm4 (fun r hr => (mem_putR hr).elim (fun e => .inr (by subst e; exact ⟨PairsAt.turn (OwnP.at hown) hg4 hF3.2.1, hal.2⟩)) .inl),
         fork_step hFo hR hx hlx rfl, by have := put_len ⟨x.ps, x.st, x.en, a', c'⟩ F; have := HC.out.2; omega,
         hb4.grown hg4 hb4.size (fun j e => by obtain rfl := Option.some.inj e; exact Nat.le_refl _)⟩
      have HME : Hid (w4.rangeLeft bm wn.heap.size < wr.rangeLeft bm wn.heap.size) := Lib.hid (by rw [HF4.out.1.left_eq, HC.out.1]; exact HC.out.2)
      clear hb4 hm4 hg4 hF3 hb3' hb3 hown hS hF2 hrg2 kb2 b2 hFo hcn hal HZ HO hx1
      generalize (putR ⟨x.ps, x.st, x.en, a', c'⟩ F) = F4 at *
      go_simp
      go_wp2
      go_roundw
      case rel => exact ⟨_, cnt1, F4, HF4⟩
      case measure => exact HME.out

end Go.Proofs.YtinohakjemjkhaaDoor
