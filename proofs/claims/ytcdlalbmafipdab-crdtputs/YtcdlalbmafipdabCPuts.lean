/-
  The walk of CrdtPuts.
-/
import Derived.Test.YtcdlalbmafipdabC18
namespace Go.Proofs.Ytcdlalbmafipdab
open Go.RowKit Go.Maps

theorem RefM.turn {w w' : World} {a : Option Addr} {c : Nat} {S : List Ent} {bm : Nat} {T : List Ent} (h : RefM w a c S) (hg : w.grownBy w' (some bm)) (hm : CMap w bm T) : RefM w' a c S := ⟨h.1.turn hg hm, h.2⟩
theorem RefM.other {w : World} {a : Option Addr} {c : Nat} {S : List Ent} (h : RefM w a c S) {X n' c' : Nat} {a' : Option Addr} (hX : RmBlk w X a' n' c') {v : Value} : RefM (w.setCell ⟨X, 0, none⟩ v) a c S := by
  by_cases hS : 0 < S.length
  · obtain ⟨b, o, ea, hlt, hc⟩ := h.1 hS
    refine ⟨h.1.other fun q e hq => ?_, h.2⟩
    rw [ea] at e
    obtain rfl := Option.some.inj e
    have h0 := hc 0 hS 1 (.int .i64 S[0].t) rfl
    have hb : b = X := hq
    subst hb
    unfold RmBlk at hX
    simp [World.cell?, hX] at h0
  · exact ⟨fun hn => absurd hn hS, h.2⟩
theorem EntsAt.otherR {w : World} {a : Option Addr} {S : List Ent} (h : EntsAt w a S) {X n' c' : Nat} {a' : Option Addr} (hX : RmBlk w X a' n' c') {v : Value} : EntsAt (w.setCell ⟨X, 0, none⟩ v) a S := by
  by_cases hS : 0 < S.length
  · obtain ⟨b, o, ea, hlt, hc⟩ := h hS
    refine h.other fun q e hq => ?_
    rw [ea] at e
    obtain rfl := Option.some.inj e
    have h0 := hc 0 hS 1 (.int .i64 S[0].t) rfl
    have hb : b = X := hq
    subst hb
    unfold RmBlk at hX
    simp [World.cell?, hX] at h0
  · exact fun hn => absurd hn hS
theorem grown_cell (w : World) (X : Nat) (v : Value) : w.grownBy (w.setCell ⟨X, 0, none⟩ v) (some X) := ⟨rfl, rfl, rfl, by simp [World.setCell], fun k _ hk => Below.heap_setCell w _ _ _ (fun e => hk (by rw [e]))⟩

set_option maxRecDepth 100000 in
set_option maxHeartbeats 16000000 in
theorem puts_walk (aA : Option Addr) (cA : Nat) (lA : List Ent) (W : World) (heA : EntsAt W aA lA) (nA : Nat) (hA : nA = lA.length) :
    Calls Try.prog 3 #[.slice aA nA cA] W fun e w' => e = .returned (.bool true) ∧ Below W.heap.size W w' := by
  have HLi := Lib.hid (crLight_any aA nA cA W)
  by_cases h1 : nA ≤ 300
  · rw [decide_eq_true h1] at HLi
    have HNA := Lib.hid hA
    have HEA := Lib.hid heA
    have HNw : Hid (∀ u, Calls Try.prog 8 #[] u fun e w' => ∃ sb bm, e = .returned (.pointer (some ⟨sb, 0, none⟩)) ∧ CAt w' sb bm [] ∧ u.heap.size ≤ bm ∧ Below u.heap.size u w') := Lib.hid (fun u => (cNew_at u).mono fun e w' ⟨e1, e2, e3⟩ => ⟨_, _, e1, e2, Nat.le_refl _, e3⟩)
    clear hA heA
    go_enter Try.func3, Try.ntmps3
    go_wp2_with (go_at_call 6; refine HLi.out.mono ?_; rintro e w1 ⟨rfl, q1⟩; replace q1 := Lib.hid q1; refine Hid.out ?_)
    refine Lib.hid ?_
    go_wp2_with (go_at_call 8; refine (HNw.out w1).mono ?_; rintro e w2 ⟨sb, bm, rfl, m2, hbm, q2⟩; replace m2 := Lib.hid m2; replace hbm := Lib.hid hbm; replace q2 := Lib.hid q2; refine Hid.out ?_)
    refine Lib.hid ?_
    go_wp2
    have d3 := (Below.refl w2.heap.size w2).alloc (Nat.le_refl _) (.cells #[.slice none 0 0] 28)
    have Q2 := q1.out.trans (q2.out.mono q1.out.size)
    have Q3 := Q2.trans (d3.mono Q2.size)
    have HI0 : Hid (CAt (w2.alloc (.cells #[.slice none 0 0] 28)) sb bm (mergeS [] (lA.take 0)) ∧ RmBlk (w2.alloc (.cells #[.slice none 0 0] 28)) w2.heap.size none 0 0 ∧ 0 = (mergeS [] (lA.take 0)).length ∧ RefM (w2.alloc (.cells #[.slice none 0 0] 28)) none 0 (mergeS [] (lA.take 0)) ∧ EntsAt (w2.alloc (.cells #[.slice none 0 0] 28)) aA lA ∧ Below W.heap.size W (w2.alloc (.cells #[.slice none 0 0] 28))) := Lib.hid ⟨m2.out.on d3, RmBlk.new w2 none 0 0, rfl, ⟨fun h => by simp [mergeS] at h, Nat.zero_le _, fun _ => rfl⟩, HEA.out.on Q3, Q3⟩
    have HR : Hid (sb < w2.heap.size ∧ bm < w2.heap.size ∧ W.heap.size ≤ bm ∧ W.heap.size ≤ w2.heap.size) := Lib.hid ⟨m2.out.1.lt, m2.out.2.1.lt, Nat.le_trans q1.out.size hbm.out, Q2.size⟩
    clear d3 Q2 Q3 q1 q2 m2 hbm HLi HNw HEA
    generalize w2.alloc (.cells #[.slice none 0 0] 28) = w3 at *
    generalize w2.heap.size = R at *
    go_loopw [5] (fun i wr => ∃ (k : Nat) (aR : Option Addr) (nR cR : Nat), k ≤ nA ∧ i = .int .i64 (k : Int) ∧ Hid (CAt wr sb bm (mergeS [] (lA.take k)) ∧ RmBlk wr R aR nR cR ∧ nR = (mergeS [] (lA.take k)).length ∧ RefM wr aR cR (mergeS [] (lA.take k)) ∧ EntsAt wr aA lA ∧ Below W.heap.size W wr)) (fun i _ => nA - (intOf i).toNat)
    case atStart => exact ⟨0, none, 0, 0, Nat.zero_le _, rfl, HI0⟩
    case round =>
      clear HI0
      obtain ⟨k, aR, nR, cR, hk, rfl, HI⟩ := hrel
      by_cases hlt : k < nA
      · have hkl : (k : Int) < (nA : Int) := by omega
        have hkx : k < lA.length := by have := HNA.out; omega
        obtain ⟨m, r, hnR, f, x, q⟩ := HI.out
        obtain ⟨bA, oA, rfl, row⟩ := x.row k hkx
        have HRow : Hid (∀ u, EntsAt u (some ⟨bA, oA, none⟩) lA → RowAt u bA (oA + k * 5) lA[k]) := Lib.hid (fun u hu => by
          obtain ⟨b', o', e, hr⟩ := hu.row k hkx
          obtain ⟨rfl, rfl⟩ : bA = b' ∧ oA = o' := by simpa using e
          exact hr)
        have HS1 := Lib.hid (mergeS_succ [] lA k hkx)
        obtain ⟨S, hS⟩ : ∃ S, mergeS [] (lA.take k) = S := ⟨_, rfl⟩
        rw [hS] at m hnR f HS1
        have HPt := Lib.hid (cPut_any sb bm S lA[k] wr m)
        have hPr : ∀ u, RefM u aR cR S → Calls Try.prog 10 #[.agg #[.slice aR nR cR], .agg #[.string lA[k].k, .int .i64 lA[k].t, .int .u16 lA[k].o, .string lA[k].v, .int .i64 lA[k].u]] u (CPutPost u S lA[k]) := fun u hu => crPut_any aR cR S lA[k] u hu m.rising m.2.2.2 nR hnR
        unfold CPutPost at hPr
        generalize lA[k] = y at *
        clear hS hkx HI
        obtain ⟨ky, ty, oy, vy, uy⟩ := y
        obtain ⟨S', hS'⟩ : ∃ z, cputS S ⟨ky, ty, oy, vy, uy⟩ = z := ⟨_, rfl⟩
        obtain ⟨B', hB'⟩ : ∃ z, cputB S ⟨ky, ty, oy, vy, uy⟩ = z := ⟨_, rfl⟩
        obtain ⟨E', hE'⟩ : ∃ z, cputE S ⟨ky, ty, oy, vy, uy⟩ = z := ⟨_, rfl⟩
        rw [hS', hB', hE'] at HPt hPr
        rw [hS'] at HS1
        clear hS' hB' hE'
        obtain ⟨ns, hns⟩ : ∃ z, S'.length = z := ⟨_, rfl⟩
        rw [hns] at hPr
        have HNs := Lib.hid hns
        dsimp only at HPt hPr
        have HPr := Lib.hid hPr
        have HG := Lib.hid (And.intro m (And.intro r (And.intro f (And.intro x q))))
        obtain ⟨c0, c1, c2, c3, c4⟩ := row
        dsimp only at c0 c1 c2 c3 c4
        clear hns hPr m r f x q hnR
        go_wp2_with (go_at_call 9; refine HPt.out.mono ?_; rintro e w1 ⟨rfl, m1, g1⟩; replace m1 := Lib.hid m1; replace g1 := Lib.hid g1; refine Hid.out ?_)
        refine Lib.hid ?_
        clear c0 c1 c2 c3 c4 HPt
        obtain ⟨m, r, f, x, q⟩ := HG.out
        have r1 := r.kept g1.out (fun e => by have := HR.out; have := Option.some.inj e; omega)
        have f1 := f.turn g1.out m.2.1
        have x1 := x.turn g1.out m.2.1
        have q1 := q.grown g1.out q.size (fun j hj => by cases hj; exact HR.out.2.2.1)
        have row1 := HRow.out _ x1
        have m1' := m1.out
        clear m r f x q HG m1 g1
        go_wp2_with fail
        refine wp_region_any (by kernel_rfl) ?_
        change wpAny _ _ _ _ _ _ _ (World.drew _)
        have hS : (fun w' : World => RmBlk w' R aR nR cR ∧ RowAt w' bA (oA + k * 5) ⟨ky, ty, oy, vy, uy⟩ ∧ CAt w' sb bm S' ∧ RefM w' aR cR S ∧ EntsAt w' (some ⟨bA, oA, none⟩) lA ∧ Below W.heap.size W w') w1.drew := ⟨r1, row1, m1', ⟨f1.1, f1.2⟩, x1, q1.drew⟩
        refine wpAny_of_held (S := fun w' => RmBlk w' R aR nR cR ∧ RowAt w' bA (oA + k * 5) ⟨ky, ty, oy, vy, uy⟩ ∧ CAt w' sb bm S' ∧ RefM w' aR cR S ∧ EntsAt w' (some ⟨bA, oA, none⟩) lA ∧ Below W.heap.size W w') _ _ _ _ ?_
        clear r1 row1 m1' f1 x1 q1
        refine wpAnyH_takeE (i := 0) (some 33) (v := ?_) rfl rfl (by as_aux_lemma => kernel_rfl) (by as_aux_lemma => kernel_rfl) (by as_aux_lemma => kernel_rfl) (fun _ _ _ h => h) (Or.inl ⟨by kernel_rfl, ?_⟩) hS ?_
        rotate_left
        · intro w hSw; have r0 := hSw.1.c0; obtain ⟨d0, d1, d2, d3, d4⟩ := hSw.2.1; dsimp only at d0 d1 d2 d3 d4; go_simp
          first | done | with_reducible rfl
        refine wpAnyH_takeE (i := 1) (some 34) (v := ?_) rfl rfl (by as_aux_lemma => kernel_rfl) (by as_aux_lemma => kernel_rfl) (by as_aux_lemma => kernel_rfl) (fun _ _ _ h => h) (Or.inl ⟨by kernel_rfl, ?_⟩) hS ?_
        rotate_left
        · intro w hSw; have r0 := hSw.1.c0; obtain ⟨d0, d1, d2, d3, d4⟩ := hSw.2.1; dsimp only at d0 d1 d2 d3 d4; go_simp
          first | done | with_reducible rfl
        refine wpAnyH_takeE (i := 2) (some 35) (v := ?_) rfl rfl (by as_aux_lemma => kernel_rfl) (by as_aux_lemma => kernel_rfl) (by as_aux_lemma => kernel_rfl) (fun _ _ _ h => h) (Or.inl ⟨by kernel_rfl, ?_⟩) hS ?_
        rotate_left
        · intro w hSw; have r0 := hSw.1.c0; obtain ⟨d0, d1, d2, d3, d4⟩ := hSw.2.1; dsimp only at d0 d1 d2 d3 d4; go_simp
          first | done | with_reducible rfl
        refine wpAnyH_takeE (i := 3) (some 36) (v := ?_) rfl rfl (by as_aux_lemma => kernel_rfl) (by as_aux_lemma => kernel_rfl) (by as_aux_lemma => kernel_rfl) (fun _ _ _ h => h) (Or.inl ⟨by kernel_rfl, ?_⟩) hS ?_
        rotate_left
        · intro w hSw; have r0 := hSw.1.c0; obtain ⟨d0, d1, d2, d3, d4⟩ := hSw.2.1; dsimp only at d0 d1 d2 d3 d4; go_simp
          first | done | with_reducible rfl
        refine wpAnyH_takeE (i := 4) (some 37) (v := ?_) rfl rfl (by as_aux_lemma => kernel_rfl) (by as_aux_lemma => kernel_rfl) (by as_aux_lemma => kernel_rfl) (fun _ _ _ h => h) (Or.inl ⟨by kernel_rfl, ?_⟩) hS ?_
        rotate_left
        · intro w hSw; have r0 := hSw.1.c0; obtain ⟨d0, d1, d2, d3, d4⟩ := hSw.2.1; dsimp only at d0 d1 d2 d3 d4; go_simp
          first | done | with_reducible rfl
        refine wpAnyH_ready (rs := [5, 10]) (by as_aux_lemma => kernel_rfl) (by simp) ?_
        refine AllReadyH.cons rfl (fun K hK => ?_) (AllReadyH.cons rfl (fun K hK => ?_) AllReadyH.nil)
        · go_simp
          go_wp2_with (go_at_call 10; refine (HPr.out _ hS.2.2.2.1).mono ?_; rintro e u ⟨a', c', rfl, f', q'⟩)
          refine hK.out _ _ ?_ (fun hS => ?_)
          · exact ⟨hS.1.on q', hS.2.1.on q', hS.2.2.1.on q', hS.2.2.2.1.on q', hS.2.2.2.2.1.on q', hS.2.2.2.2.2.trans (q'.mono hS.2.2.2.2.2.size)⟩
          clear hK K
          refine wpAnyH_takeE (i := 6) (some 32) (v := ?_) rfl rfl (by as_aux_lemma => kernel_rfl) (by as_aux_lemma => kernel_rfl) (by as_aux_lemma => kernel_rfl) (fun _ _ _ h => h) (Or.inl ⟨by kernel_rfl, ?_⟩) hS ?_
          rotate_left
          · intro w hSw; have r0 := hSw.1.c0; obtain ⟨d0, d1, d2, d3, d4⟩ := hSw.2.1; dsimp only at d0 d1 d2 d3 d4; go_simp
            first | done | with_reducible rfl
          refine wpAnyH_takeE (i := 7) (some 39) (v := ?_) rfl rfl (by as_aux_lemma => kernel_rfl) (by as_aux_lemma => kernel_rfl) (by as_aux_lemma => kernel_rfl) (fun _ _ _ h => h) (Or.inl ⟨by kernel_rfl, ?_⟩) hS ?_
          rotate_left
          · intro w hSw; have r0 := hSw.1.c0; obtain ⟨d0, d1, d2, d3, d4⟩ := hSw.2.1; dsimp only at d0 d1 d2 d3 d4; go_simp
            first | done | with_reducible rfl
          refine wpAnyH_takeE (i := 8) (some 40) (v := ?_) rfl rfl (by as_aux_lemma => kernel_rfl) (by as_aux_lemma => kernel_rfl) (by as_aux_lemma => kernel_rfl) (fun _ _ _ h => h) (Or.inl ⟨by kernel_rfl, ?_⟩) hS ?_
          rotate_left
          · intro w hSw; have r0 := hSw.1.c0; obtain ⟨d0, d1, d2, d3, d4⟩ := hSw.2.1; dsimp only at d0 d1 d2 d3 d4; go_simp
            first | done | with_reducible rfl
          refine wpAnyH_takeE (i := 9) (some 41) (v := ?_) rfl rfl (by as_aux_lemma => kernel_rfl) (by as_aux_lemma => kernel_rfl) (by as_aux_lemma => kernel_rfl) (fun _ _ _ h => h) (Or.inl ⟨by kernel_rfl, ?_⟩) hS ?_
          rotate_left
          · intro w hSw; have r0 := hSw.1.c0; obtain ⟨d0, d1, d2, d3, d4⟩ := hSw.2.1; dsimp only at d0 d1 d2 d3 d4; go_simp
            first | done | with_reducible rfl
          have dX := (Below.refl u.heap.size u).alloc (Nat.le_refl _) (.cells #[.slice none 0 0] 28)
          refine wpAnyH_ready (rs := [10]) (by as_aux_lemma => kernel_rfl) (by simp) ?_
          refine AllReadyH.cons rfl (fun K hK => ?_) AllReadyH.nil
          go_simp
          have hXR : R ≠ u.heap.size := Nat.ne_of_lt hS.1.lt
          have hXs : W.heap.size ≤ u.heap.size ∧ sb < u.heap.size ∧ bm < u.heap.size := ⟨hS.2.2.2.2.2.size, hS.2.2.1.1.lt, hS.2.2.1.2.1.lt⟩
          refine hK.out _ _ ⟨hS.1.on dX, hS.2.1.on dX, hS.2.2.1.on dX, hS.2.2.2.1.on dX, hS.2.2.2.2.1.on dX, hS.2.2.2.2.2.trans (dX.mono hS.2.2.2.2.2.size)⟩ (fun hS => ?_)
          clear hK K
          have nb : RmBlk (u.alloc (.cells #[.slice none 0 0] 28)) u.heap.size none 0 0 := RmBlk.new u none 0 0
          have f2 := f'.on dX
          clear f' dX q'
          generalize hy : u.alloc (.cells #[.slice none 0 0] 28) = u2 at *
          clear hy
          generalize u.heap.size = X at *
          have z0 := nb.c0
          have zf := nb.f 0
          refine wpAnyH_ready (rs := [11]) (by as_aux_lemma => kernel_rfl) (by simp) ?_
          refine AllReadyH.cons rfl (fun K hK => ?_) AllReadyH.nil
          go_simp
          have gX := grown_cell (u2) X (.slice a' ns c')
          have hmm := HR.out
          refine hK.out _ _ ⟨hS.1.kept gX (fun e => hXR (Option.some.inj e)), HRow.out _ (hS.2.2.2.2.1.otherR nb), hS.2.2.1.apart gX (by omega) (by omega), hS.2.2.2.1.other nb, hS.2.2.2.2.1.otherR nb, hS.2.2.2.2.2.setCell (p := ⟨X, 0, none⟩) (by show W.heap.size ≤ X; omega) _⟩ (fun hS => ?_)
          clear hK K z0 zf gX
          have f3 : RefM ((u2).setCell ⟨X, 0, none⟩ (.slice a' ns c')) a' c' S' := f2.other nb
          have nb3 : RmBlk ((u2).setCell ⟨X, 0, none⟩ (.slice a' ns c')) X a' ns c' := nb.set
          clear nb f2
          refine wpAnyH_takeE (i := 12) (some 9) (v := ?_) rfl rfl (by as_aux_lemma => kernel_rfl) (by as_aux_lemma => kernel_rfl) (by as_aux_lemma => kernel_rfl) (fun _ _ _ h => h) (Or.inl ⟨by kernel_rfl, ?_⟩) hS ?_
          rotate_left
          · intro w hSw; have r0 := hSw.1.c0; obtain ⟨d0, d1, d2, d3, d4⟩ := hSw.2.1; dsimp only at d0 d1 d2 d3 d4; go_simp
            first | done | with_reducible rfl
          refine wpAnyH_takeE (i := 13) (some 10) (v := ?_) rfl rfl (by as_aux_lemma => kernel_rfl) (by as_aux_lemma => kernel_rfl) (by as_aux_lemma => kernel_rfl) (fun _ _ _ h => h) (Or.inl ⟨by kernel_rfl, ?_⟩) hS ?_
          rotate_left
          · intro w hSw; have r0 := hSw.1.c0; obtain ⟨d0, d1, d2, d3, d4⟩ := hSw.2.1; dsimp only at d0 d1 d2 d3 d4; go_simp
            first | done | with_reducible rfl
          have h5 := hS
          refine wpAnyH_done (by kernel_rfl) ?_ _
          clear hS
          go_simp
          generalize ((u2).setCell ⟨X, 0, none⟩ (.slice a' ns c')) = w5 at *
          have y0 := nb3.c0
          have s0 := h5.1.c0
          have sf := h5.1.f 0
          have gR := grown_cell w5 R (.slice a' ns c')
          have HJ : Hid (CAt (w5.setCell ⟨R, 0, none⟩ (.slice a' ns c')) sb bm S' ∧ RmBlk (w5.setCell ⟨R, 0, none⟩ (.slice a' ns c')) R a' ns c' ∧ ns = S'.length ∧ RefM (w5.setCell ⟨R, 0, none⟩ (.slice a' ns c')) a' c' S' ∧ EntsAt (w5.setCell ⟨R, 0, none⟩ (.slice a' ns c')) (some ⟨bA, oA, none⟩) lA ∧ Below W.heap.size W (w5.setCell ⟨R, 0, none⟩ (.slice a' ns c'))) := Lib.hid ⟨h5.2.2.1.apart gR (by omega) (by omega), h5.1.set, HNs.out.symm, f3.other h5.1, h5.2.2.2.2.1.otherR h5.1, h5.2.2.2.2.2.setCell (p := ⟨R, 0, none⟩) (by show W.heap.size ≤ R; omega) _⟩
          have HCs := Lib.hid (csame_any sb bm S' a' c' _ HJ.out.1 HJ.out.2.2.2.1.1 ns HJ.out.2.2.1)
          have t0 := HJ.out.2.1.c0
          clear gR h5 f3 nb3
          rw [← HS1.out] at HJ
          by_cases h16 : k % 16 = 0
          · have h17 : Int.tmod (k : Int) 16 = 0 := by rw [Int.tmod_eq_emod_of_nonneg (by omega)]; omega
            go_wp2_with (go_at_call 11; refine HCs.out.mono ?_; rintro e w9 ⟨rfl, q9⟩; replace q9 := Lib.hid q9; refine Hid.out ?_)
            refine Lib.hid ?_
            have HJ2 := Lib.hid (And.intro (HJ.out.1.on q9.out) (And.intro (HJ.out.2.1.on q9.out) (And.intro HJ.out.2.2.1 (And.intro (HJ.out.2.2.2.1.on q9.out) (And.intro (HJ.out.2.2.2.2.1.on q9.out) (HJ.out.2.2.2.2.2.trans (q9.out.mono HJ.out.2.2.2.2.2.size)))))))
            clear t0 HJ HCs
            go_wp2
            go_roundw
            case rel => exact ⟨k + 1, a', ns, c', by omega, by go_num, HJ2⟩
            case measure => simp [intOf]; omega
          · have h17 : Int.tmod (k : Int) 16 ≠ 0 := by rw [Int.tmod_eq_emod_of_nonneg (by omega)]; omega
            go_wp2
            go_roundw
            case rel => exact ⟨k + 1, a', ns, c', by omega, by go_num, HJ⟩
            case measure => simp [intOf]; omega
        · go_simp
          have dX : Below w1.drew.heap.size w1.drew (w1.alloc (.cells #[.slice none 0 0] 28)).drew := (Below.refl w1.drew.heap.size w1.drew).alloc (Nat.le_refl _) (.cells #[.slice none 0 0] 28)
          have hXR : R ≠ w1.heap.size := Nat.ne_of_lt hS.1.lt
          have hXs : W.heap.size ≤ w1.heap.size ∧ sb < w1.heap.size ∧ bm < w1.heap.size := ⟨hS.2.2.2.2.2.size, hS.2.2.1.1.lt, hS.2.2.1.2.1.lt⟩
          have nb0 : RmBlk (w1.alloc (.cells #[.slice none 0 0] 28)).drew w1.heap.size none 0 0 := RmBlk.new w1 none 0 0
          refine hK.out _ _ ⟨hS.1.on dX, hS.2.1.on dX, hS.2.2.1.on dX, hS.2.2.2.1.on dX, hS.2.2.2.2.1.on dX, hS.2.2.2.2.2.trans (dX.mono hS.2.2.2.2.2.size)⟩ (fun hS => ?_)
          clear hK K dX
          refine wpAnyH_ready (rs := [5]) (by as_aux_lemma => kernel_rfl) (by simp) ?_
          refine AllReadyH.cons rfl (fun K hK => ?_) AllReadyH.nil
          go_simp
          go_wp2_with (go_at_call 10; refine (HPr.out _ hS.2.2.2.1).mono ?_; rintro e u ⟨a', c', rfl, f', q'⟩)
          have nb := nb0.on q'
          refine hK.out _ _ ?_ (fun hS => ?_)
          · exact ⟨hS.1.on q', hS.2.1.on q', hS.2.2.1.on q', hS.2.2.2.1.on q', hS.2.2.2.2.1.on q', hS.2.2.2.2.2.trans (q'.mono hS.2.2.2.2.2.size)⟩
          clear hK K q' nb0
          have f2 := f'
          clear f'
          refine wpAnyH_takeE (i := 6) (some 32) (v := ?_) rfl rfl (by as_aux_lemma => kernel_rfl) (by as_aux_lemma => kernel_rfl) (by as_aux_lemma => kernel_rfl) (fun _ _ _ h => h) (Or.inl ⟨by kernel_rfl, ?_⟩) hS ?_
          rotate_left
          · intro w hSw; have r0 := hSw.1.c0; obtain ⟨d0, d1, d2, d3, d4⟩ := hSw.2.1; dsimp only at d0 d1 d2 d3 d4; go_simp
            first | done | with_reducible rfl
          refine wpAnyH_takeE (i := 7) (some 39) (v := ?_) rfl rfl (by as_aux_lemma => kernel_rfl) (by as_aux_lemma => kernel_rfl) (by as_aux_lemma => kernel_rfl) (fun _ _ _ h => h) (Or.inl ⟨by kernel_rfl, ?_⟩) hS ?_
          rotate_left
          · intro w hSw; have r0 := hSw.1.c0; obtain ⟨d0, d1, d2, d3, d4⟩ := hSw.2.1; dsimp only at d0 d1 d2 d3 d4; go_simp
            first | done | with_reducible rfl
          refine wpAnyH_takeE (i := 8) (some 40) (v := ?_) rfl rfl (by as_aux_lemma => kernel_rfl) (by as_aux_lemma => kernel_rfl) (by as_aux_lemma => kernel_rfl) (fun _ _ _ h => h) (Or.inl ⟨by kernel_rfl, ?_⟩) hS ?_
          rotate_left
          · intro w hSw; have r0 := hSw.1.c0; obtain ⟨d0, d1, d2, d3, d4⟩ := hSw.2.1; dsimp only at d0 d1 d2 d3 d4; go_simp
            first | done | with_reducible rfl
          refine wpAnyH_takeE (i := 9) (some 41) (v := ?_) rfl rfl (by as_aux_lemma => kernel_rfl) (by as_aux_lemma => kernel_rfl) (by as_aux_lemma => kernel_rfl) (fun _ _ _ h => h) (Or.inl ⟨by kernel_rfl, ?_⟩) hS ?_
          rotate_left
          · intro w hSw; have r0 := hSw.1.c0; obtain ⟨d0, d1, d2, d3, d4⟩ := hSw.2.1; dsimp only at d0 d1 d2 d3 d4; go_simp
            first | done | with_reducible rfl
          generalize w1.heap.size = X at *
          have z0 := nb.c0
          have zf := nb.f 0
          refine wpAnyH_ready (rs := [11]) (by as_aux_lemma => kernel_rfl) (by simp) ?_
          refine AllReadyH.cons rfl (fun K hK => ?_) AllReadyH.nil
          go_simp
          have gX := grown_cell (u) X (.slice a' ns c')
          have hmm := HR.out
          refine hK.out _ _ ⟨hS.1.kept gX (fun e => hXR (Option.some.inj e)), HRow.out _ (hS.2.2.2.2.1.otherR nb), hS.2.2.1.apart gX (by omega) (by omega), hS.2.2.2.1.other nb, hS.2.2.2.2.1.otherR nb, hS.2.2.2.2.2.setCell (p := ⟨X, 0, none⟩) (by show W.heap.size ≤ X; omega) _⟩ (fun hS => ?_)
          clear hK K z0 zf gX
          have f3 : RefM ((u).setCell ⟨X, 0, none⟩ (.slice a' ns c')) a' c' S' := f2.other nb
          have nb3 : RmBlk ((u).setCell ⟨X, 0, none⟩ (.slice a' ns c')) X a' ns c' := nb.set
          clear nb f2
          refine wpAnyH_takeE (i := 12) (some 9) (v := ?_) rfl rfl (by as_aux_lemma => kernel_rfl) (by as_aux_lemma => kernel_rfl) (by as_aux_lemma => kernel_rfl) (fun _ _ _ h => h) (Or.inl ⟨by kernel_rfl, ?_⟩) hS ?_
          rotate_left
          · intro w hSw; have r0 := hSw.1.c0; obtain ⟨d0, d1, d2, d3, d4⟩ := hSw.2.1; dsimp only at d0 d1 d2 d3 d4; go_simp
            first | done | with_reducible rfl
          refine wpAnyH_takeE (i := 13) (some 10) (v := ?_) rfl rfl (by as_aux_lemma => kernel_rfl) (by as_aux_lemma => kernel_rfl) (by as_aux_lemma => kernel_rfl) (fun _ _ _ h => h) (Or.inl ⟨by kernel_rfl, ?_⟩) hS ?_
          rotate_left
          · intro w hSw; have r0 := hSw.1.c0; obtain ⟨d0, d1, d2, d3, d4⟩ := hSw.2.1; dsimp only at d0 d1 d2 d3 d4; go_simp
            first | done | with_reducible rfl
          have h5 := hS
          refine wpAnyH_done (by kernel_rfl) ?_ _
          clear hS
          go_simp
          generalize ((u).setCell ⟨X, 0, none⟩ (.slice a' ns c')) = w5 at *
          have y0 := nb3.c0
          have s0 := h5.1.c0
          have sf := h5.1.f 0
          have gR := grown_cell w5 R (.slice a' ns c')
          have HJ : Hid (CAt (w5.setCell ⟨R, 0, none⟩ (.slice a' ns c')) sb bm S' ∧ RmBlk (w5.setCell ⟨R, 0, none⟩ (.slice a' ns c')) R a' ns c' ∧ ns = S'.length ∧ RefM (w5.setCell ⟨R, 0, none⟩ (.slice a' ns c')) a' c' S' ∧ EntsAt (w5.setCell ⟨R, 0, none⟩ (.slice a' ns c')) (some ⟨bA, oA, none⟩) lA ∧ Below W.heap.size W (w5.setCell ⟨R, 0, none⟩ (.slice a' ns c'))) := Lib.hid ⟨h5.2.2.1.apart gR (by omega) (by omega), h5.1.set, HNs.out.symm, f3.other h5.1, h5.2.2.2.2.1.otherR h5.1, h5.2.2.2.2.2.setCell (p := ⟨R, 0, none⟩) (by show W.heap.size ≤ R; omega) _⟩
          have HCs := Lib.hid (csame_any sb bm S' a' c' _ HJ.out.1 HJ.out.2.2.2.1.1 ns HJ.out.2.2.1)
          have t0 := HJ.out.2.1.c0
          clear gR h5 f3 nb3
          rw [← HS1.out] at HJ
          by_cases h16 : k % 16 = 0
          · have h17 : Int.tmod (k : Int) 16 = 0 := by rw [Int.tmod_eq_emod_of_nonneg (by omega)]; omega
            go_wp2_with (go_at_call 11; refine HCs.out.mono ?_; rintro e w9 ⟨rfl, q9⟩; replace q9 := Lib.hid q9; refine Hid.out ?_)
            refine Lib.hid ?_
            have HJ2 := Lib.hid (And.intro (HJ.out.1.on q9.out) (And.intro (HJ.out.2.1.on q9.out) (And.intro HJ.out.2.2.1 (And.intro (HJ.out.2.2.2.1.on q9.out) (And.intro (HJ.out.2.2.2.2.1.on q9.out) (HJ.out.2.2.2.2.2.trans (q9.out.mono HJ.out.2.2.2.2.2.size)))))))
            clear t0 HJ HCs
            go_wp2
            go_roundw
            case rel => exact ⟨k + 1, a', ns, c', by omega, by go_num, HJ2⟩
            case measure => simp [intOf]; omega
          · have h17 : Int.tmod (k : Int) 16 ≠ 0 := by rw [Int.tmod_eq_emod_of_nonneg (by omega)]; omega
            go_wp2
            go_roundw
            case rel => exact ⟨k + 1, a', ns, c', by omega, by go_num, HJ⟩
            case measure => simp [intOf]; omega
      · have hkl : ¬ (k : Int) < (nA : Int) := by omega
        obtain ⟨m, r, hnR, f, x, q⟩ := HI.out
        have r0 := r.c0
        have HCs := Lib.hid (csame_any sb bm _ aR cR wr m f.1 nR hnR)
        have HQ := Lib.hid q
        clear m r f x q hnR HI
        go_wp2_with (go_at_call 11; refine HCs.out.mono ?_; rintro e w9 ⟨rfl, q9⟩; replace q9 := Lib.hid q9; refine Hid.out ?_)
        refine Lib.hid ?_
        go_wp2_with (go_at_call 7; refine (cawake_any _).mono ?_; rintro e w10 ⟨rfl, q10⟩)
        go_ret
        have Q9 := HQ.out.trans (q9.out.mono HQ.out.size)
        exact ⟨rfl, Q9.trans (q10.mono Q9.size)⟩
  · rw [decide_eq_false h1] at HLi
    clear hA heA h1
    go_enter Try.func3, Try.ntmps3
    go_wp2_with (go_at_call 6; refine HLi.out.mono ?_; rintro e w1 ⟨rfl, q1⟩; replace q1 := Lib.hid q1; refine Hid.out ?_)
    refine Lib.hid ?_
    go_wp2_with (go_at_call 7; refine (cawake_any _).mono ?_; rintro e w10 ⟨rfl, q10⟩)
    go_ret
    exact ⟨rfl, q1.out.trans (q10.mono q1.out.size)⟩

end Go.Proofs.Ytcdlalbmafipdab
