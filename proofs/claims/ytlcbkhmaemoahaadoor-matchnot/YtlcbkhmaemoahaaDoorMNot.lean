/-
  The walk of MatchNot.
-/
import Derived.Test.YtlcbkhmaemoahaaDoorM4
import Derived.Deep.RegionHeld3
namespace Go.Proofs.YtlcbkhmaemoahaaDoor
open Go.RowKit

set_option maxHeartbeats 4000000 in
theorem not_walk (n : ByteArray) (o : Nat) (v : ByteArray) (a : Option Addr) (c : Nat) (ps : List Pr) (w : World) (htab : TabW w) (h : PairsAt w a ps) (hn : ps.length ≤ 9223372036854775807) :
    Calls Tryd.prog 8 #[.agg #[.string n, .int .u8 (o : Int), .string v], .slice a ps.length c] w fun e w' => e = .returned (.bool true) ∧ Below w.heap.size w w' := by
  have htl := htab.lt
  have HW := Lib.hid (fun u (hu : TabW u) => mawake_any u hu)
  have HL := Lib.hid (fun u (hu : PairsAt u a ps) => nLight_any none a 0 0 c ps u hu (by decide) hn)
  have hA := (Below.refl w.heap.size w).alloc (Nat.le_refl _) (.cells #[.string n, .int .u8 (o : Int), .string v] 41)
  have hm0 : MtBlk (w.alloc (.cells #[.string n, .int .u8 (o : Int), .string v] 41)) w.heap.size (n, o, v) := heap_new w _
  have hP := h.below hA (Nat.le_refl _)
  have hsA : (w.alloc (.cells #[.string n, .int .u8 (o : Int), .string v] 41)).heap.size = w.heap.size + 1 := by simp
  by_cases hl : LightP 0 ps
  · rw [decide_eq_true hl] at HL
    have hv : ∀ p ∈ ps, p.2.size ≤ 9223372036854775807 := fun p hp => by have := hl.2.2 p hp; omega
    clear hl
    have HC := Lib.hid (fun (m : Nat) u (hu : TabW u) => mCheck_any n m v u hu)
    have HO := Lib.hid (fun (m : Nat) u (hu : TabW u) (hp : PairsAt u a ps) => mOne_any n m v a c ps u hu hp hn hv _ rfl)
    go_enter Tryd.func8, Tryd.ntmps8
    go_wp2_with (go_at_call 20; refine (HL.out _ hP).mono ?_; rintro e w1 ⟨rfl, q1⟩; refine Hid.out ?_)
    refine Lib.hid ?_
    have b1 := hA.trans (q1.mono (by omega))
    have hm1 : MtBlk w1 w.heap.size (n, o, v) := (q1.block w.heap.size (by omega)).trans hm0
    have c0 : w1.cell? ⟨w.heap.size, 0, none⟩ = some (.string n) := hm1.cell0
    have c1 : w1.cell? ⟨w.heap.size, 1, none⟩ = some (.int .u8 (o : Int)) := hm1.cell1
    have c2 : w1.cell? ⟨w.heap.size, 2, none⟩ = some (.string v) := hm1.cell2
    have hs1 := hm1.lt
    go_wp2_with (go_at_call 16; refine Hid.out ?_)
    clear c0 c1 c2
    by_cases he : mErr (n, o, v) = 0
    · have hx : bits BinOp.xor IntKind.u8 (o : Int) 1 = ((o ^^^ 1 : Nat) : Int) := by
        obtain ⟨-, ho, -, -⟩ := mErr_zero he
        simp only at ho
        rcases (by omega : o = 0 ∨ o = 1 ∨ o = 2 ∨ o = 3) with rfl | rfl | rfl | rfl <;> decide
      have HE : Hid (mErr (n, o ^^^ 1, v) = 0) := Lib.hid (mErr_not he)
      have HN : Hid (mAsk ps (n, o ^^^ 1, v) ↔ ¬ mAsk ps (n, o, v)) := Lib.hid (mAsk_not ps he)
      simp only [hx]
      clear hx
      generalize o ^^^ 1 = o' at *
      refine Lib.hid ?_
      have hA2 := (Below.refl w1.heap.size w1).alloc (Nat.le_refl _) (.cells #[.string n, .int .u8 (o' : Int), .string v] 41)
      have hq0 : MtBlk (w1.alloc (.cells #[.string n, .int .u8 (o' : Int), .string v] 41)) w1.heap.size (n, o', v) := heap_new w1 _
      have b2 := b1.trans (hA2.mono b1.size)
      have P2 := (hP.below q1 (Nat.le_refl _)).below hA2 (Nat.le_refl _)
      have hm2a : MtBlk (w1.alloc (.cells #[.string n, .int .u8 (o' : Int), .string v] 41)) w.heap.size (n, o, v) := (hA2.block w.heap.size hs1).trans hm1
      have H1 := HC.out o _ (htab.on b2 htl)
      rw [he] at H1
      refine H1.mono ?_
      rintro e w2 ⟨rfl, q2⟩
      generalize w1.alloc (.cells #[.string n, .int .u8 (o' : Int), .string v] 41) = W2 at *
      have b3 := b2.trans (q2.mono b2.size)
      have P3 := P2.below q2 (Nat.le_refl _)
      have hm3 : MtBlk w2 w.heap.size (n, o, v) := (q2.block _ hm2a.lt).trans hm2a
      have hq3 : MtBlk w2 w1.heap.size (n, o', v) := (q2.block _ hq0.lt).trans hq0
      have H4 : Hid (∀ u, Below w.heap.size w u → Calls Tryd.prog 16 #[.agg #[.string n, .int .u8 (o' : Int), .string v]] u fun e w' => e = .returned (.int .i64 0) ∧ Below u.heap.size u w') := Lib.hid (fun u hu => by
        have k := HC.out o' u (htab.on hu htl)
        rw [HE.out] at k
        exact k)
      clear hm0 hm1 hm2a hq0 b1 b2 P2 hP h hA hA2 q1 q2 H1 HL he
      by_cases hk : mAsk ps (n, o, v)
      · skip
        have H2 : Hid (∀ u, Below w.heap.size w u → PairsAt u a ps → Calls Tryd.prog 21 #[.agg #[.string n, .int .u8 (o : Int), .string v], .slice a ps.length c] u fun e w' => e = .returned (.bool true) ∧ Below u.heap.size u w') := Lib.hid (fun u hu hp => (HO.out o u (htab.on hu htl) hp).mono fun e w' ⟨ht, hb⟩ => ⟨tells_yes ht hk, hb⟩)
        have H3 : Hid (∀ u, Below w.heap.size w u → PairsAt u a ps → Calls Tryd.prog 21 #[.agg #[.string n, .int .u8 (o' : Int), .string v], .slice a ps.length c] u fun e w' => e = .returned (.bool false) ∧ Below u.heap.size u w') := Lib.hid (fun u hu hp => (HO.out o' u (htab.on hu htl) hp).mono fun e w' ⟨ht, hb⟩ => ⟨tells_no ht (fun k => HN.out.1 k hk), hb⟩)
        clear hk HO HN HC HE
        go_wp2_with fail
        refine wp_region_any (by kernel_rfl) ?_
        change wpAny _ _ _ _ _ _ _ (World.drew _)
        have hS : (fun w' : World => MtBlk w' w.heap.size (n, o, v) ∧ MtBlk w' w1.heap.size (n, o', v)) w2.drew := ⟨hm3, hq3⟩
        refine wpAny_of_held (S := fun w' => MtBlk w' w.heap.size (n, o, v) ∧ MtBlk w' w1.heap.size (n, o', v)) _ _ _ _ ?_
        refine wpAnyH_take (i := 0) (v := ?_) rfl (by as_aux_lemma => kernel_rfl) (by as_aux_lemma => kernel_rfl) (by as_aux_lemma => kernel_rfl) (fun _ _ _ h => h) (Or.inl ⟨by kernel_rfl, ?_⟩) hS ?_
        rotate_left
        · intro w hSw; have c0 := hSw.1.cell0; have c1 := hSw.1.cell1; have c2 := hSw.1.cell2; have d0 := hSw.2.cell0; have d1 := hSw.2.cell1; have d2 := hSw.2.cell2; simp only at c0 c1 c2 d0 d1 d2; go_simp
          first | done | with_reducible rfl
        skip
        refine wpAnyH_take (i := 1) (v := ?_) rfl (by as_aux_lemma => kernel_rfl) (by as_aux_lemma => kernel_rfl) (by as_aux_lemma => kernel_rfl) (fun _ _ _ h => h) (Or.inl ⟨by kernel_rfl, ?_⟩) hS ?_
        rotate_left
        · intro w hSw; have c0 := hSw.1.cell0; have c1 := hSw.1.cell1; have c2 := hSw.1.cell2; have d0 := hSw.2.cell0; have d1 := hSw.2.cell1; have d2 := hSw.2.cell2; simp only at c0 c1 c2 d0 d1 d2; go_simp
          first | done | with_reducible rfl
        skip
        refine wpAnyH_take (i := 3) (v := ?_) rfl (by as_aux_lemma => kernel_rfl) (by as_aux_lemma => kernel_rfl) (by as_aux_lemma => kernel_rfl) (fun _ _ _ h => h) (Or.inl ⟨by kernel_rfl, ?_⟩) hS ?_
        rotate_left
        · intro w hSw; have c0 := hSw.1.cell0; have c1 := hSw.1.cell1; have c2 := hSw.1.cell2; have d0 := hSw.2.cell0; have d1 := hSw.2.cell1; have d2 := hSw.2.cell2; simp only at c0 c1 c2 d0 d1 d2; go_simp
          first | done | with_reducible rfl
        skip
        refine wpAnyH_take (i := 4) (v := ?_) rfl (by as_aux_lemma => kernel_rfl) (by as_aux_lemma => kernel_rfl) (by as_aux_lemma => kernel_rfl) (fun _ _ _ h => h) (Or.inl ⟨by kernel_rfl, ?_⟩) hS ?_
        rotate_left
        · intro w hSw; have c0 := hSw.1.cell0; have c1 := hSw.1.cell1; have c2 := hSw.1.cell2; have d0 := hSw.2.cell0; have d1 := hSw.2.cell1; have d2 := hSw.2.cell2; simp only at c0 c1 c2 d0 d1 d2; go_simp
          first | done | with_reducible rfl
        skip
        refine wpAnyH_ready (rs := [2]) (by as_aux_lemma => kernel_rfl) (by simp) ?_
        refine AllReadyH.cons rfl (fun K hK => ?_) AllReadyH.nil
        go_simp
        go_wp2_with (go_at_call 21; refine (H2.out _ b3.drew (P3.below (Below.refl w2.heap.size w2).drew (Nat.le_refl _))).mono ?_; rintro e w3 ⟨rfl, q3⟩; have b4 := b3.drew.trans (q3.mono b3.size); have P4 := (P3.below (Below.refl w2.heap.size w2).drew (Nat.le_refl _)).below q3 (Nat.le_refl _))
        refine hK.out _ _ ?_ (fun hS => ?_)
        · exact ⟨hS.1.below q3, hS.2.below q3⟩
        clear hK K
        refine wpAnyH_ready (rs := [5]) (by as_aux_lemma => kernel_rfl) (by simp) ?_
        refine AllReadyH.cons rfl (fun K hK => ?_) AllReadyH.nil
        go_simp
        go_wp2_with (go_at_call 21; refine (H3.out _ b4 P4).mono ?_; rintro e w4 ⟨rfl, q4⟩; have b5 := b4.trans (q4.mono b4.size))
        refine hK.out _ _ ?_ (fun hS => ?_)
        · exact ⟨hS.1.below q4, hS.2.below q4⟩
        clear hK K
        refine wpAnyH_take (i := 6) (v := ?_) rfl (by as_aux_lemma => kernel_rfl) (by as_aux_lemma => kernel_rfl) (by as_aux_lemma => kernel_rfl) (fun _ _ _ h => h) (Or.inl ⟨by kernel_rfl, ?_⟩) hS ?_
        rotate_left
        · intro w hSw; have c0 := hSw.1.cell0; have c1 := hSw.1.cell1; have c2 := hSw.1.cell2; have d0 := hSw.2.cell0; have d1 := hSw.2.cell1; have d2 := hSw.2.cell2; simp only at c0 c1 c2 d0 d1 d2; go_simp
          first | done | with_reducible rfl
        skip
        refine wpAnyH_take (i := 7) (v := ?_) rfl (by as_aux_lemma => kernel_rfl) (by as_aux_lemma => kernel_rfl) (by as_aux_lemma => kernel_rfl) (fun _ _ _ h => h) (Or.inl ⟨by kernel_rfl, ?_⟩) hS ?_
        rotate_left
        · intro w hSw; have c0 := hSw.1.cell0; have c1 := hSw.1.cell1; have c2 := hSw.1.cell2; have d0 := hSw.2.cell0; have d1 := hSw.2.cell1; have d2 := hSw.2.cell2; simp only at c0 c1 c2 d0 d1 d2; go_simp
          first | done | with_reducible rfl
        skip
        refine wpAnyH_take (i := 8) (v := ?_) rfl (by as_aux_lemma => kernel_rfl) (by as_aux_lemma => kernel_rfl) (by as_aux_lemma => kernel_rfl) (fun _ _ _ h => h) (Or.inl ⟨by kernel_rfl, ?_⟩) hS ?_
        rotate_left
        · intro w hSw; have c0 := hSw.1.cell0; have c1 := hSw.1.cell1; have c2 := hSw.1.cell2; have d0 := hSw.2.cell0; have d1 := hSw.2.cell1; have d2 := hSw.2.cell2; simp only at c0 c1 c2 d0 d1 d2; go_simp
          first | done | with_reducible rfl
        skip
        refine wpAnyH_ready (rs := [9]) (by as_aux_lemma => kernel_rfl) (by simp) ?_
        refine AllReadyH.cons rfl (fun K hK => ?_) AllReadyH.nil
        go_simp
        go_wp2_with (go_at_call 16; refine (H4.out _ b5).mono ?_; rintro e w5 ⟨rfl, q5⟩; have b6 := b5.trans (q5.mono b5.size))
        refine hK.out _ _ ?_ (fun hS => ?_)
        · exact ⟨hS.1.below q5, hS.2.below q5⟩
        clear hK K
        refine wpAnyH_take (i := 10) (v := ?_) rfl (by as_aux_lemma => kernel_rfl) (by as_aux_lemma => kernel_rfl) (by as_aux_lemma => kernel_rfl) (fun _ _ _ h => h) (Or.inl ⟨by kernel_rfl, ?_⟩) hS ?_
        rotate_left
        · intro w hSw; have c0 := hSw.1.cell0; have c1 := hSw.1.cell1; have c2 := hSw.1.cell2; have d0 := hSw.2.cell0; have d1 := hSw.2.cell1; have d2 := hSw.2.cell2; simp only at c0 c1 c2 d0 d1 d2; go_simp
          first | done | with_reducible rfl
        skip
        refine wpAnyH_take (i := 11) (v := ?_) rfl (by as_aux_lemma => kernel_rfl) (by as_aux_lemma => kernel_rfl) (by as_aux_lemma => kernel_rfl) (fun _ _ _ h => h) (Or.inl ⟨by kernel_rfl, ?_⟩) hS ?_
        rotate_left
        · intro w hSw; have c0 := hSw.1.cell0; have c1 := hSw.1.cell1; have c2 := hSw.1.cell2; have d0 := hSw.2.cell0; have d1 := hSw.2.cell1; have d2 := hSw.2.cell2; simp only at c0 c1 c2 d0 d1 d2; go_simp
          first | done | with_reducible rfl
        skip
        refine wpAnyH_take (i := 12) (v := ?_) rfl (by as_aux_lemma => kernel_rfl) (by as_aux_lemma => kernel_rfl) (by as_aux_lemma => kernel_rfl) (fun _ _ _ h => h) (Or.inl ⟨by kernel_rfl, ?_⟩) hS ?_
        rotate_left
        · intro w hSw; have c0 := hSw.1.cell0; have c1 := hSw.1.cell1; have c2 := hSw.1.cell2; have d0 := hSw.2.cell0; have d1 := hSw.2.cell1; have d2 := hSw.2.cell2; simp only at c0 c1 c2 d0 d1 d2; go_simp
          first | done | with_reducible rfl
        skip
        refine wpAnyH_ready (rs := [13]) (by as_aux_lemma => kernel_rfl) (by simp) ?_
        refine AllReadyH.cons rfl (fun K hK => ?_) AllReadyH.nil
        go_simp
        go_wp2_with (go_at_call 15; refine (HW.out _ (htab.on b6 htl)).mono ?_; rintro e w6 ⟨rfl, q6⟩; have b7 := b6.trans (q6.mono b6.size))
        refine hK.out _ _ ?_ (fun hS => ?_)
        · exact ⟨hS.1.below q6, hS.2.below q6⟩
        clear hK K
        refine wpAnyH_take (i := 14) (v := ?_) rfl (by as_aux_lemma => kernel_rfl) (by as_aux_lemma => kernel_rfl) (by as_aux_lemma => kernel_rfl) (fun _ _ _ h => h) (Or.inl ⟨by kernel_rfl, ?_⟩) hS ?_
        rotate_left
        · intro w hSw; have c0 := hSw.1.cell0; have c1 := hSw.1.cell1; have c2 := hSw.1.cell2; have d0 := hSw.2.cell0; have d1 := hSw.2.cell1; have d2 := hSw.2.cell2; simp only at c0 c1 c2 d0 d1 d2; go_simp
          first | done | with_reducible rfl
        skip
        refine wpAnyH_take (i := 15) (v := ?_) rfl (by as_aux_lemma => kernel_rfl) (by as_aux_lemma => kernel_rfl) (by as_aux_lemma => kernel_rfl) (fun _ _ _ h => h) (Or.inl ⟨by kernel_rfl, ?_⟩) hS ?_
        rotate_left
        · intro w hSw; have c0 := hSw.1.cell0; have c1 := hSw.1.cell1; have c2 := hSw.1.cell2; have d0 := hSw.2.cell0; have d1 := hSw.2.cell1; have d2 := hSw.2.cell2; simp only at c0 c1 c2 d0 d1 d2; go_simp
          first | done | with_reducible rfl
        skip
        refine wpAnyH_done (by kernel_rfl) ?_ _
        go_wp2
        go_ret
        exact ⟨rfl, b7⟩
      · skip
        have H2 : Hid (∀ u, Below w.heap.size w u → PairsAt u a ps → Calls Tryd.prog 21 #[.agg #[.string n, .int .u8 (o : Int), .string v], .slice a ps.length c] u fun e w' => e = .returned (.bool false) ∧ Below u.heap.size u w') := Lib.hid (fun u hu hp => (HO.out o u (htab.on hu htl) hp).mono fun e w' ⟨ht, hb⟩ => ⟨tells_no ht hk, hb⟩)
        have H3 : Hid (∀ u, Below w.heap.size w u → PairsAt u a ps → Calls Tryd.prog 21 #[.agg #[.string n, .int .u8 (o' : Int), .string v], .slice a ps.length c] u fun e w' => e = .returned (.bool true) ∧ Below u.heap.size u w') := Lib.hid (fun u hu hp => (HO.out o' u (htab.on hu htl) hp).mono fun e w' ⟨ht, hb⟩ => ⟨tells_yes ht (HN.out.2 hk), hb⟩)
        clear hk HO HN HC HE
        go_wp2_with fail
        refine wp_region_any (by kernel_rfl) ?_
        change wpAny _ _ _ _ _ _ _ (World.drew _)
        have hS : (fun w' : World => MtBlk w' w.heap.size (n, o, v) ∧ MtBlk w' w1.heap.size (n, o', v)) w2.drew := ⟨hm3, hq3⟩
        refine wpAny_of_held (S := fun w' => MtBlk w' w.heap.size (n, o, v) ∧ MtBlk w' w1.heap.size (n, o', v)) _ _ _ _ ?_
        refine wpAnyH_take (i := 0) (v := ?_) rfl (by as_aux_lemma => kernel_rfl) (by as_aux_lemma => kernel_rfl) (by as_aux_lemma => kernel_rfl) (fun _ _ _ h => h) (Or.inl ⟨by kernel_rfl, ?_⟩) hS ?_
        rotate_left
        · intro w hSw; have c0 := hSw.1.cell0; have c1 := hSw.1.cell1; have c2 := hSw.1.cell2; have d0 := hSw.2.cell0; have d1 := hSw.2.cell1; have d2 := hSw.2.cell2; simp only at c0 c1 c2 d0 d1 d2; go_simp
          first | done | with_reducible rfl
        skip
        refine wpAnyH_take (i := 1) (v := ?_) rfl (by as_aux_lemma => kernel_rfl) (by as_aux_lemma => kernel_rfl) (by as_aux_lemma => kernel_rfl) (fun _ _ _ h => h) (Or.inl ⟨by kernel_rfl, ?_⟩) hS ?_
        rotate_left
        · intro w hSw; have c0 := hSw.1.cell0; have c1 := hSw.1.cell1; have c2 := hSw.1.cell2; have d0 := hSw.2.cell0; have d1 := hSw.2.cell1; have d2 := hSw.2.cell2; simp only at c0 c1 c2 d0 d1 d2; go_simp
          first | done | with_reducible rfl
        skip
        refine wpAnyH_take (i := 3) (v := ?_) rfl (by as_aux_lemma => kernel_rfl) (by as_aux_lemma => kernel_rfl) (by as_aux_lemma => kernel_rfl) (fun _ _ _ h => h) (Or.inl ⟨by kernel_rfl, ?_⟩) hS ?_
        rotate_left
        · intro w hSw; have c0 := hSw.1.cell0; have c1 := hSw.1.cell1; have c2 := hSw.1.cell2; have d0 := hSw.2.cell0; have d1 := hSw.2.cell1; have d2 := hSw.2.cell2; simp only at c0 c1 c2 d0 d1 d2; go_simp
          first | done | with_reducible rfl
        skip
        refine wpAnyH_take (i := 4) (v := ?_) rfl (by as_aux_lemma => kernel_rfl) (by as_aux_lemma => kernel_rfl) (by as_aux_lemma => kernel_rfl) (fun _ _ _ h => h) (Or.inl ⟨by kernel_rfl, ?_⟩) hS ?_
        rotate_left
        · intro w hSw; have c0 := hSw.1.cell0; have c1 := hSw.1.cell1; have c2 := hSw.1.cell2; have d0 := hSw.2.cell0; have d1 := hSw.2.cell1; have d2 := hSw.2.cell2; simp only at c0 c1 c2 d0 d1 d2; go_simp
          first | done | with_reducible rfl
        skip
        refine wpAnyH_ready (rs := [2]) (by as_aux_lemma => kernel_rfl) (by simp) ?_
        refine AllReadyH.cons rfl (fun K hK => ?_) AllReadyH.nil
        go_simp
        go_wp2_with (go_at_call 21; refine (H2.out _ b3.drew (P3.below (Below.refl w2.heap.size w2).drew (Nat.le_refl _))).mono ?_; rintro e w3 ⟨rfl, q3⟩; have b4 := b3.drew.trans (q3.mono b3.size); have P4 := (P3.below (Below.refl w2.heap.size w2).drew (Nat.le_refl _)).below q3 (Nat.le_refl _))
        refine hK.out _ _ ?_ (fun hS => ?_)
        · exact ⟨hS.1.below q3, hS.2.below q3⟩
        clear hK K
        refine wpAnyH_ready (rs := [5]) (by as_aux_lemma => kernel_rfl) (by simp) ?_
        refine AllReadyH.cons rfl (fun K hK => ?_) AllReadyH.nil
        go_simp
        go_wp2_with (go_at_call 21; refine (H3.out _ b4 P4).mono ?_; rintro e w4 ⟨rfl, q4⟩; have b5 := b4.trans (q4.mono b4.size))
        refine hK.out _ _ ?_ (fun hS => ?_)
        · exact ⟨hS.1.below q4, hS.2.below q4⟩
        clear hK K
        refine wpAnyH_take (i := 6) (v := ?_) rfl (by as_aux_lemma => kernel_rfl) (by as_aux_lemma => kernel_rfl) (by as_aux_lemma => kernel_rfl) (fun _ _ _ h => h) (Or.inl ⟨by kernel_rfl, ?_⟩) hS ?_
        rotate_left
        · intro w hSw; have c0 := hSw.1.cell0; have c1 := hSw.1.cell1; have c2 := hSw.1.cell2; have d0 := hSw.2.cell0; have d1 := hSw.2.cell1; have d2 := hSw.2.cell2; simp only at c0 c1 c2 d0 d1 d2; go_simp
          first | done | with_reducible rfl
        skip
        refine wpAnyH_take (i := 7) (v := ?_) rfl (by as_aux_lemma => kernel_rfl) (by as_aux_lemma => kernel_rfl) (by as_aux_lemma => kernel_rfl) (fun _ _ _ h => h) (Or.inl ⟨by kernel_rfl, ?_⟩) hS ?_
        rotate_left
        · intro w hSw; have c0 := hSw.1.cell0; have c1 := hSw.1.cell1; have c2 := hSw.1.cell2; have d0 := hSw.2.cell0; have d1 := hSw.2.cell1; have d2 := hSw.2.cell2; simp only at c0 c1 c2 d0 d1 d2; go_simp
          first | done | with_reducible rfl
        skip
        refine wpAnyH_take (i := 8) (v := ?_) rfl (by as_aux_lemma => kernel_rfl) (by as_aux_lemma => kernel_rfl) (by as_aux_lemma => kernel_rfl) (fun _ _ _ h => h) (Or.inl ⟨by kernel_rfl, ?_⟩) hS ?_
        rotate_left
        · intro w hSw; have c0 := hSw.1.cell0; have c1 := hSw.1.cell1; have c2 := hSw.1.cell2; have d0 := hSw.2.cell0; have d1 := hSw.2.cell1; have d2 := hSw.2.cell2; simp only at c0 c1 c2 d0 d1 d2; go_simp
          first | done | with_reducible rfl
        skip
        refine wpAnyH_ready (rs := [9]) (by as_aux_lemma => kernel_rfl) (by simp) ?_
        refine AllReadyH.cons rfl (fun K hK => ?_) AllReadyH.nil
        go_simp
        go_wp2_with (go_at_call 16; refine (H4.out _ b5).mono ?_; rintro e w5 ⟨rfl, q5⟩; have b6 := b5.trans (q5.mono b5.size))
        refine hK.out _ _ ?_ (fun hS => ?_)
        · exact ⟨hS.1.below q5, hS.2.below q5⟩
        clear hK K
        refine wpAnyH_take (i := 10) (v := ?_) rfl (by as_aux_lemma => kernel_rfl) (by as_aux_lemma => kernel_rfl) (by as_aux_lemma => kernel_rfl) (fun _ _ _ h => h) (Or.inl ⟨by kernel_rfl, ?_⟩) hS ?_
        rotate_left
        · intro w hSw; have c0 := hSw.1.cell0; have c1 := hSw.1.cell1; have c2 := hSw.1.cell2; have d0 := hSw.2.cell0; have d1 := hSw.2.cell1; have d2 := hSw.2.cell2; simp only at c0 c1 c2 d0 d1 d2; go_simp
          first | done | with_reducible rfl
        skip
        refine wpAnyH_take (i := 11) (v := ?_) rfl (by as_aux_lemma => kernel_rfl) (by as_aux_lemma => kernel_rfl) (by as_aux_lemma => kernel_rfl) (fun _ _ _ h => h) (Or.inl ⟨by kernel_rfl, ?_⟩) hS ?_
        rotate_left
        · intro w hSw; have c0 := hSw.1.cell0; have c1 := hSw.1.cell1; have c2 := hSw.1.cell2; have d0 := hSw.2.cell0; have d1 := hSw.2.cell1; have d2 := hSw.2.cell2; simp only at c0 c1 c2 d0 d1 d2; go_simp
          first | done | with_reducible rfl
        skip
        refine wpAnyH_take (i := 12) (v := ?_) rfl (by as_aux_lemma => kernel_rfl) (by as_aux_lemma => kernel_rfl) (by as_aux_lemma => kernel_rfl) (fun _ _ _ h => h) (Or.inl ⟨by kernel_rfl, ?_⟩) hS ?_
        rotate_left
        · intro w hSw; have c0 := hSw.1.cell0; have c1 := hSw.1.cell1; have c2 := hSw.1.cell2; have d0 := hSw.2.cell0; have d1 := hSw.2.cell1; have d2 := hSw.2.cell2; simp only at c0 c1 c2 d0 d1 d2; go_simp
          first | done | with_reducible rfl
        skip
        refine wpAnyH_ready (rs := [13]) (by as_aux_lemma => kernel_rfl) (by simp) ?_
        refine AllReadyH.cons rfl (fun K hK => ?_) AllReadyH.nil
        go_simp
        go_wp2_with (go_at_call 15; refine (HW.out _ (htab.on b6 htl)).mono ?_; rintro e w6 ⟨rfl, q6⟩; have b7 := b6.trans (q6.mono b6.size))
        refine hK.out _ _ ?_ (fun hS => ?_)
        · exact ⟨hS.1.below q6, hS.2.below q6⟩
        clear hK K
        refine wpAnyH_take (i := 14) (v := ?_) rfl (by as_aux_lemma => kernel_rfl) (by as_aux_lemma => kernel_rfl) (by as_aux_lemma => kernel_rfl) (fun _ _ _ h => h) (Or.inl ⟨by kernel_rfl, ?_⟩) hS ?_
        rotate_left
        · intro w hSw; have c0 := hSw.1.cell0; have c1 := hSw.1.cell1; have c2 := hSw.1.cell2; have d0 := hSw.2.cell0; have d1 := hSw.2.cell1; have d2 := hSw.2.cell2; simp only at c0 c1 c2 d0 d1 d2; go_simp
          first | done | with_reducible rfl
        skip
        refine wpAnyH_take (i := 15) (v := ?_) rfl (by as_aux_lemma => kernel_rfl) (by as_aux_lemma => kernel_rfl) (by as_aux_lemma => kernel_rfl) (fun _ _ _ h => h) (Or.inl ⟨by kernel_rfl, ?_⟩) hS ?_
        rotate_left
        · intro w hSw; have c0 := hSw.1.cell0; have c1 := hSw.1.cell1; have c2 := hSw.1.cell2; have d0 := hSw.2.cell0; have d1 := hSw.2.cell1; have d2 := hSw.2.cell2; simp only at c0 c1 c2 d0 d1 d2; go_simp
          first | done | with_reducible rfl
        skip
        refine wpAnyH_done (by kernel_rfl) ?_ _
        go_wp2
        go_ret
        exact ⟨rfl, b7⟩
    · have HN := Lib.hid (mAsk_no (ps := ps) he)
      have hb : ((mErr (n, o, v) : Int) != 0) = true := by simpa using he
      generalize bits BinOp.xor IntKind.u8 (o : Int) 1 = x
      refine Lib.hid ?_
      have hA2 := (Below.refl w1.heap.size w1).alloc (Nat.le_refl _) (.cells #[.string n, .int .u8 x, .string v] 41)
      have b2 := b1.trans (hA2.mono b1.size)
      have P2 := (hP.below q1 (Nat.le_refl _)).below hA2 (Nat.le_refl _)
      have hm2a : MtBlk (w1.alloc (.cells #[.string n, .int .u8 x, .string v] 41)) w.heap.size (n, o, v) := (hA2.block w.heap.size hs1).trans hm1
      refine (HC.out o _ (htab.on b2 htl)).mono ?_
      rintro e w2 ⟨rfl, q2⟩
      generalize mErr (n, o, v) = Er at *
      generalize w1.alloc (.cells #[.string n, .int .u8 x, .string v] 41) = W2 at *
      have b3 := b2.trans (q2.mono b2.size)
      have P3 := P2.below q2 (Nat.le_refl _)
      have hm3 : MtBlk w2 w.heap.size (n, o, v) := (q2.block _ hm2a.lt).trans hm2a
      have c0 : w2.cell? ⟨w.heap.size, 0, none⟩ = some (.string n) := hm3.cell0
      have c1 : w2.cell? ⟨w.heap.size, 1, none⟩ = some (.int .u8 (o : Int)) := hm3.cell1
      have c2 : w2.cell? ⟨w.heap.size, 2, none⟩ = some (.string v) := hm3.cell2
      have H2 := Lib.hid (HO.out o w2 (htab.on b3 htl) P3)
      clear hm0 hm1 hm2a b1 b2 P2 hP h hA hA2 q1 q2 HL he HC HO
      go_wp2_with (go_at_call 21; refine H2.out.mono ?_; rintro e w3 ⟨ht, q3⟩; obtain rfl := tells_no ht HN.out; clear ht; refine Hid.out ?_)
      refine Lib.hid ?_
      have b4 := b3.trans (q3.mono b3.size)
      have HW1 := Lib.hid (HW.out w3 (htab.on b4 htl))
      go_wp2_with (go_at_call 15; refine HW1.out.mono ?_; rintro e w6 ⟨rfl, q6⟩)
      go_ret
      exact ⟨rfl, b4.trans (q6.mono b4.size)⟩
  · rw [decide_eq_false hl] at HL
    clear hl
    go_enter Tryd.func8, Tryd.ntmps8
    go_wp2_with (go_at_call 20; refine (HL.out _ hP).mono ?_; rintro e w1 ⟨rfl, q1⟩; refine Hid.out ?_)
    refine Lib.hid ?_
    have b1 := hA.trans (q1.mono (by omega))
    have HW1 := Lib.hid (HW.out w1 (htab.on b1 htl))
    go_wp2_with (go_at_call 15; refine HW1.out.mono ?_; rintro e w2 ⟨rfl, q2⟩)
    go_ret
    exact ⟨rfl, b1.trans (q2.mono b1.size)⟩

end Go.Proofs.YtlcbkhmaemoahaaDoor
