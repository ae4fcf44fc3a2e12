/-
  The walk of RouteChecks.
-/
import Derived.Test.YtbkejafjlapmnaaDoorRAwake
import Derived.Test.YtbkejafjlapmnaaDoorRRef
namespace Go.Proofs.YtbkejafjlapmnaaDoor
open Go.RowKit

set_option maxRecDepth 20000 in
set_option maxHeartbeats 4000000 in
theorem rchecks_walk (a : Option Addr) (c : Nat) (l : List Rt) (b : Option Addr) (d : Nat) (ls : List Rl) (pt rs : Int) (w : World) (htab : TabW w) (hl : RtsAt w a l) (hls : RlsAt w b ls) (okl : ∀ r ∈ l, RtOk r) (okls : ∀ r ∈ ls, RlOk r) (hn : l.length ≤ 9223372036854775807) (hm : ls.length ≤ 9223372036854775807) :
    Calls Tryd.prog 5 #[.agg #[.slice a l.length c, .slice b ls.length d, .int .i64 pt, .int .i64 rs]] w fun e w' => e = .returned (.bool true) ∧ Below w.heap.size w w' := by
  have htl := htab.lt
  have HW := Lib.hid (fun u (hb : Below w.heap.size w u) => tawake_any u (htab.on hb htl))
  have hA := (Below.refl w.heap.size w).alloc (Nat.le_refl _) (.cells #[.slice a l.length c, .slice b ls.length d, .int .i64 pt, .int .i64 rs] 41)
  have hm0 : CfBlk (w.alloc (.cells #[.slice a l.length c, .slice b ls.length d, .int .i64 pt, .int .i64 rs] 41)) w.heap.size a l.length c b ls.length d pt rs := heap_new w _
  have H1 := Lib.hid (fun u (hb : Below w.heap.size w u) => uLight_any a c l b d ls pt rs u (hl.below hb (Nat.le_refl _)) (hls.below hb (Nat.le_refl _)) hn hm)
  have H2 := Lib.hid (fun u (hb : Below w.heap.size w u) => tCheck_any a c l b d ls pt rs u (htab.on hb htl) (hl.below hb (Nat.le_refl _)) (hls.below hb (Nat.le_refl _)) okl okls hn hm)
  have H3 := Lib.hid (fun u (hb : Below w.heap.size w u) => uCheck_any a c l b d ls pt rs u (hl.below hb (Nat.le_refl _)) (hls.below hb (Nat.le_refl _)) okl okls hn hm)
  generalize confE l ls pt rs = G at *
  clear hl hls okl okls
  by_cases hL : LightC l ls
  · have HL := Lib.hid hL
    clear hL
    go_enter Tryd.func5, Tryd.ntmps5
    go_wp2_with fail
    generalize w.alloc (.cells #[.slice a l.length c, .slice b ls.length d, .int .i64 pt, .int .i64 rs] 41) = W at *
    refine wp_region_any (by kernel_rfl) ?_
    change wpAny _ _ _ _ _ _ _ (World.drew _)
    have hS : (fun w' : World => CfBlk w' w.heap.size a l.length c b ls.length d pt rs) W.drew := hm0
    refine wpAny_of_held (S := fun w' => CfBlk w' w.heap.size a l.length c b ls.length d pt rs) _ _ _ _ ?_
    refine wpAnyH_take_at (i := 0) (some 3) (v := ?_) rfl rfl (by as_aux_lemma => kernel_rfl) (by as_aux_lemma => kernel_rfl) (by as_aux_lemma => kernel_rfl) (fun _ _ _ h => h) (Or.inl ⟨by kernel_rfl, ?_⟩) hS ?_
    rotate_left
    · intro w hSw; have c0 := cell_heap (j := 0) hSw; have c1 := cell_heap (j := 1) hSw; have c2 := cell_heap (j := 2) hSw; have c3 := cell_heap (j := 3) hSw; simp only [List.getElem?_toArray, List.getElem?_cons_zero, List.getElem?_cons_succ] at c0 c1 c2 c3; go_simp
      first | done | with_reducible rfl
    skip
    refine wpAnyH_ready (rs := [1]) (by as_aux_lemma => kernel_rfl) (by simp) ?_
    refine AllReadyH.cons rfl (fun K hK => ?_) AllReadyH.nil
    go_simp
    go_wp2_with (have b0 := hA.drew; go_at_call 17; refine (H1.out _ b0).mono ?_; rintro e w1 ⟨ht, q1⟩; obtain rfl := tells_yes ht HL.out; clear ht; have b1 := b0.trans (q1.mono b0.size))
    refine hK.out _ _ ?_ (fun hS => ?_)
    · exact hS.below q1
    clear hK K
    refine wpAnyH_take_at (i := 2) (some 5) (v := ?_) rfl rfl (by as_aux_lemma => kernel_rfl) (by as_aux_lemma => kernel_rfl) (by as_aux_lemma => kernel_rfl) (fun _ _ _ h => h) (Or.inl ⟨by kernel_rfl, ?_⟩) hS ?_
    rotate_left
    · intro w hSw; have c0 := cell_heap (j := 0) hSw; have c1 := cell_heap (j := 1) hSw; have c2 := cell_heap (j := 2) hSw; have c3 := cell_heap (j := 3) hSw; simp only [List.getElem?_toArray, List.getElem?_cons_zero, List.getElem?_cons_succ] at c0 c1 c2 c3; go_simp
      first | done | with_reducible rfl
    skip
    refine wpAnyH_take_at (i := 3) (some 6) (v := ?_) rfl rfl (by as_aux_lemma => kernel_rfl) (by as_aux_lemma => kernel_rfl) (by as_aux_lemma => kernel_rfl) (fun _ _ _ h => h) (Or.inl ⟨by kernel_rfl, ?_⟩) hS ?_
    rotate_left
    · intro w hSw; have c0 := cell_heap (j := 0) hSw; have c1 := cell_heap (j := 1) hSw; have c2 := cell_heap (j := 2) hSw; have c3 := cell_heap (j := 3) hSw; simp only [List.getElem?_toArray, List.getElem?_cons_zero, List.getElem?_cons_succ] at c0 c1 c2 c3; go_simp
      first | done | with_reducible rfl
    skip
    refine wpAnyH_take_at (i := 4) (some 7) (v := ?_) rfl rfl (by as_aux_lemma => kernel_rfl) (by as_aux_lemma => kernel_rfl) (by as_aux_lemma => kernel_rfl) (fun _ _ _ h => h) (Or.inl ⟨by kernel_rfl, ?_⟩) hS ?_
    rotate_left
    · intro w hSw; have c0 := cell_heap (j := 0) hSw; have c1 := cell_heap (j := 1) hSw; have c2 := cell_heap (j := 2) hSw; have c3 := cell_heap (j := 3) hSw; simp only [List.getElem?_toArray, List.getElem?_cons_zero, List.getElem?_cons_succ] at c0 c1 c2 c3; go_simp
      first | done | with_reducible rfl
    skip
    refine wpAnyH_take_at (i := 6) (some 9) (v := ?_) rfl rfl (by as_aux_lemma => kernel_rfl) (by as_aux_lemma => kernel_rfl) (by as_aux_lemma => kernel_rfl) (fun _ _ _ h => h) (Or.inl ⟨by kernel_rfl, ?_⟩) hS ?_
    rotate_left
    · intro w hSw; have c0 := cell_heap (j := 0) hSw; have c1 := cell_heap (j := 1) hSw; have c2 := cell_heap (j := 2) hSw; have c3 := cell_heap (j := 3) hSw; simp only [List.getElem?_toArray, List.getElem?_cons_zero, List.getElem?_cons_succ] at c0 c1 c2 c3; go_simp
      first | done | with_reducible rfl
    skip
    refine wpAnyH_ready (rs := [5]) (by as_aux_lemma => kernel_rfl) (by simp) ?_
    refine AllReadyH.cons rfl (fun K hK => ?_) AllReadyH.nil
    go_simp
    go_wp2_with (go_at_call 18; refine (H2.out _ b1).mono ?_; rintro e w2 ⟨rfl, q2⟩; have b2 := b1.trans (q2.mono b1.size))
    refine hK.out _ _ ?_ (fun hS => ?_)
    · exact hS.below q2
    clear hK K
    refine wpAnyH_ready (rs := [7]) (by as_aux_lemma => kernel_rfl) (by simp) ?_
    refine AllReadyH.cons rfl (fun K hK => ?_) AllReadyH.nil
    go_simp
    go_wp2_with (go_at_call 19; refine (H3.out _ b2).mono ?_; rintro e w3 ⟨rfl, q3⟩; have b3 := b2.trans (q3.mono b2.size))
    refine hK.out _ _ ?_ (fun hS => ?_)
    · exact hS.below q3
    clear hK K
    refine wpAnyH_take_at (i := 8) (some 11) (v := ?_) rfl rfl (by as_aux_lemma => kernel_rfl) (by as_aux_lemma => kernel_rfl) (by as_aux_lemma => kernel_rfl) (fun _ _ _ h => h) (Or.inl ⟨by kernel_rfl, ?_⟩) hS ?_
    rotate_left
    · intro w hSw; have c0 := cell_heap (j := 0) hSw; have c1 := cell_heap (j := 1) hSw; have c2 := cell_heap (j := 2) hSw; have c3 := cell_heap (j := 3) hSw; simp only [List.getElem?_toArray, List.getElem?_cons_zero, List.getElem?_cons_succ] at c0 c1 c2 c3; go_simp
      first | done | with_reducible rfl
    skip
    refine wpAnyH_take_at (i := 9) (some 12) (v := ?_) rfl rfl (by as_aux_lemma => kernel_rfl) (by as_aux_lemma => kernel_rfl) (by as_aux_lemma => kernel_rfl) (fun _ _ _ h => h) (Or.inl ⟨by kernel_rfl, ?_⟩) hS ?_
    rotate_left
    · intro w hSw; have c0 := cell_heap (j := 0) hSw; have c1 := cell_heap (j := 1) hSw; have c2 := cell_heap (j := 2) hSw; have c3 := cell_heap (j := 3) hSw; simp only [List.getElem?_toArray, List.getElem?_cons_zero, List.getElem?_cons_succ] at c0 c1 c2 c3; go_simp
      first | done | with_reducible rfl
    skip
    refine wpAnyH_take_at (i := 10) (some 13) (v := ?_) rfl rfl (by as_aux_lemma => kernel_rfl) (by as_aux_lemma => kernel_rfl) (by as_aux_lemma => kernel_rfl) (fun _ _ _ h => h) (Or.inl ⟨by kernel_rfl, ?_⟩) hS ?_
    rotate_left
    · intro w hSw; have c0 := cell_heap (j := 0) hSw; have c1 := cell_heap (j := 1) hSw; have c2 := cell_heap (j := 2) hSw; have c3 := cell_heap (j := 3) hSw; simp only [List.getElem?_toArray, List.getElem?_cons_zero, List.getElem?_cons_succ] at c0 c1 c2 c3; go_simp
      first | done | with_reducible rfl
    skip
    refine wpAnyH_ready (rs := [11]) (by as_aux_lemma => kernel_rfl) (by simp) ?_
    refine AllReadyH.cons rfl (fun K hK => ?_) AllReadyH.nil
    go_simp
    go_wp2_with (go_at_call 20; refine (HW.out _ b3).mono ?_; rintro e w4 ⟨rfl, q4⟩; have b4 := b3.trans (q4.mono b3.size))
    refine hK.out _ _ ?_ (fun hS => ?_)
    · exact hS.below q4
    clear hK K
    refine wpAnyH_take_at (i := 12) (some 15) (v := ?_) rfl rfl (by as_aux_lemma => kernel_rfl) (by as_aux_lemma => kernel_rfl) (by as_aux_lemma => kernel_rfl) (fun _ _ _ h => h) (Or.inl ⟨by kernel_rfl, ?_⟩) hS ?_
    rotate_left
    · intro w hSw; have c0 := cell_heap (j := 0) hSw; have c1 := cell_heap (j := 1) hSw; have c2 := cell_heap (j := 2) hSw; have c3 := cell_heap (j := 3) hSw; simp only [List.getElem?_toArray, List.getElem?_cons_zero, List.getElem?_cons_succ] at c0 c1 c2 c3; go_simp
      first | done | with_reducible rfl
    skip
    refine wpAnyH_take_at (i := 13) (some 2) (v := ?_) rfl rfl (by as_aux_lemma => kernel_rfl) (by as_aux_lemma => kernel_rfl) (by as_aux_lemma => kernel_rfl) (fun _ _ _ h => h) (Or.inl ⟨by kernel_rfl, ?_⟩) hS ?_
    rotate_left
    · intro w hSw; have c0 := cell_heap (j := 0) hSw; have c1 := cell_heap (j := 1) hSw; have c2 := cell_heap (j := 2) hSw; have c3 := cell_heap (j := 3) hSw; simp only [List.getElem?_toArray, List.getElem?_cons_zero, List.getElem?_cons_succ] at c0 c1 c2 c3; go_simp
      first | done | with_reducible rfl
    skip
    refine wpAnyH_done (by kernel_rfl) ?_ _
    clear hS hm0 hA
    go_simp
    go_wp2
    go_ret
    exact ⟨rfl, b4⟩
  · have HL := Lib.hid hL
    clear hL
    go_enter Tryd.func5, Tryd.ntmps5
    go_wp2_with fail
    generalize w.alloc (.cells #[.slice a l.length c, .slice b ls.length d, .int .i64 pt, .int .i64 rs] 41) = W at *
    refine wp_region_any (by kernel_rfl) ?_
    change wpAny _ _ _ _ _ _ _ (World.drew _)
    have hS : (fun w' : World => CfBlk w' w.heap.size a l.length c b ls.length d pt rs) W.drew := hm0
    refine wpAny_of_held (S := fun w' => CfBlk w' w.heap.size a l.length c b ls.length d pt rs) _ _ _ _ ?_
    refine wpAnyH_take_at (i := 0) (some 3) (v := ?_) rfl rfl (by as_aux_lemma => kernel_rfl) (by as_aux_lemma => kernel_rfl) (by as_aux_lemma => kernel_rfl) (fun _ _ _ h => h) (Or.inl ⟨by kernel_rfl, ?_⟩) hS ?_
    rotate_left
    · intro w hSw; have c0 := cell_heap (j := 0) hSw; have c1 := cell_heap (j := 1) hSw; have c2 := cell_heap (j := 2) hSw; have c3 := cell_heap (j := 3) hSw; simp only [List.getElem?_toArray, List.getElem?_cons_zero, List.getElem?_cons_succ] at c0 c1 c2 c3; go_simp
      first | done | with_reducible rfl
    skip
    refine wpAnyH_ready (rs := [1]) (by as_aux_lemma => kernel_rfl) (by simp) ?_
    refine AllReadyH.cons rfl (fun K hK => ?_) AllReadyH.nil
    go_simp
    go_wp2_with (have b0 := hA.drew; go_at_call 17; refine (H1.out _ b0).mono ?_; rintro e w1 ⟨ht, q1⟩; obtain rfl := tells_no ht HL.out; clear ht; have b1 := b0.trans (q1.mono b0.size))
    refine hK.out _ _ ?_ (fun hS => ?_)
    · exact hS.below q1
    clear hK K
    refine wpAnyH_take_at (i := 2) (some 5) (v := ?_) rfl rfl (by as_aux_lemma => kernel_rfl) (by as_aux_lemma => kernel_rfl) (by as_aux_lemma => kernel_rfl) (fun _ _ _ h => h) (Or.inl ⟨by kernel_rfl, ?_⟩) hS ?_
    rotate_left
    · intro w hSw; have c0 := cell_heap (j := 0) hSw; have c1 := cell_heap (j := 1) hSw; have c2 := cell_heap (j := 2) hSw; have c3 := cell_heap (j := 3) hSw; simp only [List.getElem?_toArray, List.getElem?_cons_zero, List.getElem?_cons_succ] at c0 c1 c2 c3; go_simp
      first | done | with_reducible rfl
    skip
    refine wpAnyH_take_at (i := 3) (some 6) (v := ?_) rfl rfl (by as_aux_lemma => kernel_rfl) (by as_aux_lemma => kernel_rfl) (by as_aux_lemma => kernel_rfl) (fun _ _ _ h => h) (Or.inl ⟨by kernel_rfl, ?_⟩) hS ?_
    rotate_left
    · intro w hSw; have c0 := cell_heap (j := 0) hSw; have c1 := cell_heap (j := 1) hSw; have c2 := cell_heap (j := 2) hSw; have c3 := cell_heap (j := 3) hSw; simp only [List.getElem?_toArray, List.getElem?_cons_zero, List.getElem?_cons_succ] at c0 c1 c2 c3; go_simp
      first | done | with_reducible rfl
    skip
    refine wpAnyH_take_at (i := 4) (some 7) (v := undef) rfl rfl (by as_aux_lemma => kernel_rfl) (by as_aux_lemma => kernel_rfl) (by as_aux_lemma => kernel_rfl) (fun _ _ _ h => h) (Or.inr ⟨by kernel_rfl, rfl⟩) hS ?_
    skip
    refine wpAnyH_take_at (i := 5) (some 8) (v := undef) rfl rfl (by as_aux_lemma => kernel_rfl) (by as_aux_lemma => kernel_rfl) (by as_aux_lemma => kernel_rfl) (fun _ _ _ h => h) (Or.inr ⟨by kernel_rfl, rfl⟩) hS ?_
    skip
    refine wpAnyH_take_at (i := 6) (some 9) (v := undef) rfl rfl (by as_aux_lemma => kernel_rfl) (by as_aux_lemma => kernel_rfl) (by as_aux_lemma => kernel_rfl) (fun _ _ _ h => h) (Or.inr ⟨by kernel_rfl, rfl⟩) hS ?_
    skip
    refine wpAnyH_take_at (i := 7) (some 10) (v := undef) rfl rfl (by as_aux_lemma => kernel_rfl) (by as_aux_lemma => kernel_rfl) (by as_aux_lemma => kernel_rfl) (fun _ _ _ h => h) (Or.inr ⟨by kernel_rfl, rfl⟩) hS ?_
    skip
    refine wpAnyH_take_at (i := 8) (some 11) (v := undef) rfl rfl (by as_aux_lemma => kernel_rfl) (by as_aux_lemma => kernel_rfl) (by as_aux_lemma => kernel_rfl) (fun _ _ _ h => h) (Or.inr ⟨by kernel_rfl, rfl⟩) hS ?_
    skip
    refine wpAnyH_take_at (i := 9) (some 12) (v := ?_) rfl rfl (by as_aux_lemma => kernel_rfl) (by as_aux_lemma => kernel_rfl) (by as_aux_lemma => kernel_rfl) (fun _ _ _ h => h) (Or.inl ⟨by kernel_rfl, ?_⟩) hS ?_
    rotate_left
    · intro w hSw; have c0 := cell_heap (j := 0) hSw; have c1 := cell_heap (j := 1) hSw; have c2 := cell_heap (j := 2) hSw; have c3 := cell_heap (j := 3) hSw; simp only [List.getElem?_toArray, List.getElem?_cons_zero, List.getElem?_cons_succ] at c0 c1 c2 c3; go_simp
      first | done | with_reducible rfl
    skip
    refine wpAnyH_take_at (i := 10) (some 13) (v := ?_) rfl rfl (by as_aux_lemma => kernel_rfl) (by as_aux_lemma => kernel_rfl) (by as_aux_lemma => kernel_rfl) (fun _ _ _ h => h) (Or.inl ⟨by kernel_rfl, ?_⟩) hS ?_
    rotate_left
    · intro w hSw; have c0 := cell_heap (j := 0) hSw; have c1 := cell_heap (j := 1) hSw; have c2 := cell_heap (j := 2) hSw; have c3 := cell_heap (j := 3) hSw; simp only [List.getElem?_toArray, List.getElem?_cons_zero, List.getElem?_cons_succ] at c0 c1 c2 c3; go_simp
      first | done | with_reducible rfl
    skip
    refine wpAnyH_ready (rs := [11]) (by as_aux_lemma => kernel_rfl) (by simp) ?_
    refine AllReadyH.cons rfl (fun K hK => ?_) AllReadyH.nil
    go_simp
    go_wp2_with (go_at_call 20; refine (HW.out _ b1).mono ?_; rintro e w2 ⟨rfl, q2⟩; have b2 := b1.trans (q2.mono b1.size))
    refine hK.out _ _ ?_ (fun hS => ?_)
    · exact hS.below q2
    clear hK K
    refine wpAnyH_take_at (i := 12) (some 15) (v := ?_) rfl rfl (by as_aux_lemma => kernel_rfl) (by as_aux_lemma => kernel_rfl) (by as_aux_lemma => kernel_rfl) (fun _ _ _ h => h) (Or.inl ⟨by kernel_rfl, ?_⟩) hS ?_
    rotate_left
    · intro w hSw; have c0 := cell_heap (j := 0) hSw; have c1 := cell_heap (j := 1) hSw; have c2 := cell_heap (j := 2) hSw; have c3 := cell_heap (j := 3) hSw; simp only [List.getElem?_toArray, List.getElem?_cons_zero, List.getElem?_cons_succ] at c0 c1 c2 c3; go_simp
      first | done | with_reducible rfl
    skip
    refine wpAnyH_take_at (i := 13) (some 2) (v := ?_) rfl rfl (by as_aux_lemma => kernel_rfl) (by as_aux_lemma => kernel_rfl) (by as_aux_lemma => kernel_rfl) (fun _ _ _ h => h) (Or.inl ⟨by kernel_rfl, ?_⟩) hS ?_
    rotate_left
    · intro w hSw; have c0 := cell_heap (j := 0) hSw; have c1 := cell_heap (j := 1) hSw; have c2 := cell_heap (j := 2) hSw; have c3 := cell_heap (j := 3) hSw; simp only [List.getElem?_toArray, List.getElem?_cons_zero, List.getElem?_cons_succ] at c0 c1 c2 c3; go_simp
      first | done | with_reducible rfl
    skip
    refine wpAnyH_done (by kernel_rfl) ?_ _
    clear hS hm0 hA
    go_simp
    go_wp2
    go_ret
    exact ⟨rfl, b2⟩

end Go.Proofs.YtbkejafjlapmnaaDoor
