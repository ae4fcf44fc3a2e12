/-
  The walk of InhibitBy.
-/
import Derived.Test.YthaimnmbcbhioaaDoorISelf
import Derived.Test.YthaimnmbcbhioaaDoorIRef
namespace Go.Proofs.YthaimnmbcbhioaaDoor
open Go.RowKit

set_option maxRecDepth 20000 in
set_option maxHeartbeats 4000000 in
theorem by_walk (r : Rl) (sa : Option Addr) (sc : Nat) (ps : List Pr) (ta : Option Addr) (tc : Nat) (qs : List Pr) (w : World) (htab : TabW w) (hr : RlAt w r) (okr : RlOk r) (hp : PairsAt w sa ps) (hq : PairsAt w ta qs) (hpn : ps.length ≤ 9223372036854775807) (hqn : qs.length ≤ 9223372036854775807) :
    Calls Tryd.prog 5 #[.agg #[.slice r.sa r.src.length r.sc, .slice r.ta r.tgt.length r.tc, .slice r.ea r.eqs.length r.ec], .slice sa ps.length sc, .slice ta qs.length tc] w fun e w' => e = .returned (.bool true) ∧ Below w.heap.size w w' := by
  have htl := htab.lt
  obtain ⟨w1, hw1⟩ : ∃ x, x = w.alloc (.cells #[.slice r.sa r.src.length r.sc, .slice r.ta r.tgt.length r.tc, .slice r.ea r.eqs.length r.ec] 38) := ⟨_, rfl⟩
  obtain ⟨w2, hw2⟩ : ∃ x, x = w1.alloc (.cells #[.slice r.sa r.src.length r.sc, .slice r.ta r.tgt.length r.tc, .slice r.ea r.eqs.length r.ec] 38) := ⟨_, rfl⟩
  obtain ⟨w3, hw3⟩ : ∃ x, x = w2.alloc (.cells #[.slice sa ps.length sc, .slice ta qs.length tc] 39) := ⟨_, rfl⟩
  have s1 : w1.heap.size = w.heap.size + 1 := by rw [hw1]; simp
  have s2 : w2.heap.size = w.heap.size + 1 + 1 := by rw [hw2]; simp [s1]
  have d1 : Below w.heap.size w w1 := by rw [hw1]; exact (Below.refl w.heap.size w).alloc (Nat.le_refl _) _
  have d2 : Below w1.heap.size w1 w2 := by rw [hw2]; exact (Below.refl w1.heap.size w1).alloc (Nat.le_refl _) _
  have d3 : Below w2.heap.size w2 w3 := by rw [hw3]; exact (Below.refl w2.heap.size w2).alloc (Nat.le_refl _) _
  have k1 : RlBlk w1 w.heap.size r := by rw [hw1]; exact heap_new w _
  have k2 : RlBlk w2 (w.heap.size + 1) r := by rw [hw2, ← s1]; exact heap_new w1 _
  have d23 := d2.trans (d3.mono d2.size)
  have e3 : Below w.heap.size w w3 := d1.trans (d23.mono d1.size)
  have K3 := Lib.hid (k1.below d23)
  have E3 := Lib.hid e3
  have l3 : LbsAt w3 (some ⟨w.heap.size + 1 + 1, 0, none⟩) [⟨sa, sc, ps⟩, ⟨ta, tc, qs⟩] := by
    refine lbs_two (x := ⟨sa, sc, ps⟩) (y := ⟨ta, tc, qs⟩) ?_ (hp.below e3 (Nat.le_refl _)) (hq.below e3 (Nat.le_refl _))
    rw [hw3, ← s2]; exact heap_new w2 _
  have H1 := Lib.hid (vLight_any (some ⟨w.heap.size + 1, 0, none⟩) 1 [r] (some ⟨w.heap.size + 1 + 1, 0, none⟩) 2 [⟨sa, sc, ps⟩, ⟨ta, tc, qs⟩] w3 (rls_one (k2.below d3) (hr.below e3 (Nat.le_refl _))) l3 (by simp) (by simp) (fun x hx => by
    simp only [List.mem_cons, List.not_mem_nil, or_false] at hx
    rcases hx with rfl | rfl
    · exact hpn
    · exact hqn))
  have HW := Lib.hid (fun u (hb : Below w.heap.size w u) => iawake_any u (htab.on hb htl))
  have HBy2 := Lib.hid (fun (hL : LightI [r] [⟨sa, sc, ps⟩, ⟨ta, tc, qs⟩]) u (hb : Below w.heap.size w u) => iBy_any r sa sc ps ta tc qs u (htab.on hb htl) (hr.below hb (Nat.le_refl _)) okr (hp.below hb (Nat.le_refl _)) (hq.below hb (Nat.le_refl _)) hpn hqn (fun p hp => by have := (light_two hL).1 p hp; omega) (fun p hp => by have := (light_two hL).2 p hp; omega))
  have HBy3 := Lib.hid (fun (hL : LightI [r] [⟨sa, sc, ps⟩, ⟨ta, tc, qs⟩]) u (hb : Below w.heap.size w u) => vBy_any r sa sc ps ta tc qs u (hr.below hb (Nat.le_refl _)) okr (hp.below hb (Nat.le_refl _)) (hq.below hb (Nat.le_refl _)) hpn hqn (fun p hp => by have := (light_two hL).1 p hp; omega) (fun p hp => by have := (light_two hL).2 p hp; omega))
  generalize byP r ps qs = P at *
  clear l3 e3 d23 k1 k2 d1 d2 d3 s1 s2 hr okr hp hq htab htl
  rw [show ([r] : List Rl).length = 1 from rfl, show ([⟨sa, sc, ps⟩, ⟨ta, tc, qs⟩] : List Lb).length = 2 from rfl] at H1
  subst hw3 hw2 hw1
  go_enter Tryd.func5, Tryd.ntmps5
  go_wp2_with (go_at_call 19; refine H1.out.mono ?_; rintro e w4 ⟨⟨b4, rfl, hb4⟩, q4⟩; have HL := Lib.hid hb4; clear hb4; refine Hid.out ?_)
  refine Lib.hid ?_
  have E4 := Lib.hid (E3.out.trans (q4.mono E3.out.size))
  have K4 := Lib.hid (K3.out.below q4)
  clear E3 K3 q4 H1
  cases b4 with
  | false =>
    have HW4 := Lib.hid (HW.out _ E4.out)
    clear HL HBy2 HBy3
    go_wp2_with (go_at_call 20; refine HW4.out.mono ?_; rintro e w5 ⟨rfl, q5⟩)
    go_ret
    exact ⟨rfl, E4.out.trans (q5.mono E4.out.size)⟩
  | true =>
  have HL2 := Lib.hid (HL.out.1 rfl)
  clear HL
  have B2 := Lib.hid (HBy2.out HL2.out _ E4.out.drew)
  have k4 := K4.out
  have E4d := Lib.hid E4.out.drew
  go_wp2_with fail
  by_cases hP : P
  · have HP := Lib.hid hP
    clear hP
    refine wp_region_any (by kernel_rfl) ?_
    change wpAny _ _ _ _ _ _ _ (World.drew _)
    have hS : (fun w' : World => RlBlk w' w.heap.size r) w4.drew := k4
    refine wpAny_of_held (S := fun w' => RlBlk w' w.heap.size r) _ _ _ _ ?_
    refine wpAnyH_take_at (i := 0) (some 15) (v := ?_) rfl rfl (by as_aux_lemma => kernel_rfl) (by as_aux_lemma => kernel_rfl) (by as_aux_lemma => kernel_rfl) (fun _ _ _ h => h) (Or.inl ⟨by kernel_rfl, ?_⟩) hS ?_
    rotate_left
    · intro w hSw; have c0 := hSw.c0; have c1 := hSw.c1; have c2 := hSw.c2; go_simp
      first | done | with_reducible rfl
    skip
    refine wpAnyH_take_at (i := 1) (some 16) (v := ?_) rfl rfl (by as_aux_lemma => kernel_rfl) (by as_aux_lemma => kernel_rfl) (by as_aux_lemma => kernel_rfl) (fun _ _ _ h => h) (Or.inl ⟨by kernel_rfl, ?_⟩) hS ?_
    rotate_left
    · intro w hSw; have c0 := hSw.c0; have c1 := hSw.c1; have c2 := hSw.c2; go_simp
      first | done | with_reducible rfl
    skip
    refine wpAnyH_take_at (i := 2) (some 17) (v := ?_) rfl rfl (by as_aux_lemma => kernel_rfl) (by as_aux_lemma => kernel_rfl) (by as_aux_lemma => kernel_rfl) (fun _ _ _ h => h) (Or.inl ⟨by kernel_rfl, ?_⟩) hS ?_
    rotate_left
    · intro w hSw; have c0 := hSw.c0; have c1 := hSw.c1; have c2 := hSw.c2; go_simp
      first | done | with_reducible rfl
    skip
    refine wpAnyH_take_at (i := 4) (some 19) (v := ?_) rfl rfl (by as_aux_lemma => kernel_rfl) (by as_aux_lemma => kernel_rfl) (by as_aux_lemma => kernel_rfl) (fun _ _ _ h => h) (Or.inl ⟨by kernel_rfl, ?_⟩) hS ?_
    rotate_left
    · intro w hSw; have c0 := hSw.c0; have c1 := hSw.c1; have c2 := hSw.c2; go_simp
      first | done | with_reducible rfl
    skip
    refine wpAnyH_take_at (i := 5) (some 20) (v := ?_) rfl rfl (by as_aux_lemma => kernel_rfl) (by as_aux_lemma => kernel_rfl) (by as_aux_lemma => kernel_rfl) (fun _ _ _ h => h) (Or.inl ⟨by kernel_rfl, ?_⟩) hS ?_
    rotate_left
    · intro w hSw; have c0 := hSw.c0; have c1 := hSw.c1; have c2 := hSw.c2; go_simp
      first | done | with_reducible rfl
    skip
    refine wpAnyH_take_at (i := 6) (some 21) (v := ?_) rfl rfl (by as_aux_lemma => kernel_rfl) (by as_aux_lemma => kernel_rfl) (by as_aux_lemma => kernel_rfl) (fun _ _ _ h => h) (Or.inl ⟨by kernel_rfl, ?_⟩) hS ?_
    rotate_left
    · intro w hSw; have c0 := hSw.c0; have c1 := hSw.c1; have c2 := hSw.c2; go_simp
      first | done | with_reducible rfl
    skip
    refine wpAnyH_ready (rs := [3]) (by as_aux_lemma => kernel_rfl) (by simp) ?_
    refine AllReadyH.cons rfl (fun K hK => ?_) AllReadyH.nil
    go_simp
    go_wp2_with (go_at_call 21; refine B2.out.mono ?_; rintro e w5 ⟨ht, q5⟩; obtain rfl := tells_yes ht HP.out; clear ht; have E5 := Lib.hid (E4d.out.trans (q5.mono E4d.out.size)))
    refine hK.out _ _ ?_ (fun hS => ?_)
    · exact hS.below q5
    clear hK K
    refine wpAnyH_ready (rs := [7]) (by as_aux_lemma => kernel_rfl) (by simp) ?_
    refine AllReadyH.cons rfl (fun K hK => ?_) AllReadyH.nil
    go_simp
    go_wp2_with (go_at_call 22; refine (HBy3.out HL2.out _ E5.out).mono ?_; rintro e w6 ⟨ht, q6⟩; obtain rfl := tells_yes ht HP.out; clear ht; have E6 := Lib.hid (E5.out.trans (q6.mono E5.out.size)))
    refine hK.out _ _ ?_ (fun hS => ?_)
    · exact hS.below q6
    clear hK K
    refine wpAnyH_take_at (i := 8) (some 23) (v := ?_) rfl rfl (by as_aux_lemma => kernel_rfl) (by as_aux_lemma => kernel_rfl) (by as_aux_lemma => kernel_rfl) (fun _ _ _ h => h) (Or.inl ⟨by kernel_rfl, ?_⟩) hS ?_
    rotate_left
    · intro w hSw; have c0 := hSw.c0; have c1 := hSw.c1; have c2 := hSw.c2; go_simp
      first | done | with_reducible rfl
    skip
    refine wpAnyH_take_at (i := 9) (some 24) (v := ?_) rfl rfl (by as_aux_lemma => kernel_rfl) (by as_aux_lemma => kernel_rfl) (by as_aux_lemma => kernel_rfl) (fun _ _ _ h => h) (Or.inl ⟨by kernel_rfl, ?_⟩) hS ?_
    rotate_left
    · intro w hSw; have c0 := hSw.c0; have c1 := hSw.c1; have c2 := hSw.c2; go_simp
      first | done | with_reducible rfl
    skip
    refine wpAnyH_ready (rs := [10]) (by as_aux_lemma => kernel_rfl) (by simp) ?_
    refine AllReadyH.cons rfl (fun K hK => ?_) AllReadyH.nil
    go_simp
    go_wp2_with (go_at_call 20; refine (HW.out _ E6.out).mono ?_; rintro e w7 ⟨rfl, q7⟩; have E7 := Lib.hid (E6.out.trans (q7.mono E6.out.size)))
    refine hK.out _ _ ?_ (fun hS => ?_)
    · exact hS.below q7
    clear hK K
    refine wpAnyH_take_at (i := 11) (some 26) (v := ?_) rfl rfl (by as_aux_lemma => kernel_rfl) (by as_aux_lemma => kernel_rfl) (by as_aux_lemma => kernel_rfl) (fun _ _ _ h => h) (Or.inl ⟨by kernel_rfl, ?_⟩) hS ?_
    rotate_left
    · intro w hSw; have c0 := hSw.c0; have c1 := hSw.c1; have c2 := hSw.c2; go_simp
      first | done | with_reducible rfl
    skip
    refine wpAnyH_take_at (i := 12) (some 6) (v := ?_) rfl rfl (by as_aux_lemma => kernel_rfl) (by as_aux_lemma => kernel_rfl) (by as_aux_lemma => kernel_rfl) (fun _ _ _ h => h) (Or.inl ⟨by kernel_rfl, ?_⟩) hS ?_
    rotate_left
    · intro w hSw; have c0 := hSw.c0; have c1 := hSw.c1; have c2 := hSw.c2; go_simp
      first | done | with_reducible rfl
    skip
    refine wpAnyH_done (by kernel_rfl) ?_ _
    clear hS k4 q5 q6 q7
    go_simp
    go_wp2
    go_ret
    exact ⟨rfl, E7.out⟩
  · have HP := Lib.hid hP
    clear hP
    refine wp_region_any (by kernel_rfl) ?_
    change wpAny _ _ _ _ _ _ _ (World.drew _)
    have hS : (fun w' : World => RlBlk w' w.heap.size r) w4.drew := k4
    refine wpAny_of_held (S := fun w' => RlBlk w' w.heap.size r) _ _ _ _ ?_
    refine wpAnyH_take_at (i := 0) (some 15) (v := ?_) rfl rfl (by as_aux_lemma => kernel_rfl) (by as_aux_lemma => kernel_rfl) (by as_aux_lemma => kernel_rfl) (fun _ _ _ h => h) (Or.inl ⟨by kernel_rfl, ?_⟩) hS ?_
    rotate_left
    · intro w hSw; have c0 := hSw.c0; have c1 := hSw.c1; have c2 := hSw.c2; go_simp
      first | done | with_reducible rfl
    skip
    refine wpAnyH_take_at (i := 1) (some 16) (v := ?_) rfl rfl (by as_aux_lemma => kernel_rfl) (by as_aux_lemma => kernel_rfl) (by as_aux_lemma => kernel_rfl) (fun _ _ _ h => h) (Or.inl ⟨by kernel_rfl, ?_⟩) hS ?_
    rotate_left
    · intro w hSw; have c0 := hSw.c0; have c1 := hSw.c1; have c2 := hSw.c2; go_simp
      first | done | with_reducible rfl
    skip
    refine wpAnyH_take_at (i := 2) (some 17) (v := ?_) rfl rfl (by as_aux_lemma => kernel_rfl) (by as_aux_lemma => kernel_rfl) (by as_aux_lemma => kernel_rfl) (fun _ _ _ h => h) (Or.inl ⟨by kernel_rfl, ?_⟩) hS ?_
    rotate_left
    · intro w hSw; have c0 := hSw.c0; have c1 := hSw.c1; have c2 := hSw.c2; go_simp
      first | done | with_reducible rfl
    skip
    refine wpAnyH_take_at (i := 4) (some 19) (v := ?_) rfl rfl (by as_aux_lemma => kernel_rfl) (by as_aux_lemma => kernel_rfl) (by as_aux_lemma => kernel_rfl) (fun _ _ _ h => h) (Or.inl ⟨by kernel_rfl, ?_⟩) hS ?_
    rotate_left
    · intro w hSw; have c0 := hSw.c0; have c1 := hSw.c1; have c2 := hSw.c2; go_simp
      first | done | with_reducible rfl
    skip
    refine wpAnyH_take_at (i := 5) (some 20) (v := ?_) rfl rfl (by as_aux_lemma => kernel_rfl) (by as_aux_lemma => kernel_rfl) (by as_aux_lemma => kernel_rfl) (fun _ _ _ h => h) (Or.inl ⟨by kernel_rfl, ?_⟩) hS ?_
    rotate_left
    · intro w hSw; have c0 := hSw.c0; have c1 := hSw.c1; have c2 := hSw.c2; go_simp
      first | done | with_reducible rfl
    skip
    refine wpAnyH_take_at (i := 6) (some 21) (v := ?_) rfl rfl (by as_aux_lemma => kernel_rfl) (by as_aux_lemma => kernel_rfl) (by as_aux_lemma => kernel_rfl) (fun _ _ _ h => h) (Or.inl ⟨by kernel_rfl, ?_⟩) hS ?_
    rotate_left
    · intro w hSw; have c0 := hSw.c0; have c1 := hSw.c1; have c2 := hSw.c2; go_simp
      first | done | with_reducible rfl
    skip
    refine wpAnyH_ready (rs := [3]) (by as_aux_lemma => kernel_rfl) (by simp) ?_
    refine AllReadyH.cons rfl (fun K hK => ?_) AllReadyH.nil
    go_simp
    go_wp2_with (go_at_call 21; refine B2.out.mono ?_; rintro e w5 ⟨ht, q5⟩; obtain rfl := tells_no ht HP.out; clear ht; have E5 := Lib.hid (E4d.out.trans (q5.mono E4d.out.size)))
    refine hK.out _ _ ?_ (fun hS => ?_)
    · exact hS.below q5
    clear hK K
    refine wpAnyH_ready (rs := [7]) (by as_aux_lemma => kernel_rfl) (by simp) ?_
    refine AllReadyH.cons rfl (fun K hK => ?_) AllReadyH.nil
    go_simp
    go_wp2_with (go_at_call 22; refine (HBy3.out HL2.out _ E5.out).mono ?_; rintro e w6 ⟨ht, q6⟩; obtain rfl := tells_no ht HP.out; clear ht; have E6 := Lib.hid (E5.out.trans (q6.mono E5.out.size)))
    refine hK.out _ _ ?_ (fun hS => ?_)
    · exact hS.below q6
    clear hK K
    refine wpAnyH_take_at (i := 8) (some 23) (v := ?_) rfl rfl (by as_aux_lemma => kernel_rfl) (by as_aux_lemma => kernel_rfl) (by as_aux_lemma => kernel_rfl) (fun _ _ _ h => h) (Or.inl ⟨by kernel_rfl, ?_⟩) hS ?_
    rotate_left
    · intro w hSw; have c0 := hSw.c0; have c1 := hSw.c1; have c2 := hSw.c2; go_simp
      first | done | with_reducible rfl
    skip
    refine wpAnyH_take_at (i := 9) (some 24) (v := ?_) rfl rfl (by as_aux_lemma => kernel_rfl) (by as_aux_lemma => kernel_rfl) (by as_aux_lemma => kernel_rfl) (fun _ _ _ h => h) (Or.inl ⟨by kernel_rfl, ?_⟩) hS ?_
    rotate_left
    · intro w hSw; have c0 := hSw.c0; have c1 := hSw.c1; have c2 := hSw.c2; go_simp
      first | done | with_reducible rfl
    skip
    refine wpAnyH_ready (rs := [10]) (by as_aux_lemma => kernel_rfl) (by simp) ?_
    refine AllReadyH.cons rfl (fun K hK => ?_) AllReadyH.nil
    go_simp
    go_wp2_with (go_at_call 20; refine (HW.out _ E6.out).mono ?_; rintro e w7 ⟨rfl, q7⟩; have E7 := Lib.hid (E6.out.trans (q7.mono E6.out.size)))
    refine hK.out _ _ ?_ (fun hS => ?_)
    · exact hS.below q7
    clear hK K
    refine wpAnyH_take_at (i := 11) (some 26) (v := ?_) rfl rfl (by as_aux_lemma => kernel_rfl) (by as_aux_lemma => kernel_rfl) (by as_aux_lemma => kernel_rfl) (fun _ _ _ h => h) (Or.inl ⟨by kernel_rfl, ?_⟩) hS ?_
    rotate_left
    · intro w hSw; have c0 := hSw.c0; have c1 := hSw.c1; have c2 := hSw.c2; go_simp
      first | done | with_reducible rfl
    skip
    refine wpAnyH_take_at (i := 12) (some 6) (v := ?_) rfl rfl (by as_aux_lemma => kernel_rfl) (by as_aux_lemma => kernel_rfl) (by as_aux_lemma => kernel_rfl) (fun _ _ _ h => h) (Or.inl ⟨by kernel_rfl, ?_⟩) hS ?_
    rotate_left
    · intro w hSw; have c0 := hSw.c0; have c1 := hSw.c1; have c2 := hSw.c2; go_simp
      first | done | with_reducible rfl
    skip
    refine wpAnyH_done (by kernel_rfl) ?_ _
    clear hS k4 q5 q6 q7
    go_simp
    go_wp2
    go_ret
    exact ⟨rfl, E7.out⟩

end Go.Proofs.YthaimnmbcbhioaaDoor
