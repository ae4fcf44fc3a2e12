/-
  The walk of MatchChecks.
-/
import Derived.Test.YtlcbkhmaemoahaaDoorM4
import Derived.Test.YtlcbkhmaemoahaaDoorM6
import Derived.Deep.RegionHeld3
namespace Go.Proofs.YtlcbkhmaemoahaaDoor
open Go.RowKit

set_option maxRecDepth 20000 in
set_option maxHeartbeats 4000000 in
theorem mchecks_walk (n : ByteArray) (o : Nat) (v : ByteArray) (a : Option Addr) (c : Nat) (ms : List Mt) (w : World) (htab : TabW w) (hn : n.size ≤ 9223372036854775807) (hm : MtsAt w a ms) (hml : ms.length ≤ 9223372036854775807) (hz : ∀ m ∈ ms, m.1.size ≤ 9223372036854775807) :
    Calls Tryd.prog 5 #[.agg #[.string n, .int .u8 (o : Int), .string v], .slice a ms.length c] w fun e w' => e = .returned (.bool true) ∧ Below w.heap.size w w' := by
  have htl := htab.lt
  have HW := Lib.hid (fun u (hb : Below w.heap.size w u) => mawake_any u (htab.on hb htl))
  have hA := (Below.refl w.heap.size w).alloc (Nat.le_refl _) (.cells #[.string n, .int .u8 (o : Int), .string v] 41)
  have hm0 : MtBlk (w.alloc (.cells #[.string n, .int .u8 (o : Int), .string v] 41)) w.heap.size (n, o, v) := heap_new w _
  by_cases h1 : 40 < ms.length
  · have h1' : (40 : Int) < (ms.length : Int) := by omega
    have HA := Lib.hid (HW.out _ hA)
    go_enter Tryd.func5, Tryd.ntmps5
    go_wp2_with (go_at_call 15; refine HA.out.mono ?_; rintro e w1 ⟨rfl, hb1⟩)
    go_ret
    exact ⟨rfl, hA.trans (hb1.mono hA.size)⟩
  have h1' : ¬ (40 : Int) < (ms.length : Int) := by omega
  have H1 := Lib.hid (fun u (hb : Below w.heap.size w u) => mCheck_any n o v u (htab.on hb htl))
  have H2 := Lib.hid (fun u => nCheck_any n o v u hn)
  have H3 := Lib.hid (fun u (hb : Below w.heap.size w u) => mCheckAll_any a c ms u (htab.on hb htl) (hm.below hb (Nat.le_refl _)) hml)
  have H4 := Lib.hid (fun u (hb : Below w.heap.size w u) => nCheckAll_any a c ms u (hm.below hb (Nat.le_refl _)) hml hz)
  generalize mErr (n, o, v) = E at *
  generalize checkAllE ms = G at *
  clear hm hz
  go_enter Tryd.func5, Tryd.ntmps5
  go_wp2_with fail
  generalize w.alloc (.cells #[.string n, .int .u8 (o : Int), .string v] 41) = W at *
  refine wp_region_any (by kernel_rfl) ?_
  change wpAny _ _ _ _ _ _ _ (World.drew _)
  have hS : (fun w' : World => MtBlk w' w.heap.size (n, o, v)) W.drew := hm0
  refine wpAny_of_held (S := fun w' => MtBlk w' w.heap.size (n, o, v)) _ _ _ _ ?_
  refine wpAnyH_take (i := 0) (v := ?_) rfl (by as_aux_lemma => kernel_rfl) (by as_aux_lemma => kernel_rfl) (by as_aux_lemma => kernel_rfl) (fun _ _ _ h => h) (Or.inl ⟨by kernel_rfl, ?_⟩) hS ?_
  rotate_left
  · intro w hSw; have c0 := hSw.cell0; have c1 := hSw.cell1; have c2 := hSw.cell2; simp only at c0 c1 c2; go_simp
    first | done | with_reducible rfl
  skip
  refine wpAnyH_take (i := 2) (v := ?_) rfl (by as_aux_lemma => kernel_rfl) (by as_aux_lemma => kernel_rfl) (by as_aux_lemma => kernel_rfl) (fun _ _ _ h => h) (Or.inl ⟨by kernel_rfl, ?_⟩) hS ?_
  rotate_left
  · intro w hSw; have c0 := hSw.cell0; have c1 := hSw.cell1; have c2 := hSw.cell2; simp only at c0 c1 c2; go_simp
    first | done | with_reducible rfl
  skip
  refine wpAnyH_ready (rs := [1]) (by as_aux_lemma => kernel_rfl) (by simp) ?_
  refine AllReadyH.cons rfl (fun K hK => ?_) AllReadyH.nil
  go_simp
  go_wp2_with (have b0 := hA.drew; go_at_call 16; refine (H1.out _ b0).mono ?_; rintro e w1 ⟨rfl, q1⟩; have b1 := b0.trans (q1.mono b0.size))
  refine hK.out _ _ ?_ (fun hS => ?_)
  · exact hS.below q1
  clear hK K
  refine wpAnyH_ready (rs := [3]) (by as_aux_lemma => kernel_rfl) (by simp) ?_
  refine AllReadyH.cons rfl (fun K hK => ?_) AllReadyH.nil
  go_simp
  go_wp2_with (go_at_call 17; refine (H2.out _).mono ?_; rintro e w2 ⟨rfl, q2⟩; have b2 := b1.trans (q2.mono b1.size))
  refine hK.out _ _ ?_ (fun hS => ?_)
  · exact hS.below q2
  clear hK K
  refine wpAnyH_take (i := 4) (v := ?_) rfl (by as_aux_lemma => kernel_rfl) (by as_aux_lemma => kernel_rfl) (by as_aux_lemma => kernel_rfl) (fun _ _ _ h => h) (Or.inl ⟨by kernel_rfl, ?_⟩) hS ?_
  rotate_left
  · intro w hSw; have c0 := hSw.cell0; have c1 := hSw.cell1; have c2 := hSw.cell2; simp only at c0 c1 c2; go_simp
    first | done | with_reducible rfl
  skip
  refine wpAnyH_take (i := 5) (v := ?_) rfl (by as_aux_lemma => kernel_rfl) (by as_aux_lemma => kernel_rfl) (by as_aux_lemma => kernel_rfl) (fun _ _ _ h => h) (Or.inl ⟨by kernel_rfl, ?_⟩) hS ?_
  rotate_left
  · intro w hSw; have c0 := hSw.cell0; have c1 := hSw.cell1; have c2 := hSw.cell2; simp only at c0 c1 c2; go_simp
    first | done | with_reducible rfl
  skip
  refine wpAnyH_take (i := 6) (v := ?_) rfl (by as_aux_lemma => kernel_rfl) (by as_aux_lemma => kernel_rfl) (by as_aux_lemma => kernel_rfl) (fun _ _ _ h => h) (Or.inl ⟨by kernel_rfl, ?_⟩) hS ?_
  rotate_left
  · intro w hSw; have c0 := hSw.cell0; have c1 := hSw.cell1; have c2 := hSw.cell2; simp only at c0 c1 c2; go_simp
    first | done | with_reducible rfl
  skip
  refine wpAnyH_take (i := 8) (v := ?_) rfl (by as_aux_lemma => kernel_rfl) (by as_aux_lemma => kernel_rfl) (by as_aux_lemma => kernel_rfl) (fun _ _ _ h => h) (Or.inl ⟨by kernel_rfl, ?_⟩) hS ?_
  rotate_left
  · intro w hSw; have c0 := hSw.cell0; have c1 := hSw.cell1; have c2 := hSw.cell2; simp only at c0 c1 c2; go_simp
    first | done | with_reducible rfl
  skip
  refine wpAnyH_ready (rs := [7]) (by as_aux_lemma => kernel_rfl) (by simp) ?_
  refine AllReadyH.cons rfl (fun K hK => ?_) AllReadyH.nil
  go_simp
  go_wp2_with (go_at_call 18; refine (H3.out _ b2).mono ?_; rintro e w3 ⟨rfl, q3⟩; have b3 := b2.trans (q3.mono b2.size))
  refine hK.out _ _ ?_ (fun hS => ?_)
  · exact hS.below q3
  clear hK K
  refine wpAnyH_ready (rs := [9]) (by as_aux_lemma => kernel_rfl) (by simp) ?_
  refine AllReadyH.cons rfl (fun K hK => ?_) AllReadyH.nil
  go_simp
  go_wp2_with (go_at_call 19; refine (H4.out _ b3).mono ?_; rintro e w4 ⟨rfl, q4⟩; have b4 := b3.trans (q4.mono b3.size))
  refine hK.out _ _ ?_ (fun hS => ?_)
  · exact hS.below q4
  clear hK K
  refine wpAnyH_take (i := 10) (v := ?_) rfl (by as_aux_lemma => kernel_rfl) (by as_aux_lemma => kernel_rfl) (by as_aux_lemma => kernel_rfl) (fun _ _ _ h => h) (Or.inl ⟨by kernel_rfl, ?_⟩) hS ?_
  rotate_left
  · intro w hSw; have c0 := hSw.cell0; have c1 := hSw.cell1; have c2 := hSw.cell2; simp only at c0 c1 c2; go_simp
    first | done | with_reducible rfl
  skip
  refine wpAnyH_take (i := 11) (v := ?_) rfl (by as_aux_lemma => kernel_rfl) (by as_aux_lemma => kernel_rfl) (by as_aux_lemma => kernel_rfl) (fun _ _ _ h => h) (Or.inl ⟨by kernel_rfl, ?_⟩) hS ?_
  rotate_left
  · intro w hSw; have c0 := hSw.cell0; have c1 := hSw.cell1; have c2 := hSw.cell2; simp only at c0 c1 c2; go_simp
    first | done | with_reducible rfl
  skip
  refine wpAnyH_take (i := 12) (v := ?_) rfl (by as_aux_lemma => kernel_rfl) (by as_aux_lemma => kernel_rfl) (by as_aux_lemma => kernel_rfl) (fun _ _ _ h => h) (Or.inl ⟨by kernel_rfl, ?_⟩) hS ?_
  rotate_left
  · intro w hSw; have c0 := hSw.cell0; have c1 := hSw.cell1; have c2 := hSw.cell2; simp only at c0 c1 c2; go_simp
    first | done | with_reducible rfl
  skip
  refine wpAnyH_ready (rs := [13]) (by as_aux_lemma => kernel_rfl) (by simp) ?_
  refine AllReadyH.cons rfl (fun K hK => ?_) AllReadyH.nil
  go_simp
  go_wp2_with (go_at_call 15; refine (HW.out _ b4).mono ?_; rintro e w5 ⟨rfl, q5⟩; have b5 := b4.trans (q5.mono b4.size))
  refine hK.out _ _ ?_ (fun hS => ?_)
  · exact hS.below q5
  clear hK K
  refine wpAnyH_take (i := 14) (v := ?_) rfl (by as_aux_lemma => kernel_rfl) (by as_aux_lemma => kernel_rfl) (by as_aux_lemma => kernel_rfl) (fun _ _ _ h => h) (Or.inl ⟨by kernel_rfl, ?_⟩) hS ?_
  rotate_left
  · intro w hSw; have c0 := hSw.cell0; have c1 := hSw.cell1; have c2 := hSw.cell2; simp only at c0 c1 c2; go_simp
    first | done | with_reducible rfl
  skip
  refine wpAnyH_take (i := 15) (v := ?_) rfl (by as_aux_lemma => kernel_rfl) (by as_aux_lemma => kernel_rfl) (by as_aux_lemma => kernel_rfl) (fun _ _ _ h => h) (Or.inl ⟨by kernel_rfl, ?_⟩) hS ?_
  rotate_left
  · intro w hSw; have c0 := hSw.cell0; have c1 := hSw.cell1; have c2 := hSw.cell2; simp only at c0 c1 c2; go_simp
    first | done | with_reducible rfl
  skip
  refine wpAnyH_done (by kernel_rfl) ?_ _
  go_wp2
  go_ret
  exact ⟨rfl, b5⟩

end Go.Proofs.YtlcbkhmaemoahaaDoor
