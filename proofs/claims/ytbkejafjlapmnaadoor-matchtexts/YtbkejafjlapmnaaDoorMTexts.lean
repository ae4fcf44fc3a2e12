/-
  The walk of MatchTexts.
-/
import Derived.Test.YtbkejafjlapmnaaDoorM13
import Derived.Test.YtbkejafjlapmnaaDoorM4
import Derived.Test.YtbkejafjlapmnaaDoorMOpen
import Derived.Deep.RegionHeld3
namespace Go.Proofs.YtbkejafjlapmnaaDoor
open Go.RowKit Go.Shelf

/-- How long a matcher's texts may be. -/
theorem reach_matcher {H : Type} {ts : List TypeId} {ds : List (DataW H)} (hsz : (DataW.weightsEach Tryd.prog ts ds).all (· ≤ reachBytes) = true) {j : Nat} {m : Mt} (ht : ts[j]? = some 24) (hd : ds[j]? = some (dataM m)) : m.1.size + m.2.2.size + 2 ≤ 9223372036854775807 := by
  have k : reachBytes = 140737488351232 := by decide
  have h1 := List.all_eq_true.1 hsz _ (DataW.weights_mem_each ht hd m.1.data.toList.length (by simp [dataM, DataW.weights, DataW.weightsEach, Tryd.underlying24]))
  have h2 := List.all_eq_true.1 hsz _ (DataW.weights_mem_each ht hd m.2.2.data.toList.length (by simp [dataM, DataW.weights, DataW.weightsEach, Tryd.underlying24]))
  rw [← Lib.size_eq] at h1 h2
  simp only [decide_eq_true_eq] at h1 h2
  omega

/-- Whatever reads a text tells the same. -/
theorem reads_one (s : ByteArray) : ∃ (m : Mt) (x : Int), ∀ e, ReadsAs s e → e = .returned (.tuple #[.agg #[.string m.1, .int .u8 (m.2.1 : Int), .string m.2.2], .int .i64 x]) := by
  by_cases h : ∃ m, First s m
  · obtain ⟨m, hm⟩ := h
    refine ⟨m, 0, fun e he => ?_⟩
    rcases he with ⟨m', h1, h2⟩ | ⟨h1, -⟩
    · rw [h1.one hm] at h2
      exact h2
    · exact absurd hm.2.1 (h1 m hm.1)
  · refine ⟨(⟨#[]⟩, 0, ⟨#[]⟩), 4, fun e he => ?_⟩
    rcases he with ⟨m', h1, -⟩ | ⟨-, h2⟩
    · exact absurd ⟨m', h1⟩ h
    · exact h2

set_option maxRecDepth 20000 in
set_option maxHeartbeats 4000000 in
theorem texts_walk (n : ByteArray) (o : Nat) (v s : ByteArray) (w : World) (htab : TabW w) (hs : s.size ≤ 9223372036854775807) (hsz : n.size + v.size + 2 ≤ 9223372036854775807) :
    Calls Tryd.prog 3 #[.agg #[.string n, .int .u8 (o : Int), .string v], .string s] w fun e w' => e = .returned (.bool true) ∧ Below w.heap.size w w' := by
  have htl := htab.lt
  have HW := Lib.hid (fun u (hb : Below w.heap.size w u) => mawake_any u (htab.on hb htl))
  have hA := (Below.refl w.heap.size w).alloc (Nat.le_refl _) (.cells #[.string n, .int .u8 (o : Int), .string v] 24)
  have hm0 : MtBlk (w.alloc (.cells #[.string n, .int .u8 (o : Int), .string v] 24)) w.heap.size (n, o, v) := heap_new w _
  by_cases h1 : 200 < s.size
  · have h1' : (200 : Int) < (s.size : Int) := by omega
    have HA := Lib.hid (HW.out _ hA)
    go_enter Tryd.func3, Tryd.ntmps3
    go_wp2_with (go_at_call 9; refine HA.out.mono ?_; rintro e w1 ⟨rfl, hb1⟩)
    go_ret
    exact ⟨rfl, hA.trans (hb1.mono hA.size)⟩
  have h1' : ¬ (200 : Int) < (s.size : Int) := by omega
  obtain ⟨⟨mn, mo, mv⟩, x, hx⟩ := reads_one s
  simp only at hx
  have HX := Lib.hid hx
  have HR1 := Lib.hid (mRead_reads s _ (htab.on hA htl) (by omega))
  have HR2 := Lib.hid (fun u => nRead_reads s u (by omega))
  have HT1 := Lib.hid (fun u => mText_any n o v u hsz)
  have HT2 := Lib.hid (fun u => nText_any n o v u hsz)
  generalize textM (n, o, v) = T at *
  clear hx
  go_enter Tryd.func3, Tryd.ntmps3
  go_wp2_with (go_at_call 10; refine HR1.out.mono ?_; rintro e w2 ⟨hr, q2⟩; obtain rfl := HX.out _ hr; clear hr; refine Hid.out ?_)
  refine Lib.hid ?_
  have b2 := hA.trans (q2.mono hA.size)
  have m2 := hm0.below q2
  clear q2 HR1 hA hm0
  have hl2 := m2.lt
  have b3 := b2.alloc b2.size (.cells #[.string mn, .int .u8 (mo : Int), .string mv] 24)
  have m3 : MtBlk (w2.alloc (.cells #[.string mn, .int .u8 (mo : Int), .string mv] 24)) w.heap.size (n, o, v) := m2.below ((Below.refl _ _).alloc (Nat.le_refl _) _)
  have x3 : MtBlk (w2.alloc (.cells #[.string mn, .int .u8 (mo : Int), .string mv] 24)) w2.heap.size (mn, mo, mv) := heap_new w2 _
  go_wp2_with (go_at_call 11; refine (HR2.out _).mono ?_; rintro e w4 ⟨hr, q4⟩; obtain rfl := HX.out _ hr; clear hr; refine Hid.out ?_)
  refine Lib.hid ?_
  have b4 := b3.trans (q4.mono b3.size)
  have m4 := m3.below q4
  have x4 := x3.below q4
  clear q4 b3 m3 x3 b2 m2 HR2 HX
  have b5 := b4.alloc b4.size (.cells #[.string mn, .int .u8 (mo : Int), .string mv] 24)
  have m5 : MtBlk (w4.alloc (.cells #[.string mn, .int .u8 (mo : Int), .string mv] 24)) w.heap.size (n, o, v) := m4.below ((Below.refl _ _).alloc (Nat.le_refl _) _)
  have x5 : MtBlk (w4.alloc (.cells #[.string mn, .int .u8 (mo : Int), .string mv] 24)) w2.heap.size (mn, mo, mv) := x4.below ((Below.refl _ _).alloc (Nat.le_refl _) _)
  have y5 : MtBlk (w4.alloc (.cells #[.string mn, .int .u8 (mo : Int), .string mv] 24)) w4.heap.size (mn, mo, mv) := heap_new w4 _
  clear b4 m4 x4
  go_wp2_with fail
  generalize hW5 : w4.alloc (.cells #[.string mn, .int .u8 (mo : Int), .string mv] 24) = W5 at *
  clear hW5
  generalize w4.heap.size = B4 at *
  generalize w2.heap.size = B2 at *
  refine wp_region_any (by kernel_rfl) ?_
  change wpAny _ _ _ _ _ _ _ (World.drew _)
  have hS : (fun w' : World => MtBlk w' w.heap.size (n, o, v) ∧ MtBlk w' B2 (mn, mo, mv) ∧ MtBlk w' B4 (mn, mo, mv)) W5.drew := ⟨m5, x5, y5⟩
  refine wpAny_of_held (S := fun w' => MtBlk w' w.heap.size (n, o, v) ∧ MtBlk w' B2 (mn, mo, mv) ∧ MtBlk w' B4 (mn, mo, mv)) _ _ _ _ ?_
  refine wpAnyH_take (i := 0) (v := ?_) rfl (by as_aux_lemma => kernel_rfl) (by as_aux_lemma => kernel_rfl) (by as_aux_lemma => kernel_rfl) (fun _ _ _ h => h) (Or.inl ⟨by kernel_rfl, ?_⟩) hS ?_
  rotate_left
  · intro w hSw; have c0 := hSw.1.cell0; have c1 := hSw.1.cell1; have c2 := hSw.1.cell2; have d0 := hSw.2.1.cell0; have d1 := hSw.2.1.cell1; have d2 := hSw.2.1.cell2; have g0 := hSw.2.2.cell0; have g1 := hSw.2.2.cell1; have g2 := hSw.2.2.cell2; simp only at c0 c1 c2 d0 d1 d2 g0 g1 g2; go_simp
    first | done | with_reducible rfl
  skip
  refine wpAnyH_take (i := 2) (v := ?_) rfl (by as_aux_lemma => kernel_rfl) (by as_aux_lemma => kernel_rfl) (by as_aux_lemma => kernel_rfl) (fun _ _ _ h => h) (Or.inl ⟨by kernel_rfl, ?_⟩) hS ?_
  rotate_left
  · intro w hSw; have c0 := hSw.1.cell0; have c1 := hSw.1.cell1; have c2 := hSw.1.cell2; have d0 := hSw.2.1.cell0; have d1 := hSw.2.1.cell1; have d2 := hSw.2.1.cell2; have g0 := hSw.2.2.cell0; have g1 := hSw.2.2.cell1; have g2 := hSw.2.2.cell2; simp only at c0 c1 c2 d0 d1 d2 g0 g1 g2; go_simp
    first | done | with_reducible rfl
  skip
  refine wpAnyH_ready (rs := [1]) (by as_aux_lemma => kernel_rfl) (by simp) ?_
  refine AllReadyH.cons rfl (fun K hK => ?_) AllReadyH.nil
  go_simp
  go_wp2_with (have y0 := b5.drew; go_at_call 12; refine (HT1.out _).mono ?_; rintro e v1 ⟨rfl, p1⟩; have y1 := y0.trans (p1.mono y0.size))
  refine hK.out _ _ ?_ (fun hS => ?_)
  · exact ⟨hS.1.below p1, hS.2.1.below p1, hS.2.2.below p1⟩
  clear hK K
  refine wpAnyH_ready (rs := [3]) (by as_aux_lemma => kernel_rfl) (by simp) ?_
  refine AllReadyH.cons rfl (fun K hK => ?_) AllReadyH.nil
  go_simp
  go_wp2_with (go_at_call 13; refine (HT2.out _).mono ?_; rintro e v2 ⟨rfl, p2⟩; have y2 := y1.trans (p2.mono y1.size))
  refine hK.out _ _ ?_ (fun hS => ?_)
  · exact ⟨hS.1.below p2, hS.2.1.below p2, hS.2.2.below p2⟩
  clear hK K
  refine wpAnyH_take (i := 4) (v := ?_) rfl (by as_aux_lemma => kernel_rfl) (by as_aux_lemma => kernel_rfl) (by as_aux_lemma => kernel_rfl) (fun _ _ _ h => h) (Or.inl ⟨by kernel_rfl, ?_⟩) hS ?_
  rotate_left
  · intro w hSw; have c0 := hSw.1.cell0; have c1 := hSw.1.cell1; have c2 := hSw.1.cell2; have d0 := hSw.2.1.cell0; have d1 := hSw.2.1.cell1; have d2 := hSw.2.1.cell2; have g0 := hSw.2.2.cell0; have g1 := hSw.2.2.cell1; have g2 := hSw.2.2.cell2; simp only at c0 c1 c2 d0 d1 d2 g0 g1 g2; go_simp
    first | done | with_reducible rfl
  skip
  refine wpAnyH_take (i := 5) (v := ?_) rfl (by as_aux_lemma => kernel_rfl) (by as_aux_lemma => kernel_rfl) (by as_aux_lemma => kernel_rfl) (fun _ _ _ h => h) (Or.inl ⟨by kernel_rfl, ?_⟩) hS ?_
  rotate_left
  · intro w hSw; have c0 := hSw.1.cell0; have c1 := hSw.1.cell1; have c2 := hSw.1.cell2; have d0 := hSw.2.1.cell0; have d1 := hSw.2.1.cell1; have d2 := hSw.2.1.cell2; have g0 := hSw.2.2.cell0; have g1 := hSw.2.2.cell1; have g2 := hSw.2.2.cell2; simp only at c0 c1 c2 d0 d1 d2 g0 g1 g2; go_simp
    first | done | with_reducible rfl
  skip
  refine wpAnyH_take (i := 6) (v := ?_) rfl (by as_aux_lemma => kernel_rfl) (by as_aux_lemma => kernel_rfl) (by as_aux_lemma => kernel_rfl) (fun _ _ _ h => h) (Or.inl ⟨by kernel_rfl, ?_⟩) hS ?_
  rotate_left
  · intro w hSw; have c0 := hSw.1.cell0; have c1 := hSw.1.cell1; have c2 := hSw.1.cell2; have d0 := hSw.2.1.cell0; have d1 := hSw.2.1.cell1; have d2 := hSw.2.1.cell2; have g0 := hSw.2.2.cell0; have g1 := hSw.2.2.cell1; have g2 := hSw.2.2.cell2; simp only at c0 c1 c2 d0 d1 d2 g0 g1 g2; go_simp
    first | done | with_reducible rfl
  skip
  refine wpAnyH_take (i := 7) (v := ?_) rfl (by as_aux_lemma => kernel_rfl) (by as_aux_lemma => kernel_rfl) (by as_aux_lemma => kernel_rfl) (fun _ _ _ h => h) (Or.inl ⟨by kernel_rfl, ?_⟩) hS ?_
  rotate_left
  · intro w hSw; have c0 := hSw.1.cell0; have c1 := hSw.1.cell1; have c2 := hSw.1.cell2; have d0 := hSw.2.1.cell0; have d1 := hSw.2.1.cell1; have d2 := hSw.2.1.cell2; have g0 := hSw.2.2.cell0; have g1 := hSw.2.2.cell1; have g2 := hSw.2.2.cell2; simp only at c0 c1 c2 d0 d1 d2 g0 g1 g2; go_simp
    first | done | with_reducible rfl
  skip
  refine wpAnyH_take (i := 8) (v := ?_) rfl (by as_aux_lemma => kernel_rfl) (by as_aux_lemma => kernel_rfl) (by as_aux_lemma => kernel_rfl) (fun _ _ _ h => h) (Or.inl ⟨by kernel_rfl, ?_⟩) hS ?_
  rotate_left
  · intro w hSw; have c0 := hSw.1.cell0; have c1 := hSw.1.cell1; have c2 := hSw.1.cell2; have d0 := hSw.2.1.cell0; have d1 := hSw.2.1.cell1; have d2 := hSw.2.1.cell2; have g0 := hSw.2.2.cell0; have g1 := hSw.2.2.cell1; have g2 := hSw.2.2.cell2; simp only at c0 c1 c2 d0 d1 d2 g0 g1 g2; go_simp
    first | done | with_reducible rfl
  skip
  refine wpAnyH_take (i := 9) (v := ?_) rfl (by as_aux_lemma => kernel_rfl) (by as_aux_lemma => kernel_rfl) (by as_aux_lemma => kernel_rfl) (fun _ _ _ h => h) (Or.inl ⟨by kernel_rfl, ?_⟩) hS ?_
  rotate_left
  · intro w hSw; have c0 := hSw.1.cell0; have c1 := hSw.1.cell1; have c2 := hSw.1.cell2; have d0 := hSw.2.1.cell0; have d1 := hSw.2.1.cell1; have d2 := hSw.2.1.cell2; have g0 := hSw.2.2.cell0; have g1 := hSw.2.2.cell1; have g2 := hSw.2.2.cell2; simp only at c0 c1 c2 d0 d1 d2 g0 g1 g2; go_simp
    first | done | with_reducible rfl
  skip
  refine wpAnyH_take (i := 10) (v := ?_) rfl (by as_aux_lemma => kernel_rfl) (by as_aux_lemma => kernel_rfl) (by as_aux_lemma => kernel_rfl) (fun _ _ _ h => h) (Or.inl ⟨by kernel_rfl, ?_⟩) hS ?_
  rotate_left
  · intro w hSw; have c0 := hSw.1.cell0; have c1 := hSw.1.cell1; have c2 := hSw.1.cell2; have d0 := hSw.2.1.cell0; have d1 := hSw.2.1.cell1; have d2 := hSw.2.1.cell2; have g0 := hSw.2.2.cell0; have g1 := hSw.2.2.cell1; have g2 := hSw.2.2.cell2; simp only at c0 c1 c2 d0 d1 d2 g0 g1 g2; go_simp
    first | done | with_reducible rfl
  skip
  refine wpAnyH_take (i := 11) (v := ?_) rfl (by as_aux_lemma => kernel_rfl) (by as_aux_lemma => kernel_rfl) (by as_aux_lemma => kernel_rfl) (fun _ _ _ h => h) (Or.inl ⟨by kernel_rfl, ?_⟩) hS ?_
  rotate_left
  · intro w hSw; have c0 := hSw.1.cell0; have c1 := hSw.1.cell1; have c2 := hSw.1.cell2; have d0 := hSw.2.1.cell0; have d1 := hSw.2.1.cell1; have d2 := hSw.2.1.cell2; have g0 := hSw.2.2.cell0; have g1 := hSw.2.2.cell1; have g2 := hSw.2.2.cell2; simp only at c0 c1 c2 d0 d1 d2 g0 g1 g2; go_simp
    first | done | with_reducible rfl
  skip
  refine wpAnyH_take (i := 12) (v := ?_) rfl (by as_aux_lemma => kernel_rfl) (by as_aux_lemma => kernel_rfl) (by as_aux_lemma => kernel_rfl) (fun _ _ _ h => h) (Or.inl ⟨by kernel_rfl, ?_⟩) hS ?_
  rotate_left
  · intro w hSw; have c0 := hSw.1.cell0; have c1 := hSw.1.cell1; have c2 := hSw.1.cell2; have d0 := hSw.2.1.cell0; have d1 := hSw.2.1.cell1; have d2 := hSw.2.1.cell2; have g0 := hSw.2.2.cell0; have g1 := hSw.2.2.cell1; have g2 := hSw.2.2.cell2; simp only at c0 c1 c2 d0 d1 d2 g0 g1 g2; go_simp
    first | done | with_reducible rfl
  skip
  refine wpAnyH_take (i := 13) (v := ?_) rfl (by as_aux_lemma => kernel_rfl) (by as_aux_lemma => kernel_rfl) (by as_aux_lemma => kernel_rfl) (fun _ _ _ h => h) (Or.inl ⟨by kernel_rfl, ?_⟩) hS ?_
  rotate_left
  · intro w hSw; have c0 := hSw.1.cell0; have c1 := hSw.1.cell1; have c2 := hSw.1.cell2; have d0 := hSw.2.1.cell0; have d1 := hSw.2.1.cell1; have d2 := hSw.2.1.cell2; have g0 := hSw.2.2.cell0; have g1 := hSw.2.2.cell1; have g2 := hSw.2.2.cell2; simp only at c0 c1 c2 d0 d1 d2 g0 g1 g2; go_simp
    first | done | with_reducible rfl
  skip
  refine wpAnyH_take (i := 14) (v := ?_) rfl (by as_aux_lemma => kernel_rfl) (by as_aux_lemma => kernel_rfl) (by as_aux_lemma => kernel_rfl) (fun _ _ _ h => h) (Or.inl ⟨by kernel_rfl, ?_⟩) hS ?_
  rotate_left
  · intro w hSw; have c0 := hSw.1.cell0; have c1 := hSw.1.cell1; have c2 := hSw.1.cell2; have d0 := hSw.2.1.cell0; have d1 := hSw.2.1.cell1; have d2 := hSw.2.1.cell2; have g0 := hSw.2.2.cell0; have g1 := hSw.2.2.cell1; have g2 := hSw.2.2.cell2; simp only at c0 c1 c2 d0 d1 d2 g0 g1 g2; go_simp
    first | done | with_reducible rfl
  skip
  refine wpAnyH_take (i := 15) (v := ?_) rfl (by as_aux_lemma => kernel_rfl) (by as_aux_lemma => kernel_rfl) (by as_aux_lemma => kernel_rfl) (fun _ _ _ h => h) (Or.inl ⟨by kernel_rfl, ?_⟩) hS ?_
  rotate_left
  · intro w hSw; have c0 := hSw.1.cell0; have c1 := hSw.1.cell1; have c2 := hSw.1.cell2; have d0 := hSw.2.1.cell0; have d1 := hSw.2.1.cell1; have d2 := hSw.2.1.cell2; have g0 := hSw.2.2.cell0; have g1 := hSw.2.2.cell1; have g2 := hSw.2.2.cell2; simp only at c0 c1 c2 d0 d1 d2 g0 g1 g2; go_simp
    first | done | with_reducible rfl
  skip
  refine wpAnyH_ready (rs := [16]) (by as_aux_lemma => kernel_rfl) (by simp) ?_
  refine AllReadyH.cons rfl (fun K hK => ?_) AllReadyH.nil
  go_simp
  go_wp2_with (go_at_call 9; refine (HW.out _ y2).mono ?_; rintro e v3 ⟨rfl, p3⟩; have y3 := y2.trans (p3.mono y2.size))
  refine hK.out _ _ ?_ (fun hS => ?_)
  · exact ⟨hS.1.below p3, hS.2.1.below p3, hS.2.2.below p3⟩
  clear hK K
  refine wpAnyH_take (i := 17) (v := ?_) rfl (by as_aux_lemma => kernel_rfl) (by as_aux_lemma => kernel_rfl) (by as_aux_lemma => kernel_rfl) (fun _ _ _ h => h) (Or.inl ⟨by kernel_rfl, ?_⟩) hS ?_
  rotate_left
  · intro w hSw; have c0 := hSw.1.cell0; have c1 := hSw.1.cell1; have c2 := hSw.1.cell2; have d0 := hSw.2.1.cell0; have d1 := hSw.2.1.cell1; have d2 := hSw.2.1.cell2; have g0 := hSw.2.2.cell0; have g1 := hSw.2.2.cell1; have g2 := hSw.2.2.cell2; simp only at c0 c1 c2 d0 d1 d2 g0 g1 g2; go_simp
    first | done | with_reducible rfl
  skip
  refine wpAnyH_take (i := 18) (v := ?_) rfl (by as_aux_lemma => kernel_rfl) (by as_aux_lemma => kernel_rfl) (by as_aux_lemma => kernel_rfl) (fun _ _ _ h => h) (Or.inl ⟨by kernel_rfl, ?_⟩) hS ?_
  rotate_left
  · intro w hSw; have c0 := hSw.1.cell0; have c1 := hSw.1.cell1; have c2 := hSw.1.cell2; have d0 := hSw.2.1.cell0; have d1 := hSw.2.1.cell1; have d2 := hSw.2.1.cell2; have g0 := hSw.2.2.cell0; have g1 := hSw.2.2.cell1; have g2 := hSw.2.2.cell2; simp only at c0 c1 c2 d0 d1 d2 g0 g1 g2; go_simp
    first | done | with_reducible rfl
  skip
  refine wpAnyH_done (by kernel_rfl) ?_ _
  go_wp2
  go_ret
  exact ⟨rfl, y3⟩

end Go.Proofs.YtbkejafjlapmnaaDoor
