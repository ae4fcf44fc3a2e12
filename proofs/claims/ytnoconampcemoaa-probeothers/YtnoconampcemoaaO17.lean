/-
  Both probes and both tables as they are made.
-/
import Derived.Test.YtnoconampcemoaaO16
namespace Go.Proofs.Ytnoconampcemoaa
open Go Go.RowKit

theorem memsNew {s : Nat} (h : s < 64) : memsB (newB s) = [⟨(s : Int), 0, 0⟩] := by
  have hok := newB_ok h
  have hz : ∀ x ∈ memsB (newB s), x = ⟨(s : Int), 0, 0⟩ := fun x hx => by
    have := (mem_memsB hok).1 hx
    simp only [newB] at this
    split at this
    · exact (Option.some.inj this).symm
    · cases this
  have hm : (⟨(s : Int), 0, 0⟩ : Mem) ∈ memsB (newB s) := (mem_memsB hok).2 (by simp [newB])
  have hs := memsB_sorted hok
  match hl : memsB (newB s) with
  | [] => rw [hl] at hm; cases hm
  | [x1] => rw [hl] at hm; rw [(List.mem_singleton.1 hm)]
  | x1 :: x2 :: r =>
    rw [hl] at hs hz
    have e1 := hz x1 (by simp)
    have e2 := hz x2 (by simp)
    have := (List.pairwise_cons.1 hs).1 x2 (by simp)
    rw [e1, e2] at this
    exact absurd this (Int.lt_irrefl _)
set_option maxRecDepth 20000 in
set_option maxHeartbeats 16000000 in
theorem pbmade_ok (s : Nat) (per tmo : Int) (w : World) (hs : s < 64) (hp : spanOk per = true) (ht : spanOk tmo = true) :
    Calls Try.prog 9 #[.int .u16 (s : Int), .int .i64 per, .int .i64 tmo] w fun e w' => ∃ B b d x, e = .returned (.tuple #[.pointer (some ⟨B, 0, none⟩), .bool true]) ∧ WSt w w' B b d (newPb s per tmo) (newB s) (newPb s per tmo) (newB s) 0 none 0 0 x 1 1 := by
  have H1 := Lib.hid (pbNew_ok s per tmo w hs hp ht)
  have H2 := Lib.hid (fun u => pqNew_ok s per tmo u hs hp ht)
  have H3 := Lib.hid (fun u => bNew_any s u)
  have H4 := Lib.hid (fun u => brNew_any s u)
  have hm : s % 64 = s := Nat.mod_eq_of_lt hs
  rw [hm] at H3 H4
  have HPk := Lib.hid (newPb_ok hs hp ht)
  have HTk := Lib.hid (newB_ok hs)
  have HS := Lib.hid hs
  clear hs hp ht hm
  go_enter Try.func9, Try.ntmps9
  go_wp2_with (go_at_call 21; refine H1.out.mono ?_; rintro e w1 ⟨rfl, p1, q1⟩; replace p1 := Lib.hid p1; replace q1 := Lib.hid q1; refine Hid.out ?_)
  refine Lib.hid ?_
  have HQ := Lib.hid (H2.out w1)
  go_wp2_with (go_at_call 24; refine HQ.out.mono ?_; rintro e w2 ⟨he, q2⟩; have he2 : e = .returned (.tuple #[.agg #[.int .u16 (s : Int), .int .i64 per, .int .i64 tmo, .int .i64 0, .int .i64 0, .bool false, .bool false, .int .u16 0, .int .i64 0, .slice none 0 0], .int .i64 0]) := he; subst he2; clear he; replace q2 := Lib.hid q2; refine Hid.out ?_)
  refine Lib.hid ?_
  go_upto_region 3 with fail
  have hR : RqB (w2.alloc (.cells #[.int .u16 (s : Int), .int .i64 per, .int .i64 tmo, .int .i64 0, .int .i64 0, .bool false, .bool false, .int .u16 0, .int .i64 0, .slice none 0 0] 32)) w2.heap.size (newPb s per tmo) none 0 0 := RqB.new w2 (newPb s per tmo) none 0 0
  have hB : Below w.heap.size w (w2.alloc (.cells #[.int .u16 (s : Int), .int .i64 per, .int .i64 tmo, .int .i64 0, .int .i64 0, .bool false, .bool false, .int .u16 0, .int .i64 0, .slice none 0 0] 32)) := (q1.out.trans (q2.out.mono q1.out.size)).alloc (Nat.le_trans q1.out.size q2.out.size) _
  have hP : PbBlk (w2.alloc (.cells #[.int .u16 (s : Int), .int .i64 per, .int .i64 tmo, .int .i64 0, .int .i64 0, .bool false, .bool false, .int .u16 0, .int .i64 0, .slice none 0 0] 32)) w.heap.size (newPb s per tmo) := (p1.out.on q2.out).on ((Below.refl _ w2).alloc (Nat.le_refl _) _)
  clear p1 q1 q2 HQ H1 H2
  generalize w2.alloc (.cells #[.int .u16 (s : Int), .int .i64 per, .int .i64 tmo, .int .i64 0, .int .i64 0, .bool false, .bool false, .int .u16 0, .int .i64 0, .slice none 0 0] 32) = X at *
  generalize w2.heap.size = x0 at *
  have HX := Lib.hid (And.intro hR (And.intro hB hP))
  have HC : Hid (∀ u, Below X.heap.size X u → RqAt u x0 (newPb s per tmo) none 0 0) := Lib.hid (fun u hu => (hR.on hu).at)
  clear hR hB hP
  unfold newPb at HC
  refine wp_region_any (by kernel_rfl) ?_
  change wpAny _ _ _ _ _ _ _ (World.drew _)
  have hS : (fun w' : World => Below X.heap.size X w') X.drew := (Below.refl _ X).drew
  refine wpAny_of_held (S := fun w' => Below X.heap.size X w') _ _ _ _ ?_
  refine wpAnyH_takeE (i := 0) (some 26) (v := ?_) rfl rfl (by as_aux_lemma => kernel_rfl) (by as_aux_lemma => kernel_rfl) (by as_aux_lemma => kernel_rfl) (fun _ _ _ h => h) (Or.inl ⟨by kernel_rfl, ?_⟩) hS ?_
  rotate_left
  · intro w hSw; obtain ⟨r0, r1, r2, r3, r4, r5, r6, r7, r8, r9⟩ := HC.out _ hSw; dsimp only at r0 r1 r2 r3 r4 r5 r6 r7 r8 r9; go_simp
    first | done | with_reducible rfl
  refine wpAnyH_takeE (i := 1) (some 27) (v := ?_) rfl rfl (by as_aux_lemma => kernel_rfl) (by as_aux_lemma => kernel_rfl) (by as_aux_lemma => kernel_rfl) (fun _ _ _ h => h) (Or.inl ⟨by kernel_rfl, ?_⟩) hS ?_
  rotate_left
  · intro w hSw; obtain ⟨r0, r1, r2, r3, r4, r5, r6, r7, r8, r9⟩ := HC.out _ hSw; dsimp only at r0 r1 r2 r3 r4 r5 r6 r7 r8 r9; go_simp
    first | done | with_reducible rfl
  refine wpAnyH_takeE (i := 2) (some 28) (v := ?_) rfl rfl (by as_aux_lemma => kernel_rfl) (by as_aux_lemma => kernel_rfl) (by as_aux_lemma => kernel_rfl) (fun _ _ _ h => h) (Or.inl ⟨by kernel_rfl, ?_⟩) hS ?_
  rotate_left
  · intro w hSw; obtain ⟨r0, r1, r2, r3, r4, r5, r6, r7, r8, r9⟩ := HC.out _ hSw; dsimp only at r0 r1 r2 r3 r4 r5 r6 r7 r8 r9; go_simp
    first | done | with_reducible rfl
  refine wpAnyH_takeE (i := 4) (some 30) (v := ?_) rfl rfl (by as_aux_lemma => kernel_rfl) (by as_aux_lemma => kernel_rfl) (by as_aux_lemma => kernel_rfl) (fun _ _ _ h => h) (Or.inl ⟨by kernel_rfl, ?_⟩) hS ?_
  rotate_left
  · intro w hSw; obtain ⟨r0, r1, r2, r3, r4, r5, r6, r7, r8, r9⟩ := HC.out _ hSw; dsimp only at r0 r1 r2 r3 r4 r5 r6 r7 r8 r9; go_simp
    first | done | with_reducible rfl
  refine wpAnyH_takeE (i := 8) (some 34) (v := ?_) rfl rfl (by as_aux_lemma => kernel_rfl) (by as_aux_lemma => kernel_rfl) (by as_aux_lemma => kernel_rfl) (fun _ _ _ h => h) (Or.inl ⟨by kernel_rfl, ?_⟩) hS ?_
  rotate_left
  · intro w hSw; obtain ⟨r0, r1, r2, r3, r4, r5, r6, r7, r8, r9⟩ := HC.out _ hSw; dsimp only at r0 r1 r2 r3 r4 r5 r6 r7 r8 r9; go_simp
    first | done | with_reducible rfl
  refine wpAnyH_takeE (i := 9) (some 35) (v := ?_) rfl rfl (by as_aux_lemma => kernel_rfl) (by as_aux_lemma => kernel_rfl) (by as_aux_lemma => kernel_rfl) (fun _ _ _ h => h) (Or.inl ⟨by kernel_rfl, ?_⟩) hS ?_
  rotate_left
  · intro w hSw; obtain ⟨r0, r1, r2, r3, r4, r5, r6, r7, r8, r9⟩ := HC.out _ hSw; dsimp only at r0 r1 r2 r3 r4 r5 r6 r7 r8 r9; go_simp
    first | done | with_reducible rfl
  refine wpAnyH_takeE (i := 10) (some 36) (v := ?_) rfl rfl (by as_aux_lemma => kernel_rfl) (by as_aux_lemma => kernel_rfl) (by as_aux_lemma => kernel_rfl) (fun _ _ _ h => h) (Or.inl ⟨by kernel_rfl, ?_⟩) hS ?_
  rotate_left
  · intro w hSw; obtain ⟨r0, r1, r2, r3, r4, r5, r6, r7, r8, r9⟩ := HC.out _ hSw; dsimp only at r0 r1 r2 r3 r4 r5 r6 r7 r8 r9; go_simp
    first | done | with_reducible rfl
  refine wpAnyH_ready (rs := [3]) (by as_aux_lemma => kernel_rfl) (by simp) ?_
  refine AllReadyH.cons rfl (fun K hK => ?_) AllReadyH.nil
  go_simp
  go_wp2_with (go_at_call 19; refine (H3.out _).mono ?_; rintro e w3 ⟨rfl, t3, q3⟩; replace t3 := Lib.hid t3; replace q3 := Lib.hid q3)
  refine hK.out _ _ ?_ (fun hS => ?_)
  · exact hS.trans (q3.out.mono hS.size)
  clear hK K
  refine wpAnyH_ready (rs := [5]) (by as_aux_lemma => kernel_rfl) (by simp) ?_
  refine AllReadyH.cons rfl (fun K hK => ?_) AllReadyH.nil
  go_simp
  go_wp2_with (go_at_call 25; refine (H4.out _).mono ?_; rintro e w4 ⟨b4, rfl, m4, hb4, q4⟩; replace m4 := Lib.hid m4; replace hb4 := Lib.hid hb4; replace q4 := Lib.hid q4)
  refine hK.out _ _ ?_ (fun hS => ?_)
  · exact hS.trans (q4.out.mono hS.size)
  clear hK K
  refine wpAnyH_takeE (i := 6) (some 32) (v := ?_) rfl rfl (by as_aux_lemma => kernel_rfl) (by as_aux_lemma => kernel_rfl) (by as_aux_lemma => kernel_rfl) (fun _ _ _ h => h) (Or.inl ⟨by kernel_rfl, ?_⟩) hS ?_
  rotate_left
  · intro w hSw; skip; go_simp
    first | done | with_reducible rfl
  refine wpAnyH_takeE (i := 11) (some 37) (v := ?_) rfl rfl (by as_aux_lemma => kernel_rfl) (by as_aux_lemma => kernel_rfl) (by as_aux_lemma => kernel_rfl) (fun _ _ _ h => h) (Or.inl ⟨by kernel_rfl, ?_⟩) hS ?_
  rotate_left
  · intro w hSw; skip; go_simp
    first | done | with_reducible rfl
  refine wpAnyH_takeE (i := 12) (some 38) (v := ?_) rfl rfl (by as_aux_lemma => kernel_rfl) (by as_aux_lemma => kernel_rfl) (by as_aux_lemma => kernel_rfl) (fun _ _ _ h => h) (Or.inl ⟨by kernel_rfl, ?_⟩) hS ?_
  rotate_left
  · intro w hSw; skip; go_simp
    first | done | with_reducible rfl
  refine wpAnyH_takeE (i := 13) (some 39) (v := ?_) rfl rfl (by as_aux_lemma => kernel_rfl) (by as_aux_lemma => kernel_rfl) (by as_aux_lemma => kernel_rfl) (fun _ _ _ h => h) (Or.inl ⟨by kernel_rfl, ?_⟩) hS ?_
  rotate_left
  · intro w hSw; skip; go_simp
    first | done | with_reducible rfl
  refine wpAnyH_takeE (i := 14) (some 40) (v := ?_) rfl rfl (by as_aux_lemma => kernel_rfl) (by as_aux_lemma => kernel_rfl) (by as_aux_lemma => kernel_rfl) (fun _ _ _ h => h) (Or.inl ⟨by kernel_rfl, ?_⟩) hS ?_
  rotate_left
  · intro w hSw; skip; go_simp
    first | done | with_reducible rfl
  refine wpAnyH_takeE (i := 15) (some 41) (v := ?_) rfl rfl (by as_aux_lemma => kernel_rfl) (by as_aux_lemma => kernel_rfl) (by as_aux_lemma => kernel_rfl) (fun _ _ _ h => h) (Or.inl ⟨by kernel_rfl, ?_⟩) hS ?_
  rotate_left
  · intro w hSw; skip; go_simp
    first | done | with_reducible rfl
  refine wpAnyH_takeE (i := 16) (some 42) (v := ?_) rfl rfl (by as_aux_lemma => kernel_rfl) (by as_aux_lemma => kernel_rfl) (by as_aux_lemma => kernel_rfl) (fun _ _ _ h => h) (Or.inl ⟨by kernel_rfl, ?_⟩) hS ?_
  rotate_left
  · intro w hSw; skip; go_simp
    first | done | with_reducible rfl
  refine wpAnyH_takeE (i := 17) (some 43) (v := ?_) rfl rfl (by as_aux_lemma => kernel_rfl) (by as_aux_lemma => kernel_rfl) (by as_aux_lemma => kernel_rfl) (fun _ _ _ h => h) (Or.inl ⟨by kernel_rfl, ?_⟩) hS ?_
  rotate_left
  · intro w hSw; skip; go_simp
    first | done | with_reducible rfl
  have HE : Hid (WSt w (w4.alloc (.cells #[.pointer (some ⟨w.heap.size, 0, none⟩), .pointer (some ⟨X.heap.size, 0, none⟩), .int .u16 (s : Int), .int .i64 per, .int .i64 tmo, .int .i64 0, .int .i64 0, .bool false, .bool false, .int .u16 0, .int .i64 0, .slice none 0 0, .int .u16 (s : Int), .slice (some ⟨b4, 0, none⟩) 1 1, .int .i64 0] 37)) w4.heap.size w.heap.size X.heap.size (newPb s per tmo) (newB s) (newPb s per tmo) (newB s) 0 none 0 0 (some ⟨b4, 0, none⟩) 1 1) := Lib.hid (by
    have hX := HX.out
    have h3 : Below X.heap.size X w3 := ⟨q3.out.os, q3.out.tape, q3.out.output, q3.out.size, q3.out.block⟩
    have hA := (Below.refl w4.heap.size w4).alloc (Nat.le_refl _) (.cells #[.pointer (some ⟨w.heap.size, 0, none⟩), .pointer (some ⟨X.heap.size, 0, none⟩), .int .u16 (s : Int), .int .i64 per, .int .i64 tmo, .int .i64 0, .int .i64 0, .bool false, .bool false, .int .u16 0, .int .i64 0, .slice none 0 0, .int .u16 (s : Int), .slice (some ⟨b4, 0, none⟩) 1 1, .int .i64 0] 37)
    have ht3 : TabBlk w3 X.heap.size (newB s) := t3.out
    have hlb := hX.2.2.lt
    have hl3 := ht3.lt
    have hl4 : b4 < w4.heap.size := by
      obtain ⟨bb, oo, e, hlt, -⟩ := m4.out (by simp)
      cases e
      exact hlt
    have hq4 := q4.out.size
    have hbb := hb4.out
    refine ⟨⟨HPk.out, HTk.out, (hX.2.2.on hS).on hA, (ht3.on q4.out).on hA, (hX.2.1.trans (hS.mono hX.2.1.size)).alloc (Nat.le_trans hX.2.1.size hS.size) _, Nat.le_refl _, hX.2.1.size, by omega⟩, newE w4 _, Nat.le_trans hX.2.1.size hS.size, by omega, by omega, by rw [wdL_new]; exact fun hh => absurd hh (by simp), by rw [wdL_new]; rfl, fun q e => (by cases e), by rw [memsNew HS.out]; exact m4.out.on hA, by rw [memsNew HS.out]; rfl, fun q e => by cases e; exact ⟨by show b4 ≠ _; omega, by show b4 ≠ _; omega, by show b4 ≠ _; omega⟩, HPk.out, HTk.out⟩)
  have hbe : Below X.heap.size X (w4.alloc (.cells #[.pointer (some ⟨w.heap.size, 0, none⟩), .pointer (some ⟨X.heap.size, 0, none⟩), .int .u16 (s : Int), .int .i64 per, .int .i64 tmo, .int .i64 0, .int .i64 0, .bool false, .bool false, .int .u16 0, .int .i64 0, .slice none 0 0, .int .u16 (s : Int), .slice (some ⟨b4, 0, none⟩) 1 1, .int .i64 0] 37)) := hS.alloc hS.size _
  clear HC HX t3 q3 m4 hb4 q4
  refine wpAnyH_ready (rs := [7]) (by as_aux_lemma => kernel_rfl) (by simp) ?_
  refine AllReadyH.cons rfl (fun K hK => ?_) AllReadyH.nil
  go_simp
  refine hK.out _ _ hbe (fun hS => ?_)
  clear hK K
  refine wpAnyH_takeE (i := 18) (some 6) (v := ?_) rfl rfl (by as_aux_lemma => kernel_rfl) (by as_aux_lemma => kernel_rfl) (by as_aux_lemma => kernel_rfl) (fun _ _ _ h => h) (Or.inl ⟨by kernel_rfl, ?_⟩) hS ?_
  rotate_left
  · intro w hSw; skip; go_simp
    first | done | with_reducible rfl
  refine wpAnyH_takeE (i := 19) (some 7) (v := ?_) rfl rfl (by as_aux_lemma => kernel_rfl) (by as_aux_lemma => kernel_rfl) (by as_aux_lemma => kernel_rfl) (fun _ _ _ h => h) (Or.inl ⟨by kernel_rfl, ?_⟩) hS ?_
  rotate_left
  · intro w hSw; skip; go_simp
    first | done | with_reducible rfl
  refine wpAnyH_done (by kernel_rfl) ?_ _
  go_wp2
  go_ret2
  exact ⟨_, _, _, _, rfl, HE.out⟩

end Go.Proofs.Ytnoconampcemoaa
