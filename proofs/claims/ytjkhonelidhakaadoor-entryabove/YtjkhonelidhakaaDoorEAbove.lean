/-
  The walk of EntryAbove.
-/
import Derived.Test.YtjkhonelidhakaaDoorE3
import Derived.Test.YtjkhonelidhakaaDoorE4
namespace Go.Proofs.YtjkhonelidhakaaDoor
open Go.RowKit

set_option maxHeartbeats 8000000 in
set_option maxRecDepth 100000 in
theorem above_walk (x y : Ent) (now : Int) (W : World) (hv : TabE W.heap.size W) :
    Calls Tryd.prog 3 #[.agg #[.string x.k, .int .i64 x.t, .int .u16 x.o, .string x.v, .int .i64 x.u], .agg #[.string y.k, .int .i64 y.t, .int .u16 y.o, .string y.v, .int .i64 y.u], .int .i64 now] W fun e w' => e = .returned (.bool true) ∧ Below W.heap.size W w' := by
  have HA := Lib.hid (fun w => eAbove_any x y w)
  have HR := Lib.hid (fun w => eRefAbove_any x y w)
  have HL := Lib.hid (fun w => eLater_any x y w)
  have HM := Lib.hid (fun w => eRefLater_any x y w)
  have HC := Lib.hid (fun w => eCheck_any x w)
  have HD := Lib.hid (fun w => eRefCheck_any x w)
  have HT := Lib.hid (fun w => eCounts_any x now w)
  have HV := Lib.hid hv
  clear hv
  generalize aboveE x y = r at *
  generalize laterE x y = z at *
  generalize checkEn x = ch at *
  obtain ⟨kz, tz, oz, vz, uz⟩ := z
  obtain ⟨kx, tx, ox, vx, ux⟩ := x
  obtain ⟨ky, ty, oy, vy, uy⟩ := y
  simp only [Ent.val] at HL HM
  dsimp only at HA HR HL HM HC HD HT
  generalize hnow : decide (now < ux) = nb at *
  have b1 := EBlk.new W ⟨kx, tx, ox, vx, ux⟩
  have c2 := EBlk.new (W.alloc (.cells #[.string kx, .int .i64 tx, .int .u16 ox, .string vx, .int .i64 ux] 24)) ⟨ky, ty, oy, vy, uy⟩
  have e2 := (Below.refl _ (W.alloc (.cells #[.string kx, .int .i64 tx, .int .u16 ox, .string vx, .int .i64 ux] 24))).alloc (Nat.le_refl _) (.cells #[.string ky, .int .i64 ty, .int .u16 oy, .string vy, .int .i64 uy] 24)
  have b2 := b1.on e2
  have d2 := ((Below.refl _ W).alloc (Nat.le_refl _) (.cells #[.string kx, .int .i64 tx, .int .u16 ox, .string vx, .int .i64 ux] 24)).trans (e2.mono (by simp))
  have sz : (W.alloc (.cells #[.string kx, .int .i64 tx, .int .u16 ox, .string vx, .int .i64 ux] 24)).heap.size = W.heap.size + 1 := by simp
  rw [sz] at c2
  have HZ := Lib.hid (And.intro b2 (And.intro c2 d2))
  have HNW := Lib.hid hnow
  clear b1 c2 e2 b2 d2 sz hnow
  go_enter Tryd.func3, Tryd.ntmps3
  go_wp2_with fail
  obtain ⟨b2, c2, d2⟩ := HZ.out
  generalize hw2 : ((W.alloc (.cells #[.string kx, .int .i64 tx, .int .u16 ox, .string vx, .int .i64 ux] 24)).alloc (.cells #[.string ky, .int .i64 ty, .int .u16 oy, .string vy, .int .i64 uy] 24)) = w2 at *
  have hnow := HNW.out
  clear hw2 HZ
  have HQ2 := Lib.hid d2.drew
  clear d2
  refine wp_region_any (by kernel_rfl) ?_
  change wpAny _ _ _ _ _ _ _ (World.drew _)
  have hS : (fun w' : World => EBlk w' W.heap.size ⟨kx, tx, ox, vx, ux⟩ ∧ EBlk w' (W.heap.size + 1) ⟨ky, ty, oy, vy, uy⟩) w2.drew := ⟨b2, c2⟩
  refine wpAny_of_held (S := fun w' => EBlk w' W.heap.size ⟨kx, tx, ox, vx, ux⟩ ∧ EBlk w' (W.heap.size + 1) ⟨ky, ty, oy, vy, uy⟩) _ _ _ _ ?_
  clear b2 c2
  refine wpAnyH_takeE (i := 0) (some 7) (v := ?_) rfl rfl (by as_aux_lemma => kernel_rfl) (by as_aux_lemma => kernel_rfl) (by as_aux_lemma => kernel_rfl) (fun _ _ _ h => h) (Or.inl ⟨by kernel_rfl, ?_⟩) hS ?_
  rotate_left
  · intro w hSw; have c0 := hSw.1.c0; have c1 := hSw.1.c1; have c2 := hSw.1.c2; have c3 := hSw.1.c3; have c4 := hSw.1.c4; have e0 := hSw.2.c0; have e1 := hSw.2.c1; have e2 := hSw.2.c2; have e3 := hSw.2.c3; have e4 := hSw.2.c4; go_simp
    first | done | with_reducible rfl
  refine wpAnyH_takeE (i := 1) (some 8) (v := ?_) rfl rfl (by as_aux_lemma => kernel_rfl) (by as_aux_lemma => kernel_rfl) (by as_aux_lemma => kernel_rfl) (fun _ _ _ h => h) (Or.inl ⟨by kernel_rfl, ?_⟩) hS ?_
  rotate_left
  · intro w hSw; have c0 := hSw.1.c0; have c1 := hSw.1.c1; have c2 := hSw.1.c2; have c3 := hSw.1.c3; have c4 := hSw.1.c4; have e0 := hSw.2.c0; have e1 := hSw.2.c1; have e2 := hSw.2.c2; have e3 := hSw.2.c3; have e4 := hSw.2.c4; go_simp
    first | done | with_reducible rfl
  refine wpAnyH_takeE (i := 3) (some 10) (v := ?_) rfl rfl (by as_aux_lemma => kernel_rfl) (by as_aux_lemma => kernel_rfl) (by as_aux_lemma => kernel_rfl) (fun _ _ _ h => h) (Or.inl ⟨by kernel_rfl, ?_⟩) hS ?_
  rotate_left
  · intro w hSw; have c0 := hSw.1.c0; have c1 := hSw.1.c1; have c2 := hSw.1.c2; have c3 := hSw.1.c3; have c4 := hSw.1.c4; have e0 := hSw.2.c0; have e1 := hSw.2.c1; have e2 := hSw.2.c2; have e3 := hSw.2.c3; have e4 := hSw.2.c4; go_simp
    first | done | with_reducible rfl
  refine wpAnyH_takeE (i := 4) (some 11) (v := ?_) rfl rfl (by as_aux_lemma => kernel_rfl) (by as_aux_lemma => kernel_rfl) (by as_aux_lemma => kernel_rfl) (fun _ _ _ h => h) (Or.inl ⟨by kernel_rfl, ?_⟩) hS ?_
  rotate_left
  · intro w hSw; have c0 := hSw.1.c0; have c1 := hSw.1.c1; have c2 := hSw.1.c2; have c3 := hSw.1.c3; have c4 := hSw.1.c4; have e0 := hSw.2.c0; have e1 := hSw.2.c1; have e2 := hSw.2.c2; have e3 := hSw.2.c3; have e4 := hSw.2.c4; go_simp
    first | done | with_reducible rfl
  refine wpAnyH_ready (rs := [2]) (by as_aux_lemma => kernel_rfl) (by simp) ?_
  refine AllReadyH.cons rfl (fun K hK => ?_) AllReadyH.nil
  go_simp
  go_wp2_with (go_at_call 7; refine (HA.out _).mono ?_; rintro e w3 ⟨rfl, q3⟩)
  refine hK.out _ _ ?_ (fun hS => ?_)
  · exact ⟨hS.1.on q3, hS.2.on q3⟩
  clear hK K
  have HQ3 := Lib.hid (HQ2.out.trans (q3.mono HQ2.out.size))
  clear q3 HQ2
  refine wpAnyH_ready (rs := [5]) (by as_aux_lemma => kernel_rfl) (by simp) ?_
  refine AllReadyH.cons rfl (fun K hK => ?_) AllReadyH.nil
  go_simp
  go_wp2_with (go_at_call 8; refine (HR.out _).mono ?_; rintro e w4 ⟨rfl, q4⟩)
  refine hK.out _ _ ?_ (fun hS => ?_)
  · exact ⟨hS.1.on q4, hS.2.on q4⟩
  clear hK K
  have HQ4 := Lib.hid (HQ3.out.trans (q4.mono HQ3.out.size))
  clear q4 HQ3
  refine wpAnyH_takeE (i := 6) (some 13) (v := ?_) rfl rfl (by as_aux_lemma => kernel_rfl) (by as_aux_lemma => kernel_rfl) (by as_aux_lemma => kernel_rfl) (fun _ _ _ h => h) (Or.inl ⟨by kernel_rfl, ?_⟩) hS ?_
  rotate_left
  · intro w hSw; have c0 := hSw.1.c0; have c1 := hSw.1.c1; have c2 := hSw.1.c2; have c3 := hSw.1.c3; have c4 := hSw.1.c4; have e0 := hSw.2.c0; have e1 := hSw.2.c1; have e2 := hSw.2.c2; have e3 := hSw.2.c3; have e4 := hSw.2.c4; go_simp
    first | done | with_reducible rfl
  refine wpAnyH_takeE (i := 7) (some 14) (v := ?_) rfl rfl (by as_aux_lemma => kernel_rfl) (by as_aux_lemma => kernel_rfl) (by as_aux_lemma => kernel_rfl) (fun _ _ _ h => h) (Or.inl ⟨by kernel_rfl, ?_⟩) hS ?_
  rotate_left
  · intro w hSw; have c0 := hSw.1.c0; have c1 := hSw.1.c1; have c2 := hSw.1.c2; have c3 := hSw.1.c3; have c4 := hSw.1.c4; have e0 := hSw.2.c0; have e1 := hSw.2.c1; have e2 := hSw.2.c2; have e3 := hSw.2.c3; have e4 := hSw.2.c4; go_simp
    first | done | with_reducible rfl
  refine wpAnyH_takeE (i := 8) (some 15) (v := ?_) rfl rfl (by as_aux_lemma => kernel_rfl) (by as_aux_lemma => kernel_rfl) (by as_aux_lemma => kernel_rfl) (fun _ _ _ h => h) (Or.inl ⟨by kernel_rfl, ?_⟩) hS ?_
  rotate_left
  · intro w hSw; have c0 := hSw.1.c0; have c1 := hSw.1.c1; have c2 := hSw.1.c2; have c3 := hSw.1.c3; have c4 := hSw.1.c4; have e0 := hSw.2.c0; have e1 := hSw.2.c1; have e2 := hSw.2.c2; have e3 := hSw.2.c3; have e4 := hSw.2.c4; go_simp
    first | done | with_reducible rfl
  refine wpAnyH_takeE (i := 9) (some 16) (v := ?_) rfl rfl (by as_aux_lemma => kernel_rfl) (by as_aux_lemma => kernel_rfl) (by as_aux_lemma => kernel_rfl) (fun _ _ _ h => h) (Or.inl ⟨by kernel_rfl, ?_⟩) hS ?_
  rotate_left
  · intro w hSw; have c0 := hSw.1.c0; have c1 := hSw.1.c1; have c2 := hSw.1.c2; have c3 := hSw.1.c3; have c4 := hSw.1.c4; have e0 := hSw.2.c0; have e1 := hSw.2.c1; have e2 := hSw.2.c2; have e3 := hSw.2.c3; have e4 := hSw.2.c4; go_simp
    first | done | with_reducible rfl
  refine wpAnyH_takeE (i := 11) (some 18) (v := ?_) rfl rfl (by as_aux_lemma => kernel_rfl) (by as_aux_lemma => kernel_rfl) (by as_aux_lemma => kernel_rfl) (fun _ _ _ h => h) (Or.inl ⟨by kernel_rfl, ?_⟩) hS ?_
  rotate_left
  · intro w hSw; have c0 := hSw.1.c0; have c1 := hSw.1.c1; have c2 := hSw.1.c2; have c3 := hSw.1.c3; have c4 := hSw.1.c4; have e0 := hSw.2.c0; have e1 := hSw.2.c1; have e2 := hSw.2.c2; have e3 := hSw.2.c3; have e4 := hSw.2.c4; go_simp
    first | done | with_reducible rfl
  refine wpAnyH_takeE (i := 12) (some 19) (v := ?_) rfl rfl (by as_aux_lemma => kernel_rfl) (by as_aux_lemma => kernel_rfl) (by as_aux_lemma => kernel_rfl) (fun _ _ _ h => h) (Or.inl ⟨by kernel_rfl, ?_⟩) hS ?_
  rotate_left
  · intro w hSw; have c0 := hSw.1.c0; have c1 := hSw.1.c1; have c2 := hSw.1.c2; have c3 := hSw.1.c3; have c4 := hSw.1.c4; have e0 := hSw.2.c0; have e1 := hSw.2.c1; have e2 := hSw.2.c2; have e3 := hSw.2.c3; have e4 := hSw.2.c4; go_simp
    first | done | with_reducible rfl
  refine wpAnyH_ready (rs := [10]) (by as_aux_lemma => kernel_rfl) (by simp) ?_
  refine AllReadyH.cons rfl (fun K hK => ?_) AllReadyH.nil
  go_simp
  go_wp2_with (go_at_call 9; refine (HL.out _).mono ?_; rintro e w5 ⟨rfl, q5⟩)
  refine hK.out _ _ ?_ (fun hS => ?_)
  · exact ⟨hS.1.on q5, hS.2.on q5⟩
  clear hK K
  have HQ5 := Lib.hid (HQ4.out.trans (q5.mono HQ4.out.size))
  clear q5 HQ4
  refine wpAnyH_ready (rs := [13]) (by as_aux_lemma => kernel_rfl) (by simp) ?_
  refine AllReadyH.cons rfl (fun K hK => ?_) AllReadyH.nil
  go_simp
  go_wp2_with (go_at_call 10; refine (HM.out _).mono ?_; rintro e w6 ⟨rfl, q6⟩)
  refine hK.out _ _ ?_ (fun hS => ?_)
  · exact ⟨hS.1.on q6, hS.2.on q6⟩
  clear hK K
  have HQ6 := Lib.hid (HQ5.out.trans (q6.mono HQ5.out.size))
  clear q6 HQ5
  refine wpAnyH_takeE (i := 14) (some 21) (v := ?_) rfl rfl (by as_aux_lemma => kernel_rfl) (by as_aux_lemma => kernel_rfl) (by as_aux_lemma => kernel_rfl) (fun _ _ _ h => h) (Or.inl ⟨by kernel_rfl, ?_⟩) hS ?_
  rotate_left
  · intro w hSw; have c0 := hSw.1.c0; have c1 := hSw.1.c1; have c2 := hSw.1.c2; have c3 := hSw.1.c3; have c4 := hSw.1.c4; have e0 := hSw.2.c0; have e1 := hSw.2.c1; have e2 := hSw.2.c2; have e3 := hSw.2.c3; have e4 := hSw.2.c4; go_simp
    first | done | with_reducible rfl
  refine wpAnyH_takeE (i := 15) (some 22) (v := ?_) rfl rfl (by as_aux_lemma => kernel_rfl) (by as_aux_lemma => kernel_rfl) (by as_aux_lemma => kernel_rfl) (fun _ _ _ h => h) (Or.inl ⟨by kernel_rfl, ?_⟩) hS ?_
  rotate_left
  · intro w hSw; have c0 := hSw.1.c0; have c1 := hSw.1.c1; have c2 := hSw.1.c2; have c3 := hSw.1.c3; have c4 := hSw.1.c4; have e0 := hSw.2.c0; have e1 := hSw.2.c1; have e2 := hSw.2.c2; have e3 := hSw.2.c3; have e4 := hSw.2.c4; go_simp
    first | done | with_reducible rfl
  refine wpAnyH_takeE (i := 16) (some 23) (v := ?_) rfl rfl (by as_aux_lemma => kernel_rfl) (by as_aux_lemma => kernel_rfl) (by as_aux_lemma => kernel_rfl) (fun _ _ _ h => h) (Or.inl ⟨by kernel_rfl, ?_⟩) hS ?_
  rotate_left
  · intro w hSw; have c0 := hSw.1.c0; have c1 := hSw.1.c1; have c2 := hSw.1.c2; have c3 := hSw.1.c3; have c4 := hSw.1.c4; have e0 := hSw.2.c0; have e1 := hSw.2.c1; have e2 := hSw.2.c2; have e3 := hSw.2.c3; have e4 := hSw.2.c4; go_simp
    first | done | with_reducible rfl
  refine wpAnyH_takeE (i := 17) (some 24) (v := ?_) rfl rfl (by as_aux_lemma => kernel_rfl) (by as_aux_lemma => kernel_rfl) (by as_aux_lemma => kernel_rfl) (fun _ _ _ h => h) (Or.inl ⟨by kernel_rfl, ?_⟩) hS ?_
  rotate_left
  · intro w hSw; have c0 := hSw.1.c0; have c1 := hSw.1.c1; have c2 := hSw.1.c2; have c3 := hSw.1.c3; have c4 := hSw.1.c4; have e0 := hSw.2.c0; have e1 := hSw.2.c1; have e2 := hSw.2.c2; have e3 := hSw.2.c3; have e4 := hSw.2.c4; go_simp
    first | done | with_reducible rfl
  refine wpAnyH_takeE (i := 19) (some 26) (v := ?_) rfl rfl (by as_aux_lemma => kernel_rfl) (by as_aux_lemma => kernel_rfl) (by as_aux_lemma => kernel_rfl) (fun _ _ _ h => h) (Or.inl ⟨by kernel_rfl, ?_⟩) hS ?_
  rotate_left
  · intro w hSw; have c0 := hSw.1.c0; have c1 := hSw.1.c1; have c2 := hSw.1.c2; have c3 := hSw.1.c3; have c4 := hSw.1.c4; have e0 := hSw.2.c0; have e1 := hSw.2.c1; have e2 := hSw.2.c2; have e3 := hSw.2.c3; have e4 := hSw.2.c4; go_simp
    first | done | with_reducible rfl
  refine wpAnyH_ready (rs := [18]) (by as_aux_lemma => kernel_rfl) (by simp) ?_
  refine AllReadyH.cons rfl (fun K hK => ?_) AllReadyH.nil
  go_simp
  go_wp2_with (go_at_call 11; refine (HC.out _).mono ?_; rintro e w7 ⟨rfl, q7⟩)
  refine hK.out _ _ ?_ (fun hS => ?_)
  · exact ⟨hS.1.on q7, hS.2.on q7⟩
  clear hK K
  have HQ7 := Lib.hid (HQ6.out.trans (q7.mono HQ6.out.size))
  clear q7 HQ6
  refine wpAnyH_ready (rs := [20]) (by as_aux_lemma => kernel_rfl) (by simp) ?_
  refine AllReadyH.cons rfl (fun K hK => ?_) AllReadyH.nil
  go_simp
  go_wp2_with (go_at_call 12; refine (HD.out _).mono ?_; rintro e w8 ⟨rfl, q8⟩)
  refine hK.out _ _ ?_ (fun hS => ?_)
  · exact ⟨hS.1.on q8, hS.2.on q8⟩
  clear hK K
  have HQ8 := Lib.hid (HQ7.out.trans (q8.mono HQ7.out.size))
  clear q8 HQ7
  refine wpAnyH_takeE (i := 21) (some 28) (v := ?_) rfl rfl (by as_aux_lemma => kernel_rfl) (by as_aux_lemma => kernel_rfl) (by as_aux_lemma => kernel_rfl) (fun _ _ _ h => h) (Or.inl ⟨by kernel_rfl, ?_⟩) hS ?_
  rotate_left
  · intro w hSw; have c0 := hSw.1.c0; have c1 := hSw.1.c1; have c2 := hSw.1.c2; have c3 := hSw.1.c3; have c4 := hSw.1.c4; have e0 := hSw.2.c0; have e1 := hSw.2.c1; have e2 := hSw.2.c2; have e3 := hSw.2.c3; have e4 := hSw.2.c4; go_simp
    first | done | with_reducible rfl
  refine wpAnyH_takeE (i := 22) (some 29) (v := ?_) rfl rfl (by as_aux_lemma => kernel_rfl) (by as_aux_lemma => kernel_rfl) (by as_aux_lemma => kernel_rfl) (fun _ _ _ h => h) (Or.inl ⟨by kernel_rfl, ?_⟩) hS ?_
  rotate_left
  · intro w hSw; have c0 := hSw.1.c0; have c1 := hSw.1.c1; have c2 := hSw.1.c2; have c3 := hSw.1.c3; have c4 := hSw.1.c4; have e0 := hSw.2.c0; have e1 := hSw.2.c1; have e2 := hSw.2.c2; have e3 := hSw.2.c3; have e4 := hSw.2.c4; go_simp
    first | done | with_reducible rfl
  refine wpAnyH_takeE (i := 23) (some 30) (v := ?_) rfl rfl (by as_aux_lemma => kernel_rfl) (by as_aux_lemma => kernel_rfl) (by as_aux_lemma => kernel_rfl) (fun _ _ _ h => h) (Or.inl ⟨by kernel_rfl, ?_⟩) hS ?_
  rotate_left
  · intro w hSw; have c0 := hSw.1.c0; have c1 := hSw.1.c1; have c2 := hSw.1.c2; have c3 := hSw.1.c3; have c4 := hSw.1.c4; have e0 := hSw.2.c0; have e1 := hSw.2.c1; have e2 := hSw.2.c2; have e3 := hSw.2.c3; have e4 := hSw.2.c4; go_simp
    first | done | with_reducible rfl
  refine wpAnyH_takeE (i := 24) (some 31) (v := ?_) rfl rfl (by as_aux_lemma => kernel_rfl) (by as_aux_lemma => kernel_rfl) (by as_aux_lemma => kernel_rfl) (fun _ _ _ h => h) (Or.inl ⟨by kernel_rfl, ?_⟩) hS ?_
  rotate_left
  · intro w hSw; have c0 := hSw.1.c0; have c1 := hSw.1.c1; have c2 := hSw.1.c2; have c3 := hSw.1.c3; have c4 := hSw.1.c4; have e0 := hSw.2.c0; have e1 := hSw.2.c1; have e2 := hSw.2.c2; have e3 := hSw.2.c3; have e4 := hSw.2.c4; go_simp
    first | done | with_reducible rfl
  refine wpAnyH_takeE (i := 25) (some 32) (v := ?_) rfl rfl (by as_aux_lemma => kernel_rfl) (by as_aux_lemma => kernel_rfl) (by as_aux_lemma => kernel_rfl) (fun _ _ _ h => h) (Or.inl ⟨by kernel_rfl, ?_⟩) hS ?_
  rotate_left
  · intro w hSw; have c0 := hSw.1.c0; have c1 := hSw.1.c1; have c2 := hSw.1.c2; have c3 := hSw.1.c3; have c4 := hSw.1.c4; have e0 := hSw.2.c0; have e1 := hSw.2.c1; have e2 := hSw.2.c2; have e3 := hSw.2.c3; have e4 := hSw.2.c4; go_simp
    first | done | with_reducible rfl
  refine wpAnyH_takeE (i := 27) (some 34) (v := ?_) rfl rfl (by as_aux_lemma => kernel_rfl) (by as_aux_lemma => kernel_rfl) (by as_aux_lemma => kernel_rfl) (fun _ _ _ h => h) (Or.inl ⟨by kernel_rfl, ?_⟩) hS ?_
  rotate_left
  · intro w hSw; have c0 := hSw.1.c0; have c1 := hSw.1.c1; have c2 := hSw.1.c2; have c3 := hSw.1.c3; have c4 := hSw.1.c4; have e0 := hSw.2.c0; have e1 := hSw.2.c1; have e2 := hSw.2.c2; have e3 := hSw.2.c3; have e4 := hSw.2.c4; go_simp
    first | done | with_reducible rfl
  refine wpAnyH_takeE (i := 28) (some 35) (v := ?_) rfl rfl (by as_aux_lemma => kernel_rfl) (by as_aux_lemma => kernel_rfl) (by as_aux_lemma => kernel_rfl) (fun _ _ _ h => h) (Or.inl ⟨by kernel_rfl, ?_⟩) hS ?_
  rotate_left
  · intro w hSw; have c0 := hSw.1.c0; have c1 := hSw.1.c1; have c2 := hSw.1.c2; have c3 := hSw.1.c3; have c4 := hSw.1.c4; have e0 := hSw.2.c0; have e1 := hSw.2.c1; have e2 := hSw.2.c2; have e3 := hSw.2.c3; have e4 := hSw.2.c4; go_simp
    first | done | with_reducible rfl
  refine wpAnyH_takeE (i := 29) (some 36) (v := ?_) rfl rfl (by as_aux_lemma => kernel_rfl) (by as_aux_lemma => kernel_rfl) (by as_aux_lemma => kernel_rfl) (fun _ _ _ h => h) (Or.inl ⟨by kernel_rfl, ?_⟩) hS ?_
  rotate_left
  · intro w hSw; have c0 := hSw.1.c0; have c1 := hSw.1.c1; have c2 := hSw.1.c2; have c3 := hSw.1.c3; have c4 := hSw.1.c4; have e0 := hSw.2.c0; have e1 := hSw.2.c1; have e2 := hSw.2.c2; have e3 := hSw.2.c3; have e4 := hSw.2.c4; go_simp
    first | done | with_reducible rfl
  refine wpAnyH_takeE (i := 30) (some 37) (v := ?_) rfl rfl (by as_aux_lemma => kernel_rfl) (by as_aux_lemma => kernel_rfl) (by as_aux_lemma => kernel_rfl) (fun _ _ _ h => h) (Or.inl ⟨by kernel_rfl, ?_⟩) hS ?_
  rotate_left
  · intro w hSw; have c0 := hSw.1.c0; have c1 := hSw.1.c1; have c2 := hSw.1.c2; have c3 := hSw.1.c3; have c4 := hSw.1.c4; have e0 := hSw.2.c0; have e1 := hSw.2.c1; have e2 := hSw.2.c2; have e3 := hSw.2.c3; have e4 := hSw.2.c4; go_simp
    first | done | with_reducible rfl
  refine wpAnyH_ready (rs := [26]) (by as_aux_lemma => kernel_rfl) (by simp) ?_
  refine AllReadyH.cons rfl (fun K hK => ?_) AllReadyH.nil
  go_simp
  go_wp2_with (go_at_call 13; refine (HT.out _).mono ?_; rintro e w9 ⟨rfl, q9⟩)
  refine hK.out _ _ ?_ (fun hS => ?_)
  · exact ⟨hS.1.on q9, hS.2.on q9⟩
  clear hK K
  have HQ9 := Lib.hid (HQ8.out.trans (q9.mono HQ8.out.size))
  clear q9 HQ8
  refine wpAnyH_takeE (i := 31) (some 38) (v := ?_) rfl rfl (by as_aux_lemma => kernel_rfl) (by as_aux_lemma => kernel_rfl) (by as_aux_lemma => kernel_rfl) (fun _ _ _ h => h) (Or.inl ⟨by kernel_rfl, ?_⟩) hS ?_
  rotate_left
  · intro w hSw; have c0 := hSw.1.c0; have c1 := hSw.1.c1; have c2 := hSw.1.c2; have c3 := hSw.1.c3; have c4 := hSw.1.c4; have e0 := hSw.2.c0; have e1 := hSw.2.c1; have e2 := hSw.2.c2; have e3 := hSw.2.c3; have e4 := hSw.2.c4; go_simp
    first | done | with_reducible rfl
  refine wpAnyH_takeE (i := 32) (some 39) (v := ?_) rfl rfl (by as_aux_lemma => kernel_rfl) (by as_aux_lemma => kernel_rfl) (by as_aux_lemma => kernel_rfl) (fun _ _ _ h => h) (Or.inl ⟨by kernel_rfl, ?_⟩) hS ?_
  rotate_left
  · intro w hSw; have c0 := hSw.1.c0; have c1 := hSw.1.c1; have c2 := hSw.1.c2; have c3 := hSw.1.c3; have c4 := hSw.1.c4; have e0 := hSw.2.c0; have e1 := hSw.2.c1; have e2 := hSw.2.c2; have e3 := hSw.2.c3; have e4 := hSw.2.c4; go_simp
    first | done | with_reducible rfl
  refine wpAnyH_takeE (i := 33) (some 40) (v := ?_) rfl rfl (by as_aux_lemma => kernel_rfl) (by as_aux_lemma => kernel_rfl) (by as_aux_lemma => kernel_rfl) (fun _ _ _ h => h) (Or.inl ⟨by kernel_rfl, ?_⟩) hS ?_
  rotate_left
  · intro w hSw; have c0 := hSw.1.c0; have c1 := hSw.1.c1; have c2 := hSw.1.c2; have c3 := hSw.1.c3; have c4 := hSw.1.c4; have e0 := hSw.2.c0; have e1 := hSw.2.c1; have e2 := hSw.2.c2; have e3 := hSw.2.c3; have e4 := hSw.2.c4; go_simp
    first | done | with_reducible rfl
  have HW := Lib.hid (eawake_any W.heap.size w9 HQ9.out.size (HV.out.on HQ9.out))
  refine wpAnyH_ready (rs := [34]) (by as_aux_lemma => kernel_rfl) (by simp) ?_
  refine AllReadyH.cons rfl (fun K hK => ?_) AllReadyH.nil
  go_simp
  go_wp2_with (go_at_call 14; refine HW.out.mono ?_; rintro e w10 ⟨rfl, q10⟩)
  refine hK.out _ _ ?_ (fun hS => ?_)
  · exact ⟨hS.1.on q10, hS.2.on q10⟩
  clear hK K
  have HQ10 := Lib.hid (HQ9.out.trans (q10.mono HQ9.out.size))
  clear q10 HQ9 HW
  refine wpAnyH_takeE (i := 35) (some 42) (v := ?_) rfl rfl (by as_aux_lemma => kernel_rfl) (by as_aux_lemma => kernel_rfl) (by as_aux_lemma => kernel_rfl) (fun _ _ _ h => h) (Or.inl ⟨by kernel_rfl, ?_⟩) hS ?_
  rotate_left
  · intro w hSw; have c0 := hSw.1.c0; have c1 := hSw.1.c1; have c2 := hSw.1.c2; have c3 := hSw.1.c3; have c4 := hSw.1.c4; have e0 := hSw.2.c0; have e1 := hSw.2.c1; have e2 := hSw.2.c2; have e3 := hSw.2.c3; have e4 := hSw.2.c4; go_simp
    first | done | with_reducible rfl
  refine wpAnyH_takeE (i := 36) (some 6) (v := ?_) rfl rfl (by as_aux_lemma => kernel_rfl) (by as_aux_lemma => kernel_rfl) (by as_aux_lemma => kernel_rfl) (fun _ _ _ h => h) (Or.inl ⟨by kernel_rfl, ?_⟩) hS ?_
  rotate_left
  · intro w hSw; have c0 := hSw.1.c0; have c1 := hSw.1.c1; have c2 := hSw.1.c2; have c3 := hSw.1.c3; have c4 := hSw.1.c4; have e0 := hSw.2.c0; have e1 := hSw.2.c1; have e2 := hSw.2.c2; have e3 := hSw.2.c3; have e4 := hSw.2.c4; go_simp
    first | done | with_reducible rfl
  refine wpAnyH_done (by kernel_rfl) ?_ _
  clear hS
  go_wp2
  go_ret
  exact ⟨rfl, HQ10.out⟩

end Go.Proofs.YtjkhonelidhakaaDoor
