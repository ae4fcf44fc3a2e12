/-
  The walk of EntryOrder.
-/
import Derived.Test.YtjkhonelidhakaaDoorE3
import Derived.Test.YtjkhonelidhakaaDoorE4
namespace Go.Proofs.YtjkhonelidhakaaDoor
open Go.RowKit

theorem EBlk.rekey {w : World} {B : Nat} {k : ByteArray} {t o : Int} {v : ByteArray} {u : Int} (h : EBlk w B ⟨k, t, o, v, u⟩) (k' : ByteArray) : EBlk (w.setCell ⟨B, 0, none⟩ (.string k')) B ⟨k', t, o, v, u⟩ := by
  unfold EBlk at h ⊢
  simp [World.setCell, Array.getElem?_modify, h]

/-- What the order of three entries of one key is. -/
theorem order_pure (x y z : Ent) (hk : x.k = y.k) : ¬ (aboveE x y = true ∧ aboveE y x = true) ∧ (aboveE x y = false → aboveE y x = false → eqEn x y = true) ∧ ((aboveE x y = true ∨ aboveE y x = true) → eqEn x y = false) ∧ (aboveE x y = true → aboveE y z = true → aboveE x z = true) ∧ aboveE x x = false := by
  refine ⟨fun h => ?_, fun h1 h2 => ?_, fun h => ?_, fun h1 h2 => above_trans h1 h2, above_irrefl x⟩
  · have := above_asymm h.1
    rw [h.2] at this
    cases this
  · rw [above_tri hk h1 h2]
    exact eqEn_refl y
  · refine eqEn_no fun e => ?_
    subst e
    rw [above_irrefl] at h
    rcases h with h | h <;> cases h


set_option maxHeartbeats 16000000 in
set_option maxRecDepth 100000 in
theorem order_walk (x y z : Ent) (W : World) (hv : TabE W.heap.size W) :
    Calls Tryd.prog 5 #[.agg #[.string x.k, .int .i64 x.t, .int .u16 x.o, .string x.v, .int .i64 x.u], .agg #[.string y.k, .int .i64 y.t, .int .u16 y.o, .string y.v, .int .i64 y.u], .agg #[.string z.k, .int .i64 z.t, .int .u16 z.o, .string z.v, .int .i64 z.u]] W fun e w' => e = .returned (.bool true) ∧ Below W.heap.size W w' := by
  obtain ⟨kx, tx, ox, vx, ux⟩ := x
  obtain ⟨ky, ty, oy, vy, uy⟩ := y
  obtain ⟨kz, tz, oz, vz, uz⟩ := z
  have hpure := order_pure (⟨kx, tx, ox, vx, ux⟩ : Ent) (⟨kx, ty, oy, vy, uy⟩ : Ent) (⟨kx, tz, oz, vz, uz⟩ : Ent) rfl
  have HXY := Lib.hid (fun w => eAbove_any (⟨kx, tx, ox, vx, ux⟩ : Ent) (⟨kx, ty, oy, vy, uy⟩ : Ent) w)
  have HYX := Lib.hid (fun w => eAbove_any (⟨kx, ty, oy, vy, uy⟩ : Ent) (⟨kx, tx, ox, vx, ux⟩ : Ent) w)
  have HYZ := Lib.hid (fun w => eAbove_any (⟨kx, ty, oy, vy, uy⟩ : Ent) (⟨kx, tz, oz, vz, uz⟩ : Ent) w)
  have HXZ := Lib.hid (fun w => eAbove_any (⟨kx, tx, ox, vx, ux⟩ : Ent) (⟨kx, tz, oz, vz, uz⟩ : Ent) w)
  have HXX := Lib.hid (fun w => eAbove_any (⟨kx, tx, ox, vx, ux⟩ : Ent) (⟨kx, tx, ox, vx, ux⟩ : Ent) w)
  have hne := fun w => run_neE (⟨kx, tx, ox, vx, ux⟩ : Ent) (⟨kx, ty, oy, vy, uy⟩ : Ent) w
  have HV := Lib.hid hv
  clear hv
  dsimp only at HXY HYX HYZ HXZ HXX hne ⊢
  rw [hpure.2.2.2.2] at HXX
  generalize aboveE (⟨kx, tx, ox, vx, ux⟩ : Ent) (⟨kx, ty, oy, vy, uy⟩ : Ent) = r1 at *
  generalize aboveE (⟨kx, ty, oy, vy, uy⟩ : Ent) (⟨kx, tx, ox, vx, ux⟩ : Ent) = r2 at *
  generalize aboveE (⟨kx, ty, oy, vy, uy⟩ : Ent) (⟨kx, tz, oz, vz, uz⟩ : Ent) = r3 at *
  generalize aboveE (⟨kx, tx, ox, vx, ux⟩ : Ent) (⟨kx, tz, oz, vz, uz⟩ : Ent) = r4 at *
  generalize eqEn (⟨kx, tx, ox, vx, ux⟩ : Ent) (⟨kx, ty, oy, vy, uy⟩ : Ent) = q at *
  have HP := Lib.hid hpure
  clear hpure
  have b1 := EBlk.new W (⟨kx, tx, ox, vx, ux⟩ : Ent)
  have d1 := (Below.refl _ W).alloc (Nat.le_refl _) (.cells #[.string kx, .int .i64 tx, .int .u16 ox, .string vx, .int .i64 ux] 24)
  obtain ⟨w1, hw1⟩ : ∃ w1, w1 = W.alloc (.cells #[.string kx, .int .i64 tx, .int .u16 ox, .string vx, .int .i64 ux] 24) := ⟨_, rfl⟩
  rw [← hw1] at b1 d1
  have s1 : w1.heap.size = W.heap.size + 1 := by rw [hw1]; simp
  have c2 := EBlk.new w1 (⟨ky, ty, oy, vy, uy⟩ : Ent)
  have d2' := (Below.refl _ w1).alloc (Nat.le_refl _) (.cells #[.string ky, .int .i64 ty, .int .u16 oy, .string vy, .int .i64 uy] 24)
  obtain ⟨w2, hw2⟩ : ∃ w2, w2 = w1.alloc (.cells #[.string ky, .int .i64 ty, .int .u16 oy, .string vy, .int .i64 uy] 24) := ⟨_, rfl⟩
  rw [← hw2] at c2 d2'
  have s2 : w2.heap.size = W.heap.size + 1 + 1 := by rw [hw2]; simp [s1]
  have b2 := b1.on d2'
  have d2 := d1.trans (d2'.mono d1.size)
  have e3 := EBlk.new w2 (⟨kz, tz, oz, vz, uz⟩ : Ent)
  have d3' := (Below.refl _ w2).alloc (Nat.le_refl _) (.cells #[.string kz, .int .i64 tz, .int .u16 oz, .string vz, .int .i64 uz] 24)
  obtain ⟨w3, hw3⟩ : ∃ w3, w3 = w2.alloc (.cells #[.string kz, .int .i64 tz, .int .u16 oz, .string vz, .int .i64 uz] 24) := ⟨_, rfl⟩
  rw [← hw3] at e3 d3'
  have b3 := b2.on d3'
  have c3 := c2.on d3'
  have d3 := d2.trans (d3'.mono d2.size)
  rw [s1] at c3
  rw [s2] at e3
  have HZ := Lib.hid (And.intro b3 (And.intro c3 (And.intro e3 d3)))
  have HW3 : Hid (((W.alloc (.cells #[.string kx, .int .i64 tx, .int .u16 ox, .string vx, .int .i64 ux] 24)).alloc (.cells #[.string ky, .int .i64 ty, .int .u16 oy, .string vy, .int .i64 uy] 24)).alloc (.cells #[.string kz, .int .i64 tz, .int .u16 oz, .string vz, .int .i64 uz] 24) = w3) := Lib.hid (by rw [hw3, hw2, hw1])
  clear b1 d1 s1 c2 d2' s2 b2 d2 e3 d3' b3 c3 d3 hw1 hw2 hw3 w1 w2
  go_enter Tryd.func5, Tryd.ntmps5
  go_wp2_with fail
  rw [HW3.out]
  obtain ⟨b3, c3, e3, d3⟩ := HZ.out
  clear HZ HW3
  generalize hA : W.heap.size = A at *
  have HQ3 := Lib.hid d3.drew
  have HAs : Hid (A = W.heap.size) := Lib.hid hA.symm
  clear d3 hA
  refine wp_region_any (by kernel_rfl) ?_
  change wpAny _ _ _ _ _ _ _ (World.drew _)
  have hS : (fun w' : World => EBlk w' A (⟨kx, tx, ox, vx, ux⟩ : Ent)) w3.drew := b3
  refine wpAny_of_held (S := fun w' => EBlk w' A (⟨kx, tx, ox, vx, ux⟩ : Ent)) _ _ _ _ ?_
  have c3' : EBlk w3.drew (A + 1) (⟨ky, ty, oy, vy, uy⟩ : Ent) := c3
  have e3' : EBlk w3.drew (A + 1 + 1) (⟨kz, tz, oz, vz, uz⟩ : Ent) := e3
  have b3' : EBlk w3.drew A (⟨kx, tx, ox, vx, ux⟩ : Ent) := b3
  clear b3 c3 e3
  generalize w3.drew = v3 at *
  refine wpAnyH_takeE (i := 0) (some 10) (v := ?_) rfl rfl (by as_aux_lemma => kernel_rfl) (by as_aux_lemma => kernel_rfl) (by as_aux_lemma => kernel_rfl) (fun _ _ _ h => h) (Or.inl ⟨by kernel_rfl, ?_⟩) hS ?_
  rotate_left
  · intro w hSw; have c0 := hSw.c0; have c1 := hSw.c1; have c2 := hSw.c2; have c3 := hSw.c3; have c4 := hSw.c4; go_simp
    first | done | with_reducible rfl
  refine wpAnyH_takeE (i := 1) (some 11) (v := ?_) rfl rfl (by as_aux_lemma => kernel_rfl) (by as_aux_lemma => kernel_rfl) (by as_aux_lemma => kernel_rfl) (fun _ _ _ h => h) (Or.inl ⟨by kernel_rfl, ?_⟩) hS ?_
  rotate_left
  · intro w hSw; have c0 := hSw.c0; have c1 := hSw.c1; have c2 := hSw.c2; have c3 := hSw.c3; have c4 := hSw.c4; go_simp
    first | done | with_reducible rfl
  refine wpAnyH_takeE (i := 2) (some 12) (v := ?_) rfl rfl (by as_aux_lemma => kernel_rfl) (by as_aux_lemma => kernel_rfl) (by as_aux_lemma => kernel_rfl) (fun _ _ _ h => h) (Or.inl ⟨by kernel_rfl, ?_⟩) hS ?_
  rotate_left
  · intro w hSw; have c0 := hSw.c0; have c1 := hSw.c1; have c2 := hSw.c2; have c3 := hSw.c3; have c4 := hSw.c4; go_simp
    first | done | with_reducible rfl
  refine wpAnyH_takeE (i := 3) (some 13) (v := ?_) rfl rfl (by as_aux_lemma => kernel_rfl) (by as_aux_lemma => kernel_rfl) (by as_aux_lemma => kernel_rfl) (fun _ _ _ h => h) (Or.inl ⟨by kernel_rfl, ?_⟩) hS ?_
  rotate_left
  · intro w hSw; have c0 := hSw.c0; have c1 := hSw.c1; have c2 := hSw.c2; have c3 := hSw.c3; have c4 := hSw.c4; go_simp
    first | done | with_reducible rfl
  refine wpAnyH_takeE (i := 4) (some 14) (v := ?_) rfl rfl (by as_aux_lemma => kernel_rfl) (by as_aux_lemma => kernel_rfl) (by as_aux_lemma => kernel_rfl) (fun _ _ _ h => h) (Or.inl ⟨by kernel_rfl, ?_⟩) hS ?_
  rotate_left
  · intro w hSw; have c0 := hSw.c0; have c1 := hSw.c1; have c2 := hSw.c2; have c3 := hSw.c3; have c4 := hSw.c4; go_simp
    first | done | with_reducible rfl
  refine wpAnyH_ready (rs := [5]) (by as_aux_lemma => kernel_rfl) (by simp) ?_
  refine AllReadyH.cons rfl (fun K hK => ?_) AllReadyH.nil
  have f0 := c3'.f 0
  have k0 := c3'.c0
  go_simp
  refine hK.out _ _ ?_ (fun hS => ?_)
  · exact hS.other (by dsimp only; omega) _
  clear hK K f0 k0
  have g1 := c3'.rekey kx
  have g2 := e3'.other (p := ⟨A + 1, 0, none⟩) (by dsimp only; omega) (.string kx)
  have g3 := b3'.other (p := ⟨A + 1, 0, none⟩) (by dsimp only; omega) (.string kx)
  have g4 : Below A W (v3.setCell ⟨A + 1, 0, none⟩ (.string kx)) := HQ3.out.setCell (p := ⟨A + 1, 0, none⟩) (by dsimp only; omega) _
  clear c3' e3' b3' HQ3
  generalize v3.setCell ⟨A + 1, 0, none⟩ (.string kx) = v4 at *
  refine wpAnyH_takeE (i := 6) (some 15) (v := ?_) rfl rfl (by as_aux_lemma => kernel_rfl) (by as_aux_lemma => kernel_rfl) (by as_aux_lemma => kernel_rfl) (fun _ _ _ h => h) (Or.inl ⟨by kernel_rfl, ?_⟩) hS ?_
  rotate_left
  · intro w hSw; have c0 := hSw.c0; have c1 := hSw.c1; have c2 := hSw.c2; have c3 := hSw.c3; have c4 := hSw.c4; go_simp
    first | done | with_reducible rfl
  refine wpAnyH_ready (rs := [7]) (by as_aux_lemma => kernel_rfl) (by simp) ?_
  refine AllReadyH.cons rfl (fun K hK => ?_) AllReadyH.nil
  have f0 := g2.f 0
  have k0 := g2.c0
  go_simp
  refine hK.out _ _ ?_ (fun hS => ?_)
  · exact hS.other (by dsimp only; omega) _
  clear hK K f0 k0
  have i1 := g2.rekey kx
  have i2 := g1.other (p := ⟨A + 1 + 1, 0, none⟩) (by dsimp only; omega) (.string kx)
  have i3 := g3.other (p := ⟨A + 1 + 1, 0, none⟩) (by dsimp only; omega) (.string kx)
  have i4 := g4.setCell (p := ⟨A + 1 + 1, 0, none⟩) (by dsimp only; omega) (.string kx)
  clear g1 g2 g3 g4 hS
  generalize v4.setCell ⟨A + 1 + 1, 0, none⟩ (.string kx) = v5 at *
  have HB := Lib.hid (And.intro i3 (And.intro i2 i1))
  have HQ5 := Lib.hid i4.drew
  clear i1 i2 i3 i4
  refine wpAnyH_done (by kernel_rfl) ?_ _
  go_wp2_with fail
  obtain ⟨b1, b2, b3⟩ := HB.out
  refine wp_region_any (by kernel_rfl) ?_
  change wpAny _ _ _ _ _ _ _ (World.drew _)
  have hS : (fun w' : World => EBlk w' A (⟨kx, tx, ox, vx, ux⟩ : Ent) ∧ EBlk w' (A + 1) (⟨kx, ty, oy, vy, uy⟩ : Ent) ∧ EBlk w' (A + 1 + 1) (⟨kx, tz, oz, vz, uz⟩ : Ent)) v5.drew := ⟨b1, b2, b3⟩
  refine wpAny_of_held (S := fun w' => EBlk w' A (⟨kx, tx, ox, vx, ux⟩ : Ent) ∧ EBlk w' (A + 1) (⟨kx, ty, oy, vy, uy⟩ : Ent) ∧ EBlk w' (A + 1 + 1) (⟨kx, tz, oz, vz, uz⟩ : Ent)) _ _ _ _ ?_
  clear b1 b2 b3 HB
  refine wpAnyH_takeE (i := 0) (some 16) (v := ?_) rfl rfl (by as_aux_lemma => kernel_rfl) (by as_aux_lemma => kernel_rfl) (by as_aux_lemma => kernel_rfl) (fun _ _ _ h => h) (Or.inl ⟨by kernel_rfl, ?_⟩) hS ?_
  rotate_left
  · intro w hSw; have c10 := hSw.1.c0; have c11 := hSw.1.c1; have c12 := hSw.1.c2; have c13 := hSw.1.c3; have c14 := hSw.1.c4; have c20 := hSw.2.1.c0; have c21 := hSw.2.1.c1; have c22 := hSw.2.1.c2; have c23 := hSw.2.1.c3; have c24 := hSw.2.1.c4; have c30 := hSw.2.2.c0; have c31 := hSw.2.2.c1; have c32 := hSw.2.2.c2; have c33 := hSw.2.2.c3; have c34 := hSw.2.2.c4; go_simp
    first | done | with_reducible rfl
  refine wpAnyH_takeE (i := 1) (some 17) (v := ?_) rfl rfl (by as_aux_lemma => kernel_rfl) (by as_aux_lemma => kernel_rfl) (by as_aux_lemma => kernel_rfl) (fun _ _ _ h => h) (Or.inl ⟨by kernel_rfl, ?_⟩) hS ?_
  rotate_left
  · intro w hSw; have c10 := hSw.1.c0; have c11 := hSw.1.c1; have c12 := hSw.1.c2; have c13 := hSw.1.c3; have c14 := hSw.1.c4; have c20 := hSw.2.1.c0; have c21 := hSw.2.1.c1; have c22 := hSw.2.1.c2; have c23 := hSw.2.1.c3; have c24 := hSw.2.1.c4; have c30 := hSw.2.2.c0; have c31 := hSw.2.2.c1; have c32 := hSw.2.2.c2; have c33 := hSw.2.2.c3; have c34 := hSw.2.2.c4; go_simp
    first | done | with_reducible rfl
  refine wpAnyH_takeE (i := 3) (some 19) (v := ?_) rfl rfl (by as_aux_lemma => kernel_rfl) (by as_aux_lemma => kernel_rfl) (by as_aux_lemma => kernel_rfl) (fun _ _ _ h => h) (Or.inl ⟨by kernel_rfl, ?_⟩) hS ?_
  rotate_left
  · intro w hSw; have c10 := hSw.1.c0; have c11 := hSw.1.c1; have c12 := hSw.1.c2; have c13 := hSw.1.c3; have c14 := hSw.1.c4; have c20 := hSw.2.1.c0; have c21 := hSw.2.1.c1; have c22 := hSw.2.1.c2; have c23 := hSw.2.1.c3; have c24 := hSw.2.1.c4; have c30 := hSw.2.2.c0; have c31 := hSw.2.2.c1; have c32 := hSw.2.2.c2; have c33 := hSw.2.2.c3; have c34 := hSw.2.2.c4; go_simp
    first | done | with_reducible rfl
  refine wpAnyH_takeE (i := 4) (some 20) (v := ?_) rfl rfl (by as_aux_lemma => kernel_rfl) (by as_aux_lemma => kernel_rfl) (by as_aux_lemma => kernel_rfl) (fun _ _ _ h => h) (Or.inl ⟨by kernel_rfl, ?_⟩) hS ?_
  rotate_left
  · intro w hSw; have c10 := hSw.1.c0; have c11 := hSw.1.c1; have c12 := hSw.1.c2; have c13 := hSw.1.c3; have c14 := hSw.1.c4; have c20 := hSw.2.1.c0; have c21 := hSw.2.1.c1; have c22 := hSw.2.1.c2; have c23 := hSw.2.1.c3; have c24 := hSw.2.1.c4; have c30 := hSw.2.2.c0; have c31 := hSw.2.2.c1; have c32 := hSw.2.2.c2; have c33 := hSw.2.2.c3; have c34 := hSw.2.2.c4; go_simp
    first | done | with_reducible rfl
  refine wpAnyH_takeE (i := 6) (some 22) (v := ?_) rfl rfl (by as_aux_lemma => kernel_rfl) (by as_aux_lemma => kernel_rfl) (by as_aux_lemma => kernel_rfl) (fun _ _ _ h => h) (Or.inl ⟨by kernel_rfl, ?_⟩) hS ?_
  rotate_left
  · intro w hSw; have c10 := hSw.1.c0; have c11 := hSw.1.c1; have c12 := hSw.1.c2; have c13 := hSw.1.c3; have c14 := hSw.1.c4; have c20 := hSw.2.1.c0; have c21 := hSw.2.1.c1; have c22 := hSw.2.1.c2; have c23 := hSw.2.1.c3; have c24 := hSw.2.1.c4; have c30 := hSw.2.2.c0; have c31 := hSw.2.2.c1; have c32 := hSw.2.2.c2; have c33 := hSw.2.2.c3; have c34 := hSw.2.2.c4; go_simp
    first | done | with_reducible rfl
  refine wpAnyH_takeE (i := 7) (some 23) (v := ?_) rfl rfl (by as_aux_lemma => kernel_rfl) (by as_aux_lemma => kernel_rfl) (by as_aux_lemma => kernel_rfl) (fun _ _ _ h => h) (Or.inl ⟨by kernel_rfl, ?_⟩) hS ?_
  rotate_left
  · intro w hSw; have c10 := hSw.1.c0; have c11 := hSw.1.c1; have c12 := hSw.1.c2; have c13 := hSw.1.c3; have c14 := hSw.1.c4; have c20 := hSw.2.1.c0; have c21 := hSw.2.1.c1; have c22 := hSw.2.1.c2; have c23 := hSw.2.1.c3; have c24 := hSw.2.1.c4; have c30 := hSw.2.2.c0; have c31 := hSw.2.2.c1; have c32 := hSw.2.2.c2; have c33 := hSw.2.2.c3; have c34 := hSw.2.2.c4; go_simp
    first | done | with_reducible rfl
  refine wpAnyH_ready (rs := [2]) (by as_aux_lemma => kernel_rfl) (by simp) ?_
  refine AllReadyH.cons rfl (fun K hK => ?_) AllReadyH.nil
  go_simp
  go_wp2_with (go_at_call 7; refine (HXY.out _).mono ?_; rintro e v6 ⟨rfl, q6⟩)
  refine hK.out _ _ ?_ (fun hS => ?_)
  · exact ⟨hS.1.on q6, hS.2.1.on q6, hS.2.2.on q6⟩
  clear hK K
  have HQ6 := Lib.hid (HQ5.out.trans (q6.mono (by rw [HAs.out]; exact HQ5.out.size)))
  clear q6 HQ5
  refine wpAnyH_ready (rs := [5]) (by as_aux_lemma => kernel_rfl) (by simp) ?_
  refine AllReadyH.cons rfl (fun K hK => ?_) AllReadyH.nil
  go_simp
  go_wp2_with (go_at_call 7; refine (HYX.out _).mono ?_; rintro e v7 ⟨rfl, q7⟩)
  refine hK.out _ _ ?_ (fun hS => ?_)
  · exact ⟨hS.1.on q7, hS.2.1.on q7, hS.2.2.on q7⟩
  clear hK K
  have HQ7 := Lib.hid (HQ6.out.trans (q7.mono (by rw [HAs.out]; exact HQ6.out.size)))
  clear q7 HQ6
  refine wpAnyH_ready (rs := [8]) (by as_aux_lemma => kernel_rfl) (by simp) ?_
  refine AllReadyH.cons rfl (fun K hK => ?_) AllReadyH.nil
  go_simp
  go_wp2_with (go_at_call 7; refine (HYZ.out _).mono ?_; rintro e v8 ⟨rfl, q8⟩)
  refine hK.out _ _ ?_ (fun hS => ?_)
  · exact ⟨hS.1.on q8, hS.2.1.on q8, hS.2.2.on q8⟩
  clear hK K
  have HQ8 := Lib.hid (HQ7.out.trans (q8.mono (by rw [HAs.out]; exact HQ7.out.size)))
  clear q8 HQ7
  refine wpAnyH_takeE (i := 9) (some 7) (v := ?_) rfl rfl (by as_aux_lemma => kernel_rfl) (by as_aux_lemma => kernel_rfl) (by as_aux_lemma => kernel_rfl) (fun _ _ _ h => h) (Or.inl ⟨by kernel_rfl, ?_⟩) hS ?_
  rotate_left
  · intro w hSw; have c10 := hSw.1.c0; have c11 := hSw.1.c1; have c12 := hSw.1.c2; have c13 := hSw.1.c3; have c14 := hSw.1.c4; have c20 := hSw.2.1.c0; have c21 := hSw.2.1.c1; have c22 := hSw.2.1.c2; have c23 := hSw.2.1.c3; have c24 := hSw.2.1.c4; have c30 := hSw.2.2.c0; have c31 := hSw.2.2.c1; have c32 := hSw.2.2.c2; have c33 := hSw.2.2.c3; have c34 := hSw.2.2.c4; go_simp
    first | done | with_reducible rfl
  refine wpAnyH_takeE (i := 10) (some 8) (v := ?_) rfl rfl (by as_aux_lemma => kernel_rfl) (by as_aux_lemma => kernel_rfl) (by as_aux_lemma => kernel_rfl) (fun _ _ _ h => h) (Or.inl ⟨by kernel_rfl, ?_⟩) hS ?_
  rotate_left
  · intro w hSw; have c10 := hSw.1.c0; have c11 := hSw.1.c1; have c12 := hSw.1.c2; have c13 := hSw.1.c3; have c14 := hSw.1.c4; have c20 := hSw.2.1.c0; have c21 := hSw.2.1.c1; have c22 := hSw.2.1.c2; have c23 := hSw.2.1.c3; have c24 := hSw.2.1.c4; have c30 := hSw.2.2.c0; have c31 := hSw.2.2.c1; have c32 := hSw.2.2.c2; have c33 := hSw.2.2.c3; have c34 := hSw.2.2.c4; go_simp
    first | done | with_reducible rfl
  refine wpAnyH_takeE (i := 11) (some 9) (v := ?_) rfl rfl (by as_aux_lemma => kernel_rfl) (by as_aux_lemma => kernel_rfl) (by as_aux_lemma => kernel_rfl) (fun _ _ _ h => h) (Or.inl ⟨by kernel_rfl, ?_⟩) hS ?_
  rotate_left
  · intro w hSw; have c10 := hSw.1.c0; have c11 := hSw.1.c1; have c12 := hSw.1.c2; have c13 := hSw.1.c3; have c14 := hSw.1.c4; have c20 := hSw.2.1.c0; have c21 := hSw.2.1.c1; have c22 := hSw.2.1.c2; have c23 := hSw.2.1.c3; have c24 := hSw.2.1.c4; have c30 := hSw.2.2.c0; have c31 := hSw.2.2.c1; have c32 := hSw.2.2.c2; have c33 := hSw.2.2.c3; have c34 := hSw.2.2.c4; go_simp
    first | done | with_reducible rfl
  have HB8 := Lib.hid hS
  refine wpAnyH_done (by kernel_rfl) ?_ _
  clear hS
  obtain ⟨p1, p2, p3, p4, -⟩ := HP.out
  rcases r1 with - | r1
  · rcases r2 with - | r2
    · have hq := p2 rfl rfl
      subst hq
      clear p1 p2 p3 p4 HP
      obtain ⟨b1, b2, b3⟩ := HB8.out
      have c10 := b1.c0
      have c11 := b1.c1
      have c12 := b1.c2
      have c13 := b1.c3
      have c14 := b1.c4
      have c20 := b2.c0
      have c21 := b2.c1
      have c22 := b2.c2
      have c23 := b2.c3
      have c24 := b2.c4
      have c30 := b3.c0
      have c31 := b3.c1
      have c32 := b3.c2
      have c33 := b3.c3
      have c34 := b3.c4
      clear b1 b2 b3
      go_wp2_with (go_at_call 7; refine (HXX.out _).mono ?_; rintro e v9 ⟨rfl, q9⟩; refine Hid.out ?_)
      refine Lib.hid ?_
      clear c10 c11 c12 c13 c14 c20 c21 c22 c23 c24 c30 c31 c32 c33 c34
      have HB9 := Lib.hid (And.intro (HB8.out.1.on q9) (And.intro (HB8.out.2.1.on q9) (HB8.out.2.2.on q9)))
      have HQ9 := Lib.hid (HQ8.out.trans (q9.mono (HAs.out ▸ HQ8.out.size)))
      clear q9 HQ8 HB8
      have HWk := Lib.hid (eawake_any W.heap.size v9 HQ9.out.size (by rw [← HAs.out]; exact HV.out.on HQ9.out))
      go_wp2_with (go_at_call 14; refine HWk.out.mono ?_; rintro e v10 ⟨rfl, q10⟩)
      go_ret
      refine ⟨rfl, ?_⟩
      rw [← HAs.out]
      exact HQ9.out.trans (q10.mono (HAs.out ▸ HQ9.out.size))
    · have hq := p3 (Or.inr rfl)
      subst hq
      clear p1 p2 p3 p4 HP
      obtain ⟨b1, b2, b3⟩ := HB8.out
      have c10 := b1.c0
      have c11 := b1.c1
      have c12 := b1.c2
      have c13 := b1.c3
      have c14 := b1.c4
      have c20 := b2.c0
      have c21 := b2.c1
      have c22 := b2.c2
      have c23 := b2.c3
      have c24 := b2.c4
      have c30 := b3.c0
      have c31 := b3.c1
      have c32 := b3.c2
      have c33 := b3.c3
      have c34 := b3.c4
      clear b1 b2 b3
      go_wp2_with (go_at_call 7; refine (HXX.out _).mono ?_; rintro e v9 ⟨rfl, q9⟩; refine Hid.out ?_)
      refine Lib.hid ?_
      clear c10 c11 c12 c13 c14 c20 c21 c22 c23 c24 c30 c31 c32 c33 c34
      have HB9 := Lib.hid (And.intro (HB8.out.1.on q9) (And.intro (HB8.out.2.1.on q9) (HB8.out.2.2.on q9)))
      have HQ9 := Lib.hid (HQ8.out.trans (q9.mono (HAs.out ▸ HQ8.out.size)))
      clear q9 HQ8 HB8
      have HWk := Lib.hid (eawake_any W.heap.size v9 HQ9.out.size (by rw [← HAs.out]; exact HV.out.on HQ9.out))
      go_wp2_with (go_at_call 14; refine HWk.out.mono ?_; rintro e v10 ⟨rfl, q10⟩)
      go_ret
      refine ⟨rfl, ?_⟩
      rw [← HAs.out]
      exact HQ9.out.trans (q10.mono (HAs.out ▸ HQ9.out.size))
  · have hr2 : r2 = false := by cases r2 with | false => rfl | true => exact absurd ⟨rfl, rfl⟩ p1
    have hq := p3 (Or.inl rfl)
    subst hr2
    subst hq
    rcases r3 with - | r3
    · clear p1 p2 p3 p4 HP
      obtain ⟨b1, b2, b3⟩ := HB8.out
      have c10 := b1.c0
      have c11 := b1.c1
      have c12 := b1.c2
      have c13 := b1.c3
      have c14 := b1.c4
      have c20 := b2.c0
      have c21 := b2.c1
      have c22 := b2.c2
      have c23 := b2.c3
      have c24 := b2.c4
      have c30 := b3.c0
      have c31 := b3.c1
      have c32 := b3.c2
      have c33 := b3.c3
      have c34 := b3.c4
      clear b1 b2 b3
      go_wp2_with (go_at_call 7; refine (HXX.out _).mono ?_; rintro e v9 ⟨rfl, q9⟩; refine Hid.out ?_)
      refine Lib.hid ?_
      clear c10 c11 c12 c13 c14 c20 c21 c22 c23 c24 c30 c31 c32 c33 c34
      have HB9 := Lib.hid (And.intro (HB8.out.1.on q9) (And.intro (HB8.out.2.1.on q9) (HB8.out.2.2.on q9)))
      have HQ9 := Lib.hid (HQ8.out.trans (q9.mono (HAs.out ▸ HQ8.out.size)))
      clear q9 HQ8 HB8
      have HWk := Lib.hid (eawake_any W.heap.size v9 HQ9.out.size (by rw [← HAs.out]; exact HV.out.on HQ9.out))
      go_wp2_with (go_at_call 14; refine HWk.out.mono ?_; rintro e v10 ⟨rfl, q10⟩)
      go_ret
      refine ⟨rfl, ?_⟩
      rw [← HAs.out]
      exact HQ9.out.trans (q10.mono (HAs.out ▸ HQ9.out.size))
    · have hr4 := p4 rfl rfl
      subst hr4
      clear p1 p2 p3 p4 HP
      obtain ⟨b1, b2, b3⟩ := HB8.out
      have c10 := b1.c0
      have c11 := b1.c1
      have c12 := b1.c2
      have c13 := b1.c3
      have c14 := b1.c4
      have c20 := b2.c0
      have c21 := b2.c1
      have c22 := b2.c2
      have c23 := b2.c3
      have c24 := b2.c4
      have c30 := b3.c0
      have c31 := b3.c1
      have c32 := b3.c2
      have c33 := b3.c3
      have c34 := b3.c4
      clear b1 b2 b3
      go_wp2_with (go_at_call 7; refine (HXZ.out _).mono ?_; rintro e v9 ⟨rfl, q9⟩; refine Hid.out ?_)
      refine Lib.hid ?_
      clear c10 c11 c12 c13 c14 c20 c21 c22 c23 c24 c30 c31 c32 c33 c34
      have HB9 := Lib.hid (And.intro (HB8.out.1.on q9) (And.intro (HB8.out.2.1.on q9) (HB8.out.2.2.on q9)))
      have HQ9 := Lib.hid (HQ8.out.trans (q9.mono (HAs.out ▸ HQ8.out.size)))
      clear q9 HQ8 HB8
      obtain ⟨b1, b2, b3⟩ := HB9.out
      have c10 := b1.c0
      have c11 := b1.c1
      have c12 := b1.c2
      have c13 := b1.c3
      have c14 := b1.c4
      have c20 := b2.c0
      have c21 := b2.c1
      have c22 := b2.c2
      have c23 := b2.c3
      have c24 := b2.c4
      have c30 := b3.c0
      have c31 := b3.c1
      have c32 := b3.c2
      have c33 := b3.c3
      have c34 := b3.c4
      clear b1 b2 b3
      go_wp2_with (go_at_call 7; refine (HXX.out _).mono ?_; rintro e v10 ⟨rfl, q10⟩; refine Hid.out ?_)
      refine Lib.hid ?_
      clear c10 c11 c12 c13 c14 c20 c21 c22 c23 c24 c30 c31 c32 c33 c34
      have HB10 := Lib.hid (And.intro (HB9.out.1.on q10) (And.intro (HB9.out.2.1.on q10) (HB9.out.2.2.on q10)))
      have HQ10 := Lib.hid (HQ9.out.trans (q10.mono (HAs.out ▸ HQ9.out.size)))
      clear q10 HQ9 HB9
      have HWk := Lib.hid (eawake_any W.heap.size v10 HQ10.out.size (by rw [← HAs.out]; exact HV.out.on HQ10.out))
      go_wp2_with (go_at_call 14; refine HWk.out.mono ?_; rintro e v11 ⟨rfl, q11⟩)
      go_ret
      refine ⟨rfl, ?_⟩
      rw [← HAs.out]
      exact HQ10.out.trans (q11.mono (HAs.out ▸ HQ10.out.size))

end Go.Proofs.YtjkhonelidhakaaDoor
