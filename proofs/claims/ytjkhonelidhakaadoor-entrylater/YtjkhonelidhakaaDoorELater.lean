/-
  The walk of EntryLater.
-/
import Derived.Test.YtjkhonelidhakaaDoorE3
import Derived.Test.YtjkhonelidhakaaDoorEOrder
import Derived.Test.YtjkhonelidhakaaDoorEJoin
namespace Go.Proofs.YtjkhonelidhakaaDoor
open Go.RowKit

theorem EBlk.stOther {w : World} {B b : Nat} {x : Ent} (h : EBlk w B x) (hne : B ≠ b) (y : Ent) : EBlk (stE w b y) B x :=
  ((((h.other (p := ⟨b, 0, none⟩) hne _).other (p := ⟨b, 1, none⟩) hne _).other (p := ⟨b, 2, none⟩) hne _).other (p := ⟨b, 3, none⟩) hne _).other (p := ⟨b, 4, none⟩) hne _
theorem EBlk.cs {w : World} {B : Nat} {x : Ent} (h : EBlk w B x) : w.cell? ⟨B, 0, none⟩ = some (.string x.k) ∧ w.cell? ⟨B, 1, none⟩ = some (.int .i64 x.t) ∧ w.cell? ⟨B, 2, none⟩ = some (.int .u16 x.o) ∧ w.cell? ⟨B, 3, none⟩ = some (.string x.v) ∧ w.cell? ⟨B, 4, none⟩ = some (.int .i64 x.u) := ⟨h.c0, h.c1, h.c2, h.c3, h.c4⟩
theorem later_or (x y : Ent) : laterE x y = x ∨ laterE x y = y := by
  unfold laterE
  split
  · exact .inl rfl
  · exact .inr rfl
theorem later_self (x : Ent) : laterE x x = x := by unfold laterE; split <;> rfl
theorem later_comm {x y : Ent} (hk : x.k = y.k) : laterE x y = laterE y x := by
  unfold laterE
  cases h1 : aboveE x y <;> cases h2 : aboveE y x
  · exact (above_tri hk h1 h2).symm
  · rfl
  · rfl
  · rw [above_asymm h1] at h2; cases h2
theorem later_assoc {x y z : Ent} (h1 : x.k = y.k) (h2 : y.k = z.k) : laterE (laterE x y) z = laterE x (laterE y z) := by
  unfold laterE
  cases a1 : aboveE x y <;> cases a2 : aboveE y z <;> cases a3 : aboveE x z <;> simp [a1, a2, a3]
  · have := above_tri h1 a1 (by
      cases h : aboveE y x with
      | false => rfl
      | true => rw [above_trans h a3] at a2; cases a2)
    subst this
    rw [a3] at a2
    cases a2
  · rw [above_trans a1 a2] at a3
    cases a3
theorem later_keep {x y : Ent} (hk : x.k = y.k) : laterE (laterE x y) x = laterE x y ∧ laterE (laterE x y) y = laterE x y := by
  constructor
  · rcases later_or x y with h | h
    · rw [h, later_self]
    · rw [h, ← later_comm hk, h]
  · rcases later_or x y with h | h
    · rw [h]; exact h
    · rw [h, later_self]
theorem later_k {x y : Ent} (hk : x.k = y.k) : (laterE x y).k = x.k := by
  rcases later_or x y with h | h
  · rw [h]
  · rw [h, hk]


set_option maxHeartbeats 40000000 in
set_option maxRecDepth 100000 in
theorem later_walk (x y z : Ent) (W : World) (hv : TabE W.heap.size W) :
    Calls Tryd.prog 6 #[.agg #[.string x.k, .int .i64 x.t, .int .u16 x.o, .string x.v, .int .i64 x.u], .agg #[.string y.k, .int .i64 y.t, .int .u16 y.o, .string y.v, .int .i64 y.u], .agg #[.string z.k, .int .i64 z.t, .int .u16 z.o, .string z.v, .int .i64 z.u]] W fun e w' => e = .returned (.bool true) ∧ Below W.heap.size W w' := by
  obtain ⟨kx, tx, ox, vx, ux⟩ := x
  obtain ⟨ky, ty, oy, vy, uy⟩ := y
  obtain ⟨kz, tz, oz, vz, uz⟩ := z
  have e1 := later_comm (x := (⟨kx, tx, ox, vx, ux⟩ : Ent)) (y := (⟨kx, ty, oy, vy, uy⟩ : Ent)) rfl
  have e2 := later_assoc (x := (⟨kx, tx, ox, vx, ux⟩ : Ent)) (y := (⟨kx, ty, oy, vy, uy⟩ : Ent)) (z := (⟨kx, tz, oz, vz, uz⟩ : Ent)) rfl rfl
  have e3 := later_keep (x := (⟨kx, tx, ox, vx, ux⟩ : Ent)) (y := (⟨kx, ty, oy, vy, uy⟩ : Ent)) rfl
  have e4 := later_or (⟨kx, tx, ox, vx, ux⟩ : Ent) (⟨kx, ty, oy, vy, uy⟩ : Ent)
  have HXY := Lib.hid (fun w => eLater_any (⟨kx, tx, ox, vx, ux⟩ : Ent) (⟨kx, ty, oy, vy, uy⟩ : Ent) w)
  have HYX := Lib.hid (fun w => eLater_any (⟨kx, ty, oy, vy, uy⟩ : Ent) (⟨kx, tx, ox, vx, ux⟩ : Ent) w)
  have HXX := Lib.hid (fun w => eLater_any (⟨kx, tx, ox, vx, ux⟩ : Ent) (⟨kx, tx, ox, vx, ux⟩ : Ent) w)
  have HYZ := Lib.hid (fun w => eLater_any (⟨kx, ty, oy, vy, uy⟩ : Ent) (⟨kx, tz, oz, vz, uz⟩ : Ent) w)
  rw [← e1] at HYX
  rw [later_self] at HXX
  obtain ⟨p, ep⟩ : ∃ p, laterE (⟨kx, tx, ox, vx, ux⟩ : Ent) (⟨kx, ty, oy, vy, uy⟩ : Ent) = p := ⟨_, rfl⟩
  obtain ⟨r, er⟩ : ∃ r, laterE (⟨kx, ty, oy, vy, uy⟩ : Ent) (⟨kx, tz, oz, vz, uz⟩ : Ent) = r := ⟨_, rfl⟩
  rw [ep] at HXY HYX e2 e3 e4
  rw [er] at HYZ e2
  obtain ⟨s, es⟩ : ∃ s, laterE p (⟨kx, tz, oz, vz, uz⟩ : Ent) = s := ⟨_, rfl⟩
  rw [es] at e2
  have HPZ := Lib.hid (fun w => eLater_any p (⟨kx, tz, oz, vz, uz⟩ : Ent) w)
  have HXR := Lib.hid (fun w => eLater_any (⟨kx, tx, ox, vx, ux⟩ : Ent) r w)
  have HPX := Lib.hid (fun w => eLater_any p (⟨kx, tx, ox, vx, ux⟩ : Ent) w)
  have HPY := Lib.hid (fun w => eLater_any p (⟨kx, ty, oy, vy, uy⟩ : Ent) w)
  rw [es] at HPZ
  rw [← e2] at HXR
  rw [e3.1] at HPX
  rw [e3.2] at HPY
  have HE4 := Lib.hid e4
  clear e1 e2 e3 e4 ep er es
  obtain ⟨kp, tp, op, vp, up⟩ := p
  obtain ⟨kr, tr, or, vr, ur⟩ := r
  obtain ⟨ks, ts, os, vs, us⟩ := s
  have HV := Lib.hid hv
  clear hv
  simp only [Ent.val] at HXY HYX HXX HYZ HPZ HXR HPX HPY
  dsimp only at HXY HYX HXX HYZ HPZ HXR HPX HPY ⊢
  have b1 := EBlk.new W (⟨kx, tx, ox, vx, ux⟩ : Ent)
  have d1 := (Below.refl _ W).alloc (Nat.le_refl _) (.cells #[.string kx, .int .i64 tx, .int .u16 ox, .string vx, .int .i64 ux] 24)
  obtain ⟨w1, hw1⟩ : ∃ w1, w1 = W.alloc (.cells #[.string kx, .int .i64 tx, .int .u16 ox, .string vx, .int .i64 ux] 24) := ⟨_, rfl⟩
  rw [← hw1] at b1 d1
  have s1 : w1.heap.size = W.heap.size + 1 := by rw [hw1]; simp
  have c2 := EBlk.new w1 (⟨ky, ty, oy, vy, uy⟩ : Ent)
  have d2' := (Below.refl _ w1).alloc (Nat.le_refl _) (.cells #[.string ky, .int .i64 ty, .int .u16 oy, .string vy, .int .i64 uy] 24)
  obtain ⟨w2, hw2⟩ : ∃ w2, w2 = w1.alloc (.cells #[.string ky, .int .i64 ty, .int .u16 oy, .string vy, .int .i64 uy] 24) := ⟨_, rfl⟩
  rw [← hw2] at c2 d2'
  have s2 : w2.heap.size = W.heap.size + 1 + 1 := by rw [hw2]; simp [s1]
  have b2 := b1.on d2'
  have d2 := d1.trans (d2'.mono d1.size)
  have e3 := EBlk.new w2 (⟨kz, tz, oz, vz, uz⟩ : Ent)
  have d3' := (Below.refl _ w2).alloc (Nat.le_refl _) (.cells #[.string kz, .int .i64 tz, .int .u16 oz, .string vz, .int .i64 uz] 24)
  obtain ⟨w3, hw3⟩ : ∃ w3, w3 = w2.alloc (.cells #[.string kz, .int .i64 tz, .int .u16 oz, .string vz, .int .i64 uz] 24) := ⟨_, rfl⟩
  rw [← hw3] at e3 d3'
  have b3 := b2.on d3'
  have c3 := c2.on d3'
  have d3 := d2.trans (d3'.mono d2.size)
  rw [s1] at c3
  rw [s2] at e3
  have HZ := Lib.hid (And.intro b3 (And.intro c3 (And.intro e3 d3)))
  have HW3 : Hid (((W.alloc (.cells #[.string kx, .int .i64 tx, .int .u16 ox, .string vx, .int .i64 ux] 24)).alloc (.cells #[.string ky, .int .i64 ty, .int .u16 oy, .string vy, .int .i64 uy] 24)).alloc (.cells #[.string kz, .int .i64 tz, .int .u16 oz, .string vz, .int .i64 uz] 24) = w3) := Lib.hid (by rw [hw3, hw2, hw1])
  clear b1 d1 s1 c2 d2' s2 b2 d2 e3 d3' b3 c3 d3 hw1 hw2 hw3 w1 w2
  go_enter Tryd.func6, Tryd.ntmps6
  go_wp2_with fail
  rw [HW3.out]
  obtain ⟨b3, c3, e3, d3⟩ := HZ.out
  clear HZ HW3
  generalize hA : W.heap.size = A at *
  have HQ3 := Lib.hid d3.drew
  have HAs : Hid (A = W.heap.size) := Lib.hid hA.symm
  clear d3 hA
  refine wp_region_any (by kernel_rfl) ?_
  change wpAny _ _ _ _ _ _ _ (World.drew _)
  have hS : (fun w' : World => EBlk w' A (⟨kx, tx, ox, vx, ux⟩ : Ent)) w3.drew := b3
  refine wpAny_of_held (S := fun w' => EBlk w' A (⟨kx, tx, ox, vx, ux⟩ : Ent)) _ _ _ _ ?_
  have c3' : EBlk w3.drew (A + 1) (⟨ky, ty, oy, vy, uy⟩ : Ent) := c3
  have e3' : EBlk w3.drew (A + 1 + 1) (⟨kz, tz, oz, vz, uz⟩ : Ent) := e3
  have b3' : EBlk w3.drew A (⟨kx, tx, ox, vx, ux⟩ : Ent) := b3
  clear b3 c3 e3
  generalize w3.drew = v3 at *
  refine wpAnyH_takeE (i := 0) (some 11) (v := ?_) rfl rfl (by as_aux_lemma => kernel_rfl) (by as_aux_lemma => kernel_rfl) (by as_aux_lemma => kernel_rfl) (fun _ _ _ h => h) (Or.inl ⟨by kernel_rfl, ?_⟩) hS ?_
  rotate_left
  · intro w hSw; have c0 := hSw.c0; have c1 := hSw.c1; have c2 := hSw.c2; have c3 := hSw.c3; have c4 := hSw.c4; go_simp
    first | done | with_reducible rfl
  refine wpAnyH_takeE (i := 1) (some 12) (v := ?_) rfl rfl (by as_aux_lemma => kernel_rfl) (by as_aux_lemma => kernel_rfl) (by as_aux_lemma => kernel_rfl) (fun _ _ _ h => h) (Or.inl ⟨by kernel_rfl, ?_⟩) hS ?_
  rotate_left
  · intro w hSw; have c0 := hSw.c0; have c1 := hSw.c1; have c2 := hSw.c2; have c3 := hSw.c3; have c4 := hSw.c4; go_simp
    first | done | with_reducible rfl
  refine wpAnyH_takeE (i := 2) (some 13) (v := ?_) rfl rfl (by as_aux_lemma => kernel_rfl) (by as_aux_lemma => kernel_rfl) (by as_aux_lemma => kernel_rfl) (fun _ _ _ h => h) (Or.inl ⟨by kernel_rfl, ?_⟩) hS ?_
  rotate_left
  · intro w hSw; have c0 := hSw.c0; have c1 := hSw.c1; have c2 := hSw.c2; have c3 := hSw.c3; have c4 := hSw.c4; go_simp
    first | done | with_reducible rfl
  refine wpAnyH_takeE (i := 3) (some 14) (v := ?_) rfl rfl (by as_aux_lemma => kernel_rfl) (by as_aux_lemma => kernel_rfl) (by as_aux_lemma => kernel_rfl) (fun _ _ _ h => h) (Or.inl ⟨by kernel_rfl, ?_⟩) hS ?_
  rotate_left
  · intro w hSw; have c0 := hSw.c0; have c1 := hSw.c1; have c2 := hSw.c2; have c3 := hSw.c3; have c4 := hSw.c4; go_simp
    first | done | with_reducible rfl
  refine wpAnyH_takeE (i := 4) (some 15) (v := ?_) rfl rfl (by as_aux_lemma => kernel_rfl) (by as_aux_lemma => kernel_rfl) (by as_aux_lemma => kernel_rfl) (fun _ _ _ h => h) (Or.inl ⟨by kernel_rfl, ?_⟩) hS ?_
  rotate_left
  · intro w hSw; have c0 := hSw.c0; have c1 := hSw.c1; have c2 := hSw.c2; have c3 := hSw.c3; have c4 := hSw.c4; go_simp
    first | done | with_reducible rfl
  refine wpAnyH_ready (rs := [5]) (by as_aux_lemma => kernel_rfl) (by simp) ?_
  refine AllReadyH.cons rfl (fun K hK => ?_) AllReadyH.nil
  have f0 := c3'.f 0
  have k0 := c3'.c0
  go_simp
  refine hK.out _ _ ?_ (fun hS => ?_)
  · exact hS.other (by dsimp only; omega) _
  clear hK K f0 k0
  have g1 := c3'.rekey kx
  have g2 := e3'.other (p := ⟨A + 1, 0, none⟩) (by dsimp only; omega) (.string kx)
  have g3 := b3'.other (p := ⟨A + 1, 0, none⟩) (by dsimp only; omega) (.string kx)
  have g4 : Below A W (v3.setCell ⟨A + 1, 0, none⟩ (.string kx)) := HQ3.out.setCell (p := ⟨A + 1, 0, none⟩) (by dsimp only; omega) _
  clear c3' e3' b3' HQ3
  generalize v3.setCell ⟨A + 1, 0, none⟩ (.string kx) = v4 at *
  refine wpAnyH_takeE (i := 6) (some 16) (v := ?_) rfl rfl (by as_aux_lemma => kernel_rfl) (by as_aux_lemma => kernel_rfl) (by as_aux_lemma => kernel_rfl) (fun _ _ _ h => h) (Or.inl ⟨by kernel_rfl, ?_⟩) hS ?_
  rotate_left
  · intro w hSw; have c0 := hSw.c0; have c1 := hSw.c1; have c2 := hSw.c2; have c3 := hSw.c3; have c4 := hSw.c4; go_simp
    first | done | with_reducible rfl
  refine wpAnyH_ready (rs := [7]) (by as_aux_lemma => kernel_rfl) (by simp) ?_
  refine AllReadyH.cons rfl (fun K hK => ?_) AllReadyH.nil
  have f0 := g2.f 0
  have k0 := g2.c0
  go_simp
  refine hK.out _ _ ?_ (fun hS => ?_)
  · exact hS.other (by dsimp only; omega) _
  clear hK K f0 k0
  have i1 := g2.rekey kx
  have i2 := g1.other (p := ⟨A + 1 + 1, 0, none⟩) (by dsimp only; omega) (.string kx)
  have i3 := g3.other (p := ⟨A + 1 + 1, 0, none⟩) (by dsimp only; omega) (.string kx)
  have i4 := g4.setCell (p := ⟨A + 1 + 1, 0, none⟩) (by dsimp only; omega) (.string kx)
  clear g1 g2 g3 g4 hS
  generalize v4.setCell ⟨A + 1 + 1, 0, none⟩ (.string kx) = v5 at *
  have HB := Lib.hid (And.intro i3 (And.intro i2 i1))
  have HQ5 := Lib.hid i4.drew
  clear i1 i2 i3 i4
  refine wpAnyH_done (by kernel_rfl) ?_ _
  go_wp2_with fail
  obtain ⟨b1, b2, b3⟩ := HB.out
  refine wp_region_any (by kernel_rfl) ?_
  change wpAny _ _ _ _ _ _ _ (World.drew _)
  have hS : (fun w' : World => EBlk w' A (⟨kx, tx, ox, vx, ux⟩ : Ent) ∧ EBlk w' (A + 1) (⟨kx, ty, oy, vy, uy⟩ : Ent) ∧ EBlk w' (A + 1 + 1) (⟨kx, tz, oz, vz, uz⟩ : Ent)) v5.drew := ⟨b1, b2, b3⟩
  refine wpAny_of_held (S := fun w' => EBlk w' A (⟨kx, tx, ox, vx, ux⟩ : Ent) ∧ EBlk w' (A + 1) (⟨kx, ty, oy, vy, uy⟩ : Ent) ∧ EBlk w' (A + 1 + 1) (⟨kx, tz, oz, vz, uz⟩ : Ent)) _ _ _ _ ?_
  clear b1 b2 b3 HB
  generalize World.drew v5 = y0 at *
  apply wpAnyH_join (fun b b' w' => EBlk w' A (⟨kx, tx, ox, vx, ux⟩ : Ent) ∧ EBlk w' (A + 1) (⟨kx, ty, oy, vy, uy⟩ : Ent) ∧ EBlk w' (A + 1 + 1) (⟨kx, tz, oz, vz, uz⟩ : Ent) ∧ EBlk w' b (⟨kp, tp, op, vp, up⟩ : Ent) ∧ EBlk w' b' (⟨kp, tp, op, vp, up⟩ : Ent) ∧ Below A W w')
  · have HQ := Lib.hid HQ5.out
    refine wpAnyH_takeE (i := 0) (some 17) (v := ?_) rfl rfl (by as_aux_lemma => kernel_rfl) (by as_aux_lemma => kernel_rfl) (by as_aux_lemma => kernel_rfl) (fun _ _ _ h => by cases h.1) (Or.inl ⟨by kernel_rfl, ?_⟩) hS ?_
    rotate_left
    · intro w hSw; obtain ⟨c00, c01, c02, c03, c04⟩ := hSw.1.cs; obtain ⟨c10, c11, c12, c13, c14⟩ := hSw.2.1.cs; obtain ⟨c20, c21, c22, c23, c24⟩ := hSw.2.2.cs; go_simp
      first | done | with_reducible rfl
    refine wpAnyH_takeE (i := 1) (some 18) (v := ?_) rfl rfl (by as_aux_lemma => kernel_rfl) (by as_aux_lemma => kernel_rfl) (by as_aux_lemma => kernel_rfl) (fun _ _ _ h => by cases h.1) (Or.inl ⟨by kernel_rfl, ?_⟩) hS ?_
    rotate_left
    · intro w hSw; obtain ⟨c00, c01, c02, c03, c04⟩ := hSw.1.cs; obtain ⟨c10, c11, c12, c13, c14⟩ := hSw.2.1.cs; obtain ⟨c20, c21, c22, c23, c24⟩ := hSw.2.2.cs; go_simp
      first | done | with_reducible rfl
    refine wpAnyH_takeE (i := 3) (some 20) (v := ?_) rfl rfl (by as_aux_lemma => kernel_rfl) (by as_aux_lemma => kernel_rfl) (by as_aux_lemma => kernel_rfl) (fun _ _ _ h => by cases h.1) (Or.inl ⟨by kernel_rfl, ?_⟩) hS ?_
    rotate_left
    · intro w hSw; obtain ⟨c00, c01, c02, c03, c04⟩ := hSw.1.cs; obtain ⟨c10, c11, c12, c13, c14⟩ := hSw.2.1.cs; obtain ⟨c20, c21, c22, c23, c24⟩ := hSw.2.2.cs; go_simp
      first | done | with_reducible rfl
    refine wpAnyH_takeE (i := 4) (some 21) (v := ?_) rfl rfl (by as_aux_lemma => kernel_rfl) (by as_aux_lemma => kernel_rfl) (by as_aux_lemma => kernel_rfl) (fun _ _ _ h => by cases h.1) (Or.inl ⟨by kernel_rfl, ?_⟩) hS ?_
    rotate_left
    · intro w hSw; obtain ⟨c00, c01, c02, c03, c04⟩ := hSw.1.cs; obtain ⟨c10, c11, c12, c13, c14⟩ := hSw.2.1.cs; obtain ⟨c20, c21, c22, c23, c24⟩ := hSw.2.2.cs; go_simp
      first | done | with_reducible rfl
    refine wpAnyH_ready (rs := [2, 6, 7]) (by as_aux_lemma => kernel_rfl) (by simp) ?_
    refine AllReadyH.cons rfl (fun K hK => ?_) (AllReadyH.cons rfl (fun K hK => ?_) (AllReadyH.cons rfl (fun K hK => ?_) AllReadyH.nil))
    · skip
      go_simp
      go_wp2_with (go_at_call 9; refine (HXY.out _).mono ?_; rintro e y1 ⟨rfl, q⟩)
      refine hK.out _ _ ?_ (fun hS => ?_)
      · exact ⟨hS.1.on q, hS.2.1.on q, hS.2.2.on q⟩
      clear hK K
      replace HQ := Lib.hid (HQ.out.trans (q.mono (HAs.out ▸ HQ.out.size)))
      clear q
      refine wpAnyH_ready (rs := [5, 6, 7]) (by as_aux_lemma => kernel_rfl) (by simp) ?_
      refine AllReadyH.cons rfl (fun K hK => ?_) (AllReadyH.cons rfl (fun K hK => ?_) (AllReadyH.cons rfl (fun K hK => ?_) AllReadyH.nil))
      · skip
        go_simp
        go_wp2_with (go_at_call 9; refine (HYX.out _).mono ?_; rintro e y2 ⟨rfl, q⟩)
        refine hK.out _ _ ?_ (fun hS => ?_)
        · exact ⟨hS.1.on q, hS.2.1.on q, hS.2.2.on q⟩
        clear hK K
        replace HQ := Lib.hid (HQ.out.trans (q.mono (HAs.out ▸ HQ.out.size)))
        clear q
        refine wpAnyH_ready (rs := [6, 7]) (by as_aux_lemma => kernel_rfl) (by simp) ?_
        refine AllReadyH.cons rfl (fun K hK => ?_) (AllReadyH.cons rfl (fun K hK => ?_) AllReadyH.nil)
        · skip
          have d := (Below.refl y2.heap.size y2).alloc (Nat.le_refl _) (.cells #[.string ⟨#[]⟩, .int .i64 0, .int .u16 0, .string ⟨#[]⟩, .int .i64 0] 24)
          have hb7 : EBlk (y2.alloc (.cells #[.string ⟨#[]⟩, .int .i64 0, .int .u16 0, .string ⟨#[]⟩, .int .i64 0] 24)) y2.heap.size zeroE := EBlk.new y2 zeroE
          have l0 := hS.1.lt; have l1 := hS.2.1.lt; have l2 := hS.2.2.lt
          go_simp
          refine hK.out _ _ ?_ (fun hS => ?_)
          · exact ⟨hS.1.on d, hS.2.1.on d, hS.2.2.on d⟩
          clear hK K
          have HNb7 : Hid (A ≠ y2.heap.size ∧ A + 1 ≠ y2.heap.size ∧ A + 1 + 1 ≠ y2.heap.size ∧ A ≤ y2.heap.size) := Lib.hid (by omega)
          replace HQ := Lib.hid (HQ.out.trans (d.mono (HAs.out ▸ HQ.out.size)))
          clear d l0 l1 l2
          generalize hy : y2.alloc (.cells #[.string ⟨#[]⟩, .int .i64 0, .int .u16 0, .string ⟨#[]⟩, .int .i64 0] 24) = y3 at *
          clear hy
          generalize y2.heap.size = b7 at *
          refine wpAnyH_ready (rs := [7]) (by as_aux_lemma => kernel_rfl) (by simp) ?_
          refine AllReadyH.cons rfl (fun K hK => ?_) AllReadyH.nil
          have d := (Below.refl y3.heap.size y3).alloc (Nat.le_refl _) (.cells #[.string ⟨#[]⟩, .int .i64 0, .int .u16 0, .string ⟨#[]⟩, .int .i64 0] 24)
          have hb8 : EBlk (y3.alloc (.cells #[.string ⟨#[]⟩, .int .i64 0, .int .u16 0, .string ⟨#[]⟩, .int .i64 0] 24)) y3.heap.size zeroE := EBlk.new y3 zeroE
          have l0 := hS.1.lt; have l1 := hS.2.1.lt; have l2 := hS.2.2.lt
          have m0 := hb7.lt
          go_simp
          refine hK.out _ _ ?_ (fun hS => ?_)
          · exact ⟨hS.1.on d, hS.2.1.on d, hS.2.2.on d⟩
          clear hK K
          replace hb7 := hb7.on d
          have HNb8 : Hid (A ≠ y3.heap.size ∧ A + 1 ≠ y3.heap.size ∧ A + 1 + 1 ≠ y3.heap.size ∧ A ≤ y3.heap.size ∧ b7 ≠ y3.heap.size) := Lib.hid (by omega)
          replace HQ := Lib.hid (HQ.out.trans (d.mono (HAs.out ▸ HQ.out.size)))
          clear d l0 l1 l2 m0
          generalize hy : y3.alloc (.cells #[.string ⟨#[]⟩, .int .i64 0, .int .u16 0, .string ⟨#[]⟩, .int .i64 0] 24) = y4 at *
          clear hy
          generalize y3.heap.size = b8 at *
          refine wpAnyH_ready (rs := [8]) (by as_aux_lemma => kernel_rfl) (by simp) ?_
          refine AllReadyH.cons rfl (fun K hK => ?_) AllReadyH.nil
          have f0 := hb7.f 0; have f1 := hb7.f 1; have f2 := hb7.f 2; have f3 := hb7.f 3; have f4 := hb7.f 4
          have x0 := hb7.c0; have x1 := hb7.c1; have x2 := hb7.c2; have x3 := hb7.c3; have x4 := hb7.c4
          dsimp only [zeroE] at x0 x1 x2 x3 x4
          go_simp
          clear f0 f1 f2 f3 f4 x0 x1 x2 x3 x4
          obtain ⟨i0, i1, i2, iA⟩ := HNb7.out
          refine hK.out _ _ ?_ (fun hS => ?_)
          · exact ⟨hS.1.stOther i0 (⟨kp, tp, op, vp, up⟩ : Ent), hS.2.1.stOther i1 (⟨kp, tp, op, vp, up⟩ : Ent), hS.2.2.stOther i2 (⟨kp, tp, op, vp, up⟩ : Ent)⟩
          clear hK K
          replace hb8 := hb8.stOther (fun e => HNb8.out.2.2.2.2 e.symm) (⟨kp, tp, op, vp, up⟩ : Ent)
          replace hb7 := hb7.store (⟨kp, tp, op, vp, up⟩ : Ent)
          replace HQ := Lib.hid (stE_below HQ.out iA (⟨kp, tp, op, vp, up⟩ : Ent))
          clear iA i0 i1 i2
          dsimp only [stE] at *
          generalize hy : (((((World.setCell y4 ⟨b7, 0, none⟩ (.string kp)).setCell ⟨b7, 1, none⟩ (.int .i64 tp)).setCell ⟨b7, 2, none⟩ (.int .u16 op)).setCell ⟨b7, 3, none⟩ (.string vp)).setCell ⟨b7, 4, none⟩ (.int .i64 up)) = y5 at *
          clear hy
          refine wpAnyH_ready (rs := [9]) (by as_aux_lemma => kernel_rfl) (by simp) ?_
          refine AllReadyH.cons rfl (fun K hK => ?_) AllReadyH.nil
          have f0 := hb8.f 0; have f1 := hb8.f 1; have f2 := hb8.f 2; have f3 := hb8.f 3; have f4 := hb8.f 4
          have x0 := hb8.c0; have x1 := hb8.c1; have x2 := hb8.c2; have x3 := hb8.c3; have x4 := hb8.c4
          dsimp only [zeroE] at x0 x1 x2 x3 x4
          go_simp
          clear f0 f1 f2 f3 f4 x0 x1 x2 x3 x4
          obtain ⟨i0, i1, i2, iA, j0⟩ := HNb8.out
          refine hK.out _ _ ?_ (fun hS => ?_)
          · exact ⟨hS.1.stOther i0 (⟨kp, tp, op, vp, up⟩ : Ent), hS.2.1.stOther i1 (⟨kp, tp, op, vp, up⟩ : Ent), hS.2.2.stOther i2 (⟨kp, tp, op, vp, up⟩ : Ent)⟩
          clear hK K
          replace hb7 := hb7.stOther j0 (⟨kp, tp, op, vp, up⟩ : Ent)
          replace hb8 := hb8.store (⟨kp, tp, op, vp, up⟩ : Ent)
          replace HQ := Lib.hid (stE_below HQ.out iA (⟨kp, tp, op, vp, up⟩ : Ent))
          clear iA i0 i1 i2 j0
          dsimp only [stE] at *
          generalize hy : (((((World.setCell y5 ⟨b8, 0, none⟩ (.string kp)).setCell ⟨b8, 1, none⟩ (.int .i64 tp)).setCell ⟨b8, 2, none⟩ (.int .u16 op)).setCell ⟨b8, 3, none⟩ (.string vp)).setCell ⟨b8, 4, none⟩ (.int .i64 up)) = y6 at *
          clear hy
          refine wpAnyH_done (by kernel_rfl) ?_ _
          exact ⟨rfl, b7, b8, rfl, hS.1, hS.2.1, hS.2.2, hb7, hb8, HQ.out⟩
        · skip
          have d := (Below.refl y2.heap.size y2).alloc (Nat.le_refl _) (.cells #[.string ⟨#[]⟩, .int .i64 0, .int .u16 0, .string ⟨#[]⟩, .int .i64 0] 24)
          have hb8 : EBlk (y2.alloc (.cells #[.string ⟨#[]⟩, .int .i64 0, .int .u16 0, .string ⟨#[]⟩, .int .i64 0] 24)) y2.heap.size zeroE := EBlk.new y2 zeroE
          have l0 := hS.1.lt; have l1 := hS.2.1.lt; have l2 := hS.2.2.lt
          go_simp
          refine hK.out _ _ ?_ (fun hS => ?_)
          · exact ⟨hS.1.on d, hS.2.1.on d, hS.2.2.on d⟩
          clear hK K
          have HNb8 : Hid (A ≠ y2.heap.size ∧ A + 1 ≠ y2.heap.size ∧ A + 1 + 1 ≠ y2.heap.size ∧ A ≤ y2.heap.size) := Lib.hid (by omega)
          replace HQ := Lib.hid (HQ.out.trans (d.mono (HAs.out ▸ HQ.out.size)))
          clear d l0 l1 l2
          generalize hy : y2.alloc (.cells #[.string ⟨#[]⟩, .int .i64 0, .int .u16 0, .string ⟨#[]⟩, .int .i64 0] 24) = y7 at *
          clear hy
          generalize y2.heap.size = b8 at *
          refine wpAnyH_ready (rs := [6]) (by as_aux_lemma => kernel_rfl) (by simp) ?_
          refine AllReadyH.cons rfl (fun K hK => ?_) AllReadyH.nil
          have d := (Below.refl y7.heap.size y7).alloc (Nat.le_refl _) (.cells #[.string ⟨#[]⟩, .int .i64 0, .int .u16 0, .string ⟨#[]⟩, .int .i64 0] 24)
          have hb7 : EBlk (y7.alloc (.cells #[.string ⟨#[]⟩, .int .i64 0, .int .u16 0, .string ⟨#[]⟩, .int .i64 0] 24)) y7.heap.size zeroE := EBlk.new y7 zeroE
          have l0 := hS.1.lt; have l1 := hS.2.1.lt; have l2 := hS.2.2.lt
          have m0 := hb8.lt
          go_simp
          refine hK.out _ _ ?_ (fun hS => ?_)
          · exact ⟨hS.1.on d, hS.2.1.on d, hS.2.2.on d⟩
          clear hK K
          replace hb8 := hb8.on d
          have HNb7 : Hid (A ≠ y7.heap.size ∧ A + 1 ≠ y7.heap.size ∧ A + 1 + 1 ≠ y7.heap.size ∧ A ≤ y7.heap.size ∧ b8 ≠ y7.heap.size) := Lib.hid (by omega)
          replace HQ := Lib.hid (HQ.out.trans (d.mono (HAs.out ▸ HQ.out.size)))
          clear d l0 l1 l2 m0
          generalize hy : y7.alloc (.cells #[.string ⟨#[]⟩, .int .i64 0, .int .u16 0, .string ⟨#[]⟩, .int .i64 0] 24) = y8 at *
          clear hy
          generalize y7.heap.size = b7 at *
          refine wpAnyH_ready (rs := [8]) (by as_aux_lemma => kernel_rfl) (by simp) ?_
          refine AllReadyH.cons rfl (fun K hK => ?_) AllReadyH.nil
          have f0 := hb7.f 0; have f1 := hb7.f 1; have f2 := hb7.f 2; have f3 := hb7.f 3; have f4 := hb7.f 4
          have x0 := hb7.c0; have x1 := hb7.c1; have x2 := hb7.c2; have x3 := hb7.c3; have x4 := hb7.c4
          dsimp only [zeroE] at x0 x1 x2 x3 x4
          go_simp
          clear f0 f1 f2 f3 f4 x0 x1 x2 x3 x4
          obtain ⟨i0, i1, i2, iA, j0⟩ := HNb7.out
          refine hK.out _ _ ?_ (fun hS => ?_)
          · exact ⟨hS.1.stOther i0 (⟨kp, tp, op, vp, up⟩ : Ent), hS.2.1.stOther i1 (⟨kp, tp, op, vp, up⟩ : Ent), hS.2.2.stOther i2 (⟨kp, tp, op, vp, up⟩ : Ent)⟩
          clear hK K
          replace hb8 := hb8.stOther j0 (⟨kp, tp, op, vp, up⟩ : Ent)
          replace hb7 := hb7.store (⟨kp, tp, op, vp, up⟩ : Ent)
          replace HQ := Lib.hid (stE_below HQ.out iA (⟨kp, tp, op, vp, up⟩ : Ent))
          clear iA i0 i1 i2 j0
          dsimp only [stE] at *
          generalize hy : (((((World.setCell y8 ⟨b7, 0, none⟩ (.string kp)).setCell ⟨b7, 1, none⟩ (.int .i64 tp)).setCell ⟨b7, 2, none⟩ (.int .u16 op)).setCell ⟨b7, 3, none⟩ (.string vp)).setCell ⟨b7, 4, none⟩ (.int .i64 up)) = y9 at *
          clear hy
          refine wpAnyH_ready (rs := [9]) (by as_aux_lemma => kernel_rfl) (by simp) ?_
          refine AllReadyH.cons rfl (fun K hK => ?_) AllReadyH.nil
          have f0 := hb8.f 0; have f1 := hb8.f 1; have f2 := hb8.f 2; have f3 := hb8.f 3; have f4 := hb8.f 4
          have x0 := hb8.c0; have x1 := hb8.c1; have x2 := hb8.c2; have x3 := hb8.c3; have x4 := hb8.c4
          dsimp only [zeroE] at x0 x1 x2 x3 x4
          go_simp
          clear f0 f1 f2 f3 f4 x0 x1 x2 x3 x4
          obtain ⟨i0, i1, i2, iA⟩ := HNb8.out
          refine hK.out _ _ ?_ (fun hS => ?_)
          · exact ⟨hS.1.stOther i0 (⟨kp, tp, op, vp, up⟩ : Ent), hS.2.1.stOther i1 (⟨kp, tp, op, vp, up⟩ : Ent), hS.2.2.stOther i2 (⟨kp, tp, op, vp, up⟩ : Ent)⟩
          clear hK K
          replace hb7 := hb7.stOther (fun e => HNb7.out.2.2.2.2 e.symm) (⟨kp, tp, op, vp, up⟩ : Ent)
          replace hb8 := hb8.store (⟨kp, tp, op, vp, up⟩ : Ent)
          replace HQ := Lib.hid (stE_below HQ.out iA (⟨kp, tp, op, vp, up⟩ : Ent))
          clear iA i0 i1 i2
          dsimp only [stE] at *
          generalize hy : (((((World.setCell y9 ⟨b8, 0, none⟩ (.string kp)).setCell ⟨b8, 1, none⟩ (.int .i64 tp)).setCell ⟨b8, 2, none⟩ (.int .u16 op)).setCell ⟨b8, 3, none⟩ (.string vp)).setCell ⟨b8, 4, none⟩ (.int .i64 up)) = y10 at *
          clear hy
          refine wpAnyH_done (by kernel_rfl) ?_ _
          exact ⟨rfl, b7, b8, rfl, hS.1, hS.2.1, hS.2.2, hb7, hb8, HQ.out⟩
      · skip
        have d := (Below.refl y1.heap.size y1).alloc (Nat.le_refl _) (.cells #[.string ⟨#[]⟩, .int .i64 0, .int .u16 0, .string ⟨#[]⟩, .int .i64 0] 24)
        have hb7 : EBlk (y1.alloc (.cells #[.string ⟨#[]⟩, .int .i64 0, .int .u16 0, .string ⟨#[]⟩, .int .i64 0] 24)) y1.heap.size zeroE := EBlk.new y1 zeroE
        have l0 := hS.1.lt; have l1 := hS.2.1.lt; have l2 := hS.2.2.lt
        go_simp
        refine hK.out _ _ ?_ (fun hS => ?_)
        · exact ⟨hS.1.on d, hS.2.1.on d, hS.2.2.on d⟩
        clear hK K
        have HNb7 : Hid (A ≠ y1.heap.size ∧ A + 1 ≠ y1.heap.size ∧ A + 1 + 1 ≠ y1.heap.size ∧ A ≤ y1.heap.size) := Lib.hid (by omega)
        replace HQ := Lib.hid (HQ.out.trans (d.mono (HAs.out ▸ HQ.out.size)))
        clear d l0 l1 l2
        generalize hy : y1.alloc (.cells #[.string ⟨#[]⟩, .int .i64 0, .int .u16 0, .string ⟨#[]⟩, .int .i64 0] 24) = y11 at *
        clear hy
        generalize y1.heap.size = b7 at *
        refine wpAnyH_ready (rs := [5, 7]) (by as_aux_lemma => kernel_rfl) (by simp) ?_
        refine AllReadyH.cons rfl (fun K hK => ?_) (AllReadyH.cons rfl (fun K hK => ?_) AllReadyH.nil)
        · skip
          go_simp
          go_wp2_with (go_at_call 9; refine (HYX.out _).mono ?_; rintro e y12 ⟨rfl, q⟩)
          refine hK.out _ _ ?_ (fun hS => ?_)
          · exact ⟨hS.1.on q, hS.2.1.on q, hS.2.2.on q⟩
          clear hK K
          replace hb7 := hb7.on q
          replace HQ := Lib.hid (HQ.out.trans (q.mono (HAs.out ▸ HQ.out.size)))
          clear q
          refine wpAnyH_ready (rs := [7]) (by as_aux_lemma => kernel_rfl) (by simp) ?_
          refine AllReadyH.cons rfl (fun K hK => ?_) AllReadyH.nil
          have d := (Below.refl y12.heap.size y12).alloc (Nat.le_refl _) (.cells #[.string ⟨#[]⟩, .int .i64 0, .int .u16 0, .string ⟨#[]⟩, .int .i64 0] 24)
          have hb8 : EBlk (y12.alloc (.cells #[.string ⟨#[]⟩, .int .i64 0, .int .u16 0, .string ⟨#[]⟩, .int .i64 0] 24)) y12.heap.size zeroE := EBlk.new y12 zeroE
          have l0 := hS.1.lt; have l1 := hS.2.1.lt; have l2 := hS.2.2.lt
          have m0 := hb7.lt
          go_simp
          refine hK.out _ _ ?_ (fun hS => ?_)
          · exact ⟨hS.1.on d, hS.2.1.on d, hS.2.2.on d⟩
          clear hK K
          replace hb7 := hb7.on d
          have HNb8 : Hid (A ≠ y12.heap.size ∧ A + 1 ≠ y12.heap.size ∧ A + 1 + 1 ≠ y12.heap.size ∧ A ≤ y12.heap.size ∧ b7 ≠ y12.heap.size) := Lib.hid (by omega)
          replace HQ := Lib.hid (HQ.out.trans (d.mono (HAs.out ▸ HQ.out.size)))
          clear d l0 l1 l2 m0
          generalize hy : y12.alloc (.cells #[.string ⟨#[]⟩, .int .i64 0, .int .u16 0, .string ⟨#[]⟩, .int .i64 0] 24) = y13 at *
          clear hy
          generalize y12.heap.size = b8 at *
          refine wpAnyH_ready (rs := [8]) (by as_aux_lemma => kernel_rfl) (by simp) ?_
          refine AllReadyH.cons rfl (fun K hK => ?_) AllReadyH.nil
          have f0 := hb7.f 0; have f1 := hb7.f 1; have f2 := hb7.f 2; have f3 := hb7.f 3; have f4 := hb7.f 4
          have x0 := hb7.c0; have x1 := hb7.c1; have x2 := hb7.c2; have x3 := hb7.c3; have x4 := hb7.c4
          dsimp only [zeroE] at x0 x1 x2 x3 x4
          go_simp
          clear f0 f1 f2 f3 f4 x0 x1 x2 x3 x4
          obtain ⟨i0, i1, i2, iA⟩ := HNb7.out
          refine hK.out _ _ ?_ (fun hS => ?_)
          · exact ⟨hS.1.stOther i0 (⟨kp, tp, op, vp, up⟩ : Ent), hS.2.1.stOther i1 (⟨kp, tp, op, vp, up⟩ : Ent), hS.2.2.stOther i2 (⟨kp, tp, op, vp, up⟩ : Ent)⟩
          clear hK K
          replace hb8 := hb8.stOther (fun e => HNb8.out.2.2.2.2 e.symm) (⟨kp, tp, op, vp, up⟩ : Ent)
          replace hb7 := hb7.store (⟨kp, tp, op, vp, up⟩ : Ent)
          replace HQ := Lib.hid (stE_below HQ.out iA (⟨kp, tp, op, vp, up⟩ : Ent))
          clear iA i0 i1 i2
          dsimp only [stE] at *
          generalize hy : (((((World.setCell y13 ⟨b7, 0, none⟩ (.string kp)).setCell ⟨b7, 1, none⟩ (.int .i64 tp)).setCell ⟨b7, 2, none⟩ (.int .u16 op)).setCell ⟨b7, 3, none⟩ (.string vp)).setCell ⟨b7, 4, none⟩ (.int .i64 up)) = y14 at *
          clear hy
          refine wpAnyH_ready (rs := [9]) (by as_aux_lemma => kernel_rfl) (by simp) ?_
          refine AllReadyH.cons rfl (fun K hK => ?_) AllReadyH.nil
          have f0 := hb8.f 0; have f1 := hb8.f 1; have f2 := hb8.f 2; have f3 := hb8.f 3; have f4 := hb8.f 4
          have x0 := hb8.c0; have x1 := hb8.c1; have x2 := hb8.c2; have x3 := hb8.c3; have x4 := hb8.c4
          dsimp only [zeroE] at x0 x1 x2 x3 x4
          go_simp
          clear f0 f1 f2 f3 f4 x0 x1 x2 x3 x4
          obtain ⟨i0, i1, i2, iA, j0⟩ := HNb8.out
          refine hK.out _ _ ?_ (fun hS => ?_)
          · exact ⟨hS.1.stOther i0 (⟨kp, tp, op, vp, up⟩ : Ent), hS.2.1.stOther i1 (⟨kp, tp, op, vp, up⟩ : Ent), hS.2.2.stOther i2 (⟨kp, tp, op, vp, up⟩ : Ent)⟩
          clear hK K
          replace hb7 := hb7.stOther j0 (⟨kp, tp, op, vp, up⟩ : Ent)
          replace hb8 := hb8.store (⟨kp, tp, op, vp, up⟩ : Ent)
          replace HQ := Lib.hid (stE_below HQ.out iA (⟨kp, tp, op, vp, up⟩ : Ent))
          clear iA i0 i1 i2 j0
          dsimp only [stE] at *
          generalize hy : (((((World.setCell y14 ⟨b8, 0, none⟩ (.string kp)).setCell ⟨b8, 1, none⟩ (.int .i64 tp)).setCell ⟨b8, 2, none⟩ (.int .u16 op)).setCell ⟨b8, 3, none⟩ (.string vp)).setCell ⟨b8, 4, none⟩ (.int .i64 up)) = y15 at *
          clear hy
          refine wpAnyH_done (by kernel_rfl) ?_ _
          exact ⟨rfl, b7, b8, rfl, hS.1, hS.2.1, hS.2.2, hb7, hb8, HQ.out⟩
        · skip
          have d := (Below.refl y11.heap.size y11).alloc (Nat.le_refl _) (.cells #[.string ⟨#[]⟩, .int .i64 0, .int .u16 0, .string ⟨#[]⟩, .int .i64 0] 24)
          have hb8 : EBlk (y11.alloc (.cells #[.string ⟨#[]⟩, .int .i64 0, .int .u16 0, .string ⟨#[]⟩, .int .i64 0] 24)) y11.heap.size zeroE := EBlk.new y11 zeroE
          have l0 := hS.1.lt; have l1 := hS.2.1.lt; have l2 := hS.2.2.lt
          have m0 := hb7.lt
          go_simp
          refine hK.out _ _ ?_ (fun hS => ?_)
          · exact ⟨hS.1.on d, hS.2.1.on d, hS.2.2.on d⟩
          clear hK K
          replace hb7 := hb7.on d
          have HNb8 : Hid (A ≠ y11.heap.size ∧ A + 1 ≠ y11.heap.size ∧ A + 1 + 1 ≠ y11.heap.size ∧ A ≤ y11.heap.size ∧ b7 ≠ y11.heap.size) := Lib.hid (by omega)
          replace HQ := Lib.hid (HQ.out.trans (d.mono (HAs.out ▸ HQ.out.size)))
          clear d l0 l1 l2 m0
          generalize hy : y11.alloc (.cells #[.string ⟨#[]⟩, .int .i64 0, .int .u16 0, .string ⟨#[]⟩, .int .i64 0] 24) = y16 at *
          clear hy
          generalize y11.heap.size = b8 at *
          refine wpAnyH_ready (rs := [5]) (by as_aux_lemma => kernel_rfl) (by simp) ?_
          refine AllReadyH.cons rfl (fun K hK => ?_) AllReadyH.nil
          go_simp
          go_wp2_with (go_at_call 9; refine (HYX.out _).mono ?_; rintro e y17 ⟨rfl, q⟩)
          refine hK.out _ _ ?_ (fun hS => ?_)
          · exact ⟨hS.1.on q, hS.2.1.on q, hS.2.2.on q⟩
          clear hK K
          replace hb7 := hb7.on q
          replace hb8 := hb8.on q
          replace HQ := Lib.hid (HQ.out.trans (q.mono (HAs.out ▸ HQ.out.size)))
          clear q
          refine wpAnyH_ready (rs := [8]) (by as_aux_lemma => kernel_rfl) (by simp) ?_
          refine AllReadyH.cons rfl (fun K hK => ?_) AllReadyH.nil
          have f0 := hb7.f 0; have f1 := hb7.f 1; have f2 := hb7.f 2; have f3 := hb7.f 3; have f4 := hb7.f 4
          have x0 := hb7.c0; have x1 := hb7.c1; have x2 := hb7.c2; have x3 := hb7.c3; have x4 := hb7.c4
          dsimp only [zeroE] at x0 x1 x2 x3 x4
          go_simp
          clear f0 f1 f2 f3 f4 x0 x1 x2 x3 x4
          obtain ⟨i0, i1, i2, iA⟩ := HNb7.out
          refine hK.out _ _ ?_ (fun hS => ?_)
          · exact ⟨hS.1.stOther i0 (⟨kp, tp, op, vp, up⟩ : Ent), hS.2.1.stOther i1 (⟨kp, tp, op, vp, up⟩ : Ent), hS.2.2.stOther i2 (⟨kp, tp, op, vp, up⟩ : Ent)⟩
          clear hK K
          replace hb8 := hb8.stOther (fun e => HNb8.out.2.2.2.2 e.symm) (⟨kp, tp, op, vp, up⟩ : Ent)
          replace hb7 := hb7.store (⟨kp, tp, op, vp, up⟩ : Ent)
          replace HQ := Lib.hid (stE_below HQ.out iA (⟨kp, tp, op, vp, up⟩ : Ent))
          clear iA i0 i1 i2
          dsimp only [stE] at *
          generalize hy : (((((World.setCell y17 ⟨b7, 0, none⟩ (.string kp)).setCell ⟨b7, 1, none⟩ (.int .i64 tp)).setCell ⟨b7, 2, none⟩ (.int .u16 op)).setCell ⟨b7, 3, none⟩ (.string vp)).setCell ⟨b7, 4, none⟩ (.int .i64 up)) = y18 at *
          clear hy
          refine wpAnyH_ready (rs := [9]) (by as_aux_lemma => kernel_rfl) (by simp) ?_
          refine AllReadyH.cons rfl (fun K hK => ?_) AllReadyH.nil
          have f0 := hb8.f 0; have f1 := hb8.f 1; have f2 := hb8.f 2; have f3 := hb8.f 3; have f4 := hb8.f 4
          have x0 := hb8.c0; have x1 := hb8.c1; have x2 := hb8.c2; have x3 := hb8.c3; have x4 := hb8.c4
          dsimp only [zeroE] at x0 x1 x2 x3 x4
          go_simp
          clear f0 f1 f2 f3 f4 x0 x1 x2 x3 x4
          obtain ⟨i0, i1, i2, iA, j0⟩ := HNb8.out
          refine hK.out _ _ ?_ (fun hS => ?_)
          · exact ⟨hS.1.stOther i0 (⟨kp, tp, op, vp, up⟩ : Ent), hS.2.1.stOther i1 (⟨kp, tp, op, vp, up⟩ : Ent), hS.2.2.stOther i2 (⟨kp, tp, op, vp, up⟩ : Ent)⟩
          clear hK K
          replace hb7 := hb7.stOther j0 (⟨kp, tp, op, vp, up⟩ : Ent)
          replace hb8 := hb8.store (⟨kp, tp, op, vp, up⟩ : Ent)
          replace HQ := Lib.hid (stE_below HQ.out iA (⟨kp, tp, op, vp, up⟩ : Ent))
          clear iA i0 i1 i2 j0
          dsimp only [stE] at *
          generalize hy : (((((World.setCell y18 ⟨b8, 0, none⟩ (.string kp)).setCell ⟨b8, 1, none⟩ (.int .i64 tp)).setCell ⟨b8, 2, none⟩ (.int .u16 op)).setCell ⟨b8, 3, none⟩ (.string vp)).setCell ⟨b8, 4, none⟩ (.int .i64 up)) = y19 at *
          clear hy
          refine wpAnyH_done (by kernel_rfl) ?_ _
          exact ⟨rfl, b7, b8, rfl, hS.1, hS.2.1, hS.2.2, hb7, hb8, HQ.out⟩
      · skip
        have d := (Below.refl y1.heap.size y1).alloc (Nat.le_refl _) (.cells #[.string ⟨#[]⟩, .int .i64 0, .int .u16 0, .string ⟨#[]⟩, .int .i64 0] 24)
        have hb8 : EBlk (y1.alloc (.cells #[.string ⟨#[]⟩, .int .i64 0, .int .u16 0, .string ⟨#[]⟩, .int .i64 0] 24)) y1.heap.size zeroE := EBlk.new y1 zeroE
        have l0 := hS.1.lt; have l1 := hS.2.1.lt; have l2 := hS.2.2.lt
        go_simp
        refine hK.out _ _ ?_ (fun hS => ?_)
        · exact ⟨hS.1.on d, hS.2.1.on d, hS.2.2.on d⟩
        clear hK K
        have HNb8 : Hid (A ≠ y1.heap.size ∧ A + 1 ≠ y1.heap.size ∧ A + 1 + 1 ≠ y1.heap.size ∧ A ≤ y1.heap.size) := Lib.hid (by omega)
        replace HQ := Lib.hid (HQ.out.trans (d.mono (HAs.out ▸ HQ.out.size)))
        clear d l0 l1 l2
        generalize hy : y1.alloc (.cells #[.string ⟨#[]⟩, .int .i64 0, .int .u16 0, .string ⟨#[]⟩, .int .i64 0] 24) = y20 at *
        clear hy
        generalize y1.heap.size = b8 at *
        refine wpAnyH_ready (rs := [5, 6]) (by as_aux_lemma => kernel_rfl) (by simp) ?_
        refine AllReadyH.cons rfl (fun K hK => ?_) (AllReadyH.cons rfl (fun K hK => ?_) AllReadyH.nil)
        · skip
          go_simp
          go_wp2_with (go_at_call 9; refine (HYX.out _).mono ?_; rintro e y21 ⟨rfl, q⟩)
          refine hK.out _ _ ?_ (fun hS => ?_)
          · exact ⟨hS.1.on q, hS.2.1.on q, hS.2.2.on q⟩
          clear hK K
          replace hb8 := hb8.on q
          replace HQ := Lib.hid (HQ.out.trans (q.mono (HAs.out ▸ HQ.out.size)))
          clear q
          refine wpAnyH_ready (rs := [6]) (by as_aux_lemma => kernel_rfl) (by simp) ?_
          refine AllReadyH.cons rfl (fun K hK => ?_) AllReadyH.nil
          have d := (Below.refl y21.heap.size y21).alloc (Nat.le_refl _) (.cells #[.string ⟨#[]⟩, .int .i64 0, .int .u16 0, .string ⟨#[]⟩, .int .i64 0] 24)
          have hb7 : EBlk (y21.alloc (.cells #[.string ⟨#[]⟩, .int .i64 0, .int .u16 0, .string ⟨#[]⟩, .int .i64 0] 24)) y21.heap.size zeroE := EBlk.new y21 zeroE
          have l0 := hS.1.lt; have l1 := hS.2.1.lt; have l2 := hS.2.2.lt
          have m0 := hb8.lt
          go_simp
          refine hK.out _ _ ?_ (fun hS => ?_)
          · exact ⟨hS.1.on d, hS.2.1.on d, hS.2.2.on d⟩
          clear hK K
          replace hb8 := hb8.on d
          have HNb7 : Hid (A ≠ y21.heap.size ∧ A + 1 ≠ y21.heap.size ∧ A + 1 + 1 ≠ y21.heap.size ∧ A ≤ y21.heap.size ∧ b8 ≠ y21.heap.size) := Lib.hid (by omega)
          replace HQ := Lib.hid (HQ.out.trans (d.mono (HAs.out ▸ HQ.out.size)))
          clear d l0 l1 l2 m0
          generalize hy : y21.alloc (.cells #[.string ⟨#[]⟩, .int .i64 0, .int .u16 0, .string ⟨#[]⟩, .int .i64 0] 24) = y22 at *
          clear hy
          generalize y21.heap.size = b7 at *
          refine wpAnyH_ready (rs := [8]) (by as_aux_lemma => kernel_rfl) (by simp) ?_
          refine AllReadyH.cons rfl (fun K hK => ?_) AllReadyH.nil
          have f0 := hb7.f 0; have f1 := hb7.f 1; have f2 := hb7.f 2; have f3 := hb7.f 3; have f4 := hb7.f 4
          have x0 := hb7.c0; have x1 := hb7.c1; have x2 := hb7.c2; have x3 := hb7.c3; have x4 := hb7.c4
          dsimp only [zeroE] at x0 x1 x2 x3 x4
          go_simp
          clear f0 f1 f2 f3 f4 x0 x1 x2 x3 x4
          obtain ⟨i0, i1, i2, iA, j0⟩ := HNb7.out
          refine hK.out _ _ ?_ (fun hS => ?_)
          · exact ⟨hS.1.stOther i0 (⟨kp, tp, op, vp, up⟩ : Ent), hS.2.1.stOther i1 (⟨kp, tp, op, vp, up⟩ : Ent), hS.2.2.stOther i2 (⟨kp, tp, op, vp, up⟩ : Ent)⟩
          clear hK K
          replace hb8 := hb8.stOther j0 (⟨kp, tp, op, vp, up⟩ : Ent)
          replace hb7 := hb7.store (⟨kp, tp, op, vp, up⟩ : Ent)
          replace HQ := Lib.hid (stE_below HQ.out iA (⟨kp, tp, op, vp, up⟩ : Ent))
          clear iA i0 i1 i2 j0
          dsimp only [stE] at *
          generalize hy : (((((World.setCell y22 ⟨b7, 0, none⟩ (.string kp)).setCell ⟨b7, 1, none⟩ (.int .i64 tp)).setCell ⟨b7, 2, none⟩ (.int .u16 op)).setCell ⟨b7, 3, none⟩ (.string vp)).setCell ⟨b7, 4, none⟩ (.int .i64 up)) = y23 at *
          clear hy
          refine wpAnyH_ready (rs := [9]) (by as_aux_lemma => kernel_rfl) (by simp) ?_
          refine AllReadyH.cons rfl (fun K hK => ?_) AllReadyH.nil
          have f0 := hb8.f 0; have f1 := hb8.f 1; have f2 := hb8.f 2; have f3 := hb8.f 3; have f4 := hb8.f 4
          have x0 := hb8.c0; have x1 := hb8.c1; have x2 := hb8.c2; have x3 := hb8.c3; have x4 := hb8.c4
          dsimp only [zeroE] at x0 x1 x2 x3 x4
          go_simp
          clear f0 f1 f2 f3 f4 x0 x1 x2 x3 x4
          obtain ⟨i0, i1, i2, iA⟩ := HNb8.out
          refine hK.out _ _ ?_ (fun hS => ?_)
          · exact ⟨hS.1.stOther i0 (⟨kp, tp, op, vp, up⟩ : Ent), hS.2.1.stOther i1 (⟨kp, tp, op, vp, up⟩ : Ent), hS.2.2.stOther i2 (⟨kp, tp, op, vp, up⟩ : Ent)⟩
          clear hK K
          replace hb7 := hb7.stOther (fun e => HNb7.out.2.2.2.2 e.symm) (⟨kp, tp, op, vp, up⟩ : Ent)
          replace hb8 := hb8.store (⟨kp, tp, op, vp, up⟩ : Ent)
          replace HQ := Lib.hid (stE_below HQ.out iA (⟨kp, tp, op, vp, up⟩ : Ent))
          clear iA i0 i1 i2
          dsimp only [stE] at *
          generalize hy : (((((World.setCell y23 ⟨b8, 0, none⟩ (.string kp)).setCell ⟨b8, 1, none⟩ (.int .i64 tp)).setCell ⟨b8, 2, none⟩ (.int .u16 op)).setCell ⟨b8, 3, none⟩ (.string vp)).setCell ⟨b8, 4, none⟩ (.int .i64 up)) = y24 at *
          clear hy
          refine wpAnyH_done (by kernel_rfl) ?_ _
          exact ⟨rfl, b7, b8, rfl, hS.1, hS.2.1, hS.2.2, hb7, hb8, HQ.out⟩
        · skip
          have d := (Below.refl y20.heap.size y20).alloc (Nat.le_refl _) (.cells #[.string ⟨#[]⟩, .int .i64 0, .int .u16 0, .string ⟨#[]⟩, .int .i64 0] 24)
          have hb7 : EBlk (y20.alloc (.cells #[.string ⟨#[]⟩, .int .i64 0, .int .u16 0, .string ⟨#[]⟩, .int .i64 0] 24)) y20.heap.size zeroE := EBlk.new y20 zeroE
          have l0 := hS.1.lt; have l1 := hS.2.1.lt; have l2 := hS.2.2.lt
          have m0 := hb8.lt
          go_simp
          refine hK.out _ _ ?_ (fun hS => ?_)
          · exact ⟨hS.1.on d, hS.2.1.on d, hS.2.2.on d⟩
          clear hK K
          replace hb8 := hb8.on d
          have HNb7 : Hid (A ≠ y20.heap.size ∧ A + 1 ≠ y20.heap.size ∧ A + 1 + 1 ≠ y20.heap.size ∧ A ≤ y20.heap.size ∧ b8 ≠ y20.heap.size) := Lib.hid (by omega)
          replace HQ := Lib.hid (HQ.out.trans (d.mono (HAs.out ▸ HQ.out.size)))
          clear d l0 l1 l2 m0
          generalize hy : y20.alloc (.cells #[.string ⟨#[]⟩, .int .i64 0, .int .u16 0, .string ⟨#[]⟩, .int .i64 0] 24) = y25 at *
          clear hy
          generalize y20.heap.size = b7 at *
          refine wpAnyH_ready (rs := [5]) (by as_aux_lemma => kernel_rfl) (by simp) ?_
          refine AllReadyH.cons rfl (fun K hK => ?_) AllReadyH.nil
          go_simp
          go_wp2_with (go_at_call 9; refine (HYX.out _).mono ?_; rintro e y26 ⟨rfl, q⟩)
          refine hK.out _ _ ?_ (fun hS => ?_)
          · exact ⟨hS.1.on q, hS.2.1.on q, hS.2.2.on q⟩
          clear hK K
          replace hb8 := hb8.on q
          replace hb7 := hb7.on q
          replace HQ := Lib.hid (HQ.out.trans (q.mono (HAs.out ▸ HQ.out.size)))
          clear q
          refine wpAnyH_ready (rs := [8]) (by as_aux_lemma => kernel_rfl) (by simp) ?_
          refine AllReadyH.cons rfl (fun K hK => ?_) AllReadyH.nil
          have f0 := hb7.f 0; have f1 := hb7.f 1; have f2 := hb7.f 2; have f3 := hb7.f 3; have f4 := hb7.f 4
          have x0 := hb7.c0; have x1 := hb7.c1; have x2 := hb7.c2; have x3 := hb7.c3; have x4 := hb7.c4
          dsimp only [zeroE] at x0 x1 x2 x3 x4
          go_simp
          clear f0 f1 f2 f3 f4 x0 x1 x2 x3 x4
          obtain ⟨i0, i1, i2, iA, j0⟩ := HNb7.out
          refine hK.out _ _ ?_ (fun hS => ?_)
          · exact ⟨hS.1.stOther i0 (⟨kp, tp, op, vp, up⟩ : Ent), hS.2.1.stOther i1 (⟨kp, tp, op, vp, up⟩ : Ent), hS.2.2.stOther i2 (⟨kp, tp, op, vp, up⟩ : Ent)⟩
          clear hK K
          replace hb8 := hb8.stOther j0 (⟨kp, tp, op, vp, up⟩ : Ent)
          replace hb7 := hb7.store (⟨kp, tp, op, vp, up⟩ : Ent)
          replace HQ := Lib.hid (stE_below HQ.out iA (⟨kp, tp, op, vp, up⟩ : Ent))
          clear iA i0 i1 i2 j0
          dsimp only [stE] at *
          generalize hy : (((((World.setCell y26 ⟨b7, 0, none⟩ (.string kp)).setCell ⟨b7, 1, none⟩ (.int .i64 tp)).setCell ⟨b7, 2, none⟩ (.int .u16 op)).setCell ⟨b7, 3, none⟩ (.string vp)).setCell ⟨b7, 4, none⟩ (.int .i64 up)) = y27 at *
          clear hy
          refine wpAnyH_ready (rs := [9]) (by as_aux_lemma => kernel_rfl) (by simp) ?_
          refine AllReadyH.cons rfl (fun K hK => ?_) AllReadyH.nil
          have f0 := hb8.f 0; have f1 := hb8.f 1; have f2 := hb8.f 2; have f3 := hb8.f 3; have f4 := hb8.f 4
          have x0 := hb8.c0; have x1 := hb8.c1; have x2 := hb8.c2; have x3 := hb8.c3; have x4 := hb8.c4
          dsimp only [zeroE] at x0 x1 x2 x3 x4
          go_simp
          clear f0 f1 f2 f3 f4 x0 x1 x2 x3 x4
          obtain ⟨i0, i1, i2, iA⟩ := HNb8.out
          refine hK.out _ _ ?_ (fun hS => ?_)
          · exact ⟨hS.1.stOther i0 (⟨kp, tp, op, vp, up⟩ : Ent), hS.2.1.stOther i1 (⟨kp, tp, op, vp, up⟩ : Ent), hS.2.2.stOther i2 (⟨kp, tp, op, vp, up⟩ : Ent)⟩
          clear hK K
          replace hb7 := hb7.stOther (fun e => HNb7.out.2.2.2.2 e.symm) (⟨kp, tp, op, vp, up⟩ : Ent)
          replace hb8 := hb8.store (⟨kp, tp, op, vp, up⟩ : Ent)
          replace HQ := Lib.hid (stE_below HQ.out iA (⟨kp, tp, op, vp, up⟩ : Ent))
          clear iA i0 i1 i2
          dsimp only [stE] at *
          generalize hy : (((((World.setCell y27 ⟨b8, 0, none⟩ (.string kp)).setCell ⟨b8, 1, none⟩ (.int .i64 tp)).setCell ⟨b8, 2, none⟩ (.int .u16 op)).setCell ⟨b8, 3, none⟩ (.string vp)).setCell ⟨b8, 4, none⟩ (.int .i64 up)) = y28 at *
          clear hy
          refine wpAnyH_done (by kernel_rfl) ?_ _
          exact ⟨rfl, b7, b8, rfl, hS.1, hS.2.1, hS.2.2, hb7, hb8, HQ.out⟩
    · skip
      have d := (Below.refl y0.heap.size y0).alloc (Nat.le_refl _) (.cells #[.string ⟨#[]⟩, .int .i64 0, .int .u16 0, .string ⟨#[]⟩, .int .i64 0] 24)
      have hb7 : EBlk (y0.alloc (.cells #[.string ⟨#[]⟩, .int .i64 0, .int .u16 0, .string ⟨#[]⟩, .int .i64 0] 24)) y0.heap.size zeroE := EBlk.new y0 zeroE
      have l0 := hS.1.lt; have l1 := hS.2.1.lt; have l2 := hS.2.2.lt
      go_simp
      refine hK.out _ _ ?_ (fun hS => ?_)
      · exact ⟨hS.1.on d, hS.2.1.on d, hS.2.2.on d⟩
      clear hK K
      have HNb7 : Hid (A ≠ y0.heap.size ∧ A + 1 ≠ y0.heap.size ∧ A + 1 + 1 ≠ y0.heap.size ∧ A ≤ y0.heap.size) := Lib.hid (by omega)
      replace HQ := Lib.hid (HQ.out.trans (d.mono (HAs.out ▸ HQ.out.size)))
      clear d l0 l1 l2
      generalize hy : y0.alloc (.cells #[.string ⟨#[]⟩, .int .i64 0, .int .u16 0, .string ⟨#[]⟩, .int .i64 0] 24) = y29 at *
      clear hy
      generalize y0.heap.size = b7 at *
      refine wpAnyH_ready (rs := [2, 7]) (by as_aux_lemma => kernel_rfl) (by simp) ?_
      refine AllReadyH.cons rfl (fun K hK => ?_) (AllReadyH.cons rfl (fun K hK => ?_) AllReadyH.nil)
      · skip
        go_simp
        go_wp2_with (go_at_call 9; refine (HXY.out _).mono ?_; rintro e y30 ⟨rfl, q⟩)
        refine hK.out _ _ ?_ (fun hS => ?_)
        · exact ⟨hS.1.on q, hS.2.1.on q, hS.2.2.on q⟩
        clear hK K
        replace hb7 := hb7.on q
        replace HQ := Lib.hid (HQ.out.trans (q.mono (HAs.out ▸ HQ.out.size)))
        clear q
        refine wpAnyH_ready (rs := [5, 7]) (by as_aux_lemma => kernel_rfl) (by simp) ?_
        refine AllReadyH.cons rfl (fun K hK => ?_) (AllReadyH.cons rfl (fun K hK => ?_) AllReadyH.nil)
        · skip
          go_simp
          go_wp2_with (go_at_call 9; refine (HYX.out _).mono ?_; rintro e y31 ⟨rfl, q⟩)
          refine hK.out _ _ ?_ (fun hS => ?_)
          · exact ⟨hS.1.on q, hS.2.1.on q, hS.2.2.on q⟩
          clear hK K
          replace hb7 := hb7.on q
          replace HQ := Lib.hid (HQ.out.trans (q.mono (HAs.out ▸ HQ.out.size)))
          clear q
          refine wpAnyH_ready (rs := [7]) (by as_aux_lemma => kernel_rfl) (by simp) ?_
          refine AllReadyH.cons rfl (fun K hK => ?_) AllReadyH.nil
          have d := (Below.refl y31.heap.size y31).alloc (Nat.le_refl _) (.cells #[.string ⟨#[]⟩, .int .i64 0, .int .u16 0, .string ⟨#[]⟩, .int .i64 0] 24)
          have hb8 : EBlk (y31.alloc (.cells #[.string ⟨#[]⟩, .int .i64 0, .int .u16 0, .string ⟨#[]⟩, .int .i64 0] 24)) y31.heap.size zeroE := EBlk.new y31 zeroE
          have l0 := hS.1.lt; have l1 := hS.2.1.lt; have l2 := hS.2.2.lt
          have m0 := hb7.lt
          go_simp
          refine hK.out _ _ ?_ (fun hS => ?_)
          · exact ⟨hS.1.on d, hS.2.1.on d, hS.2.2.on d⟩
          clear hK K
          replace hb7 := hb7.on d
          have HNb8 : Hid (A ≠ y31.heap.size ∧ A + 1 ≠ y31.heap.size ∧ A + 1 + 1 ≠ y31.heap.size ∧ A ≤ y31.heap.size ∧ b7 ≠ y31.heap.size) := Lib.hid (by omega)
          replace HQ := Lib.hid (HQ.out.trans (d.mono (HAs.out ▸ HQ.out.size)))
          clear d l0 l1 l2 m0
          generalize hy : y31.alloc (.cells #[.string ⟨#[]⟩, .int .i64 0, .int .u16 0, .string ⟨#[]⟩, .int .i64 0] 24) = y32 at *
          clear hy
          generalize y31.heap.size = b8 at *
          refine wpAnyH_ready (rs := [8]) (by as_aux_lemma => kernel_rfl) (by simp) ?_
          refine AllReadyH.cons rfl (fun K hK => ?_) AllReadyH.nil
          have f0 := hb7.f 0; have f1 := hb7.f 1; have f2 := hb7.f 2; have f3 := hb7.f 3; have f4 := hb7.f 4
          have x0 := hb7.c0; have x1 := hb7.c1; have x2 := hb7.c2; have x3 := hb7.c3; have x4 := hb7.c4
          dsimp only [zeroE] at x0 x1 x2 x3 x4
          go_simp
          clear f0 f1 f2 f3 f4 x0 x1 x2 x3 x4
          obtain ⟨i0, i1, i2, iA⟩ := HNb7.out
          refine hK.out _ _ ?_ (fun hS => ?_)
          · exact ⟨hS.1.stOther i0 (⟨kp, tp, op, vp, up⟩ : Ent), hS.2.1.stOther i1 (⟨kp, tp, op, vp, up⟩ : Ent), hS.2.2.stOther i2 (⟨kp, tp, op, vp, up⟩ : Ent)⟩
          clear hK K
          replace hb8 := hb8.stOther (fun e => HNb8.out.2.2.2.2 e.symm) (⟨kp, tp, op, vp, up⟩ : Ent)
          replace hb7 := hb7.store (⟨kp, tp, op, vp, up⟩ : Ent)
          replace HQ := Lib.hid (stE_below HQ.out iA (⟨kp, tp, op, vp, up⟩ : Ent))
          clear iA i0 i1 i2
          dsimp only [stE] at *
          generalize hy : (((((World.setCell y32 ⟨b7, 0, none⟩ (.string kp)).setCell ⟨b7, 1, none⟩ (.int .i64 tp)).setCell ⟨b7, 2, none⟩ (.int .u16 op)).setCell ⟨b7, 3, none⟩ (.string vp)).setCell ⟨b7, 4, none⟩ (.int .i64 up)) = y33 at *
          clear hy
          refine wpAnyH_ready (rs := [9]) (by as_aux_lemma => kernel_rfl) (by simp) ?_
          refine AllReadyH.cons rfl (fun K hK => ?_) AllReadyH.nil
          have f0 := hb8.f 0; have f1 := hb8.f 1; have f2 := hb8.f 2; have f3 := hb8.f 3; have f4 := hb8.f 4
          have x0 := hb8.c0; have x1 := hb8.c1; have x2 := hb8.c2; have x3 := hb8.c3; have x4 := hb8.c4
          dsimp only [zeroE] at x0 x1 x2 x3 x4
          go_simp
          clear f0 f1 f2 f3 f4 x0 x1 x2 x3 x4
          obtain ⟨i0, i1, i2, iA, j0⟩ := HNb8.out
          refine hK.out _ _ ?_ (fun hS => ?_)
          · exact ⟨hS.1.stOther i0 (⟨kp, tp, op, vp, up⟩ : Ent), hS.2.1.stOther i1 (⟨kp, tp, op, vp, up⟩ : Ent), hS.2.2.stOther i2 (⟨kp, tp, op, vp, up⟩ : Ent)⟩
          clear hK K
          replace hb7 := hb7.stOther j0 (⟨kp, tp, op, vp, up⟩ : Ent)
          replace hb8 := hb8.store (⟨kp, tp, op, vp, up⟩ : Ent)
          replace HQ := Lib.hid (stE_below HQ.out iA (⟨kp, tp, op, vp, up⟩ : Ent))
          clear iA i0 i1 i2 j0
          dsimp only [stE] at *
          generalize hy : (((((World.setCell y33 ⟨b8, 0, none⟩ (.string kp)).setCell ⟨b8, 1, none⟩ (.int .i64 tp)).setCell ⟨b8, 2, none⟩ (.int .u16 op)).setCell ⟨b8, 3, none⟩ (.string vp)).setCell ⟨b8, 4, none⟩ (.int .i64 up)) = y34 at *
          clear hy
          refine wpAnyH_done (by kernel_rfl) ?_ _
          exact ⟨rfl, b7, b8, rfl, hS.1, hS.2.1, hS.2.2, hb7, hb8, HQ.out⟩
        · skip
          have d := (Below.refl y30.heap.size y30).alloc (Nat.le_refl _) (.cells #[.string ⟨#[]⟩, .int .i64 0, .int .u16 0, .string ⟨#[]⟩, .int .i64 0] 24)
          have hb8 : EBlk (y30.alloc (.cells #[.string ⟨#[]⟩, .int .i64 0, .int .u16 0, .string ⟨#[]⟩, .int .i64 0] 24)) y30.heap.size zeroE := EBlk.new y30 zeroE
          have l0 := hS.1.lt; have l1 := hS.2.1.lt; have l2 := hS.2.2.lt
          have m0 := hb7.lt
          go_simp
          refine hK.out _ _ ?_ (fun hS => ?_)
          · exact ⟨hS.1.on d, hS.2.1.on d, hS.2.2.on d⟩
          clear hK K
          replace hb7 := hb7.on d
          have HNb8 : Hid (A ≠ y30.heap.size ∧ A + 1 ≠ y30.heap.size ∧ A + 1 + 1 ≠ y30.heap.size ∧ A ≤ y30.heap.size ∧ b7 ≠ y30.heap.size) := Lib.hid (by omega)
          replace HQ := Lib.hid (HQ.out.trans (d.mono (HAs.out ▸ HQ.out.size)))
          clear d l0 l1 l2 m0
          generalize hy : y30.alloc (.cells #[.string ⟨#[]⟩, .int .i64 0, .int .u16 0, .string ⟨#[]⟩, .int .i64 0] 24) = y35 at *
          clear hy
          generalize y30.heap.size = b8 at *
          refine wpAnyH_ready (rs := [5]) (by as_aux_lemma => kernel_rfl) (by simp) ?_
          refine AllReadyH.cons rfl (fun K hK => ?_) AllReadyH.nil
          go_simp
          go_wp2_with (go_at_call 9; refine (HYX.out _).mono ?_; rintro e y36 ⟨rfl, q⟩)
          refine hK.out _ _ ?_ (fun hS => ?_)
          · exact ⟨hS.1.on q, hS.2.1.on q, hS.2.2.on q⟩
          clear hK K
          replace hb7 := hb7.on q
          replace hb8 := hb8.on q
          replace HQ := Lib.hid (HQ.out.trans (q.mono (HAs.out ▸ HQ.out.size)))
          clear q
          refine wpAnyH_ready (rs := [8]) (by as_aux_lemma => kernel_rfl) (by simp) ?_
          refine AllReadyH.cons rfl (fun K hK => ?_) AllReadyH.nil
          have f0 := hb7.f 0; have f1 := hb7.f 1; have f2 := hb7.f 2; have f3 := hb7.f 3; have f4 := hb7.f 4
          have x0 := hb7.c0; have x1 := hb7.c1; have x2 := hb7.c2; have x3 := hb7.c3; have x4 := hb7.c4
          dsimp only [zeroE] at x0 x1 x2 x3 x4
          go_simp
          clear f0 f1 f2 f3 f4 x0 x1 x2 x3 x4
          obtain ⟨i0, i1, i2, iA⟩ := HNb7.out
          refine hK.out _ _ ?_ (fun hS => ?_)
          · exact ⟨hS.1.stOther i0 (⟨kp, tp, op, vp, up⟩ : Ent), hS.2.1.stOther i1 (⟨kp, tp, op, vp, up⟩ : Ent), hS.2.2.stOther i2 (⟨kp, tp, op, vp, up⟩ : Ent)⟩
          clear hK K
          replace hb8 := hb8.stOther (fun e => HNb8.out.2.2.2.2 e.symm) (⟨kp, tp, op, vp, up⟩ : Ent)
          replace hb7 := hb7.store (⟨kp, tp, op, vp, up⟩ : Ent)
          replace HQ := Lib.hid (stE_below HQ.out iA (⟨kp, tp, op, vp, up⟩ : Ent))
          clear iA i0 i1 i2
          dsimp only [stE] at *
          generalize hy : (((((World.setCell y36 ⟨b7, 0, none⟩ (.string kp)).setCell ⟨b7, 1, none⟩ (.int .i64 tp)).setCell ⟨b7, 2, none⟩ (.int .u16 op)).setCell ⟨b7, 3, none⟩ (.string vp)).setCell ⟨b7, 4, none⟩ (.int .i64 up)) = y37 at *
          clear hy
          refine wpAnyH_ready (rs := [9]) (by as_aux_lemma => kernel_rfl) (by simp) ?_
          refine AllReadyH.cons rfl (fun K hK => ?_) AllReadyH.nil
          have f0 := hb8.f 0; have f1 := hb8.f 1; have f2 := hb8.f 2; have f3 := hb8.f 3; have f4 := hb8.f 4
          have x0 := hb8.c0; have x1 := hb8.c1; have x2 := hb8.c2; have x3 := hb8.c3; have x4 := hb8.c4
          dsimp only [zeroE] at x0 x1 x2 x3 x4
          go_simp
          clear f0 f1 f2 f3 f4 x0 x1 x2 x3 x4
          obtain ⟨i0, i1, i2, iA, j0⟩ := HNb8.out
          refine hK.out _ _ ?_ (fun hS => ?_)
          · exact ⟨hS.1.stOther i0 (⟨kp, tp, op, vp, up⟩ : Ent), hS.2.1.stOther i1 (⟨kp, tp, op, vp, up⟩ : Ent), hS.2.2.stOther i2 (⟨kp, tp, op, vp, up⟩ : Ent)⟩
          clear hK K
          replace hb7 := hb7.stOther j0 (⟨kp, tp, op, vp, up⟩ : Ent)
          replace hb8 := hb8.store (⟨kp, tp, op, vp, up⟩ : Ent)
          replace HQ := Lib.hid (stE_below HQ.out iA (⟨kp, tp, op, vp, up⟩ : Ent))
          clear iA i0 i1 i2 j0
          dsimp only [stE] at *
          generalize hy : (((((World.setCell y37 ⟨b8, 0, none⟩ (.string kp)).setCell ⟨b8, 1, none⟩ (.int .i64 tp)).setCell ⟨b8, 2, none⟩ (.int .u16 op)).setCell ⟨b8, 3, none⟩ (.string vp)).setCell ⟨b8, 4, none⟩ (.int .i64 up)) = y38 at *
          clear hy
          refine wpAnyH_done (by kernel_rfl) ?_ _
          exact ⟨rfl, b7, b8, rfl, hS.1, hS.2.1, hS.2.2, hb7, hb8, HQ.out⟩
      · skip
        have d := (Below.refl y29.heap.size y29).alloc (Nat.le_refl _) (.cells #[.string ⟨#[]⟩, .int .i64 0, .int .u16 0, .string ⟨#[]⟩, .int .i64 0] 24)
        have hb8 : EBlk (y29.alloc (.cells #[.string ⟨#[]⟩, .int .i64 0, .int .u16 0, .string ⟨#[]⟩, .int .i64 0] 24)) y29.heap.size zeroE := EBlk.new y29 zeroE
        have l0 := hS.1.lt; have l1 := hS.2.1.lt; have l2 := hS.2.2.lt
        have m0 := hb7.lt
        go_simp
        refine hK.out _ _ ?_ (fun hS => ?_)
        · exact ⟨hS.1.on d, hS.2.1.on d, hS.2.2.on d⟩
        clear hK K
        replace hb7 := hb7.on d
        have HNb8 : Hid (A ≠ y29.heap.size ∧ A + 1 ≠ y29.heap.size ∧ A + 1 + 1 ≠ y29.heap.size ∧ A ≤ y29.heap.size ∧ b7 ≠ y29.heap.size) := Lib.hid (by omega)
        replace HQ := Lib.hid (HQ.out.trans (d.mono (HAs.out ▸ HQ.out.size)))
        clear d l0 l1 l2 m0
        generalize hy : y29.alloc (.cells #[.string ⟨#[]⟩, .int .i64 0, .int .u16 0, .string ⟨#[]⟩, .int .i64 0] 24) = y39 at *
        clear hy
        generalize y29.heap.size = b8 at *
        refine wpAnyH_ready (rs := [2]) (by as_aux_lemma => kernel_rfl) (by simp) ?_
        refine AllReadyH.cons rfl (fun K hK => ?_) AllReadyH.nil
        go_simp
        go_wp2_with (go_at_call 9; refine (HXY.out _).mono ?_; rintro e y40 ⟨rfl, q⟩)
        refine hK.out _ _ ?_ (fun hS => ?_)
        · exact ⟨hS.1.on q, hS.2.1.on q, hS.2.2.on q⟩
        clear hK K
        replace hb7 := hb7.on q
        replace hb8 := hb8.on q
        replace HQ := Lib.hid (HQ.out.trans (q.mono (HAs.out ▸ HQ.out.size)))
        clear q
        refine wpAnyH_ready (rs := [5]) (by as_aux_lemma => kernel_rfl) (by simp) ?_
        refine AllReadyH.cons rfl (fun K hK => ?_) AllReadyH.nil
        go_simp
        go_wp2_with (go_at_call 9; refine (HYX.out _).mono ?_; rintro e y41 ⟨rfl, q⟩)
        refine hK.out _ _ ?_ (fun hS => ?_)
        · exact ⟨hS.1.on q, hS.2.1.on q, hS.2.2.on q⟩
        clear hK K
        replace hb7 := hb7.on q
        replace hb8 := hb8.on q
        replace HQ := Lib.hid (HQ.out.trans (q.mono (HAs.out ▸ HQ.out.size)))
        clear q
        refine wpAnyH_ready (rs := [8]) (by as_aux_lemma => kernel_rfl) (by simp) ?_
        refine AllReadyH.cons rfl (fun K hK => ?_) AllReadyH.nil
        have f0 := hb7.f 0; have f1 := hb7.f 1; have f2 := hb7.f 2; have f3 := hb7.f 3; have f4 := hb7.f 4
        have x0 := hb7.c0; have x1 := hb7.c1; have x2 := hb7.c2; have x3 := hb7.c3; have x4 := hb7.c4
        dsimp only [zeroE] at x0 x1 x2 x3 x4
        go_simp
        clear f0 f1 f2 f3 f4 x0 x1 x2 x3 x4
        obtain ⟨i0, i1, i2, iA⟩ := HNb7.out
        refine hK.out _ _ ?_ (fun hS => ?_)
        · exact ⟨hS.1.stOther i0 (⟨kp, tp, op, vp, up⟩ : Ent), hS.2.1.stOther i1 (⟨kp, tp, op, vp, up⟩ : Ent), hS.2.2.stOther i2 (⟨kp, tp, op, vp, up⟩ : Ent)⟩
        clear hK K
        replace hb8 := hb8.stOther (fun e => HNb8.out.2.2.2.2 e.symm) (⟨kp, tp, op, vp, up⟩ : Ent)
        replace hb7 := hb7.store (⟨kp, tp, op, vp, up⟩ : Ent)
        replace HQ := Lib.hid (stE_below HQ.out iA (⟨kp, tp, op, vp, up⟩ : Ent))
        clear iA i0 i1 i2
        dsimp only [stE] at *
        generalize hy : (((((World.setCell y41 ⟨b7, 0, none⟩ (.string kp)).setCell ⟨b7, 1, none⟩ (.int .i64 tp)).setCell ⟨b7, 2, none⟩ (.int .u16 op)).setCell ⟨b7, 3, none⟩ (.string vp)).setCell ⟨b7, 4, none⟩ (.int .i64 up)) = y42 at *
        clear hy
        refine wpAnyH_ready (rs := [9]) (by as_aux_lemma => kernel_rfl) (by simp) ?_
        refine AllReadyH.cons rfl (fun K hK => ?_) AllReadyH.nil
        have f0 := hb8.f 0; have f1 := hb8.f 1; have f2 := hb8.f 2; have f3 := hb8.f 3; have f4 := hb8.f 4
        have x0 := hb8.c0; have x1 := hb8.c1; have x2 := hb8.c2; have x3 := hb8.c3; have x4 := hb8.c4
        dsimp only [zeroE] at x0 x1 x2 x3 x4
        go_simp
        clear f0 f1 f2 f3 f4 x0 x1 x2 x3 x4
        obtain ⟨i0, i1, i2, iA, j0⟩ := HNb8.out
        refine hK.out _ _ ?_ (fun hS => ?_)
        · exact ⟨hS.1.stOther i0 (⟨kp, tp, op, vp, up⟩ : Ent), hS.2.1.stOther i1 (⟨kp, tp, op, vp, up⟩ : Ent), hS.2.2.stOther i2 (⟨kp, tp, op, vp, up⟩ : Ent)⟩
        clear hK K
        replace hb7 := hb7.stOther j0 (⟨kp, tp, op, vp, up⟩ : Ent)
        replace hb8 := hb8.store (⟨kp, tp, op, vp, up⟩ : Ent)
        replace HQ := Lib.hid (stE_below HQ.out iA (⟨kp, tp, op, vp, up⟩ : Ent))
        clear iA i0 i1 i2 j0
        dsimp only [stE] at *
        generalize hy : (((((World.setCell y42 ⟨b8, 0, none⟩ (.string kp)).setCell ⟨b8, 1, none⟩ (.int .i64 tp)).setCell ⟨b8, 2, none⟩ (.int .u16 op)).setCell ⟨b8, 3, none⟩ (.string vp)).setCell ⟨b8, 4, none⟩ (.int .i64 up)) = y43 at *
        clear hy
        refine wpAnyH_done (by kernel_rfl) ?_ _
        exact ⟨rfl, b7, b8, rfl, hS.1, hS.2.1, hS.2.2, hb7, hb8, HQ.out⟩
    · skip
      have d := (Below.refl y0.heap.size y0).alloc (Nat.le_refl _) (.cells #[.string ⟨#[]⟩, .int .i64 0, .int .u16 0, .string ⟨#[]⟩, .int .i64 0] 24)
      have hb8 : EBlk (y0.alloc (.cells #[.string ⟨#[]⟩, .int .i64 0, .int .u16 0, .string ⟨#[]⟩, .int .i64 0] 24)) y0.heap.size zeroE := EBlk.new y0 zeroE
      have l0 := hS.1.lt; have l1 := hS.2.1.lt; have l2 := hS.2.2.lt
      go_simp
      refine hK.out _ _ ?_ (fun hS => ?_)
      · exact ⟨hS.1.on d, hS.2.1.on d, hS.2.2.on d⟩
      clear hK K
      have HNb8 : Hid (A ≠ y0.heap.size ∧ A + 1 ≠ y0.heap.size ∧ A + 1 + 1 ≠ y0.heap.size ∧ A ≤ y0.heap.size) := Lib.hid (by omega)
      replace HQ := Lib.hid (HQ.out.trans (d.mono (HAs.out ▸ HQ.out.size)))
      clear d l0 l1 l2
      generalize hy : y0.alloc (.cells #[.string ⟨#[]⟩, .int .i64 0, .int .u16 0, .string ⟨#[]⟩, .int .i64 0] 24) = y44 at *
      clear hy
      generalize y0.heap.size = b8 at *
      refine wpAnyH_ready (rs := [2, 6]) (by as_aux_lemma => kernel_rfl) (by simp) ?_
      refine AllReadyH.cons rfl (fun K hK => ?_) (AllReadyH.cons rfl (fun K hK => ?_) AllReadyH.nil)
      · skip
        go_simp
        go_wp2_with (go_at_call 9; refine (HXY.out _).mono ?_; rintro e y45 ⟨rfl, q⟩)
        refine hK.out _ _ ?_ (fun hS => ?_)
        · exact ⟨hS.1.on q, hS.2.1.on q, hS.2.2.on q⟩
        clear hK K
        replace hb8 := hb8.on q
        replace HQ := Lib.hid (HQ.out.trans (q.mono (HAs.out ▸ HQ.out.size)))
        clear q
        refine wpAnyH_ready (rs := [5, 6]) (by as_aux_lemma => kernel_rfl) (by simp) ?_
        refine AllReadyH.cons rfl (fun K hK => ?_) (AllReadyH.cons rfl (fun K hK => ?_) AllReadyH.nil)
        · skip
          go_simp
          go_wp2_with (go_at_call 9; refine (HYX.out _).mono ?_; rintro e y46 ⟨rfl, q⟩)
          refine hK.out _ _ ?_ (fun hS => ?_)
          · exact ⟨hS.1.on q, hS.2.1.on q, hS.2.2.on q⟩
          clear hK K
          replace hb8 := hb8.on q
          replace HQ := Lib.hid (HQ.out.trans (q.mono (HAs.out ▸ HQ.out.size)))
          clear q
          refine wpAnyH_ready (rs := [6]) (by as_aux_lemma => kernel_rfl) (by simp) ?_
          refine AllReadyH.cons rfl (fun K hK => ?_) AllReadyH.nil
          have d := (Below.refl y46.heap.size y46).alloc (Nat.le_refl _) (.cells #[.string ⟨#[]⟩, .int .i64 0, .int .u16 0, .string ⟨#[]⟩, .int .i64 0] 24)
          have hb7 : EBlk (y46.alloc (.cells #[.string ⟨#[]⟩, .int .i64 0, .int .u16 0, .string ⟨#[]⟩, .int .i64 0] 24)) y46.heap.size zeroE := EBlk.new y46 zeroE
          have l0 := hS.1.lt; have l1 := hS.2.1.lt; have l2 := hS.2.2.lt
          have m0 := hb8.lt
          go_simp
          refine hK.out _ _ ?_ (fun hS => ?_)
          · exact ⟨hS.1.on d, hS.2.1.on d, hS.2.2.on d⟩
          clear hK K
          replace hb8 := hb8.on d
          have HNb7 : Hid (A ≠ y46.heap.size ∧ A + 1 ≠ y46.heap.size ∧ A + 1 + 1 ≠ y46.heap.size ∧ A ≤ y46.heap.size ∧ b8 ≠ y46.heap.size) := Lib.hid (by omega)
          replace HQ := Lib.hid (HQ.out.trans (d.mono (HAs.out ▸ HQ.out.size)))
          clear d l0 l1 l2 m0
          generalize hy : y46.alloc (.cells #[.string ⟨#[]⟩, .int .i64 0, .int .u16 0, .string ⟨#[]⟩, .int .i64 0] 24) = y47 at *
          clear hy
          generalize y46.heap.size = b7 at *
          refine wpAnyH_ready (rs := [8]) (by as_aux_lemma => kernel_rfl) (by simp) ?_
          refine AllReadyH.cons rfl (fun K hK => ?_) AllReadyH.nil
          have f0 := hb7.f 0; have f1 := hb7.f 1; have f2 := hb7.f 2; have f3 := hb7.f 3; have f4 := hb7.f 4
          have x0 := hb7.c0; have x1 := hb7.c1; have x2 := hb7.c2; have x3 := hb7.c3; have x4 := hb7.c4
          dsimp only [zeroE] at x0 x1 x2 x3 x4
          go_simp
          clear f0 f1 f2 f3 f4 x0 x1 x2 x3 x4
          obtain ⟨i0, i1, i2, iA, j0⟩ := HNb7.out
          refine hK.out _ _ ?_ (fun hS => ?_)
          · exact ⟨hS.1.stOther i0 (⟨kp, tp, op, vp, up⟩ : Ent), hS.2.1.stOther i1 (⟨kp, tp, op, vp, up⟩ : Ent), hS.2.2.stOther i2 (⟨kp, tp, op, vp, up⟩ : Ent)⟩
          clear hK K
          replace hb8 := hb8.stOther j0 (⟨kp, tp, op, vp, up⟩ : Ent)
          replace hb7 := hb7.store (⟨kp, tp, op, vp, up⟩ : Ent)
          replace HQ := Lib.hid (stE_below HQ.out iA (⟨kp, tp, op, vp, up⟩ : Ent))
          clear iA i0 i1 i2 j0
          dsimp only [stE] at *
          generalize hy : (((((World.setCell y47 ⟨b7, 0, none⟩ (.string kp)).setCell ⟨b7, 1, none⟩ (.int .i64 tp)).setCell ⟨b7, 2, none⟩ (.int .u16 op)).setCell ⟨b7, 3, none⟩ (.string vp)).setCell ⟨b7, 4, none⟩ (.int .i64 up)) = y48 at *
          clear hy
          refine wpAnyH_ready (rs := [9]) (by as_aux_lemma => kernel_rfl) (by simp) ?_
          refine AllReadyH.cons rfl (fun K hK => ?_) AllReadyH.nil
          have f0 := hb8.f 0; have f1 := hb8.f 1; have f2 := hb8.f 2; have f3 := hb8.f 3; have f4 := hb8.f 4
          have x0 := hb8.c0; have x1 := hb8.c1; have x2 := hb8.c2; have x3 := hb8.c3; have x4 := hb8.c4
          dsimp only [zeroE] at x0 x1 x2 x3 x4
          go_simp
          clear f0 f1 f2 f3 f4 x0 x1 x2 x3 x4
          obtain ⟨i0, i1, i2, iA⟩ := HNb8.out
          refine hK.out _ _ ?_ (fun hS => ?_)
          · exact ⟨hS.1.stOther i0 (⟨kp, tp, op, vp, up⟩ : Ent), hS.2.1.stOther i1 (⟨kp, tp, op, vp, up⟩ : Ent), hS.2.2.stOther i2 (⟨kp, tp, op, vp, up⟩ : Ent)⟩
          clear hK K
          replace hb7 := hb7.stOther (fun e => HNb7.out.2.2.2.2 e.symm) (⟨kp, tp, op, vp, up⟩ : Ent)
          replace hb8 := hb8.store (⟨kp, tp, op, vp, up⟩ : Ent)
          replace HQ := Lib.hid (stE_below HQ.out iA (⟨kp, tp, op, vp, up⟩ : Ent))
          clear iA i0 i1 i2
          dsimp only [stE] at *
          generalize hy : (((((World.setCell y48 ⟨b8, 0, none⟩ (.string kp)).setCell ⟨b8, 1, none⟩ (.int .i64 tp)).setCell ⟨b8, 2, none⟩ (.int .u16 op)).setCell ⟨b8, 3, none⟩ (.string vp)).setCell ⟨b8, 4, none⟩ (.int .i64 up)) = y49 at *
          clear hy
          refine wpAnyH_done (by kernel_rfl) ?_ _
          exact ⟨rfl, b7, b8, rfl, hS.1, hS.2.1, hS.2.2, hb7, hb8, HQ.out⟩
        · skip
          have d := (Below.refl y45.heap.size y45).alloc (Nat.le_refl _) (.cells #[.string ⟨#[]⟩, .int .i64 0, .int .u16 0, .string ⟨#[]⟩, .int .i64 0] 24)
          have hb7 : EBlk (y45.alloc (.cells #[.string ⟨#[]⟩, .int .i64 0, .int .u16 0, .string ⟨#[]⟩, .int .i64 0] 24)) y45.heap.size zeroE := EBlk.new y45 zeroE
          have l0 := hS.1.lt; have l1 := hS.2.1.lt; have l2 := hS.2.2.lt
          have m0 := hb8.lt
          go_simp
          refine hK.out _ _ ?_ (fun hS => ?_)
          · exact ⟨hS.1.on d, hS.2.1.on d, hS.2.2.on d⟩
          clear hK K
          replace hb8 := hb8.on d
          have HNb7 : Hid (A ≠ y45.heap.size ∧ A + 1 ≠ y45.heap.size ∧ A + 1 + 1 ≠ y45.heap.size ∧ A ≤ y45.heap.size ∧ b8 ≠ y45.heap.size) := Lib.hid (by omega)
          replace HQ := Lib.hid (HQ.out.trans (d.mono (HAs.out ▸ HQ.out.size)))
          clear d l0 l1 l2 m0
          generalize hy : y45.alloc (.cells #[.string ⟨#[]⟩, .int .i64 0, .int .u16 0, .string ⟨#[]⟩, .int .i64 0] 24) = y50 at *
          clear hy
          generalize y45.heap.size = b7 at *
          refine wpAnyH_ready (rs := [5]) (by as_aux_lemma => kernel_rfl) (by simp) ?_
          refine AllReadyH.cons rfl (fun K hK => ?_) AllReadyH.nil
          go_simp
          go_wp2_with (go_at_call 9; refine (HYX.out _).mono ?_; rintro e y51 ⟨rfl, q⟩)
          refine hK.out _ _ ?_ (fun hS => ?_)
          · exact ⟨hS.1.on q, hS.2.1.on q, hS.2.2.on q⟩
          clear hK K
          replace hb8 := hb8.on q
          replace hb7 := hb7.on q
          replace HQ := Lib.hid (HQ.out.trans (q.mono (HAs.out ▸ HQ.out.size)))
          clear q
          refine wpAnyH_ready (rs := [8]) (by as_aux_lemma => kernel_rfl) (by simp) ?_
          refine AllReadyH.cons rfl (fun K hK => ?_) AllReadyH.nil
          have f0 := hb7.f 0; have f1 := hb7.f 1; have f2 := hb7.f 2; have f3 := hb7.f 3; have f4 := hb7.f 4
          have x0 := hb7.c0; have x1 := hb7.c1; have x2 := hb7.c2; have x3 := hb7.c3; have x4 := hb7.c4
          dsimp only [zeroE] at x0 x1 x2 x3 x4
          go_simp
          clear f0 f1 f2 f3 f4 x0 x1 x2 x3 x4
          obtain ⟨i0, i1, i2, iA, j0⟩ := HNb7.out
          refine hK.out _ _ ?_ (fun hS => ?_)
          · exact ⟨hS.1.stOther i0 (⟨kp, tp, op, vp, up⟩ : Ent), hS.2.1.stOther i1 (⟨kp, tp, op, vp, up⟩ : Ent), hS.2.2.stOther i2 (⟨kp, tp, op, vp, up⟩ : Ent)⟩
          clear hK K
          replace hb8 := hb8.stOther j0 (⟨kp, tp, op, vp, up⟩ : Ent)
          replace hb7 := hb7.store (⟨kp, tp, op, vp, up⟩ : Ent)
          replace HQ := Lib.hid (stE_below HQ.out iA (⟨kp, tp, op, vp, up⟩ : Ent))
          clear iA i0 i1 i2 j0
          dsimp only [stE] at *
          generalize hy : (((((World.setCell y51 ⟨b7, 0, none⟩ (.string kp)).setCell ⟨b7, 1, none⟩ (.int .i64 tp)).setCell ⟨b7, 2, none⟩ (.int .u16 op)).setCell ⟨b7, 3, none⟩ (.string vp)).setCell ⟨b7, 4, none⟩ (.int .i64 up)) = y52 at *
          clear hy
          refine wpAnyH_ready (rs := [9]) (by as_aux_lemma => kernel_rfl) (by simp) ?_
          refine AllReadyH.cons rfl (fun K hK => ?_) AllReadyH.nil
          have f0 := hb8.f 0; have f1 := hb8.f 1; have f2 := hb8.f 2; have f3 := hb8.f 3; have f4 := hb8.f 4
          have x0 := hb8.c0; have x1 := hb8.c1; have x2 := hb8.c2; have x3 := hb8.c3; have x4 := hb8.c4
          dsimp only [zeroE] at x0 x1 x2 x3 x4
          go_simp
          clear f0 f1 f2 f3 f4 x0 x1 x2 x3 x4
          obtain ⟨i0, i1, i2, iA⟩ := HNb8.out
          refine hK.out _ _ ?_ (fun hS => ?_)
          · exact ⟨hS.1.stOther i0 (⟨kp, tp, op, vp, up⟩ : Ent), hS.2.1.stOther i1 (⟨kp, tp, op, vp, up⟩ : Ent), hS.2.2.stOther i2 (⟨kp, tp, op, vp, up⟩ : Ent)⟩
          clear hK K
          replace hb7 := hb7.stOther (fun e => HNb7.out.2.2.2.2 e.symm) (⟨kp, tp, op, vp, up⟩ : Ent)
          replace hb8 := hb8.store (⟨kp, tp, op, vp, up⟩ : Ent)
          replace HQ := Lib.hid (stE_below HQ.out iA (⟨kp, tp, op, vp, up⟩ : Ent))
          clear iA i0 i1 i2
          dsimp only [stE] at *
          generalize hy : (((((World.setCell y52 ⟨b8, 0, none⟩ (.string kp)).setCell ⟨b8, 1, none⟩ (.int .i64 tp)).setCell ⟨b8, 2, none⟩ (.int .u16 op)).setCell ⟨b8, 3, none⟩ (.string vp)).setCell ⟨b8, 4, none⟩ (.int .i64 up)) = y53 at *
          clear hy
          refine wpAnyH_done (by kernel_rfl) ?_ _
          exact ⟨rfl, b7, b8, rfl, hS.1, hS.2.1, hS.2.2, hb7, hb8, HQ.out⟩
      · skip
        have d := (Below.refl y44.heap.size y44).alloc (Nat.le_refl _) (.cells #[.string ⟨#[]⟩, .int .i64 0, .int .u16 0, .string ⟨#[]⟩, .int .i64 0] 24)
        have hb7 : EBlk (y44.alloc (.cells #[.string ⟨#[]⟩, .int .i64 0, .int .u16 0, .string ⟨#[]⟩, .int .i64 0] 24)) y44.heap.size zeroE := EBlk.new y44 zeroE
        have l0 := hS.1.lt; have l1 := hS.2.1.lt; have l2 := hS.2.2.lt
        have m0 := hb8.lt
        go_simp
        refine hK.out _ _ ?_ (fun hS => ?_)
        · exact ⟨hS.1.on d, hS.2.1.on d, hS.2.2.on d⟩
        clear hK K
        replace hb8 := hb8.on d
        have HNb7 : Hid (A ≠ y44.heap.size ∧ A + 1 ≠ y44.heap.size ∧ A + 1 + 1 ≠ y44.heap.size ∧ A ≤ y44.heap.size ∧ b8 ≠ y44.heap.size) := Lib.hid (by omega)
        replace HQ := Lib.hid (HQ.out.trans (d.mono (HAs.out ▸ HQ.out.size)))
        clear d l0 l1 l2 m0
        generalize hy : y44.alloc (.cells #[.string ⟨#[]⟩, .int .i64 0, .int .u16 0, .string ⟨#[]⟩, .int .i64 0] 24) = y54 at *
        clear hy
        generalize y44.heap.size = b7 at *
        refine wpAnyH_ready (rs := [2]) (by as_aux_lemma => kernel_rfl) (by simp) ?_
        refine AllReadyH.cons rfl (fun K hK => ?_) AllReadyH.nil
        go_simp
        go_wp2_with (go_at_call 9; refine (HXY.out _).mono ?_; rintro e y55 ⟨rfl, q⟩)
        refine hK.out _ _ ?_ (fun hS => ?_)
        · exact ⟨hS.1.on q, hS.2.1.on q, hS.2.2.on q⟩
        clear hK K
        replace hb8 := hb8.on q
        replace hb7 := hb7.on q
        replace HQ := Lib.hid (HQ.out.trans (q.mono (HAs.out ▸ HQ.out.size)))
        clear q
        refine wpAnyH_ready (rs := [5]) (by as_aux_lemma => kernel_rfl) (by simp) ?_
        refine AllReadyH.cons rfl (fun K hK => ?_) AllReadyH.nil
        go_simp
        go_wp2_with (go_at_call 9; refine (HYX.out _).mono ?_; rintro e y56 ⟨rfl, q⟩)
        refine hK.out _ _ ?_ (fun hS => ?_)
        · exact ⟨hS.1.on q, hS.2.1.on q, hS.2.2.on q⟩
        clear hK K
        replace hb8 := hb8.on q
        replace hb7 := hb7.on q
        replace HQ := Lib.hid (HQ.out.trans (q.mono (HAs.out ▸ HQ.out.size)))
        clear q
        refine wpAnyH_ready (rs := [8]) (by as_aux_lemma => kernel_rfl) (by simp) ?_
        refine AllReadyH.cons rfl (fun K hK => ?_) AllReadyH.nil
        have f0 := hb7.f 0; have f1 := hb7.f 1; have f2 := hb7.f 2; have f3 := hb7.f 3; have f4 := hb7.f 4
        have x0 := hb7.c0; have x1 := hb7.c1; have x2 := hb7.c2; have x3 := hb7.c3; have x4 := hb7.c4
        dsimp only [zeroE] at x0 x1 x2 x3 x4
        go_simp
        clear f0 f1 f2 f3 f4 x0 x1 x2 x3 x4
        obtain ⟨i0, i1, i2, iA, j0⟩ := HNb7.out
        refine hK.out _ _ ?_ (fun hS => ?_)
        · exact ⟨hS.1.stOther i0 (⟨kp, tp, op, vp, up⟩ : Ent), hS.2.1.stOther i1 (⟨kp, tp, op, vp, up⟩ : Ent), hS.2.2.stOther i2 (⟨kp, tp, op, vp, up⟩ : Ent)⟩
        clear hK K
        replace hb8 := hb8.stOther j0 (⟨kp, tp, op, vp, up⟩ : Ent)
        replace hb7 := hb7.store (⟨kp, tp, op, vp, up⟩ : Ent)
        replace HQ := Lib.hid (stE_below HQ.out iA (⟨kp, tp, op, vp, up⟩ : Ent))
        clear iA i0 i1 i2 j0
        dsimp only [stE] at *
        generalize hy : (((((World.setCell y56 ⟨b7, 0, none⟩ (.string kp)).setCell ⟨b7, 1, none⟩ (.int .i64 tp)).setCell ⟨b7, 2, none⟩ (.int .u16 op)).setCell ⟨b7, 3, none⟩ (.string vp)).setCell ⟨b7, 4, none⟩ (.int .i64 up)) = y57 at *
        clear hy
        refine wpAnyH_ready (rs := [9]) (by as_aux_lemma => kernel_rfl) (by simp) ?_
        refine AllReadyH.cons rfl (fun K hK => ?_) AllReadyH.nil
        have f0 := hb8.f 0; have f1 := hb8.f 1; have f2 := hb8.f 2; have f3 := hb8.f 3; have f4 := hb8.f 4
        have x0 := hb8.c0; have x1 := hb8.c1; have x2 := hb8.c2; have x3 := hb8.c3; have x4 := hb8.c4
        dsimp only [zeroE] at x0 x1 x2 x3 x4
        go_simp
        clear f0 f1 f2 f3 f4 x0 x1 x2 x3 x4
        obtain ⟨i0, i1, i2, iA⟩ := HNb8.out
        refine hK.out _ _ ?_ (fun hS => ?_)
        · exact ⟨hS.1.stOther i0 (⟨kp, tp, op, vp, up⟩ : Ent), hS.2.1.stOther i1 (⟨kp, tp, op, vp, up⟩ : Ent), hS.2.2.stOther i2 (⟨kp, tp, op, vp, up⟩ : Ent)⟩
        clear hK K
        replace hb7 := hb7.stOther (fun e => HNb7.out.2.2.2.2 e.symm) (⟨kp, tp, op, vp, up⟩ : Ent)
        replace hb8 := hb8.store (⟨kp, tp, op, vp, up⟩ : Ent)
        replace HQ := Lib.hid (stE_below HQ.out iA (⟨kp, tp, op, vp, up⟩ : Ent))
        clear iA i0 i1 i2
        dsimp only [stE] at *
        generalize hy : (((((World.setCell y57 ⟨b8, 0, none⟩ (.string kp)).setCell ⟨b8, 1, none⟩ (.int .i64 tp)).setCell ⟨b8, 2, none⟩ (.int .u16 op)).setCell ⟨b8, 3, none⟩ (.string vp)).setCell ⟨b8, 4, none⟩ (.int .i64 up)) = y58 at *
        clear hy
        refine wpAnyH_done (by kernel_rfl) ?_ _
        exact ⟨rfl, b7, b8, rfl, hS.1, hS.2.1, hS.2.2, hb7, hb8, HQ.out⟩
  · intro b7 b8 w6 HF
    obtain ⟨h1, h2, h3, hb7, hb8, hq⟩ := HF
    have HB6 := Lib.hid (And.intro h1 (And.intro h2 (And.intro h3 (And.intro hb7 hb8))))
    have HQ6 := Lib.hid hq
    clear h1 h2 h3 hb7 hb8 hq hS HQ5 HXY HYX
    go_simp
    go_wp2_with fail
    obtain ⟨h1, h2, h3, hb7, hb8⟩ := HB6.out
    refine wp_region_any (by kernel_rfl) ?_
    change wpAny _ _ _ _ _ _ _ (World.drew _)
    have hS : (fun w' : World => EBlk w' A (⟨kx, tx, ox, vx, ux⟩ : Ent) ∧ EBlk w' (A + 1) (⟨kx, ty, oy, vy, uy⟩ : Ent) ∧ EBlk w' (A + 1 + 1) (⟨kx, tz, oz, vz, uz⟩ : Ent) ∧ EBlk w' b7 (⟨kp, tp, op, vp, up⟩ : Ent)) w6.drew := ⟨h1, h2, h3, hb7⟩
    refine wpAny_of_held (S := fun w' => EBlk w' A (⟨kx, tx, ox, vx, ux⟩ : Ent) ∧ EBlk w' (A + 1) (⟨kx, ty, oy, vy, uy⟩ : Ent) ∧ EBlk w' (A + 1 + 1) (⟨kx, tz, oz, vz, uz⟩ : Ent) ∧ EBlk w' b7 (⟨kp, tp, op, vp, up⟩ : Ent)) _ _ _ _ ?_
    replace hb8 := hb8.drew
    replace HQ6 := Lib.hid HQ6.out.drew
    clear h1 h2 h3 hb7 HB6
    generalize World.drew w6 = y0 at *
    apply wpAnyH_join (fun b b' w' => EBlk w' A (⟨kx, tx, ox, vx, ux⟩ : Ent) ∧ EBlk w' (A + 1) (⟨kx, ty, oy, vy, uy⟩ : Ent) ∧ EBlk w' (A + 1 + 1) (⟨kx, tz, oz, vz, uz⟩ : Ent) ∧ EBlk w' b7 (⟨kp, tp, op, vp, up⟩ : Ent) ∧ EBlk w' b8 (⟨kp, tp, op, vp, up⟩ : Ent) ∧ EBlk w' b (⟨ks, ts, os, vs, us⟩ : Ent) ∧ EBlk w' b' (⟨ks, ts, os, vs, us⟩ : Ent) ∧ Below A W w')
    · have HQ := Lib.hid HQ6.out
      refine wpAnyH_takeE (i := 0) (some 23) (v := ?_) rfl rfl (by as_aux_lemma => kernel_rfl) (by as_aux_lemma => kernel_rfl) (by as_aux_lemma => kernel_rfl) (fun _ _ _ h => by cases h.1) (Or.inl ⟨by kernel_rfl, ?_⟩) hS ?_
      rotate_left
      · intro w hSw; obtain ⟨c00, c01, c02, c03, c04⟩ := hSw.1.cs; obtain ⟨c10, c11, c12, c13, c14⟩ := hSw.2.1.cs; obtain ⟨c20, c21, c22, c23, c24⟩ := hSw.2.2.1.cs; obtain ⟨c30, c31, c32, c33, c34⟩ := hSw.2.2.2.cs; go_simp
        first | done | with_reducible rfl
      refine wpAnyH_takeE (i := 1) (some 24) (v := ?_) rfl rfl (by as_aux_lemma => kernel_rfl) (by as_aux_lemma => kernel_rfl) (by as_aux_lemma => kernel_rfl) (fun _ _ _ h => by cases h.1) (Or.inl ⟨by kernel_rfl, ?_⟩) hS ?_
      rotate_left
      · intro w hSw; obtain ⟨c00, c01, c02, c03, c04⟩ := hSw.1.cs; obtain ⟨c10, c11, c12, c13, c14⟩ := hSw.2.1.cs; obtain ⟨c20, c21, c22, c23, c24⟩ := hSw.2.2.1.cs; obtain ⟨c30, c31, c32, c33, c34⟩ := hSw.2.2.2.cs; go_simp
        first | done | with_reducible rfl
      refine wpAnyH_takeE (i := 3) (some 26) (v := ?_) rfl rfl (by as_aux_lemma => kernel_rfl) (by as_aux_lemma => kernel_rfl) (by as_aux_lemma => kernel_rfl) (fun _ _ _ h => by cases h.1) (Or.inl ⟨by kernel_rfl, ?_⟩) hS ?_
      rotate_left
      · intro w hSw; obtain ⟨c00, c01, c02, c03, c04⟩ := hSw.1.cs; obtain ⟨c10, c11, c12, c13, c14⟩ := hSw.2.1.cs; obtain ⟨c20, c21, c22, c23, c24⟩ := hSw.2.2.1.cs; obtain ⟨c30, c31, c32, c33, c34⟩ := hSw.2.2.2.cs; go_simp
        first | done | with_reducible rfl
      refine wpAnyH_takeE (i := 4) (some 27) (v := ?_) rfl rfl (by as_aux_lemma => kernel_rfl) (by as_aux_lemma => kernel_rfl) (by as_aux_lemma => kernel_rfl) (fun _ _ _ h => by cases h.1) (Or.inl ⟨by kernel_rfl, ?_⟩) hS ?_
      rotate_left
      · intro w hSw; obtain ⟨c00, c01, c02, c03, c04⟩ := hSw.1.cs; obtain ⟨c10, c11, c12, c13, c14⟩ := hSw.2.1.cs; obtain ⟨c20, c21, c22, c23, c24⟩ := hSw.2.2.1.cs; obtain ⟨c30, c31, c32, c33, c34⟩ := hSw.2.2.2.cs; go_simp
        first | done | with_reducible rfl
      refine wpAnyH_takeE (i := 5) (some 28) (v := ?_) rfl rfl (by as_aux_lemma => kernel_rfl) (by as_aux_lemma => kernel_rfl) (by as_aux_lemma => kernel_rfl) (fun _ _ _ h => by cases h.1) (Or.inl ⟨by kernel_rfl, ?_⟩) hS ?_
      rotate_left
      · intro w hSw; obtain ⟨c00, c01, c02, c03, c04⟩ := hSw.1.cs; obtain ⟨c10, c11, c12, c13, c14⟩ := hSw.2.1.cs; obtain ⟨c20, c21, c22, c23, c24⟩ := hSw.2.2.1.cs; obtain ⟨c30, c31, c32, c33, c34⟩ := hSw.2.2.2.cs; go_simp
        first | done | with_reducible rfl
      refine wpAnyH_ready (rs := [2, 8, 9]) (by as_aux_lemma => kernel_rfl) (by simp) ?_
      refine AllReadyH.cons rfl (fun K hK => ?_) (AllReadyH.cons rfl (fun K hK => ?_) (AllReadyH.cons rfl (fun K hK => ?_) AllReadyH.nil))
      · skip
        go_simp
        go_wp2_with (go_at_call 9; refine (HPZ.out _).mono ?_; rintro e y59 ⟨rfl, q⟩)
        refine hK.out _ _ ?_ (fun hS => ?_)
        · exact ⟨hS.1.on q, hS.2.1.on q, hS.2.2.1.on q, hS.2.2.2.on q⟩
        clear hK K
        replace hb8 := hb8.on q
        replace HQ := Lib.hid (HQ.out.trans (q.mono (HAs.out ▸ HQ.out.size)))
        clear q
        refine wpAnyH_ready (rs := [6, 8, 9]) (by as_aux_lemma => kernel_rfl) (by simp) ?_
        refine AllReadyH.cons rfl (fun K hK => ?_) (AllReadyH.cons rfl (fun K hK => ?_) (AllReadyH.cons rfl (fun K hK => ?_) AllReadyH.nil))
        · skip
          go_simp
          go_wp2_with (go_at_call 9; refine (HYZ.out _).mono ?_; rintro e y60 ⟨rfl, q⟩)
          refine hK.out _ _ ?_ (fun hS => ?_)
          · exact ⟨hS.1.on q, hS.2.1.on q, hS.2.2.1.on q, hS.2.2.2.on q⟩
          clear hK K
          replace hb8 := hb8.on q
          replace HQ := Lib.hid (HQ.out.trans (q.mono (HAs.out ▸ HQ.out.size)))
          clear q
          refine wpAnyH_ready (rs := [7, 8, 9]) (by as_aux_lemma => kernel_rfl) (by simp) ?_
          refine AllReadyH.cons rfl (fun K hK => ?_) (AllReadyH.cons rfl (fun K hK => ?_) (AllReadyH.cons rfl (fun K hK => ?_) AllReadyH.nil))
          · skip
            go_simp
            go_wp2_with (go_at_call 9; refine (HXR.out _).mono ?_; rintro e y61 ⟨rfl, q⟩)
            refine hK.out _ _ ?_ (fun hS => ?_)
            · exact ⟨hS.1.on q, hS.2.1.on q, hS.2.2.1.on q, hS.2.2.2.on q⟩
            clear hK K
            replace hb8 := hb8.on q
            replace HQ := Lib.hid (HQ.out.trans (q.mono (HAs.out ▸ HQ.out.size)))
            clear q
            refine wpAnyH_ready (rs := [8, 9]) (by as_aux_lemma => kernel_rfl) (by simp) ?_
            refine AllReadyH.cons rfl (fun K hK => ?_) (AllReadyH.cons rfl (fun K hK => ?_) AllReadyH.nil)
            · skip
              have d := (Below.refl y61.heap.size y61).alloc (Nat.le_refl _) (.cells #[.string ⟨#[]⟩, .int .i64 0, .int .u16 0, .string ⟨#[]⟩, .int .i64 0] 24)
              have hb9 : EBlk (y61.alloc (.cells #[.string ⟨#[]⟩, .int .i64 0, .int .u16 0, .string ⟨#[]⟩, .int .i64 0] 24)) y61.heap.size zeroE := EBlk.new y61 zeroE
              have l0 := hS.1.lt; have l1 := hS.2.1.lt; have l2 := hS.2.2.1.lt; have l3 := hS.2.2.2.lt
              have m0 := hb8.lt
              go_simp
              refine hK.out _ _ ?_ (fun hS => ?_)
              · exact ⟨hS.1.on d, hS.2.1.on d, hS.2.2.1.on d, hS.2.2.2.on d⟩
              clear hK K
              replace hb8 := hb8.on d
              have HNb9 : Hid (A ≠ y61.heap.size ∧ A + 1 ≠ y61.heap.size ∧ A + 1 + 1 ≠ y61.heap.size ∧ b7 ≠ y61.heap.size ∧ A ≤ y61.heap.size ∧ b8 ≠ y61.heap.size) := Lib.hid (by omega)
              replace HQ := Lib.hid (HQ.out.trans (d.mono (HAs.out ▸ HQ.out.size)))
              clear d l0 l1 l2 l3 m0
              generalize hy : y61.alloc (.cells #[.string ⟨#[]⟩, .int .i64 0, .int .u16 0, .string ⟨#[]⟩, .int .i64 0] 24) = y62 at *
              clear hy
              generalize y61.heap.size = b9 at *
              refine wpAnyH_ready (rs := [9]) (by as_aux_lemma => kernel_rfl) (by simp) ?_
              refine AllReadyH.cons rfl (fun K hK => ?_) AllReadyH.nil
              have d := (Below.refl y62.heap.size y62).alloc (Nat.le_refl _) (.cells #[.string ⟨#[]⟩, .int .i64 0, .int .u16 0, .string ⟨#[]⟩, .int .i64 0] 24)
              have hb10 : EBlk (y62.alloc (.cells #[.string ⟨#[]⟩, .int .i64 0, .int .u16 0, .string ⟨#[]⟩, .int .i64 0] 24)) y62.heap.size zeroE := EBlk.new y62 zeroE
              have l0 := hS.1.lt; have l1 := hS.2.1.lt; have l2 := hS.2.2.1.lt; have l3 := hS.2.2.2.lt
              have m0 := hb8.lt
              have m1 := hb9.lt
              go_simp
              refine hK.out _ _ ?_ (fun hS => ?_)
              · exact ⟨hS.1.on d, hS.2.1.on d, hS.2.2.1.on d, hS.2.2.2.on d⟩
              clear hK K
              replace hb8 := hb8.on d
              replace hb9 := hb9.on d
              have HNb10 : Hid (A ≠ y62.heap.size ∧ A + 1 ≠ y62.heap.size ∧ A + 1 + 1 ≠ y62.heap.size ∧ b7 ≠ y62.heap.size ∧ A ≤ y62.heap.size ∧ b8 ≠ y62.heap.size ∧ b9 ≠ y62.heap.size) := Lib.hid (by omega)
              replace HQ := Lib.hid (HQ.out.trans (d.mono (HAs.out ▸ HQ.out.size)))
              clear d l0 l1 l2 l3 m0 m1
              generalize hy : y62.alloc (.cells #[.string ⟨#[]⟩, .int .i64 0, .int .u16 0, .string ⟨#[]⟩, .int .i64 0] 24) = y63 at *
              clear hy
              generalize y62.heap.size = b10 at *
              refine wpAnyH_ready (rs := [10]) (by as_aux_lemma => kernel_rfl) (by simp) ?_
              refine AllReadyH.cons rfl (fun K hK => ?_) AllReadyH.nil
              have f0 := hb9.f 0; have f1 := hb9.f 1; have f2 := hb9.f 2; have f3 := hb9.f 3; have f4 := hb9.f 4
              have x0 := hb9.c0; have x1 := hb9.c1; have x2 := hb9.c2; have x3 := hb9.c3; have x4 := hb9.c4
              dsimp only [zeroE] at x0 x1 x2 x3 x4
              go_simp
              clear f0 f1 f2 f3 f4 x0 x1 x2 x3 x4
              obtain ⟨i0, i1, i2, i3, iA, j0⟩ := HNb9.out
              refine hK.out _ _ ?_ (fun hS => ?_)
              · exact ⟨hS.1.stOther i0 (⟨ks, ts, os, vs, us⟩ : Ent), hS.2.1.stOther i1 (⟨ks, ts, os, vs, us⟩ : Ent), hS.2.2.1.stOther i2 (⟨ks, ts, os, vs, us⟩ : Ent), hS.2.2.2.stOther i3 (⟨ks, ts, os, vs, us⟩ : Ent)⟩
              clear hK K
              replace hb8 := hb8.stOther j0 (⟨ks, ts, os, vs, us⟩ : Ent)
              replace hb10 := hb10.stOther (fun e => HNb10.out.2.2.2.2.2.2 e.symm) (⟨ks, ts, os, vs, us⟩ : Ent)
              replace hb9 := hb9.store (⟨ks, ts, os, vs, us⟩ : Ent)
              replace HQ := Lib.hid (stE_below HQ.out iA (⟨ks, ts, os, vs, us⟩ : Ent))
              clear iA i0 i1 i2 i3 j0
              dsimp only [stE] at *
              generalize hy : (((((World.setCell y63 ⟨b9, 0, none⟩ (.string ks)).setCell ⟨b9, 1, none⟩ (.int .i64 ts)).setCell ⟨b9, 2, none⟩ (.int .u16 os)).setCell ⟨b9, 3, none⟩ (.string vs)).setCell ⟨b9, 4, none⟩ (.int .i64 us)) = y64 at *
              clear hy
              refine wpAnyH_ready (rs := [11]) (by as_aux_lemma => kernel_rfl) (by simp) ?_
              refine AllReadyH.cons rfl (fun K hK => ?_) AllReadyH.nil
              have f0 := hb10.f 0; have f1 := hb10.f 1; have f2 := hb10.f 2; have f3 := hb10.f 3; have f4 := hb10.f 4
              have x0 := hb10.c0; have x1 := hb10.c1; have x2 := hb10.c2; have x3 := hb10.c3; have x4 := hb10.c4
              dsimp only [zeroE] at x0 x1 x2 x3 x4
              go_simp
              clear f0 f1 f2 f3 f4 x0 x1 x2 x3 x4
              obtain ⟨i0, i1, i2, i3, iA, j0, j1⟩ := HNb10.out
              refine hK.out _ _ ?_ (fun hS => ?_)
              · exact ⟨hS.1.stOther i0 (⟨ks, ts, os, vs, us⟩ : Ent), hS.2.1.stOther i1 (⟨ks, ts, os, vs, us⟩ : Ent), hS.2.2.1.stOther i2 (⟨ks, ts, os, vs, us⟩ : Ent), hS.2.2.2.stOther i3 (⟨ks, ts, os, vs, us⟩ : Ent)⟩
              clear hK K
              replace hb8 := hb8.stOther j0 (⟨ks, ts, os, vs, us⟩ : Ent)
              replace hb9 := hb9.stOther j1 (⟨ks, ts, os, vs, us⟩ : Ent)
              replace hb10 := hb10.store (⟨ks, ts, os, vs, us⟩ : Ent)
              replace HQ := Lib.hid (stE_below HQ.out iA (⟨ks, ts, os, vs, us⟩ : Ent))
              clear iA i0 i1 i2 i3 j0 j1
              dsimp only [stE] at *
              generalize hy : (((((World.setCell y64 ⟨b10, 0, none⟩ (.string ks)).setCell ⟨b10, 1, none⟩ (.int .i64 ts)).setCell ⟨b10, 2, none⟩ (.int .u16 os)).setCell ⟨b10, 3, none⟩ (.string vs)).setCell ⟨b10, 4, none⟩ (.int .i64 us)) = y65 at *
              clear hy
              refine wpAnyH_done (by kernel_rfl) ?_ _
              exact ⟨rfl, b9, b10, rfl, hS.1, hS.2.1, hS.2.2.1, hS.2.2.2, hb8, hb9, hb10, HQ.out⟩
            · skip
              have d := (Below.refl y61.heap.size y61).alloc (Nat.le_refl _) (.cells #[.string ⟨#[]⟩, .int .i64 0, .int .u16 0, .string ⟨#[]⟩, .int .i64 0] 24)
              have hb10 : EBlk (y61.alloc (.cells #[.string ⟨#[]⟩, .int .i64 0, .int .u16 0, .string ⟨#[]⟩, .int .i64 0] 24)) y61.heap.size zeroE := EBlk.new y61 zeroE
              have l0 := hS.1.lt; have l1 := hS.2.1.lt; have l2 := hS.2.2.1.lt; have l3 := hS.2.2.2.lt
              have m0 := hb8.lt
              go_simp
              refine hK.out _ _ ?_ (fun hS => ?_)
              · exact ⟨hS.1.on d, hS.2.1.on d, hS.2.2.1.on d, hS.2.2.2.on d⟩
              clear hK K
              replace hb8 := hb8.on d
              have HNb10 : Hid (A ≠ y61.heap.size ∧ A + 1 ≠ y61.heap.size ∧ A + 1 + 1 ≠ y61.heap.size ∧ b7 ≠ y61.heap.size ∧ A ≤ y61.heap.size ∧ b8 ≠ y61.heap.size) := Lib.hid (by omega)
              replace HQ := Lib.hid (HQ.out.trans (d.mono (HAs.out ▸ HQ.out.size)))
              clear d l0 l1 l2 l3 m0
              generalize hy : y61.alloc (.cells #[.string ⟨#[]⟩, .int .i64 0, .int .u16 0, .string ⟨#[]⟩, .int .i64 0] 24) = y66 at *
              clear hy
              generalize y61.heap.size = b10 at *
              refine wpAnyH_ready (rs := [8]) (by as_aux_lemma => kernel_rfl) (by simp) ?_
              refine AllReadyH.cons rfl (fun K hK => ?_) AllReadyH.nil
              have d := (Below.refl y66.heap.size y66).alloc (Nat.le_refl _) (.cells #[.string ⟨#[]⟩, .int .i64 0, .int .u16 0, .string ⟨#[]⟩, .int .i64 0] 24)
              have hb9 : EBlk (y66.alloc (.cells #[.string ⟨#[]⟩, .int .i64 0, .int .u16 0, .string ⟨#[]⟩, .int .i64 0] 24)) y66.heap.size zeroE := EBlk.new y66 zeroE
              have l0 := hS.1.lt; have l1 := hS.2.1.lt; have l2 := hS.2.2.1.lt; have l3 := hS.2.2.2.lt
              have m0 := hb8.lt
              have m1 := hb10.lt
              go_simp
              refine hK.out _ _ ?_ (fun hS => ?_)
              · exact ⟨hS.1.on d, hS.2.1.on d, hS.2.2.1.on d, hS.2.2.2.on d⟩
              clear hK K
              replace hb8 := hb8.on d
              replace hb10 := hb10.on d
              have HNb9 : Hid (A ≠ y66.heap.size ∧ A + 1 ≠ y66.heap.size ∧ A + 1 + 1 ≠ y66.heap.size ∧ b7 ≠ y66.heap.size ∧ A ≤ y66.heap.size ∧ b8 ≠ y66.heap.size ∧ b10 ≠ y66.heap.size) := Lib.hid (by omega)
              replace HQ := Lib.hid (HQ.out.trans (d.mono (HAs.out ▸ HQ.out.size)))
              clear d l0 l1 l2 l3 m0 m1
              generalize hy : y66.alloc (.cells #[.string ⟨#[]⟩, .int .i64 0, .int .u16 0, .string ⟨#[]⟩, .int .i64 0] 24) = y67 at *
              clear hy
              generalize y66.heap.size = b9 at *
              refine wpAnyH_ready (rs := [10]) (by as_aux_lemma => kernel_rfl) (by simp) ?_
              refine AllReadyH.cons rfl (fun K hK => ?_) AllReadyH.nil
              have f0 := hb9.f 0; have f1 := hb9.f 1; have f2 := hb9.f 2; have f3 := hb9.f 3; have f4 := hb9.f 4
              have x0 := hb9.c0; have x1 := hb9.c1; have x2 := hb9.c2; have x3 := hb9.c3; have x4 := hb9.c4
              dsimp only [zeroE] at x0 x1 x2 x3 x4
              go_simp
              clear f0 f1 f2 f3 f4 x0 x1 x2 x3 x4
              obtain ⟨i0, i1, i2, i3, iA, j0, j1⟩ := HNb9.out
              refine hK.out _ _ ?_ (fun hS => ?_)
              · exact ⟨hS.1.stOther i0 (⟨ks, ts, os, vs, us⟩ : Ent), hS.2.1.stOther i1 (⟨ks, ts, os, vs, us⟩ : Ent), hS.2.2.1.stOther i2 (⟨ks, ts, os, vs, us⟩ : Ent), hS.2.2.2.stOther i3 (⟨ks, ts, os, vs, us⟩ : Ent)⟩
              clear hK K
              replace hb8 := hb8.stOther j0 (⟨ks, ts, os, vs, us⟩ : Ent)
              replace hb10 := hb10.stOther j1 (⟨ks, ts, os, vs, us⟩ : Ent)
              replace hb9 := hb9.store (⟨ks, ts, os, vs, us⟩ : Ent)
              replace HQ := Lib.hid (stE_below HQ.out iA (⟨ks, ts, os, vs, us⟩ : Ent))
              clear iA i0 i1 i2 i3 j0 j1
              dsimp only [stE] at *
              generalize hy : (((((World.setCell y67 ⟨b9, 0, none⟩ (.string ks)).setCell ⟨b9, 1, none⟩ (.int .i64 ts)).setCell ⟨b9, 2, none⟩ (.int .u16 os)).setCell ⟨b9, 3, none⟩ (.string vs)).setCell ⟨b9, 4, none⟩ (.int .i64 us)) = y68 at *
              clear hy
              refine wpAnyH_ready (rs := [11]) (by as_aux_lemma => kernel_rfl) (by simp) ?_
              refine AllReadyH.cons rfl (fun K hK => ?_) AllReadyH.nil
              have f0 := hb10.f 0; have f1 := hb10.f 1; have f2 := hb10.f 2; have f3 := hb10.f 3; have f4 := hb10.f 4
              have x0 := hb10.c0; have x1 := hb10.c1; have x2 := hb10.c2; have x3 := hb10.c3; have x4 := hb10.c4
              dsimp only [zeroE] at x0 x1 x2 x3 x4
              go_simp
              clear f0 f1 f2 f3 f4 x0 x1 x2 x3 x4
              obtain ⟨i0, i1, i2, i3, iA, j0⟩ := HNb10.out
              refine hK.out _ _ ?_ (fun hS => ?_)
              · exact ⟨hS.1.stOther i0 (⟨ks, ts, os, vs, us⟩ : Ent), hS.2.1.stOther i1 (⟨ks, ts, os, vs, us⟩ : Ent), hS.2.2.1.stOther i2 (⟨ks, ts, os, vs, us⟩ : Ent), hS.2.2.2.stOther i3 (⟨ks, ts, os, vs, us⟩ : Ent)⟩
              clear hK K
              replace hb8 := hb8.stOther j0 (⟨ks, ts, os, vs, us⟩ : Ent)
              replace hb9 := hb9.stOther (fun e => HNb9.out.2.2.2.2.2.2 e.symm) (⟨ks, ts, os, vs, us⟩ : Ent)
              replace hb10 := hb10.store (⟨ks, ts, os, vs, us⟩ : Ent)
              replace HQ := Lib.hid (stE_below HQ.out iA (⟨ks, ts, os, vs, us⟩ : Ent))
              clear iA i0 i1 i2 i3 j0
              dsimp only [stE] at *
              generalize hy : (((((World.setCell y68 ⟨b10, 0, none⟩ (.string ks)).setCell ⟨b10, 1, none⟩ (.int .i64 ts)).setCell ⟨b10, 2, none⟩ (.int .u16 os)).setCell ⟨b10, 3, none⟩ (.string vs)).setCell ⟨b10, 4, none⟩ (.int .i64 us)) = y69 at *
              clear hy
              refine wpAnyH_done (by kernel_rfl) ?_ _
              exact ⟨rfl, b9, b10, rfl, hS.1, hS.2.1, hS.2.2.1, hS.2.2.2, hb8, hb9, hb10, HQ.out⟩
          · skip
            have d := (Below.refl y60.heap.size y60).alloc (Nat.le_refl _) (.cells #[.string ⟨#[]⟩, .int .i64 0, .int .u16 0, .string ⟨#[]⟩, .int .i64 0] 24)
            have hb9 : EBlk (y60.alloc (.cells #[.string ⟨#[]⟩, .int .i64 0, .int .u16 0, .string ⟨#[]⟩, .int .i64 0] 24)) y60.heap.size zeroE := EBlk.new y60 zeroE
            have l0 := hS.1.lt; have l1 := hS.2.1.lt; have l2 := hS.2.2.1.lt; have l3 := hS.2.2.2.lt
            have m0 := hb8.lt
            go_simp
            refine hK.out _ _ ?_ (fun hS => ?_)
            · exact ⟨hS.1.on d, hS.2.1.on d, hS.2.2.1.on d, hS.2.2.2.on d⟩
            clear hK K
            replace hb8 := hb8.on d
            have HNb9 : Hid (A ≠ y60.heap.size ∧ A + 1 ≠ y60.heap.size ∧ A + 1 + 1 ≠ y60.heap.size ∧ b7 ≠ y60.heap.size ∧ A ≤ y60.heap.size ∧ b8 ≠ y60.heap.size) := Lib.hid (by omega)
            replace HQ := Lib.hid (HQ.out.trans (d.mono (HAs.out ▸ HQ.out.size)))
            clear d l0 l1 l2 l3 m0
            generalize hy : y60.alloc (.cells #[.string ⟨#[]⟩, .int .i64 0, .int .u16 0, .string ⟨#[]⟩, .int .i64 0] 24) = y70 at *
            clear hy
            generalize y60.heap.size = b9 at *
            refine wpAnyH_ready (rs := [7, 9]) (by as_aux_lemma => kernel_rfl) (by simp) ?_
            refine AllReadyH.cons rfl (fun K hK => ?_) (AllReadyH.cons rfl (fun K hK => ?_) AllReadyH.nil)
            · skip
              go_simp
              go_wp2_with (go_at_call 9; refine (HXR.out _).mono ?_; rintro e y71 ⟨rfl, q⟩)
              refine hK.out _ _ ?_ (fun hS => ?_)
              · exact ⟨hS.1.on q, hS.2.1.on q, hS.2.2.1.on q, hS.2.2.2.on q⟩
              clear hK K
              replace hb8 := hb8.on q
              replace hb9 := hb9.on q
              replace HQ := Lib.hid (HQ.out.trans (q.mono (HAs.out ▸ HQ.out.size)))
              clear q
              refine wpAnyH_ready (rs := [9]) (by as_aux_lemma => kernel_rfl) (by simp) ?_
              refine AllReadyH.cons rfl (fun K hK => ?_) AllReadyH.nil
              have d := (Below.refl y71.heap.size y71).alloc (Nat.le_refl _) (.cells #[.string ⟨#[]⟩, .int .i64 0, .int .u16 0, .string ⟨#[]⟩, .int .i64 0] 24)
              have hb10 : EBlk (y71.alloc (.cells #[.string ⟨#[]⟩, .int .i64 0, .int .u16 0, .string ⟨#[]⟩, .int .i64 0] 24)) y71.heap.size zeroE := EBlk.new y71 zeroE
              have l0 := hS.1.lt; have l1 := hS.2.1.lt; have l2 := hS.2.2.1.lt; have l3 := hS.2.2.2.lt
              have m0 := hb8.lt
              have m1 := hb9.lt
              go_simp
              refine hK.out _ _ ?_ (fun hS => ?_)
              · exact ⟨hS.1.on d, hS.2.1.on d, hS.2.2.1.on d, hS.2.2.2.on d⟩
              clear hK K
              replace hb8 := hb8.on d
              replace hb9 := hb9.on d
              have HNb10 : Hid (A ≠ y71.heap.size ∧ A + 1 ≠ y71.heap.size ∧ A + 1 + 1 ≠ y71.heap.size ∧ b7 ≠ y71.heap.size ∧ A ≤ y71.heap.size ∧ b8 ≠ y71.heap.size ∧ b9 ≠ y71.heap.size) := Lib.hid (by omega)
              replace HQ := Lib.hid (HQ.out.trans (d.mono (HAs.out ▸ HQ.out.size)))
              clear d l0 l1 l2 l3 m0 m1
              generalize hy : y71.alloc (.cells #[.string ⟨#[]⟩, .int .i64 0, .int .u16 0, .string ⟨#[]⟩, .int .i64 0] 24) = y72 at *
              clear hy
              generalize y71.heap.size = b10 at *
              refine wpAnyH_ready (rs := [10]) (by as_aux_lemma => kernel_rfl) (by simp) ?_
              refine AllReadyH.cons rfl (fun K hK => ?_) AllReadyH.nil
              have f0 := hb9.f 0; have f1 := hb9.f 1; have f2 := hb9.f 2; have f3 := hb9.f 3; have f4 := hb9.f 4
              have x0 := hb9.c0; have x1 := hb9.c1; have x2 := hb9.c2; have x3 := hb9.c3; have x4 := hb9.c4
              dsimp only [zeroE] at x0 x1 x2 x3 x4
              go_simp
              clear f0 f1 f2 f3 f4 x0 x1 x2 x3 x4
              obtain ⟨i0, i1, i2, i3, iA, j0⟩ := HNb9.out
              refine hK.out _ _ ?_ (fun hS => ?_)
              · exact ⟨hS.1.stOther i0 (⟨ks, ts, os, vs, us⟩ : Ent), hS.2.1.stOther i1 (⟨ks, ts, os, vs, us⟩ : Ent), hS.2.2.1.stOther i2 (⟨ks, ts, os, vs, us⟩ : Ent), hS.2.2.2.stOther i3 (⟨ks, ts, os, vs, us⟩ : Ent)⟩
              clear hK K
              replace hb8 := hb8.stOther j0 (⟨ks, ts, os, vs, us⟩ : Ent)
              replace hb10 := hb10.stOther (fun e => HNb10.out.2.2.2.2.2.2 e.symm) (⟨ks, ts, os, vs, us⟩ : Ent)
              replace hb9 := hb9.store (⟨ks, ts, os, vs, us⟩ : Ent)
              replace HQ := Lib.hid (stE_below HQ.out iA (⟨ks, ts, os, vs, us⟩ : Ent))
              clear iA i0 i1 i2 i3 j0
              dsimp only [stE] at *
              generalize hy : (((((World.setCell y72 ⟨b9, 0, none⟩ (.string ks)).setCell ⟨b9, 1, none⟩ (.int .i64 ts)).setCell ⟨b9, 2, none⟩ (.int .u16 os)).setCell ⟨b9, 3, none⟩ (.string vs)).setCell ⟨b9, 4, none⟩ (.int .i64 us)) = y73 at *
              clear hy
              refine wpAnyH_ready (rs := [11]) (by as_aux_lemma => kernel_rfl) (by simp) ?_
              refine AllReadyH.cons rfl (fun K hK => ?_) AllReadyH.nil
              have f0 := hb10.f 0; have f1 := hb10.f 1; have f2 := hb10.f 2; have f3 := hb10.f 3; have f4 := hb10.f 4
              have x0 := hb10.c0; have x1 := hb10.c1; have x2 := hb10.c2; have x3 := hb10.c3; have x4 := hb10.c4
              dsimp only [zeroE] at x0 x1 x2 x3 x4
              go_simp
              clear f0 f1 f2 f3 f4 x0 x1 x2 x3 x4
              obtain ⟨i0, i1, i2, i3, iA, j0, j1⟩ := HNb10.out
              refine hK.out _ _ ?_ (fun hS => ?_)
              · exact ⟨hS.1.stOther i0 (⟨ks, ts, os, vs, us⟩ : Ent), hS.2.1.stOther i1 (⟨ks, ts, os, vs, us⟩ : Ent), hS.2.2.1.stOther i2 (⟨ks, ts, os, vs, us⟩ : Ent), hS.2.2.2.stOther i3 (⟨ks, ts, os, vs, us⟩ : Ent)⟩
              clear hK K
              replace hb8 := hb8.stOther j0 (⟨ks, ts, os, vs, us⟩ : Ent)
              replace hb9 := hb9.stOther j1 (⟨ks, ts, os, vs, us⟩ : Ent)
              replace hb10 := hb10.store (⟨ks, ts, os, vs, us⟩ : Ent)
              replace HQ := Lib.hid (stE_below HQ.out iA (⟨ks, ts, os, vs, us⟩ : Ent))
              clear iA i0 i1 i2 i3 j0 j1
              dsimp only [stE] at *
              generalize hy : (((((World.setCell y73 ⟨b10, 0, none⟩ (.string ks)).setCell ⟨b10, 1, none⟩ (.int .i64 ts)).setCell ⟨b10, 2, none⟩ (.int .u16 os)).setCell ⟨b10, 3, none⟩ (.string vs)).setCell ⟨b10, 4, none⟩ (.int .i64 us)) = y74 at *
              clear hy
              refine wpAnyH_done (by kernel_rfl) ?_ _
              exact ⟨rfl, b9, b10, rfl, hS.1, hS.2.1, hS.2.2.1, hS.2.2.2, hb8, hb9, hb10, HQ.out⟩
            · skip
              have d := (Below.refl y70.heap.size y70).alloc (Nat.le_refl _) (.cells #[.string ⟨#[]⟩, .int .i64 0, .int .u16 0, .string ⟨#[]⟩, .int .i64 0] 24)
              have hb10 : EBlk (y70.alloc (.cells #[.string ⟨#[]⟩, .int .i64 0, .int .u16 0, .string ⟨#[]⟩, .int .i64 0] 24)) y70.heap.size zeroE := EBlk.new y70 zeroE
              have l0 := hS.1.lt; have l1 := hS.2.1.lt; have l2 := hS.2.2.1.lt; have l3 := hS.2.2.2.lt
              have m0 := hb8.lt
              have m1 := hb9.lt
              go_simp
              refine hK.out _ _ ?_ (fun hS => ?_)
              · exact ⟨hS.1.on d, hS.2.1.on d, hS.2.2.1.on d, hS.2.2.2.on d⟩
              clear hK K
              replace hb8 := hb8.on d
              replace hb9 := hb9.on d
              have HNb10 : Hid (A ≠ y70.heap.size ∧ A + 1 ≠ y70.heap.size ∧ A + 1 + 1 ≠ y70.heap.size ∧ b7 ≠ y70.heap.size ∧ A ≤ y70.heap.size ∧ b8 ≠ y70.heap.size ∧ b9 ≠ y70.heap.size) := Lib.hid (by omega)
              replace HQ := Lib.hid (HQ.out.trans (d.mono (HAs.out ▸ HQ.out.size)))
              clear d l0 l1 l2 l3 m0 m1
              generalize hy : y70.alloc (.cells #[.string ⟨#[]⟩, .int .i64 0, .int .u16 0, .string ⟨#[]⟩, .int .i64 0] 24) = y75 at *
              clear hy
              generalize y70.heap.size = b10 at *
              refine wpAnyH_ready (rs := [7]) (by as_aux_lemma => kernel_rfl) (by simp) ?_
              refine AllReadyH.cons rfl (fun K hK => ?_) AllReadyH.nil
              go_simp
              go_wp2_with (go_at_call 9; refine (HXR.out _).mono ?_; rintro e y76 ⟨rfl, q⟩)
              refine hK.out _ _ ?_ (fun hS => ?_)
              · exact ⟨hS.1.on q, hS.2.1.on q, hS.2.2.1.on q, hS.2.2.2.on q⟩
              clear hK K
              replace hb8 := hb8.on q
              replace hb9 := hb9.on q
              replace hb10 := hb10.on q
              replace HQ := Lib.hid (HQ.out.trans (q.mono (HAs.out ▸ HQ.out.size)))
              clear q
              refine wpAnyH_ready (rs := [10]) (by as_aux_lemma => kernel_rfl) (by simp) ?_
              refine AllReadyH.cons rfl (fun K hK => ?_) AllReadyH.nil
              have f0 := hb9.f 0; have f1 := hb9.f 1; have f2 := hb9.f 2; have f3 := hb9.f 3; have f4 := hb9.f 4
              have x0 := hb9.c0; have x1 := hb9.c1; have x2 := hb9.c2; have x3 := hb9.c3; have x4 := hb9.c4
              dsimp only [zeroE] at x0 x1 x2 x3 x4
              go_simp
              clear f0 f1 f2 f3 f4 x0 x1 x2 x3 x4
              obtain ⟨i0, i1, i2, i3, iA, j0⟩ := HNb9.out
              refine hK.out _ _ ?_ (fun hS => ?_)
              · exact ⟨hS.1.stOther i0 (⟨ks, ts, os, vs, us⟩ : Ent), hS.2.1.stOther i1 (⟨ks, ts, os, vs, us⟩ : Ent), hS.2.2.1.stOther i2 (⟨ks, ts, os, vs, us⟩ : Ent), hS.2.2.2.stOther i3 (⟨ks, ts, os, vs, us⟩ : Ent)⟩
              clear hK K
              replace hb8 := hb8.stOther j0 (⟨ks, ts, os, vs, us⟩ : Ent)
              replace hb10 := hb10.stOther (fun e => HNb10.out.2.2.2.2.2.2 e.symm) (⟨ks, ts, os, vs, us⟩ : Ent)
              replace hb9 := hb9.store (⟨ks, ts, os, vs, us⟩ : Ent)
              replace HQ := Lib.hid (stE_below HQ.out iA (⟨ks, ts, os, vs, us⟩ : Ent))
              clear iA i0 i1 i2 i3 j0
              dsimp only [stE] at *
              generalize hy : (((((World.setCell y76 ⟨b9, 0, none⟩ (.string ks)).setCell ⟨b9, 1, none⟩ (.int .i64 ts)).setCell ⟨b9, 2, none⟩ (.int .u16 os)).setCell ⟨b9, 3, none⟩ (.string vs)).setCell ⟨b9, 4, none⟩ (.int .i64 us)) = y77 at *
              clear hy
              refine wpAnyH_ready (rs := [11]) (by as_aux_lemma => kernel_rfl) (by simp) ?_
              refine AllReadyH.cons rfl (fun K hK => ?_) AllReadyH.nil
              have f0 := hb10.f 0; have f1 := hb10.f 1; have f2 := hb10.f 2; have f3 := hb10.f 3; have f4 := hb10.f 4
              have x0 := hb10.c0; have x1 := hb10.c1; have x2 := hb10.c2; have x3 := hb10.c3; have x4 := hb10.c4
              dsimp only [zeroE] at x0 x1 x2 x3 x4
              go_simp
              clear f0 f1 f2 f3 f4 x0 x1 x2 x3 x4
              obtain ⟨i0, i1, i2, i3, iA, j0, j1⟩ := HNb10.out
              refine hK.out _ _ ?_ (fun hS => ?_)
              · exact ⟨hS.1.stOther i0 (⟨ks, ts, os, vs, us⟩ : Ent), hS.2.1.stOther i1 (⟨ks, ts, os, vs, us⟩ : Ent), hS.2.2.1.stOther i2 (⟨ks, ts, os, vs, us⟩ : Ent), hS.2.2.2.stOther i3 (⟨ks, ts, os, vs, us⟩ : Ent)⟩
              clear hK K
              replace hb8 := hb8.stOther j0 (⟨ks, ts, os, vs, us⟩ : Ent)
              replace hb9 := hb9.stOther j1 (⟨ks, ts, os, vs, us⟩ : Ent)
              replace hb10 := hb10.store (⟨ks, ts, os, vs, us⟩ : Ent)
              replace HQ := Lib.hid (stE_below HQ.out iA (⟨ks, ts, os, vs, us⟩ : Ent))
              clear iA i0 i1 i2 i3 j0 j1
              dsimp only [stE] at *
              generalize hy : (((((World.setCell y77 ⟨b10, 0, none⟩ (.string ks)).setCell ⟨b10, 1, none⟩ (.int .i64 ts)).setCell ⟨b10, 2, none⟩ (.int .u16 os)).setCell ⟨b10, 3, none⟩ (.string vs)).setCell ⟨b10, 4, none⟩ (.int .i64 us)) = y78 at *
              clear hy
              refine wpAnyH_done (by kernel_rfl) ?_ _
              exact ⟨rfl, b9, b10, rfl, hS.1, hS.2.1, hS.2.2.1, hS.2.2.2, hb8, hb9, hb10, HQ.out⟩
          · skip
            have d := (Below.refl y60.heap.size y60).alloc (Nat.le_refl _) (.cells #[.string ⟨#[]⟩, .int .i64 0, .int .u16 0, .string ⟨#[]⟩, .int .i64 0] 24)
            have hb10 : EBlk (y60.alloc (.cells #[.string ⟨#[]⟩, .int .i64 0, .int .u16 0, .string ⟨#[]⟩, .int .i64 0] 24)) y60.heap.size zeroE := EBlk.new y60 zeroE
            have l0 := hS.1.lt; have l1 := hS.2.1.lt; have l2 := hS.2.2.1.lt; have l3 := hS.2.2.2.lt
            have m0 := hb8.lt
            go_simp
            refine hK.out _ _ ?_ (fun hS => ?_)
            · exact ⟨hS.1.on d, hS.2.1.on d, hS.2.2.1.on d, hS.2.2.2.on d⟩
            clear hK K
            replace hb8 := hb8.on d
            have HNb10 : Hid (A ≠ y60.heap.size ∧ A + 1 ≠ y60.heap.size ∧ A + 1 + 1 ≠ y60.heap.size ∧ b7 ≠ y60.heap.size ∧ A ≤ y60.heap.size ∧ b8 ≠ y60.heap.size) := Lib.hid (by omega)
            replace HQ := Lib.hid (HQ.out.trans (d.mono (HAs.out ▸ HQ.out.size)))
            clear d l0 l1 l2 l3 m0
            generalize hy : y60.alloc (.cells #[.string ⟨#[]⟩, .int .i64 0, .int .u16 0, .string ⟨#[]⟩, .int .i64 0] 24) = y79 at *
            clear hy
            generalize y60.heap.size = b10 at *
            refine wpAnyH_ready (rs := [7, 8]) (by as_aux_lemma => kernel_rfl) (by simp) ?_
            refine AllReadyH.cons rfl (fun K hK => ?_) (AllReadyH.cons rfl (fun K hK => ?_) AllReadyH.nil)
            · skip
              go_simp
              go_wp2_with (go_at_call 9; refine (HXR.out _).mono ?_; rintro e y80 ⟨rfl, q⟩)
              refine hK.out _ _ ?_ (fun hS => ?_)
              · exact ⟨hS.1.on q, hS.2.1.on q, hS.2.2.1.on q, hS.2.2.2.on q⟩
              clear hK K
              replace hb8 := hb8.on q
              replace hb10 := hb10.on q
              replace HQ := Lib.hid (HQ.out.trans (q.mono (HAs.out ▸ HQ.out.size)))
              clear q
              refine wpAnyH_ready (rs := [8]) (by as_aux_lemma => kernel_rfl) (by simp) ?_
              refine AllReadyH.cons rfl (fun K hK => ?_) AllReadyH.nil
              have d := (Below.refl y80.heap.size y80).alloc (Nat.le_refl _) (.cells #[.string ⟨#[]⟩, .int .i64 0, .int .u16 0, .string ⟨#[]⟩, .int .i64 0] 24)
              have hb9 : EBlk (y80.alloc (.cells #[.string ⟨#[]⟩, .int .i64 0, .int .u16 0, .string ⟨#[]⟩, .int .i64 0] 24)) y80.heap.size zeroE := EBlk.new y80 zeroE
              have l0 := hS.1.lt; have l1 := hS.2.1.lt; have l2 := hS.2.2.1.lt; have l3 := hS.2.2.2.lt
              have m0 := hb8.lt
              have m1 := hb10.lt
              go_simp
              refine hK.out _ _ ?_ (fun hS => ?_)
              · exact ⟨hS.1.on d, hS.2.1.on d, hS.2.2.1.on d, hS.2.2.2.on d⟩
              clear hK K
              replace hb8 := hb8.on d
              replace hb10 := hb10.on d
              have HNb9 : Hid (A ≠ y80.heap.size ∧ A + 1 ≠ y80.heap.size ∧ A + 1 + 1 ≠ y80.heap.size ∧ b7 ≠ y80.heap.size ∧ A ≤ y80.heap.size ∧ b8 ≠ y80.heap.size ∧ b10 ≠ y80.heap.size) := Lib.hid (by omega)
              replace HQ := Lib.hid (HQ.out.trans (d.mono (HAs.out ▸ HQ.out.size)))
              clear d l0 l1 l2 l3 m0 m1
              generalize hy : y80.alloc (.cells #[.string ⟨#[]⟩, .int .i64 0, .int .u16 0, .string ⟨#[]⟩, .int .i64 0] 24) = y81 at *
              clear hy
              generalize y80.heap.size = b9 at *
              refine wpAnyH_ready (rs := [10]) (by as_aux_lemma => kernel_rfl) (by simp) ?_
              refine AllReadyH.cons rfl (fun K hK => ?_) AllReadyH.nil
              have f0 := hb9.f 0; have f1 := hb9.f 1; have f2 := hb9.f 2; have f3 := hb9.f 3; have f4 := hb9.f 4
              have x0 := hb9.c0; have x1 := hb9.c1; have x2 := hb9.c2; have x3 := hb9.c3; have x4 := hb9.c4
              dsimp only [zeroE] at x0 x1 x2 x3 x4
              go_simp
              clear f0 f1 f2 f3 f4 x0 x1 x2 x3 x4
              obtain ⟨i0, i1, i2, i3, iA, j0, j1⟩ := HNb9.out
              refine hK.out _ _ ?_ (fun hS => ?_)
              · exact ⟨hS.1.stOther i0 (⟨ks, ts, os, vs, us⟩ : Ent), hS.2.1.stOther i1 (⟨ks, ts, os, vs, us⟩ : Ent), hS.2.2.1.stOther i2 (⟨ks, ts, os, vs, us⟩ : Ent), hS.2.2.2.stOther i3 (⟨ks, ts, os, vs, us⟩ : Ent)⟩
              clear hK K
              replace hb8 := hb8.stOther j0 (⟨ks, ts, os, vs, us⟩ : Ent)
              replace hb10 := hb10.stOther j1 (⟨ks, ts, os, vs, us⟩ : Ent)
              replace hb9 := hb9.store (⟨ks, ts, os, vs, us⟩ : Ent)
              replace HQ := Lib.hid (stE_below HQ.out iA (⟨ks, ts, os, vs, us⟩ : Ent))
              clear iA i0 i1 i2 i3 j0 j1
              dsimp only [stE] at *
              generalize hy : (((((World.setCell y81 ⟨b9, 0, none⟩ (.string ks)).setCell ⟨b9, 1, none⟩ (.int .i64 ts)).setCell ⟨b9, 2, none⟩ (.int .u16 os)).setCell ⟨b9, 3, none⟩ (.string vs)).setCell ⟨b9, 4, none⟩ (.int .i64 us)) = y82 at *
              clear hy
              refine wpAnyH_ready (rs := [11]) (by as_aux_lemma => kernel_rfl) (by simp) ?_
              refine AllReadyH.cons rfl (fun K hK => ?_) AllReadyH.nil
              have f0 := hb10.f 0; have f1 := hb10.f 1; have f2 := hb10.f 2; have f3 := hb10.f 3; have f4 := hb10.f 4
              have x0 := hb10.c0; have x1 := hb10.c1; have x2 := hb10.c2; have x3 := hb10.c3; have x4 := hb10.c4
              dsimp only [zeroE] at x0 x1 x2 x3 x4
              go_simp
              clear f0 f1 f2 f3 f4 x0 x1 x2 x3 x4
              obtain ⟨i0, i1, i2, i3, iA, j0⟩ := HNb10.out
              refine hK.out _ _ ?_ (fun hS => ?_)
              · exact ⟨hS.1.stOther i0 (⟨ks, ts, os, vs, us⟩ : Ent), hS.2.1.stOther i1 (⟨ks, ts, os, vs, us⟩ : Ent), hS.2.2.1.stOther i2 (⟨ks, ts, os, vs, us⟩ : Ent), hS.2.2.2.stOther i3 (⟨ks, ts, os, vs, us⟩ : Ent)⟩
              clear hK K
              replace hb8 := hb8.stOther j0 (⟨ks, ts, os, vs, us⟩ : Ent)
              replace hb9 := hb9.stOther (fun e => HNb9.out.2.2.2.2.2.2 e.symm) (⟨ks, ts, os, vs, us⟩ : Ent)
              replace hb10 := hb10.store (⟨ks, ts, os, vs, us⟩ : Ent)
              replace HQ := Lib.hid (stE_below HQ.out iA (⟨ks, ts, os, vs, us⟩ : Ent))
              clear iA i0 i1 i2 i3 j0
              dsimp only [stE] at *
              generalize hy : (((((World.setCell y82 ⟨b10, 0, none⟩ (.string ks)).setCell ⟨b10, 1, none⟩ (.int .i64 ts)).setCell ⟨b10, 2, none⟩ (.int .u16 os)).setCell ⟨b10, 3, none⟩ (.string vs)).setCell ⟨b10, 4, none⟩ (.int .i64 us)) = y83 at *
              clear hy
              refine wpAnyH_done (by kernel_rfl) ?_ _
              exact ⟨rfl, b9, b10, rfl, hS.1, hS.2.1, hS.2.2.1, hS.2.2.2, hb8, hb9, hb10, HQ.out⟩
            · skip
              have d := (Below.refl y79.heap.size y79).alloc (Nat.le_refl _) (.cells #[.string ⟨#[]⟩, .int .i64 0, .int .u16 0, .string ⟨#[]⟩, .int .i64 0] 24)
              have hb9 : EBlk (y79.alloc (.cells #[.string ⟨#[]⟩, .int .i64 0, .int .u16 0, .string ⟨#[]⟩, .int .i64 0] 24)) y79.heap.size zeroE := EBlk.new y79 zeroE
              have l0 := hS.1.lt; have l1 := hS.2.1.lt; have l2 := hS.2.2.1.lt; have l3 := hS.2.2.2.lt
              have m0 := hb8.lt
              have m1 := hb10.lt
              go_simp
              refine hK.out _ _ ?_ (fun hS => ?_)
              · exact ⟨hS.1.on d, hS.2.1.on d, hS.2.2.1.on d, hS.2.2.2.on d⟩
              clear hK K
              replace hb8 := hb8.on d
              replace hb10 := hb10.on d
              have HNb9 : Hid (A ≠ y79.heap.size ∧ A + 1 ≠ y79.heap.size ∧ A + 1 + 1 ≠ y79.heap.size ∧ b7 ≠ y79.heap.size ∧ A ≤ y79.heap.size ∧ b8 ≠ y79.heap.size ∧ b10 ≠ y79.heap.size) := Lib.hid (by omega)
              replace HQ := Lib.hid (HQ.out.trans (d.mono (HAs.out ▸ HQ.out.size)))
              clear d l0 l1 l2 l3 m0 m1
              generalize hy : y79.alloc (.cells #[.string ⟨#[]⟩, .int .i64 0, .int .u16 0, .string ⟨#[]⟩, .int .i64 0] 24) = y84 at *
              clear hy
              generalize y79.heap.size = b9 at *
              refine wpAnyH_ready (rs := [7]) (by as_aux_lemma => kernel_rfl) (by simp) ?_
              refine AllReadyH.cons rfl (fun K hK => ?_) AllReadyH.nil
              go_simp
              go_wp2_with (go_at_call 9; refine (HXR.out _).mono ?_; rintro e y85 ⟨rfl, q⟩)
              refine hK.out _ _ ?_ (fun hS => ?_)
              · exact ⟨hS.1.on q, hS.2.1.on q, hS.2.2.1.on q, hS.2.2.2.on q⟩
              clear hK K
              replace hb8 := hb8.on q
              replace hb10 := hb10.on q
              replace hb9 := hb9.on q
              replace HQ := Lib.hid (HQ.out.trans (q.mono (HAs.out ▸ HQ.out.size)))
              clear q
              refine wpAnyH_ready (rs := [10]) (by as_aux_lemma => kernel_rfl) (by simp) ?_
              refine AllReadyH.cons rfl (fun K hK => ?_) AllReadyH.nil
              have f0 := hb9.f 0; have f1 := hb9.f 1; have f2 := hb9.f 2; have f3 := hb9.f 3; have f4 := hb9.f 4
              have x0 := hb9.c0; have x1 := hb9.c1; have x2 := hb9.c2; have x3 := hb9.c3; have x4 := hb9.c4
              dsimp only [zeroE] at x0 x1 x2 x3 x4
              go_simp
              clear f0 f1 f2 f3 f4 x0 x1 x2 x3 x4
              obtain ⟨i0, i1, i2, i3, iA, j0, j1⟩ := HNb9.out
              refine hK.out _ _ ?_ (fun hS => ?_)
              · exact ⟨hS.1.stOther i0 (⟨ks, ts, os, vs, us⟩ : Ent), hS.2.1.stOther i1 (⟨ks, ts, os, vs, us⟩ : Ent), hS.2.2.1.stOther i2 (⟨ks, ts, os, vs, us⟩ : Ent), hS.2.2.2.stOther i3 (⟨ks, ts, os, vs, us⟩ : Ent)⟩
              clear hK K
              replace hb8 := hb8.stOther j0 (⟨ks, ts, os, vs, us⟩ : Ent)
              replace hb10 := hb10.stOther j1 (⟨ks, ts, os, vs, us⟩ : Ent)
              replace hb9 := hb9.store (⟨ks, ts, os, vs, us⟩ : Ent)
              replace HQ := Lib.hid (stE_below HQ.out iA (⟨ks, ts, os, vs, us⟩ : Ent))
              clear iA i0 i1 i2 i3 j0 j1
              dsimp only [stE] at *
              generalize hy : (((((World.setCell y85 ⟨b9, 0, none⟩ (.string ks)).setCell ⟨b9, 1, none⟩ (.int .i64 ts)).setCell ⟨b9, 2, none⟩ (.int .u16 os)).setCell ⟨b9, 3, none⟩ (.string vs)).setCell ⟨b9, 4, none⟩ (.int .i64 us)) = y86 at *
              clear hy
              refine wpAnyH_ready (rs := [11]) (by as_aux_lemma => kernel_rfl) (by simp) ?_
              refine AllReadyH.cons rfl (fun K hK => ?_) AllReadyH.nil
              have f0 := hb10.f 0; have f1 := hb10.f 1; have f2 := hb10.f 2; have f3 := hb10.f 3; have f4 := hb10.f 4
              have x0 := hb10.c0; have x1 := hb10.c1; have x2 := hb10.c2; have x3 := hb10.c3; have x4 := hb10.c4
              dsimp only [zeroE] at x0 x1 x2 x3 x4
              go_simp
              clear f0 f1 f2 f3 f4 x0 x1 x2 x3 x4
              obtain ⟨i0, i1, i2, i3, iA, j0⟩ := HNb10.out
              refine hK.out _ _ ?_ (fun hS => ?_)
              · exact ⟨hS.1.stOther i0 (⟨ks, ts, os, vs, us⟩ : Ent), hS.2.1.stOther i1 (⟨ks, ts, os, vs, us⟩ : Ent), hS.2.2.1.stOther i2 (⟨ks, ts, os, vs, us⟩ : Ent), hS.2.2.2.stOther i3 (⟨ks, ts, os, vs, us⟩ : Ent)⟩
              clear hK K
              replace hb8 := hb8.stOther j0 (⟨ks, ts, os, vs, us⟩ : Ent)
              replace hb9 := hb9.stOther (fun e => HNb9.out.2.2.2.2.2.2 e.symm) (⟨ks, ts, os, vs, us⟩ : Ent)
              replace hb10 := hb10.store (⟨ks, ts, os, vs, us⟩ : Ent)
              replace HQ := Lib.hid (stE_below HQ.out iA (⟨ks, ts, os, vs, us⟩ : Ent))
              clear iA i0 i1 i2 i3 j0
              dsimp only [stE] at *
              generalize hy : (((((World.setCell y86 ⟨b10, 0, none⟩ (.string ks)).setCell ⟨b10, 1, none⟩ (.int .i64 ts)).setCell ⟨b10, 2, none⟩ (.int .u16 os)).setCell ⟨b10, 3, none⟩ (.string vs)).setCell ⟨b10, 4, none⟩ (.int .i64 us)) = y87 at *
              clear hy
              refine wpAnyH_done (by kernel_rfl) ?_ _
              exact ⟨rfl, b9, b10, rfl, hS.1, hS.2.1, hS.2.2.1, hS.2.2.2, hb8, hb9, hb10, HQ.out⟩
        · skip
          have d := (Below.refl y59.heap.size y59).alloc (Nat.le_refl _) (.cells #[.string ⟨#[]⟩, .int .i64 0, .int .u16 0, .string ⟨#[]⟩, .int .i64 0] 24)
          have hb9 : EBlk (y59.alloc (.cells #[.string ⟨#[]⟩, .int .i64 0, .int .u16 0, .string ⟨#[]⟩, .int .i64 0] 24)) y59.heap.size zeroE := EBlk.new y59 zeroE
          have l0 := hS.1.lt; have l1 := hS.2.1.lt; have l2 := hS.2.2.1.lt; have l3 := hS.2.2.2.lt
          have m0 := hb8.lt
          go_simp
          refine hK.out _ _ ?_ (fun hS => ?_)
          · exact ⟨hS.1.on d, hS.2.1.on d, hS.2.2.1.on d, hS.2.2.2.on d⟩
          clear hK K
          replace hb8 := hb8.on d
          have HNb9 : Hid (A ≠ y59.heap.size ∧ A + 1 ≠ y59.heap.size ∧ A + 1 + 1 ≠ y59.heap.size ∧ b7 ≠ y59.heap.size ∧ A ≤ y59.heap.size ∧ b8 ≠ y59.heap.size) := Lib.hid (by omega)
          replace HQ := Lib.hid (HQ.out.trans (d.mono (HAs.out ▸ HQ.out.size)))
          clear d l0 l1 l2 l3 m0
          generalize hy : y59.alloc (.cells #[.string ⟨#[]⟩, .int .i64 0, .int .u16 0, .string ⟨#[]⟩, .int .i64 0] 24) = y88 at *
          clear hy
          generalize y59.heap.size = b9 at *
          refine wpAnyH_ready (rs := [6, 9]) (by as_aux_lemma => kernel_rfl) (by simp) ?_
          refine AllReadyH.cons rfl (fun K hK => ?_) (AllReadyH.cons rfl (fun K hK => ?_) AllReadyH.nil)
          · skip
            go_simp
            go_wp2_with (go_at_call 9; refine (HYZ.out _).mono ?_; rintro e y89 ⟨rfl, q⟩)
            refine hK.out _ _ ?_ (fun hS => ?_)
            · exact ⟨hS.1.on q, hS.2.1.on q, hS.2.2.1.on q, hS.2.2.2.on q⟩
            clear hK K
            replace hb8 := hb8.on q
            replace hb9 := hb9.on q
            replace HQ := Lib.hid (HQ.out.trans (q.mono (HAs.out ▸ HQ.out.size)))
            clear q
            refine wpAnyH_ready (rs := [7, 9]) (by as_aux_lemma => kernel_rfl) (by simp) ?_
            refine AllReadyH.cons rfl (fun K hK => ?_) (AllReadyH.cons rfl (fun K hK => ?_) AllReadyH.nil)
            · skip
              go_simp
              go_wp2_with (go_at_call 9; refine (HXR.out _).mono ?_; rintro e y90 ⟨rfl, q⟩)
              refine hK.out _ _ ?_ (fun hS => ?_)
              · exact ⟨hS.1.on q, hS.2.1.on q, hS.2.2.1.on q, hS.2.2.2.on q⟩
              clear hK K
              replace hb8 := hb8.on q
              replace hb9 := hb9.on q
              replace HQ := Lib.hid (HQ.out.trans (q.mono (HAs.out ▸ HQ.out.size)))
              clear q
              refine wpAnyH_ready (rs := [9]) (by as_aux_lemma => kernel_rfl) (by simp) ?_
              refine AllReadyH.cons rfl (fun K hK => ?_) AllReadyH.nil
              have d := (Below.refl y90.heap.size y90).alloc (Nat.le_refl _) (.cells #[.string ⟨#[]⟩, .int .i64 0, .int .u16 0, .string ⟨#[]⟩, .int .i64 0] 24)
              have hb10 : EBlk (y90.alloc (.cells #[.string ⟨#[]⟩, .int .i64 0, .int .u16 0, .string ⟨#[]⟩, .int .i64 0] 24)) y90.heap.size zeroE := EBlk.new y90 zeroE
              have l0 := hS.1.lt; have l1 := hS.2.1.lt; have l2 := hS.2.2.1.lt; have l3 := hS.2.2.2.lt
              have m0 := hb8.lt
              have m1 := hb9.lt
              go_simp
              refine hK.out _ _ ?_ (fun hS => ?_)
              · exact ⟨hS.1.on d, hS.2.1.on d, hS.2.2.1.on d, hS.2.2.2.on d⟩
              clear hK K
              replace hb8 := hb8.on d
              replace hb9 := hb9.on d
              have HNb10 : Hid (A ≠ y90.heap.size ∧ A + 1 ≠ y90.heap.size ∧ A + 1 + 1 ≠ y90.heap.size ∧ b7 ≠ y90.heap.size ∧ A ≤ y90.heap.size ∧ b8 ≠ y90.heap.size ∧ b9 ≠ y90.heap.size) := Lib.hid (by omega)
              replace HQ := Lib.hid (HQ.out.trans (d.mono (HAs.out ▸ HQ.out.size)))
              clear d l0 l1 l2 l3 m0 m1
              generalize hy : y90.alloc (.cells #[.string ⟨#[]⟩, .int .i64 0, .int .u16 0, .string ⟨#[]⟩, .int .i64 0] 24) = y91 at *
              clear hy
              generalize y90.heap.size = b10 at *
              refine wpAnyH_ready (rs := [10]) (by as_aux_lemma => kernel_rfl) (by simp) ?_
              refine AllReadyH.cons rfl (fun K hK => ?_) AllReadyH.nil
              have f0 := hb9.f 0; have f1 := hb9.f 1; have f2 := hb9.f 2; have f3 := hb9.f 3; have f4 := hb9.f 4
              have x0 := hb9.c0; have x1 := hb9.c1; have x2 := hb9.c2; have x3 := hb9.c3; have x4 := hb9.c4
              dsimp only [zeroE] at x0 x1 x2 x3 x4
              go_simp
              clear f0 f1 f2 f3 f4 x0 x1 x2 x3 x4
              obtain ⟨i0, i1, i2, i3, iA, j0⟩ := HNb9.out
              refine hK.out _ _ ?_ (fun hS => ?_)
              · exact ⟨hS.1.stOther i0 (⟨ks, ts, os, vs, us⟩ : Ent), hS.2.1.stOther i1 (⟨ks, ts, os, vs, us⟩ : Ent), hS.2.2.1.stOther i2 (⟨ks, ts, os, vs, us⟩ : Ent), hS.2.2.2.stOther i3 (⟨ks, ts, os, vs, us⟩ : Ent)⟩
              clear hK K
              replace hb8 := hb8.stOther j0 (⟨ks, ts, os, vs, us⟩ : Ent)
              replace hb10 := hb10.stOther (fun e => HNb10.out.2.2.2.2.2.2 e.symm) (⟨ks, ts, os, vs, us⟩ : Ent)
              replace hb9 := hb9.store (⟨ks, ts, os, vs, us⟩ : Ent)
              replace HQ := Lib.hid (stE_below HQ.out iA (⟨ks, ts, os, vs, us⟩ : Ent))
              clear iA i0 i1 i2 i3 j0
              dsimp only [stE] at *
              generalize hy : (((((World.setCell y91 ⟨b9, 0, none⟩ (.string ks)).setCell ⟨b9, 1, none⟩ (.int .i64 ts)).setCell ⟨b9, 2, none⟩ (.int .u16 os)).setCell ⟨b9, 3, none⟩ (.string vs)).setCell ⟨b9, 4, none⟩ (.int .i64 us)) = y92 at *
              clear hy
              refine wpAnyH_ready (rs := [11]) (by as_aux_lemma => kernel_rfl) (by simp) ?_
              refine AllReadyH.cons rfl (fun K hK => ?_) AllReadyH.nil
              have f0 := hb10.f 0; have f1 := hb10.f 1; have f2 := hb10.f 2; have f3 := hb10.f 3; have f4 := hb10.f 4
              have x0 := hb10.c0; have x1 := hb10.c1; have x2 := hb10.c2; have x3 := hb10.c3; have x4 := hb10.c4
              dsimp only [zeroE] at x0 x1 x2 x3 x4
              go_simp
              clear f0 f1 f2 f3 f4 x0 x1 x2 x3 x4
              obtain ⟨i0, i1, i2, i3, iA, j0, j1⟩ := HNb10.out
              refine hK.out _ _ ?_ (fun hS => ?_)
              · exact ⟨hS.1.stOther i0 (⟨ks, ts, os, vs, us⟩ : Ent), hS.2.1.stOther i1 (⟨ks, ts, os, vs, us⟩ : Ent), hS.2.2.1.stOther i2 (⟨ks, ts, os, vs, us⟩ : Ent), hS.2.2.2.stOther i3 (⟨ks, ts, os, vs, us⟩ : Ent)⟩
              clear hK K
              replace hb8 := hb8.stOther j0 (⟨ks, ts, os, vs, us⟩ : Ent)
              replace hb9 := hb9.stOther j1 (⟨ks, ts, os, vs, us⟩ : Ent)
              replace hb10 := hb10.store (⟨ks, ts, os, vs, us⟩ : Ent)
              replace HQ := Lib.hid (stE_below HQ.out iA (⟨ks, ts, os, vs, us⟩ : Ent))
              clear iA i0 i1 i2 i3 j0 j1
              dsimp only [stE] at *
              generalize hy : (((((World.setCell y92 ⟨b10, 0, none⟩ (.string ks)).setCell ⟨b10, 1, none⟩ (.int .i64 ts)).setCell ⟨b10, 2, none⟩ (.int .u16 os)).setCell ⟨b10, 3, none⟩ (.string vs)).setCell ⟨b10, 4, none⟩ (.int .i64 us)) = y93 at *
              clear hy
              refine wpAnyH_done (by kernel_rfl) ?_ _
              exact ⟨rfl, b9, b10, rfl, hS.1, hS.2.1, hS.2.2.1, hS.2.2.2, hb8, hb9, hb10, HQ.out⟩
            · skip
              have d := (Below.refl y89.heap.size y89).alloc (Nat.le_refl _) (.cells #[.string ⟨#[]⟩, .int .i64 0, .int .u16 0, .string ⟨#[]⟩, .int .i64 0] 24)
              have hb10 : EBlk (y89.alloc (.cells #[.string ⟨#[]⟩, .int .i64 0, .int .u16 0, .string ⟨#[]⟩, .int .i64 0] 24)) y89.heap.size zeroE := EBlk.new y89 zeroE
              have l0 := hS.1.lt; have l1 := hS.2.1.lt; have l2 := hS.2.2.1.lt; have l3 := hS.2.2.2.lt
              have m0 := hb8.lt
              have m1 := hb9.lt
              go_simp
              refine hK.out _ _ ?_ (fun hS => ?_)
              · exact ⟨hS.1.on d, hS.2.1.on d, hS.2.2.1.on d, hS.2.2.2.on d⟩
              clear hK K
              replace hb8 := hb8.on d
              replace hb9 := hb9.on d
              have HNb10 : Hid (A ≠ y89.heap.size ∧ A + 1 ≠ y89.heap.size ∧ A + 1 + 1 ≠ y89.heap.size ∧ b7 ≠ y89.heap.size ∧ A ≤ y89.heap.size ∧ b8 ≠ y89.heap.size ∧ b9 ≠ y89.heap.size) := Lib.hid (by omega)
              replace HQ := Lib.hid (HQ.out.trans (d.mono (HAs.out ▸ HQ.out.size)))
              clear d l0 l1 l2 l3 m0 m1
              generalize hy : y89.alloc (.cells #[.string ⟨#[]⟩, .int .i64 0, .int .u16 0, .string ⟨#[]⟩, .int .i64 0] 24) = y94 at *
              clear hy
              generalize y89.heap.size = b10 at *
              refine wpAnyH_ready (rs := [7]) (by as_aux_lemma => kernel_rfl) (by simp) ?_
              refine AllReadyH.cons rfl (fun K hK => ?_) AllReadyH.nil
              go_simp
              go_wp2_with (go_at_call 9; refine (HXR.out _).mono ?_; rintro e y95 ⟨rfl, q⟩)
              refine hK.out _ _ ?_ (fun hS => ?_)
              · exact ⟨hS.1.on q, hS.2.1.on q, hS.2.2.1.on q, hS.2.2.2.on q⟩
              clear hK K
              replace hb8 := hb8.on q
              replace hb9 := hb9.on q
              replace hb10 := hb10.on q
              replace HQ := Lib.hid (HQ.out.trans (q.mono (HAs.out ▸ HQ.out.size)))
              clear q
              refine wpAnyH_ready (rs := [10]) (by as_aux_lemma => kernel_rfl) (by simp) ?_
              refine AllReadyH.cons rfl (fun K hK => ?_) AllReadyH.nil
              have f0 := hb9.f 0; have f1 := hb9.f 1; have f2 := hb9.f 2; have f3 := hb9.f 3; have f4 := hb9.f 4
              have x0 := hb9.c0; have x1 := hb9.c1; have x2 := hb9.c2; have x3 := hb9.c3; have x4 := hb9.c4
              dsimp only [zeroE] at x0 x1 x2 x3 x4
              go_simp
              clear f0 f1 f2 f3 f4 x0 x1 x2 x3 x4
              obtain ⟨i0, i1, i2, i3, iA, j0⟩ := HNb9.out
              refine hK.out _ _ ?_ (fun hS => ?_)
              · exact ⟨hS.1.stOther i0 (⟨ks, ts, os, vs, us⟩ : Ent), hS.2.1.stOther i1 (⟨ks, ts, os, vs, us⟩ : Ent), hS.2.2.1.stOther i2 (⟨ks, ts, os, vs, us⟩ : Ent), hS.2.2.2.stOther i3 (⟨ks, ts, os, vs, us⟩ : Ent)⟩
              clear hK K
              replace hb8 := hb8.stOther j0 (⟨ks, ts, os, vs, us⟩ : Ent)
              replace hb10 := hb10.stOther (fun e => HNb10.out.2.2.2.2.2.2 e.symm) (⟨ks, ts, os, vs, us⟩ : Ent)
              replace hb9 := hb9.store (⟨ks, ts, os, vs, us⟩ : Ent)
              replace HQ := Lib.hid (stE_below HQ.out iA (⟨ks, ts, os, vs, us⟩ : Ent))
              clear iA i0 i1 i2 i3 j0
              dsimp only [stE] at *
              generalize hy : (((((World.setCell y95 ⟨b9, 0, none⟩ (.string ks)).setCell ⟨b9, 1, none⟩ (.int .i64 ts)).setCell ⟨b9, 2, none⟩ (.int .u16 os)).setCell ⟨b9, 3, none⟩ (.string vs)).setCell ⟨b9, 4, none⟩ (.int .i64 us)) = y96 at *
              clear hy
              refine wpAnyH_ready (rs := [11]) (by as_aux_lemma => kernel_rfl) (by simp) ?_
              refine AllReadyH.cons rfl (fun K hK => ?_) AllReadyH.nil
              have f0 := hb10.f 0; have f1 := hb10.f 1; have f2 := hb10.f 2; have f3 := hb10.f 3; have f4 := hb10.f 4
              have x0 := hb10.c0; have x1 := hb10.c1; have x2 := hb10.c2; have x3 := hb10.c3; have x4 := hb10.c4
              dsimp only [zeroE] at x0 x1 x2 x3 x4
              go_simp
              clear f0 f1 f2 f3 f4 x0 x1 x2 x3 x4
              obtain ⟨i0, i1, i2, i3, iA, j0, j1⟩ := HNb10.out
              refine hK.out _ _ ?_ (fun hS => ?_)
              · exact ⟨hS.1.stOther i0 (⟨ks, ts, os, vs, us⟩ : Ent), hS.2.1.stOther i1 (⟨ks, ts, os, vs, us⟩ : Ent), hS.2.2.1.stOther i2 (⟨ks, ts, os, vs, us⟩ : Ent), hS.2.2.2.stOther i3 (⟨ks, ts, os, vs, us⟩ : Ent)⟩
              clear hK K
              replace hb8 := hb8.stOther j0 (⟨ks, ts, os, vs, us⟩ : Ent)
              replace hb9 := hb9.stOther j1 (⟨ks, ts, os, vs, us⟩ : Ent)
              replace hb10 := hb10.store (⟨ks, ts, os, vs, us⟩ : Ent)
              replace HQ := Lib.hid (stE_below HQ.out iA (⟨ks, ts, os, vs, us⟩ : Ent))
              clear iA i0 i1 i2 i3 j0 j1
              dsimp only [stE] at *
              generalize hy : (((((World.setCell y96 ⟨b10, 0, none⟩ (.string ks)).setCell ⟨b10, 1, none⟩ (.int .i64 ts)).setCell ⟨b10, 2, none⟩ (.int .u16 os)).setCell ⟨b10, 3, none⟩ (.string vs)).setCell ⟨b10, 4, none⟩ (.int .i64 us)) = y97 at *
              clear hy
              refine wpAnyH_done (by kernel_rfl) ?_ _
              exact ⟨rfl, b9, b10, rfl, hS.1, hS.2.1, hS.2.2.1, hS.2.2.2, hb8, hb9, hb10, HQ.out⟩
          · skip
            have d := (Below.refl y88.heap.size y88).alloc (Nat.le_refl _) (.cells #[.string ⟨#[]⟩, .int .i64 0, .int .u16 0, .string ⟨#[]⟩, .int .i64 0] 24)
            have hb10 : EBlk (y88.alloc (.cells #[.string ⟨#[]⟩, .int .i64 0, .int .u16 0, .string ⟨#[]⟩, .int .i64 0] 24)) y88.heap.size zeroE := EBlk.new y88 zeroE
            have l0 := hS.1.lt; have l1 := hS.2.1.lt; have l2 := hS.2.2.1.lt; have l3 := hS.2.2.2.lt
            have m0 := hb8.lt
            have m1 := hb9.lt
            go_simp
            refine hK.out _ _ ?_ (fun hS => ?_)
            · exact ⟨hS.1.on d, hS.2.1.on d, hS.2.2.1.on d, hS.2.2.2.on d⟩
            clear hK K
            replace hb8 := hb8.on d
            replace hb9 := hb9.on d
            have HNb10 : Hid (A ≠ y88.heap.size ∧ A + 1 ≠ y88.heap.size ∧ A + 1 + 1 ≠ y88.heap.size ∧ b7 ≠ y88.heap.size ∧ A ≤ y88.heap.size ∧ b8 ≠ y88.heap.size ∧ b9 ≠ y88.heap.size) := Lib.hid (by omega)
            replace HQ := Lib.hid (HQ.out.trans (d.mono (HAs.out ▸ HQ.out.size)))
            clear d l0 l1 l2 l3 m0 m1
            generalize hy : y88.alloc (.cells #[.string ⟨#[]⟩, .int .i64 0, .int .u16 0, .string ⟨#[]⟩, .int .i64 0] 24) = y98 at *
            clear hy
            generalize y88.heap.size = b10 at *
            refine wpAnyH_ready (rs := [6]) (by as_aux_lemma => kernel_rfl) (by simp) ?_
            refine AllReadyH.cons rfl (fun K hK => ?_) AllReadyH.nil
            go_simp
            go_wp2_with (go_at_call 9; refine (HYZ.out _).mono ?_; rintro e y99 ⟨rfl, q⟩)
            refine hK.out _ _ ?_ (fun hS => ?_)
            · exact ⟨hS.1.on q, hS.2.1.on q, hS.2.2.1.on q, hS.2.2.2.on q⟩
            clear hK K
            replace hb8 := hb8.on q
            replace hb9 := hb9.on q
            replace hb10 := hb10.on q
            replace HQ := Lib.hid (HQ.out.trans (q.mono (HAs.out ▸ HQ.out.size)))
            clear q
            refine wpAnyH_ready (rs := [7]) (by as_aux_lemma => kernel_rfl) (by simp) ?_
            refine AllReadyH.cons rfl (fun K hK => ?_) AllReadyH.nil
            go_simp
            go_wp2_with (go_at_call 9; refine (HXR.out _).mono ?_; rintro e y100 ⟨rfl, q⟩)
            refine hK.out _ _ ?_ (fun hS => ?_)
            · exact ⟨hS.1.on q, hS.2.1.on q, hS.2.2.1.on q, hS.2.2.2.on q⟩
            clear hK K
            replace hb8 := hb8.on q
            replace hb9 := hb9.on q
            replace hb10 := hb10.on q
            replace HQ := Lib.hid (HQ.out.trans (q.mono (HAs.out ▸ HQ.out.size)))
            clear q
            refine wpAnyH_ready (rs := [10]) (by as_aux_lemma => kernel_rfl) (by simp) ?_
            refine AllReadyH.cons rfl (fun K hK => ?_) AllReadyH.nil
            have f0 := hb9.f 0; have f1 := hb9.f 1; have f2 := hb9.f 2; have f3 := hb9.f 3; have f4 := hb9.f 4
            have x0 := hb9.c0; have x1 := hb9.c1; have x2 := hb9.c2; have x3 := hb9.c3; have x4 := hb9.c4
            dsimp only [zeroE] at x0 x1 x2 x3 x4
            go_simp
            clear f0 f1 f2 f3 f4 x0 x1 x2 x3 x4
            obtain ⟨i0, i1, i2, i3, iA, j0⟩ := HNb9.out
            refine hK.out _ _ ?_ (fun hS => ?_)
            · exact ⟨hS.1.stOther i0 (⟨ks, ts, os, vs, us⟩ : Ent), hS.2.1.stOther i1 (⟨ks, ts, os, vs, us⟩ : Ent), hS.2.2.1.stOther i2 (⟨ks, ts, os, vs, us⟩ : Ent), hS.2.2.2.stOther i3 (⟨ks, ts, os, vs, us⟩ : Ent)⟩
            clear hK K
            replace hb8 := hb8.stOther j0 (⟨ks, ts, os, vs, us⟩ : Ent)
            replace hb10 := hb10.stOther (fun e => HNb10.out.2.2.2.2.2.2 e.symm) (⟨ks, ts, os, vs, us⟩ : Ent)
            replace hb9 := hb9.store (⟨ks, ts, os, vs, us⟩ : Ent)
            replace HQ := Lib.hid (stE_below HQ.out iA (⟨ks, ts, os, vs, us⟩ : Ent))
            clear iA i0 i1 i2 i3 j0
            dsimp only [stE] at *
            generalize hy : (((((World.setCell y100 ⟨b9, 0, none⟩ (.string ks)).setCell ⟨b9, 1, none⟩ (.int .i64 ts)).setCell ⟨b9, 2, none⟩ (.int .u16 os)).setCell ⟨b9, 3, none⟩ (.string vs)).setCell ⟨b9, 4, none⟩ (.int .i64 us)) = y101 at *
            clear hy
            refine wpAnyH_ready (rs := [11]) (by as_aux_lemma => kernel_rfl) (by simp) ?_
            refine AllReadyH.cons rfl (fun K hK => ?_) AllReadyH.nil
            have f0 := hb10.f 0; have f1 := hb10.f 1; have f2 := hb10.f 2; have f3 := hb10.f 3; have f4 := hb10.f 4
            have x0 := hb10.c0; have x1 := hb10.c1; have x2 := hb10.c2; have x3 := hb10.c3; have x4 := hb10.c4
            dsimp only [zeroE] at x0 x1 x2 x3 x4
            go_simp
            clear f0 f1 f2 f3 f4 x0 x1 x2 x3 x4
            obtain ⟨i0, i1, i2, i3, iA, j0, j1⟩ := HNb10.out
            refine hK.out _ _ ?_ (fun hS => ?_)
            · exact ⟨hS.1.stOther i0 (⟨ks, ts, os, vs, us⟩ : Ent), hS.2.1.stOther i1 (⟨ks, ts, os, vs, us⟩ : Ent), hS.2.2.1.stOther i2 (⟨ks, ts, os, vs, us⟩ : Ent), hS.2.2.2.stOther i3 (⟨ks, ts, os, vs, us⟩ : Ent)⟩
            clear hK K
            replace hb8 := hb8.stOther j0 (⟨ks, ts, os, vs, us⟩ : Ent)
            replace hb9 := hb9.stOther j1 (⟨ks, ts, os, vs, us⟩ : Ent)
            replace hb10 := hb10.store (⟨ks, ts, os, vs, us⟩ : Ent)
            replace HQ := Lib.hid (stE_below HQ.out iA (⟨ks, ts, os, vs, us⟩ : Ent))
            clear iA i0 i1 i2 i3 j0 j1
            dsimp only [stE] at *
            generalize hy : (((((World.setCell y101 ⟨b10, 0, none⟩ (.string ks)).setCell ⟨b10, 1, none⟩ (.int .i64 ts)).setCell ⟨b10, 2, none⟩ (.int .u16 os)).setCell ⟨b10, 3, none⟩ (.string vs)).setCell ⟨b10, 4, none⟩ (.int .i64 us)) = y102 at *
            clear hy
            refine wpAnyH_done (by kernel_rfl) ?_ _
            exact ⟨rfl, b9, b10, rfl, hS.1, hS.2.1, hS.2.2.1, hS.2.2.2, hb8, hb9, hb10, HQ.out⟩
        · skip
          have d := (Below.refl y59.heap.size y59).alloc (Nat.le_refl _) (.cells #[.string ⟨#[]⟩, .int .i64 0, .int .u16 0, .string ⟨#[]⟩, .int .i64 0] 24)
          have hb10 : EBlk (y59.alloc (.cells #[.string ⟨#[]⟩, .int .i64 0, .int .u16 0, .string ⟨#[]⟩, .int .i64 0] 24)) y59.heap.size zeroE := EBlk.new y59 zeroE
          have l0 := hS.1.lt; have l1 := hS.2.1.lt; have l2 := hS.2.2.1.lt; have l3 := hS.2.2.2.lt
          have m0 := hb8.lt
          go_simp
          refine hK.out _ _ ?_ (fun hS => ?_)
          · exact ⟨hS.1.on d, hS.2.1.on d, hS.2.2.1.on d, hS.2.2.2.on d⟩
          clear hK K
          replace hb8 := hb8.on d
          have HNb10 : Hid (A ≠ y59.heap.size ∧ A + 1 ≠ y59.heap.size ∧ A + 1 + 1 ≠ y59.heap.size ∧ b7 ≠ y59.heap.size ∧ A ≤ y59.heap.size ∧ b8 ≠ y59.heap.size) := Lib.hid (by omega)
          replace HQ := Lib.hid (HQ.out.trans (d.mono (HAs.out ▸ HQ.out.size)))
          clear d l0 l1 l2 l3 m0
          generalize hy : y59.alloc (.cells #[.string ⟨#[]⟩, .int .i64 0, .int .u16 0, .string ⟨#[]⟩, .int .i64 0] 24) = y103 at *
          clear hy
          generalize y59.heap.size = b10 at *
          refine wpAnyH_ready (rs := [6, 8]) (by as_aux_lemma => kernel_rfl) (by simp) ?_
          refine AllReadyH.cons rfl (fun K hK => ?_) (AllReadyH.cons rfl (fun K hK => ?_) AllReadyH.nil)
          · skip
            go_simp
            go_wp2_with (go_at_call 9; refine (HYZ.out _).mono ?_; rintro e y104 ⟨rfl, q⟩)
            refine hK.out _ _ ?_ (fun hS => ?_)
            · exact ⟨hS.1.on q, hS.2.1.on q, hS.2.2.1.on q, hS.2.2.2.on q⟩
            clear hK K
            replace hb8 := hb8.on q
            replace hb10 := hb10.on q
            replace HQ := Lib.hid (HQ.out.trans (q.mono (HAs.out ▸ HQ.out.size)))
            clear q
            refine wpAnyH_ready (rs := [7, 8]) (by as_aux_lemma => kernel_rfl) (by simp) ?_
            refine AllReadyH.cons rfl (fun K hK => ?_) (AllReadyH.cons rfl (fun K hK => ?_) AllReadyH.nil)
            · skip
              go_simp
              go_wp2_with (go_at_call 9; refine (HXR.out _).mono ?_; rintro e y105 ⟨rfl, q⟩)
              refine hK.out _ _ ?_ (fun hS => ?_)
              · exact ⟨hS.1.on q, hS.2.1.on q, hS.2.2.1.on q, hS.2.2.2.on q⟩
              clear hK K
              replace hb8 := hb8.on q
              replace hb10 := hb10.on q
              replace HQ := Lib.hid (HQ.out.trans (q.mono (HAs.out ▸ HQ.out.size)))
              clear q
              refine wpAnyH_ready (rs := [8]) (by as_aux_lemma => kernel_rfl) (by simp) ?_
              refine AllReadyH.cons rfl (fun K hK => ?_) AllReadyH.nil
              have d := (Below.refl y105.heap.size y105).alloc (Nat.le_refl _) (.cells #[.string ⟨#[]⟩, .int .i64 0, .int .u16 0, .string ⟨#[]⟩, .int .i64 0] 24)
              have hb9 : EBlk (y105.alloc (.cells #[.string ⟨#[]⟩, .int .i64 0, .int .u16 0, .string ⟨#[]⟩, .int .i64 0] 24)) y105.heap.size zeroE := EBlk.new y105 zeroE
              have l0 := hS.1.lt; have l1 := hS.2.1.lt; have l2 := hS.2.2.1.lt; have l3 := hS.2.2.2.lt
              have m0 := hb8.lt
              have m1 := hb10.lt
              go_simp
              refine hK.out _ _ ?_ (fun hS => ?_)
              · exact ⟨hS.1.on d, hS.2.1.on d, hS.2.2.1.on d, hS.2.2.2.on d⟩
              clear hK K
              replace hb8 := hb8.on d
              replace hb10 := hb10.on d
              have HNb9 : Hid (A ≠ y105.heap.size ∧ A + 1 ≠ y105.heap.size ∧ A + 1 + 1 ≠ y105.heap.size ∧ b7 ≠ y105.heap.size ∧ A ≤ y105.heap.size ∧ b8 ≠ y105.heap.size ∧ b10 ≠ y105.heap.size) := Lib.hid (by omega)
              replace HQ := Lib.hid (HQ.out.trans (d.mono (HAs.out ▸ HQ.out.size)))
              clear d l0 l1 l2 l3 m0 m1
              generalize hy : y105.alloc (.cells #[.string ⟨#[]⟩, .int .i64 0, .int .u16 0, .string ⟨#[]⟩, .int .i64 0] 24) = y106 at *
              clear hy
              generalize y105.heap.size = b9 at *
              refine wpAnyH_ready (rs := [10]) (by as_aux_lemma => kernel_rfl) (by simp) ?_
              refine AllReadyH.cons rfl (fun K hK => ?_) AllReadyH.nil
              have f0 := hb9.f 0; have f1 := hb9.f 1; have f2 := hb9.f 2; have f3 := hb9.f 3; have f4 := hb9.f 4
              have x0 := hb9.c0; have x1 := hb9.c1; have x2 := hb9.c2; have x3 := hb9.c3; have x4 := hb9.c4
              dsimp only [zeroE] at x0 x1 x2 x3 x4
              go_simp
              clear f0 f1 f2 f3 f4 x0 x1 x2 x3 x4
              obtain ⟨i0, i1, i2, i3, iA, j0, j1⟩ := HNb9.out
              refine hK.out _ _ ?_ (fun hS => ?_)
              · exact ⟨hS.1.stOther i0 (⟨ks, ts, os, vs, us⟩ : Ent), hS.2.1.stOther i1 (⟨ks, ts, os, vs, us⟩ : Ent), hS.2.2.1.stOther i2 (⟨ks, ts, os, vs, us⟩ : Ent), hS.2.2.2.stOther i3 (⟨ks, ts, os, vs, us⟩ : Ent)⟩
              clear hK K
              replace hb8 := hb8.stOther j0 (⟨ks, ts, os, vs, us⟩ : Ent)
              replace hb10 := hb10.stOther j1 (⟨ks, ts, os, vs, us⟩ : Ent)
              replace hb9 := hb9.store (⟨ks, ts, os, vs, us⟩ : Ent)
              replace HQ := Lib.hid (stE_below HQ.out iA (⟨ks, ts, os, vs, us⟩ : Ent))
              clear iA i0 i1 i2 i3 j0 j1
              dsimp only [stE] at *
              generalize hy : (((((World.setCell y106 ⟨b9, 0, none⟩ (.string ks)).setCell ⟨b9, 1, none⟩ (.int .i64 ts)).setCell ⟨b9, 2, none⟩ (.int .u16 os)).setCell ⟨b9, 3, none⟩ (.string vs)).setCell ⟨b9, 4, none⟩ (.int .i64 us)) = y107 at *
              clear hy
              refine wpAnyH_ready (rs := [11]) (by as_aux_lemma => kernel_rfl) (by simp) ?_
              refine AllReadyH.cons rfl (fun K hK => ?_) AllReadyH.nil
              have f0 := hb10.f 0; have f1 := hb10.f 1; have f2 := hb10.f 2; have f3 := hb10.f 3; have f4 := hb10.f 4
              have x0 := hb10.c0; have x1 := hb10.c1; have x2 := hb10.c2; have x3 := hb10.c3; have x4 := hb10.c4
              dsimp only [zeroE] at x0 x1 x2 x3 x4
              go_simp
              clear f0 f1 f2 f3 f4 x0 x1 x2 x3 x4
              obtain ⟨i0, i1, i2, i3, iA, j0⟩ := HNb10.out
              refine hK.out _ _ ?_ (fun hS => ?_)
              · exact ⟨hS.1.stOther i0 (⟨ks, ts, os, vs, us⟩ : Ent), hS.2.1.stOther i1 (⟨ks, ts, os, vs, us⟩ : Ent), hS.2.2.1.stOther i2 (⟨ks, ts, os, vs, us⟩ : Ent), hS.2.2.2.stOther i3 (⟨ks, ts, os, vs, us⟩ : Ent)⟩
              clear hK K
              replace hb8 := hb8.stOther j0 (⟨ks, ts, os, vs, us⟩ : Ent)
              replace hb9 := hb9.stOther (fun e => HNb9.out.2.2.2.2.2.2 e.symm) (⟨ks, ts, os, vs, us⟩ : Ent)
              replace hb10 := hb10.store (⟨ks, ts, os, vs, us⟩ : Ent)
              replace HQ := Lib.hid (stE_below HQ.out iA (⟨ks, ts, os, vs, us⟩ : Ent))
              clear iA i0 i1 i2 i3 j0
              dsimp only [stE] at *
              generalize hy : (((((World.setCell y107 ⟨b10, 0, none⟩ (.string ks)).setCell ⟨b10, 1, none⟩ (.int .i64 ts)).setCell ⟨b10, 2, none⟩ (.int .u16 os)).setCell ⟨b10, 3, none⟩ (.string vs)).setCell ⟨b10, 4, none⟩ (.int .i64 us)) = y108 at *
              clear hy
              refine wpAnyH_done (by kernel_rfl) ?_ _
              exact ⟨rfl, b9, b10, rfl, hS.1, hS.2.1, hS.2.2.1, hS.2.2.2, hb8, hb9, hb10, HQ.out⟩
            · skip
              have d := (Below.refl y104.heap.size y104).alloc (Nat.le_refl _) (.cells #[.string ⟨#[]⟩, .int .i64 0, .int .u16 0, .string ⟨#[]⟩, .int .i64 0] 24)
              have hb9 : EBlk (y104.alloc (.cells #[.string ⟨#[]⟩, .int .i64 0, .int .u16 0, .string ⟨#[]⟩, .int .i64 0] 24)) y104.heap.size zeroE := EBlk.new y104 zeroE
              have l0 := hS.1.lt; have l1 := hS.2.1.lt; have l2 := hS.2.2.1.lt; have l3 := hS.2.2.2.lt
              have m0 := hb8.lt
              have m1 := hb10.lt
              go_simp
              refine hK.out _ _ ?_ (fun hS => ?_)
              · exact ⟨hS.1.on d, hS.2.1.on d, hS.2.2.1.on d, hS.2.2.2.on d⟩
              clear hK K
              replace hb8 := hb8.on d
              replace hb10 := hb10.on d
              have HNb9 : Hid (A ≠ y104.heap.size ∧ A + 1 ≠ y104.heap.size ∧ A + 1 + 1 ≠ y104.heap.size ∧ b7 ≠ y104.heap.size ∧ A ≤ y104.heap.size ∧ b8 ≠ y104.heap.size ∧ b10 ≠ y104.heap.size) := Lib.hid (by omega)
              replace HQ := Lib.hid (HQ.out.trans (d.mono (HAs.out ▸ HQ.out.size)))
              clear d l0 l1 l2 l3 m0 m1
              generalize hy : y104.alloc (.cells #[.string ⟨#[]⟩, .int .i64 0, .int .u16 0, .string ⟨#[]⟩, .int .i64 0] 24) = y109 at *
              clear hy
              generalize y104.heap.size = b9 at *
              refine wpAnyH_ready (rs := [7]) (by as_aux_lemma => kernel_rfl) (by simp) ?_
              refine AllReadyH.cons rfl (fun K hK => ?_) AllReadyH.nil
              go_simp
              go_wp2_with (go_at_call 9; refine (HXR.out _).mono ?_; rintro e y110 ⟨rfl, q⟩)
              refine hK.out _ _ ?_ (fun hS => ?_)
              · exact ⟨hS.1.on q, hS.2.1.on q, hS.2.2.1.on q, hS.2.2.2.on q⟩
              clear hK K
              replace hb8 := hb8.on q
              replace hb10 := hb10.on q
              replace hb9 := hb9.on q
              replace HQ := Lib.hid (HQ.out.trans (q.mono (HAs.out ▸ HQ.out.size)))
              clear q
              refine wpAnyH_ready (rs := [10]) (by as_aux_lemma => kernel_rfl) (by simp) ?_
              refine AllReadyH.cons rfl (fun K hK => ?_) AllReadyH.nil
              have f0 := hb9.f 0; have f1 := hb9.f 1; have f2 := hb9.f 2; have f3 := hb9.f 3; have f4 := hb9.f 4
              have x0 := hb9.c0; have x1 := hb9.c1; have x2 := hb9.c2; have x3 := hb9.c3; have x4 := hb9.c4
              dsimp only [zeroE] at x0 x1 x2 x3 x4
              go_simp
              clear f0 f1 f2 f3 f4 x0 x1 x2 x3 x4
              obtain ⟨i0, i1, i2, i3, iA, j0, j1⟩ := HNb9.out
              refine hK.out _ _ ?_ (fun hS => ?_)
              · exact ⟨hS.1.stOther i0 (⟨ks, ts, os, vs, us⟩ : Ent), hS.2.1.stOther i1 (⟨ks, ts, os, vs, us⟩ : Ent), hS.2.2.1.stOther i2 (⟨ks, ts, os, vs, us⟩ : Ent), hS.2.2.2.stOther i3 (⟨ks, ts, os, vs, us⟩ : Ent)⟩
              clear hK K
              replace hb8 := hb8.stOther j0 (⟨ks, ts, os, vs, us⟩ : Ent)
              replace hb10 := hb10.stOther j1 (⟨ks, ts, os, vs, us⟩ : Ent)
              replace hb9 := hb9.store (⟨ks, ts, os, vs, us⟩ : Ent)
              replace HQ := Lib.hid (stE_below HQ.out iA (⟨ks, ts, os, vs, us⟩ : Ent))
              clear iA i0 i1 i2 i3 j0 j1
              dsimp only [stE] at *
              generalize hy : (((((World.setCell y110 ⟨b9, 0, none⟩ (.string ks)).setCell ⟨b9, 1, none⟩ (.int .i64 ts)).setCell ⟨b9, 2, none⟩ (.int .u16 os)).setCell ⟨b9, 3, none⟩ (.string vs)).setCell ⟨b9, 4, none⟩ (.int .i64 us)) = y111 at *
              clear hy
              refine wpAnyH_ready (rs := [11]) (by as_aux_lemma => kernel_rfl) (by simp) ?_
              refine AllReadyH.cons rfl (fun K hK => ?_) AllReadyH.nil
              have f0 := hb10.f 0; have f1 := hb10.f 1; have f2 := hb10.f 2; have f3 := hb10.f 3; have f4 := hb10.f 4
              have x0 := hb10.c0; have x1 := hb10.c1; have x2 := hb10.c2; have x3 := hb10.c3; have x4 := hb10.c4
              dsimp only [zeroE] at x0 x1 x2 x3 x4
              go_simp
              clear f0 f1 f2 f3 f4 x0 x1 x2 x3 x4
              obtain ⟨i0, i1, i2, i3, iA, j0⟩ := HNb10.out
              refine hK.out _ _ ?_ (fun hS => ?_)
              · exact ⟨hS.1.stOther i0 (⟨ks, ts, os, vs, us⟩ : Ent), hS.2.1.stOther i1 (⟨ks, ts, os, vs, us⟩ : Ent), hS.2.2.1.stOther i2 (⟨ks, ts, os, vs, us⟩ : Ent), hS.2.2.2.stOther i3 (⟨ks, ts, os, vs, us⟩ : Ent)⟩
              clear hK K
              replace hb8 := hb8.stOther j0 (⟨ks, ts, os, vs, us⟩ : Ent)
              replace hb9 := hb9.stOther (fun e => HNb9.out.2.2.2.2.2.2 e.symm) (⟨ks, ts, os, vs, us⟩ : Ent)
              replace hb10 := hb10.store (⟨ks, ts, os, vs, us⟩ : Ent)
              replace HQ := Lib.hid (stE_below HQ.out iA (⟨ks, ts, os, vs, us⟩ : Ent))
              clear iA i0 i1 i2 i3 j0
              dsimp only [stE] at *
              generalize hy : (((((World.setCell y111 ⟨b10, 0, none⟩ (.string ks)).setCell ⟨b10, 1, none⟩ (.int .i64 ts)).setCell ⟨b10, 2, none⟩ (.int .u16 os)).setCell ⟨b10, 3, none⟩ (.string vs)).setCell ⟨b10, 4, none⟩ (.int .i64 us)) = y112 at *
              clear hy
              refine wpAnyH_done (by kernel_rfl) ?_ _
              exact ⟨rfl, b9, b10, rfl, hS.1, hS.2.1, hS.2.2.1, hS.2.2.2, hb8, hb9, hb10, HQ.out⟩
          · skip
            have d := (Below.refl y103.heap.size y103).alloc (Nat.le_refl _) (.cells #[.string ⟨#[]⟩, .int .i64 0, .int .u16 0, .string ⟨#[]⟩, .int .i64 0] 24)
            have hb9 : EBlk (y103.alloc (.cells #[.string ⟨#[]⟩, .int .i64 0, .int .u16 0, .string ⟨#[]⟩, .int .i64 0] 24)) y103.heap.size zeroE := EBlk.new y103 zeroE
            have l0 := hS.1.lt; have l1 := hS.2.1.lt; have l2 := hS.2.2.1.lt; have l3 := hS.2.2.2.lt
            have m0 := hb8.lt
            have m1 := hb10.lt
            go_simp
            refine hK.out _ _ ?_ (fun hS => ?_)
            · exact ⟨hS.1.on d, hS.2.1.on d, hS.2.2.1.on d, hS.2.2.2.on d⟩
            clear hK K
            replace hb8 := hb8.on d
            replace hb10 := hb10.on d
            have HNb9 : Hid (A ≠ y103.heap.size ∧ A + 1 ≠ y103.heap.size ∧ A + 1 + 1 ≠ y103.heap.size ∧ b7 ≠ y103.heap.size ∧ A ≤ y103.heap.size ∧ b8 ≠ y103.heap.size ∧ b10 ≠ y103.heap.size) := Lib.hid (by omega)
            replace HQ := Lib.hid (HQ.out.trans (d.mono (HAs.out ▸ HQ.out.size)))
            clear d l0 l1 l2 l3 m0 m1
            generalize hy : y103.alloc (.cells #[.string ⟨#[]⟩, .int .i64 0, .int .u16 0, .string ⟨#[]⟩, .int .i64 0] 24) = y113 at *
            clear hy
            generalize y103.heap.size = b9 at *
            refine wpAnyH_ready (rs := [6]) (by as_aux_lemma => kernel_rfl) (by simp) ?_
            refine AllReadyH.cons rfl (fun K hK => ?_) AllReadyH.nil
            go_simp
            go_wp2_with (go_at_call 9; refine (HYZ.out _).mono ?_; rintro e y114 ⟨rfl, q⟩)
            refine hK.out _ _ ?_ (fun hS => ?_)
            · exact ⟨hS.1.on q, hS.2.1.on q, hS.2.2.1.on q, hS.2.2.2.on q⟩
            clear hK K
            replace hb8 := hb8.on q
            replace hb10 := hb10.on q
            replace hb9 := hb9.on q
            replace HQ := Lib.hid (HQ.out.trans (q.mono (HAs.out ▸ HQ.out.size)))
            clear q
            refine wpAnyH_ready (rs := [7]) (by as_aux_lemma => kernel_rfl) (by simp) ?_
            refine AllReadyH.cons rfl (fun K hK => ?_) AllReadyH.nil
            go_simp
            go_wp2_with (go_at_call 9; refine (HXR.out _).mono ?_; rintro e y115 ⟨rfl, q⟩)
            refine hK.out _ _ ?_ (fun hS => ?_)
            · exact ⟨hS.1.on q, hS.2.1.on q, hS.2.2.1.on q, hS.2.2.2.on q⟩
            clear hK K
            replace hb8 := hb8.on q
            replace hb10 := hb10.on q
            replace hb9 := hb9.on q
            replace HQ := Lib.hid (HQ.out.trans (q.mono (HAs.out ▸ HQ.out.size)))
            clear q
            refine wpAnyH_ready (rs := [10]) (by as_aux_lemma => kernel_rfl) (by simp) ?_
            refine AllReadyH.cons rfl (fun K hK => ?_) AllReadyH.nil
            have f0 := hb9.f 0; have f1 := hb9.f 1; have f2 := hb9.f 2; have f3 := hb9.f 3; have f4 := hb9.f 4
            have x0 := hb9.c0; have x1 := hb9.c1; have x2 := hb9.c2; have x3 := hb9.c3; have x4 := hb9.c4
            dsimp only [zeroE] at x0 x1 x2 x3 x4
            go_simp
            clear f0 f1 f2 f3 f4 x0 x1 x2 x3 x4
            obtain ⟨i0, i1, i2, i3, iA, j0, j1⟩ := HNb9.out
            refine hK.out _ _ ?_ (fun hS => ?_)
            · exact ⟨hS.1.stOther i0 (⟨ks, ts, os, vs, us⟩ : Ent), hS.2.1.stOther i1 (⟨ks, ts, os, vs, us⟩ : Ent), hS.2.2.1.stOther i2 (⟨ks, ts, os, vs, us⟩ : Ent), hS.2.2.2.stOther i3 (⟨ks, ts, os, vs, us⟩ : Ent)⟩
            clear hK K
            replace hb8 := hb8.stOther j0 (⟨ks, ts, os, vs, us⟩ : Ent)
            replace hb10 := hb10.stOther j1 (⟨ks, ts, os, vs, us⟩ : Ent)
            replace hb9 := hb9.store (⟨ks, ts, os, vs, us⟩ : Ent)
            replace HQ := Lib.hid (stE_below HQ.out iA (⟨ks, ts, os, vs, us⟩ : Ent))
            clear iA i0 i1 i2 i3 j0 j1
            dsimp only [stE] at *
            generalize hy : (((((World.setCell y115 ⟨b9, 0, none⟩ (.string ks)).setCell ⟨b9, 1, none⟩ (.int .i64 ts)).setCell ⟨b9, 2, none⟩ (.int .u16 os)).setCell ⟨b9, 3, none⟩ (.string vs)).setCell ⟨b9, 4, none⟩ (.int .i64 us)) = y116 at *
            clear hy
            refine wpAnyH_ready (rs := [11]) (by as_aux_lemma => kernel_rfl) (by simp) ?_
            refine AllReadyH.cons rfl (fun K hK => ?_) AllReadyH.nil
            have f0 := hb10.f 0; have f1 := hb10.f 1; have f2 := hb10.f 2; have f3 := hb10.f 3; have f4 := hb10.f 4
            have x0 := hb10.c0; have x1 := hb10.c1; have x2 := hb10.c2; have x3 := hb10.c3; have x4 := hb10.c4
            dsimp only [zeroE] at x0 x1 x2 x3 x4
            go_simp
            clear f0 f1 f2 f3 f4 x0 x1 x2 x3 x4
            obtain ⟨i0, i1, i2, i3, iA, j0⟩ := HNb10.out
            refine hK.out _ _ ?_ (fun hS => ?_)
            · exact ⟨hS.1.stOther i0 (⟨ks, ts, os, vs, us⟩ : Ent), hS.2.1.stOther i1 (⟨ks, ts, os, vs, us⟩ : Ent), hS.2.2.1.stOther i2 (⟨ks, ts, os, vs, us⟩ : Ent), hS.2.2.2.stOther i3 (⟨ks, ts, os, vs, us⟩ : Ent)⟩
            clear hK K
            replace hb8 := hb8.stOther j0 (⟨ks, ts, os, vs, us⟩ : Ent)
            replace hb9 := hb9.stOther (fun e => HNb9.out.2.2.2.2.2.2 e.symm) (⟨ks, ts, os, vs, us⟩ : Ent)
            replace hb10 := hb10.store (⟨ks, ts, os, vs, us⟩ : Ent)
            replace HQ := Lib.hid (stE_below HQ.out iA (⟨ks, ts, os, vs, us⟩ : Ent))
            clear iA i0 i1 i2 i3 j0
            dsimp only [stE] at *
            generalize hy : (((((World.setCell y116 ⟨b10, 0, none⟩ (.string ks)).setCell ⟨b10, 1, none⟩ (.int .i64 ts)).setCell ⟨b10, 2, none⟩ (.int .u16 os)).setCell ⟨b10, 3, none⟩ (.string vs)).setCell ⟨b10, 4, none⟩ (.int .i64 us)) = y117 at *
            clear hy
            refine wpAnyH_done (by kernel_rfl) ?_ _
            exact ⟨rfl, b9, b10, rfl, hS.1, hS.2.1, hS.2.2.1, hS.2.2.2, hb8, hb9, hb10, HQ.out⟩
      · skip
        have d := (Below.refl y0.heap.size y0).alloc (Nat.le_refl _) (.cells #[.string ⟨#[]⟩, .int .i64 0, .int .u16 0, .string ⟨#[]⟩, .int .i64 0] 24)
        have hb9 : EBlk (y0.alloc (.cells #[.string ⟨#[]⟩, .int .i64 0, .int .u16 0, .string ⟨#[]⟩, .int .i64 0] 24)) y0.heap.size zeroE := EBlk.new y0 zeroE
        have l0 := hS.1.lt; have l1 := hS.2.1.lt; have l2 := hS.2.2.1.lt; have l3 := hS.2.2.2.lt
        have m0 := hb8.lt
        go_simp
        refine hK.out _ _ ?_ (fun hS => ?_)
        · exact ⟨hS.1.on d, hS.2.1.on d, hS.2.2.1.on d, hS.2.2.2.on d⟩
        clear hK K
        replace hb8 := hb8.on d
        have HNb9 : Hid (A ≠ y0.heap.size ∧ A + 1 ≠ y0.heap.size ∧ A + 1 + 1 ≠ y0.heap.size ∧ b7 ≠ y0.heap.size ∧ A ≤ y0.heap.size ∧ b8 ≠ y0.heap.size) := Lib.hid (by omega)
        replace HQ := Lib.hid (HQ.out.trans (d.mono (HAs.out ▸ HQ.out.size)))
        clear d l0 l1 l2 l3 m0
        generalize hy : y0.alloc (.cells #[.string ⟨#[]⟩, .int .i64 0, .int .u16 0, .string ⟨#[]⟩, .int .i64 0] 24) = y118 at *
        clear hy
        generalize y0.heap.size = b9 at *
        refine wpAnyH_ready (rs := [2, 9]) (by as_aux_lemma => kernel_rfl) (by simp) ?_
        refine AllReadyH.cons rfl (fun K hK => ?_) (AllReadyH.cons rfl (fun K hK => ?_) AllReadyH.nil)
        · skip
          go_simp
          go_wp2_with (go_at_call 9; refine (HPZ.out _).mono ?_; rintro e y119 ⟨rfl, q⟩)
          refine hK.out _ _ ?_ (fun hS => ?_)
          · exact ⟨hS.1.on q, hS.2.1.on q, hS.2.2.1.on q, hS.2.2.2.on q⟩
          clear hK K
          replace hb8 := hb8.on q
          replace hb9 := hb9.on q
          replace HQ := Lib.hid (HQ.out.trans (q.mono (HAs.out ▸ HQ.out.size)))
          clear q
          refine wpAnyH_ready (rs := [6, 9]) (by as_aux_lemma => kernel_rfl) (by simp) ?_
          refine AllReadyH.cons rfl (fun K hK => ?_) (AllReadyH.cons rfl (fun K hK => ?_) AllReadyH.nil)
          · skip
            go_simp
            go_wp2_with (go_at_call 9; refine (HYZ.out _).mono ?_; rintro e y120 ⟨rfl, q⟩)
            refine hK.out _ _ ?_ (fun hS => ?_)
            · exact ⟨hS.1.on q, hS.2.1.on q, hS.2.2.1.on q, hS.2.2.2.on q⟩
            clear hK K
            replace hb8 := hb8.on q
            replace hb9 := hb9.on q
            replace HQ := Lib.hid (HQ.out.trans (q.mono (HAs.out ▸ HQ.out.size)))
            clear q
            refine wpAnyH_ready (rs := [7, 9]) (by as_aux_lemma => kernel_rfl) (by simp) ?_
            refine AllReadyH.cons rfl (fun K hK => ?_) (AllReadyH.cons rfl (fun K hK => ?_) AllReadyH.nil)
            · skip
              go_simp
              go_wp2_with (go_at_call 9; refine (HXR.out _).mono ?_; rintro e y121 ⟨rfl, q⟩)
              refine hK.out _ _ ?_ (fun hS => ?_)
              · exact ⟨hS.1.on q, hS.2.1.on q, hS.2.2.1.on q, hS.2.2.2.on q⟩
              clear hK K
              replace hb8 := hb8.on q
              replace hb9 := hb9.on q
              replace HQ := Lib.hid (HQ.out.trans (q.mono (HAs.out ▸ HQ.out.size)))
              clear q
              refine wpAnyH_ready (rs := [9]) (by as_aux_lemma => kernel_rfl) (by simp) ?_
              refine AllReadyH.cons rfl (fun K hK => ?_) AllReadyH.nil
              have d := (Below.refl y121.heap.size y121).alloc (Nat.le_refl _) (.cells #[.string ⟨#[]⟩, .int .i64 0, .int .u16 0, .string ⟨#[]⟩, .int .i64 0] 24)
              have hb10 : EBlk (y121.alloc (.cells #[.string ⟨#[]⟩, .int .i64 0, .int .u16 0, .string ⟨#[]⟩, .int .i64 0] 24)) y121.heap.size zeroE := EBlk.new y121 zeroE
              have l0 := hS.1.lt; have l1 := hS.2.1.lt; have l2 := hS.2.2.1.lt; have l3 := hS.2.2.2.lt
              have m0 := hb8.lt
              have m1 := hb9.lt
              go_simp
              refine hK.out _ _ ?_ (fun hS => ?_)
              · exact ⟨hS.1.on d, hS.2.1.on d, hS.2.2.1.on d, hS.2.2.2.on d⟩
              clear hK K
              replace hb8 := hb8.on d
              replace hb9 := hb9.on d
              have HNb10 : Hid (A ≠ y121.heap.size ∧ A + 1 ≠ y121.heap.size ∧ A + 1 + 1 ≠ y121.heap.size ∧ b7 ≠ y121.heap.size ∧ A ≤ y121.heap.size ∧ b8 ≠ y121.heap.size ∧ b9 ≠ y121.heap.size) := Lib.hid (by omega)
              replace HQ := Lib.hid (HQ.out.trans (d.mono (HAs.out ▸ HQ.out.size)))
              clear d l0 l1 l2 l3 m0 m1
              generalize hy : y121.alloc (.cells #[.string ⟨#[]⟩, .int .i64 0, .int .u16 0, .string ⟨#[]⟩, .int .i64 0] 24) = y122 at *
              clear hy
              generalize y121.heap.size = b10 at *
              refine wpAnyH_ready (rs := [10]) (by as_aux_lemma => kernel_rfl) (by simp) ?_
              refine AllReadyH.cons rfl (fun K hK => ?_) AllReadyH.nil
              have f0 := hb9.f 0; have f1 := hb9.f 1; have f2 := hb9.f 2; have f3 := hb9.f 3; have f4 := hb9.f 4
              have x0 := hb9.c0; have x1 := hb9.c1; have x2 := hb9.c2; have x3 := hb9.c3; have x4 := hb9.c4
              dsimp only [zeroE] at x0 x1 x2 x3 x4
              go_simp
              clear f0 f1 f2 f3 f4 x0 x1 x2 x3 x4
              obtain ⟨i0, i1, i2, i3, iA, j0⟩ := HNb9.out
              refine hK.out _ _ ?_ (fun hS => ?_)
              · exact ⟨hS.1.stOther i0 (⟨ks, ts, os, vs, us⟩ : Ent), hS.2.1.stOther i1 (⟨ks, ts, os, vs, us⟩ : Ent), hS.2.2.1.stOther i2 (⟨ks, ts, os, vs, us⟩ : Ent), hS.2.2.2.stOther i3 (⟨ks, ts, os, vs, us⟩ : Ent)⟩
              clear hK K
              replace hb8 := hb8.stOther j0 (⟨ks, ts, os, vs, us⟩ : Ent)
              replace hb10 := hb10.stOther (fun e => HNb10.out.2.2.2.2.2.2 e.symm) (⟨ks, ts, os, vs, us⟩ : Ent)
              replace hb9 := hb9.store (⟨ks, ts, os, vs, us⟩ : Ent)
              replace HQ := Lib.hid (stE_below HQ.out iA (⟨ks, ts, os, vs, us⟩ : Ent))
              clear iA i0 i1 i2 i3 j0
              dsimp only [stE] at *
              generalize hy : (((((World.setCell y122 ⟨b9, 0, none⟩ (.string ks)).setCell ⟨b9, 1, none⟩ (.int .i64 ts)).setCell ⟨b9, 2, none⟩ (.int .u16 os)).setCell ⟨b9, 3, none⟩ (.string vs)).setCell ⟨b9, 4, none⟩ (.int .i64 us)) = y123 at *
              clear hy
              refine wpAnyH_ready (rs := [11]) (by as_aux_lemma => kernel_rfl) (by simp) ?_
              refine AllReadyH.cons rfl (fun K hK => ?_) AllReadyH.nil
              have f0 := hb10.f 0; have f1 := hb10.f 1; have f2 := hb10.f 2; have f3 := hb10.f 3; have f4 := hb10.f 4
              have x0 := hb10.c0; have x1 := hb10.c1; have x2 := hb10.c2; have x3 := hb10.c3; have x4 := hb10.c4
              dsimp only [zeroE] at x0 x1 x2 x3 x4
              go_simp
              clear f0 f1 f2 f3 f4 x0 x1 x2 x3 x4
              obtain ⟨i0, i1, i2, i3, iA, j0, j1⟩ := HNb10.out
              refine hK.out _ _ ?_ (fun hS => ?_)
              · exact ⟨hS.1.stOther i0 (⟨ks, ts, os, vs, us⟩ : Ent), hS.2.1.stOther i1 (⟨ks, ts, os, vs, us⟩ : Ent), hS.2.2.1.stOther i2 (⟨ks, ts, os, vs, us⟩ : Ent), hS.2.2.2.stOther i3 (⟨ks, ts, os, vs, us⟩ : Ent)⟩
              clear hK K
              replace hb8 := hb8.stOther j0 (⟨ks, ts, os, vs, us⟩ : Ent)
              replace hb9 := hb9.stOther j1 (⟨ks, ts, os, vs, us⟩ : Ent)
              replace hb10 := hb10.store (⟨ks, ts, os, vs, us⟩ : Ent)
              replace HQ := Lib.hid (stE_below HQ.out iA (⟨ks, ts, os, vs, us⟩ : Ent))
              clear iA i0 i1 i2 i3 j0 j1
              dsimp only [stE] at *
              generalize hy : (((((World.setCell y123 ⟨b10, 0, none⟩ (.string ks)).setCell ⟨b10, 1, none⟩ (.int .i64 ts)).setCell ⟨b10, 2, none⟩ (.int .u16 os)).setCell ⟨b10, 3, none⟩ (.string vs)).setCell ⟨b10, 4, none⟩ (.int .i64 us)) = y124 at *
              clear hy
              refine wpAnyH_done (by kernel_rfl) ?_ _
              exact ⟨rfl, b9, b10, rfl, hS.1, hS.2.1, hS.2.2.1, hS.2.2.2, hb8, hb9, hb10, HQ.out⟩
            · skip
              have d := (Below.refl y120.heap.size y120).alloc (Nat.le_refl _) (.cells #[.string ⟨#[]⟩, .int .i64 0, .int .u16 0, .string ⟨#[]⟩, .int .i64 0] 24)
              have hb10 : EBlk (y120.alloc (.cells #[.string ⟨#[]⟩, .int .i64 0, .int .u16 0, .string ⟨#[]⟩, .int .i64 0] 24)) y120.heap.size zeroE := EBlk.new y120 zeroE
              have l0 := hS.1.lt; have l1 := hS.2.1.lt; have l2 := hS.2.2.1.lt; have l3 := hS.2.2.2.lt
              have m0 := hb8.lt
              have m1 := hb9.lt
              go_simp
              refine hK.out _ _ ?_ (fun hS => ?_)
              · exact ⟨hS.1.on d, hS.2.1.on d, hS.2.2.1.on d, hS.2.2.2.on d⟩
              clear hK K
              replace hb8 := hb8.on d
              replace hb9 := hb9.on d
              have HNb10 : Hid (A ≠ y120.heap.size ∧ A + 1 ≠ y120.heap.size ∧ A + 1 + 1 ≠ y120.heap.size ∧ b7 ≠ y120.heap.size ∧ A ≤ y120.heap.size ∧ b8 ≠ y120.heap.size ∧ b9 ≠ y120.heap.size) := Lib.hid (by omega)
              replace HQ := Lib.hid (HQ.out.trans (d.mono (HAs.out ▸ HQ.out.size)))
              clear d l0 l1 l2 l3 m0 m1
              generalize hy : y120.alloc (.cells #[.string ⟨#[]⟩, .int .i64 0, .int .u16 0, .string ⟨#[]⟩, .int .i64 0] 24) = y125 at *
              clear hy
              generalize y120.heap.size = b10 at *
              refine wpAnyH_ready (rs := [7]) (by as_aux_lemma => kernel_rfl) (by simp) ?_
              refine AllReadyH.cons rfl (fun K hK => ?_) AllReadyH.nil
              go_simp
              go_wp2_with (go_at_call 9; refine (HXR.out _).mono ?_; rintro e y126 ⟨rfl, q⟩)
              refine hK.out _ _ ?_ (fun hS => ?_)
              · exact ⟨hS.1.on q, hS.2.1.on q, hS.2.2.1.on q, hS.2.2.2.on q⟩
              clear hK K
              replace hb8 := hb8.on q
              replace hb9 := hb9.on q
              replace hb10 := hb10.on q
              replace HQ := Lib.hid (HQ.out.trans (q.mono (HAs.out ▸ HQ.out.size)))
              clear q
              refine wpAnyH_ready (rs := [10]) (by as_aux_lemma => kernel_rfl) (by simp) ?_
              refine AllReadyH.cons rfl (fun K hK => ?_) AllReadyH.nil
              have f0 := hb9.f 0; have f1 := hb9.f 1; have f2 := hb9.f 2; have f3 := hb9.f 3; have f4 := hb9.f 4
              have x0 := hb9.c0; have x1 := hb9.c1; have x2 := hb9.c2; have x3 := hb9.c3; have x4 := hb9.c4
              dsimp only [zeroE] at x0 x1 x2 x3 x4
              go_simp
              clear f0 f1 f2 f3 f4 x0 x1 x2 x3 x4
              obtain ⟨i0, i1, i2, i3, iA, j0⟩ := HNb9.out
              refine hK.out _ _ ?_ (fun hS => ?_)
              · exact ⟨hS.1.stOther i0 (⟨ks, ts, os, vs, us⟩ : Ent), hS.2.1.stOther i1 (⟨ks, ts, os, vs, us⟩ : Ent), hS.2.2.1.stOther i2 (⟨ks, ts, os, vs, us⟩ : Ent), hS.2.2.2.stOther i3 (⟨ks, ts, os, vs, us⟩ : Ent)⟩
              clear hK K
              replace hb8 := hb8.stOther j0 (⟨ks, ts, os, vs, us⟩ : Ent)
              replace hb10 := hb10.stOther (fun e => HNb10.out.2.2.2.2.2.2 e.symm) (⟨ks, ts, os, vs, us⟩ : Ent)
              replace hb9 := hb9.store (⟨ks, ts, os, vs, us⟩ : Ent)
              replace HQ := Lib.hid (stE_below HQ.out iA (⟨ks, ts, os, vs, us⟩ : Ent))
              clear iA i0 i1 i2 i3 j0
              dsimp only [stE] at *
              generalize hy : (((((World.setCell y126 ⟨b9, 0, none⟩ (.string ks)).setCell ⟨b9, 1, none⟩ (.int .i64 ts)).setCell ⟨b9, 2, none⟩ (.int .u16 os)).setCell ⟨b9, 3, none⟩ (.string vs)).setCell ⟨b9, 4, none⟩ (.int .i64 us)) = y127 at *
              clear hy
              refine wpAnyH_ready (rs := [11]) (by as_aux_lemma => kernel_rfl) (by simp) ?_
              refine AllReadyH.cons rfl (fun K hK => ?_) AllReadyH.nil
              have f0 := hb10.f 0; have f1 := hb10.f 1; have f2 := hb10.f 2; have f3 := hb10.f 3; have f4 := hb10.f 4
              have x0 := hb10.c0; have x1 := hb10.c1; have x2 := hb10.c2; have x3 := hb10.c3; have x4 := hb10.c4
              dsimp only [zeroE] at x0 x1 x2 x3 x4
              go_simp
              clear f0 f1 f2 f3 f4 x0 x1 x2 x3 x4
              obtain ⟨i0, i1, i2, i3, iA, j0, j1⟩ := HNb10.out
              refine hK.out _ _ ?_ (fun hS => ?_)
              · exact ⟨hS.1.stOther i0 (⟨ks, ts, os, vs, us⟩ : Ent), hS.2.1.stOther i1 (⟨ks, ts, os, vs, us⟩ : Ent), hS.2.2.1.stOther i2 (⟨ks, ts, os, vs, us⟩ : Ent), hS.2.2.2.stOther i3 (⟨ks, ts, os, vs, us⟩ : Ent)⟩
              clear hK K
              replace hb8 := hb8.stOther j0 (⟨ks, ts, os, vs, us⟩ : Ent)
              replace hb9 := hb9.stOther j1 (⟨ks, ts, os, vs, us⟩ : Ent)
              replace hb10 := hb10.store (⟨ks, ts, os, vs, us⟩ : Ent)
              replace HQ := Lib.hid (stE_below HQ.out iA (⟨ks, ts, os, vs, us⟩ : Ent))
              clear iA i0 i1 i2 i3 j0 j1
              dsimp only [stE] at *
              generalize hy : (((((World.setCell y127 ⟨b10, 0, none⟩ (.string ks)).setCell ⟨b10, 1, none⟩ (.int .i64 ts)).setCell ⟨b10, 2, none⟩ (.int .u16 os)).setCell ⟨b10, 3, none⟩ (.string vs)).setCell ⟨b10, 4, none⟩ (.int .i64 us)) = y128 at *
              clear hy
              refine wpAnyH_done (by kernel_rfl) ?_ _
              exact ⟨rfl, b9, b10, rfl, hS.1, hS.2.1, hS.2.2.1, hS.2.2.2, hb8, hb9, hb10, HQ.out⟩
          · skip
            have d := (Below.refl y119.heap.size y119).alloc (Nat.le_refl _) (.cells #[.string ⟨#[]⟩, .int .i64 0, .int .u16 0, .string ⟨#[]⟩, .int .i64 0] 24)
            have hb10 : EBlk (y119.alloc (.cells #[.string ⟨#[]⟩, .int .i64 0, .int .u16 0, .string ⟨#[]⟩, .int .i64 0] 24)) y119.heap.size zeroE := EBlk.new y119 zeroE
            have l0 := hS.1.lt; have l1 := hS.2.1.lt; have l2 := hS.2.2.1.lt; have l3 := hS.2.2.2.lt
            have m0 := hb8.lt
            have m1 := hb9.lt
            go_simp
            refine hK.out _ _ ?_ (fun hS => ?_)
            · exact ⟨hS.1.on d, hS.2.1.on d, hS.2.2.1.on d, hS.2.2.2.on d⟩
            clear hK K
            replace hb8 := hb8.on d
            replace hb9 := hb9.on d
            have HNb10 : Hid (A ≠ y119.heap.size ∧ A + 1 ≠ y119.heap.size ∧ A + 1 + 1 ≠ y119.heap.size ∧ b7 ≠ y119.heap.size ∧ A ≤ y119.heap.size ∧ b8 ≠ y119.heap.size ∧ b9 ≠ y119.heap.size) := Lib.hid (by omega)
            replace HQ := Lib.hid (HQ.out.trans (d.mono (HAs.out ▸ HQ.out.size)))
            clear d l0 l1 l2 l3 m0 m1
            generalize hy : y119.alloc (.cells #[.string ⟨#[]⟩, .int .i64 0, .int .u16 0, .string ⟨#[]⟩, .int .i64 0] 24) = y129 at *
            clear hy
            generalize y119.heap.size = b10 at *
            refine wpAnyH_ready (rs := [6]) (by as_aux_lemma => kernel_rfl) (by simp) ?_
            refine AllReadyH.cons rfl (fun K hK => ?_) AllReadyH.nil
            go_simp
            go_wp2_with (go_at_call 9; refine (HYZ.out _).mono ?_; rintro e y130 ⟨rfl, q⟩)
            refine hK.out _ _ ?_ (fun hS => ?_)
            · exact ⟨hS.1.on q, hS.2.1.on q, hS.2.2.1.on q, hS.2.2.2.on q⟩
            clear hK K
            replace hb8 := hb8.on q
            replace hb9 := hb9.on q
            replace hb10 := hb10.on q
            replace HQ := Lib.hid (HQ.out.trans (q.mono (HAs.out ▸ HQ.out.size)))
            clear q
            refine wpAnyH_ready (rs := [7]) (by as_aux_lemma => kernel_rfl) (by simp) ?_
            refine AllReadyH.cons rfl (fun K hK => ?_) AllReadyH.nil
            go_simp
            go_wp2_with (go_at_call 9; refine (HXR.out _).mono ?_; rintro e y131 ⟨rfl, q⟩)
            refine hK.out _ _ ?_ (fun hS => ?_)
            · exact ⟨hS.1.on q, hS.2.1.on q, hS.2.2.1.on q, hS.2.2.2.on q⟩
            clear hK K
            replace hb8 := hb8.on q
            replace hb9 := hb9.on q
            replace hb10 := hb10.on q
            replace HQ := Lib.hid (HQ.out.trans (q.mono (HAs.out ▸ HQ.out.size)))
            clear q
            refine wpAnyH_ready (rs := [10]) (by as_aux_lemma => kernel_rfl) (by simp) ?_
            refine AllReadyH.cons rfl (fun K hK => ?_) AllReadyH.nil
            have f0 := hb9.f 0; have f1 := hb9.f 1; have f2 := hb9.f 2; have f3 := hb9.f 3; have f4 := hb9.f 4
            have x0 := hb9.c0; have x1 := hb9.c1; have x2 := hb9.c2; have x3 := hb9.c3; have x4 := hb9.c4
            dsimp only [zeroE] at x0 x1 x2 x3 x4
            go_simp
            clear f0 f1 f2 f3 f4 x0 x1 x2 x3 x4
            obtain ⟨i0, i1, i2, i3, iA, j0⟩ := HNb9.out
            refine hK.out _ _ ?_ (fun hS => ?_)
            · exact ⟨hS.1.stOther i0 (⟨ks, ts, os, vs, us⟩ : Ent), hS.2.1.stOther i1 (⟨ks, ts, os, vs, us⟩ : Ent), hS.2.2.1.stOther i2 (⟨ks, ts, os, vs, us⟩ : Ent), hS.2.2.2.stOther i3 (⟨ks, ts, os, vs, us⟩ : Ent)⟩
            clear hK K
            replace hb8 := hb8.stOther j0 (⟨ks, ts, os, vs, us⟩ : Ent)
            replace hb10 := hb10.stOther (fun e => HNb10.out.2.2.2.2.2.2 e.symm) (⟨ks, ts, os, vs, us⟩ : Ent)
            replace hb9 := hb9.store (⟨ks, ts, os, vs, us⟩ : Ent)
            replace HQ := Lib.hid (stE_below HQ.out iA (⟨ks, ts, os, vs, us⟩ : Ent))
            clear iA i0 i1 i2 i3 j0
            dsimp only [stE] at *
            generalize hy : (((((World.setCell y131 ⟨b9, 0, none⟩ (.string ks)).setCell ⟨b9, 1, none⟩ (.int .i64 ts)).setCell ⟨b9, 2, none⟩ (.int .u16 os)).setCell ⟨b9, 3, none⟩ (.string vs)).setCell ⟨b9, 4, none⟩ (.int .i64 us)) = y132 at *
            clear hy
            refine wpAnyH_ready (rs := [11]) (by as_aux_lemma => kernel_rfl) (by simp) ?_
            refine AllReadyH.cons rfl (fun K hK => ?_) AllReadyH.nil
            have f0 := hb10.f 0; have f1 := hb10.f 1; have f2 := hb10.f 2; have f3 := hb10.f 3; have f4 := hb10.f 4
            have x0 := hb10.c0; have x1 := hb10.c1; have x2 := hb10.c2; have x3 := hb10.c3; have x4 := hb10.c4
            dsimp only [zeroE] at x0 x1 x2 x3 x4
            go_simp
            clear f0 f1 f2 f3 f4 x0 x1 x2 x3 x4
            obtain ⟨i0, i1, i2, i3, iA, j0, j1⟩ := HNb10.out
            refine hK.out _ _ ?_ (fun hS => ?_)
            · exact ⟨hS.1.stOther i0 (⟨ks, ts, os, vs, us⟩ : Ent), hS.2.1.stOther i1 (⟨ks, ts, os, vs, us⟩ : Ent), hS.2.2.1.stOther i2 (⟨ks, ts, os, vs, us⟩ : Ent), hS.2.2.2.stOther i3 (⟨ks, ts, os, vs, us⟩ : Ent)⟩
            clear hK K
            replace hb8 := hb8.stOther j0 (⟨ks, ts, os, vs, us⟩ : Ent)
            replace hb9 := hb9.stOther j1 (⟨ks, ts, os, vs, us⟩ : Ent)
            replace hb10 := hb10.store (⟨ks, ts, os, vs, us⟩ : Ent)
            replace HQ := Lib.hid (stE_below HQ.out iA (⟨ks, ts, os, vs, us⟩ : Ent))
            clear iA i0 i1 i2 i3 j0 j1
            dsimp only [stE] at *
            generalize hy : (((((World.setCell y132 ⟨b10, 0, none⟩ (.string ks)).setCell ⟨b10, 1, none⟩ (.int .i64 ts)).setCell ⟨b10, 2, none⟩ (.int .u16 os)).setCell ⟨b10, 3, none⟩ (.string vs)).setCell ⟨b10, 4, none⟩ (.int .i64 us)) = y133 at *
            clear hy
            refine wpAnyH_done (by kernel_rfl) ?_ _
            exact ⟨rfl, b9, b10, rfl, hS.1, hS.2.1, hS.2.2.1, hS.2.2.2, hb8, hb9, hb10, HQ.out⟩
        · skip
          have d := (Below.refl y118.heap.size y118).alloc (Nat.le_refl _) (.cells #[.string ⟨#[]⟩, .int .i64 0, .int .u16 0, .string ⟨#[]⟩, .int .i64 0] 24)
          have hb10 : EBlk (y118.alloc (.cells #[.string ⟨#[]⟩, .int .i64 0, .int .u16 0, .string ⟨#[]⟩, .int .i64 0] 24)) y118.heap.size zeroE := EBlk.new y118 zeroE
          have l0 := hS.1.lt; have l1 := hS.2.1.lt; have l2 := hS.2.2.1.lt; have l3 := hS.2.2.2.lt
          have m0 := hb8.lt
          have m1 := hb9.lt
          go_simp
          refine hK.out _ _ ?_ (fun hS => ?_)
          · exact ⟨hS.1.on d, hS.2.1.on d, hS.2.2.1.on d, hS.2.2.2.on d⟩
          clear hK K
          replace hb8 := hb8.on d
          replace hb9 := hb9.on d
          have HNb10 : Hid (A ≠ y118.heap.size ∧ A + 1 ≠ y118.heap.size ∧ A + 1 + 1 ≠ y118.heap.size ∧ b7 ≠ y118.heap.size ∧ A ≤ y118.heap.size ∧ b8 ≠ y118.heap.size ∧ b9 ≠ y118.heap.size) := Lib.hid (by omega)
          replace HQ := Lib.hid (HQ.out.trans (d.mono (HAs.out ▸ HQ.out.size)))
          clear d l0 l1 l2 l3 m0 m1
          generalize hy : y118.alloc (.cells #[.string ⟨#[]⟩, .int .i64 0, .int .u16 0, .string ⟨#[]⟩, .int .i64 0] 24) = y134 at *
          clear hy
          generalize y118.heap.size = b10 at *
          refine wpAnyH_ready (rs := [2]) (by as_aux_lemma => kernel_rfl) (by simp) ?_
          refine AllReadyH.cons rfl (fun K hK => ?_) AllReadyH.nil
          go_simp
          go_wp2_with (go_at_call 9; refine (HPZ.out _).mono ?_; rintro e y135 ⟨rfl, q⟩)
          refine hK.out _ _ ?_ (fun hS => ?_)
          · exact ⟨hS.1.on q, hS.2.1.on q, hS.2.2.1.on q, hS.2.2.2.on q⟩
          clear hK K
          replace hb8 := hb8.on q
          replace hb9 := hb9.on q
          replace hb10 := hb10.on q
          replace HQ := Lib.hid (HQ.out.trans (q.mono (HAs.out ▸ HQ.out.size)))
          clear q
          refine wpAnyH_ready (rs := [6]) (by as_aux_lemma => kernel_rfl) (by simp) ?_
          refine AllReadyH.cons rfl (fun K hK => ?_) AllReadyH.nil
          go_simp
          go_wp2_with (go_at_call 9; refine (HYZ.out _).mono ?_; rintro e y136 ⟨rfl, q⟩)
          refine hK.out _ _ ?_ (fun hS => ?_)
          · exact ⟨hS.1.on q, hS.2.1.on q, hS.2.2.1.on q, hS.2.2.2.on q⟩
          clear hK K
          replace hb8 := hb8.on q
          replace hb9 := hb9.on q
          replace hb10 := hb10.on q
          replace HQ := Lib.hid (HQ.out.trans (q.mono (HAs.out ▸ HQ.out.size)))
          clear q
          refine wpAnyH_ready (rs := [7]) (by as_aux_lemma => kernel_rfl) (by simp) ?_
          refine AllReadyH.cons rfl (fun K hK => ?_) AllReadyH.nil
          go_simp
          go_wp2_with (go_at_call 9; refine (HXR.out _).mono ?_; rintro e y137 ⟨rfl, q⟩)
          refine hK.out _ _ ?_ (fun hS => ?_)
          · exact ⟨hS.1.on q, hS.2.1.on q, hS.2.2.1.on q, hS.2.2.2.on q⟩
          clear hK K
          replace hb8 := hb8.on q
          replace hb9 := hb9.on q
          replace hb10 := hb10.on q
          replace HQ := Lib.hid (HQ.out.trans (q.mono (HAs.out ▸ HQ.out.size)))
          clear q
          refine wpAnyH_ready (rs := [10]) (by as_aux_lemma => kernel_rfl) (by simp) ?_
          refine AllReadyH.cons rfl (fun K hK => ?_) AllReadyH.nil
          have f0 := hb9.f 0; have f1 := hb9.f 1; have f2 := hb9.f 2; have f3 := hb9.f 3; have f4 := hb9.f 4
          have x0 := hb9.c0; have x1 := hb9.c1; have x2 := hb9.c2; have x3 := hb9.c3; have x4 := hb9.c4
          dsimp only [zeroE] at x0 x1 x2 x3 x4
          go_simp
          clear f0 f1 f2 f3 f4 x0 x1 x2 x3 x4
          obtain ⟨i0, i1, i2, i3, iA, j0⟩ := HNb9.out
          refine hK.out _ _ ?_ (fun hS => ?_)
          · exact ⟨hS.1.stOther i0 (⟨ks, ts, os, vs, us⟩ : Ent), hS.2.1.stOther i1 (⟨ks, ts, os, vs, us⟩ : Ent), hS.2.2.1.stOther i2 (⟨ks, ts, os, vs, us⟩ : Ent), hS.2.2.2.stOther i3 (⟨ks, ts, os, vs, us⟩ : Ent)⟩
          clear hK K
          replace hb8 := hb8.stOther j0 (⟨ks, ts, os, vs, us⟩ : Ent)
          replace hb10 := hb10.stOther (fun e => HNb10.out.2.2.2.2.2.2 e.symm) (⟨ks, ts, os, vs, us⟩ : Ent)
          replace hb9 := hb9.store (⟨ks, ts, os, vs, us⟩ : Ent)
          replace HQ := Lib.hid (stE_below HQ.out iA (⟨ks, ts, os, vs, us⟩ : Ent))
          clear iA i0 i1 i2 i3 j0
          dsimp only [stE] at *
          generalize hy : (((((World.setCell y137 ⟨b9, 0, none⟩ (.string ks)).setCell ⟨b9, 1, none⟩ (.int .i64 ts)).setCell ⟨b9, 2, none⟩ (.int .u16 os)).setCell ⟨b9, 3, none⟩ (.string vs)).setCell ⟨b9, 4, none⟩ (.int .i64 us)) = y138 at *
          clear hy
          refine wpAnyH_ready (rs := [11]) (by as_aux_lemma => kernel_rfl) (by simp) ?_
          refine AllReadyH.cons rfl (fun K hK => ?_) AllReadyH.nil
          have f0 := hb10.f 0; have f1 := hb10.f 1; have f2 := hb10.f 2; have f3 := hb10.f 3; have f4 := hb10.f 4
          have x0 := hb10.c0; have x1 := hb10.c1; have x2 := hb10.c2; have x3 := hb10.c3; have x4 := hb10.c4
          dsimp only [zeroE] at x0 x1 x2 x3 x4
          go_simp
          clear f0 f1 f2 f3 f4 x0 x1 x2 x3 x4
          obtain ⟨i0, i1, i2, i3, iA, j0, j1⟩ := HNb10.out
          refine hK.out _ _ ?_ (fun hS => ?_)
          · exact ⟨hS.1.stOther i0 (⟨ks, ts, os, vs, us⟩ : Ent), hS.2.1.stOther i1 (⟨ks, ts, os, vs, us⟩ : Ent), hS.2.2.1.stOther i2 (⟨ks, ts, os, vs, us⟩ : Ent), hS.2.2.2.stOther i3 (⟨ks, ts, os, vs, us⟩ : Ent)⟩
          clear hK K
          replace hb8 := hb8.stOther j0 (⟨ks, ts, os, vs, us⟩ : Ent)
          replace hb9 := hb9.stOther j1 (⟨ks, ts, os, vs, us⟩ : Ent)
          replace hb10 := hb10.store (⟨ks, ts, os, vs, us⟩ : Ent)
          replace HQ := Lib.hid (stE_below HQ.out iA (⟨ks, ts, os, vs, us⟩ : Ent))
          clear iA i0 i1 i2 i3 j0 j1
          dsimp only [stE] at *
          generalize hy : (((((World.setCell y138 ⟨b10, 0, none⟩ (.string ks)).setCell ⟨b10, 1, none⟩ (.int .i64 ts)).setCell ⟨b10, 2, none⟩ (.int .u16 os)).setCell ⟨b10, 3, none⟩ (.string vs)).setCell ⟨b10, 4, none⟩ (.int .i64 us)) = y139 at *
          clear hy
          refine wpAnyH_done (by kernel_rfl) ?_ _
          exact ⟨rfl, b9, b10, rfl, hS.1, hS.2.1, hS.2.2.1, hS.2.2.2, hb8, hb9, hb10, HQ.out⟩
      · skip
        have d := (Below.refl y0.heap.size y0).alloc (Nat.le_refl _) (.cells #[.string ⟨#[]⟩, .int .i64 0, .int .u16 0, .string ⟨#[]⟩, .int .i64 0] 24)
        have hb10 : EBlk (y0.alloc (.cells #[.string ⟨#[]⟩, .int .i64 0, .int .u16 0, .string ⟨#[]⟩, .int .i64 0] 24)) y0.heap.size zeroE := EBlk.new y0 zeroE
        have l0 := hS.1.lt; have l1 := hS.2.1.lt; have l2 := hS.2.2.1.lt; have l3 := hS.2.2.2.lt
        have m0 := hb8.lt
        go_simp
        refine hK.out _ _ ?_ (fun hS => ?_)
        · exact ⟨hS.1.on d, hS.2.1.on d, hS.2.2.1.on d, hS.2.2.2.on d⟩
        clear hK K
        replace hb8 := hb8.on d
        have HNb10 : Hid (A ≠ y0.heap.size ∧ A + 1 ≠ y0.heap.size ∧ A + 1 + 1 ≠ y0.heap.size ∧ b7 ≠ y0.heap.size ∧ A ≤ y0.heap.size ∧ b8 ≠ y0.heap.size) := Lib.hid (by omega)
        replace HQ := Lib.hid (HQ.out.trans (d.mono (HAs.out ▸ HQ.out.size)))
        clear d l0 l1 l2 l3 m0
        generalize hy : y0.alloc (.cells #[.string ⟨#[]⟩, .int .i64 0, .int .u16 0, .string ⟨#[]⟩, .int .i64 0] 24) = y140 at *
        clear hy
        generalize y0.heap.size = b10 at *
        refine wpAnyH_ready (rs := [2, 8]) (by as_aux_lemma => kernel_rfl) (by simp) ?_
        refine AllReadyH.cons rfl (fun K hK => ?_) (AllReadyH.cons rfl (fun K hK => ?_) AllReadyH.nil)
        · skip
          go_simp
          go_wp2_with (go_at_call 9; refine (HPZ.out _).mono ?_; rintro e y141 ⟨rfl, q⟩)
          refine hK.out _ _ ?_ (fun hS => ?_)
          · exact ⟨hS.1.on q, hS.2.1.on q, hS.2.2.1.on q, hS.2.2.2.on q⟩
          clear hK K
          replace hb8 := hb8.on q
          replace hb10 := hb10.on q
          replace HQ := Lib.hid (HQ.out.trans (q.mono (HAs.out ▸ HQ.out.size)))
          clear q
          refine wpAnyH_ready (rs := [6, 8]) (by as_aux_lemma => kernel_rfl) (by simp) ?_
          refine AllReadyH.cons rfl (fun K hK => ?_) (AllReadyH.cons rfl (fun K hK => ?_) AllReadyH.nil)
          · skip
            go_simp
            go_wp2_with (go_at_call 9; refine (HYZ.out _).mono ?_; rintro e y142 ⟨rfl, q⟩)
            refine hK.out _ _ ?_ (fun hS => ?_)
            · exact ⟨hS.1.on q, hS.2.1.on q, hS.2.2.1.on q, hS.2.2.2.on q⟩
            clear hK K
            replace hb8 := hb8.on q
            replace hb10 := hb10.on q
            replace HQ := Lib.hid (HQ.out.trans (q.mono (HAs.out ▸ HQ.out.size)))
            clear q
            refine wpAnyH_ready (rs := [7, 8]) (by as_aux_lemma => kernel_rfl) (by simp) ?_
            refine AllReadyH.cons rfl (fun K hK => ?_) (AllReadyH.cons rfl (fun K hK => ?_) AllReadyH.nil)
            · skip
              go_simp
              go_wp2_with (go_at_call 9; refine (HXR.out _).mono ?_; rintro e y143 ⟨rfl, q⟩)
              refine hK.out _ _ ?_ (fun hS => ?_)
              · exact ⟨hS.1.on q, hS.2.1.on q, hS.2.2.1.on q, hS.2.2.2.on q⟩
              clear hK K
              replace hb8 := hb8.on q
              replace hb10 := hb10.on q
              replace HQ := Lib.hid (HQ.out.trans (q.mono (HAs.out ▸ HQ.out.size)))
              clear q
              refine wpAnyH_ready (rs := [8]) (by as_aux_lemma => kernel_rfl) (by simp) ?_
              refine AllReadyH.cons rfl (fun K hK => ?_) AllReadyH.nil
              have d := (Below.refl y143.heap.size y143).alloc (Nat.le_refl _) (.cells #[.string ⟨#[]⟩, .int .i64 0, .int .u16 0, .string ⟨#[]⟩, .int .i64 0] 24)
              have hb9 : EBlk (y143.alloc (.cells #[.string ⟨#[]⟩, .int .i64 0, .int .u16 0, .string ⟨#[]⟩, .int .i64 0] 24)) y143.heap.size zeroE := EBlk.new y143 zeroE
              have l0 := hS.1.lt; have l1 := hS.2.1.lt; have l2 := hS.2.2.1.lt; have l3 := hS.2.2.2.lt
              have m0 := hb8.lt
              have m1 := hb10.lt
              go_simp
              refine hK.out _ _ ?_ (fun hS => ?_)
              · exact ⟨hS.1.on d, hS.2.1.on d, hS.2.2.1.on d, hS.2.2.2.on d⟩
              clear hK K
              replace hb8 := hb8.on d
              replace hb10 := hb10.on d
              have HNb9 : Hid (A ≠ y143.heap.size ∧ A + 1 ≠ y143.heap.size ∧ A + 1 + 1 ≠ y143.heap.size ∧ b7 ≠ y143.heap.size ∧ A ≤ y143.heap.size ∧ b8 ≠ y143.heap.size ∧ b10 ≠ y143.heap.size) := Lib.hid (by omega)
              replace HQ := Lib.hid (HQ.out.trans (d.mono (HAs.out ▸ HQ.out.size)))
              clear d l0 l1 l2 l3 m0 m1
              generalize hy : y143.alloc (.cells #[.string ⟨#[]⟩, .int .i64 0, .int .u16 0, .string ⟨#[]⟩, .int .i64 0] 24) = y144 at *
              clear hy
              generalize y143.heap.size = b9 at *
              refine wpAnyH_ready (rs := [10]) (by as_aux_lemma => kernel_rfl) (by simp) ?_
              refine AllReadyH.cons rfl (fun K hK => ?_) AllReadyH.nil
              have f0 := hb9.f 0; have f1 := hb9.f 1; have f2 := hb9.f 2; have f3 := hb9.f 3; have f4 := hb9.f 4
              have x0 := hb9.c0; have x1 := hb9.c1; have x2 := hb9.c2; have x3 := hb9.c3; have x4 := hb9.c4
              dsimp only [zeroE] at x0 x1 x2 x3 x4
              go_simp
              clear f0 f1 f2 f3 f4 x0 x1 x2 x3 x4
              obtain ⟨i0, i1, i2, i3, iA, j0, j1⟩ := HNb9.out
              refine hK.out _ _ ?_ (fun hS => ?_)
              · exact ⟨hS.1.stOther i0 (⟨ks, ts, os, vs, us⟩ : Ent), hS.2.1.stOther i1 (⟨ks, ts, os, vs, us⟩ : Ent), hS.2.2.1.stOther i2 (⟨ks, ts, os, vs, us⟩ : Ent), hS.2.2.2.stOther i3 (⟨ks, ts, os, vs, us⟩ : Ent)⟩
              clear hK K
              replace hb8 := hb8.stOther j0 (⟨ks, ts, os, vs, us⟩ : Ent)
              replace hb10 := hb10.stOther j1 (⟨ks, ts, os, vs, us⟩ : Ent)
              replace hb9 := hb9.store (⟨ks, ts, os, vs, us⟩ : Ent)
              replace HQ := Lib.hid (stE_below HQ.out iA (⟨ks, ts, os, vs, us⟩ : Ent))
              clear iA i0 i1 i2 i3 j0 j1
              dsimp only [stE] at *
              generalize hy : (((((World.setCell y144 ⟨b9, 0, none⟩ (.string ks)).setCell ⟨b9, 1, none⟩ (.int .i64 ts)).setCell ⟨b9, 2, none⟩ (.int .u16 os)).setCell ⟨b9, 3, none⟩ (.string vs)).setCell ⟨b9, 4, none⟩ (.int .i64 us)) = y145 at *
              clear hy
              refine wpAnyH_ready (rs := [11]) (by as_aux_lemma => kernel_rfl) (by simp) ?_
              refine AllReadyH.cons rfl (fun K hK => ?_) AllReadyH.nil
              have f0 := hb10.f 0; have f1 := hb10.f 1; have f2 := hb10.f 2; have f3 := hb10.f 3; have f4 := hb10.f 4
              have x0 := hb10.c0; have x1 := hb10.c1; have x2 := hb10.c2; have x3 := hb10.c3; have x4 := hb10.c4
              dsimp only [zeroE] at x0 x1 x2 x3 x4
              go_simp
              clear f0 f1 f2 f3 f4 x0 x1 x2 x3 x4
              obtain ⟨i0, i1, i2, i3, iA, j0⟩ := HNb10.out
              refine hK.out _ _ ?_ (fun hS => ?_)
              · exact ⟨hS.1.stOther i0 (⟨ks, ts, os, vs, us⟩ : Ent), hS.2.1.stOther i1 (⟨ks, ts, os, vs, us⟩ : Ent), hS.2.2.1.stOther i2 (⟨ks, ts, os, vs, us⟩ : Ent), hS.2.2.2.stOther i3 (⟨ks, ts, os, vs, us⟩ : Ent)⟩
              clear hK K
              replace hb8 := hb8.stOther j0 (⟨ks, ts, os, vs, us⟩ : Ent)
              replace hb9 := hb9.stOther (fun e => HNb9.out.2.2.2.2.2.2 e.symm) (⟨ks, ts, os, vs, us⟩ : Ent)
              replace hb10 := hb10.store (⟨ks, ts, os, vs, us⟩ : Ent)
              replace HQ := Lib.hid (stE_below HQ.out iA (⟨ks, ts, os, vs, us⟩ : Ent))
              clear iA i0 i1 i2 i3 j0
              dsimp only [stE] at *
              generalize hy : (((((World.setCell y145 ⟨b10, 0, none⟩ (.string ks)).setCell ⟨b10, 1, none⟩ (.int .i64 ts)).setCell ⟨b10, 2, none⟩ (.int .u16 os)).setCell ⟨b10, 3, none⟩ (.string vs)).setCell ⟨b10, 4, none⟩ (.int .i64 us)) = y146 at *
              clear hy
              refine wpAnyH_done (by kernel_rfl) ?_ _
              exact ⟨rfl, b9, b10, rfl, hS.1, hS.2.1, hS.2.2.1, hS.2.2.2, hb8, hb9, hb10, HQ.out⟩
            · skip
              have d := (Below.refl y142.heap.size y142).alloc (Nat.le_refl _) (.cells #[.string ⟨#[]⟩, .int .i64 0, .int .u16 0, .string ⟨#[]⟩, .int .i64 0] 24)
              have hb9 : EBlk (y142.alloc (.cells #[.string ⟨#[]⟩, .int .i64 0, .int .u16 0, .string ⟨#[]⟩, .int .i64 0] 24)) y142.heap.size zeroE := EBlk.new y142 zeroE
              have l0 := hS.1.lt; have l1 := hS.2.1.lt; have l2 := hS.2.2.1.lt; have l3 := hS.2.2.2.lt
              have m0 := hb8.lt
              have m1 := hb10.lt
              go_simp
              refine hK.out _ _ ?_ (fun hS => ?_)
              · exact ⟨hS.1.on d, hS.2.1.on d, hS.2.2.1.on d, hS.2.2.2.on d⟩
              clear hK K
              replace hb8 := hb8.on d
              replace hb10 := hb10.on d
              have HNb9 : Hid (A ≠ y142.heap.size ∧ A + 1 ≠ y142.heap.size ∧ A + 1 + 1 ≠ y142.heap.size ∧ b7 ≠ y142.heap.size ∧ A ≤ y142.heap.size ∧ b8 ≠ y142.heap.size ∧ b10 ≠ y142.heap.size) := Lib.hid (by omega)
              replace HQ := Lib.hid (HQ.out.trans (d.mono (HAs.out ▸ HQ.out.size)))
              clear d l0 l1 l2 l3 m0 m1
              generalize hy : y142.alloc (.cells #[.string ⟨#[]⟩, .int .i64 0, .int .u16 0, .string ⟨#[]⟩, .int .i64 0] 24) = y147 at *
              clear hy
              generalize y142.heap.size = b9 at *
              refine wpAnyH_ready (rs := [7]) (by as_aux_lemma => kernel_rfl) (by simp) ?_
              refine AllReadyH.cons rfl (fun K hK => ?_) AllReadyH.nil
              go_simp
              go_wp2_with (go_at_call 9; refine (HXR.out _).mono ?_; rintro e y148 ⟨rfl, q⟩)
              refine hK.out _ _ ?_ (fun hS => ?_)
              · exact ⟨hS.1.on q, hS.2.1.on q, hS.2.2.1.on q, hS.2.2.2.on q⟩
              clear hK K
              replace hb8 := hb8.on q
              replace hb10 := hb10.on q
              replace hb9 := hb9.on q
              replace HQ := Lib.hid (HQ.out.trans (q.mono (HAs.out ▸ HQ.out.size)))
              clear q
              refine wpAnyH_ready (rs := [10]) (by as_aux_lemma => kernel_rfl) (by simp) ?_
              refine AllReadyH.cons rfl (fun K hK => ?_) AllReadyH.nil
              have f0 := hb9.f 0; have f1 := hb9.f 1; have f2 := hb9.f 2; have f3 := hb9.f 3; have f4 := hb9.f 4
              have x0 := hb9.c0; have x1 := hb9.c1; have x2 := hb9.c2; have x3 := hb9.c3; have x4 := hb9.c4
              dsimp only [zeroE] at x0 x1 x2 x3 x4
              go_simp
              clear f0 f1 f2 f3 f4 x0 x1 x2 x3 x4
              obtain ⟨i0, i1, i2, i3, iA, j0, j1⟩ := HNb9.out
              refine hK.out _ _ ?_ (fun hS => ?_)
              · exact ⟨hS.1.stOther i0 (⟨ks, ts, os, vs, us⟩ : Ent), hS.2.1.stOther i1 (⟨ks, ts, os, vs, us⟩ : Ent), hS.2.2.1.stOther i2 (⟨ks, ts, os, vs, us⟩ : Ent), hS.2.2.2.stOther i3 (⟨ks, ts, os, vs, us⟩ : Ent)⟩
              clear hK K
              replace hb8 := hb8.stOther j0 (⟨ks, ts, os, vs, us⟩ : Ent)
              replace hb10 := hb10.stOther j1 (⟨ks, ts, os, vs, us⟩ : Ent)
              replace hb9 := hb9.store (⟨ks, ts, os, vs, us⟩ : Ent)
              replace HQ := Lib.hid (stE_below HQ.out iA (⟨ks, ts, os, vs, us⟩ : Ent))
              clear iA i0 i1 i2 i3 j0 j1
              dsimp only [stE] at *
              generalize hy : (((((World.setCell y148 ⟨b9, 0, none⟩ (.string ks)).setCell ⟨b9, 1, none⟩ (.int .i64 ts)).setCell ⟨b9, 2, none⟩ (.int .u16 os)).setCell ⟨b9, 3, none⟩ (.string vs)).setCell ⟨b9, 4, none⟩ (.int .i64 us)) = y149 at *
              clear hy
              refine wpAnyH_ready (rs := [11]) (by as_aux_lemma => kernel_rfl) (by simp) ?_
              refine AllReadyH.cons rfl (fun K hK => ?_) AllReadyH.nil
              have f0 := hb10.f 0; have f1 := hb10.f 1; have f2 := hb10.f 2; have f3 := hb10.f 3; have f4 := hb10.f 4
              have x0 := hb10.c0; have x1 := hb10.c1; have x2 := hb10.c2; have x3 := hb10.c3; have x4 := hb10.c4
              dsimp only [zeroE] at x0 x1 x2 x3 x4
              go_simp
              clear f0 f1 f2 f3 f4 x0 x1 x2 x3 x4
              obtain ⟨i0, i1, i2, i3, iA, j0⟩ := HNb10.out
              refine hK.out _ _ ?_ (fun hS => ?_)
              · exact ⟨hS.1.stOther i0 (⟨ks, ts, os, vs, us⟩ : Ent), hS.2.1.stOther i1 (⟨ks, ts, os, vs, us⟩ : Ent), hS.2.2.1.stOther i2 (⟨ks, ts, os, vs, us⟩ : Ent), hS.2.2.2.stOther i3 (⟨ks, ts, os, vs, us⟩ : Ent)⟩
              clear hK K
              replace hb8 := hb8.stOther j0 (⟨ks, ts, os, vs, us⟩ : Ent)
              replace hb9 := hb9.stOther (fun e => HNb9.out.2.2.2.2.2.2 e.symm) (⟨ks, ts, os, vs, us⟩ : Ent)
              replace hb10 := hb10.store (⟨ks, ts, os, vs, us⟩ : Ent)
              replace HQ := Lib.hid (stE_below HQ.out iA (⟨ks, ts, os, vs, us⟩ : Ent))
              clear iA i0 i1 i2 i3 j0
              dsimp only [stE] at *
              generalize hy : (((((World.setCell y149 ⟨b10, 0, none⟩ (.string ks)).setCell ⟨b10, 1, none⟩ (.int .i64 ts)).setCell ⟨b10, 2, none⟩ (.int .u16 os)).setCell ⟨b10, 3, none⟩ (.string vs)).setCell ⟨b10, 4, none⟩ (.int .i64 us)) = y150 at *
              clear hy
              refine wpAnyH_done (by kernel_rfl) ?_ _
              exact ⟨rfl, b9, b10, rfl, hS.1, hS.2.1, hS.2.2.1, hS.2.2.2, hb8, hb9, hb10, HQ.out⟩
          · skip
            have d := (Below.refl y141.heap.size y141).alloc (Nat.le_refl _) (.cells #[.string ⟨#[]⟩, .int .i64 0, .int .u16 0, .string ⟨#[]⟩, .int .i64 0] 24)
            have hb9 : EBlk (y141.alloc (.cells #[.string ⟨#[]⟩, .int .i64 0, .int .u16 0, .string ⟨#[]⟩, .int .i64 0] 24)) y141.heap.size zeroE := EBlk.new y141 zeroE
            have l0 := hS.1.lt; have l1 := hS.2.1.lt; have l2 := hS.2.2.1.lt; have l3 := hS.2.2.2.lt
            have m0 := hb8.lt
            have m1 := hb10.lt
            go_simp
            refine hK.out _ _ ?_ (fun hS => ?_)
            · exact ⟨hS.1.on d, hS.2.1.on d, hS.2.2.1.on d, hS.2.2.2.on d⟩
            clear hK K
            replace hb8 := hb8.on d
            replace hb10 := hb10.on d
            have HNb9 : Hid (A ≠ y141.heap.size ∧ A + 1 ≠ y141.heap.size ∧ A + 1 + 1 ≠ y141.heap.size ∧ b7 ≠ y141.heap.size ∧ A ≤ y141.heap.size ∧ b8 ≠ y141.heap.size ∧ b10 ≠ y141.heap.size) := Lib.hid (by omega)
            replace HQ := Lib.hid (HQ.out.trans (d.mono (HAs.out ▸ HQ.out.size)))
            clear d l0 l1 l2 l3 m0 m1
            generalize hy : y141.alloc (.cells #[.string ⟨#[]⟩, .int .i64 0, .int .u16 0, .string ⟨#[]⟩, .int .i64 0] 24) = y151 at *
            clear hy
            generalize y141.heap.size = b9 at *
            refine wpAnyH_ready (rs := [6]) (by as_aux_lemma => kernel_rfl) (by simp) ?_
            refine AllReadyH.cons rfl (fun K hK => ?_) AllReadyH.nil
            go_simp
            go_wp2_with (go_at_call 9; refine (HYZ.out _).mono ?_; rintro e y152 ⟨rfl, q⟩)
            refine hK.out _ _ ?_ (fun hS => ?_)
            · exact ⟨hS.1.on q, hS.2.1.on q, hS.2.2.1.on q, hS.2.2.2.on q⟩
            clear hK K
            replace hb8 := hb8.on q
            replace hb10 := hb10.on q
            replace hb9 := hb9.on q
            replace HQ := Lib.hid (HQ.out.trans (q.mono (HAs.out ▸ HQ.out.size)))
            clear q
            refine wpAnyH_ready (rs := [7]) (by as_aux_lemma => kernel_rfl) (by simp) ?_
            refine AllReadyH.cons rfl (fun K hK => ?_) AllReadyH.nil
            go_simp
            go_wp2_with (go_at_call 9; refine (HXR.out _).mono ?_; rintro e y153 ⟨rfl, q⟩)
            refine hK.out _ _ ?_ (fun hS => ?_)
            · exact ⟨hS.1.on q, hS.2.1.on q, hS.2.2.1.on q, hS.2.2.2.on q⟩
            clear hK K
            replace hb8 := hb8.on q
            replace hb10 := hb10.on q
            replace hb9 := hb9.on q
            replace HQ := Lib.hid (HQ.out.trans (q.mono (HAs.out ▸ HQ.out.size)))
            clear q
            refine wpAnyH_ready (rs := [10]) (by as_aux_lemma => kernel_rfl) (by simp) ?_
            refine AllReadyH.cons rfl (fun K hK => ?_) AllReadyH.nil
            have f0 := hb9.f 0; have f1 := hb9.f 1; have f2 := hb9.f 2; have f3 := hb9.f 3; have f4 := hb9.f 4
            have x0 := hb9.c0; have x1 := hb9.c1; have x2 := hb9.c2; have x3 := hb9.c3; have x4 := hb9.c4
            dsimp only [zeroE] at x0 x1 x2 x3 x4
            go_simp
            clear f0 f1 f2 f3 f4 x0 x1 x2 x3 x4
            obtain ⟨i0, i1, i2, i3, iA, j0, j1⟩ := HNb9.out
            refine hK.out _ _ ?_ (fun hS => ?_)
            · exact ⟨hS.1.stOther i0 (⟨ks, ts, os, vs, us⟩ : Ent), hS.2.1.stOther i1 (⟨ks, ts, os, vs, us⟩ : Ent), hS.2.2.1.stOther i2 (⟨ks, ts, os, vs, us⟩ : Ent), hS.2.2.2.stOther i3 (⟨ks, ts, os, vs, us⟩ : Ent)⟩
            clear hK K
            replace hb8 := hb8.stOther j0 (⟨ks, ts, os, vs, us⟩ : Ent)
            replace hb10 := hb10.stOther j1 (⟨ks, ts, os, vs, us⟩ : Ent)
            replace hb9 := hb9.store (⟨ks, ts, os, vs, us⟩ : Ent)
            replace HQ := Lib.hid (stE_below HQ.out iA (⟨ks, ts, os, vs, us⟩ : Ent))
            clear iA i0 i1 i2 i3 j0 j1
            dsimp only [stE] at *
            generalize hy : (((((World.setCell y153 ⟨b9, 0, none⟩ (.string ks)).setCell ⟨b9, 1, none⟩ (.int .i64 ts)).setCell ⟨b9, 2, none⟩ (.int .u16 os)).setCell ⟨b9, 3, none⟩ (.string vs)).setCell ⟨b9, 4, none⟩ (.int .i64 us)) = y154 at *
            clear hy
            refine wpAnyH_ready (rs := [11]) (by as_aux_lemma => kernel_rfl) (by simp) ?_
            refine AllReadyH.cons rfl (fun K hK => ?_) AllReadyH.nil
            have f0 := hb10.f 0; have f1 := hb10.f 1; have f2 := hb10.f 2; have f3 := hb10.f 3; have f4 := hb10.f 4
            have x0 := hb10.c0; have x1 := hb10.c1; have x2 := hb10.c2; have x3 := hb10.c3; have x4 := hb10.c4
            dsimp only [zeroE] at x0 x1 x2 x3 x4
            go_simp
            clear f0 f1 f2 f3 f4 x0 x1 x2 x3 x4
            obtain ⟨i0, i1, i2, i3, iA, j0⟩ := HNb10.out
            refine hK.out _ _ ?_ (fun hS => ?_)
            · exact ⟨hS.1.stOther i0 (⟨ks, ts, os, vs, us⟩ : Ent), hS.2.1.stOther i1 (⟨ks, ts, os, vs, us⟩ : Ent), hS.2.2.1.stOther i2 (⟨ks, ts, os, vs, us⟩ : Ent), hS.2.2.2.stOther i3 (⟨ks, ts, os, vs, us⟩ : Ent)⟩
            clear hK K
            replace hb8 := hb8.stOther j0 (⟨ks, ts, os, vs, us⟩ : Ent)
            replace hb9 := hb9.stOther (fun e => HNb9.out.2.2.2.2.2.2 e.symm) (⟨ks, ts, os, vs, us⟩ : Ent)
            replace hb10 := hb10.store (⟨ks, ts, os, vs, us⟩ : Ent)
            replace HQ := Lib.hid (stE_below HQ.out iA (⟨ks, ts, os, vs, us⟩ : Ent))
            clear iA i0 i1 i2 i3 j0
            dsimp only [stE] at *
            generalize hy : (((((World.setCell y154 ⟨b10, 0, none⟩ (.string ks)).setCell ⟨b10, 1, none⟩ (.int .i64 ts)).setCell ⟨b10, 2, none⟩ (.int .u16 os)).setCell ⟨b10, 3, none⟩ (.string vs)).setCell ⟨b10, 4, none⟩ (.int .i64 us)) = y155 at *
            clear hy
            refine wpAnyH_done (by kernel_rfl) ?_ _
            exact ⟨rfl, b9, b10, rfl, hS.1, hS.2.1, hS.2.2.1, hS.2.2.2, hb8, hb9, hb10, HQ.out⟩
        · skip
          have d := (Below.refl y140.heap.size y140).alloc (Nat.le_refl _) (.cells #[.string ⟨#[]⟩, .int .i64 0, .int .u16 0, .string ⟨#[]⟩, .int .i64 0] 24)
          have hb9 : EBlk (y140.alloc (.cells #[.string ⟨#[]⟩, .int .i64 0, .int .u16 0, .string ⟨#[]⟩, .int .i64 0] 24)) y140.heap.size zeroE := EBlk.new y140 zeroE
          have l0 := hS.1.lt; have l1 := hS.2.1.lt; have l2 := hS.2.2.1.lt; have l3 := hS.2.2.2.lt
          have m0 := hb8.lt
          have m1 := hb10.lt
          go_simp
          refine hK.out _ _ ?_ (fun hS => ?_)
          · exact ⟨hS.1.on d, hS.2.1.on d, hS.2.2.1.on d, hS.2.2.2.on d⟩
          clear hK K
          replace hb8 := hb8.on d
          replace hb10 := hb10.on d
          have HNb9 : Hid (A ≠ y140.heap.size ∧ A + 1 ≠ y140.heap.size ∧ A + 1 + 1 ≠ y140.heap.size ∧ b7 ≠ y140.heap.size ∧ A ≤ y140.heap.size ∧ b8 ≠ y140.heap.size ∧ b10 ≠ y140.heap.size) := Lib.hid (by omega)
          replace HQ := Lib.hid (HQ.out.trans (d.mono (HAs.out ▸ HQ.out.size)))
          clear d l0 l1 l2 l3 m0 m1
          generalize hy : y140.alloc (.cells #[.string ⟨#[]⟩, .int .i64 0, .int .u16 0, .string ⟨#[]⟩, .int .i64 0] 24) = y156 at *
          clear hy
          generalize y140.heap.size = b9 at *
          refine wpAnyH_ready (rs := [2]) (by as_aux_lemma => kernel_rfl) (by simp) ?_
          refine AllReadyH.cons rfl (fun K hK => ?_) AllReadyH.nil
          go_simp
          go_wp2_with (go_at_call 9; refine (HPZ.out _).mono ?_; rintro e y157 ⟨rfl, q⟩)
          refine hK.out _ _ ?_ (fun hS => ?_)
          · exact ⟨hS.1.on q, hS.2.1.on q, hS.2.2.1.on q, hS.2.2.2.on q⟩
          clear hK K
          replace hb8 := hb8.on q
          replace hb10 := hb10.on q
          replace hb9 := hb9.on q
          replace HQ := Lib.hid (HQ.out.trans (q.mono (HAs.out ▸ HQ.out.size)))
          clear q
          refine wpAnyH_ready (rs := [6]) (by as_aux_lemma => kernel_rfl) (by simp) ?_
          refine AllReadyH.cons rfl (fun K hK => ?_) AllReadyH.nil
          go_simp
          go_wp2_with (go_at_call 9; refine (HYZ.out _).mono ?_; rintro e y158 ⟨rfl, q⟩)
          refine hK.out _ _ ?_ (fun hS => ?_)
          · exact ⟨hS.1.on q, hS.2.1.on q, hS.2.2.1.on q, hS.2.2.2.on q⟩
          clear hK K
          replace hb8 := hb8.on q
          replace hb10 := hb10.on q
          replace hb9 := hb9.on q
          replace HQ := Lib.hid (HQ.out.trans (q.mono (HAs.out ▸ HQ.out.size)))
          clear q
          refine wpAnyH_ready (rs := [7]) (by as_aux_lemma => kernel_rfl) (by simp) ?_
          refine AllReadyH.cons rfl (fun K hK => ?_) AllReadyH.nil
          go_simp
          go_wp2_with (go_at_call 9; refine (HXR.out _).mono ?_; rintro e y159 ⟨rfl, q⟩)
          refine hK.out _ _ ?_ (fun hS => ?_)
          · exact ⟨hS.1.on q, hS.2.1.on q, hS.2.2.1.on q, hS.2.2.2.on q⟩
          clear hK K
          replace hb8 := hb8.on q
          replace hb10 := hb10.on q
          replace hb9 := hb9.on q
          replace HQ := Lib.hid (HQ.out.trans (q.mono (HAs.out ▸ HQ.out.size)))
          clear q
          refine wpAnyH_ready (rs := [10]) (by as_aux_lemma => kernel_rfl) (by simp) ?_
          refine AllReadyH.cons rfl (fun K hK => ?_) AllReadyH.nil
          have f0 := hb9.f 0; have f1 := hb9.f 1; have f2 := hb9.f 2; have f3 := hb9.f 3; have f4 := hb9.f 4
          have x0 := hb9.c0; have x1 := hb9.c1; have x2 := hb9.c2; have x3 := hb9.c3; have x4 := hb9.c4
          dsimp only [zeroE] at x0 x1 x2 x3 x4
          go_simp
          clear f0 f1 f2 f3 f4 x0 x1 x2 x3 x4
          obtain ⟨i0, i1, i2, i3, iA, j0, j1⟩ := HNb9.out
          refine hK.out _ _ ?_ (fun hS => ?_)
          · exact ⟨hS.1.stOther i0 (⟨ks, ts, os, vs, us⟩ : Ent), hS.2.1.stOther i1 (⟨ks, ts, os, vs, us⟩ : Ent), hS.2.2.1.stOther i2 (⟨ks, ts, os, vs, us⟩ : Ent), hS.2.2.2.stOther i3 (⟨ks, ts, os, vs, us⟩ : Ent)⟩
          clear hK K
          replace hb8 := hb8.stOther j0 (⟨ks, ts, os, vs, us⟩ : Ent)
          replace hb10 := hb10.stOther j1 (⟨ks, ts, os, vs, us⟩ : Ent)
          replace hb9 := hb9.store (⟨ks, ts, os, vs, us⟩ : Ent)
          replace HQ := Lib.hid (stE_below HQ.out iA (⟨ks, ts, os, vs, us⟩ : Ent))
          clear iA i0 i1 i2 i3 j0 j1
          dsimp only [stE] at *
          generalize hy : (((((World.setCell y159 ⟨b9, 0, none⟩ (.string ks)).setCell ⟨b9, 1, none⟩ (.int .i64 ts)).setCell ⟨b9, 2, none⟩ (.int .u16 os)).setCell ⟨b9, 3, none⟩ (.string vs)).setCell ⟨b9, 4, none⟩ (.int .i64 us)) = y160 at *
          clear hy
          refine wpAnyH_ready (rs := [11]) (by as_aux_lemma => kernel_rfl) (by simp) ?_
          refine AllReadyH.cons rfl (fun K hK => ?_) AllReadyH.nil
          have f0 := hb10.f 0; have f1 := hb10.f 1; have f2 := hb10.f 2; have f3 := hb10.f 3; have f4 := hb10.f 4
          have x0 := hb10.c0; have x1 := hb10.c1; have x2 := hb10.c2; have x3 := hb10.c3; have x4 := hb10.c4
          dsimp only [zeroE] at x0 x1 x2 x3 x4
          go_simp
          clear f0 f1 f2 f3 f4 x0 x1 x2 x3 x4
          obtain ⟨i0, i1, i2, i3, iA, j0⟩ := HNb10.out
          refine hK.out _ _ ?_ (fun hS => ?_)
          · exact ⟨hS.1.stOther i0 (⟨ks, ts, os, vs, us⟩ : Ent), hS.2.1.stOther i1 (⟨ks, ts, os, vs, us⟩ : Ent), hS.2.2.1.stOther i2 (⟨ks, ts, os, vs, us⟩ : Ent), hS.2.2.2.stOther i3 (⟨ks, ts, os, vs, us⟩ : Ent)⟩
          clear hK K
          replace hb8 := hb8.stOther j0 (⟨ks, ts, os, vs, us⟩ : Ent)
          replace hb9 := hb9.stOther (fun e => HNb9.out.2.2.2.2.2.2 e.symm) (⟨ks, ts, os, vs, us⟩ : Ent)
          replace hb10 := hb10.store (⟨ks, ts, os, vs, us⟩ : Ent)
          replace HQ := Lib.hid (stE_below HQ.out iA (⟨ks, ts, os, vs, us⟩ : Ent))
          clear iA i0 i1 i2 i3 j0
          dsimp only [stE] at *
          generalize hy : (((((World.setCell y160 ⟨b10, 0, none⟩ (.string ks)).setCell ⟨b10, 1, none⟩ (.int .i64 ts)).setCell ⟨b10, 2, none⟩ (.int .u16 os)).setCell ⟨b10, 3, none⟩ (.string vs)).setCell ⟨b10, 4, none⟩ (.int .i64 us)) = y161 at *
          clear hy
          refine wpAnyH_done (by kernel_rfl) ?_ _
          exact ⟨rfl, b9, b10, rfl, hS.1, hS.2.1, hS.2.2.1, hS.2.2.2, hb8, hb9, hb10, HQ.out⟩
    · intro b9 b10 w8 HF
      obtain ⟨h1, h2, h3, hb7, hb8, hb9, hb10, hq⟩ := HF
      have HQ8 := Lib.hid hq
      clear hS HQ6 hq HPZ HYZ HXR
      have ee1 := fun w => run_eqE (⟨kp, tp, op, vp, up⟩ : Ent) (⟨kp, tp, op, vp, up⟩ : Ent) w
      have ee2 := fun w => run_eqE (⟨ks, ts, os, vs, us⟩ : Ent) (⟨ks, ts, os, vs, us⟩ : Ent) w
      have ee3 := fun w => run_eqE (⟨kx, tx, ox, vx, ux⟩ : Ent) (⟨kx, tx, ox, vx, ux⟩ : Ent) w
      rw [eqEn_refl] at ee1 ee2 ee3
      dsimp only at ee1 ee2 ee3
      have HB8 := Lib.hid (And.intro h1 (And.intro h2 (And.intro hb7 (And.intro hb8 (And.intro hb9 hb10)))))
      clear h1 h2 h3 hb7 hb8 hb9 hb10
      have ee4 := fun w => run_eqE (⟨kp, tp, op, vp, up⟩ : Ent) (⟨kx, tx, ox, vx, ux⟩ : Ent) w
      have ee5 := fun w => run_eqE (⟨kp, tp, op, vp, up⟩ : Ent) (⟨kx, ty, oy, vy, uy⟩ : Ent) w
      dsimp only at ee4 ee5
      cases hq : eqEn (⟨kp, tp, op, vp, up⟩ : Ent) (⟨kx, tx, ox, vx, ux⟩ : Ent) with
      | true =>
        rw [hq] at ee4
        clear ee5
        clear hq HE4
        go_simp
        go_wp2_with fail
        obtain ⟨h1, h2, hb7, hb8, hb9, hb10⟩ := HB8.out
        refine wp_region_any (by kernel_rfl) ?_
        change wpAny _ _ _ _ _ _ _ (World.drew _)
        have hS : (fun w' : World => EBlk w' A (⟨kx, tx, ox, vx, ux⟩ : Ent) ∧ EBlk w' (A + 1) (⟨kx, ty, oy, vy, uy⟩ : Ent) ∧ EBlk w' b7 (⟨kp, tp, op, vp, up⟩ : Ent) ∧ EBlk w' b8 (⟨kp, tp, op, vp, up⟩ : Ent) ∧ EBlk w' b9 (⟨ks, ts, os, vs, us⟩ : Ent) ∧ EBlk w' b10 (⟨ks, ts, os, vs, us⟩ : Ent) ∧ Below A W w') w8.drew := ⟨h1, h2, hb7, hb8, hb9, hb10, HQ8.out.drew⟩
        refine wpAny_of_held (S := fun w' => EBlk w' A (⟨kx, tx, ox, vx, ux⟩ : Ent) ∧ EBlk w' (A + 1) (⟨kx, ty, oy, vy, uy⟩ : Ent) ∧ EBlk w' b7 (⟨kp, tp, op, vp, up⟩ : Ent) ∧ EBlk w' b8 (⟨kp, tp, op, vp, up⟩ : Ent) ∧ EBlk w' b9 (⟨ks, ts, os, vs, us⟩ : Ent) ∧ EBlk w' b10 (⟨ks, ts, os, vs, us⟩ : Ent) ∧ Below A W w') _ _ _ _ ?_
        clear h1 h2 hb7 hb8 hb9 hb10 HB8 HQ8
        refine wpAnyH_takeE (i := 0) (some 31) (v := ?_) rfl rfl (by as_aux_lemma => kernel_rfl) (by as_aux_lemma => kernel_rfl) (by as_aux_lemma => kernel_rfl) (fun _ _ _ h => h) (Or.inl ⟨by kernel_rfl, ?_⟩) hS ?_
        rotate_left
        · intro w hSw; obtain ⟨c00, c01, c02, c03, c04⟩ := hSw.1.cs; obtain ⟨c10, c11, c12, c13, c14⟩ := hSw.2.1.cs; obtain ⟨c20, c21, c22, c23, c24⟩ := hSw.2.2.1.cs; obtain ⟨c30, c31, c32, c33, c34⟩ := hSw.2.2.2.1.cs; obtain ⟨c40, c41, c42, c43, c44⟩ := hSw.2.2.2.2.1.cs; obtain ⟨c50, c51, c52, c53, c54⟩ := hSw.2.2.2.2.2.1.cs; go_simp
          first | done | with_reducible rfl
        refine wpAnyH_takeE (i := 1) (some 32) (v := ?_) rfl rfl (by as_aux_lemma => kernel_rfl) (by as_aux_lemma => kernel_rfl) (by as_aux_lemma => kernel_rfl) (fun _ _ _ h => h) (Or.inl ⟨by kernel_rfl, ?_⟩) hS ?_
        rotate_left
        · intro w hSw; obtain ⟨c00, c01, c02, c03, c04⟩ := hSw.1.cs; obtain ⟨c10, c11, c12, c13, c14⟩ := hSw.2.1.cs; obtain ⟨c20, c21, c22, c23, c24⟩ := hSw.2.2.1.cs; obtain ⟨c30, c31, c32, c33, c34⟩ := hSw.2.2.2.1.cs; obtain ⟨c40, c41, c42, c43, c44⟩ := hSw.2.2.2.2.1.cs; obtain ⟨c50, c51, c52, c53, c54⟩ := hSw.2.2.2.2.2.1.cs; go_simp
          first | done | with_reducible rfl
        refine wpAnyH_takeE (i := 2) (some 33) (v := ?_) rfl rfl (by as_aux_lemma => kernel_rfl) (by as_aux_lemma => kernel_rfl) (by as_aux_lemma => kernel_rfl) (fun _ _ _ h => h) (Or.inl ⟨by kernel_rfl, ?_⟩) hS ?_
        rotate_left
        · intro w hSw; obtain ⟨c00, c01, c02, c03, c04⟩ := hSw.1.cs; obtain ⟨c10, c11, c12, c13, c14⟩ := hSw.2.1.cs; obtain ⟨c20, c21, c22, c23, c24⟩ := hSw.2.2.1.cs; obtain ⟨c30, c31, c32, c33, c34⟩ := hSw.2.2.2.1.cs; obtain ⟨c40, c41, c42, c43, c44⟩ := hSw.2.2.2.2.1.cs; obtain ⟨c50, c51, c52, c53, c54⟩ := hSw.2.2.2.2.2.1.cs; go_simp
          first | done | with_reducible rfl
        refine wpAnyH_takeE (i := 3) (some 34) (v := ?_) rfl rfl (by as_aux_lemma => kernel_rfl) (by as_aux_lemma => kernel_rfl) (by as_aux_lemma => kernel_rfl) (fun _ _ _ h => h) (Or.inl ⟨by kernel_rfl, ?_⟩) hS ?_
        rotate_left
        · intro w hSw; obtain ⟨c00, c01, c02, c03, c04⟩ := hSw.1.cs; obtain ⟨c10, c11, c12, c13, c14⟩ := hSw.2.1.cs; obtain ⟨c20, c21, c22, c23, c24⟩ := hSw.2.2.1.cs; obtain ⟨c30, c31, c32, c33, c34⟩ := hSw.2.2.2.1.cs; obtain ⟨c40, c41, c42, c43, c44⟩ := hSw.2.2.2.2.1.cs; obtain ⟨c50, c51, c52, c53, c54⟩ := hSw.2.2.2.2.2.1.cs; go_simp
          first | done | with_reducible rfl
        refine wpAnyH_takeE (i := 4) (some 35) (v := ?_) rfl rfl (by as_aux_lemma => kernel_rfl) (by as_aux_lemma => kernel_rfl) (by as_aux_lemma => kernel_rfl) (fun _ _ _ h => h) (Or.inl ⟨by kernel_rfl, ?_⟩) hS ?_
        rotate_left
        · intro w hSw; obtain ⟨c00, c01, c02, c03, c04⟩ := hSw.1.cs; obtain ⟨c10, c11, c12, c13, c14⟩ := hSw.2.1.cs; obtain ⟨c20, c21, c22, c23, c24⟩ := hSw.2.2.1.cs; obtain ⟨c30, c31, c32, c33, c34⟩ := hSw.2.2.2.1.cs; obtain ⟨c40, c41, c42, c43, c44⟩ := hSw.2.2.2.2.1.cs; obtain ⟨c50, c51, c52, c53, c54⟩ := hSw.2.2.2.2.2.1.cs; go_simp
          first | done | with_reducible rfl
        refine wpAnyH_takeE (i := 5) (some 36) (v := ?_) rfl rfl (by as_aux_lemma => kernel_rfl) (by as_aux_lemma => kernel_rfl) (by as_aux_lemma => kernel_rfl) (fun _ _ _ h => h) (Or.inl ⟨by kernel_rfl, ?_⟩) hS ?_
        rotate_left
        · intro w hSw; obtain ⟨c00, c01, c02, c03, c04⟩ := hSw.1.cs; obtain ⟨c10, c11, c12, c13, c14⟩ := hSw.2.1.cs; obtain ⟨c20, c21, c22, c23, c24⟩ := hSw.2.2.1.cs; obtain ⟨c30, c31, c32, c33, c34⟩ := hSw.2.2.2.1.cs; obtain ⟨c40, c41, c42, c43, c44⟩ := hSw.2.2.2.2.1.cs; obtain ⟨c50, c51, c52, c53, c54⟩ := hSw.2.2.2.2.2.1.cs; go_simp
          first | done | with_reducible rfl
        refine wpAnyH_takeE (i := 6) (some 37) (v := ?_) rfl rfl (by as_aux_lemma => kernel_rfl) (by as_aux_lemma => kernel_rfl) (by as_aux_lemma => kernel_rfl) (fun _ _ _ h => h) (Or.inl ⟨by kernel_rfl, ?_⟩) hS ?_
        rotate_left
        · intro w hSw; obtain ⟨c00, c01, c02, c03, c04⟩ := hSw.1.cs; obtain ⟨c10, c11, c12, c13, c14⟩ := hSw.2.1.cs; obtain ⟨c20, c21, c22, c23, c24⟩ := hSw.2.2.1.cs; obtain ⟨c30, c31, c32, c33, c34⟩ := hSw.2.2.2.1.cs; obtain ⟨c40, c41, c42, c43, c44⟩ := hSw.2.2.2.2.1.cs; obtain ⟨c50, c51, c52, c53, c54⟩ := hSw.2.2.2.2.2.1.cs; go_simp
          first | done | with_reducible rfl
        refine wpAnyH_takeE (i := 7) (some 38) (v := ?_) rfl rfl (by as_aux_lemma => kernel_rfl) (by as_aux_lemma => kernel_rfl) (by as_aux_lemma => kernel_rfl) (fun _ _ _ h => h) (Or.inl ⟨by kernel_rfl, ?_⟩) hS ?_
        rotate_left
        · intro w hSw; obtain ⟨c00, c01, c02, c03, c04⟩ := hSw.1.cs; obtain ⟨c10, c11, c12, c13, c14⟩ := hSw.2.1.cs; obtain ⟨c20, c21, c22, c23, c24⟩ := hSw.2.2.1.cs; obtain ⟨c30, c31, c32, c33, c34⟩ := hSw.2.2.2.1.cs; obtain ⟨c40, c41, c42, c43, c44⟩ := hSw.2.2.2.2.1.cs; obtain ⟨c50, c51, c52, c53, c54⟩ := hSw.2.2.2.2.2.1.cs; go_simp
          first | done | with_reducible rfl
        refine wpAnyH_takeE (i := 8) (some 39) (v := ?_) rfl rfl (by as_aux_lemma => kernel_rfl) (by as_aux_lemma => kernel_rfl) (by as_aux_lemma => kernel_rfl) (fun _ _ _ h => h) (Or.inl ⟨by kernel_rfl, ?_⟩) hS ?_
        rotate_left
        · intro w hSw; obtain ⟨c00, c01, c02, c03, c04⟩ := hSw.1.cs; obtain ⟨c10, c11, c12, c13, c14⟩ := hSw.2.1.cs; obtain ⟨c20, c21, c22, c23, c24⟩ := hSw.2.2.1.cs; obtain ⟨c30, c31, c32, c33, c34⟩ := hSw.2.2.2.1.cs; obtain ⟨c40, c41, c42, c43, c44⟩ := hSw.2.2.2.2.1.cs; obtain ⟨c50, c51, c52, c53, c54⟩ := hSw.2.2.2.2.2.1.cs; go_simp
          first | done | with_reducible rfl
        refine wpAnyH_takeE (i := 9) (some 40) (v := ?_) rfl rfl (by as_aux_lemma => kernel_rfl) (by as_aux_lemma => kernel_rfl) (by as_aux_lemma => kernel_rfl) (fun _ _ _ h => h) (Or.inl ⟨by kernel_rfl, ?_⟩) hS ?_
        rotate_left
        · intro w hSw; obtain ⟨c00, c01, c02, c03, c04⟩ := hSw.1.cs; obtain ⟨c10, c11, c12, c13, c14⟩ := hSw.2.1.cs; obtain ⟨c20, c21, c22, c23, c24⟩ := hSw.2.2.1.cs; obtain ⟨c30, c31, c32, c33, c34⟩ := hSw.2.2.2.1.cs; obtain ⟨c40, c41, c42, c43, c44⟩ := hSw.2.2.2.2.1.cs; obtain ⟨c50, c51, c52, c53, c54⟩ := hSw.2.2.2.2.2.1.cs; go_simp
          first | done | with_reducible rfl
        refine wpAnyH_takeE (i := 10) (some 41) (v := ?_) rfl rfl (by as_aux_lemma => kernel_rfl) (by as_aux_lemma => kernel_rfl) (by as_aux_lemma => kernel_rfl) (fun _ _ _ h => h) (Or.inl ⟨by kernel_rfl, ?_⟩) hS ?_
        rotate_left
        · intro w hSw; obtain ⟨c00, c01, c02, c03, c04⟩ := hSw.1.cs; obtain ⟨c10, c11, c12, c13, c14⟩ := hSw.2.1.cs; obtain ⟨c20, c21, c22, c23, c24⟩ := hSw.2.2.1.cs; obtain ⟨c30, c31, c32, c33, c34⟩ := hSw.2.2.2.1.cs; obtain ⟨c40, c41, c42, c43, c44⟩ := hSw.2.2.2.2.1.cs; obtain ⟨c50, c51, c52, c53, c54⟩ := hSw.2.2.2.2.2.1.cs; go_simp
          first | done | with_reducible rfl
        refine wpAnyH_takeE (i := 12) (some 43) (v := ?_) rfl rfl (by as_aux_lemma => kernel_rfl) (by as_aux_lemma => kernel_rfl) (by as_aux_lemma => kernel_rfl) (fun _ _ _ h => h) (Or.inl ⟨by kernel_rfl, ?_⟩) hS ?_
        rotate_left
        · intro w hSw; obtain ⟨c00, c01, c02, c03, c04⟩ := hSw.1.cs; obtain ⟨c10, c11, c12, c13, c14⟩ := hSw.2.1.cs; obtain ⟨c20, c21, c22, c23, c24⟩ := hSw.2.2.1.cs; obtain ⟨c30, c31, c32, c33, c34⟩ := hSw.2.2.2.1.cs; obtain ⟨c40, c41, c42, c43, c44⟩ := hSw.2.2.2.2.1.cs; obtain ⟨c50, c51, c52, c53, c54⟩ := hSw.2.2.2.2.2.1.cs; go_simp
          first | done | with_reducible rfl
        refine wpAnyH_ready (rs := [11]) (by as_aux_lemma => kernel_rfl) (by simp) ?_
        refine AllReadyH.cons rfl (fun K hK => ?_) AllReadyH.nil
        go_simp
        go_wp2_with (go_at_call 9; refine (HXX.out _).mono ?_; rintro e yy11 ⟨rfl, q⟩)
        refine hK.out _ _ ?_ (fun hS => ?_)
        · exact ⟨hS.1.on q, hS.2.1.on q, hS.2.2.1.on q, hS.2.2.2.1.on q, hS.2.2.2.2.1.on q, hS.2.2.2.2.2.1.on q, hS.2.2.2.2.2.2.trans (q.mono (HAs.out ▸ hS.2.2.2.2.2.2.size))⟩
        clear hK K
        clear q
        refine wpAnyH_takeE (i := 13) (some 44) (v := ?_) rfl rfl (by as_aux_lemma => kernel_rfl) (by as_aux_lemma => kernel_rfl) (by as_aux_lemma => kernel_rfl) (fun _ _ _ h => h) (Or.inl ⟨by kernel_rfl, ?_⟩) hS ?_
        rotate_left
        · intro w hSw; obtain ⟨c00, c01, c02, c03, c04⟩ := hSw.1.cs; obtain ⟨c10, c11, c12, c13, c14⟩ := hSw.2.1.cs; obtain ⟨c20, c21, c22, c23, c24⟩ := hSw.2.2.1.cs; obtain ⟨c30, c31, c32, c33, c34⟩ := hSw.2.2.2.1.cs; obtain ⟨c40, c41, c42, c43, c44⟩ := hSw.2.2.2.2.1.cs; obtain ⟨c50, c51, c52, c53, c54⟩ := hSw.2.2.2.2.2.1.cs; go_simp
          first | done | with_reducible rfl
        refine wpAnyH_takeE (i := 14) (some 45) (v := ?_) rfl rfl (by as_aux_lemma => kernel_rfl) (by as_aux_lemma => kernel_rfl) (by as_aux_lemma => kernel_rfl) (fun _ _ _ h => h) (Or.inl ⟨by kernel_rfl, ?_⟩) hS ?_
        rotate_left
        · intro w hSw; obtain ⟨c00, c01, c02, c03, c04⟩ := hSw.1.cs; obtain ⟨c10, c11, c12, c13, c14⟩ := hSw.2.1.cs; obtain ⟨c20, c21, c22, c23, c24⟩ := hSw.2.2.1.cs; obtain ⟨c30, c31, c32, c33, c34⟩ := hSw.2.2.2.1.cs; obtain ⟨c40, c41, c42, c43, c44⟩ := hSw.2.2.2.2.1.cs; obtain ⟨c50, c51, c52, c53, c54⟩ := hSw.2.2.2.2.2.1.cs; go_simp
          first | done | with_reducible rfl
        refine wpAnyH_takeE (i := 15) (some 46) (v := ?_) rfl rfl (by as_aux_lemma => kernel_rfl) (by as_aux_lemma => kernel_rfl) (by as_aux_lemma => kernel_rfl) (fun _ _ _ h => h) (Or.inl ⟨by kernel_rfl, ?_⟩) hS ?_
        rotate_left
        · intro w hSw; obtain ⟨c00, c01, c02, c03, c04⟩ := hSw.1.cs; obtain ⟨c10, c11, c12, c13, c14⟩ := hSw.2.1.cs; obtain ⟨c20, c21, c22, c23, c24⟩ := hSw.2.2.1.cs; obtain ⟨c30, c31, c32, c33, c34⟩ := hSw.2.2.2.1.cs; obtain ⟨c40, c41, c42, c43, c44⟩ := hSw.2.2.2.2.1.cs; obtain ⟨c50, c51, c52, c53, c54⟩ := hSw.2.2.2.2.2.1.cs; go_simp
          first | done | with_reducible rfl
        refine wpAnyH_takeE (i := 16) (some 47) (v := ?_) rfl rfl (by as_aux_lemma => kernel_rfl) (by as_aux_lemma => kernel_rfl) (by as_aux_lemma => kernel_rfl) (fun _ _ _ h => h) (Or.inl ⟨by kernel_rfl, ?_⟩) hS ?_
        rotate_left
        · intro w hSw; obtain ⟨c00, c01, c02, c03, c04⟩ := hSw.1.cs; obtain ⟨c10, c11, c12, c13, c14⟩ := hSw.2.1.cs; obtain ⟨c20, c21, c22, c23, c24⟩ := hSw.2.2.1.cs; obtain ⟨c30, c31, c32, c33, c34⟩ := hSw.2.2.2.1.cs; obtain ⟨c40, c41, c42, c43, c44⟩ := hSw.2.2.2.2.1.cs; obtain ⟨c50, c51, c52, c53, c54⟩ := hSw.2.2.2.2.2.1.cs; go_simp
          first | done | with_reducible rfl
        refine wpAnyH_takeE (i := 17) (some 48) (v := ?_) rfl rfl (by as_aux_lemma => kernel_rfl) (by as_aux_lemma => kernel_rfl) (by as_aux_lemma => kernel_rfl) (fun _ _ _ h => h) (Or.inl ⟨by kernel_rfl, ?_⟩) hS ?_
        rotate_left
        · intro w hSw; obtain ⟨c00, c01, c02, c03, c04⟩ := hSw.1.cs; obtain ⟨c10, c11, c12, c13, c14⟩ := hSw.2.1.cs; obtain ⟨c20, c21, c22, c23, c24⟩ := hSw.2.2.1.cs; obtain ⟨c30, c31, c32, c33, c34⟩ := hSw.2.2.2.1.cs; obtain ⟨c40, c41, c42, c43, c44⟩ := hSw.2.2.2.2.1.cs; obtain ⟨c50, c51, c52, c53, c54⟩ := hSw.2.2.2.2.2.1.cs; go_simp
          first | done | with_reducible rfl
        refine wpAnyH_takeE (i := 19) (some 50) (v := ?_) rfl rfl (by as_aux_lemma => kernel_rfl) (by as_aux_lemma => kernel_rfl) (by as_aux_lemma => kernel_rfl) (fun _ _ _ h => h) (Or.inl ⟨by kernel_rfl, ?_⟩) hS ?_
        rotate_left
        · intro w hSw; obtain ⟨c00, c01, c02, c03, c04⟩ := hSw.1.cs; obtain ⟨c10, c11, c12, c13, c14⟩ := hSw.2.1.cs; obtain ⟨c20, c21, c22, c23, c24⟩ := hSw.2.2.1.cs; obtain ⟨c30, c31, c32, c33, c34⟩ := hSw.2.2.2.1.cs; obtain ⟨c40, c41, c42, c43, c44⟩ := hSw.2.2.2.2.1.cs; obtain ⟨c50, c51, c52, c53, c54⟩ := hSw.2.2.2.2.2.1.cs; go_simp
          first | done | with_reducible rfl
        refine wpAnyH_ready (rs := [18]) (by as_aux_lemma => kernel_rfl) (by simp) ?_
        refine AllReadyH.cons rfl (fun K hK => ?_) AllReadyH.nil
        go_simp
        go_wp2_with (go_at_call 9; refine (HPX.out _).mono ?_; rintro e yy18 ⟨rfl, q⟩)
        refine hK.out _ _ ?_ (fun hS => ?_)
        · exact ⟨hS.1.on q, hS.2.1.on q, hS.2.2.1.on q, hS.2.2.2.1.on q, hS.2.2.2.2.1.on q, hS.2.2.2.2.2.1.on q, hS.2.2.2.2.2.2.trans (q.mono (HAs.out ▸ hS.2.2.2.2.2.2.size))⟩
        clear hK K
        clear q
        refine wpAnyH_takeE (i := 20) (some 51) (v := ?_) rfl rfl (by as_aux_lemma => kernel_rfl) (by as_aux_lemma => kernel_rfl) (by as_aux_lemma => kernel_rfl) (fun _ _ _ h => h) (Or.inl ⟨by kernel_rfl, ?_⟩) hS ?_
        rotate_left
        · intro w hSw; obtain ⟨c00, c01, c02, c03, c04⟩ := hSw.1.cs; obtain ⟨c10, c11, c12, c13, c14⟩ := hSw.2.1.cs; obtain ⟨c20, c21, c22, c23, c24⟩ := hSw.2.2.1.cs; obtain ⟨c30, c31, c32, c33, c34⟩ := hSw.2.2.2.1.cs; obtain ⟨c40, c41, c42, c43, c44⟩ := hSw.2.2.2.2.1.cs; obtain ⟨c50, c51, c52, c53, c54⟩ := hSw.2.2.2.2.2.1.cs; go_simp
          first | done | with_reducible rfl
        refine wpAnyH_takeE (i := 21) (some 52) (v := ?_) rfl rfl (by as_aux_lemma => kernel_rfl) (by as_aux_lemma => kernel_rfl) (by as_aux_lemma => kernel_rfl) (fun _ _ _ h => h) (Or.inl ⟨by kernel_rfl, ?_⟩) hS ?_
        rotate_left
        · intro w hSw; obtain ⟨c00, c01, c02, c03, c04⟩ := hSw.1.cs; obtain ⟨c10, c11, c12, c13, c14⟩ := hSw.2.1.cs; obtain ⟨c20, c21, c22, c23, c24⟩ := hSw.2.2.1.cs; obtain ⟨c30, c31, c32, c33, c34⟩ := hSw.2.2.2.1.cs; obtain ⟨c40, c41, c42, c43, c44⟩ := hSw.2.2.2.2.1.cs; obtain ⟨c50, c51, c52, c53, c54⟩ := hSw.2.2.2.2.2.1.cs; go_simp
          first | done | with_reducible rfl
        refine wpAnyH_takeE (i := 22) (some 53) (v := ?_) rfl rfl (by as_aux_lemma => kernel_rfl) (by as_aux_lemma => kernel_rfl) (by as_aux_lemma => kernel_rfl) (fun _ _ _ h => h) (Or.inl ⟨by kernel_rfl, ?_⟩) hS ?_
        rotate_left
        · intro w hSw; obtain ⟨c00, c01, c02, c03, c04⟩ := hSw.1.cs; obtain ⟨c10, c11, c12, c13, c14⟩ := hSw.2.1.cs; obtain ⟨c20, c21, c22, c23, c24⟩ := hSw.2.2.1.cs; obtain ⟨c30, c31, c32, c33, c34⟩ := hSw.2.2.2.1.cs; obtain ⟨c40, c41, c42, c43, c44⟩ := hSw.2.2.2.2.1.cs; obtain ⟨c50, c51, c52, c53, c54⟩ := hSw.2.2.2.2.2.1.cs; go_simp
          first | done | with_reducible rfl
        refine wpAnyH_takeE (i := 23) (some 54) (v := ?_) rfl rfl (by as_aux_lemma => kernel_rfl) (by as_aux_lemma => kernel_rfl) (by as_aux_lemma => kernel_rfl) (fun _ _ _ h => h) (Or.inl ⟨by kernel_rfl, ?_⟩) hS ?_
        rotate_left
        · intro w hSw; obtain ⟨c00, c01, c02, c03, c04⟩ := hSw.1.cs; obtain ⟨c10, c11, c12, c13, c14⟩ := hSw.2.1.cs; obtain ⟨c20, c21, c22, c23, c24⟩ := hSw.2.2.1.cs; obtain ⟨c30, c31, c32, c33, c34⟩ := hSw.2.2.2.1.cs; obtain ⟨c40, c41, c42, c43, c44⟩ := hSw.2.2.2.2.1.cs; obtain ⟨c50, c51, c52, c53, c54⟩ := hSw.2.2.2.2.2.1.cs; go_simp
          first | done | with_reducible rfl
        refine wpAnyH_takeE (i := 24) (some 55) (v := ?_) rfl rfl (by as_aux_lemma => kernel_rfl) (by as_aux_lemma => kernel_rfl) (by as_aux_lemma => kernel_rfl) (fun _ _ _ h => h) (Or.inl ⟨by kernel_rfl, ?_⟩) hS ?_
        rotate_left
        · intro w hSw; obtain ⟨c00, c01, c02, c03, c04⟩ := hSw.1.cs; obtain ⟨c10, c11, c12, c13, c14⟩ := hSw.2.1.cs; obtain ⟨c20, c21, c22, c23, c24⟩ := hSw.2.2.1.cs; obtain ⟨c30, c31, c32, c33, c34⟩ := hSw.2.2.2.1.cs; obtain ⟨c40, c41, c42, c43, c44⟩ := hSw.2.2.2.2.1.cs; obtain ⟨c50, c51, c52, c53, c54⟩ := hSw.2.2.2.2.2.1.cs; go_simp
          first | done | with_reducible rfl
        refine wpAnyH_takeE (i := 26) (some 57) (v := ?_) rfl rfl (by as_aux_lemma => kernel_rfl) (by as_aux_lemma => kernel_rfl) (by as_aux_lemma => kernel_rfl) (fun _ _ _ h => h) (Or.inl ⟨by kernel_rfl, ?_⟩) hS ?_
        rotate_left
        · intro w hSw; obtain ⟨c00, c01, c02, c03, c04⟩ := hSw.1.cs; obtain ⟨c10, c11, c12, c13, c14⟩ := hSw.2.1.cs; obtain ⟨c20, c21, c22, c23, c24⟩ := hSw.2.2.1.cs; obtain ⟨c30, c31, c32, c33, c34⟩ := hSw.2.2.2.1.cs; obtain ⟨c40, c41, c42, c43, c44⟩ := hSw.2.2.2.2.1.cs; obtain ⟨c50, c51, c52, c53, c54⟩ := hSw.2.2.2.2.2.1.cs; go_simp
          first | done | with_reducible rfl
        refine wpAnyH_ready (rs := [25]) (by as_aux_lemma => kernel_rfl) (by simp) ?_
        refine AllReadyH.cons rfl (fun K hK => ?_) AllReadyH.nil
        go_simp
        go_wp2_with (go_at_call 9; refine (HPY.out _).mono ?_; rintro e yy25 ⟨rfl, q⟩)
        refine hK.out _ _ ?_ (fun hS => ?_)
        · exact ⟨hS.1.on q, hS.2.1.on q, hS.2.2.1.on q, hS.2.2.2.1.on q, hS.2.2.2.2.1.on q, hS.2.2.2.2.2.1.on q, hS.2.2.2.2.2.2.trans (q.mono (HAs.out ▸ hS.2.2.2.2.2.2.size))⟩
        clear hK K
        clear q
        refine wpAnyH_takeE (i := 27) (some 58) (v := ?_) rfl rfl (by as_aux_lemma => kernel_rfl) (by as_aux_lemma => kernel_rfl) (by as_aux_lemma => kernel_rfl) (fun _ _ _ h => h) (Or.inl ⟨by kernel_rfl, ?_⟩) hS ?_
        rotate_left
        · intro w hSw; obtain ⟨c00, c01, c02, c03, c04⟩ := hSw.1.cs; obtain ⟨c10, c11, c12, c13, c14⟩ := hSw.2.1.cs; obtain ⟨c20, c21, c22, c23, c24⟩ := hSw.2.2.1.cs; obtain ⟨c30, c31, c32, c33, c34⟩ := hSw.2.2.2.1.cs; obtain ⟨c40, c41, c42, c43, c44⟩ := hSw.2.2.2.2.1.cs; obtain ⟨c50, c51, c52, c53, c54⟩ := hSw.2.2.2.2.2.1.cs; go_simp
          first | done | with_reducible rfl
        refine wpAnyH_takeE (i := 28) (some 59) (v := ?_) rfl rfl (by as_aux_lemma => kernel_rfl) (by as_aux_lemma => kernel_rfl) (by as_aux_lemma => kernel_rfl) (fun _ _ _ h => h) (Or.inl ⟨by kernel_rfl, ?_⟩) hS ?_
        rotate_left
        · intro w hSw; obtain ⟨c00, c01, c02, c03, c04⟩ := hSw.1.cs; obtain ⟨c10, c11, c12, c13, c14⟩ := hSw.2.1.cs; obtain ⟨c20, c21, c22, c23, c24⟩ := hSw.2.2.1.cs; obtain ⟨c30, c31, c32, c33, c34⟩ := hSw.2.2.2.1.cs; obtain ⟨c40, c41, c42, c43, c44⟩ := hSw.2.2.2.2.1.cs; obtain ⟨c50, c51, c52, c53, c54⟩ := hSw.2.2.2.2.2.1.cs; go_simp
          first | done | with_reducible rfl
        refine wpAnyH_takeE (i := 29) (some 60) (v := ?_) rfl rfl (by as_aux_lemma => kernel_rfl) (by as_aux_lemma => kernel_rfl) (by as_aux_lemma => kernel_rfl) (fun _ _ _ h => h) (Or.inl ⟨by kernel_rfl, ?_⟩) hS ?_
        rotate_left
        · intro w hSw; obtain ⟨c00, c01, c02, c03, c04⟩ := hSw.1.cs; obtain ⟨c10, c11, c12, c13, c14⟩ := hSw.2.1.cs; obtain ⟨c20, c21, c22, c23, c24⟩ := hSw.2.2.1.cs; obtain ⟨c30, c31, c32, c33, c34⟩ := hSw.2.2.2.1.cs; obtain ⟨c40, c41, c42, c43, c44⟩ := hSw.2.2.2.2.1.cs; obtain ⟨c50, c51, c52, c53, c54⟩ := hSw.2.2.2.2.2.1.cs; go_simp
          first | done | with_reducible rfl
        refine wpAnyH_takeE (i := 30) (some 61) (v := ?_) rfl rfl (by as_aux_lemma => kernel_rfl) (by as_aux_lemma => kernel_rfl) (by as_aux_lemma => kernel_rfl) (fun _ _ _ h => h) (Or.inl ⟨by kernel_rfl, ?_⟩) hS ?_
        rotate_left
        · intro w hSw; obtain ⟨c00, c01, c02, c03, c04⟩ := hSw.1.cs; obtain ⟨c10, c11, c12, c13, c14⟩ := hSw.2.1.cs; obtain ⟨c20, c21, c22, c23, c24⟩ := hSw.2.2.1.cs; obtain ⟨c30, c31, c32, c33, c34⟩ := hSw.2.2.2.1.cs; obtain ⟨c40, c41, c42, c43, c44⟩ := hSw.2.2.2.2.1.cs; obtain ⟨c50, c51, c52, c53, c54⟩ := hSw.2.2.2.2.2.1.cs; go_simp
          first | done | with_reducible rfl
        refine wpAnyH_takeE (i := 31) (some 62) (v := ?_) rfl rfl (by as_aux_lemma => kernel_rfl) (by as_aux_lemma => kernel_rfl) (by as_aux_lemma => kernel_rfl) (fun _ _ _ h => h) (Or.inl ⟨by kernel_rfl, ?_⟩) hS ?_
        rotate_left
        · intro w hSw; obtain ⟨c00, c01, c02, c03, c04⟩ := hSw.1.cs; obtain ⟨c10, c11, c12, c13, c14⟩ := hSw.2.1.cs; obtain ⟨c20, c21, c22, c23, c24⟩ := hSw.2.2.1.cs; obtain ⟨c30, c31, c32, c33, c34⟩ := hSw.2.2.2.1.cs; obtain ⟨c40, c41, c42, c43, c44⟩ := hSw.2.2.2.2.1.cs; obtain ⟨c50, c51, c52, c53, c54⟩ := hSw.2.2.2.2.2.1.cs; go_simp
          first | done | with_reducible rfl
        refine wpAnyH_takeE (i := 32) (some 63) (v := ?_) rfl rfl (by as_aux_lemma => kernel_rfl) (by as_aux_lemma => kernel_rfl) (by as_aux_lemma => kernel_rfl) (fun _ _ _ h => h) (Or.inl ⟨by kernel_rfl, ?_⟩) hS ?_
        rotate_left
        · intro w hSw; obtain ⟨c00, c01, c02, c03, c04⟩ := hSw.1.cs; obtain ⟨c10, c11, c12, c13, c14⟩ := hSw.2.1.cs; obtain ⟨c20, c21, c22, c23, c24⟩ := hSw.2.2.1.cs; obtain ⟨c30, c31, c32, c33, c34⟩ := hSw.2.2.2.1.cs; obtain ⟨c40, c41, c42, c43, c44⟩ := hSw.2.2.2.2.1.cs; obtain ⟨c50, c51, c52, c53, c54⟩ := hSw.2.2.2.2.2.1.cs; go_simp
          first | done | with_reducible rfl
        refine wpAnyH_takeE (i := 33) (some 64) (v := ?_) rfl rfl (by as_aux_lemma => kernel_rfl) (by as_aux_lemma => kernel_rfl) (by as_aux_lemma => kernel_rfl) (fun _ _ _ h => h) (Or.inl ⟨by kernel_rfl, ?_⟩) hS ?_
        rotate_left
        · intro w hSw; obtain ⟨c00, c01, c02, c03, c04⟩ := hSw.1.cs; obtain ⟨c10, c11, c12, c13, c14⟩ := hSw.2.1.cs; obtain ⟨c20, c21, c22, c23, c24⟩ := hSw.2.2.1.cs; obtain ⟨c30, c31, c32, c33, c34⟩ := hSw.2.2.2.1.cs; obtain ⟨c40, c41, c42, c43, c44⟩ := hSw.2.2.2.2.1.cs; obtain ⟨c50, c51, c52, c53, c54⟩ := hSw.2.2.2.2.2.1.cs; go_simp
          first | done | with_reducible rfl
        refine wpAnyH_takeE (i := 34) (some 65) (v := undef) rfl rfl (by as_aux_lemma => kernel_rfl) (by as_aux_lemma => kernel_rfl) (by as_aux_lemma => kernel_rfl) (fun _ _ _ h => h) (Or.inr ⟨by kernel_rfl, rfl⟩) hS ?_
        refine wpAnyH_takeE (i := 35) (some 66) (v := undef) rfl rfl (by as_aux_lemma => kernel_rfl) (by as_aux_lemma => kernel_rfl) (by as_aux_lemma => kernel_rfl) (fun _ _ _ h => h) (Or.inr ⟨by kernel_rfl, rfl⟩) hS ?_
        refine wpAnyH_takeE (i := 36) (some 67) (v := undef) rfl rfl (by as_aux_lemma => kernel_rfl) (by as_aux_lemma => kernel_rfl) (by as_aux_lemma => kernel_rfl) (fun _ _ _ h => h) (Or.inr ⟨by kernel_rfl, rfl⟩) hS ?_
        refine wpAnyH_takeE (i := 37) (some 68) (v := ?_) rfl rfl (by as_aux_lemma => kernel_rfl) (by as_aux_lemma => kernel_rfl) (by as_aux_lemma => kernel_rfl) (fun _ _ _ h => h) (Or.inl ⟨by kernel_rfl, ?_⟩) hS ?_
        rotate_left
        · intro w hSw; obtain ⟨c00, c01, c02, c03, c04⟩ := hSw.1.cs; obtain ⟨c10, c11, c12, c13, c14⟩ := hSw.2.1.cs; obtain ⟨c20, c21, c22, c23, c24⟩ := hSw.2.2.1.cs; obtain ⟨c30, c31, c32, c33, c34⟩ := hSw.2.2.2.1.cs; obtain ⟨c40, c41, c42, c43, c44⟩ := hSw.2.2.2.2.1.cs; obtain ⟨c50, c51, c52, c53, c54⟩ := hSw.2.2.2.2.2.1.cs; go_simp
          first | done | with_reducible rfl
        refine wpAnyH_takeE (i := 38) (some 69) (v := ?_) rfl rfl (by as_aux_lemma => kernel_rfl) (by as_aux_lemma => kernel_rfl) (by as_aux_lemma => kernel_rfl) (fun _ _ _ h => h) (Or.inl ⟨by kernel_rfl, ?_⟩) hS ?_
        rotate_left
        · intro w hSw; obtain ⟨c00, c01, c02, c03, c04⟩ := hSw.1.cs; obtain ⟨c10, c11, c12, c13, c14⟩ := hSw.2.1.cs; obtain ⟨c20, c21, c22, c23, c24⟩ := hSw.2.2.1.cs; obtain ⟨c30, c31, c32, c33, c34⟩ := hSw.2.2.2.1.cs; obtain ⟨c40, c41, c42, c43, c44⟩ := hSw.2.2.2.2.1.cs; obtain ⟨c50, c51, c52, c53, c54⟩ := hSw.2.2.2.2.2.1.cs; go_simp
          first | done | with_reducible rfl
        refine wpAnyH_takeE (i := 39) (some 70) (v := ?_) rfl rfl (by as_aux_lemma => kernel_rfl) (by as_aux_lemma => kernel_rfl) (by as_aux_lemma => kernel_rfl) (fun _ _ _ h => h) (Or.inl ⟨by kernel_rfl, ?_⟩) hS ?_
        rotate_left
        · intro w hSw; obtain ⟨c00, c01, c02, c03, c04⟩ := hSw.1.cs; obtain ⟨c10, c11, c12, c13, c14⟩ := hSw.2.1.cs; obtain ⟨c20, c21, c22, c23, c24⟩ := hSw.2.2.1.cs; obtain ⟨c30, c31, c32, c33, c34⟩ := hSw.2.2.2.1.cs; obtain ⟨c40, c41, c42, c43, c44⟩ := hSw.2.2.2.2.1.cs; obtain ⟨c50, c51, c52, c53, c54⟩ := hSw.2.2.2.2.2.1.cs; go_simp
          first | done | with_reducible rfl
        have HWk := Lib.hid (eawake_any A yy25 (HAs.out ▸ hS.2.2.2.2.2.2.size) (HV.out.on hS.2.2.2.2.2.2))
        refine wpAnyH_ready (rs := [40]) (by as_aux_lemma => kernel_rfl) (by simp) ?_
        refine AllReadyH.cons rfl (fun K hK => ?_) AllReadyH.nil
        go_simp
        go_wp2_with (go_at_call 14; refine HWk.out.mono ?_; rintro e yy40 ⟨rfl, q⟩)
        refine hK.out _ _ ?_ (fun hS => ?_)
        · exact ⟨hS.1.on q, hS.2.1.on q, hS.2.2.1.on q, hS.2.2.2.1.on q, hS.2.2.2.2.1.on q, hS.2.2.2.2.2.1.on q, hS.2.2.2.2.2.2.trans (q.mono (HAs.out ▸ hS.2.2.2.2.2.2.size))⟩
        clear hK K
        clear q
        refine wpAnyH_takeE (i := 41) (some 72) (v := ?_) rfl rfl (by as_aux_lemma => kernel_rfl) (by as_aux_lemma => kernel_rfl) (by as_aux_lemma => kernel_rfl) (fun _ _ _ h => h) (Or.inl ⟨by kernel_rfl, ?_⟩) hS ?_
        rotate_left
        · intro w hSw; obtain ⟨c00, c01, c02, c03, c04⟩ := hSw.1.cs; obtain ⟨c10, c11, c12, c13, c14⟩ := hSw.2.1.cs; obtain ⟨c20, c21, c22, c23, c24⟩ := hSw.2.2.1.cs; obtain ⟨c30, c31, c32, c33, c34⟩ := hSw.2.2.2.1.cs; obtain ⟨c40, c41, c42, c43, c44⟩ := hSw.2.2.2.2.1.cs; obtain ⟨c50, c51, c52, c53, c54⟩ := hSw.2.2.2.2.2.1.cs; go_simp
          first | done | with_reducible rfl
        refine wpAnyH_takeE (i := 42) (some 6) (v := ?_) rfl rfl (by as_aux_lemma => kernel_rfl) (by as_aux_lemma => kernel_rfl) (by as_aux_lemma => kernel_rfl) (fun _ _ _ h => h) (Or.inl ⟨by kernel_rfl, ?_⟩) hS ?_
        rotate_left
        · intro w hSw; obtain ⟨c00, c01, c02, c03, c04⟩ := hSw.1.cs; obtain ⟨c10, c11, c12, c13, c14⟩ := hSw.2.1.cs; obtain ⟨c20, c21, c22, c23, c24⟩ := hSw.2.2.1.cs; obtain ⟨c30, c31, c32, c33, c34⟩ := hSw.2.2.2.1.cs; obtain ⟨c40, c41, c42, c43, c44⟩ := hSw.2.2.2.2.1.cs; obtain ⟨c50, c51, c52, c53, c54⟩ := hSw.2.2.2.2.2.1.cs; go_simp
          first | done | with_reducible rfl
        have HQf := Lib.hid hS.2.2.2.2.2.2
        refine wpAnyH_done (by kernel_rfl) ?_ _
        clear hS
        go_simp
        go_wp2
        go_ret
        refine ⟨rfl, ?_⟩
        rw [← HAs.out]
        exact HQf.out
      | false =>
        rw [hq] at ee4
        have hy : eqEn (⟨kp, tp, op, vp, up⟩ : Ent) (⟨kx, ty, oy, vy, uy⟩ : Ent) = true := by
          rcases HE4.out with e | e
          · rw [e, eqEn_refl] at hq; cases hq
          · rw [e, eqEn_refl]
        rw [hy] at ee5
        clear hy
        clear hq HE4
        go_simp
        go_wp2_with fail
        obtain ⟨h1, h2, hb7, hb8, hb9, hb10⟩ := HB8.out
        refine wp_region_any (by kernel_rfl) ?_
        change wpAny _ _ _ _ _ _ _ (World.drew _)
        have hS : (fun w' : World => EBlk w' A (⟨kx, tx, ox, vx, ux⟩ : Ent) ∧ EBlk w' (A + 1) (⟨kx, ty, oy, vy, uy⟩ : Ent) ∧ EBlk w' b7 (⟨kp, tp, op, vp, up⟩ : Ent) ∧ EBlk w' b8 (⟨kp, tp, op, vp, up⟩ : Ent) ∧ EBlk w' b9 (⟨ks, ts, os, vs, us⟩ : Ent) ∧ EBlk w' b10 (⟨ks, ts, os, vs, us⟩ : Ent) ∧ Below A W w') w8.drew := ⟨h1, h2, hb7, hb8, hb9, hb10, HQ8.out.drew⟩
        refine wpAny_of_held (S := fun w' => EBlk w' A (⟨kx, tx, ox, vx, ux⟩ : Ent) ∧ EBlk w' (A + 1) (⟨kx, ty, oy, vy, uy⟩ : Ent) ∧ EBlk w' b7 (⟨kp, tp, op, vp, up⟩ : Ent) ∧ EBlk w' b8 (⟨kp, tp, op, vp, up⟩ : Ent) ∧ EBlk w' b9 (⟨ks, ts, os, vs, us⟩ : Ent) ∧ EBlk w' b10 (⟨ks, ts, os, vs, us⟩ : Ent) ∧ Below A W w') _ _ _ _ ?_
        clear h1 h2 hb7 hb8 hb9 hb10 HB8 HQ8
        refine wpAnyH_takeE (i := 0) (some 31) (v := ?_) rfl rfl (by as_aux_lemma => kernel_rfl) (by as_aux_lemma => kernel_rfl) (by as_aux_lemma => kernel_rfl) (fun _ _ _ h => h) (Or.inl ⟨by kernel_rfl, ?_⟩) hS ?_
        rotate_left
        · intro w hSw; obtain ⟨c00, c01, c02, c03, c04⟩ := hSw.1.cs; obtain ⟨c10, c11, c12, c13, c14⟩ := hSw.2.1.cs; obtain ⟨c20, c21, c22, c23, c24⟩ := hSw.2.2.1.cs; obtain ⟨c30, c31, c32, c33, c34⟩ := hSw.2.2.2.1.cs; obtain ⟨c40, c41, c42, c43, c44⟩ := hSw.2.2.2.2.1.cs; obtain ⟨c50, c51, c52, c53, c54⟩ := hSw.2.2.2.2.2.1.cs; go_simp
          first | done | with_reducible rfl
        refine wpAnyH_takeE (i := 1) (some 32) (v := ?_) rfl rfl (by as_aux_lemma => kernel_rfl) (by as_aux_lemma => kernel_rfl) (by as_aux_lemma => kernel_rfl) (fun _ _ _ h => h) (Or.inl ⟨by kernel_rfl, ?_⟩) hS ?_
        rotate_left
        · intro w hSw; obtain ⟨c00, c01, c02, c03, c04⟩ := hSw.1.cs; obtain ⟨c10, c11, c12, c13, c14⟩ := hSw.2.1.cs; obtain ⟨c20, c21, c22, c23, c24⟩ := hSw.2.2.1.cs; obtain ⟨c30, c31, c32, c33, c34⟩ := hSw.2.2.2.1.cs; obtain ⟨c40, c41, c42, c43, c44⟩ := hSw.2.2.2.2.1.cs; obtain ⟨c50, c51, c52, c53, c54⟩ := hSw.2.2.2.2.2.1.cs; go_simp
          first | done | with_reducible rfl
        refine wpAnyH_takeE (i := 2) (some 33) (v := ?_) rfl rfl (by as_aux_lemma => kernel_rfl) (by as_aux_lemma => kernel_rfl) (by as_aux_lemma => kernel_rfl) (fun _ _ _ h => h) (Or.inl ⟨by kernel_rfl, ?_⟩) hS ?_
        rotate_left
        · intro w hSw; obtain ⟨c00, c01, c02, c03, c04⟩ := hSw.1.cs; obtain ⟨c10, c11, c12, c13, c14⟩ := hSw.2.1.cs; obtain ⟨c20, c21, c22, c23, c24⟩ := hSw.2.2.1.cs; obtain ⟨c30, c31, c32, c33, c34⟩ := hSw.2.2.2.1.cs; obtain ⟨c40, c41, c42, c43, c44⟩ := hSw.2.2.2.2.1.cs; obtain ⟨c50, c51, c52, c53, c54⟩ := hSw.2.2.2.2.2.1.cs; go_simp
          first | done | with_reducible rfl
        refine wpAnyH_takeE (i := 3) (some 34) (v := ?_) rfl rfl (by as_aux_lemma => kernel_rfl) (by as_aux_lemma => kernel_rfl) (by as_aux_lemma => kernel_rfl) (fun _ _ _ h => h) (Or.inl ⟨by kernel_rfl, ?_⟩) hS ?_
        rotate_left
        · intro w hSw; obtain ⟨c00, c01, c02, c03, c04⟩ := hSw.1.cs; obtain ⟨c10, c11, c12, c13, c14⟩ := hSw.2.1.cs; obtain ⟨c20, c21, c22, c23, c24⟩ := hSw.2.2.1.cs; obtain ⟨c30, c31, c32, c33, c34⟩ := hSw.2.2.2.1.cs; obtain ⟨c40, c41, c42, c43, c44⟩ := hSw.2.2.2.2.1.cs; obtain ⟨c50, c51, c52, c53, c54⟩ := hSw.2.2.2.2.2.1.cs; go_simp
          first | done | with_reducible rfl
        refine wpAnyH_takeE (i := 4) (some 35) (v := ?_) rfl rfl (by as_aux_lemma => kernel_rfl) (by as_aux_lemma => kernel_rfl) (by as_aux_lemma => kernel_rfl) (fun _ _ _ h => h) (Or.inl ⟨by kernel_rfl, ?_⟩) hS ?_
        rotate_left
        · intro w hSw; obtain ⟨c00, c01, c02, c03, c04⟩ := hSw.1.cs; obtain ⟨c10, c11, c12, c13, c14⟩ := hSw.2.1.cs; obtain ⟨c20, c21, c22, c23, c24⟩ := hSw.2.2.1.cs; obtain ⟨c30, c31, c32, c33, c34⟩ := hSw.2.2.2.1.cs; obtain ⟨c40, c41, c42, c43, c44⟩ := hSw.2.2.2.2.1.cs; obtain ⟨c50, c51, c52, c53, c54⟩ := hSw.2.2.2.2.2.1.cs; go_simp
          first | done | with_reducible rfl
        refine wpAnyH_takeE (i := 5) (some 36) (v := ?_) rfl rfl (by as_aux_lemma => kernel_rfl) (by as_aux_lemma => kernel_rfl) (by as_aux_lemma => kernel_rfl) (fun _ _ _ h => h) (Or.inl ⟨by kernel_rfl, ?_⟩) hS ?_
        rotate_left
        · intro w hSw; obtain ⟨c00, c01, c02, c03, c04⟩ := hSw.1.cs; obtain ⟨c10, c11, c12, c13, c14⟩ := hSw.2.1.cs; obtain ⟨c20, c21, c22, c23, c24⟩ := hSw.2.2.1.cs; obtain ⟨c30, c31, c32, c33, c34⟩ := hSw.2.2.2.1.cs; obtain ⟨c40, c41, c42, c43, c44⟩ := hSw.2.2.2.2.1.cs; obtain ⟨c50, c51, c52, c53, c54⟩ := hSw.2.2.2.2.2.1.cs; go_simp
          first | done | with_reducible rfl
        refine wpAnyH_takeE (i := 6) (some 37) (v := ?_) rfl rfl (by as_aux_lemma => kernel_rfl) (by as_aux_lemma => kernel_rfl) (by as_aux_lemma => kernel_rfl) (fun _ _ _ h => h) (Or.inl ⟨by kernel_rfl, ?_⟩) hS ?_
        rotate_left
        · intro w hSw; obtain ⟨c00, c01, c02, c03, c04⟩ := hSw.1.cs; obtain ⟨c10, c11, c12, c13, c14⟩ := hSw.2.1.cs; obtain ⟨c20, c21, c22, c23, c24⟩ := hSw.2.2.1.cs; obtain ⟨c30, c31, c32, c33, c34⟩ := hSw.2.2.2.1.cs; obtain ⟨c40, c41, c42, c43, c44⟩ := hSw.2.2.2.2.1.cs; obtain ⟨c50, c51, c52, c53, c54⟩ := hSw.2.2.2.2.2.1.cs; go_simp
          first | done | with_reducible rfl
        refine wpAnyH_takeE (i := 7) (some 38) (v := ?_) rfl rfl (by as_aux_lemma => kernel_rfl) (by as_aux_lemma => kernel_rfl) (by as_aux_lemma => kernel_rfl) (fun _ _ _ h => h) (Or.inl ⟨by kernel_rfl, ?_⟩) hS ?_
        rotate_left
        · intro w hSw; obtain ⟨c00, c01, c02, c03, c04⟩ := hSw.1.cs; obtain ⟨c10, c11, c12, c13, c14⟩ := hSw.2.1.cs; obtain ⟨c20, c21, c22, c23, c24⟩ := hSw.2.2.1.cs; obtain ⟨c30, c31, c32, c33, c34⟩ := hSw.2.2.2.1.cs; obtain ⟨c40, c41, c42, c43, c44⟩ := hSw.2.2.2.2.1.cs; obtain ⟨c50, c51, c52, c53, c54⟩ := hSw.2.2.2.2.2.1.cs; go_simp
          first | done | with_reducible rfl
        refine wpAnyH_takeE (i := 8) (some 39) (v := ?_) rfl rfl (by as_aux_lemma => kernel_rfl) (by as_aux_lemma => kernel_rfl) (by as_aux_lemma => kernel_rfl) (fun _ _ _ h => h) (Or.inl ⟨by kernel_rfl, ?_⟩) hS ?_
        rotate_left
        · intro w hSw; obtain ⟨c00, c01, c02, c03, c04⟩ := hSw.1.cs; obtain ⟨c10, c11, c12, c13, c14⟩ := hSw.2.1.cs; obtain ⟨c20, c21, c22, c23, c24⟩ := hSw.2.2.1.cs; obtain ⟨c30, c31, c32, c33, c34⟩ := hSw.2.2.2.1.cs; obtain ⟨c40, c41, c42, c43, c44⟩ := hSw.2.2.2.2.1.cs; obtain ⟨c50, c51, c52, c53, c54⟩ := hSw.2.2.2.2.2.1.cs; go_simp
          first | done | with_reducible rfl
        refine wpAnyH_takeE (i := 9) (some 40) (v := ?_) rfl rfl (by as_aux_lemma => kernel_rfl) (by as_aux_lemma => kernel_rfl) (by as_aux_lemma => kernel_rfl) (fun _ _ _ h => h) (Or.inl ⟨by kernel_rfl, ?_⟩) hS ?_
        rotate_left
        · intro w hSw; obtain ⟨c00, c01, c02, c03, c04⟩ := hSw.1.cs; obtain ⟨c10, c11, c12, c13, c14⟩ := hSw.2.1.cs; obtain ⟨c20, c21, c22, c23, c24⟩ := hSw.2.2.1.cs; obtain ⟨c30, c31, c32, c33, c34⟩ := hSw.2.2.2.1.cs; obtain ⟨c40, c41, c42, c43, c44⟩ := hSw.2.2.2.2.1.cs; obtain ⟨c50, c51, c52, c53, c54⟩ := hSw.2.2.2.2.2.1.cs; go_simp
          first | done | with_reducible rfl
        refine wpAnyH_takeE (i := 10) (some 41) (v := ?_) rfl rfl (by as_aux_lemma => kernel_rfl) (by as_aux_lemma => kernel_rfl) (by as_aux_lemma => kernel_rfl) (fun _ _ _ h => h) (Or.inl ⟨by kernel_rfl, ?_⟩) hS ?_
        rotate_left
        · intro w hSw; obtain ⟨c00, c01, c02, c03, c04⟩ := hSw.1.cs; obtain ⟨c10, c11, c12, c13, c14⟩ := hSw.2.1.cs; obtain ⟨c20, c21, c22, c23, c24⟩ := hSw.2.2.1.cs; obtain ⟨c30, c31, c32, c33, c34⟩ := hSw.2.2.2.1.cs; obtain ⟨c40, c41, c42, c43, c44⟩ := hSw.2.2.2.2.1.cs; obtain ⟨c50, c51, c52, c53, c54⟩ := hSw.2.2.2.2.2.1.cs; go_simp
          first | done | with_reducible rfl
        refine wpAnyH_takeE (i := 12) (some 43) (v := ?_) rfl rfl (by as_aux_lemma => kernel_rfl) (by as_aux_lemma => kernel_rfl) (by as_aux_lemma => kernel_rfl) (fun _ _ _ h => h) (Or.inl ⟨by kernel_rfl, ?_⟩) hS ?_
        rotate_left
        · intro w hSw; obtain ⟨c00, c01, c02, c03, c04⟩ := hSw.1.cs; obtain ⟨c10, c11, c12, c13, c14⟩ := hSw.2.1.cs; obtain ⟨c20, c21, c22, c23, c24⟩ := hSw.2.2.1.cs; obtain ⟨c30, c31, c32, c33, c34⟩ := hSw.2.2.2.1.cs; obtain ⟨c40, c41, c42, c43, c44⟩ := hSw.2.2.2.2.1.cs; obtain ⟨c50, c51, c52, c53, c54⟩ := hSw.2.2.2.2.2.1.cs; go_simp
          first | done | with_reducible rfl
        refine wpAnyH_ready (rs := [11]) (by as_aux_lemma => kernel_rfl) (by simp) ?_
        refine AllReadyH.cons rfl (fun K hK => ?_) AllReadyH.nil
        go_simp
        go_wp2_with (go_at_call 9; refine (HXX.out _).mono ?_; rintro e yy11 ⟨rfl, q⟩)
        refine hK.out _ _ ?_ (fun hS => ?_)
        · exact ⟨hS.1.on q, hS.2.1.on q, hS.2.2.1.on q, hS.2.2.2.1.on q, hS.2.2.2.2.1.on q, hS.2.2.2.2.2.1.on q, hS.2.2.2.2.2.2.trans (q.mono (HAs.out ▸ hS.2.2.2.2.2.2.size))⟩
        clear hK K
        clear q
        refine wpAnyH_takeE (i := 13) (some 44) (v := ?_) rfl rfl (by as_aux_lemma => kernel_rfl) (by as_aux_lemma => kernel_rfl) (by as_aux_lemma => kernel_rfl) (fun _ _ _ h => h) (Or.inl ⟨by kernel_rfl, ?_⟩) hS ?_
        rotate_left
        · intro w hSw; obtain ⟨c00, c01, c02, c03, c04⟩ := hSw.1.cs; obtain ⟨c10, c11, c12, c13, c14⟩ := hSw.2.1.cs; obtain ⟨c20, c21, c22, c23, c24⟩ := hSw.2.2.1.cs; obtain ⟨c30, c31, c32, c33, c34⟩ := hSw.2.2.2.1.cs; obtain ⟨c40, c41, c42, c43, c44⟩ := hSw.2.2.2.2.1.cs; obtain ⟨c50, c51, c52, c53, c54⟩ := hSw.2.2.2.2.2.1.cs; go_simp
          first | done | with_reducible rfl
        refine wpAnyH_takeE (i := 14) (some 45) (v := ?_) rfl rfl (by as_aux_lemma => kernel_rfl) (by as_aux_lemma => kernel_rfl) (by as_aux_lemma => kernel_rfl) (fun _ _ _ h => h) (Or.inl ⟨by kernel_rfl, ?_⟩) hS ?_
        rotate_left
        · intro w hSw; obtain ⟨c00, c01, c02, c03, c04⟩ := hSw.1.cs; obtain ⟨c10, c11, c12, c13, c14⟩ := hSw.2.1.cs; obtain ⟨c20, c21, c22, c23, c24⟩ := hSw.2.2.1.cs; obtain ⟨c30, c31, c32, c33, c34⟩ := hSw.2.2.2.1.cs; obtain ⟨c40, c41, c42, c43, c44⟩ := hSw.2.2.2.2.1.cs; obtain ⟨c50, c51, c52, c53, c54⟩ := hSw.2.2.2.2.2.1.cs; go_simp
          first | done | with_reducible rfl
        refine wpAnyH_takeE (i := 15) (some 46) (v := ?_) rfl rfl (by as_aux_lemma => kernel_rfl) (by as_aux_lemma => kernel_rfl) (by as_aux_lemma => kernel_rfl) (fun _ _ _ h => h) (Or.inl ⟨by kernel_rfl, ?_⟩) hS ?_
        rotate_left
        · intro w hSw; obtain ⟨c00, c01, c02, c03, c04⟩ := hSw.1.cs; obtain ⟨c10, c11, c12, c13, c14⟩ := hSw.2.1.cs; obtain ⟨c20, c21, c22, c23, c24⟩ := hSw.2.2.1.cs; obtain ⟨c30, c31, c32, c33, c34⟩ := hSw.2.2.2.1.cs; obtain ⟨c40, c41, c42, c43, c44⟩ := hSw.2.2.2.2.1.cs; obtain ⟨c50, c51, c52, c53, c54⟩ := hSw.2.2.2.2.2.1.cs; go_simp
          first | done | with_reducible rfl
        refine wpAnyH_takeE (i := 16) (some 47) (v := ?_) rfl rfl (by as_aux_lemma => kernel_rfl) (by as_aux_lemma => kernel_rfl) (by as_aux_lemma => kernel_rfl) (fun _ _ _ h => h) (Or.inl ⟨by kernel_rfl, ?_⟩) hS ?_
        rotate_left
        · intro w hSw; obtain ⟨c00, c01, c02, c03, c04⟩ := hSw.1.cs; obtain ⟨c10, c11, c12, c13, c14⟩ := hSw.2.1.cs; obtain ⟨c20, c21, c22, c23, c24⟩ := hSw.2.2.1.cs; obtain ⟨c30, c31, c32, c33, c34⟩ := hSw.2.2.2.1.cs; obtain ⟨c40, c41, c42, c43, c44⟩ := hSw.2.2.2.2.1.cs; obtain ⟨c50, c51, c52, c53, c54⟩ := hSw.2.2.2.2.2.1.cs; go_simp
          first | done | with_reducible rfl
        refine wpAnyH_takeE (i := 17) (some 48) (v := ?_) rfl rfl (by as_aux_lemma => kernel_rfl) (by as_aux_lemma => kernel_rfl) (by as_aux_lemma => kernel_rfl) (fun _ _ _ h => h) (Or.inl ⟨by kernel_rfl, ?_⟩) hS ?_
        rotate_left
        · intro w hSw; obtain ⟨c00, c01, c02, c03, c04⟩ := hSw.1.cs; obtain ⟨c10, c11, c12, c13, c14⟩ := hSw.2.1.cs; obtain ⟨c20, c21, c22, c23, c24⟩ := hSw.2.2.1.cs; obtain ⟨c30, c31, c32, c33, c34⟩ := hSw.2.2.2.1.cs; obtain ⟨c40, c41, c42, c43, c44⟩ := hSw.2.2.2.2.1.cs; obtain ⟨c50, c51, c52, c53, c54⟩ := hSw.2.2.2.2.2.1.cs; go_simp
          first | done | with_reducible rfl
        refine wpAnyH_takeE (i := 19) (some 50) (v := ?_) rfl rfl (by as_aux_lemma => kernel_rfl) (by as_aux_lemma => kernel_rfl) (by as_aux_lemma => kernel_rfl) (fun _ _ _ h => h) (Or.inl ⟨by kernel_rfl, ?_⟩) hS ?_
        rotate_left
        · intro w hSw; obtain ⟨c00, c01, c02, c03, c04⟩ := hSw.1.cs; obtain ⟨c10, c11, c12, c13, c14⟩ := hSw.2.1.cs; obtain ⟨c20, c21, c22, c23, c24⟩ := hSw.2.2.1.cs; obtain ⟨c30, c31, c32, c33, c34⟩ := hSw.2.2.2.1.cs; obtain ⟨c40, c41, c42, c43, c44⟩ := hSw.2.2.2.2.1.cs; obtain ⟨c50, c51, c52, c53, c54⟩ := hSw.2.2.2.2.2.1.cs; go_simp
          first | done | with_reducible rfl
        refine wpAnyH_ready (rs := [18]) (by as_aux_lemma => kernel_rfl) (by simp) ?_
        refine AllReadyH.cons rfl (fun K hK => ?_) AllReadyH.nil
        go_simp
        go_wp2_with (go_at_call 9; refine (HPX.out _).mono ?_; rintro e yy18 ⟨rfl, q⟩)
        refine hK.out _ _ ?_ (fun hS => ?_)
        · exact ⟨hS.1.on q, hS.2.1.on q, hS.2.2.1.on q, hS.2.2.2.1.on q, hS.2.2.2.2.1.on q, hS.2.2.2.2.2.1.on q, hS.2.2.2.2.2.2.trans (q.mono (HAs.out ▸ hS.2.2.2.2.2.2.size))⟩
        clear hK K
        clear q
        refine wpAnyH_takeE (i := 20) (some 51) (v := ?_) rfl rfl (by as_aux_lemma => kernel_rfl) (by as_aux_lemma => kernel_rfl) (by as_aux_lemma => kernel_rfl) (fun _ _ _ h => h) (Or.inl ⟨by kernel_rfl, ?_⟩) hS ?_
        rotate_left
        · intro w hSw; obtain ⟨c00, c01, c02, c03, c04⟩ := hSw.1.cs; obtain ⟨c10, c11, c12, c13, c14⟩ := hSw.2.1.cs; obtain ⟨c20, c21, c22, c23, c24⟩ := hSw.2.2.1.cs; obtain ⟨c30, c31, c32, c33, c34⟩ := hSw.2.2.2.1.cs; obtain ⟨c40, c41, c42, c43, c44⟩ := hSw.2.2.2.2.1.cs; obtain ⟨c50, c51, c52, c53, c54⟩ := hSw.2.2.2.2.2.1.cs; go_simp
          first | done | with_reducible rfl
        refine wpAnyH_takeE (i := 21) (some 52) (v := ?_) rfl rfl (by as_aux_lemma => kernel_rfl) (by as_aux_lemma => kernel_rfl) (by as_aux_lemma => kernel_rfl) (fun _ _ _ h => h) (Or.inl ⟨by kernel_rfl, ?_⟩) hS ?_
        rotate_left
        · intro w hSw; obtain ⟨c00, c01, c02, c03, c04⟩ := hSw.1.cs; obtain ⟨c10, c11, c12, c13, c14⟩ := hSw.2.1.cs; obtain ⟨c20, c21, c22, c23, c24⟩ := hSw.2.2.1.cs; obtain ⟨c30, c31, c32, c33, c34⟩ := hSw.2.2.2.1.cs; obtain ⟨c40, c41, c42, c43, c44⟩ := hSw.2.2.2.2.1.cs; obtain ⟨c50, c51, c52, c53, c54⟩ := hSw.2.2.2.2.2.1.cs; go_simp
          first | done | with_reducible rfl
        refine wpAnyH_takeE (i := 22) (some 53) (v := ?_) rfl rfl (by as_aux_lemma => kernel_rfl) (by as_aux_lemma => kernel_rfl) (by as_aux_lemma => kernel_rfl) (fun _ _ _ h => h) (Or.inl ⟨by kernel_rfl, ?_⟩) hS ?_
        rotate_left
        · intro w hSw; obtain ⟨c00, c01, c02, c03, c04⟩ := hSw.1.cs; obtain ⟨c10, c11, c12, c13, c14⟩ := hSw.2.1.cs; obtain ⟨c20, c21, c22, c23, c24⟩ := hSw.2.2.1.cs; obtain ⟨c30, c31, c32, c33, c34⟩ := hSw.2.2.2.1.cs; obtain ⟨c40, c41, c42, c43, c44⟩ := hSw.2.2.2.2.1.cs; obtain ⟨c50, c51, c52, c53, c54⟩ := hSw.2.2.2.2.2.1.cs; go_simp
          first | done | with_reducible rfl
        refine wpAnyH_takeE (i := 23) (some 54) (v := ?_) rfl rfl (by as_aux_lemma => kernel_rfl) (by as_aux_lemma => kernel_rfl) (by as_aux_lemma => kernel_rfl) (fun _ _ _ h => h) (Or.inl ⟨by kernel_rfl, ?_⟩) hS ?_
        rotate_left
        · intro w hSw; obtain ⟨c00, c01, c02, c03, c04⟩ := hSw.1.cs; obtain ⟨c10, c11, c12, c13, c14⟩ := hSw.2.1.cs; obtain ⟨c20, c21, c22, c23, c24⟩ := hSw.2.2.1.cs; obtain ⟨c30, c31, c32, c33, c34⟩ := hSw.2.2.2.1.cs; obtain ⟨c40, c41, c42, c43, c44⟩ := hSw.2.2.2.2.1.cs; obtain ⟨c50, c51, c52, c53, c54⟩ := hSw.2.2.2.2.2.1.cs; go_simp
          first | done | with_reducible rfl
        refine wpAnyH_takeE (i := 24) (some 55) (v := ?_) rfl rfl (by as_aux_lemma => kernel_rfl) (by as_aux_lemma => kernel_rfl) (by as_aux_lemma => kernel_rfl) (fun _ _ _ h => h) (Or.inl ⟨by kernel_rfl, ?_⟩) hS ?_
        rotate_left
        · intro w hSw; obtain ⟨c00, c01, c02, c03, c04⟩ := hSw.1.cs; obtain ⟨c10, c11, c12, c13, c14⟩ := hSw.2.1.cs; obtain ⟨c20, c21, c22, c23, c24⟩ := hSw.2.2.1.cs; obtain ⟨c30, c31, c32, c33, c34⟩ := hSw.2.2.2.1.cs; obtain ⟨c40, c41, c42, c43, c44⟩ := hSw.2.2.2.2.1.cs; obtain ⟨c50, c51, c52, c53, c54⟩ := hSw.2.2.2.2.2.1.cs; go_simp
          first | done | with_reducible rfl
        refine wpAnyH_takeE (i := 26) (some 57) (v := ?_) rfl rfl (by as_aux_lemma => kernel_rfl) (by as_aux_lemma => kernel_rfl) (by as_aux_lemma => kernel_rfl) (fun _ _ _ h => h) (Or.inl ⟨by kernel_rfl, ?_⟩) hS ?_
        rotate_left
        · intro w hSw; obtain ⟨c00, c01, c02, c03, c04⟩ := hSw.1.cs; obtain ⟨c10, c11, c12, c13, c14⟩ := hSw.2.1.cs; obtain ⟨c20, c21, c22, c23, c24⟩ := hSw.2.2.1.cs; obtain ⟨c30, c31, c32, c33, c34⟩ := hSw.2.2.2.1.cs; obtain ⟨c40, c41, c42, c43, c44⟩ := hSw.2.2.2.2.1.cs; obtain ⟨c50, c51, c52, c53, c54⟩ := hSw.2.2.2.2.2.1.cs; go_simp
          first | done | with_reducible rfl
        refine wpAnyH_ready (rs := [25]) (by as_aux_lemma => kernel_rfl) (by simp) ?_
        refine AllReadyH.cons rfl (fun K hK => ?_) AllReadyH.nil
        go_simp
        go_wp2_with (go_at_call 9; refine (HPY.out _).mono ?_; rintro e yy25 ⟨rfl, q⟩)
        refine hK.out _ _ ?_ (fun hS => ?_)
        · exact ⟨hS.1.on q, hS.2.1.on q, hS.2.2.1.on q, hS.2.2.2.1.on q, hS.2.2.2.2.1.on q, hS.2.2.2.2.2.1.on q, hS.2.2.2.2.2.2.trans (q.mono (HAs.out ▸ hS.2.2.2.2.2.2.size))⟩
        clear hK K
        clear q
        refine wpAnyH_takeE (i := 27) (some 58) (v := ?_) rfl rfl (by as_aux_lemma => kernel_rfl) (by as_aux_lemma => kernel_rfl) (by as_aux_lemma => kernel_rfl) (fun _ _ _ h => h) (Or.inl ⟨by kernel_rfl, ?_⟩) hS ?_
        rotate_left
        · intro w hSw; obtain ⟨c00, c01, c02, c03, c04⟩ := hSw.1.cs; obtain ⟨c10, c11, c12, c13, c14⟩ := hSw.2.1.cs; obtain ⟨c20, c21, c22, c23, c24⟩ := hSw.2.2.1.cs; obtain ⟨c30, c31, c32, c33, c34⟩ := hSw.2.2.2.1.cs; obtain ⟨c40, c41, c42, c43, c44⟩ := hSw.2.2.2.2.1.cs; obtain ⟨c50, c51, c52, c53, c54⟩ := hSw.2.2.2.2.2.1.cs; go_simp
          first | done | with_reducible rfl
        refine wpAnyH_takeE (i := 28) (some 59) (v := ?_) rfl rfl (by as_aux_lemma => kernel_rfl) (by as_aux_lemma => kernel_rfl) (by as_aux_lemma => kernel_rfl) (fun _ _ _ h => h) (Or.inl ⟨by kernel_rfl, ?_⟩) hS ?_
        rotate_left
        · intro w hSw; obtain ⟨c00, c01, c02, c03, c04⟩ := hSw.1.cs; obtain ⟨c10, c11, c12, c13, c14⟩ := hSw.2.1.cs; obtain ⟨c20, c21, c22, c23, c24⟩ := hSw.2.2.1.cs; obtain ⟨c30, c31, c32, c33, c34⟩ := hSw.2.2.2.1.cs; obtain ⟨c40, c41, c42, c43, c44⟩ := hSw.2.2.2.2.1.cs; obtain ⟨c50, c51, c52, c53, c54⟩ := hSw.2.2.2.2.2.1.cs; go_simp
          first | done | with_reducible rfl
        refine wpAnyH_takeE (i := 29) (some 60) (v := ?_) rfl rfl (by as_aux_lemma => kernel_rfl) (by as_aux_lemma => kernel_rfl) (by as_aux_lemma => kernel_rfl) (fun _ _ _ h => h) (Or.inl ⟨by kernel_rfl, ?_⟩) hS ?_
        rotate_left
        · intro w hSw; obtain ⟨c00, c01, c02, c03, c04⟩ := hSw.1.cs; obtain ⟨c10, c11, c12, c13, c14⟩ := hSw.2.1.cs; obtain ⟨c20, c21, c22, c23, c24⟩ := hSw.2.2.1.cs; obtain ⟨c30, c31, c32, c33, c34⟩ := hSw.2.2.2.1.cs; obtain ⟨c40, c41, c42, c43, c44⟩ := hSw.2.2.2.2.1.cs; obtain ⟨c50, c51, c52, c53, c54⟩ := hSw.2.2.2.2.2.1.cs; go_simp
          first | done | with_reducible rfl
        refine wpAnyH_takeE (i := 30) (some 61) (v := ?_) rfl rfl (by as_aux_lemma => kernel_rfl) (by as_aux_lemma => kernel_rfl) (by as_aux_lemma => kernel_rfl) (fun _ _ _ h => h) (Or.inl ⟨by kernel_rfl, ?_⟩) hS ?_
        rotate_left
        · intro w hSw; obtain ⟨c00, c01, c02, c03, c04⟩ := hSw.1.cs; obtain ⟨c10, c11, c12, c13, c14⟩ := hSw.2.1.cs; obtain ⟨c20, c21, c22, c23, c24⟩ := hSw.2.2.1.cs; obtain ⟨c30, c31, c32, c33, c34⟩ := hSw.2.2.2.1.cs; obtain ⟨c40, c41, c42, c43, c44⟩ := hSw.2.2.2.2.1.cs; obtain ⟨c50, c51, c52, c53, c54⟩ := hSw.2.2.2.2.2.1.cs; go_simp
          first | done | with_reducible rfl
        refine wpAnyH_takeE (i := 31) (some 62) (v := ?_) rfl rfl (by as_aux_lemma => kernel_rfl) (by as_aux_lemma => kernel_rfl) (by as_aux_lemma => kernel_rfl) (fun _ _ _ h => h) (Or.inl ⟨by kernel_rfl, ?_⟩) hS ?_
        rotate_left
        · intro w hSw; obtain ⟨c00, c01, c02, c03, c04⟩ := hSw.1.cs; obtain ⟨c10, c11, c12, c13, c14⟩ := hSw.2.1.cs; obtain ⟨c20, c21, c22, c23, c24⟩ := hSw.2.2.1.cs; obtain ⟨c30, c31, c32, c33, c34⟩ := hSw.2.2.2.1.cs; obtain ⟨c40, c41, c42, c43, c44⟩ := hSw.2.2.2.2.1.cs; obtain ⟨c50, c51, c52, c53, c54⟩ := hSw.2.2.2.2.2.1.cs; go_simp
          first | done | with_reducible rfl
        refine wpAnyH_takeE (i := 32) (some 63) (v := ?_) rfl rfl (by as_aux_lemma => kernel_rfl) (by as_aux_lemma => kernel_rfl) (by as_aux_lemma => kernel_rfl) (fun _ _ _ h => h) (Or.inl ⟨by kernel_rfl, ?_⟩) hS ?_
        rotate_left
        · intro w hSw; obtain ⟨c00, c01, c02, c03, c04⟩ := hSw.1.cs; obtain ⟨c10, c11, c12, c13, c14⟩ := hSw.2.1.cs; obtain ⟨c20, c21, c22, c23, c24⟩ := hSw.2.2.1.cs; obtain ⟨c30, c31, c32, c33, c34⟩ := hSw.2.2.2.1.cs; obtain ⟨c40, c41, c42, c43, c44⟩ := hSw.2.2.2.2.1.cs; obtain ⟨c50, c51, c52, c53, c54⟩ := hSw.2.2.2.2.2.1.cs; go_simp
          first | done | with_reducible rfl
        refine wpAnyH_takeE (i := 33) (some 64) (v := ?_) rfl rfl (by as_aux_lemma => kernel_rfl) (by as_aux_lemma => kernel_rfl) (by as_aux_lemma => kernel_rfl) (fun _ _ _ h => h) (Or.inl ⟨by kernel_rfl, ?_⟩) hS ?_
        rotate_left
        · intro w hSw; obtain ⟨c00, c01, c02, c03, c04⟩ := hSw.1.cs; obtain ⟨c10, c11, c12, c13, c14⟩ := hSw.2.1.cs; obtain ⟨c20, c21, c22, c23, c24⟩ := hSw.2.2.1.cs; obtain ⟨c30, c31, c32, c33, c34⟩ := hSw.2.2.2.1.cs; obtain ⟨c40, c41, c42, c43, c44⟩ := hSw.2.2.2.2.1.cs; obtain ⟨c50, c51, c52, c53, c54⟩ := hSw.2.2.2.2.2.1.cs; go_simp
          first | done | with_reducible rfl
        refine wpAnyH_takeE (i := 34) (some 65) (v := ?_) rfl rfl (by as_aux_lemma => kernel_rfl) (by as_aux_lemma => kernel_rfl) (by as_aux_lemma => kernel_rfl) (fun _ _ _ h => h) (Or.inl ⟨by kernel_rfl, ?_⟩) hS ?_
        rotate_left
        · intro w hSw; obtain ⟨c00, c01, c02, c03, c04⟩ := hSw.1.cs; obtain ⟨c10, c11, c12, c13, c14⟩ := hSw.2.1.cs; obtain ⟨c20, c21, c22, c23, c24⟩ := hSw.2.2.1.cs; obtain ⟨c30, c31, c32, c33, c34⟩ := hSw.2.2.2.1.cs; obtain ⟨c40, c41, c42, c43, c44⟩ := hSw.2.2.2.2.1.cs; obtain ⟨c50, c51, c52, c53, c54⟩ := hSw.2.2.2.2.2.1.cs; go_simp
          first | done | with_reducible rfl
        refine wpAnyH_takeE (i := 35) (some 66) (v := ?_) rfl rfl (by as_aux_lemma => kernel_rfl) (by as_aux_lemma => kernel_rfl) (by as_aux_lemma => kernel_rfl) (fun _ _ _ h => h) (Or.inl ⟨by kernel_rfl, ?_⟩) hS ?_
        rotate_left
        · intro w hSw; obtain ⟨c00, c01, c02, c03, c04⟩ := hSw.1.cs; obtain ⟨c10, c11, c12, c13, c14⟩ := hSw.2.1.cs; obtain ⟨c20, c21, c22, c23, c24⟩ := hSw.2.2.1.cs; obtain ⟨c30, c31, c32, c33, c34⟩ := hSw.2.2.2.1.cs; obtain ⟨c40, c41, c42, c43, c44⟩ := hSw.2.2.2.2.1.cs; obtain ⟨c50, c51, c52, c53, c54⟩ := hSw.2.2.2.2.2.1.cs; go_simp
          first | done | with_reducible rfl
        refine wpAnyH_takeE (i := 36) (some 67) (v := ?_) rfl rfl (by as_aux_lemma => kernel_rfl) (by as_aux_lemma => kernel_rfl) (by as_aux_lemma => kernel_rfl) (fun _ _ _ h => h) (Or.inl ⟨by kernel_rfl, ?_⟩) hS ?_
        rotate_left
        · intro w hSw; obtain ⟨c00, c01, c02, c03, c04⟩ := hSw.1.cs; obtain ⟨c10, c11, c12, c13, c14⟩ := hSw.2.1.cs; obtain ⟨c20, c21, c22, c23, c24⟩ := hSw.2.2.1.cs; obtain ⟨c30, c31, c32, c33, c34⟩ := hSw.2.2.2.1.cs; obtain ⟨c40, c41, c42, c43, c44⟩ := hSw.2.2.2.2.1.cs; obtain ⟨c50, c51, c52, c53, c54⟩ := hSw.2.2.2.2.2.1.cs; go_simp
          first | done | with_reducible rfl
        refine wpAnyH_takeE (i := 37) (some 68) (v := ?_) rfl rfl (by as_aux_lemma => kernel_rfl) (by as_aux_lemma => kernel_rfl) (by as_aux_lemma => kernel_rfl) (fun _ _ _ h => h) (Or.inl ⟨by kernel_rfl, ?_⟩) hS ?_
        rotate_left
        · intro w hSw; obtain ⟨c00, c01, c02, c03, c04⟩ := hSw.1.cs; obtain ⟨c10, c11, c12, c13, c14⟩ := hSw.2.1.cs; obtain ⟨c20, c21, c22, c23, c24⟩ := hSw.2.2.1.cs; obtain ⟨c30, c31, c32, c33, c34⟩ := hSw.2.2.2.1.cs; obtain ⟨c40, c41, c42, c43, c44⟩ := hSw.2.2.2.2.1.cs; obtain ⟨c50, c51, c52, c53, c54⟩ := hSw.2.2.2.2.2.1.cs; go_simp
          first | done | with_reducible rfl
        refine wpAnyH_takeE (i := 38) (some 69) (v := ?_) rfl rfl (by as_aux_lemma => kernel_rfl) (by as_aux_lemma => kernel_rfl) (by as_aux_lemma => kernel_rfl) (fun _ _ _ h => h) (Or.inl ⟨by kernel_rfl, ?_⟩) hS ?_
        rotate_left
        · intro w hSw; obtain ⟨c00, c01, c02, c03, c04⟩ := hSw.1.cs; obtain ⟨c10, c11, c12, c13, c14⟩ := hSw.2.1.cs; obtain ⟨c20, c21, c22, c23, c24⟩ := hSw.2.2.1.cs; obtain ⟨c30, c31, c32, c33, c34⟩ := hSw.2.2.2.1.cs; obtain ⟨c40, c41, c42, c43, c44⟩ := hSw.2.2.2.2.1.cs; obtain ⟨c50, c51, c52, c53, c54⟩ := hSw.2.2.2.2.2.1.cs; go_simp
          first | done | with_reducible rfl
        refine wpAnyH_takeE (i := 39) (some 70) (v := ?_) rfl rfl (by as_aux_lemma => kernel_rfl) (by as_aux_lemma => kernel_rfl) (by as_aux_lemma => kernel_rfl) (fun _ _ _ h => h) (Or.inl ⟨by kernel_rfl, ?_⟩) hS ?_
        rotate_left
        · intro w hSw; obtain ⟨c00, c01, c02, c03, c04⟩ := hSw.1.cs; obtain ⟨c10, c11, c12, c13, c14⟩ := hSw.2.1.cs; obtain ⟨c20, c21, c22, c23, c24⟩ := hSw.2.2.1.cs; obtain ⟨c30, c31, c32, c33, c34⟩ := hSw.2.2.2.1.cs; obtain ⟨c40, c41, c42, c43, c44⟩ := hSw.2.2.2.2.1.cs; obtain ⟨c50, c51, c52, c53, c54⟩ := hSw.2.2.2.2.2.1.cs; go_simp
          first | done | with_reducible rfl
        have HWk := Lib.hid (eawake_any A yy25 (HAs.out ▸ hS.2.2.2.2.2.2.size) (HV.out.on hS.2.2.2.2.2.2))
        refine wpAnyH_ready (rs := [40]) (by as_aux_lemma => kernel_rfl) (by simp) ?_
        refine AllReadyH.cons rfl (fun K hK => ?_) AllReadyH.nil
        go_simp
        go_wp2_with (go_at_call 14; refine HWk.out.mono ?_; rintro e yy40 ⟨rfl, q⟩)
        refine hK.out _ _ ?_ (fun hS => ?_)
        · exact ⟨hS.1.on q, hS.2.1.on q, hS.2.2.1.on q, hS.2.2.2.1.on q, hS.2.2.2.2.1.on q, hS.2.2.2.2.2.1.on q, hS.2.2.2.2.2.2.trans (q.mono (HAs.out ▸ hS.2.2.2.2.2.2.size))⟩
        clear hK K
        clear q
        refine wpAnyH_takeE (i := 41) (some 72) (v := ?_) rfl rfl (by as_aux_lemma => kernel_rfl) (by as_aux_lemma => kernel_rfl) (by as_aux_lemma => kernel_rfl) (fun _ _ _ h => h) (Or.inl ⟨by kernel_rfl, ?_⟩) hS ?_
        rotate_left
        · intro w hSw; obtain ⟨c00, c01, c02, c03, c04⟩ := hSw.1.cs; obtain ⟨c10, c11, c12, c13, c14⟩ := hSw.2.1.cs; obtain ⟨c20, c21, c22, c23, c24⟩ := hSw.2.2.1.cs; obtain ⟨c30, c31, c32, c33, c34⟩ := hSw.2.2.2.1.cs; obtain ⟨c40, c41, c42, c43, c44⟩ := hSw.2.2.2.2.1.cs; obtain ⟨c50, c51, c52, c53, c54⟩ := hSw.2.2.2.2.2.1.cs; go_simp
          first | done | with_reducible rfl
        refine wpAnyH_takeE (i := 42) (some 6) (v := ?_) rfl rfl (by as_aux_lemma => kernel_rfl) (by as_aux_lemma => kernel_rfl) (by as_aux_lemma => kernel_rfl) (fun _ _ _ h => h) (Or.inl ⟨by kernel_rfl, ?_⟩) hS ?_
        rotate_left
        · intro w hSw; obtain ⟨c00, c01, c02, c03, c04⟩ := hSw.1.cs; obtain ⟨c10, c11, c12, c13, c14⟩ := hSw.2.1.cs; obtain ⟨c20, c21, c22, c23, c24⟩ := hSw.2.2.1.cs; obtain ⟨c30, c31, c32, c33, c34⟩ := hSw.2.2.2.1.cs; obtain ⟨c40, c41, c42, c43, c44⟩ := hSw.2.2.2.2.1.cs; obtain ⟨c50, c51, c52, c53, c54⟩ := hSw.2.2.2.2.2.1.cs; go_simp
          first | done | with_reducible rfl
        have HQf := Lib.hid hS.2.2.2.2.2.2
        refine wpAnyH_done (by kernel_rfl) ?_ _
        clear hS
        go_simp
        go_wp2
        go_ret
        refine ⟨rfl, ?_⟩
        rw [← HAs.out]
        exact HQf.out

end Go.Proofs.YtjkhonelidhakaaDoor
