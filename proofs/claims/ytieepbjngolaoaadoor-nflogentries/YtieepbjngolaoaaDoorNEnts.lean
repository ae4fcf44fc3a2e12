/-
  The walk of NflogEntries: a sending is the entry that the document says.
-/
import Derived.Test.YtieepbjngolaoaaDoorN6
import Derived.Test.YtieepbjngolaoaaDoorN4
namespace Go.Proofs.YtieepbjngolaoaaDoor
open Go.RowKit

set_option maxRecDepth 100000 in
set_option maxHeartbeats 4000000 in
theorem ents_a (s : Snd) (o keep : Int) (h1 : 20000 < s.r.size) (W : World) (hv : VarsOk W.heap.size W) :
    Calls Tryd.prog 4 #[.agg #[.string s.r, .string s.k, .string s.v, .int .i64 s.t], .int .u16 o, .int .i64 keep] W fun e w' => e = .returned (.bool true) ∧ Below W.heap.size W w' := by
  have HA : Hid (∀ w, Below W.heap.size W w → Calls Tryd.prog 7 #[] w fun e w' => e = .returned (.bool true) ∧ Below w.heap.size w w') := Lib.hid (fun w hw => fawake_any W.heap.size w hw.size (hv.on hw))
  have d1 := (Below.refl W.heap.size W).alloc (Nat.le_refl _) (.cells #[.string s.r, .string s.k, .string s.v, .int .i64 s.t] 33)
  have b1 := SnBlk.new W s
  have x0 := b1.c0; have x1 := b1.c1; have x2 := b1.c2; have x3 := b1.c3
  have g1 : (20000 : Int) < (s.r.size : Int) := by omega
  clear h1
  have HQ := Lib.hid d1
  clear d1 b1 hv
  obtain ⟨rs, ks, vs, ts⟩ := s
  dsimp only at *
  go_enter Tryd.func4, Tryd.ntmps4
  go_wp2_with (go_at_call 7; refine (HA.out _ HQ.out).mono ?_; rintro e u ⟨rfl, q⟩; replace q := Lib.hid q; refine Hid.out ?_)
  refine Lib.hid ?_
  go_wp2
  go_ret
  exact ⟨rfl, HQ.out.trans (q.out.mono HQ.out.size)⟩
set_option maxRecDepth 100000 in
set_option maxHeartbeats 4000000 in
theorem ents_b (s : Snd) (o keep : Int) (h1 : ¬ 20000 < s.r.size) (h2 : 20000 < s.k.size) (W : World) (hv : VarsOk W.heap.size W) :
    Calls Tryd.prog 4 #[.agg #[.string s.r, .string s.k, .string s.v, .int .i64 s.t], .int .u16 o, .int .i64 keep] W fun e w' => e = .returned (.bool true) ∧ Below W.heap.size W w' := by
  have HA : Hid (∀ w, Below W.heap.size W w → Calls Tryd.prog 7 #[] w fun e w' => e = .returned (.bool true) ∧ Below w.heap.size w w') := Lib.hid (fun w hw => fawake_any W.heap.size w hw.size (hv.on hw))
  have d1 := (Below.refl W.heap.size W).alloc (Nat.le_refl _) (.cells #[.string s.r, .string s.k, .string s.v, .int .i64 s.t] 33)
  have b1 := SnBlk.new W s
  have x0 := b1.c0; have x1 := b1.c1; have x2 := b1.c2; have x3 := b1.c3
  have g1 : ¬ (20000 : Int) < (s.r.size : Int) := by omega
  have g2 : (20000 : Int) < (s.k.size : Int) := by omega
  clear h1 h2
  have HQ := Lib.hid d1
  clear d1 b1 hv
  obtain ⟨rs, ks, vs, ts⟩ := s
  dsimp only at *
  go_enter Tryd.func4, Tryd.ntmps4
  go_wp2_with (go_at_call 7; refine (HA.out _ HQ.out).mono ?_; rintro e u ⟨rfl, q⟩; replace q := Lib.hid q; refine Hid.out ?_)
  refine Lib.hid ?_
  go_wp2
  go_ret
  exact ⟨rfl, HQ.out.trans (q.out.mono HQ.out.size)⟩
set_option maxRecDepth 100000 in
set_option maxHeartbeats 4000000 in
theorem ents_c (s : Snd) (o keep : Int) (h1 : ¬ 20000 < s.r.size) (h2 : ¬ 20000 < s.k.size) (h3 : 20000 < s.v.size) (W : World) (hv : VarsOk W.heap.size W) :
    Calls Tryd.prog 4 #[.agg #[.string s.r, .string s.k, .string s.v, .int .i64 s.t], .int .u16 o, .int .i64 keep] W fun e w' => e = .returned (.bool true) ∧ Below W.heap.size W w' := by
  have HA : Hid (∀ w, Below W.heap.size W w → Calls Tryd.prog 7 #[] w fun e w' => e = .returned (.bool true) ∧ Below w.heap.size w w') := Lib.hid (fun w hw => fawake_any W.heap.size w hw.size (hv.on hw))
  have d1 := (Below.refl W.heap.size W).alloc (Nat.le_refl _) (.cells #[.string s.r, .string s.k, .string s.v, .int .i64 s.t] 33)
  have b1 := SnBlk.new W s
  have x0 := b1.c0; have x1 := b1.c1; have x2 := b1.c2; have x3 := b1.c3
  have g1 : ¬ (20000 : Int) < (s.r.size : Int) := by omega
  have g2 : ¬ (20000 : Int) < (s.k.size : Int) := by omega
  have g3 : (20000 : Int) < (s.v.size : Int) := by omega
  clear h1 h2 h3
  have HQ := Lib.hid d1
  clear d1 b1 hv
  obtain ⟨rs, ks, vs, ts⟩ := s
  dsimp only at *
  go_enter Tryd.func4, Tryd.ntmps4
  go_wp2_with (go_at_call 7; refine (HA.out _ HQ.out).mono ?_; rintro e u ⟨rfl, q⟩; replace q := Lib.hid q; refine Hid.out ?_)
  refine Lib.hid ?_
  go_wp2
  go_ret
  exact ⟨rfl, HQ.out.trans (q.out.mono HQ.out.size)⟩
set_option maxRecDepth 100000 in
set_option maxHeartbeats 4000000 in
theorem ents_d (s : Snd) (o keep : Int) (h1 : ¬ 20000 < s.r.size) (h2 : ¬ 20000 < s.k.size) (h3 : ¬ 20000 < s.v.size) (ht : -9223372036854775808 ≤ s.t ∧ s.t ≤ 9223372036854775807) (hk : -9223372036854775808 ≤ keep ∧ keep ≤ 9223372036854775807) (W : World) (hv : VarsOk W.heap.size W) :
    Calls Tryd.prog 4 #[.agg #[.string s.r, .string s.k, .string s.v, .int .i64 s.t], .int .u16 o, .int .i64 keep] W fun e w' => e = .returned (.bool true) ∧ Below W.heap.size W w' := by
  have HA : Hid (∀ w, Below W.heap.size W w → Calls Tryd.prog 7 #[] w fun e w' => e = .returned (.bool true) ∧ Below w.heap.size w w') := Lib.hid (fun w hw => fawake_any W.heap.size w hw.size (hv.on hw))
  have d1 := (Below.refl W.heap.size W).alloc (Nat.le_refl _) (.cells #[.string s.r, .string s.k, .string s.v, .int .i64 s.t] 33)
  have b1 := SnBlk.new W s
  have x0 := b1.c0; have x1 := b1.c1; have x2 := b1.c2; have x3 := b1.c3
  have g1 : ¬ (20000 : Int) < (s.r.size : Int) := by omega
  have g2 : ¬ (20000 : Int) < (s.k.size : Int) := by omega
  have g3 : ¬ (20000 : Int) < (s.v.size : Int) := by omega
  have HE1 : Hid (∀ w, Below W.heap.size W w → Calls Tryd.prog 10 #[.agg #[.string s.r, .string s.k, .string s.v, .int .i64 s.t], .int .u16 o, .int .i64 keep] w fun e w' => e = .returned (.tuple #[.agg #[.string (ansN s o keep).k, .int .i64 (ansN s o keep).t, .int .u16 (ansN s o keep).o, .string (ansN s o keep).v, .int .i64 (ansN s o keep).u], .int .i64 (errN s keep)]) ∧ Below w.heap.size w w') := Lib.hid (fun w hw => fEntry_any s o keep W.heap.size w hw.size (hv.on hw) (by omega) (by omega))
  have HE2 : Hid (∀ w, Calls Tryd.prog 11 #[.agg #[.string s.r, .string s.k, .string s.v, .int .i64 s.t], .int .u16 o, .int .i64 keep] w fun e w' => e = .returned (.tuple #[.agg #[.string (ansN s o keep).k, .int .i64 (ansN s o keep).t, .int .u16 (ansN s o keep).o, .string (ansN s o keep).v, .int .i64 (ansN s o keep).u], .int .i64 (errN s keep)]) ∧ Below w.heap.size w w') := Lib.hid (fun w => zEntry_any s o keep w (by omega) (by omega) ht hk)
  have HK1 : Hid (∀ w, Below W.heap.size W w → Calls Tryd.prog 12 #[.string s.r, .string s.k] w fun e w' => e = .returned (.string (keyN s.r s.k)) ∧ Below w.heap.size w w') := Lib.hid (fun w hw => fKey_any s.r s.k (by omega) (by omega) W.heap.size w hw.size (hv.on hw))
  have HK2 : Hid (∀ w, Calls Tryd.prog 13 #[.string s.r, .string s.k] w fun e w' => e = .returned (.string (keyN s.r s.k)) ∧ Below w.heap.size w w') := Lib.hid (fun w => zKey_any s.r s.k (by omega) (by omega) w)
  generalize ansN s o keep = A at *
  generalize errN s keep = E at *
  generalize keyN s.r s.k = K at *
  have hR := fun w => run_eqE A A w
  rw [eqEn_refl] at hR
  have HR := Lib.hid hR
  have HKE := Lib.hid (show (K.toList == K.toList) = true by simp)
  have HZ := Lib.hid (And.intro b1 d1)
  clear h1 h2 h3 ht hk hv b1 d1 hR
  obtain ⟨rs, ks, vs, ts⟩ := s
  dsimp only at *
  go_enter Tryd.func4, Tryd.ntmps4
  go_wp2_with (go_at_call 10; refine (HE1.out _ HZ.out.2).mono ?_; rintro e u1 ⟨rfl, q1⟩; refine Hid.out ?_)
  refine Lib.hid ?_
  obtain ⟨b1, d1⟩ := HZ.out
  have qa := (Below.refl u1.heap.size u1).alloc (Nat.le_refl _) (.cells #[.string A.k, .int .i64 A.t, .int .u16 A.o, .string A.v, .int .i64 A.u] 24)
  have c1 := (b1.on q1).on qa
  have e1 := EBlk.new u1 A
  have d2 := d1.trans (q1.mono d1.size)
  have d3 := d2.trans (qa.mono d2.size)
  clear x0 x1 x2 x3 g1 g2 g3
  have x0 := c1.c0; have x1 := c1.c1; have x2 := c1.c2; have x3 := c1.c3
  dsimp only at x0 x1 x2 x3
  have HZ2 := Lib.hid (And.intro c1 (And.intro e1 d3))
  clear HZ b1 d1 q1 qa c1 e1 d2 d3 HE1
  go_wp2_with (go_at_call 11; refine (HE2.out _).mono ?_; rintro e u2 ⟨rfl, q2⟩; refine Hid.out ?_)
  refine Lib.hid ?_
  obtain ⟨c1, e1, d3⟩ := HZ2.out
  have qb := (Below.refl u2.heap.size u2).alloc (Nat.le_refl _) (.cells #[.string A.k, .int .i64 A.t, .int .u16 A.o, .string A.v, .int .i64 A.u] 24)
  have c2 := (c1.on q2).on qb
  have e2 := (e1.on q2).on qb
  have e3 := EBlk.new u2 A
  have d4 := d3.trans (q2.mono d3.size)
  have d5 := d4.trans (qb.mono d4.size)
  clear x0 x1 x2 x3 HZ2 c1 e1 d3 q2 qb d4 HE2
  go_wp2_with fail
  generalize hw3 : u2.alloc (.cells #[.string A.k, .int .i64 A.t, .int .u16 A.o, .string A.v, .int .i64 A.u] 24) = w3 at *
  clear hw3
  generalize u1.heap.size = X1 at *
  generalize u2.heap.size = X2 at *
  refine wp_region_any (by kernel_rfl) ?_
  change wpAny _ _ _ _ _ _ _ (World.drew _)
  have hS : (fun w' : World => SnBlk w' W.heap.size ⟨rs, ks, vs, ts⟩ ∧ EBlk w' X1 A ∧ EBlk w' X2 A ∧ Below W.heap.size W w') w3.drew := ⟨c2, e2, e3, d5.drew⟩
  refine wpAny_of_held (S := fun w' => SnBlk w' W.heap.size ⟨rs, ks, vs, ts⟩ ∧ EBlk w' X1 A ∧ EBlk w' X2 A ∧ Below W.heap.size W w') _ _ _ _ ?_
  clear c2 e2 e3 d5
  refine wpAnyH_takeE (i := 0) (some 42) (v := ?_) rfl rfl (by as_aux_lemma => kernel_rfl) (by as_aux_lemma => kernel_rfl) (by as_aux_lemma => kernel_rfl) (fun _ _ _ h => h) (Or.inl ⟨by kernel_rfl, ?_⟩) hS ?_
  rotate_left
  · intro w hSw; have v0 := hSw.2.1.c0; have v1 := hSw.2.1.c1; have v2 := hSw.2.1.c2; have v3 := hSw.2.1.c3; have v4 := hSw.2.1.c4; go_simp
    first | done | with_reducible rfl
  refine wpAnyH_takeE (i := 1) (some 43) (v := ?_) rfl rfl (by as_aux_lemma => kernel_rfl) (by as_aux_lemma => kernel_rfl) (by as_aux_lemma => kernel_rfl) (fun _ _ _ h => h) (Or.inl ⟨by kernel_rfl, ?_⟩) hS ?_
  rotate_left
  · intro w hSw; have v0 := hSw.2.2.1.c0; have v1 := hSw.2.2.1.c1; have v2 := hSw.2.2.1.c2; have v3 := hSw.2.2.1.c3; have v4 := hSw.2.2.1.c4; go_simp
    first | done | with_reducible rfl
  have hR := HR.out
  refine wpAnyH_takeE (i := 2) (some 44) (v := ?_) rfl rfl (by as_aux_lemma => kernel_rfl) (by as_aux_lemma => kernel_rfl) (by as_aux_lemma => kernel_rfl) (fun _ _ _ h => h) (Or.inl ⟨by kernel_rfl, ?_⟩) hS ?_
  rotate_left
  · intro w hSw; skip; go_simp
    first | done | with_reducible rfl
  clear hR
  refine wpAnyH_takeE (i := 3) (some 45) (v := ?_) rfl rfl (by as_aux_lemma => kernel_rfl) (by as_aux_lemma => kernel_rfl) (by as_aux_lemma => kernel_rfl) (fun _ _ _ h => h) (Or.inl ⟨by kernel_rfl, ?_⟩) hS ?_
  rotate_left
  · intro w hSw; skip; go_simp
    first | done | with_reducible rfl
  refine wpAnyH_takeE (i := 4) (some 46) (v := ?_) rfl rfl (by as_aux_lemma => kernel_rfl) (by as_aux_lemma => kernel_rfl) (by as_aux_lemma => kernel_rfl) (fun _ _ _ h => h) (Or.inl ⟨by kernel_rfl, ?_⟩) hS ?_
  rotate_left
  · intro w hSw; skip; go_simp
    first | done | with_reducible rfl
  refine wpAnyH_takeE (i := 5) (some 47) (v := ?_) rfl rfl (by as_aux_lemma => kernel_rfl) (by as_aux_lemma => kernel_rfl) (by as_aux_lemma => kernel_rfl) (fun _ _ _ h => h) (Or.inl ⟨by kernel_rfl, ?_⟩) hS ?_
  rotate_left
  · intro w hSw; skip; go_simp
    first | done | with_reducible rfl
  refine wpAnyH_takeE (i := 6) (some 48) (v := ?_) rfl rfl (by as_aux_lemma => kernel_rfl) (by as_aux_lemma => kernel_rfl) (by as_aux_lemma => kernel_rfl) (fun _ _ _ h => h) (Or.inl ⟨by kernel_rfl, ?_⟩) hS ?_
  rotate_left
  · intro w hSw; skip; go_simp
    first | done | with_reducible rfl
  refine wpAnyH_takeE (i := 7) (some 49) (v := ?_) rfl rfl (by as_aux_lemma => kernel_rfl) (by as_aux_lemma => kernel_rfl) (by as_aux_lemma => kernel_rfl) (fun _ _ _ h => h) (Or.inl ⟨by kernel_rfl, ?_⟩) hS ?_
  rotate_left
  · intro w hSw; skip; go_simp
    first | done | with_reducible rfl
  refine wpAnyH_takeE (i := 8) (some 50) (v := ?_) rfl rfl (by as_aux_lemma => kernel_rfl) (by as_aux_lemma => kernel_rfl) (by as_aux_lemma => kernel_rfl) (fun _ _ _ h => h) (Or.inl ⟨by kernel_rfl, ?_⟩) hS ?_
  rotate_left
  · intro w hSw; skip; go_simp
    first | done | with_reducible rfl
  refine wpAnyH_takeE (i := 9) (some 51) (v := ?_) rfl rfl (by as_aux_lemma => kernel_rfl) (by as_aux_lemma => kernel_rfl) (by as_aux_lemma => kernel_rfl) (fun _ _ _ h => h) (Or.inl ⟨by kernel_rfl, ?_⟩) hS ?_
  rotate_left
  · intro w hSw; have x0 := hSw.1.c0; have x1 := hSw.1.c1; dsimp only at x0 x1; go_simp
    first | done | with_reducible rfl
  refine wpAnyH_takeE (i := 10) (some 52) (v := ?_) rfl rfl (by as_aux_lemma => kernel_rfl) (by as_aux_lemma => kernel_rfl) (by as_aux_lemma => kernel_rfl) (fun _ _ _ h => h) (Or.inl ⟨by kernel_rfl, ?_⟩) hS ?_
  rotate_left
  · intro w hSw; have x0 := hSw.1.c0; have x1 := hSw.1.c1; dsimp only at x0 x1; go_simp
    first | done | with_reducible rfl
  refine wpAnyH_takeE (i := 11) (some 53) (v := ?_) rfl rfl (by as_aux_lemma => kernel_rfl) (by as_aux_lemma => kernel_rfl) (by as_aux_lemma => kernel_rfl) (fun _ _ _ h => h) (Or.inl ⟨by kernel_rfl, ?_⟩) hS ?_
  rotate_left
  · intro w hSw; have x0 := hSw.1.c0; have x1 := hSw.1.c1; dsimp only at x0 x1; go_simp
    first | done | with_reducible rfl
  refine wpAnyH_takeE (i := 12) (some 54) (v := ?_) rfl rfl (by as_aux_lemma => kernel_rfl) (by as_aux_lemma => kernel_rfl) (by as_aux_lemma => kernel_rfl) (fun _ _ _ h => h) (Or.inl ⟨by kernel_rfl, ?_⟩) hS ?_
  rotate_left
  · intro w hSw; have x0 := hSw.1.c0; have x1 := hSw.1.c1; dsimp only at x0 x1; go_simp
    first | done | with_reducible rfl
  refine wpAnyH_takeE (i := 14) (some 56) (v := ?_) rfl rfl (by as_aux_lemma => kernel_rfl) (by as_aux_lemma => kernel_rfl) (by as_aux_lemma => kernel_rfl) (fun _ _ _ h => h) (Or.inl ⟨by kernel_rfl, ?_⟩) hS ?_
  rotate_left
  · intro w hSw; have x0 := hSw.1.c0; have x1 := hSw.1.c1; dsimp only at x0 x1; go_simp
    first | done | with_reducible rfl
  refine wpAnyH_takeE (i := 15) (some 57) (v := ?_) rfl rfl (by as_aux_lemma => kernel_rfl) (by as_aux_lemma => kernel_rfl) (by as_aux_lemma => kernel_rfl) (fun _ _ _ h => h) (Or.inl ⟨by kernel_rfl, ?_⟩) hS ?_
  rotate_left
  · intro w hSw; have x0 := hSw.1.c0; have x1 := hSw.1.c1; dsimp only at x0 x1; go_simp
    first | done | with_reducible rfl
  refine wpAnyH_takeE (i := 16) (some 58) (v := ?_) rfl rfl (by as_aux_lemma => kernel_rfl) (by as_aux_lemma => kernel_rfl) (by as_aux_lemma => kernel_rfl) (fun _ _ _ h => h) (Or.inl ⟨by kernel_rfl, ?_⟩) hS ?_
  rotate_left
  · intro w hSw; have x0 := hSw.1.c0; have x1 := hSw.1.c1; dsimp only at x0 x1; go_simp
    first | done | with_reducible rfl
  refine wpAnyH_takeE (i := 17) (some 59) (v := ?_) rfl rfl (by as_aux_lemma => kernel_rfl) (by as_aux_lemma => kernel_rfl) (by as_aux_lemma => kernel_rfl) (fun _ _ _ h => h) (Or.inl ⟨by kernel_rfl, ?_⟩) hS ?_
  rotate_left
  · intro w hSw; have x0 := hSw.1.c0; have x1 := hSw.1.c1; dsimp only at x0 x1; go_simp
    first | done | with_reducible rfl
  refine wpAnyH_ready (rs := [13]) (by as_aux_lemma => kernel_rfl) (by simp) ?_
  refine AllReadyH.cons rfl (fun K hK => ?_) AllReadyH.nil
  go_simp
  go_wp2_with (go_at_call 12; refine (HK1.out _ hS.2.2.2).mono ?_; rintro e u1 ⟨rfl, q1⟩)
  refine hK.out _ _ ?_ (fun hS => ?_)
  · exact ⟨hS.1.on q1, hS.2.1.on q1, hS.2.2.1.on q1, hS.2.2.2.trans (q1.mono hS.2.2.2.size)⟩
  clear hK K
  clear q1
  refine wpAnyH_ready (rs := [18]) (by as_aux_lemma => kernel_rfl) (by simp) ?_
  refine AllReadyH.cons rfl (fun K hK => ?_) AllReadyH.nil
  go_simp
  go_wp2_with (go_at_call 13; refine (HK2.out _).mono ?_; rintro e u2 ⟨rfl, q2⟩)
  refine hK.out _ _ ?_ (fun hS => ?_)
  · exact ⟨hS.1.on q2, hS.2.1.on q2, hS.2.2.1.on q2, hS.2.2.2.trans (q2.mono hS.2.2.2.size)⟩
  clear hK K
  clear q2
  have hKE := HKE.out
  refine wpAnyH_takeE (i := 19) (some 61) (v := ?_) rfl rfl (by as_aux_lemma => kernel_rfl) (by as_aux_lemma => kernel_rfl) (by as_aux_lemma => kernel_rfl) (fun _ _ _ h => h) (Or.inl ⟨by kernel_rfl, ?_⟩) hS ?_
  rotate_left
  · intro w hSw; skip; go_simp
    first | done | with_reducible rfl
  clear hKE
  refine wpAnyH_takeE (i := 20) (some 62) (v := ?_) rfl rfl (by as_aux_lemma => kernel_rfl) (by as_aux_lemma => kernel_rfl) (by as_aux_lemma => kernel_rfl) (fun _ _ _ h => h) (Or.inl ⟨by kernel_rfl, ?_⟩) hS ?_
  rotate_left
  · intro w hSw; skip; go_simp
    first | done | with_reducible rfl
  refine wpAnyH_takeE (i := 21) (some 63) (v := ?_) rfl rfl (by as_aux_lemma => kernel_rfl) (by as_aux_lemma => kernel_rfl) (by as_aux_lemma => kernel_rfl) (fun _ _ _ h => h) (Or.inl ⟨by kernel_rfl, ?_⟩) hS ?_
  rotate_left
  · intro w hSw; skip; go_simp
    first | done | with_reducible rfl
  refine wpAnyH_ready (rs := [22]) (by as_aux_lemma => kernel_rfl) (by simp) ?_
  refine AllReadyH.cons rfl (fun K hK => ?_) AllReadyH.nil
  go_simp
  go_wp2_with (go_at_call 7; refine (HA.out _ hS.2.2.2).mono ?_; rintro e u3 ⟨rfl, q3⟩)
  refine hK.out _ _ ?_ (fun hS => ?_)
  · exact ⟨hS.1.on q3, hS.2.1.on q3, hS.2.2.1.on q3, hS.2.2.2.trans (q3.mono hS.2.2.2.size)⟩
  clear hK K
  clear q3
  refine wpAnyH_takeE (i := 23) (some 65) (v := ?_) rfl rfl (by as_aux_lemma => kernel_rfl) (by as_aux_lemma => kernel_rfl) (by as_aux_lemma => kernel_rfl) (fun _ _ _ h => h) (Or.inl ⟨by kernel_rfl, ?_⟩) hS ?_
  rotate_left
  · intro w hSw; skip; go_simp
    first | done | with_reducible rfl
  refine wpAnyH_takeE (i := 24) (some 6) (v := ?_) rfl rfl (by as_aux_lemma => kernel_rfl) (by as_aux_lemma => kernel_rfl) (by as_aux_lemma => kernel_rfl) (fun _ _ _ h => h) (Or.inl ⟨by kernel_rfl, ?_⟩) hS ?_
  rotate_left
  · intro w hSw; skip; go_simp
    first | done | with_reducible rfl
  have h5 := Lib.hid hS.2.2.2
  clear hS
  refine wpAnyH_done (by kernel_rfl) ?_ _
  go_simp
  go_wp2
  go_ret
  exact ⟨by simp, h5.out⟩

theorem ents_walk (s : Snd) (o keep : Int) (ht : -9223372036854775808 ≤ s.t ∧ s.t ≤ 9223372036854775807) (hk : -9223372036854775808 ≤ keep ∧ keep ≤ 9223372036854775807) (W : World) (hv : VarsOk W.heap.size W) :
    Calls Tryd.prog 4 #[.agg #[.string s.r, .string s.k, .string s.v, .int .i64 s.t], .int .u16 o, .int .i64 keep] W fun e w' => e = .returned (.bool true) ∧ Below W.heap.size W w' := by
  by_cases h1 : 20000 < s.r.size
  · exact ents_a s o keep h1 W hv
  by_cases h2 : 20000 < s.k.size
  · exact ents_b s o keep h1 h2 W hv
  by_cases h3 : 20000 < s.v.size
  · exact ents_c s o keep h1 h2 h3 W hv
  · exact ents_d s o keep h1 h2 h3 ht hk W hv

end Go.Proofs.YtieepbjngolaoaaDoor
