/-
  The walk of NflogBack: a sending's entry is told again as it was, and an entry's sending, too.
-/
import Derived.Test.YtieepbjngolaoaaDoorNSnd
import Derived.Test.YtieepbjngolaoaaDoorN4
import Derived.Test.YtieepbjngolaoaaDoorEOpen
namespace Go.Proofs.YtieepbjngolaoaaDoor
open Go Go.RowKit

set_option maxRecDepth 100000 in
set_option maxHeartbeats 4000000 in
theorem back_a (s : Snd) (x : Ent) (keep : Int) (h1 : 20000 < s.r.size) (W : World) (hv : VarsOk W.heap.size W) :
    Calls Tryd.prog 6 #[.agg #[.string s.r, .string s.k, .string s.v, .int .i64 s.t], .agg #[.string x.k, .int .i64 x.t, .int .u16 x.o, .string x.v, .int .i64 x.u], .int .i64 keep] W fun e w' => e = .returned (.bool true) ∧ Below W.heap.size W w' := by
  have HA : Hid (∀ w, Below W.heap.size W w → Calls Tryd.prog 7 #[] w fun e w' => e = .returned (.bool true) ∧ Below w.heap.size w w') := Lib.hid (fun w hw => fawake_any W.heap.size w hw.size (hv.on hw))
  have d1' := (Below.refl W.heap.size W).alloc (Nat.le_refl _) (.cells #[.string s.r, .string s.k, .string s.v, .int .i64 s.t] 33)
  have d1 := d1'.alloc (by simp) (.cells #[.string x.k, .int .i64 x.t, .int .u16 x.o, .string x.v, .int .i64 x.u] 24)
  have a1 := (SnBlk.new W s).on ((Below.refl _ _).alloc (Nat.le_refl _) (.cells #[.string x.k, .int .i64 x.t, .int .u16 x.o, .string x.v, .int .i64 x.u] 24))
  have b1 := EBlk.new (W.alloc (.cells #[.string s.r, .string s.k, .string s.v, .int .i64 s.t] 33)) x
  rw [World.size_alloc] at b1
  clear d1'
  have s0 := a1.c0; have s1 := a1.c1; have s2 := a1.c2; have s3 := a1.c3
  have x0 := b1.c0; have x1 := b1.c1; have x2 := b1.c2; have x3 := b1.c3; have x4 := b1.c4
  have g1 : (20000 : Int) < (s.r.size : Int) := by omega
  clear h1
  have HQ := Lib.hid d1
  clear d1 a1 b1 hv
  obtain ⟨kx, tx, ox, vx, ux⟩ := x
  obtain ⟨rs, ks, vs, ts⟩ := s
  dsimp only at *
  go_enter Tryd.func6, Tryd.ntmps6
  go_wp2_with (go_at_call 7; refine (HA.out _ HQ.out).mono ?_; rintro e u ⟨rfl, q⟩; replace q := Lib.hid q; refine Hid.out ?_)
  refine Lib.hid ?_
  go_wp2
  go_ret
  exact ⟨by first | rfl | simp, HQ.out.trans (q.out.mono HQ.out.size)⟩
set_option maxRecDepth 100000 in
set_option maxHeartbeats 4000000 in
theorem back_b (s : Snd) (x : Ent) (keep : Int) (h1 : ¬ 20000 < s.r.size) (h2 : 20000 < s.k.size) (W : World) (hv : VarsOk W.heap.size W) :
    Calls Tryd.prog 6 #[.agg #[.string s.r, .string s.k, .string s.v, .int .i64 s.t], .agg #[.string x.k, .int .i64 x.t, .int .u16 x.o, .string x.v, .int .i64 x.u], .int .i64 keep] W fun e w' => e = .returned (.bool true) ∧ Below W.heap.size W w' := by
  have HA : Hid (∀ w, Below W.heap.size W w → Calls Tryd.prog 7 #[] w fun e w' => e = .returned (.bool true) ∧ Below w.heap.size w w') := Lib.hid (fun w hw => fawake_any W.heap.size w hw.size (hv.on hw))
  have d1' := (Below.refl W.heap.size W).alloc (Nat.le_refl _) (.cells #[.string s.r, .string s.k, .string s.v, .int .i64 s.t] 33)
  have d1 := d1'.alloc (by simp) (.cells #[.string x.k, .int .i64 x.t, .int .u16 x.o, .string x.v, .int .i64 x.u] 24)
  have a1 := (SnBlk.new W s).on ((Below.refl _ _).alloc (Nat.le_refl _) (.cells #[.string x.k, .int .i64 x.t, .int .u16 x.o, .string x.v, .int .i64 x.u] 24))
  have b1 := EBlk.new (W.alloc (.cells #[.string s.r, .string s.k, .string s.v, .int .i64 s.t] 33)) x
  rw [World.size_alloc] at b1
  clear d1'
  have s0 := a1.c0; have s1 := a1.c1; have s2 := a1.c2; have s3 := a1.c3
  have x0 := b1.c0; have x1 := b1.c1; have x2 := b1.c2; have x3 := b1.c3; have x4 := b1.c4
  have g1 : ¬ (20000 : Int) < (s.r.size : Int) := by omega
  have g2 : (20000 : Int) < (s.k.size : Int) := by omega
  clear h1 h2
  have HQ := Lib.hid d1
  clear d1 a1 b1 hv
  obtain ⟨kx, tx, ox, vx, ux⟩ := x
  obtain ⟨rs, ks, vs, ts⟩ := s
  dsimp only at *
  go_enter Tryd.func6, Tryd.ntmps6
  go_wp2_with (go_at_call 7; refine (HA.out _ HQ.out).mono ?_; rintro e u ⟨rfl, q⟩; replace q := Lib.hid q; refine Hid.out ?_)
  refine Lib.hid ?_
  go_wp2
  go_ret
  exact ⟨by first | rfl | simp, HQ.out.trans (q.out.mono HQ.out.size)⟩
set_option maxRecDepth 100000 in
set_option maxHeartbeats 4000000 in
theorem back_c (s : Snd) (x : Ent) (keep : Int) (h1 : ¬ 20000 < s.r.size) (h2 : ¬ 20000 < s.k.size) (h3 : 20000 < s.v.size) (W : World) (hv : VarsOk W.heap.size W) :
    Calls Tryd.prog 6 #[.agg #[.string s.r, .string s.k, .string s.v, .int .i64 s.t], .agg #[.string x.k, .int .i64 x.t, .int .u16 x.o, .string x.v, .int .i64 x.u], .int .i64 keep] W fun e w' => e = .returned (.bool true) ∧ Below W.heap.size W w' := by
  have HA : Hid (∀ w, Below W.heap.size W w → Calls Tryd.prog 7 #[] w fun e w' => e = .returned (.bool true) ∧ Below w.heap.size w w') := Lib.hid (fun w hw => fawake_any W.heap.size w hw.size (hv.on hw))
  have d1' := (Below.refl W.heap.size W).alloc (Nat.le_refl _) (.cells #[.string s.r, .string s.k, .string s.v, .int .i64 s.t] 33)
  have d1 := d1'.alloc (by simp) (.cells #[.string x.k, .int .i64 x.t, .int .u16 x.o, .string x.v, .int .i64 x.u] 24)
  have a1 := (SnBlk.new W s).on ((Below.refl _ _).alloc (Nat.le_refl _) (.cells #[.string x.k, .int .i64 x.t, .int .u16 x.o, .string x.v, .int .i64 x.u] 24))
  have b1 := EBlk.new (W.alloc (.cells #[.string s.r, .string s.k, .string s.v, .int .i64 s.t] 33)) x
  rw [World.size_alloc] at b1
  clear d1'
  have s0 := a1.c0; have s1 := a1.c1; have s2 := a1.c2; have s3 := a1.c3
  have x0 := b1.c0; have x1 := b1.c1; have x2 := b1.c2; have x3 := b1.c3; have x4 := b1.c4
  have g1 : ¬ (20000 : Int) < (s.r.size : Int) := by omega
  have g2 : ¬ (20000 : Int) < (s.k.size : Int) := by omega
  have g3 : (20000 : Int) < (s.v.size : Int) := by omega
  clear h1 h2 h3
  have HQ := Lib.hid d1
  clear d1 a1 b1 hv
  obtain ⟨kx, tx, ox, vx, ux⟩ := x
  obtain ⟨rs, ks, vs, ts⟩ := s
  dsimp only at *
  go_enter Tryd.func6, Tryd.ntmps6
  go_wp2_with (go_at_call 7; refine (HA.out _ HQ.out).mono ?_; rintro e u ⟨rfl, q⟩; replace q := Lib.hid q; refine Hid.out ?_)
  refine Lib.hid ?_
  go_wp2
  go_ret
  exact ⟨by first | rfl | simp, HQ.out.trans (q.out.mono HQ.out.size)⟩
set_option maxRecDepth 100000 in
set_option maxHeartbeats 4000000 in
theorem back_d (s : Snd) (x : Ent) (keep : Int) (h1 : ¬ 20000 < s.r.size) (h2 : ¬ 20000 < s.k.size) (h3 : ¬ 20000 < s.v.size) (h4 : 20000 < x.k.size) (W : World) (hv : VarsOk W.heap.size W) :
    Calls Tryd.prog 6 #[.agg #[.string s.r, .string s.k, .string s.v, .int .i64 s.t], .agg #[.string x.k, .int .i64 x.t, .int .u16 x.o, .string x.v, .int .i64 x.u], .int .i64 keep] W fun e w' => e = .returned (.bool true) ∧ Below W.heap.size W w' := by
  have HA : Hid (∀ w, Below W.heap.size W w → Calls Tryd.prog 7 #[] w fun e w' => e = .returned (.bool true) ∧ Below w.heap.size w w') := Lib.hid (fun w hw => fawake_any W.heap.size w hw.size (hv.on hw))
  have d1' := (Below.refl W.heap.size W).alloc (Nat.le_refl _) (.cells #[.string s.r, .string s.k, .string s.v, .int .i64 s.t] 33)
  have d1 := d1'.alloc (by simp) (.cells #[.string x.k, .int .i64 x.t, .int .u16 x.o, .string x.v, .int .i64 x.u] 24)
  have a1 := (SnBlk.new W s).on ((Below.refl _ _).alloc (Nat.le_refl _) (.cells #[.string x.k, .int .i64 x.t, .int .u16 x.o, .string x.v, .int .i64 x.u] 24))
  have b1 := EBlk.new (W.alloc (.cells #[.string s.r, .string s.k, .string s.v, .int .i64 s.t] 33)) x
  rw [World.size_alloc] at b1
  clear d1'
  have s0 := a1.c0; have s1 := a1.c1; have s2 := a1.c2; have s3 := a1.c3
  have x0 := b1.c0; have x1 := b1.c1; have x2 := b1.c2; have x3 := b1.c3; have x4 := b1.c4
  have g1 : ¬ (20000 : Int) < (s.r.size : Int) := by omega
  have g2 : ¬ (20000 : Int) < (s.k.size : Int) := by omega
  have g3 : ¬ (20000 : Int) < (s.v.size : Int) := by omega
  have g4 : (20000 : Int) < (x.k.size : Int) := by omega
  clear h1 h2 h3 h4
  have HQ := Lib.hid d1
  clear d1 a1 b1 hv
  obtain ⟨kx, tx, ox, vx, ux⟩ := x
  obtain ⟨rs, ks, vs, ts⟩ := s
  dsimp only at *
  go_enter Tryd.func6, Tryd.ntmps6
  go_wp2_with (go_at_call 7; refine (HA.out _ HQ.out).mono ?_; rintro e u ⟨rfl, q⟩; replace q := Lib.hid q; refine Hid.out ?_)
  refine Lib.hid ?_
  go_wp2
  go_ret
  exact ⟨by first | rfl | simp, HQ.out.trans (q.out.mono HQ.out.size)⟩
set_option maxRecDepth 100000 in
set_option maxHeartbeats 4000000 in
theorem back_e (s : Snd) (x : Ent) (keep : Int) (h1 : ¬ 20000 < s.r.size) (h2 : ¬ 20000 < s.k.size) (h3 : ¬ 20000 < s.v.size) (h4 : ¬ 20000 < x.k.size) (h5 : okN x = true) (h6 : errN s keep = 0) (ht : -9223372036854775808 ≤ s.t ∧ s.t ≤ 9223372036854775807) (hk : -9223372036854775808 ≤ keep ∧ keep ≤ 9223372036854775807) (W : World) (hv : VarsOk W.heap.size W) :
    Calls Tryd.prog 6 #[.agg #[.string s.r, .string s.k, .string s.v, .int .i64 s.t], .agg #[.string x.k, .int .i64 x.t, .int .u16 x.o, .string x.v, .int .i64 x.u], .int .i64 keep] W fun e w' => e = .returned (.bool true) ∧ Below W.heap.size W w' := by
  have HA : Hid (∀ w, Below W.heap.size W w → Calls Tryd.prog 7 #[] w fun e w' => e = .returned (.bool true) ∧ Below w.heap.size w w') := Lib.hid (fun w hw => fawake_any W.heap.size w hw.size (hv.on hw))
  have d1' := (Below.refl W.heap.size W).alloc (Nat.le_refl _) (.cells #[.string s.r, .string s.k, .string s.v, .int .i64 s.t] 33)
  have d1 := d1'.alloc (by simp) (.cells #[.string x.k, .int .i64 x.t, .int .u16 x.o, .string x.v, .int .i64 x.u] 24)
  have a1 := (SnBlk.new W s).on ((Below.refl _ _).alloc (Nat.le_refl _) (.cells #[.string x.k, .int .i64 x.t, .int .u16 x.o, .string x.v, .int .i64 x.u] 24))
  have b1 := EBlk.new (W.alloc (.cells #[.string s.r, .string s.k, .string s.v, .int .i64 s.t] 33)) x
  rw [World.size_alloc] at b1
  clear d1'
  have s0 := a1.c0; have s1 := a1.c1; have s2 := a1.c2; have s3 := a1.c3
  have x0 := b1.c0; have x1 := b1.c1; have x2 := b1.c2; have x3 := b1.c3; have x4 := b1.c4
  have g1 : ¬ (20000 : Int) < (s.r.size : Int) := by omega
  have g2 : ¬ (20000 : Int) < (s.k.size : Int) := by omega
  have g3 : ¬ (20000 : Int) < (s.v.size : Int) := by omega
  have g4 : ¬ (20000 : Int) < (x.k.size : Int) := by omega
  have HO1 : Hid (∀ w, Below W.heap.size W w → Calls Tryd.prog 14 #[.agg #[.string x.k, .int .i64 x.t, .int .u16 x.o, .string x.v, .int .i64 x.u]] w fun e w' => e = .returned (.tuple #[.agg #[.string (ofN x).r, .string (ofN x).k, .string (ofN x).v, .int .i64 (ofN x).t], .bool (true)]) ∧ Below w.heap.size w w') := Lib.hid (fun w hw => by
    have := fOf_any x (by omega) W.heap.size w hw.size (hv.on hw)
    rw [h5] at this
    exact this)
  have hin := (okN_iff x).1 h5
  have hsh := rdK_short (cutN x.k) x
  have hcs := cutN_short x.k
  have HE1 : Hid (∀ w, Below W.heap.size W w → Calls Tryd.prog 10 #[.agg #[.string (ofN x).r, .string (ofN x).k, .string (ofN x).v, .int .i64 (ofN x).t], .int .u16 x.o, .int .i64 (keepN x)] w fun e w' => e = .returned (.tuple #[.agg #[.string x.k, .int .i64 x.t, .int .u16 x.o, .string x.v, .int .i64 x.u], .int .i64 0]) ∧ Below w.heap.size w w') := Lib.hid (fun w hw => by
    have := fEntry_any (ofN x) x.o (keepN x) W.heap.size w hw.size (hv.on hw) (by rw [ofN_ok h5]; omega) (by rw [ofN_ok h5]; omega)
    rw [ofN_ok h5] at this ⊢
    rw [hin.2.1, hin.2.2] at this
    exact this)
  have hR1 := fun w => run_neE x x w
  rw [eqEn_refl] at hR1
  have HR1 := Lib.hid hR1
  obtain ⟨kp, hkp⟩ : ∃ kp, keepN x = kp := ⟨_, rfl⟩
  rw [hkp] at HE1
  have hkq : IntKind.i64.wrap (x.u - x.t) = kp := hkp
  clear hin hsh hcs hkp hR1
  generalize ofN x = A at *
  have HE2 : Hid (∀ w, Below W.heap.size W w → Calls Tryd.prog 10 #[.agg #[.string s.r, .string s.k, .string s.v, .int .i64 s.t], .int .u16 3, .int .i64 keep] w fun e w' => e = .returned (.tuple #[.agg #[.string (ansN s 3 keep).k, .int .i64 (ansN s 3 keep).t, .int .u16 (ansN s 3 keep).o, .string (ansN s 3 keep).v, .int .i64 (ansN s 3 keep).u], .int .i64 (errN s keep)]) ∧ Below w.heap.size w w') := Lib.hid (fun w hw => fEntry_any s 3 keep W.heap.size w hw.size (hv.on hw) (by omega) (by omega))
  obtain ⟨k1, k2, k3⟩ := back_ok 3 ht hk h6
  rw [h6, ansN_ok h6] at HE2
  have hky : (entN s 3 keep).k.size ≤ 1048576 := by
    have h7 := k3
    unfold checkEn at h7
    split at h7
    · exact absurd h7 (by decide)
    · omega
  generalize entN s 3 keep = Y at *
  have HO2 : Hid (∀ w, Below W.heap.size W w → Calls Tryd.prog 14 #[.agg #[.string Y.k, .int .i64 Y.t, .int .u16 Y.o, .string Y.v, .int .i64 Y.u]] w fun e w' => e = .returned (.tuple #[.agg #[.string s.r, .string s.k, .string s.v, .int .i64 s.t], .bool true]) ∧ Below w.heap.size w w') := Lib.hid (fun w hw => by
    have := fOf_any Y hky W.heap.size w hw.size (hv.on hw)
    rw [k1, k2] at this
    exact this)
  have HC : Hid (∀ w, Calls Tryd.prog 16 #[.agg #[.string Y.k, .int .i64 Y.t, .int .u16 Y.o, .string Y.v, .int .i64 Y.u]] w fun e w' => e = .returned (.int .i64 0) ∧ Below w.heap.size w w') := Lib.hid (fun w => by
    have := eCheck_any Y w
    rw [k3] at this
    exact this)
  have hR2 := fun w => run_eqN s s w
  rw [eqSn_refl] at hR2
  have HR2 := Lib.hid hR2
  clear k1 k2 k3 hky hR2 ht hk
  have HZ := Lib.hid (And.intro a1 (And.intro b1 d1))
  clear h1 h2 h3 h4 h5 h6 hv a1 b1 d1
  obtain ⟨kx, tx, ox, vx, ux⟩ := x
  obtain ⟨rs, ks, vs, ts⟩ := s
  dsimp only at *
  go_enter Tryd.func6, Tryd.ntmps6
  go_wp2_with (go_at_call 14; refine (HO1.out _ HZ.out.2.2).mono ?_; rintro e u1 ⟨rfl, q1⟩; refine Hid.out ?_)
  refine Lib.hid ?_
  obtain ⟨a1, b1, d1⟩ := HZ.out
  have qa := (Below.refl u1.heap.size u1).alloc (Nat.le_refl _) (.cells #[.string A.r, .string A.k, .string A.v, .int .i64 A.t] 33)
  have e1 := SnBlk.new u1 A
  have a2 := (a1.on q1).on qa
  have b2 := (b1.on q1).on qa
  have d2 := d1.trans (q1.mono d1.size)
  have d3 := d2.trans (qa.mono d2.size)
  clear x0 x1 x2 x3 x4 s0 s1 s2 s3 g1 g2 g3 g4 HZ a1 b1 d1 q1 qa d2 HO1
  have x0 := b2.c0; have x1 := b2.c1; have x2 := b2.c2; have x3 := b2.c3; have x4 := b2.c4
  have s0 := a2.c0; have s1 := a2.c1; have s2 := a2.c2; have s3 := a2.c3
  have y0 := e1.c0; have y1 := e1.c1; have y2 := e1.c2; have y3 := e1.c3
  dsimp only at x0 x1 x2 x3 x4 s0 s1 s2 s3
  have HZ := Lib.hid (And.intro a2 (And.intro b2 d3))
  clear a2 b2 d3 e1
  go_wp2_with (go_at_call 10; refine (HE1.out _ HZ.out.2.2).mono ?_; rintro e u2 ⟨rfl, q2⟩; refine Hid.out ?_)
  refine Lib.hid ?_
  obtain ⟨a1, b1, d1⟩ := HZ.out
  have qa := (Below.refl u2.heap.size u2).alloc (Nat.le_refl _) (.cells #[.string kx, .int .i64 tx, .int .u16 ox, .string vx, .int .i64 ux] 24)
  have e1 := EBlk.new u2 ⟨kx, tx, ox, vx, ux⟩
  have a2 := (a1.on q2).on qa
  have b2 := (b1.on q2).on qa
  have d2 := d1.trans (q2.mono d1.size)
  have d3 := d2.trans (qa.mono d2.size)
  clear x0 x1 x2 x3 x4 s0 s1 s2 s3 y0 y1 y2 y3 HZ a1 b1 d1 q2 qa d2 HE1
  have x0 := b2.c0; have x1 := b2.c1; have x2 := b2.c2; have x3 := b2.c3; have x4 := b2.c4
  have s0 := a2.c0; have s1 := a2.c1; have s2 := a2.c2; have s3 := a2.c3
  have y0 := e1.c0; have y1 := e1.c1; have y2 := e1.c2; have y3 := e1.c3; have y4 := e1.c4
  dsimp only at x0 x1 x2 x3 x4 s0 s1 s2 s3 y0 y1 y2 y3 y4
  have HZ := Lib.hid (And.intro a2 (And.intro b2 d3))
  have hR1 := HR1.out
  clear a2 b2 d3 e1 HR1
  go_wp2_with (go_at_call 10; refine (HE2.out _ HZ.out.2.2).mono ?_; rintro e u3 ⟨rfl, q3⟩; refine Hid.out ?_)
  refine Lib.hid ?_
  obtain ⟨a1, b1, d1⟩ := HZ.out
  have qa := (Below.refl u3.heap.size u3).alloc (Nat.le_refl _) (.cells #[.string Y.k, .int .i64 Y.t, .int .u16 Y.o, .string Y.v, .int .i64 Y.u] 24)
  have e1 := EBlk.new u3 Y
  have a2 := (a1.on q3).on qa
  have d2 := d1.trans (q3.mono d1.size)
  have d3 := d2.trans (qa.mono d2.size)
  clear x0 x1 x2 x3 x4 s0 s1 s2 s3 y0 y1 y2 y3 y4 hR1 HZ a1 b1 d1 q3 qa d2 HE2
  have y0 := e1.c0; have y1 := e1.c1; have y2 := e1.c2; have y3 := e1.c3; have y4 := e1.c4
  skip
  have HZ := Lib.hid (And.intro a2 (And.intro e1 d3))
  clear a2 e1 d3
  go_wp2_with (go_at_call 14; refine (HO2.out _ HZ.out.2.2).mono ?_; rintro e u4 ⟨rfl, q4⟩; refine Hid.out ?_)
  refine Lib.hid ?_
  obtain ⟨a1, b1, d1⟩ := HZ.out
  have qa := (Below.refl u4.heap.size u4).alloc (Nat.le_refl _) (.cells #[.string rs, .string ks, .string vs, .int .i64 ts] 33)
  have e1 := SnBlk.new u4 ⟨rs, ks, vs, ts⟩
  have a2 := (a1.on q4).on qa
  have b2 := (b1.on q4).on qa
  have d2 := d1.trans (q4.mono d1.size)
  have d3 := d2.trans (qa.mono d2.size)
  clear y0 y1 y2 y3 y4 HZ a1 b1 d1 q4 qa d2 HO2
  have y0 := b2.c0; have y1 := b2.c1; have y2 := b2.c2; have y3 := b2.c3; have y4 := b2.c4
  skip
  have z0 := e1.c0; have z1 := e1.c1; have z2 := e1.c2; have z3 := e1.c3
  have s0 := a2.c0; have s1 := a2.c1; have s2 := a2.c2; have s3 := a2.c3
  dsimp only at s0 s1 s2 s3
  dsimp only at z0 z1 z2 z3
  have hR2 := HR2.out
  try dsimp only at hR2
  have HQ := Lib.hid d3
  clear a2 b2 d3 e1 HR2
  go_wp2_with (go_at_call 16; refine (HC.out _).mono ?_; rintro e u5 ⟨rfl, q5⟩; replace q5 := Lib.hid q5; refine Hid.out ?_)
  refine Lib.hid ?_
  have HQ2 := Lib.hid (HQ.out.trans (q5.out.mono HQ.out.size))
  clear HQ q5 y0 y1 y2 y3 y4 z0 z1 z2 z3 s0 s1 s2 s3 hR2 HC
  go_wp2_with (go_at_call 7; refine (HA.out _ HQ2.out).mono ?_; rintro e u ⟨rfl, q⟩; replace q := Lib.hid q; refine Hid.out ?_)
  refine Lib.hid ?_
  go_wp2
  go_ret
  exact ⟨by first | rfl | simp, HQ2.out.trans (q.out.mono HQ2.out.size)⟩
set_option maxRecDepth 100000 in
set_option maxHeartbeats 4000000 in
theorem back_f (s : Snd) (x : Ent) (keep : Int) (h1 : ¬ 20000 < s.r.size) (h2 : ¬ 20000 < s.k.size) (h3 : ¬ 20000 < s.v.size) (h4 : ¬ 20000 < x.k.size) (h5 : okN x = true) (h6 : errN s keep ≠ 0) (W : World) (hv : VarsOk W.heap.size W) :
    Calls Tryd.prog 6 #[.agg #[.string s.r, .string s.k, .string s.v, .int .i64 s.t], .agg #[.string x.k, .int .i64 x.t, .int .u16 x.o, .string x.v, .int .i64 x.u], .int .i64 keep] W fun e w' => e = .returned (.bool true) ∧ Below W.heap.size W w' := by
  have HA : Hid (∀ w, Below W.heap.size W w → Calls Tryd.prog 7 #[] w fun e w' => e = .returned (.bool true) ∧ Below w.heap.size w w') := Lib.hid (fun w hw => fawake_any W.heap.size w hw.size (hv.on hw))
  have d1' := (Below.refl W.heap.size W).alloc (Nat.le_refl _) (.cells #[.string s.r, .string s.k, .string s.v, .int .i64 s.t] 33)
  have d1 := d1'.alloc (by simp) (.cells #[.string x.k, .int .i64 x.t, .int .u16 x.o, .string x.v, .int .i64 x.u] 24)
  have a1 := (SnBlk.new W s).on ((Below.refl _ _).alloc (Nat.le_refl _) (.cells #[.string x.k, .int .i64 x.t, .int .u16 x.o, .string x.v, .int .i64 x.u] 24))
  have b1 := EBlk.new (W.alloc (.cells #[.string s.r, .string s.k, .string s.v, .int .i64 s.t] 33)) x
  rw [World.size_alloc] at b1
  clear d1'
  have s0 := a1.c0; have s1 := a1.c1; have s2 := a1.c2; have s3 := a1.c3
  have x0 := b1.c0; have x1 := b1.c1; have x2 := b1.c2; have x3 := b1.c3; have x4 := b1.c4
  have g1 : ¬ (20000 : Int) < (s.r.size : Int) := by omega
  have g2 : ¬ (20000 : Int) < (s.k.size : Int) := by omega
  have g3 : ¬ (20000 : Int) < (s.v.size : Int) := by omega
  have g4 : ¬ (20000 : Int) < (x.k.size : Int) := by omega
  have HO1 : Hid (∀ w, Below W.heap.size W w → Calls Tryd.prog 14 #[.agg #[.string x.k, .int .i64 x.t, .int .u16 x.o, .string x.v, .int .i64 x.u]] w fun e w' => e = .returned (.tuple #[.agg #[.string (ofN x).r, .string (ofN x).k, .string (ofN x).v, .int .i64 (ofN x).t], .bool (true)]) ∧ Below w.heap.size w w') := Lib.hid (fun w hw => by
    have := fOf_any x (by omega) W.heap.size w hw.size (hv.on hw)
    rw [h5] at this
    exact this)
  have hin := (okN_iff x).1 h5
  have hsh := rdK_short (cutN x.k) x
  have hcs := cutN_short x.k
  have HE1 : Hid (∀ w, Below W.heap.size W w → Calls Tryd.prog 10 #[.agg #[.string (ofN x).r, .string (ofN x).k, .string (ofN x).v, .int .i64 (ofN x).t], .int .u16 x.o, .int .i64 (keepN x)] w fun e w' => e = .returned (.tuple #[.agg #[.string x.k, .int .i64 x.t, .int .u16 x.o, .string x.v, .int .i64 x.u], .int .i64 0]) ∧ Below w.heap.size w w') := Lib.hid (fun w hw => by
    have := fEntry_any (ofN x) x.o (keepN x) W.heap.size w hw.size (hv.on hw) (by rw [ofN_ok h5]; omega) (by rw [ofN_ok h5]; omega)
    rw [ofN_ok h5] at this ⊢
    rw [hin.2.1, hin.2.2] at this
    exact this)
  have hR1 := fun w => run_neE x x w
  rw [eqEn_refl] at hR1
  have HR1 := Lib.hid hR1
  obtain ⟨kp, hkp⟩ : ∃ kp, keepN x = kp := ⟨_, rfl⟩
  rw [hkp] at HE1
  have hkq : IntKind.i64.wrap (x.u - x.t) = kp := hkp
  clear hin hsh hcs hkp hR1
  generalize ofN x = A at *
  have HE2 : Hid (∀ w, Below W.heap.size W w → Calls Tryd.prog 10 #[.agg #[.string s.r, .string s.k, .string s.v, .int .i64 s.t], .int .u16 3, .int .i64 keep] w fun e w' => e = .returned (.tuple #[.agg #[.string (ansN s 3 keep).k, .int .i64 (ansN s 3 keep).t, .int .u16 (ansN s 3 keep).o, .string (ansN s 3 keep).v, .int .i64 (ansN s 3 keep).u], .int .i64 (errN s keep)]) ∧ Below w.heap.size w w') := Lib.hid (fun w hw => fEntry_any s 3 keep W.heap.size w hw.size (hv.on hw) (by omega) (by omega))
  rw [ansN_no h6] at HE2
  generalize hE : errN s keep = E at *
  have hEb : ((E : Int) != 0) = true := by simpa using h6
  have hEc : ((E : Int) == 0) = false := by simpa using h6
  clear hE
  have HO2 : Hid (∀ w, Below W.heap.size W w → Calls Tryd.prog 14 #[.agg #[.string ⟨#[]⟩, .int .i64 0, .int .u16 0, .string ⟨#[]⟩, .int .i64 0]] w fun e w' => e = .returned (.tuple #[.agg #[.string ⟨#[]⟩, .string ⟨#[]⟩, .string ⟨#[]⟩, .int .i64 0], .bool false]) ∧ Below w.heap.size w w') := Lib.hid (fun w hw => by
    have := fOf_any zeroE (Nat.zero_le _) W.heap.size w hw.size (hv.on hw)
    rw [ofN_no okN_zero, okN_zero] at this
    exact this)
  have hR2 := fun w => run_eqE zeroE zeroE w
  rw [eqEn_refl] at hR2
  have HR2 := Lib.hid hR2
  dsimp only [zeroE] at HE2 HR2
  clear hR2
  have HZ := Lib.hid (And.intro a1 (And.intro b1 d1))
  clear h1 h2 h3 h4 h5 h6 hv a1 b1 d1
  obtain ⟨kx, tx, ox, vx, ux⟩ := x
  obtain ⟨rs, ks, vs, ts⟩ := s
  dsimp only at *
  go_enter Tryd.func6, Tryd.ntmps6
  go_wp2_with (go_at_call 14; refine (HO1.out _ HZ.out.2.2).mono ?_; rintro e u1 ⟨rfl, q1⟩; refine Hid.out ?_)
  refine Lib.hid ?_
  obtain ⟨a1, b1, d1⟩ := HZ.out
  have qa := (Below.refl u1.heap.size u1).alloc (Nat.le_refl _) (.cells #[.string A.r, .string A.k, .string A.v, .int .i64 A.t] 33)
  have e1 := SnBlk.new u1 A
  have a2 := (a1.on q1).on qa
  have b2 := (b1.on q1).on qa
  have d2 := d1.trans (q1.mono d1.size)
  have d3 := d2.trans (qa.mono d2.size)
  clear x0 x1 x2 x3 x4 s0 s1 s2 s3 g1 g2 g3 g4 HZ a1 b1 d1 q1 qa d2 HO1
  have x0 := b2.c0; have x1 := b2.c1; have x2 := b2.c2; have x3 := b2.c3; have x4 := b2.c4
  have s0 := a2.c0; have s1 := a2.c1; have s2 := a2.c2; have s3 := a2.c3
  have y0 := e1.c0; have y1 := e1.c1; have y2 := e1.c2; have y3 := e1.c3
  dsimp only at x0 x1 x2 x3 x4 s0 s1 s2 s3
  have HZ := Lib.hid (And.intro a2 (And.intro b2 d3))
  clear a2 b2 d3 e1
  go_wp2_with (go_at_call 10; refine (HE1.out _ HZ.out.2.2).mono ?_; rintro e u2 ⟨rfl, q2⟩; refine Hid.out ?_)
  refine Lib.hid ?_
  obtain ⟨a1, b1, d1⟩ := HZ.out
  have qa := (Below.refl u2.heap.size u2).alloc (Nat.le_refl _) (.cells #[.string kx, .int .i64 tx, .int .u16 ox, .string vx, .int .i64 ux] 24)
  have e1 := EBlk.new u2 ⟨kx, tx, ox, vx, ux⟩
  have a2 := (a1.on q2).on qa
  have b2 := (b1.on q2).on qa
  have d2 := d1.trans (q2.mono d1.size)
  have d3 := d2.trans (qa.mono d2.size)
  clear x0 x1 x2 x3 x4 s0 s1 s2 s3 y0 y1 y2 y3 HZ a1 b1 d1 q2 qa d2 HE1
  have x0 := b2.c0; have x1 := b2.c1; have x2 := b2.c2; have x3 := b2.c3; have x4 := b2.c4
  have s0 := a2.c0; have s1 := a2.c1; have s2 := a2.c2; have s3 := a2.c3
  have y0 := e1.c0; have y1 := e1.c1; have y2 := e1.c2; have y3 := e1.c3; have y4 := e1.c4
  dsimp only at x0 x1 x2 x3 x4 s0 s1 s2 s3 y0 y1 y2 y3 y4
  have HZ := Lib.hid (And.intro a2 (And.intro b2 d3))
  have hR1 := HR1.out
  clear a2 b2 d3 e1 HR1
  go_wp2_with (go_at_call 10; refine (HE2.out _ HZ.out.2.2).mono ?_; rintro e u3 ⟨rfl, q3⟩; refine Hid.out ?_)
  refine Lib.hid ?_
  obtain ⟨a1, b1, d1⟩ := HZ.out
  have qa := (Below.refl u3.heap.size u3).alloc (Nat.le_refl _) (.cells #[.string ⟨#[]⟩, .int .i64 0, .int .u16 0, .string ⟨#[]⟩, .int .i64 0] 24)
  have e1 := EBlk.new u3 zeroE
  have a2 := (a1.on q3).on qa
  have d2 := d1.trans (q3.mono d1.size)
  have d3 := d2.trans (qa.mono d2.size)
  clear x0 x1 x2 x3 x4 s0 s1 s2 s3 y0 y1 y2 y3 y4 hR1 HZ a1 b1 d1 q3 qa d2 HE2
  have y0 := e1.c0; have y1 := e1.c1; have y2 := e1.c2; have y3 := e1.c3; have y4 := e1.c4
  dsimp only [zeroE] at y0 y1 y2 y3 y4
  have HZ := Lib.hid (And.intro a2 (And.intro e1 d3))
  clear a2 e1 d3
  go_wp2_with (go_at_call 14; refine (HO2.out _ HZ.out.2.2).mono ?_; rintro e u4 ⟨rfl, q4⟩; refine Hid.out ?_)
  refine Lib.hid ?_
  obtain ⟨a1, b1, d1⟩ := HZ.out
  have qa := (Below.refl u4.heap.size u4).alloc (Nat.le_refl _) (.cells #[.string ⟨#[]⟩, .string ⟨#[]⟩, .string ⟨#[]⟩, .int .i64 0] 33)
  have e1 := SnBlk.new u4 zeroN
  have a2 := (a1.on q4).on qa
  have b2 := (b1.on q4).on qa
  have d2 := d1.trans (q4.mono d1.size)
  have d3 := d2.trans (qa.mono d2.size)
  clear y0 y1 y2 y3 y4 HZ a1 b1 d1 q4 qa d2 HO2
  have y0 := b2.c0; have y1 := b2.c1; have y2 := b2.c2; have y3 := b2.c3; have y4 := b2.c4
  dsimp only [zeroE] at y0 y1 y2 y3 y4
  have z0 := e1.c0; have z1 := e1.c1; have z2 := e1.c2; have z3 := e1.c3
  have s0 := a2.c0; have s1 := a2.c1; have s2 := a2.c2; have s3 := a2.c3
  dsimp only at s0 s1 s2 s3
  dsimp only [zeroN] at z0 z1 z2 z3
  have hR2 := HR2.out
  try dsimp only at hR2
  have HQ := Lib.hid d3
  clear a2 b2 d3 e1 HR2
  go_wp2_with (go_at_call 7; refine (HA.out _ HQ.out).mono ?_; rintro e u ⟨rfl, q⟩; replace q := Lib.hid q; refine Hid.out ?_)
  refine Lib.hid ?_
  go_wp2
  go_ret
  exact ⟨by first | rfl | simp, HQ.out.trans (q.out.mono HQ.out.size)⟩
set_option maxRecDepth 100000 in
set_option maxHeartbeats 4000000 in
theorem back_g (s : Snd) (x : Ent) (keep : Int) (h1 : ¬ 20000 < s.r.size) (h2 : ¬ 20000 < s.k.size) (h3 : ¬ 20000 < s.v.size) (h4 : ¬ 20000 < x.k.size) (h5 : okN x = false) (h6 : errN s keep = 0) (ht : -9223372036854775808 ≤ s.t ∧ s.t ≤ 9223372036854775807) (hk : -9223372036854775808 ≤ keep ∧ keep ≤ 9223372036854775807) (W : World) (hv : VarsOk W.heap.size W) :
    Calls Tryd.prog 6 #[.agg #[.string s.r, .string s.k, .string s.v, .int .i64 s.t], .agg #[.string x.k, .int .i64 x.t, .int .u16 x.o, .string x.v, .int .i64 x.u], .int .i64 keep] W fun e w' => e = .returned (.bool true) ∧ Below W.heap.size W w' := by
  have HA : Hid (∀ w, Below W.heap.size W w → Calls Tryd.prog 7 #[] w fun e w' => e = .returned (.bool true) ∧ Below w.heap.size w w') := Lib.hid (fun w hw => fawake_any W.heap.size w hw.size (hv.on hw))
  have d1' := (Below.refl W.heap.size W).alloc (Nat.le_refl _) (.cells #[.string s.r, .string s.k, .string s.v, .int .i64 s.t] 33)
  have d1 := d1'.alloc (by simp) (.cells #[.string x.k, .int .i64 x.t, .int .u16 x.o, .string x.v, .int .i64 x.u] 24)
  have a1 := (SnBlk.new W s).on ((Below.refl _ _).alloc (Nat.le_refl _) (.cells #[.string x.k, .int .i64 x.t, .int .u16 x.o, .string x.v, .int .i64 x.u] 24))
  have b1 := EBlk.new (W.alloc (.cells #[.string s.r, .string s.k, .string s.v, .int .i64 s.t] 33)) x
  rw [World.size_alloc] at b1
  clear d1'
  have s0 := a1.c0; have s1 := a1.c1; have s2 := a1.c2; have s3 := a1.c3
  have x0 := b1.c0; have x1 := b1.c1; have x2 := b1.c2; have x3 := b1.c3; have x4 := b1.c4
  have g1 : ¬ (20000 : Int) < (s.r.size : Int) := by omega
  have g2 : ¬ (20000 : Int) < (s.k.size : Int) := by omega
  have g3 : ¬ (20000 : Int) < (s.v.size : Int) := by omega
  have g4 : ¬ (20000 : Int) < (x.k.size : Int) := by omega
  have HO1 : Hid (∀ w, Below W.heap.size W w → Calls Tryd.prog 14 #[.agg #[.string x.k, .int .i64 x.t, .int .u16 x.o, .string x.v, .int .i64 x.u]] w fun e w' => e = .returned (.tuple #[.agg #[.string (ofN x).r, .string (ofN x).k, .string (ofN x).v, .int .i64 (ofN x).t], .bool (false)]) ∧ Below w.heap.size w w') := Lib.hid (fun w hw => by
    have := fOf_any x (by omega) W.heap.size w hw.size (hv.on hw)
    rw [h5] at this
    exact this)
  generalize ofN x = A at *
  have HE2 : Hid (∀ w, Below W.heap.size W w → Calls Tryd.prog 10 #[.agg #[.string s.r, .string s.k, .string s.v, .int .i64 s.t], .int .u16 3, .int .i64 keep] w fun e w' => e = .returned (.tuple #[.agg #[.string (ansN s 3 keep).k, .int .i64 (ansN s 3 keep).t, .int .u16 (ansN s 3 keep).o, .string (ansN s 3 keep).v, .int .i64 (ansN s 3 keep).u], .int .i64 (errN s keep)]) ∧ Below w.heap.size w w') := Lib.hid (fun w hw => fEntry_any s 3 keep W.heap.size w hw.size (hv.on hw) (by omega) (by omega))
  obtain ⟨k1, k2, k3⟩ := back_ok 3 ht hk h6
  rw [h6, ansN_ok h6] at HE2
  have hky : (entN s 3 keep).k.size ≤ 1048576 := by
    have h7 := k3
    unfold checkEn at h7
    split at h7
    · exact absurd h7 (by decide)
    · omega
  generalize entN s 3 keep = Y at *
  have HO2 : Hid (∀ w, Below W.heap.size W w → Calls Tryd.prog 14 #[.agg #[.string Y.k, .int .i64 Y.t, .int .u16 Y.o, .string Y.v, .int .i64 Y.u]] w fun e w' => e = .returned (.tuple #[.agg #[.string s.r, .string s.k, .string s.v, .int .i64 s.t], .bool true]) ∧ Below w.heap.size w w') := Lib.hid (fun w hw => by
    have := fOf_any Y hky W.heap.size w hw.size (hv.on hw)
    rw [k1, k2] at this
    exact this)
  have HC : Hid (∀ w, Calls Tryd.prog 16 #[.agg #[.string Y.k, .int .i64 Y.t, .int .u16 Y.o, .string Y.v, .int .i64 Y.u]] w fun e w' => e = .returned (.int .i64 0) ∧ Below w.heap.size w w') := Lib.hid (fun w => by
    have := eCheck_any Y w
    rw [k3] at this
    exact this)
  have hR2 := fun w => run_eqN s s w
  rw [eqSn_refl] at hR2
  have HR2 := Lib.hid hR2
  clear k1 k2 k3 hky hR2 ht hk
  have HZ := Lib.hid (And.intro a1 (And.intro b1 d1))
  clear h1 h2 h3 h4 h5 h6 hv a1 b1 d1
  obtain ⟨kx, tx, ox, vx, ux⟩ := x
  obtain ⟨rs, ks, vs, ts⟩ := s
  dsimp only at *
  go_enter Tryd.func6, Tryd.ntmps6
  go_wp2_with (go_at_call 14; refine (HO1.out _ HZ.out.2.2).mono ?_; rintro e u1 ⟨rfl, q1⟩; refine Hid.out ?_)
  refine Lib.hid ?_
  obtain ⟨a1, b1, d1⟩ := HZ.out
  have qa := (Below.refl u1.heap.size u1).alloc (Nat.le_refl _) (.cells #[.string A.r, .string A.k, .string A.v, .int .i64 A.t] 33)
  have e1 := SnBlk.new u1 A
  have a2 := (a1.on q1).on qa
  have b2 := (b1.on q1).on qa
  have d2 := d1.trans (q1.mono d1.size)
  have d3 := d2.trans (qa.mono d2.size)
  clear x0 x1 x2 x3 x4 s0 s1 s2 s3 g1 g2 g3 g4 HZ a1 b1 d1 q1 qa d2 HO1
  have x0 := b2.c0; have x1 := b2.c1; have x2 := b2.c2; have x3 := b2.c3; have x4 := b2.c4
  have s0 := a2.c0; have s1 := a2.c1; have s2 := a2.c2; have s3 := a2.c3
  have y0 := e1.c0; have y1 := e1.c1; have y2 := e1.c2; have y3 := e1.c3
  dsimp only at x0 x1 x2 x3 x4 s0 s1 s2 s3
  have HZ := Lib.hid (And.intro a2 (And.intro b2 d3))
  clear a2 b2 d3 e1
  go_wp2_with (go_at_call 10; refine (HE2.out _ HZ.out.2.2).mono ?_; rintro e u3 ⟨rfl, q3⟩; refine Hid.out ?_)
  refine Lib.hid ?_
  obtain ⟨a1, b1, d1⟩ := HZ.out
  have qa := (Below.refl u3.heap.size u3).alloc (Nat.le_refl _) (.cells #[.string Y.k, .int .i64 Y.t, .int .u16 Y.o, .string Y.v, .int .i64 Y.u] 24)
  have e1 := EBlk.new u3 Y
  have a2 := (a1.on q3).on qa
  have d2 := d1.trans (q3.mono d1.size)
  have d3 := d2.trans (qa.mono d2.size)
  clear x0 x1 x2 x3 x4 s0 s1 s2 s3 y0 y1 y2 y3  HZ a1 b1 d1 q3 qa d2 HE2
  have y0 := e1.c0; have y1 := e1.c1; have y2 := e1.c2; have y3 := e1.c3; have y4 := e1.c4
  skip
  have HZ := Lib.hid (And.intro a2 (And.intro e1 d3))
  clear a2 e1 d3
  go_wp2_with (go_at_call 14; refine (HO2.out _ HZ.out.2.2).mono ?_; rintro e u4 ⟨rfl, q4⟩; refine Hid.out ?_)
  refine Lib.hid ?_
  obtain ⟨a1, b1, d1⟩ := HZ.out
  have qa := (Below.refl u4.heap.size u4).alloc (Nat.le_refl _) (.cells #[.string rs, .string ks, .string vs, .int .i64 ts] 33)
  have e1 := SnBlk.new u4 ⟨rs, ks, vs, ts⟩
  have a2 := (a1.on q4).on qa
  have b2 := (b1.on q4).on qa
  have d2 := d1.trans (q4.mono d1.size)
  have d3 := d2.trans (qa.mono d2.size)
  clear y0 y1 y2 y3 y4 HZ a1 b1 d1 q4 qa d2 HO2
  have y0 := b2.c0; have y1 := b2.c1; have y2 := b2.c2; have y3 := b2.c3; have y4 := b2.c4
  skip
  have z0 := e1.c0; have z1 := e1.c1; have z2 := e1.c2; have z3 := e1.c3
  have s0 := a2.c0; have s1 := a2.c1; have s2 := a2.c2; have s3 := a2.c3
  dsimp only at s0 s1 s2 s3
  dsimp only at z0 z1 z2 z3
  have hR2 := HR2.out
  try dsimp only at hR2
  have HQ := Lib.hid d3
  clear a2 b2 d3 e1 HR2
  go_wp2_with (go_at_call 16; refine (HC.out _).mono ?_; rintro e u5 ⟨rfl, q5⟩; replace q5 := Lib.hid q5; refine Hid.out ?_)
  refine Lib.hid ?_
  have HQ2 := Lib.hid (HQ.out.trans (q5.out.mono HQ.out.size))
  clear HQ q5 y0 y1 y2 y3 y4 z0 z1 z2 z3 s0 s1 s2 s3 hR2 HC
  go_wp2_with (go_at_call 7; refine (HA.out _ HQ2.out).mono ?_; rintro e u ⟨rfl, q⟩; replace q := Lib.hid q; refine Hid.out ?_)
  refine Lib.hid ?_
  go_wp2
  go_ret
  exact ⟨by first | rfl | simp, HQ2.out.trans (q.out.mono HQ2.out.size)⟩
set_option maxRecDepth 100000 in
set_option maxHeartbeats 4000000 in
theorem back_h (s : Snd) (x : Ent) (keep : Int) (h1 : ¬ 20000 < s.r.size) (h2 : ¬ 20000 < s.k.size) (h3 : ¬ 20000 < s.v.size) (h4 : ¬ 20000 < x.k.size) (h5 : okN x = false) (h6 : errN s keep ≠ 0) (W : World) (hv : VarsOk W.heap.size W) :
    Calls Tryd.prog 6 #[.agg #[.string s.r, .string s.k, .string s.v, .int .i64 s.t], .agg #[.string x.k, .int .i64 x.t, .int .u16 x.o, .string x.v, .int .i64 x.u], .int .i64 keep] W fun e w' => e = .returned (.bool true) ∧ Below W.heap.size W w' := by
  have HA : Hid (∀ w, Below W.heap.size W w → Calls Tryd.prog 7 #[] w fun e w' => e = .returned (.bool true) ∧ Below w.heap.size w w') := Lib.hid (fun w hw => fawake_any W.heap.size w hw.size (hv.on hw))
  have d1' := (Below.refl W.heap.size W).alloc (Nat.le_refl _) (.cells #[.string s.r, .string s.k, .string s.v, .int .i64 s.t] 33)
  have d1 := d1'.alloc (by simp) (.cells #[.string x.k, .int .i64 x.t, .int .u16 x.o, .string x.v, .int .i64 x.u] 24)
  have a1 := (SnBlk.new W s).on ((Below.refl _ _).alloc (Nat.le_refl _) (.cells #[.string x.k, .int .i64 x.t, .int .u16 x.o, .string x.v, .int .i64 x.u] 24))
  have b1 := EBlk.new (W.alloc (.cells #[.string s.r, .string s.k, .string s.v, .int .i64 s.t] 33)) x
  rw [World.size_alloc] at b1
  clear d1'
  have s0 := a1.c0; have s1 := a1.c1; have s2 := a1.c2; have s3 := a1.c3
  have x0 := b1.c0; have x1 := b1.c1; have x2 := b1.c2; have x3 := b1.c3; have x4 := b1.c4
  have g1 : ¬ (20000 : Int) < (s.r.size : Int) := by omega
  have g2 : ¬ (20000 : Int) < (s.k.size : Int) := by omega
  have g3 : ¬ (20000 : Int) < (s.v.size : Int) := by omega
  have g4 : ¬ (20000 : Int) < (x.k.size : Int) := by omega
  have HO1 : Hid (∀ w, Below W.heap.size W w → Calls Tryd.prog 14 #[.agg #[.string x.k, .int .i64 x.t, .int .u16 x.o, .string x.v, .int .i64 x.u]] w fun e w' => e = .returned (.tuple #[.agg #[.string (ofN x).r, .string (ofN x).k, .string (ofN x).v, .int .i64 (ofN x).t], .bool (false)]) ∧ Below w.heap.size w w') := Lib.hid (fun w hw => by
    have := fOf_any x (by omega) W.heap.size w hw.size (hv.on hw)
    rw [h5] at this
    exact this)
  generalize ofN x = A at *
  have HE2 : Hid (∀ w, Below W.heap.size W w → Calls Tryd.prog 10 #[.agg #[.string s.r, .string s.k, .string s.v, .int .i64 s.t], .int .u16 3, .int .i64 keep] w fun e w' => e = .returned (.tuple #[.agg #[.string (ansN s 3 keep).k, .int .i64 (ansN s 3 keep).t, .int .u16 (ansN s 3 keep).o, .string (ansN s 3 keep).v, .int .i64 (ansN s 3 keep).u], .int .i64 (errN s keep)]) ∧ Below w.heap.size w w') := Lib.hid (fun w hw => fEntry_any s 3 keep W.heap.size w hw.size (hv.on hw) (by omega) (by omega))
  rw [ansN_no h6] at HE2
  generalize hE : errN s keep = E at *
  have hEb : ((E : Int) != 0) = true := by simpa using h6
  have hEc : ((E : Int) == 0) = false := by simpa using h6
  clear hE
  have HO2 : Hid (∀ w, Below W.heap.size W w → Calls Tryd.prog 14 #[.agg #[.string ⟨#[]⟩, .int .i64 0, .int .u16 0, .string ⟨#[]⟩, .int .i64 0]] w fun e w' => e = .returned (.tuple #[.agg #[.string ⟨#[]⟩, .string ⟨#[]⟩, .string ⟨#[]⟩, .int .i64 0], .bool false]) ∧ Below w.heap.size w w') := Lib.hid (fun w hw => by
    have := fOf_any zeroE (Nat.zero_le _) W.heap.size w hw.size (hv.on hw)
    rw [ofN_no okN_zero, okN_zero] at this
    exact this)
  have hR2 := fun w => run_eqE zeroE zeroE w
  rw [eqEn_refl] at hR2
  have HR2 := Lib.hid hR2
  dsimp only [zeroE] at HE2 HR2
  clear hR2
  have HZ := Lib.hid (And.intro a1 (And.intro b1 d1))
  clear h1 h2 h3 h4 h5 h6 hv a1 b1 d1
  obtain ⟨kx, tx, ox, vx, ux⟩ := x
  obtain ⟨rs, ks, vs, ts⟩ := s
  dsimp only at *
  go_enter Tryd.func6, Tryd.ntmps6
  go_wp2_with (go_at_call 14; refine (HO1.out _ HZ.out.2.2).mono ?_; rintro e u1 ⟨rfl, q1⟩; refine Hid.out ?_)
  refine Lib.hid ?_
  obtain ⟨a1, b1, d1⟩ := HZ.out
  have qa := (Below.refl u1.heap.size u1).alloc (Nat.le_refl _) (.cells #[.string A.r, .string A.k, .string A.v, .int .i64 A.t] 33)
  have e1 := SnBlk.new u1 A
  have a2 := (a1.on q1).on qa
  have b2 := (b1.on q1).on qa
  have d2 := d1.trans (q1.mono d1.size)
  have d3 := d2.trans (qa.mono d2.size)
  clear x0 x1 x2 x3 x4 s0 s1 s2 s3 g1 g2 g3 g4 HZ a1 b1 d1 q1 qa d2 HO1
  have x0 := b2.c0; have x1 := b2.c1; have x2 := b2.c2; have x3 := b2.c3; have x4 := b2.c4
  have s0 := a2.c0; have s1 := a2.c1; have s2 := a2.c2; have s3 := a2.c3
  have y0 := e1.c0; have y1 := e1.c1; have y2 := e1.c2; have y3 := e1.c3
  dsimp only at x0 x1 x2 x3 x4 s0 s1 s2 s3
  have HZ := Lib.hid (And.intro a2 (And.intro b2 d3))
  clear a2 b2 d3 e1
  go_wp2_with (go_at_call 10; refine (HE2.out _ HZ.out.2.2).mono ?_; rintro e u3 ⟨rfl, q3⟩; refine Hid.out ?_)
  refine Lib.hid ?_
  obtain ⟨a1, b1, d1⟩ := HZ.out
  have qa := (Below.refl u3.heap.size u3).alloc (Nat.le_refl _) (.cells #[.string ⟨#[]⟩, .int .i64 0, .int .u16 0, .string ⟨#[]⟩, .int .i64 0] 24)
  have e1 := EBlk.new u3 zeroE
  have a2 := (a1.on q3).on qa
  have d2 := d1.trans (q3.mono d1.size)
  have d3 := d2.trans (qa.mono d2.size)
  clear x0 x1 x2 x3 x4 s0 s1 s2 s3 y0 y1 y2 y3  HZ a1 b1 d1 q3 qa d2 HE2
  have y0 := e1.c0; have y1 := e1.c1; have y2 := e1.c2; have y3 := e1.c3; have y4 := e1.c4
  dsimp only [zeroE] at y0 y1 y2 y3 y4
  have HZ := Lib.hid (And.intro a2 (And.intro e1 d3))
  clear a2 e1 d3
  go_wp2_with (go_at_call 14; refine (HO2.out _ HZ.out.2.2).mono ?_; rintro e u4 ⟨rfl, q4⟩; refine Hid.out ?_)
  refine Lib.hid ?_
  obtain ⟨a1, b1, d1⟩ := HZ.out
  have qa := (Below.refl u4.heap.size u4).alloc (Nat.le_refl _) (.cells #[.string ⟨#[]⟩, .string ⟨#[]⟩, .string ⟨#[]⟩, .int .i64 0] 33)
  have e1 := SnBlk.new u4 zeroN
  have a2 := (a1.on q4).on qa
  have b2 := (b1.on q4).on qa
  have d2 := d1.trans (q4.mono d1.size)
  have d3 := d2.trans (qa.mono d2.size)
  clear y0 y1 y2 y3 y4 HZ a1 b1 d1 q4 qa d2 HO2
  have y0 := b2.c0; have y1 := b2.c1; have y2 := b2.c2; have y3 := b2.c3; have y4 := b2.c4
  dsimp only [zeroE] at y0 y1 y2 y3 y4
  have z0 := e1.c0; have z1 := e1.c1; have z2 := e1.c2; have z3 := e1.c3
  have s0 := a2.c0; have s1 := a2.c1; have s2 := a2.c2; have s3 := a2.c3
  dsimp only at s0 s1 s2 s3
  dsimp only [zeroN] at z0 z1 z2 z3
  have hR2 := HR2.out
  try dsimp only at hR2
  have HQ := Lib.hid d3
  clear a2 b2 d3 e1 HR2
  go_wp2_with (go_at_call 7; refine (HA.out _ HQ.out).mono ?_; rintro e u ⟨rfl, q⟩; replace q := Lib.hid q; refine Hid.out ?_)
  refine Lib.hid ?_
  go_wp2
  go_ret
  exact ⟨by first | rfl | simp, HQ.out.trans (q.out.mono HQ.out.size)⟩

theorem back_walk (s : Snd) (x : Ent) (keep : Int) (ht : -9223372036854775808 ≤ s.t ∧ s.t ≤ 9223372036854775807) (hk : -9223372036854775808 ≤ keep ∧ keep ≤ 9223372036854775807) (W : World) (hv : VarsOk W.heap.size W) :
    Calls Tryd.prog 6 #[.agg #[.string s.r, .string s.k, .string s.v, .int .i64 s.t], .agg #[.string x.k, .int .i64 x.t, .int .u16 x.o, .string x.v, .int .i64 x.u], .int .i64 keep] W fun e w' => e = .returned (.bool true) ∧ Below W.heap.size W w' := by
  by_cases h1 : 20000 < s.r.size
  · exact back_a s x keep h1 W hv
  by_cases h2 : 20000 < s.k.size
  · exact back_b s x keep h1 h2 W hv
  by_cases h3 : 20000 < s.v.size
  · exact back_c s x keep h1 h2 h3 W hv
  by_cases h4 : 20000 < x.k.size
  · exact back_d s x keep h1 h2 h3 h4 W hv
  cases h5 : okN x with
  | true =>
    by_cases h6 : errN s keep = 0
    · exact back_e s x keep h1 h2 h3 h4 h5 h6 ht hk W hv
    · exact back_f s x keep h1 h2 h3 h4 h5 h6 W hv
  | false =>
    by_cases h6 : errN s keep = 0
    · exact back_g s x keep h1 h2 h3 h4 h5 h6 ht hk W hv
    · exact back_h s x keep h1 h2 h3 h4 h5 h6 W hv

end Go.Proofs.YtieepbjngolaoaaDoor
