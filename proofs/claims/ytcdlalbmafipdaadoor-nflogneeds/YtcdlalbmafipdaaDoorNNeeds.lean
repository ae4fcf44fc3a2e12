/-
  The walk of NflogNeeds.
-/
import Derived.Test.YtcdlalbmafipdaaDoorN4
import Derived.Test.YtcdlalbmafipdaaDoorN5
namespace Go.Proofs.YtcdlalbmafipdaaDoor
open Go.RowKit

/-- A block of a revision and two times. -/
def SpBlk (w : World) (B : Nat) (rv : ByteArray) (now rep : Int) : Prop := w.heap[B]? = some (.cells #[.string rv, .int .i64 now, .int .i64 rep] 39 (0, 0))
theorem SpBlk.lt {w : World} {B : Nat} {rv : ByteArray} {now rep : Int} (h : SpBlk w B rv now rep) : B < w.heap.size := ltE h
theorem SpBlk.on {w w' : World} {B : Nat} {rv : ByteArray} {now rep : Int} (h : SpBlk w B rv now rep) (hb : Below w.heap.size w w') : SpBlk w' B rv now rep := (hb.block B h.lt).trans h
theorem SpBlk.c0 {w : World} {B : Nat} {rv : ByteArray} {now rep : Int} (h : SpBlk w B rv now rep) : w.cell? ⟨B, 0, none⟩ = some (.string rv) := cellE h
theorem SpBlk.c1 {w : World} {B : Nat} {rv : ByteArray} {now rep : Int} (h : SpBlk w B rv now rep) : w.cell? ⟨B, 1, none⟩ = some (.int .i64 now) := cellE h
theorem SpBlk.c2 {w : World} {B : Nat} {rv : ByteArray} {now rep : Int} (h : SpBlk w B rv now rep) : w.cell? ⟨B, 2, none⟩ = some (.int .i64 rep) := cellE h

set_option maxRecDepth 100000 in
set_option maxHeartbeats 4000000 in
theorem needs_a (x : Ent) (was : Bool) (rv : ByteArray) (now rep : Int) (h1 : 5000 < x.v.size) (W : World) (hv : VarsOk W.heap.size W) :
    Calls Tryd.prog 5 #[.agg #[.string x.k, .int .i64 x.t, .int .u16 x.o, .string x.v, .int .i64 x.u], .bool was, .agg #[.string rv, .int .i64 now, .int .i64 rep]] W fun e w' => e = .returned (.bool true) ∧ Below W.heap.size W w' := by
  have HA : Hid (∀ w, Below W.heap.size W w → Calls Tryd.prog 9 #[] w fun e w' => e = .returned (.bool true) ∧ Below w.heap.size w w') := Lib.hid (fun w hw => fawake_any W.heap.size w hw.size (hv.on hw))
  have d1 := (Below.refl W.heap.size W).alloc (Nat.le_refl _) (.cells #[.string x.k, .int .i64 x.t, .int .u16 x.o, .string x.v, .int .i64 x.u] 27)
  have d2 := d1.alloc (by simp) (.cells #[.string rv, .int .i64 now, .int .i64 rep] 39)
  have b1 := (EBlk.new W x).on ((Below.refl _ _).alloc (Nat.le_refl _) (.cells #[.string rv, .int .i64 now, .int .i64 rep] 39))
  have b2 : SpBlk ((W.alloc (.cells #[.string x.k, .int .i64 x.t, .int .u16 x.o, .string x.v, .int .i64 x.u] 27)).alloc (.cells #[.string rv, .int .i64 now, .int .i64 rep] 39)) (W.alloc (.cells #[.string x.k, .int .i64 x.t, .int .u16 x.o, .string x.v, .int .i64 x.u] 27)).heap.size rv now rep := newE _ _
  rw [World.size_alloc] at b2
  have x3 := b1.c3; have y0 := b2.c0
  have g1 : (5000 : Int) < (x.v.size : Int) := by omega
  clear h1
  have HQ := Lib.hid d2
  clear d1 d2 b1 b2 hv
  obtain ⟨kx, tx, ox, vx, ux⟩ := x
  dsimp only at *
  go_enter Tryd.func5, Tryd.ntmps5
  go_wp2_with (go_at_call 9; refine (HA.out _ HQ.out).mono ?_; rintro e u ⟨rfl, q⟩; replace q := Lib.hid q; refine Hid.out ?_)
  refine Lib.hid ?_
  go_wp2
  go_ret
  exact ⟨rfl, HQ.out.trans (q.out.mono HQ.out.size)⟩
set_option maxRecDepth 100000 in
set_option maxHeartbeats 4000000 in
theorem needs_b (x : Ent) (was : Bool) (rv : ByteArray) (now rep : Int) (h1 : ¬ 5000 < x.v.size) (h2 : 5000 < rv.size) (W : World) (hv : VarsOk W.heap.size W) :
    Calls Tryd.prog 5 #[.agg #[.string x.k, .int .i64 x.t, .int .u16 x.o, .string x.v, .int .i64 x.u], .bool was, .agg #[.string rv, .int .i64 now, .int .i64 rep]] W fun e w' => e = .returned (.bool true) ∧ Below W.heap.size W w' := by
  have HA : Hid (∀ w, Below W.heap.size W w → Calls Tryd.prog 9 #[] w fun e w' => e = .returned (.bool true) ∧ Below w.heap.size w w') := Lib.hid (fun w hw => fawake_any W.heap.size w hw.size (hv.on hw))
  have d1 := (Below.refl W.heap.size W).alloc (Nat.le_refl _) (.cells #[.string x.k, .int .i64 x.t, .int .u16 x.o, .string x.v, .int .i64 x.u] 27)
  have d2 := d1.alloc (by simp) (.cells #[.string rv, .int .i64 now, .int .i64 rep] 39)
  have b1 := (EBlk.new W x).on ((Below.refl _ _).alloc (Nat.le_refl _) (.cells #[.string rv, .int .i64 now, .int .i64 rep] 39))
  have b2 : SpBlk ((W.alloc (.cells #[.string x.k, .int .i64 x.t, .int .u16 x.o, .string x.v, .int .i64 x.u] 27)).alloc (.cells #[.string rv, .int .i64 now, .int .i64 rep] 39)) (W.alloc (.cells #[.string x.k, .int .i64 x.t, .int .u16 x.o, .string x.v, .int .i64 x.u] 27)).heap.size rv now rep := newE _ _
  rw [World.size_alloc] at b2
  have x3 := b1.c3; have y0 := b2.c0
  have g1 : ¬ (5000 : Int) < (x.v.size : Int) := by omega
  have g2 : (5000 : Int) < (rv.size : Int) := by omega
  clear h1 h2
  have HQ := Lib.hid d2
  clear d1 d2 b1 b2 hv
  obtain ⟨kx, tx, ox, vx, ux⟩ := x
  dsimp only at *
  go_enter Tryd.func5, Tryd.ntmps5
  go_wp2_with (go_at_call 9; refine (HA.out _ HQ.out).mono ?_; rintro e u ⟨rfl, q⟩; replace q := Lib.hid q; refine Hid.out ?_)
  refine Lib.hid ?_
  go_wp2
  go_ret
  exact ⟨rfl, HQ.out.trans (q.out.mono HQ.out.size)⟩
set_option maxRecDepth 100000 in
set_option maxHeartbeats 4000000 in
theorem needs_c (x : Ent) (was : Bool) (rv : ByteArray) (now rep : Int) (h1 : ¬ 5000 < x.v.size) (h2 : ¬ 5000 < rv.size) (W : World) (hv : VarsOk W.heap.size W) :
    Calls Tryd.prog 5 #[.agg #[.string x.k, .int .i64 x.t, .int .u16 x.o, .string x.v, .int .i64 x.u], .bool was, .agg #[.string rv, .int .i64 now, .int .i64 rep]] W fun e w' => e = .returned (.bool true) ∧ Below W.heap.size W w' := by
  have HA : Hid (∀ w, Below W.heap.size W w → Calls Tryd.prog 9 #[] w fun e w' => e = .returned (.bool true) ∧ Below w.heap.size w w') := Lib.hid (fun w hw => fawake_any W.heap.size w hw.size (hv.on hw))
  have d1 := (Below.refl W.heap.size W).alloc (Nat.le_refl _) (.cells #[.string x.k, .int .i64 x.t, .int .u16 x.o, .string x.v, .int .i64 x.u] 27)
  have d2 := d1.alloc (by simp) (.cells #[.string rv, .int .i64 now, .int .i64 rep] 39)
  have b1 := (EBlk.new W x).on ((Below.refl _ _).alloc (Nat.le_refl _) (.cells #[.string rv, .int .i64 now, .int .i64 rep] 39))
  have b2 : SpBlk ((W.alloc (.cells #[.string x.k, .int .i64 x.t, .int .u16 x.o, .string x.v, .int .i64 x.u] 27)).alloc (.cells #[.string rv, .int .i64 now, .int .i64 rep] 39)) (W.alloc (.cells #[.string x.k, .int .i64 x.t, .int .u16 x.o, .string x.v, .int .i64 x.u] 27)).heap.size rv now rep := newE _ _
  rw [World.size_alloc] at b2
  have x3 := b1.c3; have y0 := b2.c0
  have g1 : ¬ (5000 : Int) < (x.v.size : Int) := by omega
  have g2 : ¬ (5000 : Int) < (rv.size : Int) := by omega
  have HP : Hid (∀ w, Below W.heap.size W w → Calls Tryd.prog 16 #[.agg #[.string x.k, .int .i64 x.t, .int .u16 x.o, .string x.v, .int .i64 x.u], .bool was, .string rv, .int .i64 now, .int .i64 rep] w fun e w' => e = .returned (.bool (needN x was rv now rep)) ∧ Below w.heap.size w w') := Lib.hid (fun w hw => fNeed_any x was rv now rep (by omega) (by omega) W.heap.size w hw.size (hv.on hw))
  have HZn : Hid (∀ w, Calls Tryd.prog 17 #[.agg #[.string x.k, .int .i64 x.t, .int .u16 x.o, .string x.v, .int .i64 x.u], .bool was, .string rv, .int .i64 now, .int .i64 rep] w fun e w' => e = .returned (.bool (needN x was rv now rep)) ∧ Below w.heap.size w w') := Lib.hid (fun w => zNeed_any x was rv now rep (by omega) (by omega) w)
  generalize needN x was rv now rep = E at *
  have HZ := Lib.hid (And.intro b1 (And.intro b2 d2))
  clear h1 h2 d1 d2 b1 b2 hv
  obtain ⟨kx, tx, ox, vx, ux⟩ := x
  dsimp only at *
  go_enter Tryd.func5, Tryd.ntmps5
  go_wp2_with fail
  obtain ⟨b1, b2, d2⟩ := HZ.out
  clear HZ x3 y0 g1 g2
  generalize hw2 : ((W.alloc (.cells #[.string kx, .int .i64 tx, .int .u16 ox, .string vx, .int .i64 ux] 27)).alloc (.cells #[.string rv, .int .i64 now, .int .i64 rep] 39)) = w2 at *
  clear hw2
  refine wp_region_any (by kernel_rfl) ?_
  change wpAny _ _ _ _ _ _ _ (World.drew _)
  have hS : (fun w' : World => EBlk w' W.heap.size ⟨kx, tx, ox, vx, ux⟩ ∧ SpBlk w' (W.heap.size + 1) rv now rep ∧ Below W.heap.size W w') w2.drew := ⟨b1, b2, d2.drew⟩
  refine wpAny_of_held (S := fun w' => EBlk w' W.heap.size ⟨kx, tx, ox, vx, ux⟩ ∧ SpBlk w' (W.heap.size + 1) rv now rep ∧ Below W.heap.size W w') _ _ _ _ ?_
  clear b1 b2 d2
  refine wpAnyH_takeE (i := 0) (some 18) (v := ?_) rfl rfl (by as_aux_lemma => kernel_rfl) (by as_aux_lemma => kernel_rfl) (by as_aux_lemma => kernel_rfl) (fun _ _ _ h => h) (Or.inl ⟨by kernel_rfl, ?_⟩) hS ?_
  rotate_left
  · intro w hSw; have x0 := hSw.1.c0; have x1 := hSw.1.c1; have x2 := hSw.1.c2; have x3 := hSw.1.c3; have x4 := hSw.1.c4; have y0 := hSw.2.1.c0; have y1 := hSw.2.1.c1; have y2 := hSw.2.1.c2; dsimp only at x0 x1 x2 x3 x4; go_simp
    first | done | with_reducible rfl
  refine wpAnyH_takeE (i := 1) (some 19) (v := ?_) rfl rfl (by as_aux_lemma => kernel_rfl) (by as_aux_lemma => kernel_rfl) (by as_aux_lemma => kernel_rfl) (fun _ _ _ h => h) (Or.inl ⟨by kernel_rfl, ?_⟩) hS ?_
  rotate_left
  · intro w hSw; have x0 := hSw.1.c0; have x1 := hSw.1.c1; have x2 := hSw.1.c2; have x3 := hSw.1.c3; have x4 := hSw.1.c4; have y0 := hSw.2.1.c0; have y1 := hSw.2.1.c1; have y2 := hSw.2.1.c2; dsimp only at x0 x1 x2 x3 x4; go_simp
    first | done | with_reducible rfl
  refine wpAnyH_takeE (i := 2) (some 20) (v := ?_) rfl rfl (by as_aux_lemma => kernel_rfl) (by as_aux_lemma => kernel_rfl) (by as_aux_lemma => kernel_rfl) (fun _ _ _ h => h) (Or.inl ⟨by kernel_rfl, ?_⟩) hS ?_
  rotate_left
  · intro w hSw; have x0 := hSw.1.c0; have x1 := hSw.1.c1; have x2 := hSw.1.c2; have x3 := hSw.1.c3; have x4 := hSw.1.c4; have y0 := hSw.2.1.c0; have y1 := hSw.2.1.c1; have y2 := hSw.2.1.c2; dsimp only at x0 x1 x2 x3 x4; go_simp
    first | done | with_reducible rfl
  refine wpAnyH_takeE (i := 3) (some 21) (v := ?_) rfl rfl (by as_aux_lemma => kernel_rfl) (by as_aux_lemma => kernel_rfl) (by as_aux_lemma => kernel_rfl) (fun _ _ _ h => h) (Or.inl ⟨by kernel_rfl, ?_⟩) hS ?_
  rotate_left
  · intro w hSw; have x0 := hSw.1.c0; have x1 := hSw.1.c1; have x2 := hSw.1.c2; have x3 := hSw.1.c3; have x4 := hSw.1.c4; have y0 := hSw.2.1.c0; have y1 := hSw.2.1.c1; have y2 := hSw.2.1.c2; dsimp only at x0 x1 x2 x3 x4; go_simp
    first | done | with_reducible rfl
  refine wpAnyH_takeE (i := 4) (some 22) (v := ?_) rfl rfl (by as_aux_lemma => kernel_rfl) (by as_aux_lemma => kernel_rfl) (by as_aux_lemma => kernel_rfl) (fun _ _ _ h => h) (Or.inl ⟨by kernel_rfl, ?_⟩) hS ?_
  rotate_left
  · intro w hSw; have x0 := hSw.1.c0; have x1 := hSw.1.c1; have x2 := hSw.1.c2; have x3 := hSw.1.c3; have x4 := hSw.1.c4; have y0 := hSw.2.1.c0; have y1 := hSw.2.1.c1; have y2 := hSw.2.1.c2; dsimp only at x0 x1 x2 x3 x4; go_simp
    first | done | with_reducible rfl
  refine wpAnyH_takeE (i := 5) (some 23) (v := ?_) rfl rfl (by as_aux_lemma => kernel_rfl) (by as_aux_lemma => kernel_rfl) (by as_aux_lemma => kernel_rfl) (fun _ _ _ h => h) (Or.inl ⟨by kernel_rfl, ?_⟩) hS ?_
  rotate_left
  · intro w hSw; have x0 := hSw.1.c0; have x1 := hSw.1.c1; have x2 := hSw.1.c2; have x3 := hSw.1.c3; have x4 := hSw.1.c4; have y0 := hSw.2.1.c0; have y1 := hSw.2.1.c1; have y2 := hSw.2.1.c2; dsimp only at x0 x1 x2 x3 x4; go_simp
    first | done | with_reducible rfl
  refine wpAnyH_takeE (i := 6) (some 24) (v := ?_) rfl rfl (by as_aux_lemma => kernel_rfl) (by as_aux_lemma => kernel_rfl) (by as_aux_lemma => kernel_rfl) (fun _ _ _ h => h) (Or.inl ⟨by kernel_rfl, ?_⟩) hS ?_
  rotate_left
  · intro w hSw; have x0 := hSw.1.c0; have x1 := hSw.1.c1; have x2 := hSw.1.c2; have x3 := hSw.1.c3; have x4 := hSw.1.c4; have y0 := hSw.2.1.c0; have y1 := hSw.2.1.c1; have y2 := hSw.2.1.c2; dsimp only at x0 x1 x2 x3 x4; go_simp
    first | done | with_reducible rfl
  refine wpAnyH_takeE (i := 7) (some 25) (v := ?_) rfl rfl (by as_aux_lemma => kernel_rfl) (by as_aux_lemma => kernel_rfl) (by as_aux_lemma => kernel_rfl) (fun _ _ _ h => h) (Or.inl ⟨by kernel_rfl, ?_⟩) hS ?_
  rotate_left
  · intro w hSw; have x0 := hSw.1.c0; have x1 := hSw.1.c1; have x2 := hSw.1.c2; have x3 := hSw.1.c3; have x4 := hSw.1.c4; have y0 := hSw.2.1.c0; have y1 := hSw.2.1.c1; have y2 := hSw.2.1.c2; dsimp only at x0 x1 x2 x3 x4; go_simp
    first | done | with_reducible rfl
  refine wpAnyH_takeE (i := 9) (some 27) (v := ?_) rfl rfl (by as_aux_lemma => kernel_rfl) (by as_aux_lemma => kernel_rfl) (by as_aux_lemma => kernel_rfl) (fun _ _ _ h => h) (Or.inl ⟨by kernel_rfl, ?_⟩) hS ?_
  rotate_left
  · intro w hSw; have x0 := hSw.1.c0; have x1 := hSw.1.c1; have x2 := hSw.1.c2; have x3 := hSw.1.c3; have x4 := hSw.1.c4; have y0 := hSw.2.1.c0; have y1 := hSw.2.1.c1; have y2 := hSw.2.1.c2; dsimp only at x0 x1 x2 x3 x4; go_simp
    first | done | with_reducible rfl
  refine wpAnyH_takeE (i := 10) (some 28) (v := ?_) rfl rfl (by as_aux_lemma => kernel_rfl) (by as_aux_lemma => kernel_rfl) (by as_aux_lemma => kernel_rfl) (fun _ _ _ h => h) (Or.inl ⟨by kernel_rfl, ?_⟩) hS ?_
  rotate_left
  · intro w hSw; have x0 := hSw.1.c0; have x1 := hSw.1.c1; have x2 := hSw.1.c2; have x3 := hSw.1.c3; have x4 := hSw.1.c4; have y0 := hSw.2.1.c0; have y1 := hSw.2.1.c1; have y2 := hSw.2.1.c2; dsimp only at x0 x1 x2 x3 x4; go_simp
    first | done | with_reducible rfl
  refine wpAnyH_takeE (i := 11) (some 29) (v := ?_) rfl rfl (by as_aux_lemma => kernel_rfl) (by as_aux_lemma => kernel_rfl) (by as_aux_lemma => kernel_rfl) (fun _ _ _ h => h) (Or.inl ⟨by kernel_rfl, ?_⟩) hS ?_
  rotate_left
  · intro w hSw; have x0 := hSw.1.c0; have x1 := hSw.1.c1; have x2 := hSw.1.c2; have x3 := hSw.1.c3; have x4 := hSw.1.c4; have y0 := hSw.2.1.c0; have y1 := hSw.2.1.c1; have y2 := hSw.2.1.c2; dsimp only at x0 x1 x2 x3 x4; go_simp
    first | done | with_reducible rfl
  refine wpAnyH_takeE (i := 12) (some 30) (v := ?_) rfl rfl (by as_aux_lemma => kernel_rfl) (by as_aux_lemma => kernel_rfl) (by as_aux_lemma => kernel_rfl) (fun _ _ _ h => h) (Or.inl ⟨by kernel_rfl, ?_⟩) hS ?_
  rotate_left
  · intro w hSw; have x0 := hSw.1.c0; have x1 := hSw.1.c1; have x2 := hSw.1.c2; have x3 := hSw.1.c3; have x4 := hSw.1.c4; have y0 := hSw.2.1.c0; have y1 := hSw.2.1.c1; have y2 := hSw.2.1.c2; dsimp only at x0 x1 x2 x3 x4; go_simp
    first | done | with_reducible rfl
  refine wpAnyH_takeE (i := 13) (some 31) (v := ?_) rfl rfl (by as_aux_lemma => kernel_rfl) (by as_aux_lemma => kernel_rfl) (by as_aux_lemma => kernel_rfl) (fun _ _ _ h => h) (Or.inl ⟨by kernel_rfl, ?_⟩) hS ?_
  rotate_left
  · intro w hSw; have x0 := hSw.1.c0; have x1 := hSw.1.c1; have x2 := hSw.1.c2; have x3 := hSw.1.c3; have x4 := hSw.1.c4; have y0 := hSw.2.1.c0; have y1 := hSw.2.1.c1; have y2 := hSw.2.1.c2; dsimp only at x0 x1 x2 x3 x4; go_simp
    first | done | with_reducible rfl
  refine wpAnyH_takeE (i := 14) (some 32) (v := ?_) rfl rfl (by as_aux_lemma => kernel_rfl) (by as_aux_lemma => kernel_rfl) (by as_aux_lemma => kernel_rfl) (fun _ _ _ h => h) (Or.inl ⟨by kernel_rfl, ?_⟩) hS ?_
  rotate_left
  · intro w hSw; have x0 := hSw.1.c0; have x1 := hSw.1.c1; have x2 := hSw.1.c2; have x3 := hSw.1.c3; have x4 := hSw.1.c4; have y0 := hSw.2.1.c0; have y1 := hSw.2.1.c1; have y2 := hSw.2.1.c2; dsimp only at x0 x1 x2 x3 x4; go_simp
    first | done | with_reducible rfl
  refine wpAnyH_takeE (i := 15) (some 33) (v := ?_) rfl rfl (by as_aux_lemma => kernel_rfl) (by as_aux_lemma => kernel_rfl) (by as_aux_lemma => kernel_rfl) (fun _ _ _ h => h) (Or.inl ⟨by kernel_rfl, ?_⟩) hS ?_
  rotate_left
  · intro w hSw; have x0 := hSw.1.c0; have x1 := hSw.1.c1; have x2 := hSw.1.c2; have x3 := hSw.1.c3; have x4 := hSw.1.c4; have y0 := hSw.2.1.c0; have y1 := hSw.2.1.c1; have y2 := hSw.2.1.c2; dsimp only at x0 x1 x2 x3 x4; go_simp
    first | done | with_reducible rfl
  refine wpAnyH_takeE (i := 16) (some 34) (v := ?_) rfl rfl (by as_aux_lemma => kernel_rfl) (by as_aux_lemma => kernel_rfl) (by as_aux_lemma => kernel_rfl) (fun _ _ _ h => h) (Or.inl ⟨by kernel_rfl, ?_⟩) hS ?_
  rotate_left
  · intro w hSw; have x0 := hSw.1.c0; have x1 := hSw.1.c1; have x2 := hSw.1.c2; have x3 := hSw.1.c3; have x4 := hSw.1.c4; have y0 := hSw.2.1.c0; have y1 := hSw.2.1.c1; have y2 := hSw.2.1.c2; dsimp only at x0 x1 x2 x3 x4; go_simp
    first | done | with_reducible rfl
  refine wpAnyH_ready (rs := [8]) (by as_aux_lemma => kernel_rfl) (by simp) ?_
  refine AllReadyH.cons rfl (fun K hK => ?_) AllReadyH.nil
  go_simp
  go_wp2_with (go_at_call 16; refine (HP.out _ hS.2.2).mono ?_; rintro e u1 ⟨rfl, q1⟩)
  refine hK.out _ _ ?_ (fun hS => ?_)
  · exact ⟨hS.1.on q1, hS.2.1.on q1, hS.2.2.trans (q1.mono hS.2.2.size)⟩
  clear hK K
  clear q1
  refine wpAnyH_ready (rs := [17]) (by as_aux_lemma => kernel_rfl) (by simp) ?_
  refine AllReadyH.cons rfl (fun K hK => ?_) AllReadyH.nil
  go_simp
  go_wp2_with (go_at_call 17; refine (HZn.out _).mono ?_; rintro e u2 ⟨rfl, q2⟩)
  refine hK.out _ _ ?_ (fun hS => ?_)
  · exact ⟨hS.1.on q2, hS.2.1.on q2, hS.2.2.trans (q2.mono hS.2.2.size)⟩
  clear hK K
  clear q2
  refine wpAnyH_takeE (i := 18) (some 36) (v := ?_) rfl rfl (by as_aux_lemma => kernel_rfl) (by as_aux_lemma => kernel_rfl) (by as_aux_lemma => kernel_rfl) (fun _ _ _ h => h) (Or.inl ⟨by kernel_rfl, ?_⟩) hS ?_
  rotate_left
  · intro w hSw; skip; go_simp
    first | done | with_reducible rfl
  refine wpAnyH_takeE (i := 19) (some 37) (v := ?_) rfl rfl (by as_aux_lemma => kernel_rfl) (by as_aux_lemma => kernel_rfl) (by as_aux_lemma => kernel_rfl) (fun _ _ _ h => h) (Or.inl ⟨by kernel_rfl, ?_⟩) hS ?_
  rotate_left
  · intro w hSw; skip; go_simp
    first | done | with_reducible rfl
  refine wpAnyH_ready (rs := [20]) (by as_aux_lemma => kernel_rfl) (by simp) ?_
  refine AllReadyH.cons rfl (fun K hK => ?_) AllReadyH.nil
  go_simp
  go_wp2_with (go_at_call 9; refine (HA.out _ hS.2.2).mono ?_; rintro e u3 ⟨rfl, q3⟩)
  refine hK.out _ _ ?_ (fun hS => ?_)
  · exact ⟨hS.1.on q3, hS.2.1.on q3, hS.2.2.trans (q3.mono hS.2.2.size)⟩
  clear hK K
  clear q3
  refine wpAnyH_takeE (i := 21) (some 39) (v := ?_) rfl rfl (by as_aux_lemma => kernel_rfl) (by as_aux_lemma => kernel_rfl) (by as_aux_lemma => kernel_rfl) (fun _ _ _ h => h) (Or.inl ⟨by kernel_rfl, ?_⟩) hS ?_
  rotate_left
  · intro w hSw; skip; go_simp
    first | done | with_reducible rfl
  refine wpAnyH_takeE (i := 22) (some 6) (v := ?_) rfl rfl (by as_aux_lemma => kernel_rfl) (by as_aux_lemma => kernel_rfl) (by as_aux_lemma => kernel_rfl) (fun _ _ _ h => h) (Or.inl ⟨by kernel_rfl, ?_⟩) hS ?_
  rotate_left
  · intro w hSw; skip; go_simp
    first | done | with_reducible rfl
  have h5 := Lib.hid hS.2.2
  clear hS
  refine wpAnyH_done (by kernel_rfl) ?_ _
  go_simp
  go_wp2
  go_ret
  exact ⟨by simp, h5.out⟩

theorem needs_walk (x : Ent) (was : Bool) (rv : ByteArray) (now rep : Int) (W : World) (hv : VarsOk W.heap.size W) :
    Calls Tryd.prog 5 #[.agg #[.string x.k, .int .i64 x.t, .int .u16 x.o, .string x.v, .int .i64 x.u], .bool was, .agg #[.string rv, .int .i64 now, .int .i64 rep]] W fun e w' => e = .returned (.bool true) ∧ Below W.heap.size W w' := by
  by_cases h1 : 5000 < x.v.size
  · exact needs_a x was rv now rep h1 W hv
  · by_cases h2 : 5000 < rv.size
    · exact needs_b x was rv now rep h1 h2 W hv
    · exact needs_c x was rv now rep h1 h2 W hv

end Go.Proofs.YtcdlalbmafipdaaDoor
