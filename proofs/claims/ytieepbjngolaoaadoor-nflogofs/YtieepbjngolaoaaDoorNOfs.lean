/-
  The walk of NflogOfs: an entry is the sending that the document says, or none.
-/
import Derived.Test.YtieepbjngolaoaaDoorN8
import Derived.Test.YtieepbjngolaoaaDoorNSnd
import Derived.Test.YtieepbjngolaoaaDoorN4
namespace Go.Proofs.YtieepbjngolaoaaDoor
open Go Go.RowKit

set_option maxRecDepth 100000 in
set_option maxHeartbeats 4000000 in
theorem ofs_a (x : Ent) (h1 : 20000 < x.k.size) (W : World) (hv : VarsOk W.heap.size W) :
    Calls Tryd.prog 5 #[.agg #[.string x.k, .int .i64 x.t, .int .u16 x.o, .string x.v, .int .i64 x.u]] W fun e w' => e = .returned (.bool true) ∧ Below W.heap.size W w' := by
  have HA : Hid (∀ w, Below W.heap.size W w → Calls Tryd.prog 7 #[] w fun e w' => e = .returned (.bool true) ∧ Below w.heap.size w w') := Lib.hid (fun w hw => fawake_any W.heap.size w hw.size (hv.on hw))
  have d1 := (Below.refl W.heap.size W).alloc (Nat.le_refl _) (.cells #[.string x.k, .int .i64 x.t, .int .u16 x.o, .string x.v, .int .i64 x.u] 24)
  have b1 := EBlk.new W x
  have x0 := b1.c0; have x1 := b1.c1; have x2 := b1.c2; have x3 := b1.c3; have x4 := b1.c4
  have g1 : (20000 : Int) < (x.k.size : Int) := by omega
  clear h1
  have HQ := Lib.hid d1
  clear d1 b1 hv
  obtain ⟨kx, tx, ox, vx, ux⟩ := x
  dsimp only at *
  go_enter Tryd.func5, Tryd.ntmps5
  go_wp2_with (go_at_call 7; refine (HA.out _ HQ.out).mono ?_; rintro e u ⟨rfl, q⟩; replace q := Lib.hid q; refine Hid.out ?_)
  refine Lib.hid ?_
  go_wp2
  go_ret
  exact ⟨by first | rfl | simp, HQ.out.trans (q.out.mono HQ.out.size)⟩
set_option maxRecDepth 100000 in
set_option maxHeartbeats 4000000 in
theorem ofs_b (x : Ent) (h1 : ¬ 20000 < x.k.size) (h2 : 20000 < x.v.size) (W : World) (hv : VarsOk W.heap.size W) :
    Calls Tryd.prog 5 #[.agg #[.string x.k, .int .i64 x.t, .int .u16 x.o, .string x.v, .int .i64 x.u]] W fun e w' => e = .returned (.bool true) ∧ Below W.heap.size W w' := by
  have HA : Hid (∀ w, Below W.heap.size W w → Calls Tryd.prog 7 #[] w fun e w' => e = .returned (.bool true) ∧ Below w.heap.size w w') := Lib.hid (fun w hw => fawake_any W.heap.size w hw.size (hv.on hw))
  have d1 := (Below.refl W.heap.size W).alloc (Nat.le_refl _) (.cells #[.string x.k, .int .i64 x.t, .int .u16 x.o, .string x.v, .int .i64 x.u] 24)
  have b1 := EBlk.new W x
  have x0 := b1.c0; have x1 := b1.c1; have x2 := b1.c2; have x3 := b1.c3; have x4 := b1.c4
  have g1 : ¬ (20000 : Int) < (x.k.size : Int) := by omega
  have g2 : (20000 : Int) < (x.v.size : Int) := by omega
  clear h1 h2
  have HQ := Lib.hid d1
  clear d1 b1 hv
  obtain ⟨kx, tx, ox, vx, ux⟩ := x
  dsimp only at *
  go_enter Tryd.func5, Tryd.ntmps5
  go_wp2_with (go_at_call 7; refine (HA.out _ HQ.out).mono ?_; rintro e u ⟨rfl, q⟩; replace q := Lib.hid q; refine Hid.out ?_)
  refine Lib.hid ?_
  go_wp2
  go_ret
  exact ⟨by first | rfl | simp, HQ.out.trans (q.out.mono HQ.out.size)⟩
set_option maxRecDepth 100000 in
set_option maxHeartbeats 4000000 in
theorem ofs_c (x : Ent) (hx : EntFit x) (h1 : ¬ 20000 < x.k.size) (h2 : ¬ 20000 < x.v.size) (W : World) (hv : VarsOk W.heap.size W) :
    Calls Tryd.prog 5 #[.agg #[.string x.k, .int .i64 x.t, .int .u16 x.o, .string x.v, .int .i64 x.u]] W fun e w' => e = .returned (.bool true) ∧ Below W.heap.size W w' := by
  have HA : Hid (∀ w, Below W.heap.size W w → Calls Tryd.prog 7 #[] w fun e w' => e = .returned (.bool true) ∧ Below w.heap.size w w') := Lib.hid (fun w hw => fawake_any W.heap.size w hw.size (hv.on hw))
  have d1 := (Below.refl W.heap.size W).alloc (Nat.le_refl _) (.cells #[.string x.k, .int .i64 x.t, .int .u16 x.o, .string x.v, .int .i64 x.u] 24)
  have b1 := EBlk.new W x
  have x0 := b1.c0; have x1 := b1.c1; have x2 := b1.c2; have x3 := b1.c3; have x4 := b1.c4
  have g1 : ¬ (20000 : Int) < (x.k.size : Int) := by omega
  have g2 : ¬ (20000 : Int) < (x.v.size : Int) := by omega
  have HO1 : Hid (∀ w, Below W.heap.size W w → Calls Tryd.prog 14 #[.agg #[.string x.k, .int .i64 x.t, .int .u16 x.o, .string x.v, .int .i64 x.u]] w fun e w' => e = .returned (.tuple #[.agg #[.string (ofN x).r, .string (ofN x).k, .string (ofN x).v, .int .i64 (ofN x).t], .bool (okN x)]) ∧ Below w.heap.size w w') := Lib.hid (fun w hw => fOf_any x (by omega) W.heap.size w hw.size (hv.on hw))
  have HO2 : Hid (∀ w, Calls Tryd.prog 15 #[.agg #[.string x.k, .int .i64 x.t, .int .u16 x.o, .string x.v, .int .i64 x.u]] w fun e w' => e = .returned (.tuple #[.agg #[.string (ofN x).r, .string (ofN x).k, .string (ofN x).v, .int .i64 (ofN x).t], .bool (okN x)]) ∧ Below w.heap.size w w') := Lib.hid (fun w => zOf_any x hx (by omega) w)
  generalize ofN x = A at *
  generalize okN x = ok at *
  have hR := fun w => run_eqN A A w
  rw [eqSn_refl] at hR
  have HR := Lib.hid hR
  have HZ := Lib.hid (And.intro b1 d1)
  clear h1 h2 hx hv b1 d1 hR
  obtain ⟨kx, tx, ox, vx, ux⟩ := x
  dsimp only at *
  go_enter Tryd.func5, Tryd.ntmps5
  go_wp2_with (go_at_call 14; refine (HO1.out _ HZ.out.2).mono ?_; rintro e u1 ⟨rfl, q1⟩; refine Hid.out ?_)
  refine Lib.hid ?_
  obtain ⟨b1, d1⟩ := HZ.out
  have qa := (Below.refl u1.heap.size u1).alloc (Nat.le_refl _) (.cells #[.string A.r, .string A.k, .string A.v, .int .i64 A.t] 33)
  have c1 := (b1.on q1).on qa
  have e1 := SnBlk.new u1 A
  have d2 := d1.trans (q1.mono d1.size)
  have d3 := d2.trans (qa.mono d2.size)
  clear x0 x1 x2 x3 x4 g1 g2
  have x0 := c1.c0; have x1 := c1.c1; have x2 := c1.c2; have x3 := c1.c3; have x4 := c1.c4
  dsimp only at x0 x1 x2 x3 x4
  have HZ2 := Lib.hid (And.intro e1 d3)
  clear HZ b1 d1 q1 qa c1 e1 d2 d3 HO1
  go_wp2_with (go_at_call 15; refine (HO2.out _).mono ?_; rintro e u2 ⟨rfl, q2⟩; refine Hid.out ?_)
  refine Lib.hid ?_
  obtain ⟨e1, d3⟩ := HZ2.out
  have qb := (Below.refl u2.heap.size u2).alloc (Nat.le_refl _) (.cells #[.string A.r, .string A.k, .string A.v, .int .i64 A.t] 33)
  have e2 := (e1.on q2).on qb
  have e3 := SnBlk.new u2 A
  have d4 := d3.trans (q2.mono d3.size)
  have HQ := Lib.hid (d4.trans (qb.mono d4.size))
  clear x0 x1 x2 x3 x4 HZ2 e1 d3 q2 qb d4 HO2
  have x0 := e2.c0; have x1 := e2.c1; have x2 := e2.c2; have x3 := e2.c3
  have y0 := e3.c0; have y1 := e3.c1; have y2 := e3.c2; have y3 := e3.c3
  have hR := HR.out
  clear e2 e3 HR
  go_wp2_with (go_at_call 7; refine (HA.out _ HQ.out).mono ?_; rintro e u ⟨rfl, q⟩; replace q := Lib.hid q; refine Hid.out ?_)
  refine Lib.hid ?_
  go_wp2
  go_ret
  exact ⟨by first | rfl | simp, HQ.out.trans (q.out.mono HQ.out.size)⟩

theorem ofs_walk (x : Ent) (hx : EntFit x) (W : World) (hv : VarsOk W.heap.size W) :
    Calls Tryd.prog 5 #[.agg #[.string x.k, .int .i64 x.t, .int .u16 x.o, .string x.v, .int .i64 x.u]] W fun e w' => e = .returned (.bool true) ∧ Below W.heap.size W w' := by
  by_cases h1 : 20000 < x.k.size
  · exact ofs_a x h1 W hv
  by_cases h2 : 20000 < x.v.size
  · exact ofs_b x h1 h2 W hv
  · exact ofs_c x hx h1 h2 W hv

end Go.Proofs.YtieepbjngolaoaaDoor
