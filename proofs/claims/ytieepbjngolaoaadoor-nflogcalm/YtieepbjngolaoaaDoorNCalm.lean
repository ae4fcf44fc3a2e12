/-
  The walk of NflogCalm.
-/
import Derived.Test.YtieepbjngolaoaaDoorN4
namespace Go.Proofs.YtieepbjngolaoaaDoor
open Go.RowKit

/-- A block of a revision and two times. -/
def SpBlk (w : World) (B : Nat) (rv : ByteArray) (now rep : Int) : Prop := w.heap[B]? = some (.cells #[.string rv, .int .i64 now, .int .i64 rep] 26 (0, 0))
theorem SpBlk.lt {w : World} {B : Nat} {rv : ByteArray} {now rep : Int} (h : SpBlk w B rv now rep) : B < w.heap.size := ltE h
theorem SpBlk.on {w w' : World} {B : Nat} {rv : ByteArray} {now rep : Int} (h : SpBlk w B rv now rep) (hb : Below w.heap.size w w') : SpBlk w' B rv now rep := (hb.block B h.lt).trans h
theorem SpBlk.c0 {w : World} {B : Nat} {rv : ByteArray} {now rep : Int} (h : SpBlk w B rv now rep) : w.cell? ⟨B, 0, none⟩ = some (.string rv) := cellE h
theorem SpBlk.c1 {w : World} {B : Nat} {rv : ByteArray} {now rep : Int} (h : SpBlk w B rv now rep) : w.cell? ⟨B, 1, none⟩ = some (.int .i64 now) := cellE h
theorem SpBlk.c2 {w : World} {B : Nat} {rv : ByteArray} {now rep : Int} (h : SpBlk w B rv now rep) : w.cell? ⟨B, 2, none⟩ = some (.int .i64 rep) := cellE h

theorem need_true {x : Ent} {was : Bool} {rv : ByteArray} {now rep : Int} (h : needN x was rv now rep = true) : ((countsP rv.data.toList).1 = 0 → was = true ∧ (countsP x.v.data.toList).1 ≠ 0) ∧ (was = true → ¬ now < x.t) := by
  unfold needN somF at h
  cases was with
  | false =>
    rw [if_neg (by decide)] at h
    have h' := of_decide_eq_true h
    exact ⟨fun e => by omega, fun e => by cases e⟩
  | true =>
    rw [if_pos rfl] at h
    by_cases hlt : now < x.t
    · rw [if_pos hlt] at h; cases h
    · rw [if_neg hlt] at h
      refine ⟨fun e => ⟨rfl, fun e2 => ?_⟩, fun _ => hlt⟩
      split at h
      · have h' := of_decide_eq_true (Bool.and_eq_true_iff.1 h).1
        omega
      · rcases Bool.or_eq_true_iff.1 h with h' | h'
        · have := of_decide_eq_true h'; omega
        · have := of_decide_eq_true h'; omega

set_option maxRecDepth 100000 in
set_option maxHeartbeats 4000000 in
theorem calm_a (x : Ent) (was : Bool) (rv : ByteArray) (now rep : Int) (h1 : 5000 < x.v.size) (W : World) (hv : VarsOk W.heap.size W) :
    Calls Tryd.prog 3 #[.agg #[.string x.k, .int .i64 x.t, .int .u16 x.o, .string x.v, .int .i64 x.u], .bool was, .agg #[.string rv, .int .i64 now, .int .i64 rep]] W fun e w' => e = .returned (.bool true) ∧ Below W.heap.size W w' := by
  have HA : Hid (∀ w, Below W.heap.size W w → Calls Tryd.prog 7 #[] w fun e w' => e = .returned (.bool true) ∧ Below w.heap.size w w') := Lib.hid (fun w hw => fawake_any W.heap.size w hw.size (hv.on hw))
  have d1 := (Below.refl W.heap.size W).alloc (Nat.le_refl _) (.cells #[.string x.k, .int .i64 x.t, .int .u16 x.o, .string x.v, .int .i64 x.u] 24)
  have d2 := d1.alloc (by simp) (.cells #[.string rv, .int .i64 now, .int .i64 rep] 26)
  have b1 := (EBlk.new W x).on ((Below.refl _ _).alloc (Nat.le_refl _) (.cells #[.string rv, .int .i64 now, .int .i64 rep] 26))
  have b2 : SpBlk ((W.alloc (.cells #[.string x.k, .int .i64 x.t, .int .u16 x.o, .string x.v, .int .i64 x.u] 24)).alloc (.cells #[.string rv, .int .i64 now, .int .i64 rep] 26)) (W.alloc (.cells #[.string x.k, .int .i64 x.t, .int .u16 x.o, .string x.v, .int .i64 x.u] 24)).heap.size rv now rep := newE _ _
  rw [World.size_alloc] at b2
  have x3 := b1.c3; have y0 := b2.c0
  have g1 : (5000 : Int) < (x.v.size : Int) := by omega
  clear h1
  have HQ := Lib.hid d2
  clear d1 d2 b1 b2 hv
  obtain ⟨kx, tx, ox, vx, ux⟩ := x
  dsimp only at *
  go_enter Tryd.func3, Tryd.ntmps3
  go_wp2_with (go_at_call 7; refine (HA.out _ HQ.out).mono ?_; rintro e u ⟨rfl, q⟩; replace q := Lib.hid q; refine Hid.out ?_)
  refine Lib.hid ?_
  go_wp2
  go_ret
  exact ⟨rfl, HQ.out.trans (q.out.mono HQ.out.size)⟩
set_option maxRecDepth 100000 in
set_option maxHeartbeats 4000000 in
theorem calm_b (x : Ent) (was : Bool) (rv : ByteArray) (now rep : Int) (h1 : ¬ 5000 < x.v.size) (h2 : 5000 < rv.size) (W : World) (hv : VarsOk W.heap.size W) :
    Calls Tryd.prog 3 #[.agg #[.string x.k, .int .i64 x.t, .int .u16 x.o, .string x.v, .int .i64 x.u], .bool was, .agg #[.string rv, .int .i64 now, .int .i64 rep]] W fun e w' => e = .returned (.bool true) ∧ Below W.heap.size W w' := by
  have HA : Hid (∀ w, Below W.heap.size W w → Calls Tryd.prog 7 #[] w fun e w' => e = .returned (.bool true) ∧ Below w.heap.size w w') := Lib.hid (fun w hw => fawake_any W.heap.size w hw.size (hv.on hw))
  have d1 := (Below.refl W.heap.size W).alloc (Nat.le_refl _) (.cells #[.string x.k, .int .i64 x.t, .int .u16 x.o, .string x.v, .int .i64 x.u] 24)
  have d2 := d1.alloc (by simp) (.cells #[.string rv, .int .i64 now, .int .i64 rep] 26)
  have b1 := (EBlk.new W x).on ((Below.refl _ _).alloc (Nat.le_refl _) (.cells #[.string rv, .int .i64 now, .int .i64 rep] 26))
  have b2 : SpBlk ((W.alloc (.cells #[.string x.k, .int .i64 x.t, .int .u16 x.o, .string x.v, .int .i64 x.u] 24)).alloc (.cells #[.string rv, .int .i64 now, .int .i64 rep] 26)) (W.alloc (.cells #[.string x.k, .int .i64 x.t, .int .u16 x.o, .string x.v, .int .i64 x.u] 24)).heap.size rv now rep := newE _ _
  rw [World.size_alloc] at b2
  have x3 := b1.c3; have y0 := b2.c0
  have g1 : ¬ (5000 : Int) < (x.v.size : Int) := by omega
  have g2 : (5000 : Int) < (rv.size : Int) := by omega
  clear h1 h2
  have HQ := Lib.hid d2
  clear d1 d2 b1 b2 hv
  obtain ⟨kx, tx, ox, vx, ux⟩ := x
  dsimp only at *
  go_enter Tryd.func3, Tryd.ntmps3
  go_wp2_with (go_at_call 7; refine (HA.out _ HQ.out).mono ?_; rintro e u ⟨rfl, q⟩; replace q := Lib.hid q; refine Hid.out ?_)
  refine Lib.hid ?_
  go_wp2
  go_ret
  exact ⟨rfl, HQ.out.trans (q.out.mono HQ.out.size)⟩
set_option maxRecDepth 100000 in
set_option maxHeartbeats 4000000 in
theorem calm_c (x : Ent) (was : Bool) (rv : ByteArray) (now rep : Int) (h1 : ¬ 5000 < x.v.size) (h2 : ¬ 5000 < rv.size) (W : World) (hv : VarsOk W.heap.size W) :
    Calls Tryd.prog 3 #[.agg #[.string x.k, .int .i64 x.t, .int .u16 x.o, .string x.v, .int .i64 x.u], .bool was, .agg #[.string rv, .int .i64 now, .int .i64 rep]] W fun e w' => e = .returned (.bool true) ∧ Below W.heap.size W w' := by
  have HA : Hid (∀ w, Below W.heap.size W w → Calls Tryd.prog 7 #[] w fun e w' => e = .returned (.bool true) ∧ Below w.heap.size w w') := Lib.hid (fun w hw => fawake_any W.heap.size w hw.size (hv.on hw))
  have d1 := (Below.refl W.heap.size W).alloc (Nat.le_refl _) (.cells #[.string x.k, .int .i64 x.t, .int .u16 x.o, .string x.v, .int .i64 x.u] 24)
  have d2 := d1.alloc (by simp) (.cells #[.string rv, .int .i64 now, .int .i64 rep] 26)
  have b1 := (EBlk.new W x).on ((Below.refl _ _).alloc (Nat.le_refl _) (.cells #[.string rv, .int .i64 now, .int .i64 rep] 26))
  have b2 : SpBlk ((W.alloc (.cells #[.string x.k, .int .i64 x.t, .int .u16 x.o, .string x.v, .int .i64 x.u] 24)).alloc (.cells #[.string rv, .int .i64 now, .int .i64 rep] 26)) (W.alloc (.cells #[.string x.k, .int .i64 x.t, .int .u16 x.o, .string x.v, .int .i64 x.u] 24)).heap.size rv now rep := newE _ _
  rw [World.size_alloc] at b2
  have g1 : ¬ (5000 : Int) < (x.v.size : Int) := by omega
  have g2 : ¬ (5000 : Int) < (rv.size : Int) := by omega
  have HP : Hid (∀ w, Below W.heap.size W w → Calls Tryd.prog 9 #[.agg #[.string x.k, .int .i64 x.t, .int .u16 x.o, .string x.v, .int .i64 x.u], .bool was, .string rv, .int .i64 now, .int .i64 rep] w fun e w' => e = .returned (.bool (needN x was rv now rep)) ∧ Below w.heap.size w w') := Lib.hid (fun w hw => fNeed_any x was rv now rep (by omega) (by omega) W.heap.size w hw.size (hv.on hw))
  have HCr : Hid (∀ w, Below W.heap.size W w → Calls Tryd.prog 8 #[.string rv] w fun e w' => e = .returned (.tuple #[.int .i64 (countsP rv.data.toList).1, .int .i64 (countsP rv.data.toList).2]) ∧ Below w.heap.size w w') := Lib.hid (fun w hw => gCounts_any rv W.heap.size w (by omega) hw.size (hv.on hw))
  have HCx : Hid (∀ w, Below W.heap.size W w → Calls Tryd.prog 8 #[.string x.v] w fun e w' => e = .returned (.tuple #[.int .i64 (countsP x.v.data.toList).1, .int .i64 (countsP x.v.data.toList).2]) ∧ Below w.heap.size w w') := Lib.hid (fun w hw => gCounts_any x.v W.heap.size w (by omega) hw.size (hv.on hw))
  have hn := fun h => need_true (x := x) (was := was) (rv := rv) (now := now) (rep := rep) h
  generalize needN x was rv now rep = E at *
  generalize countsP rv.data.toList = R1 at *
  generalize countsP x.v.data.toList = R2 at *
  obtain ⟨a, a'⟩ := R1
  obtain ⟨b, b'⟩ := R2
  dsimp only at hn HCr HCx
  have HZ1 := Lib.hid (And.intro b1 (And.intro b2 d2))
  clear h1 h2 d1 d2 b1 b2 hv
  obtain ⟨kx, tx, ox, vx, ux⟩ := x
  dsimp only at *
  cases E with
  | false =>
    clear hn
    have x0 := HZ1.out.1.c0; have x1 := HZ1.out.1.c1; have x2 := HZ1.out.1.c2; have x3 := HZ1.out.1.c3; have x4 := HZ1.out.1.c4; have y0 := HZ1.out.2.1.c0; have y1 := HZ1.out.2.1.c1; have y2 := HZ1.out.2.1.c2
    dsimp only at x0 x1 x2 x3 x4
    go_enter Tryd.func3, Tryd.ntmps3
    go_wp2_with (go_at_call 8; refine (HCr.out _ HZ1.out.2.2).mono ?_; rintro e u1 ⟨rfl, p1⟩; refine Hid.out ?_)
    refine Lib.hid ?_
    clear x0 x1 x2 x3 x4 y0 y1 y2
    have HZ2 := Lib.hid (And.intro (HZ1.out.1.on p1) (And.intro (HZ1.out.2.1.on p1) (HZ1.out.2.2.trans (p1.mono HZ1.out.2.2.size))))
    have x0 := HZ2.out.1.c0; have x1 := HZ2.out.1.c1; have x2 := HZ2.out.1.c2; have x3 := HZ2.out.1.c3; have x4 := HZ2.out.1.c4; have y0 := HZ2.out.2.1.c0; have y1 := HZ2.out.2.1.c1; have y2 := HZ2.out.2.1.c2
    dsimp only at x0 x1 x2 x3 x4
    clear p1 HCr
    go_wp2_with (go_at_call 8; refine (HCx.out _ HZ2.out.2.2).mono ?_; rintro e u2 ⟨rfl, p2⟩; refine Hid.out ?_)
    refine Lib.hid ?_
    clear x0 x1 x2 x3 x4 y0 y1 y2
    have HZ3 := Lib.hid (And.intro (HZ2.out.1.on p2) (And.intro (HZ2.out.2.1.on p2) (HZ2.out.2.2.trans (p2.mono HZ2.out.2.2.size))))
    have x0 := HZ3.out.1.c0; have x1 := HZ3.out.1.c1; have x2 := HZ3.out.1.c2; have x3 := HZ3.out.1.c3; have x4 := HZ3.out.1.c4; have y0 := HZ3.out.2.1.c0; have y1 := HZ3.out.2.1.c1; have y2 := HZ3.out.2.1.c2
    dsimp only at x0 x1 x2 x3 x4
    clear p2 HCx
    go_wp2_with (go_at_call 9; refine (HP.out _ HZ3.out.2.2).mono ?_; rintro e u3 ⟨rfl, p3⟩; refine Hid.out ?_)
    refine Lib.hid ?_
    clear x0 x1 x2 x3 x4 y0 y1 y2
    have HZ4 := Lib.hid (And.intro (HZ3.out.1.on p3) (And.intro (HZ3.out.2.1.on p3) (HZ3.out.2.2.trans (p3.mono HZ3.out.2.2.size))))
    have x0 := HZ4.out.1.c0; have x1 := HZ4.out.1.c1; have x2 := HZ4.out.1.c2; have x3 := HZ4.out.1.c3; have x4 := HZ4.out.1.c4; have y0 := HZ4.out.2.1.c0; have y1 := HZ4.out.2.1.c1; have y2 := HZ4.out.2.1.c2
    dsimp only at x0 x1 x2 x3 x4
    clear p3 HP
    go_wp2_with (go_at_call 7; refine (HA.out _ HZ4.out.2.2).mono ?_; rintro e u9 ⟨rfl, p9⟩; replace p9 := Lib.hid p9; refine Hid.out ?_)
    refine Lib.hid ?_
    go_wp2
    go_ret
    exact ⟨by rfl, HZ4.out.2.2.trans (p9.out.mono HZ4.out.2.2.size)⟩
  | true =>
    obtain ⟨n1, n2⟩ := hn rfl
    clear hn
    cases was with
    | false =>
      have ha : ¬ a = 0 := fun e => by have := (n1 e).1; cases this
      clear n1 n2
      have x0 := HZ1.out.1.c0; have x1 := HZ1.out.1.c1; have x2 := HZ1.out.1.c2; have x3 := HZ1.out.1.c3; have x4 := HZ1.out.1.c4; have y0 := HZ1.out.2.1.c0; have y1 := HZ1.out.2.1.c1; have y2 := HZ1.out.2.1.c2
      dsimp only at x0 x1 x2 x3 x4
      go_enter Tryd.func3, Tryd.ntmps3
      go_wp2_with (go_at_call 8; refine (HCr.out _ HZ1.out.2.2).mono ?_; rintro e u1 ⟨rfl, p1⟩; refine Hid.out ?_)
      refine Lib.hid ?_
      clear x0 x1 x2 x3 x4 y0 y1 y2
      have HZ2 := Lib.hid (And.intro (HZ1.out.1.on p1) (And.intro (HZ1.out.2.1.on p1) (HZ1.out.2.2.trans (p1.mono HZ1.out.2.2.size))))
      have x0 := HZ2.out.1.c0; have x1 := HZ2.out.1.c1; have x2 := HZ2.out.1.c2; have x3 := HZ2.out.1.c3; have x4 := HZ2.out.1.c4; have y0 := HZ2.out.2.1.c0; have y1 := HZ2.out.2.1.c1; have y2 := HZ2.out.2.1.c2
      dsimp only at x0 x1 x2 x3 x4
      clear p1 HCr
      go_wp2_with (go_at_call 8; refine (HCx.out _ HZ2.out.2.2).mono ?_; rintro e u2 ⟨rfl, p2⟩; refine Hid.out ?_)
      refine Lib.hid ?_
      clear x0 x1 x2 x3 x4 y0 y1 y2
      have HZ3 := Lib.hid (And.intro (HZ2.out.1.on p2) (And.intro (HZ2.out.2.1.on p2) (HZ2.out.2.2.trans (p2.mono HZ2.out.2.2.size))))
      have x0 := HZ3.out.1.c0; have x1 := HZ3.out.1.c1; have x2 := HZ3.out.1.c2; have x3 := HZ3.out.1.c3; have x4 := HZ3.out.1.c4; have y0 := HZ3.out.2.1.c0; have y1 := HZ3.out.2.1.c1; have y2 := HZ3.out.2.1.c2
      dsimp only at x0 x1 x2 x3 x4
      clear p2 HCx
      go_wp2_with (go_at_call 9; refine (HP.out _ HZ3.out.2.2).mono ?_; rintro e u3 ⟨rfl, p3⟩; refine Hid.out ?_)
      refine Lib.hid ?_
      clear x0 x1 x2 x3 x4 y0 y1 y2
      have HZ4 := Lib.hid (And.intro (HZ3.out.1.on p3) (And.intro (HZ3.out.2.1.on p3) (HZ3.out.2.2.trans (p3.mono HZ3.out.2.2.size))))
      have x0 := HZ4.out.1.c0; have x1 := HZ4.out.1.c1; have x2 := HZ4.out.1.c2; have x3 := HZ4.out.1.c3; have x4 := HZ4.out.1.c4; have y0 := HZ4.out.2.1.c0; have y1 := HZ4.out.2.1.c1; have y2 := HZ4.out.2.1.c2
      dsimp only at x0 x1 x2 x3 x4
      clear p3 HP
      go_wp2_with (go_at_call 7; refine (HA.out _ HZ4.out.2.2).mono ?_; rintro e u9 ⟨rfl, p9⟩; replace p9 := Lib.hid p9; refine Hid.out ?_)
      refine Lib.hid ?_
      go_wp2
      go_ret
      exact ⟨by rfl, HZ4.out.2.2.trans (p9.out.mono HZ4.out.2.2.size)⟩
    | true =>
      have hlt : ¬ now < tx := n2 rfl
      by_cases ha : a = 0
      · have hb : ¬ b = 0 := (n1 ha).2
        subst ha
        have hb2 : (b == 0) = false := by simpa using hb
        have hl2 : decide (now < tx) = false := decide_eq_false hlt
        clear n1 n2
        have x0 := HZ1.out.1.c0; have x1 := HZ1.out.1.c1; have x2 := HZ1.out.1.c2; have x3 := HZ1.out.1.c3; have x4 := HZ1.out.1.c4; have y0 := HZ1.out.2.1.c0; have y1 := HZ1.out.2.1.c1; have y2 := HZ1.out.2.1.c2
        dsimp only at x0 x1 x2 x3 x4
        go_enter Tryd.func3, Tryd.ntmps3
        go_wp2_with (go_at_call 8; refine (HCr.out _ HZ1.out.2.2).mono ?_; rintro e u1 ⟨rfl, p1⟩; refine Hid.out ?_)
        refine Lib.hid ?_
        clear x0 x1 x2 x3 x4 y0 y1 y2
        have HZ2 := Lib.hid (And.intro (HZ1.out.1.on p1) (And.intro (HZ1.out.2.1.on p1) (HZ1.out.2.2.trans (p1.mono HZ1.out.2.2.size))))
        have x0 := HZ2.out.1.c0; have x1 := HZ2.out.1.c1; have x2 := HZ2.out.1.c2; have x3 := HZ2.out.1.c3; have x4 := HZ2.out.1.c4; have y0 := HZ2.out.2.1.c0; have y1 := HZ2.out.2.1.c1; have y2 := HZ2.out.2.1.c2
        dsimp only at x0 x1 x2 x3 x4
        clear p1 HCr
        go_wp2_with (go_at_call 8; refine (HCx.out _ HZ2.out.2.2).mono ?_; rintro e u2 ⟨rfl, p2⟩; refine Hid.out ?_)
        refine Lib.hid ?_
        clear x0 x1 x2 x3 x4 y0 y1 y2
        have HZ3 := Lib.hid (And.intro (HZ2.out.1.on p2) (And.intro (HZ2.out.2.1.on p2) (HZ2.out.2.2.trans (p2.mono HZ2.out.2.2.size))))
        have x0 := HZ3.out.1.c0; have x1 := HZ3.out.1.c1; have x2 := HZ3.out.1.c2; have x3 := HZ3.out.1.c3; have x4 := HZ3.out.1.c4; have y0 := HZ3.out.2.1.c0; have y1 := HZ3.out.2.1.c1; have y2 := HZ3.out.2.1.c2
        dsimp only at x0 x1 x2 x3 x4
        clear p2 HCx
        go_wp2_with (go_at_call 9; refine (HP.out _ HZ3.out.2.2).mono ?_; rintro e u3 ⟨rfl, p3⟩; refine Hid.out ?_)
        refine Lib.hid ?_
        clear x0 x1 x2 x3 x4 y0 y1 y2
        have HZ4 := Lib.hid (And.intro (HZ3.out.1.on p3) (And.intro (HZ3.out.2.1.on p3) (HZ3.out.2.2.trans (p3.mono HZ3.out.2.2.size))))
        have x0 := HZ4.out.1.c0; have x1 := HZ4.out.1.c1; have x2 := HZ4.out.1.c2; have x3 := HZ4.out.1.c3; have x4 := HZ4.out.1.c4; have y0 := HZ4.out.2.1.c0; have y1 := HZ4.out.2.1.c1; have y2 := HZ4.out.2.1.c2
        dsimp only at x0 x1 x2 x3 x4
        clear p3 HP
        go_wp2_with (go_at_call 7; refine (HA.out _ HZ4.out.2.2).mono ?_; rintro e u9 ⟨rfl, p9⟩; replace p9 := Lib.hid p9; refine Hid.out ?_)
        refine Lib.hid ?_
        go_wp2
        go_ret
        exact ⟨by rfl, HZ4.out.2.2.trans (p9.out.mono HZ4.out.2.2.size)⟩
      · have hl2 : decide (now < tx) = false := decide_eq_false hlt
        clear n1 n2
        have x0 := HZ1.out.1.c0; have x1 := HZ1.out.1.c1; have x2 := HZ1.out.1.c2; have x3 := HZ1.out.1.c3; have x4 := HZ1.out.1.c4; have y0 := HZ1.out.2.1.c0; have y1 := HZ1.out.2.1.c1; have y2 := HZ1.out.2.1.c2
        dsimp only at x0 x1 x2 x3 x4
        go_enter Tryd.func3, Tryd.ntmps3
        go_wp2_with (go_at_call 8; refine (HCr.out _ HZ1.out.2.2).mono ?_; rintro e u1 ⟨rfl, p1⟩; refine Hid.out ?_)
        refine Lib.hid ?_
        clear x0 x1 x2 x3 x4 y0 y1 y2
        have HZ2 := Lib.hid (And.intro (HZ1.out.1.on p1) (And.intro (HZ1.out.2.1.on p1) (HZ1.out.2.2.trans (p1.mono HZ1.out.2.2.size))))
        have x0 := HZ2.out.1.c0; have x1 := HZ2.out.1.c1; have x2 := HZ2.out.1.c2; have x3 := HZ2.out.1.c3; have x4 := HZ2.out.1.c4; have y0 := HZ2.out.2.1.c0; have y1 := HZ2.out.2.1.c1; have y2 := HZ2.out.2.1.c2
        dsimp only at x0 x1 x2 x3 x4
        clear p1 HCr
        go_wp2_with (go_at_call 8; refine (HCx.out _ HZ2.out.2.2).mono ?_; rintro e u2 ⟨rfl, p2⟩; refine Hid.out ?_)
        refine Lib.hid ?_
        clear x0 x1 x2 x3 x4 y0 y1 y2
        have HZ3 := Lib.hid (And.intro (HZ2.out.1.on p2) (And.intro (HZ2.out.2.1.on p2) (HZ2.out.2.2.trans (p2.mono HZ2.out.2.2.size))))
        have x0 := HZ3.out.1.c0; have x1 := HZ3.out.1.c1; have x2 := HZ3.out.1.c2; have x3 := HZ3.out.1.c3; have x4 := HZ3.out.1.c4; have y0 := HZ3.out.2.1.c0; have y1 := HZ3.out.2.1.c1; have y2 := HZ3.out.2.1.c2
        dsimp only at x0 x1 x2 x3 x4
        clear p2 HCx
        go_wp2_with (go_at_call 9; refine (HP.out _ HZ3.out.2.2).mono ?_; rintro e u3 ⟨rfl, p3⟩; refine Hid.out ?_)
        refine Lib.hid ?_
        clear x0 x1 x2 x3 x4 y0 y1 y2
        have HZ4 := Lib.hid (And.intro (HZ3.out.1.on p3) (And.intro (HZ3.out.2.1.on p3) (HZ3.out.2.2.trans (p3.mono HZ3.out.2.2.size))))
        have x0 := HZ4.out.1.c0; have x1 := HZ4.out.1.c1; have x2 := HZ4.out.1.c2; have x3 := HZ4.out.1.c3; have x4 := HZ4.out.1.c4; have y0 := HZ4.out.2.1.c0; have y1 := HZ4.out.2.1.c1; have y2 := HZ4.out.2.1.c2
        dsimp only at x0 x1 x2 x3 x4
        clear p3 HP
        go_wp2_with (go_at_call 7; refine (HA.out _ HZ4.out.2.2).mono ?_; rintro e u9 ⟨rfl, p9⟩; replace p9 := Lib.hid p9; refine Hid.out ?_)
        refine Lib.hid ?_
        go_wp2
        go_ret
        exact ⟨by rfl, HZ4.out.2.2.trans (p9.out.mono HZ4.out.2.2.size)⟩

theorem calm_walk (x : Ent) (was : Bool) (rv : ByteArray) (now rep : Int) (W : World) (hv : VarsOk W.heap.size W) :
    Calls Tryd.prog 3 #[.agg #[.string x.k, .int .i64 x.t, .int .u16 x.o, .string x.v, .int .i64 x.u], .bool was, .agg #[.string rv, .int .i64 now, .int .i64 rep]] W fun e w' => e = .returned (.bool true) ∧ Below W.heap.size W w' := by
  by_cases h1 : 5000 < x.v.size
  · exact calm_a x was rv now rep h1 W hv
  · by_cases h2 : 5000 < rv.size
    · exact calm_b x was rv now rep h1 h2 W hv
    · exact calm_c x was rv now rep h1 h2 W hv

end Go.Proofs.YtieepbjngolaoaaDoor
