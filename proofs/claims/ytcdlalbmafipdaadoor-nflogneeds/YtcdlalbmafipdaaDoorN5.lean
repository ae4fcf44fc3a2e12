/-
  What the reference's Need tells.
-/
import Derived.Test.YtcdlalbmafipdaaDoorN3
import Derived.Test.YtcdlalbmafipdaaDoorNHCnt
namespace Go.Proofs.YtcdlalbmafipdaaDoor
open Go.RowKit

set_option maxRecDepth 100000 in
set_option maxHeartbeats 4000000 in
theorem zfires_any (s : ByteArray) (hs : s.size ≤ 1099511627776) (w : World) :
    Calls Tryd.prog 31 #[.string s] w fun e w' => e = .returned (.bool (somF s)) ∧ Below w.heap.size w w' := by
  have HC := Lib.hid (hCounts_any s w hs)
  unfold somF
  generalize countsP s.data.toList = R at *
  obtain ⟨a, b⟩ := R
  dsimp only at *
  go_enter Tryd.func31, Tryd.ntmps31
  go_wp2_with (go_at_call 46; refine HC.out.mono ?_; rintro e w1 ⟨rfl, q1⟩)
  go_ret
  exact ⟨rfl, q1⟩
set_option maxRecDepth 100000 in
set_option maxHeartbeats 4000000 in
theorem zwithin_any (n : Int) (w : World) : Calls Tryd.prog 32 #[.int .i64 n] w fun e w' => e = .returned (.bool (isT n)) ∧ Below w.heap.size w w' := by
  unfold isT
  by_cases h : 0 ≤ n
  · go_enter Tryd.func32, Tryd.ntmps32
    go_wp2
    go_ret
    exact ⟨by simp [h], Below.refl _ _⟩
  · go_enter Tryd.func32, Tryd.ntmps32
    go_wp2
    go_ret
    exact ⟨by simp; omega, Below.refl _ _⟩
set_option maxRecDepth 100000 in
set_option maxHeartbeats 4000000 in
theorem zNeed_any (x : Ent) (was : Bool) (rv : ByteArray) (now rep : Int) (hx : x.v.size ≤ 1099511627776) (hr : rv.size ≤ 1099511627776) (w : World) :
    Calls Tryd.prog 17 #[.agg #[.string x.k, .int .i64 x.t, .int .u16 x.o, .string x.v, .int .i64 x.u], .bool was, .string rv, .int .i64 now, .int .i64 rep] w fun e w' => e = .returned (.bool (needN x was rv now rep)) ∧ Below w.heap.size w w' := by
  have HR : Hid (∀ u, Calls Tryd.prog 31 #[.string rv] u fun e w' => e = .returned (.bool (somF rv)) ∧ Below u.heap.size u w') := Lib.hid (fun u => zfires_any rv hr u)
  have HX : Hid (∀ u, Calls Tryd.prog 31 #[.string x.v] u fun e w' => e = .returned (.bool (somF x.v)) ∧ Below u.heap.size u w') := Lib.hid (fun u => zfires_any x.v hx u)
  have HTa := Lib.hid (fun u => zwithin_any x.t u)
  have HTb := Lib.hid (fun u => zwithin_any now u)
  have HTc := Lib.hid (fun u => zwithin_any rep u)
  have b1 := EBlk.new w x
  have d1 := (Below.refl w.heap.size w).alloc (Nat.le_refl _) (.cells #[.string x.k, .int .i64 x.t, .int .u16 x.o, .string x.v, .int .i64 x.u] 27)
  have HZ1 := Lib.hid (And.intro b1 d1)
  have c1 := b1.c1
  have c3 := b1.c3
  unfold needN overN
  obtain ⟨d, hd⟩ : ∃ d, IntKind.i64.wrap (now - x.t) = d := ⟨_, rfl⟩
  rw [hd]
  generalize somF rv = fr at *
  generalize somF x.v = fx at *
  generalize isT x.t = ta at *
  generalize isT now = tb at *
  generalize isT rep = tc at *
  clear hx hr b1 d1
  obtain ⟨kx, tx, ox, vx, ux⟩ := x
  dsimp only at *
  cases was with
  | false =>
    go_enter Tryd.func17, Tryd.ntmps17
    go_wp2_with (go_at_call 31; refine (HR.out _).mono ?_; rintro e w1 ⟨rfl, q1⟩; replace q1 := Lib.hid q1; refine Hid.out ?_)
    refine Lib.hid ?_
    have HZ2 := Lib.hid (And.intro (HZ1.out.1.on q1.out) (HZ1.out.2.trans (q1.out.mono HZ1.out.2.size)))
    clear c1 c3
    have c1 := HZ2.out.1.c1
    have c3 := HZ2.out.1.c3
    dsimp only at c1 c3
    go_wp2
    go_ret
    exact ⟨by simp, HZ2.out.2⟩
  | true =>
    by_cases hlt : now < tx
    · go_enter Tryd.func17, Tryd.ntmps17
      go_wp2
      go_ret
      exact ⟨by simp, HZ1.out.2⟩
    · have hlt' : ¬ (now < tx) := hlt
      cases hq : (vx.toList == rv.toList) with
      | false =>
        have hq2 : (!(vx.toList == rv.toList)) = true := by rw [hq]; rfl
        cases fr
        · go_enter Tryd.func17, Tryd.ntmps17
          go_wp2_with (go_at_call 31; refine (HR.out _).mono ?_; rintro e w1 ⟨rfl, q1⟩; replace q1 := Lib.hid q1; refine Hid.out ?_)
          refine Lib.hid ?_
          have HZ2 := Lib.hid (And.intro (HZ1.out.1.on q1.out) (HZ1.out.2.trans (q1.out.mono HZ1.out.2.size)))
          clear c1 c3
          have c1 := HZ2.out.1.c1
          have c3 := HZ2.out.1.c3
          dsimp only at c1 c3
          go_wp2_with (go_at_call 31; refine (HX.out _).mono ?_; rintro e w2 ⟨rfl, q2⟩; replace q2 := Lib.hid q2; refine Hid.out ?_)
          refine Lib.hid ?_
          have HZ3 := Lib.hid (And.intro (HZ2.out.1.on q2.out) (HZ2.out.2.trans (q2.out.mono HZ2.out.2.size)))
          clear c1 c3
          have c1 := HZ3.out.1.c1
          have c3 := HZ3.out.1.c3
          dsimp only at c1 c3
          go_wp2
          go_ret
          exact ⟨by simp [hlt'], HZ3.out.2⟩
        · go_enter Tryd.func17, Tryd.ntmps17
          go_wp2_with (go_at_call 31; refine (HR.out _).mono ?_; rintro e w1 ⟨rfl, q1⟩; replace q1 := Lib.hid q1; refine Hid.out ?_)
          refine Lib.hid ?_
          have HZ2 := Lib.hid (And.intro (HZ1.out.1.on q1.out) (HZ1.out.2.trans (q1.out.mono HZ1.out.2.size)))
          clear c1 c3
          have c1 := HZ2.out.1.c1
          have c3 := HZ2.out.1.c3
          dsimp only at c1 c3
          go_wp2
          go_ret
          exact ⟨by simp [hlt'], HZ2.out.2⟩
      | true =>
        have hq2 : (!(vx.toList == rv.toList)) = false := by rw [hq]; rfl
        cases fr
        · go_enter Tryd.func17, Tryd.ntmps17
          go_wp2_with (go_at_call 31; refine (HR.out _).mono ?_; rintro e w1 ⟨rfl, q1⟩; replace q1 := Lib.hid q1; refine Hid.out ?_)
          refine Lib.hid ?_
          have HZ2 := Lib.hid (And.intro (HZ1.out.1.on q1.out) (HZ1.out.2.trans (q1.out.mono HZ1.out.2.size)))
          clear c1 c3
          have c1 := HZ2.out.1.c1
          have c3 := HZ2.out.1.c3
          dsimp only at c1 c3
          go_wp2
          go_ret
          exact ⟨by simp, HZ2.out.2⟩
        · cases ta
          · go_enter Tryd.func17, Tryd.ntmps17
            go_wp2_with (go_at_call 31; refine (HR.out _).mono ?_; rintro e w1 ⟨rfl, q1⟩; replace q1 := Lib.hid q1; refine Hid.out ?_)
            refine Lib.hid ?_
            have HZ2 := Lib.hid (And.intro (HZ1.out.1.on q1.out) (HZ1.out.2.trans (q1.out.mono HZ1.out.2.size)))
            clear c1 c3
            have c1 := HZ2.out.1.c1
            have c3 := HZ2.out.1.c3
            dsimp only at c1 c3
            go_wp2_with (go_at_call 32; refine (HTa.out _).mono ?_; rintro e w2 ⟨rfl, q2⟩; replace q2 := Lib.hid q2; refine Hid.out ?_)
            refine Lib.hid ?_
            have HZ3 := Lib.hid (And.intro (HZ2.out.1.on q2.out) (HZ2.out.2.trans (q2.out.mono HZ2.out.2.size)))
            clear c1 c3
            have c1 := HZ3.out.1.c1
            have c3 := HZ3.out.1.c3
            dsimp only at c1 c3
            go_wp2
            go_ret
            exact ⟨by simp, HZ3.out.2⟩
          · cases tb
            · go_enter Tryd.func17, Tryd.ntmps17
              go_wp2_with (go_at_call 31; refine (HR.out _).mono ?_; rintro e w1 ⟨rfl, q1⟩; replace q1 := Lib.hid q1; refine Hid.out ?_)
              refine Lib.hid ?_
              have HZ2 := Lib.hid (And.intro (HZ1.out.1.on q1.out) (HZ1.out.2.trans (q1.out.mono HZ1.out.2.size)))
              clear c1 c3
              have c1 := HZ2.out.1.c1
              have c3 := HZ2.out.1.c3
              dsimp only at c1 c3
              go_wp2_with (go_at_call 32; refine (HTa.out _).mono ?_; rintro e w2 ⟨rfl, q2⟩; replace q2 := Lib.hid q2; refine Hid.out ?_)
              refine Lib.hid ?_
              have HZ3 := Lib.hid (And.intro (HZ2.out.1.on q2.out) (HZ2.out.2.trans (q2.out.mono HZ2.out.2.size)))
              clear c1 c3
              have c1 := HZ3.out.1.c1
              have c3 := HZ3.out.1.c3
              dsimp only at c1 c3
              go_wp2_with (go_at_call 32; refine (HTb.out _).mono ?_; rintro e w3 ⟨rfl, q3⟩; replace q3 := Lib.hid q3; refine Hid.out ?_)
              refine Lib.hid ?_
              have HZ4 := Lib.hid (And.intro (HZ3.out.1.on q3.out) (HZ3.out.2.trans (q3.out.mono HZ3.out.2.size)))
              clear c1 c3
              have c1 := HZ4.out.1.c1
              have c3 := HZ4.out.1.c3
              dsimp only at c1 c3
              go_wp2
              go_ret
              exact ⟨by simp, HZ4.out.2⟩
            · cases tc
              · go_enter Tryd.func17, Tryd.ntmps17
                go_wp2_with (go_at_call 31; refine (HR.out _).mono ?_; rintro e w1 ⟨rfl, q1⟩; replace q1 := Lib.hid q1; refine Hid.out ?_)
                refine Lib.hid ?_
                have HZ2 := Lib.hid (And.intro (HZ1.out.1.on q1.out) (HZ1.out.2.trans (q1.out.mono HZ1.out.2.size)))
                clear c1 c3
                have c1 := HZ2.out.1.c1
                have c3 := HZ2.out.1.c3
                dsimp only at c1 c3
                go_wp2_with (go_at_call 32; refine (HTa.out _).mono ?_; rintro e w2 ⟨rfl, q2⟩; replace q2 := Lib.hid q2; refine Hid.out ?_)
                refine Lib.hid ?_
                have HZ3 := Lib.hid (And.intro (HZ2.out.1.on q2.out) (HZ2.out.2.trans (q2.out.mono HZ2.out.2.size)))
                clear c1 c3
                have c1 := HZ3.out.1.c1
                have c3 := HZ3.out.1.c3
                dsimp only at c1 c3
                go_wp2_with (go_at_call 32; refine (HTb.out _).mono ?_; rintro e w3 ⟨rfl, q3⟩; replace q3 := Lib.hid q3; refine Hid.out ?_)
                refine Lib.hid ?_
                have HZ4 := Lib.hid (And.intro (HZ3.out.1.on q3.out) (HZ3.out.2.trans (q3.out.mono HZ3.out.2.size)))
                clear c1 c3
                have c1 := HZ4.out.1.c1
                have c3 := HZ4.out.1.c3
                dsimp only at c1 c3
                go_wp2_with (go_at_call 32; refine (HTc.out _).mono ?_; rintro e w4 ⟨rfl, q4⟩; replace q4 := Lib.hid q4; refine Hid.out ?_)
                refine Lib.hid ?_
                have HZ5 := Lib.hid (And.intro (HZ4.out.1.on q4.out) (HZ4.out.2.trans (q4.out.mono HZ4.out.2.size)))
                clear c1 c3
                have c1 := HZ5.out.1.c1
                have c3 := HZ5.out.1.c3
                dsimp only at c1 c3
                go_wp2
                go_ret
                exact ⟨by simp, HZ5.out.2⟩
              · go_enter Tryd.func17, Tryd.ntmps17
                go_wp2_with (go_at_call 31; refine (HR.out _).mono ?_; rintro e w1 ⟨rfl, q1⟩; replace q1 := Lib.hid q1; refine Hid.out ?_)
                refine Lib.hid ?_
                have HZ2 := Lib.hid (And.intro (HZ1.out.1.on q1.out) (HZ1.out.2.trans (q1.out.mono HZ1.out.2.size)))
                clear c1 c3
                have c1 := HZ2.out.1.c1
                have c3 := HZ2.out.1.c3
                dsimp only at c1 c3
                go_wp2_with (go_at_call 32; refine (HTa.out _).mono ?_; rintro e w2 ⟨rfl, q2⟩; replace q2 := Lib.hid q2; refine Hid.out ?_)
                refine Lib.hid ?_
                have HZ3 := Lib.hid (And.intro (HZ2.out.1.on q2.out) (HZ2.out.2.trans (q2.out.mono HZ2.out.2.size)))
                clear c1 c3
                have c1 := HZ3.out.1.c1
                have c3 := HZ3.out.1.c3
                dsimp only at c1 c3
                go_wp2_with (go_at_call 32; refine (HTb.out _).mono ?_; rintro e w3 ⟨rfl, q3⟩; replace q3 := Lib.hid q3; refine Hid.out ?_)
                refine Lib.hid ?_
                have HZ4 := Lib.hid (And.intro (HZ3.out.1.on q3.out) (HZ3.out.2.trans (q3.out.mono HZ3.out.2.size)))
                clear c1 c3
                have c1 := HZ4.out.1.c1
                have c3 := HZ4.out.1.c3
                dsimp only at c1 c3
                go_wp2_with (go_at_call 32; refine (HTc.out _).mono ?_; rintro e w4 ⟨rfl, q4⟩; replace q4 := Lib.hid q4; refine Hid.out ?_)
                refine Lib.hid ?_
                have HZ5 := Lib.hid (And.intro (HZ4.out.1.on q4.out) (HZ4.out.2.trans (q4.out.mono HZ4.out.2.size)))
                clear c1 c3
                have c1 := HZ5.out.1.c1
                have c3 := HZ5.out.1.c3
                dsimp only at c1 c3
                go_wp2
                go_ret
                exact ⟨by simp [hlt'], HZ5.out.2⟩

end Go.Proofs.YtcdlalbmafipdaaDoor
