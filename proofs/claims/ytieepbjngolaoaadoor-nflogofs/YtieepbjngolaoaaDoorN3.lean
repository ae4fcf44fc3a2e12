/-
  What Need of package nflog tells; the closed case of layer 12.
-/
import Derived.Test.YtieepbjngolaoaaDoorN2
namespace Go.Proofs.YtieepbjngolaoaaDoor
open Go.RowKit

/-- Something fires in a revision. -/
def somF (s : ByteArray) : Bool := decide (0 < (countsP s.data.toList).1)
/-- A number is a time that is meant. -/
def isT (n : Int) : Bool := decide (0 ≤ n) && decide (n ≤ 1099511627776)
def overN (a b c : Int) : Bool := isT a && (isT b && (isT c && decide (c ≤ IntKind.i64.wrap (b - a))))
/-- More is to be sent. -/
def needN (x : Ent) (was : Bool) (rv : ByteArray) (now rep : Int) : Bool :=
  if was = true then (if now < x.t then false else if (x.v.toList == rv.toList) = true then (somF rv && overN x.t now rep) else (somF x.v || somF rv)) else somF rv

set_option maxRecDepth 100000 in
set_option maxHeartbeats 4000000 in
theorem ffires_any (s : ByteArray) (hs : s.size ≤ 1099511627776) (B : Nat) (w : World) (hB : B ≤ w.heap.size) (hv : VarsOk B w) :
    Calls Tryd.prog 25 #[.string s] w fun e w' => e = .returned (.bool (somF s)) ∧ Below w.heap.size w w' := by
  have HC := Lib.hid (gCounts_any s B w hs hB hv)
  unfold somF
  generalize countsP s.data.toList = R at *
  obtain ⟨a, b⟩ := R
  dsimp only at *
  clear hv hB
  go_enter Tryd.func25, Tryd.ntmps25
  go_wp2_with (go_at_call 8; refine HC.out.mono ?_; rintro e w1 ⟨rfl, q1⟩)
  go_ret
  exact ⟨rfl, q1⟩
set_option maxRecDepth 100000 in
set_option maxHeartbeats 4000000 in
theorem fisTime_any (n : Int) (w : World) : Calls Tryd.prog 39 #[.int .i64 n] w fun e w' => e = .returned (.bool (isT n)) ∧ w' = w := by
  unfold isT
  by_cases h : 0 ≤ n
  · go_enter Tryd.func39, Tryd.ntmps39
    go_wp2
    go_ret
    exact ⟨by simp [h], rfl⟩
  · go_enter Tryd.func39, Tryd.ntmps39
    go_wp2
    go_ret
    exact ⟨by simp; omega, rfl⟩
set_option maxRecDepth 100000 in
set_option maxHeartbeats 4000000 in
theorem fisOver_any (a b c : Int) (w : World) : Calls Tryd.prog 26 #[.int .i64 a, .int .i64 b, .int .i64 c] w fun e w' => e = .returned (.bool (overN a b c)) ∧ w' = w := by
  unfold overN
  have HA := Lib.hid (fun u => fisTime_any a u)
  have HB := Lib.hid (fun u => fisTime_any b u)
  have HC := Lib.hid (fun u => fisTime_any c u)
  generalize isT a = ta at *
  generalize isT b = tb at *
  generalize isT c = tc at *
  obtain ⟨d, hd⟩ : ∃ d, IntKind.i64.wrap (b - a) = d := ⟨_, rfl⟩
  rw [hd]
  cases ta
  · skip
    go_enter Tryd.func26, Tryd.ntmps26
    go_wp2_with (go_at_call 39; refine (HA.out _).mono ?_; rintro e w0 ⟨rfl, h0⟩; replace h0 := Lib.hid h0; refine Hid.out ?_)
    refine Lib.hid ?_
    go_wp2
    go_ret
    exact ⟨by simp, h0.out⟩
  · cases tb
    · skip
      go_enter Tryd.func26, Tryd.ntmps26
      go_wp2_with (go_at_call 39; refine (HA.out _).mono ?_; rintro e w0 ⟨rfl, h0⟩; replace h0 := Lib.hid h0; refine Hid.out ?_)
      refine Lib.hid ?_
      go_wp2_with (go_at_call 39; refine (HB.out _).mono ?_; rintro e w1 ⟨rfl, h1⟩; replace h1 := Lib.hid h1; refine Hid.out ?_)
      refine Lib.hid ?_
      go_wp2
      go_ret
      exact ⟨by simp, h1.out.trans h0.out⟩
    · cases tc
      · skip
        go_enter Tryd.func26, Tryd.ntmps26
        go_wp2_with (go_at_call 39; refine (HA.out _).mono ?_; rintro e w0 ⟨rfl, h0⟩; replace h0 := Lib.hid h0; refine Hid.out ?_)
        refine Lib.hid ?_
        go_wp2_with (go_at_call 39; refine (HB.out _).mono ?_; rintro e w1 ⟨rfl, h1⟩; replace h1 := Lib.hid h1; refine Hid.out ?_)
        refine Lib.hid ?_
        go_wp2_with (go_at_call 39; refine (HC.out _).mono ?_; rintro e w2 ⟨rfl, h2⟩; replace h2 := Lib.hid h2; refine Hid.out ?_)
        refine Lib.hid ?_
        go_wp2
        go_ret
        exact ⟨by simp, h2.out.trans (h1.out.trans h0.out)⟩
      · skip
        go_enter Tryd.func26, Tryd.ntmps26
        go_wp2_with (go_at_call 39; refine (HA.out _).mono ?_; rintro e w0 ⟨rfl, h0⟩; replace h0 := Lib.hid h0; refine Hid.out ?_)
        refine Lib.hid ?_
        go_wp2_with (go_at_call 39; refine (HB.out _).mono ?_; rintro e w1 ⟨rfl, h1⟩; replace h1 := Lib.hid h1; refine Hid.out ?_)
        refine Lib.hid ?_
        go_wp2_with (go_at_call 39; refine (HC.out _).mono ?_; rintro e w2 ⟨rfl, h2⟩; replace h2 := Lib.hid h2; refine Hid.out ?_)
        refine Lib.hid ?_
        go_wp2
        go_ret
        exact ⟨by simp, h2.out.trans (h1.out.trans h0.out)⟩
set_option maxRecDepth 100000 in
set_option maxHeartbeats 4000000 in
theorem fNeed_any (x : Ent) (was : Bool) (rv : ByteArray) (now rep : Int) (hx : x.v.size ≤ 1099511627776) (hr : rv.size ≤ 1099511627776) (B : Nat) (w : World) (hB : B ≤ w.heap.size) (hv : VarsOk B w) :
    Calls Tryd.prog 9 #[.agg #[.string x.k, .int .i64 x.t, .int .u16 x.o, .string x.v, .int .i64 x.u], .bool was, .string rv, .int .i64 now, .int .i64 rep] w fun e w' => e = .returned (.bool (needN x was rv now rep)) ∧ Below w.heap.size w w' := by
  have HR : Hid (∀ u, Below w.heap.size w u → Calls Tryd.prog 25 #[.string rv] u fun e w' => e = .returned (.bool (somF rv)) ∧ Below u.heap.size u w') := Lib.hid (fun u hu => ffires_any rv hr B u (Nat.le_trans hB hu.size) (hv.on (hu.mono hB)))
  have HX : Hid (∀ u, Below w.heap.size w u → Calls Tryd.prog 25 #[.string x.v] u fun e w' => e = .returned (.bool (somF x.v)) ∧ Below u.heap.size u w') := Lib.hid (fun u hu => ffires_any x.v hx B u (Nat.le_trans hB hu.size) (hv.on (hu.mono hB)))
  have HO := Lib.hid (fun u => fisOver_any x.t now rep u)
  have b1 := EBlk.new w x
  have d1 := (Below.refl w.heap.size w).alloc (Nat.le_refl _) (.cells #[.string x.k, .int .i64 x.t, .int .u16 x.o, .string x.v, .int .i64 x.u] 24)
  have HZ := Lib.hid (And.intro b1 d1)
  have c1 := b1.c1
  have c3 := b1.c3
  unfold needN
  generalize somF rv = fr at *
  generalize somF x.v = fx at *
  generalize overN x.t now rep = ov at *
  clear hx hr hB hv b1 d1
  obtain ⟨kx, tx, ox, vx, ux⟩ := x
  dsimp only at *
  cases was with
  | false =>
    go_enter Tryd.func9, Tryd.ntmps9
    go_wp2_with (go_at_call 25; refine (HR.out _ HZ.out.2).mono ?_; rintro e w1 ⟨rfl, q1⟩; replace q1 := Lib.hid q1; refine Hid.out ?_)
    refine Lib.hid ?_
    go_wp2
    go_ret
    exact ⟨by simp, HZ.out.2.trans (q1.out.mono HZ.out.2.size)⟩
  | true =>
    by_cases hlt : now < tx
    · go_enter Tryd.func9, Tryd.ntmps9
      go_wp2
      go_ret
      exact ⟨by simp, HZ.out.2⟩
    · have hlt' : ¬ (now < tx) := hlt
      cases hq : (vx.toList == rv.toList) with
      | false =>
        have hq2 : (!(vx.toList == rv.toList)) = true := by rw [hq]; rfl
        cases fx
        · go_enter Tryd.func9, Tryd.ntmps9
          go_wp2_with (go_at_call 25; refine (HX.out _ HZ.out.2).mono ?_; rintro e w1 ⟨rfl, q1⟩; replace q1 := Lib.hid q1; refine Hid.out ?_)
          refine Lib.hid ?_
          have HD := Lib.hid (HZ.out.2.trans (q1.out.mono HZ.out.2.size))
          go_wp2_with (go_at_call 25; refine (HR.out _ HD.out).mono ?_; rintro e w2 ⟨rfl, q2⟩; replace q2 := Lib.hid q2; refine Hid.out ?_)
          refine Lib.hid ?_
          go_wp2
          go_ret
          exact ⟨by simp [hlt'], HD.out.trans (q2.out.mono HD.out.size)⟩
        · go_enter Tryd.func9, Tryd.ntmps9
          go_wp2_with (go_at_call 25; refine (HX.out _ HZ.out.2).mono ?_; rintro e w1 ⟨rfl, q1⟩; replace q1 := Lib.hid q1; refine Hid.out ?_)
          refine Lib.hid ?_
          go_wp2
          go_ret
          exact ⟨by simp [hlt'], HZ.out.2.trans (q1.out.mono HZ.out.2.size)⟩
      | true =>
        have hq2 : (!(vx.toList == rv.toList)) = false := by rw [hq]; rfl
        cases fr
        · go_enter Tryd.func9, Tryd.ntmps9
          go_wp2_with (go_at_call 25; refine (HR.out _ HZ.out.2).mono ?_; rintro e w1 ⟨rfl, q1⟩; replace q1 := Lib.hid q1; refine Hid.out ?_)
          refine Lib.hid ?_
          go_wp2
          go_ret
          exact ⟨by simp, HZ.out.2.trans (q1.out.mono HZ.out.2.size)⟩
        · go_enter Tryd.func9, Tryd.ntmps9
          go_wp2_with (go_at_call 25; refine (HR.out _ HZ.out.2).mono ?_; rintro e w1 ⟨rfl, q1⟩; replace q1 := Lib.hid q1; refine Hid.out ?_)
          refine Lib.hid ?_
          have c1' := (HZ.out.1.on q1.out).c1
          dsimp only at c1'
          go_wp2_with (go_at_call 26; refine (HO.out _).mono ?_; rintro e w2 ⟨rfl, rfl⟩)
          go_ret
          exact ⟨by simp [hlt'], HZ.out.2.trans (q1.out.mono HZ.out.2.size)⟩

/-- The closed case's revisions, and its entry. -/
def fireB : ByteArray := ⟨#[108, 49, 58, 97, 105, 49, 101, 101]⟩
def calmB : ByteArray := ⟨#[108, 49, 58, 97, 105, 48, 101, 101]⟩
def awS : Snd := ⟨⟨#[114]⟩, ⟨#[103]⟩, fireB, 5⟩
theorem aw_key : keyN awS.r awS.k = ⟨#[110, 108, 49, 58, 114, 49, 58, 103, 101]⟩ := by decide +kernel
theorem som_fire : somF fireB = true := by decide +kernel
theorem som_calm : somF calmB = false := by decide +kernel
theorem fire_calm : (fireB.toList == calmB.toList) = false := by decide +kernel
theorem fire_fire : (fireB.toList == fireB.toList) = true := by decide +kernel

end Go.Proofs.YtieepbjngolaoaaDoor
