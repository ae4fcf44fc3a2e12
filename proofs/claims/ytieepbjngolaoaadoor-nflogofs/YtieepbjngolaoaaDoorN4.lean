/-
  The closed case of layer 12.
-/
import Derived.Test.YtieepbjngolaoaaDoorN3
namespace Go.Proofs.YtieepbjngolaoaaDoor
open Go.RowKit

theorem checkEn_awS : checkEn (entN awS 1 100) = 0 := by decide +kernel
theorem wrap105 : IntKind.i64.wrap (5 + 100) = 105 := by decide +kernel
/-- The closed case's entry. -/
def awX : Ent := ⟨⟨#[110, 108, 49, 58, 114, 49, 58, 103, 101]⟩, 5, 1, fireB, 105⟩
theorem need1 : needN zeroE false fireB 5 10 = true := by decide +kernel
theorem need2 : needN awX true fireB 14 10 = false := by decide +kernel
theorem need3 : needN awX true fireB 15 10 = true := by decide +kernel
theorem need4 : needN awX true calmB 6 10 = true := by decide +kernel
theorem need5 : needN zeroE false calmB 5 10 = false := by decide +kernel

set_option maxRecDepth 100000 in
set_option maxHeartbeats 4000000 in
theorem fawake_any (B : Nat) (w : World) (hB : B ≤ w.heap.size) (hv : VarsOk B w) :
    Calls Tryd.prog 7 #[] w fun e w' => e = .returned (.bool true) ∧ Below w.heap.size w w' := by
  have HE : Hid (Calls Tryd.prog 10 #[.agg #[.string ⟨#[114]⟩, .string ⟨#[103]⟩, .string ⟨#[108, 49, 58, 97, 105, 49, 101, 101]⟩, .int .i64 5], .int .u16 1, .int .i64 100] w fun e w' => e = .returned (.tuple #[.agg #[.string ⟨#[110, 108, 49, 58, 114, 49, 58, 103, 101]⟩, .int .i64 5, .int .u16 1, .string ⟨#[108, 49, 58, 97, 105, 49, 101, 101]⟩, .int .i64 105], .int .i64 0]) ∧ Below w.heap.size w w') := Lib.hid (by
    have h := fEntry_ok awS 1 100 B w hB hv (by decide) (by decide) (by decide) (by decide) checkEn_awS
    rw [aw_key] at h
    exact h)
  have HN1 : Hid (∀ u, Below w.heap.size w u → Calls Tryd.prog 9 #[.agg #[.string ⟨#[]⟩, .int .i64 0, .int .u16 0, .string ⟨#[]⟩, .int .i64 0], .bool false, .string ⟨#[108, 49, 58, 97, 105, 49, 101, 101]⟩, .int .i64 5, .int .i64 10] u fun e w' => e = .returned (.bool true) ∧ Below u.heap.size u w') := Lib.hid (fun u hu => by have h := fNeed_any zeroE false fireB 5 10 (by decide) (by decide) B u (Nat.le_trans hB hu.size) (hv.on (hu.mono hB)); rw [need1] at h; exact h)
  have HN2 : Hid (∀ u, Below w.heap.size w u → Calls Tryd.prog 9 #[.agg #[.string ⟨#[110, 108, 49, 58, 114, 49, 58, 103, 101]⟩, .int .i64 5, .int .u16 1, .string ⟨#[108, 49, 58, 97, 105, 49, 101, 101]⟩, .int .i64 105], .bool true, .string ⟨#[108, 49, 58, 97, 105, 49, 101, 101]⟩, .int .i64 14, .int .i64 10] u fun e w' => e = .returned (.bool false) ∧ Below u.heap.size u w') := Lib.hid (fun u hu => by have h := fNeed_any awX true fireB 14 10 (by decide) (by decide) B u (Nat.le_trans hB hu.size) (hv.on (hu.mono hB)); rw [need2] at h; exact h)
  have HN3 : Hid (∀ u, Below w.heap.size w u → Calls Tryd.prog 9 #[.agg #[.string ⟨#[110, 108, 49, 58, 114, 49, 58, 103, 101]⟩, .int .i64 5, .int .u16 1, .string ⟨#[108, 49, 58, 97, 105, 49, 101, 101]⟩, .int .i64 105], .bool true, .string ⟨#[108, 49, 58, 97, 105, 49, 101, 101]⟩, .int .i64 15, .int .i64 10] u fun e w' => e = .returned (.bool true) ∧ Below u.heap.size u w') := Lib.hid (fun u hu => by have h := fNeed_any awX true fireB 15 10 (by decide) (by decide) B u (Nat.le_trans hB hu.size) (hv.on (hu.mono hB)); rw [need3] at h; exact h)
  have HN4 : Hid (∀ u, Below w.heap.size w u → Calls Tryd.prog 9 #[.agg #[.string ⟨#[110, 108, 49, 58, 114, 49, 58, 103, 101]⟩, .int .i64 5, .int .u16 1, .string ⟨#[108, 49, 58, 97, 105, 49, 101, 101]⟩, .int .i64 105], .bool true, .string ⟨#[108, 49, 58, 97, 105, 48, 101, 101]⟩, .int .i64 6, .int .i64 10] u fun e w' => e = .returned (.bool true) ∧ Below u.heap.size u w') := Lib.hid (fun u hu => by have h := fNeed_any awX true calmB 6 10 (by decide) (by decide) B u (Nat.le_trans hB hu.size) (hv.on (hu.mono hB)); rw [need4] at h; exact h)
  have HN5 : Hid (∀ u, Below w.heap.size w u → Calls Tryd.prog 9 #[.agg #[.string ⟨#[]⟩, .int .i64 0, .int .u16 0, .string ⟨#[]⟩, .int .i64 0], .bool false, .string ⟨#[108, 49, 58, 97, 105, 48, 101, 101]⟩, .int .i64 5, .int .i64 10] u fun e w' => e = .returned (.bool false) ∧ Below u.heap.size u w') := Lib.hid (fun u hu => by have h := fNeed_any zeroE false calmB 5 10 (by decide) (by decide) B u (Nat.le_trans hB hu.size) (hv.on (hu.mono hB)); rw [need5] at h; exact h)
  clear hB hv
  go_enter Tryd.func7, Tryd.ntmps7
  go_wp2_with (go_at_call 10; refine HE.out.mono ?_; rintro e w1 ⟨rfl, q1⟩; refine Hid.out ?_)
  refine Lib.hid ?_
  have b1 := EBlk.new w1 awX
  have d1 := (Below.refl w1.heap.size w1).alloc (Nat.le_refl _) (.cells #[.string ⟨#[110, 108, 49, 58, 114, 49, 58, 103, 101]⟩, .int .i64 5, .int .u16 1, .string ⟨#[108, 49, 58, 97, 105, 49, 101, 101]⟩, .int .i64 105] 24)
  have D1 := q1.trans (d1.mono q1.size)
  have HZ1 := Lib.hid (And.intro b1 D1)
  clear b1 d1 D1 q1 HE
  have k0 := HZ1.out.1.c0; have k4 := HZ1.out.1.c4; have k1 := HZ1.out.1.c1; have k2 := HZ1.out.1.c2; have k3 := HZ1.out.1.c3
  dsimp only [awX, fireB] at k0 k1 k2 k3 k4
  go_wp2_with (go_at_call 9; refine (HN1.out _ HZ1.out.2).mono ?_; rintro e u1 ⟨rfl, p1⟩; refine Hid.out ?_)
  refine Lib.hid ?_
  clear k0 k1 k2 k3 k4
  have HZ2 := Lib.hid (And.intro (HZ1.out.1.on p1) (HZ1.out.2.trans (p1.mono HZ1.out.2.size)))
  have k0 := HZ2.out.1.c0; have k4 := HZ2.out.1.c4; have k1 := HZ2.out.1.c1; have k2 := HZ2.out.1.c2; have k3 := HZ2.out.1.c3
  dsimp only [awX, fireB] at k0 k1 k2 k3 k4
  clear p1 HN1
  go_wp2_with (go_at_call 9; refine (HN2.out _ HZ2.out.2).mono ?_; rintro e u2 ⟨rfl, p2⟩; refine Hid.out ?_)
  refine Lib.hid ?_
  clear k0 k1 k2 k3 k4
  have HZ3 := Lib.hid (And.intro (HZ2.out.1.on p2) (HZ2.out.2.trans (p2.mono HZ2.out.2.size)))
  have k0 := HZ3.out.1.c0; have k4 := HZ3.out.1.c4; have k1 := HZ3.out.1.c1; have k2 := HZ3.out.1.c2; have k3 := HZ3.out.1.c3
  dsimp only [awX, fireB] at k0 k1 k2 k3 k4
  clear p2 HN2
  go_wp2_with (go_at_call 9; refine (HN3.out _ HZ3.out.2).mono ?_; rintro e u3 ⟨rfl, p3⟩; refine Hid.out ?_)
  refine Lib.hid ?_
  clear k0 k1 k2 k3 k4
  have HZ4 := Lib.hid (And.intro (HZ3.out.1.on p3) (HZ3.out.2.trans (p3.mono HZ3.out.2.size)))
  have k0 := HZ4.out.1.c0; have k4 := HZ4.out.1.c4; have k1 := HZ4.out.1.c1; have k2 := HZ4.out.1.c2; have k3 := HZ4.out.1.c3
  dsimp only [awX, fireB] at k0 k1 k2 k3 k4
  clear p3 HN3
  go_wp2_with (go_at_call 9; refine (HN4.out _ HZ4.out.2).mono ?_; rintro e u4 ⟨rfl, p4⟩; refine Hid.out ?_)
  refine Lib.hid ?_
  clear k0 k1 k2 k3 k4
  have HZ5 := Lib.hid (And.intro (HZ4.out.1.on p4) (HZ4.out.2.trans (p4.mono HZ4.out.2.size)))
  have k0 := HZ5.out.1.c0; have k4 := HZ5.out.1.c4; have k1 := HZ5.out.1.c1; have k2 := HZ5.out.1.c2; have k3 := HZ5.out.1.c3
  dsimp only [awX, fireB] at k0 k1 k2 k3 k4
  clear p4 HN4
  go_wp2_with (go_at_call 9; refine (HN5.out _ HZ5.out.2).mono ?_; rintro e u5 ⟨rfl, p5⟩; refine Hid.out ?_)
  refine Lib.hid ?_
  clear k0 k1 k2 k3 k4
  have HZ6 := Lib.hid (And.intro (HZ5.out.1.on p5) (HZ5.out.2.trans (p5.mono HZ5.out.2.size)))
  have k0 := HZ6.out.1.c0; have k4 := HZ6.out.1.c4; have k1 := HZ6.out.1.c1; have k2 := HZ6.out.1.c2; have k3 := HZ6.out.1.c3
  dsimp only [awX, fireB] at k0 k1 k2 k3 k4
  clear p5 HN5
  go_wp2
  go_ret
  exact ⟨rfl, HZ6.out.2⟩

end Go.Proofs.YtieepbjngolaoaaDoor
