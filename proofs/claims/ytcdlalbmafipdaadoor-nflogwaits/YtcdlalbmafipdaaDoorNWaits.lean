/-
  The walk of NflogWaits.
-/
import Derived.Test.YtcdlalbmafipdaaDoorN4
namespace Go.Proofs.YtcdlalbmafipdaaDoor
open Go.RowKit

/-- A block of two truth values. -/
def BoBlk (w : World) (B : Nat) (f g : Bool) : Prop := w.heap[B]? = some (.cells #[.bool f, .bool g] 47 (0, 0))
theorem BoBlk.c0 {w : World} {B : Nat} {f g : Bool} (h : BoBlk w B f g) : w.cell? ⟨B, 0, none⟩ = some (.bool f) := cellE h
theorem BoBlk.c1 {w : World} {B : Nat} {f g : Bool} (h : BoBlk w B f g) : w.cell? ⟨B, 1, none⟩ = some (.bool g) := cellE h
/-- The entry of what was sent. -/
def waX (v : ByteArray) (t u : Int) : Ent := ⟨⟨#[110, 108, 49, 58, 114, 49, 58, 103, 101]⟩, t, 1, v, u⟩
theorem beq_self (v : ByteArray) : (v.toList == v.toList) = true := by simp
theorem need_early (v : ByteArray) (t p u : Int) (hp : 0 < p) (hp2 : p < 1073741824) : needN (waX v t u) true v (t + p - 1) p = false := by
  unfold needN waX
  rw [if_pos rfl, if_neg (by dsimp only; omega), if_pos (beq_self v)]
  have : overN t (t + p - 1) p = false := by
    unfold overN
    have : decide (p ≤ IntKind.i64.wrap (t + p - 1 - t)) = false := by rw [IntKind.wrap_i64]; simp; omega
    rw [this]
    simp
  rw [this, Bool.and_false]
theorem need_late (v : ByteArray) (t p u : Int) (ht : 0 ≤ t) (hp : 0 ≤ p) (ht2 : t < 1073741824) (hp2 : p < 1073741824) : needN (waX v t u) true v (t + p) p = somF v := by
  unfold needN waX
  rw [if_pos rfl, if_neg (by dsimp only; omega), if_pos (beq_self v)]
  have : overN t (t + p) p = true := by
    unfold overN
    have : decide (p ≤ IntKind.i64.wrap (t + p - t)) = true := by rw [IntKind.wrap_i64]; simp; omega
    rw [this]
    simp [isT]
    omega
  rw [this, Bool.and_true]
theorem need_change (v v' : ByteArray) (t p u : Int) (h : (v.toList == v'.toList) = false) (hs : (somF v || somF v') = true) : needN (waX v t u) true v' t p = true := by
  unfold needN waX
  rw [if_pos rfl, if_neg (by dsimp only; omega), if_neg (by dsimp only; rw [h]; exact Bool.false_ne_true)]
  exact hs
theorem check_wa (v : ByteArray) (hv : v.size ≤ 8192) (t : Int) (ht : 0 ≤ t) (ht2 : t < 1073741824) : checkEn (entN ⟨⟨#[114]⟩, ⟨#[103]⟩, v, t⟩ 1 5) = 0 := by
  have hk : (keyN ⟨#[114]⟩ ⟨#[103]⟩).size = 9 := by decide +kernel
  unfold checkEn entN
  dsimp only
  rw [hk, if_neg (by omega), if_neg (by rw [IntKind.wrap_i64]; omega)]

set_option maxRecDepth 100000 in
set_option maxHeartbeats 4000000 in
theorem waits_truetrue (a b : Int) (ha : 0 ≤ a ∧ a ≤ 4294967295) (hb : 0 ≤ b ∧ b ≤ 4294967295) (W : World) (hv : VarsOk W.heap.size W) :
    Calls Tryd.prog 8 #[.int .u32 a, .int .u32 b, .agg #[.bool true, .bool true]] W fun e w' => e = .returned (.bool true) ∧ Below W.heap.size W w' := by
  obtain ⟨t, ht⟩ : ∃ t, Int.tmod a 1073741824 = t := ⟨_, rfl⟩
  obtain ⟨p, hp⟩ : ∃ p, Int.tmod b 1073741824 = p := ⟨_, rfl⟩
  have wa : IntKind.i64.wrap a = a := by rw [IntKind.wrap_i64]; omega
  have wb : IntKind.i64.wrap b = b := by rw [IntKind.wrap_i64]; omega
  have ht0 : 0 ≤ t ∧ t < 1073741824 := by rw [← ht, Int.tmod_eq_emod_of_nonneg ha.1]; omega
  have hp0 : 0 ≤ p ∧ p < 1073741824 := by rw [← hp, Int.tmod_eq_emod_of_nonneg hb.1]; omega
  have wt : IntKind.i64.wrap t = t := by rw [IntKind.wrap_i64]; omega
  have wp : IntKind.i64.wrap p = p := by rw [IntKind.wrap_i64]; omega
  obtain ⟨s, hs⟩ : ∃ s, s = t + p := ⟨_, rfl⟩
  have ws : IntKind.i64.wrap (t + p) = s := by rw [IntKind.wrap_i64]; omega
  obtain ⟨s1, hs1⟩ : ∃ s1, s1 = t + p - 1 := ⟨_, rfl⟩
  have ws1 : IntKind.i64.wrap (s - 1) = s1 := by rw [IntKind.wrap_i64]; omega
  obtain ⟨u, hu⟩ : ∃ u, IntKind.i64.wrap (t + 5) = u := ⟨_, rfl⟩
  have HE : Hid (∀ w, Below W.heap.size W w → Calls Tryd.prog 10 #[.agg #[.string ⟨#[114]⟩, .string ⟨#[103]⟩, .string ⟨#[108, 49, 58, 97, 105, 49, 101, 101]⟩, .int .i64 t], .int .u16 1, .int .i64 5] w fun e w' => e = .returned (.tuple #[.agg #[.string ⟨#[110, 108, 49, 58, 114, 49, 58, 103, 101]⟩, .int .i64 t, .int .u16 1, .string ⟨#[108, 49, 58, 97, 105, 49, 101, 101]⟩, .int .i64 u], .int .i64 0]) ∧ Below w.heap.size w w') := Lib.hid (fun w hw => by
    have h := fEntry_ok ⟨⟨#[114]⟩, ⟨#[103]⟩, fireB, t⟩ 1 5 W.heap.size w hw.size (hv.on hw) (by dsimp only; decide) (by dsimp only; decide) (by dsimp only; decide) (by dsimp only; decide) (check_wa _ (by decide) t ht0.1 ht0.2)
    have hk : keyN ⟨#[114]⟩ ⟨#[103]⟩ = ⟨#[110, 108, 49, 58, 114, 49, 58, 103, 101]⟩ := aw_key
    dsimp only at h
    rw [hk, hu] at h
    exact h)
  have HL : Hid (∀ w, Below W.heap.size W w → Calls Tryd.prog 16 #[.agg #[.string ⟨#[110, 108, 49, 58, 114, 49, 58, 103, 101]⟩, .int .i64 t, .int .u16 1, .string ⟨#[108, 49, 58, 97, 105, 49, 101, 101]⟩, .int .i64 u], .bool true, .string ⟨#[108, 49, 58, 97, 105, 49, 101, 101]⟩, .int .i64 s, .int .i64 p] w fun e w' => e = .returned (.bool true) ∧ Below w.heap.size w w') := Lib.hid (fun w hw => by
    have h := fNeed_any (waX fireB t u) true fireB s p (by dsimp only [waX]; decide) (by decide) W.heap.size w hw.size (hv.on hw)
    rw [hs, need_late _ t p u ht0.1 hp0.1 ht0.2 hp0.2, som_fire] at h
    rw [hs]
    exact h)
  obtain ⟨ch, hch⟩ : ∃ ch, needN (waX fireB t u) true fireB t p = ch := ⟨_, rfl⟩
  have HC : Hid (∀ w, Below W.heap.size W w → Calls Tryd.prog 16 #[.agg #[.string ⟨#[110, 108, 49, 58, 114, 49, 58, 103, 101]⟩, .int .i64 t, .int .u16 1, .string ⟨#[108, 49, 58, 97, 105, 49, 101, 101]⟩, .int .i64 u], .bool true, .string ⟨#[108, 49, 58, 97, 105, 49, 101, 101]⟩, .int .i64 t, .int .i64 p] w fun e w' => e = .returned (.bool ch) ∧ Below w.heap.size w w') := Lib.hid (fun w hw => by
    have h := fNeed_any (waX fireB t u) true fireB t p (by dsimp only [waX]; decide) (by decide) W.heap.size w hw.size (hv.on hw)
    rw [hch] at h
    exact h)
  have HA : Hid (∀ w, Below W.heap.size W w → Calls Tryd.prog 9 #[] w fun e w' => e = .returned (.bool true) ∧ Below w.heap.size w w') := Lib.hid (fun w hw => fawake_any W.heap.size w hw.size (hv.on hw))
  have d1 := (Below.refl W.heap.size W).alloc (Nat.le_refl _) (.cells #[.bool true, .bool true] 47)
  have b1 : BoBlk (W.alloc (.cells #[.bool true, .bool true] 47)) W.heap.size true true := newE W _
  have HZ := Lib.hid (And.intro b1 d1)
  have HP : Hid (0 < p → ∀ w, Below W.heap.size W w → Calls Tryd.prog 16 #[.agg #[.string ⟨#[110, 108, 49, 58, 114, 49, 58, 103, 101]⟩, .int .i64 t, .int .u16 1, .string ⟨#[108, 49, 58, 97, 105, 49, 101, 101]⟩, .int .i64 u], .bool true, .string ⟨#[108, 49, 58, 97, 105, 49, 101, 101]⟩, .int .i64 s1, .int .i64 p] w fun e w' => e = .returned (.bool false) ∧ Below w.heap.size w w') := Lib.hid (fun hpp w hw => by
    have h := fNeed_any (waX fireB t u) true fireB s1 p (by dsimp only [waX]; decide) (by decide) W.heap.size w hw.size (hv.on hw)
    rw [hs1, need_early _ t p u hpp hp0.2] at h
    rw [hs1]
    exact h)
  clear b1 d1 hv ha hb hs hs1 hch hu ht0
  go_enter Tryd.func8, Tryd.ntmps8
  go_wp2_with fail
  obtain ⟨b1, d1⟩ := HZ.out
  clear HZ
  generalize hw2 : W.alloc (.cells #[.bool true, .bool true] 47) = w2 at *
  clear hw2
  refine wp_region_any (by kernel_rfl) ?_
  change wpAny _ _ _ _ _ _ _ (World.drew _)
  have hS : (fun w' : World => BoBlk w' W.heap.size true true ∧ Below W.heap.size W w') w2.drew := ⟨b1, d1.drew⟩
  refine wpAny_of_held (S := fun w' => BoBlk w' W.heap.size true true ∧ Below W.heap.size W w') _ _ _ _ ?_
  clear b1 d1
  refine wpAnyH_takeE (i := 0) (some 17) (v := ?_) rfl rfl (by as_aux_lemma => kernel_rfl) (by as_aux_lemma => kernel_rfl) (by as_aux_lemma => kernel_rfl) (fun _ _ _ h => h) (Or.inl ⟨by kernel_rfl, ?_⟩) hS ?_
  rotate_left
  · intro w hSw; have x0 := hSw.1.c0; have x1 := hSw.1.c1; go_simp
    first | done | with_reducible rfl
  refine wpAnyH_takeE (i := 1) (some 18) (v := ?_) rfl rfl (by as_aux_lemma => kernel_rfl) (by as_aux_lemma => kernel_rfl) (by as_aux_lemma => kernel_rfl) (fun _ _ _ h => h) (Or.inl ⟨by kernel_rfl, ?_⟩) hS ?_
  rotate_left
  · intro w hSw; have x0 := hSw.1.c0; have x1 := hSw.1.c1; go_simp
    first | done | with_reducible rfl
  refine wpAnyH_takeE (i := 2) (some 19) (v := ?_) rfl rfl (by as_aux_lemma => kernel_rfl) (by as_aux_lemma => kernel_rfl) (by as_aux_lemma => kernel_rfl) (fun _ _ _ h => h) (Or.inl ⟨by kernel_rfl, ?_⟩) hS ?_
  rotate_left
  · intro w hSw; have x0 := hSw.1.c0; have x1 := hSw.1.c1; go_simp
    first | done | with_reducible rfl
  refine wpAnyH_takeE (i := 3) (some 20) (v := ?_) rfl rfl (by as_aux_lemma => kernel_rfl) (by as_aux_lemma => kernel_rfl) (by as_aux_lemma => kernel_rfl) (fun _ _ _ h => h) (Or.inl ⟨by kernel_rfl, ?_⟩) hS ?_
  rotate_left
  · intro w hSw; have x0 := hSw.1.c0; have x1 := hSw.1.c1; go_simp
    first | done | with_reducible rfl
  refine wpAnyH_takeE (i := 4) (some 7) (v := ?_) rfl rfl (by as_aux_lemma => kernel_rfl) (by as_aux_lemma => kernel_rfl) (by as_aux_lemma => kernel_rfl) (fun _ _ _ h => h) (Or.inl ⟨by kernel_rfl, ?_⟩) hS ?_
  rotate_left
  · intro w hSw; have x0 := hSw.1.c0; have x1 := hSw.1.c1; go_simp
    first | done | with_reducible rfl
  refine wpAnyH_takeE (i := 5) (some 8) (v := ?_) rfl rfl (by as_aux_lemma => kernel_rfl) (by as_aux_lemma => kernel_rfl) (by as_aux_lemma => kernel_rfl) (fun _ _ _ h => h) (Or.inl ⟨by kernel_rfl, ?_⟩) hS ?_
  rotate_left
  · intro w hSw; have x0 := hSw.1.c0; have x1 := hSw.1.c1; go_simp
    first | done | with_reducible rfl
  have h5 := Lib.hid hS.2
  clear hS
  refine wpAnyH_done (by kernel_rfl) ?_ _
  go_simp
  by_cases hpp : 0 < p
  · skip
    go_wp2_with (go_at_call 10; refine (HE.out _ h5.out).mono ?_; rintro e w3 ⟨rfl, q3⟩; refine Hid.out ?_)
    refine Lib.hid ?_
    have b3 := EBlk.new w3 (waX ⟨#[108, 49, 58, 97, 105, 49, 101, 101]⟩ t u)
    have d3 := (Below.refl w3.heap.size w3).alloc (Nat.le_refl _) (.cells #[.string ⟨#[110, 108, 49, 58, 114, 49, 58, 103, 101]⟩, .int .i64 t, .int .u16 1, .string ⟨#[108, 49, 58, 97, 105, 49, 101, 101]⟩, .int .i64 u] 27)
    have D2 := h5.out.trans (q3.mono h5.out.size)
    have HZ1 := Lib.hid (And.intro b3 (D2.trans (d3.mono D2.size)))
    clear b3 d3 D2 q3 HE
    have k0 := HZ1.out.1.c0; have k4 := HZ1.out.1.c4; have k1 := HZ1.out.1.c1; have k2 := HZ1.out.1.c2; have k3 := HZ1.out.1.c3
    dsimp only [waX] at k0 k1 k2 k3 k4
    go_wp2_with (go_at_call 16; refine (HP.out hpp _ HZ1.out.2).mono ?_; rintro e u1 ⟨rfl, p1⟩; refine Hid.out ?_)
    refine Lib.hid ?_
    clear k0 k1 k2 k3 k4
    have HZ2 := Lib.hid (And.intro (HZ1.out.1.on p1) (HZ1.out.2.trans (p1.mono HZ1.out.2.size)))
    have k0 := HZ2.out.1.c0; have k4 := HZ2.out.1.c4; have k1 := HZ2.out.1.c1; have k2 := HZ2.out.1.c2; have k3 := HZ2.out.1.c3
    dsimp only [waX] at k0 k1 k2 k3 k4
    clear p1 HP
    go_wp2_with (go_at_call 16; refine (HC.out _ HZ2.out.2).mono ?_; rintro e u2 ⟨rfl, p2⟩; refine Hid.out ?_)
    refine Lib.hid ?_
    clear k0 k1 k2 k3 k4
    have HZ3 := Lib.hid (And.intro (HZ2.out.1.on p2) (HZ2.out.2.trans (p2.mono HZ2.out.2.size)))
    have k0 := HZ3.out.1.c0; have k4 := HZ3.out.1.c4; have k1 := HZ3.out.1.c1; have k2 := HZ3.out.1.c2; have k3 := HZ3.out.1.c3
    dsimp only [waX] at k0 k1 k2 k3 k4
    clear p2 HC
    go_wp2_with (go_at_call 16; refine (HL.out _ HZ3.out.2).mono ?_; rintro e u3 ⟨rfl, p3⟩; refine Hid.out ?_)
    refine Lib.hid ?_
    clear k0 k1 k2 k3 k4
    have HZ4 := Lib.hid (And.intro (HZ3.out.1.on p3) (HZ3.out.2.trans (p3.mono HZ3.out.2.size)))
    have k0 := HZ4.out.1.c0; have k4 := HZ4.out.1.c4; have k1 := HZ4.out.1.c1; have k2 := HZ4.out.1.c2; have k3 := HZ4.out.1.c3
    dsimp only [waX] at k0 k1 k2 k3 k4
    clear p3 HL
    go_wp2_with (go_at_call 9; refine (HA.out _ HZ4.out.2).mono ?_; rintro e u9 ⟨rfl, p9⟩; replace p9 := Lib.hid p9; refine Hid.out ?_)
    refine Lib.hid ?_
    go_wp2
    go_ret
    exact ⟨rfl, HZ4.out.2.trans (p9.out.mono HZ4.out.2.size)⟩
  · skip
    go_wp2_with (go_at_call 10; refine (HE.out _ h5.out).mono ?_; rintro e w3 ⟨rfl, q3⟩; refine Hid.out ?_)
    refine Lib.hid ?_
    have b3 := EBlk.new w3 (waX ⟨#[108, 49, 58, 97, 105, 49, 101, 101]⟩ t u)
    have d3 := (Below.refl w3.heap.size w3).alloc (Nat.le_refl _) (.cells #[.string ⟨#[110, 108, 49, 58, 114, 49, 58, 103, 101]⟩, .int .i64 t, .int .u16 1, .string ⟨#[108, 49, 58, 97, 105, 49, 101, 101]⟩, .int .i64 u] 27)
    have D2 := h5.out.trans (q3.mono h5.out.size)
    have HZ1 := Lib.hid (And.intro b3 (D2.trans (d3.mono D2.size)))
    clear b3 d3 D2 q3 HE
    have k0 := HZ1.out.1.c0; have k4 := HZ1.out.1.c4; have k1 := HZ1.out.1.c1; have k2 := HZ1.out.1.c2; have k3 := HZ1.out.1.c3
    dsimp only [waX] at k0 k1 k2 k3 k4
    go_wp2_with (go_at_call 16; refine (HC.out _ HZ1.out.2).mono ?_; rintro e u1 ⟨rfl, p1⟩; refine Hid.out ?_)
    refine Lib.hid ?_
    clear k0 k1 k2 k3 k4
    have HZ2 := Lib.hid (And.intro (HZ1.out.1.on p1) (HZ1.out.2.trans (p1.mono HZ1.out.2.size)))
    have k0 := HZ2.out.1.c0; have k4 := HZ2.out.1.c4; have k1 := HZ2.out.1.c1; have k2 := HZ2.out.1.c2; have k3 := HZ2.out.1.c3
    dsimp only [waX] at k0 k1 k2 k3 k4
    clear p1 HC
    go_wp2_with (go_at_call 16; refine (HL.out _ HZ2.out.2).mono ?_; rintro e u2 ⟨rfl, p2⟩; refine Hid.out ?_)
    refine Lib.hid ?_
    clear k0 k1 k2 k3 k4
    have HZ3 := Lib.hid (And.intro (HZ2.out.1.on p2) (HZ2.out.2.trans (p2.mono HZ2.out.2.size)))
    have k0 := HZ3.out.1.c0; have k4 := HZ3.out.1.c4; have k1 := HZ3.out.1.c1; have k2 := HZ3.out.1.c2; have k3 := HZ3.out.1.c3
    dsimp only [waX] at k0 k1 k2 k3 k4
    clear p2 HL
    go_wp2_with (go_at_call 9; refine (HA.out _ HZ3.out.2).mono ?_; rintro e u9 ⟨rfl, p9⟩; replace p9 := Lib.hid p9; refine Hid.out ?_)
    refine Lib.hid ?_
    go_wp2
    go_ret
    exact ⟨rfl, HZ3.out.2.trans (p9.out.mono HZ3.out.2.size)⟩
set_option maxRecDepth 100000 in
set_option maxHeartbeats 4000000 in
theorem waits_truefalse (a b : Int) (ha : 0 ≤ a ∧ a ≤ 4294967295) (hb : 0 ≤ b ∧ b ≤ 4294967295) (W : World) (hv : VarsOk W.heap.size W) :
    Calls Tryd.prog 8 #[.int .u32 a, .int .u32 b, .agg #[.bool true, .bool false]] W fun e w' => e = .returned (.bool true) ∧ Below W.heap.size W w' := by
  obtain ⟨t, ht⟩ : ∃ t, Int.tmod a 1073741824 = t := ⟨_, rfl⟩
  obtain ⟨p, hp⟩ : ∃ p, Int.tmod b 1073741824 = p := ⟨_, rfl⟩
  have wa : IntKind.i64.wrap a = a := by rw [IntKind.wrap_i64]; omega
  have wb : IntKind.i64.wrap b = b := by rw [IntKind.wrap_i64]; omega
  have ht0 : 0 ≤ t ∧ t < 1073741824 := by rw [← ht, Int.tmod_eq_emod_of_nonneg ha.1]; omega
  have hp0 : 0 ≤ p ∧ p < 1073741824 := by rw [← hp, Int.tmod_eq_emod_of_nonneg hb.1]; omega
  have wt : IntKind.i64.wrap t = t := by rw [IntKind.wrap_i64]; omega
  have wp : IntKind.i64.wrap p = p := by rw [IntKind.wrap_i64]; omega
  obtain ⟨s, hs⟩ : ∃ s, s = t + p := ⟨_, rfl⟩
  have ws : IntKind.i64.wrap (t + p) = s := by rw [IntKind.wrap_i64]; omega
  obtain ⟨s1, hs1⟩ : ∃ s1, s1 = t + p - 1 := ⟨_, rfl⟩
  have ws1 : IntKind.i64.wrap (s - 1) = s1 := by rw [IntKind.wrap_i64]; omega
  obtain ⟨u, hu⟩ : ∃ u, IntKind.i64.wrap (t + 5) = u := ⟨_, rfl⟩
  have HE : Hid (∀ w, Below W.heap.size W w → Calls Tryd.prog 10 #[.agg #[.string ⟨#[114]⟩, .string ⟨#[103]⟩, .string ⟨#[108, 49, 58, 97, 105, 49, 101, 101]⟩, .int .i64 t], .int .u16 1, .int .i64 5] w fun e w' => e = .returned (.tuple #[.agg #[.string ⟨#[110, 108, 49, 58, 114, 49, 58, 103, 101]⟩, .int .i64 t, .int .u16 1, .string ⟨#[108, 49, 58, 97, 105, 49, 101, 101]⟩, .int .i64 u], .int .i64 0]) ∧ Below w.heap.size w w') := Lib.hid (fun w hw => by
    have h := fEntry_ok ⟨⟨#[114]⟩, ⟨#[103]⟩, fireB, t⟩ 1 5 W.heap.size w hw.size (hv.on hw) (by dsimp only; decide) (by dsimp only; decide) (by dsimp only; decide) (by dsimp only; decide) (check_wa _ (by decide) t ht0.1 ht0.2)
    have hk : keyN ⟨#[114]⟩ ⟨#[103]⟩ = ⟨#[110, 108, 49, 58, 114, 49, 58, 103, 101]⟩ := aw_key
    dsimp only at h
    rw [hk, hu] at h
    exact h)
  have HL : Hid (∀ w, Below W.heap.size W w → Calls Tryd.prog 16 #[.agg #[.string ⟨#[110, 108, 49, 58, 114, 49, 58, 103, 101]⟩, .int .i64 t, .int .u16 1, .string ⟨#[108, 49, 58, 97, 105, 49, 101, 101]⟩, .int .i64 u], .bool true, .string ⟨#[108, 49, 58, 97, 105, 49, 101, 101]⟩, .int .i64 s, .int .i64 p] w fun e w' => e = .returned (.bool true) ∧ Below w.heap.size w w') := Lib.hid (fun w hw => by
    have h := fNeed_any (waX fireB t u) true fireB s p (by dsimp only [waX]; decide) (by decide) W.heap.size w hw.size (hv.on hw)
    rw [hs, need_late _ t p u ht0.1 hp0.1 ht0.2 hp0.2, som_fire] at h
    rw [hs]
    exact h)
  obtain ⟨ch, hch⟩ : ∃ ch, needN (waX fireB t u) true calmB t p = ch := ⟨_, rfl⟩
  have HC : Hid (∀ w, Below W.heap.size W w → Calls Tryd.prog 16 #[.agg #[.string ⟨#[110, 108, 49, 58, 114, 49, 58, 103, 101]⟩, .int .i64 t, .int .u16 1, .string ⟨#[108, 49, 58, 97, 105, 49, 101, 101]⟩, .int .i64 u], .bool true, .string ⟨#[108, 49, 58, 97, 105, 48, 101, 101]⟩, .int .i64 t, .int .i64 p] w fun e w' => e = .returned (.bool ch) ∧ Below w.heap.size w w') := Lib.hid (fun w hw => by
    have h := fNeed_any (waX fireB t u) true calmB t p (by dsimp only [waX]; decide) (by decide) W.heap.size w hw.size (hv.on hw)
    rw [hch] at h
    exact h)
  have hct : ch = true := by rw [← hch]; exact need_change _ _ t p u (by decide +kernel) (by decide +kernel)
  subst hct
  have HA : Hid (∀ w, Below W.heap.size W w → Calls Tryd.prog 9 #[] w fun e w' => e = .returned (.bool true) ∧ Below w.heap.size w w') := Lib.hid (fun w hw => fawake_any W.heap.size w hw.size (hv.on hw))
  have d1 := (Below.refl W.heap.size W).alloc (Nat.le_refl _) (.cells #[.bool true, .bool false] 47)
  have b1 : BoBlk (W.alloc (.cells #[.bool true, .bool false] 47)) W.heap.size true false := newE W _
  have HZ := Lib.hid (And.intro b1 d1)
  have HP : Hid (0 < p → ∀ w, Below W.heap.size W w → Calls Tryd.prog 16 #[.agg #[.string ⟨#[110, 108, 49, 58, 114, 49, 58, 103, 101]⟩, .int .i64 t, .int .u16 1, .string ⟨#[108, 49, 58, 97, 105, 49, 101, 101]⟩, .int .i64 u], .bool true, .string ⟨#[108, 49, 58, 97, 105, 49, 101, 101]⟩, .int .i64 s1, .int .i64 p] w fun e w' => e = .returned (.bool false) ∧ Below w.heap.size w w') := Lib.hid (fun hpp w hw => by
    have h := fNeed_any (waX fireB t u) true fireB s1 p (by dsimp only [waX]; decide) (by decide) W.heap.size w hw.size (hv.on hw)
    rw [hs1, need_early _ t p u hpp hp0.2] at h
    rw [hs1]
    exact h)
  clear b1 d1 hv ha hb hs hs1 hch hu ht0
  go_enter Tryd.func8, Tryd.ntmps8
  go_wp2_with fail
  obtain ⟨b1, d1⟩ := HZ.out
  clear HZ
  generalize hw2 : W.alloc (.cells #[.bool true, .bool false] 47) = w2 at *
  clear hw2
  refine wp_region_any (by kernel_rfl) ?_
  change wpAny _ _ _ _ _ _ _ (World.drew _)
  have hS : (fun w' : World => BoBlk w' W.heap.size true false ∧ Below W.heap.size W w') w2.drew := ⟨b1, d1.drew⟩
  refine wpAny_of_held (S := fun w' => BoBlk w' W.heap.size true false ∧ Below W.heap.size W w') _ _ _ _ ?_
  clear b1 d1
  refine wpAnyH_takeE (i := 0) (some 17) (v := ?_) rfl rfl (by as_aux_lemma => kernel_rfl) (by as_aux_lemma => kernel_rfl) (by as_aux_lemma => kernel_rfl) (fun _ _ _ h => h) (Or.inl ⟨by kernel_rfl, ?_⟩) hS ?_
  rotate_left
  · intro w hSw; have x0 := hSw.1.c0; have x1 := hSw.1.c1; go_simp
    first | done | with_reducible rfl
  refine wpAnyH_takeE (i := 1) (some 18) (v := ?_) rfl rfl (by as_aux_lemma => kernel_rfl) (by as_aux_lemma => kernel_rfl) (by as_aux_lemma => kernel_rfl) (fun _ _ _ h => h) (Or.inl ⟨by kernel_rfl, ?_⟩) hS ?_
  rotate_left
  · intro w hSw; have x0 := hSw.1.c0; have x1 := hSw.1.c1; go_simp
    first | done | with_reducible rfl
  refine wpAnyH_takeE (i := 2) (some 19) (v := ?_) rfl rfl (by as_aux_lemma => kernel_rfl) (by as_aux_lemma => kernel_rfl) (by as_aux_lemma => kernel_rfl) (fun _ _ _ h => h) (Or.inl ⟨by kernel_rfl, ?_⟩) hS ?_
  rotate_left
  · intro w hSw; have x0 := hSw.1.c0; have x1 := hSw.1.c1; go_simp
    first | done | with_reducible rfl
  refine wpAnyH_takeE (i := 3) (some 20) (v := ?_) rfl rfl (by as_aux_lemma => kernel_rfl) (by as_aux_lemma => kernel_rfl) (by as_aux_lemma => kernel_rfl) (fun _ _ _ h => h) (Or.inl ⟨by kernel_rfl, ?_⟩) hS ?_
  rotate_left
  · intro w hSw; have x0 := hSw.1.c0; have x1 := hSw.1.c1; go_simp
    first | done | with_reducible rfl
  refine wpAnyH_takeE (i := 4) (some 7) (v := ?_) rfl rfl (by as_aux_lemma => kernel_rfl) (by as_aux_lemma => kernel_rfl) (by as_aux_lemma => kernel_rfl) (fun _ _ _ h => h) (Or.inl ⟨by kernel_rfl, ?_⟩) hS ?_
  rotate_left
  · intro w hSw; have x0 := hSw.1.c0; have x1 := hSw.1.c1; go_simp
    first | done | with_reducible rfl
  refine wpAnyH_takeE (i := 5) (some 8) (v := ?_) rfl rfl (by as_aux_lemma => kernel_rfl) (by as_aux_lemma => kernel_rfl) (by as_aux_lemma => kernel_rfl) (fun _ _ _ h => h) (Or.inl ⟨by kernel_rfl, ?_⟩) hS ?_
  rotate_left
  · intro w hSw; have x0 := hSw.1.c0; have x1 := hSw.1.c1; go_simp
    first | done | with_reducible rfl
  have h5 := Lib.hid hS.2
  clear hS
  refine wpAnyH_done (by kernel_rfl) ?_ _
  go_simp
  by_cases hpp : 0 < p
  · skip
    go_wp2_with (go_at_call 10; refine (HE.out _ h5.out).mono ?_; rintro e w3 ⟨rfl, q3⟩; refine Hid.out ?_)
    refine Lib.hid ?_
    have b3 := EBlk.new w3 (waX ⟨#[108, 49, 58, 97, 105, 49, 101, 101]⟩ t u)
    have d3 := (Below.refl w3.heap.size w3).alloc (Nat.le_refl _) (.cells #[.string ⟨#[110, 108, 49, 58, 114, 49, 58, 103, 101]⟩, .int .i64 t, .int .u16 1, .string ⟨#[108, 49, 58, 97, 105, 49, 101, 101]⟩, .int .i64 u] 27)
    have D2 := h5.out.trans (q3.mono h5.out.size)
    have HZ1 := Lib.hid (And.intro b3 (D2.trans (d3.mono D2.size)))
    clear b3 d3 D2 q3 HE
    have k0 := HZ1.out.1.c0; have k4 := HZ1.out.1.c4; have k1 := HZ1.out.1.c1; have k2 := HZ1.out.1.c2; have k3 := HZ1.out.1.c3
    dsimp only [waX] at k0 k1 k2 k3 k4
    go_wp2_with (go_at_call 16; refine (HP.out hpp _ HZ1.out.2).mono ?_; rintro e u1 ⟨rfl, p1⟩; refine Hid.out ?_)
    refine Lib.hid ?_
    clear k0 k1 k2 k3 k4
    have HZ2 := Lib.hid (And.intro (HZ1.out.1.on p1) (HZ1.out.2.trans (p1.mono HZ1.out.2.size)))
    have k0 := HZ2.out.1.c0; have k4 := HZ2.out.1.c4; have k1 := HZ2.out.1.c1; have k2 := HZ2.out.1.c2; have k3 := HZ2.out.1.c3
    dsimp only [waX] at k0 k1 k2 k3 k4
    clear p1 HP
    go_wp2_with (go_at_call 16; refine (HC.out _ HZ2.out.2).mono ?_; rintro e u2 ⟨rfl, p2⟩; refine Hid.out ?_)
    refine Lib.hid ?_
    clear k0 k1 k2 k3 k4
    have HZ3 := Lib.hid (And.intro (HZ2.out.1.on p2) (HZ2.out.2.trans (p2.mono HZ2.out.2.size)))
    have k0 := HZ3.out.1.c0; have k4 := HZ3.out.1.c4; have k1 := HZ3.out.1.c1; have k2 := HZ3.out.1.c2; have k3 := HZ3.out.1.c3
    dsimp only [waX] at k0 k1 k2 k3 k4
    clear p2 HC
    go_wp2_with (go_at_call 16; refine (HL.out _ HZ3.out.2).mono ?_; rintro e u3 ⟨rfl, p3⟩; refine Hid.out ?_)
    refine Lib.hid ?_
    clear k0 k1 k2 k3 k4
    have HZ4 := Lib.hid (And.intro (HZ3.out.1.on p3) (HZ3.out.2.trans (p3.mono HZ3.out.2.size)))
    have k0 := HZ4.out.1.c0; have k4 := HZ4.out.1.c4; have k1 := HZ4.out.1.c1; have k2 := HZ4.out.1.c2; have k3 := HZ4.out.1.c3
    dsimp only [waX] at k0 k1 k2 k3 k4
    clear p3 HL
    go_wp2_with (go_at_call 9; refine (HA.out _ HZ4.out.2).mono ?_; rintro e u9 ⟨rfl, p9⟩; replace p9 := Lib.hid p9; refine Hid.out ?_)
    refine Lib.hid ?_
    go_wp2
    go_ret
    exact ⟨rfl, HZ4.out.2.trans (p9.out.mono HZ4.out.2.size)⟩
  · skip
    go_wp2_with (go_at_call 10; refine (HE.out _ h5.out).mono ?_; rintro e w3 ⟨rfl, q3⟩; refine Hid.out ?_)
    refine Lib.hid ?_
    have b3 := EBlk.new w3 (waX ⟨#[108, 49, 58, 97, 105, 49, 101, 101]⟩ t u)
    have d3 := (Below.refl w3.heap.size w3).alloc (Nat.le_refl _) (.cells #[.string ⟨#[110, 108, 49, 58, 114, 49, 58, 103, 101]⟩, .int .i64 t, .int .u16 1, .string ⟨#[108, 49, 58, 97, 105, 49, 101, 101]⟩, .int .i64 u] 27)
    have D2 := h5.out.trans (q3.mono h5.out.size)
    have HZ1 := Lib.hid (And.intro b3 (D2.trans (d3.mono D2.size)))
    clear b3 d3 D2 q3 HE
    have k0 := HZ1.out.1.c0; have k4 := HZ1.out.1.c4; have k1 := HZ1.out.1.c1; have k2 := HZ1.out.1.c2; have k3 := HZ1.out.1.c3
    dsimp only [waX] at k0 k1 k2 k3 k4
    go_wp2_with (go_at_call 16; refine (HC.out _ HZ1.out.2).mono ?_; rintro e u1 ⟨rfl, p1⟩; refine Hid.out ?_)
    refine Lib.hid ?_
    clear k0 k1 k2 k3 k4
    have HZ2 := Lib.hid (And.intro (HZ1.out.1.on p1) (HZ1.out.2.trans (p1.mono HZ1.out.2.size)))
    have k0 := HZ2.out.1.c0; have k4 := HZ2.out.1.c4; have k1 := HZ2.out.1.c1; have k2 := HZ2.out.1.c2; have k3 := HZ2.out.1.c3
    dsimp only [waX] at k0 k1 k2 k3 k4
    clear p1 HC
    go_wp2_with (go_at_call 16; refine (HL.out _ HZ2.out.2).mono ?_; rintro e u2 ⟨rfl, p2⟩; refine Hid.out ?_)
    refine Lib.hid ?_
    clear k0 k1 k2 k3 k4
    have HZ3 := Lib.hid (And.intro (HZ2.out.1.on p2) (HZ2.out.2.trans (p2.mono HZ2.out.2.size)))
    have k0 := HZ3.out.1.c0; have k4 := HZ3.out.1.c4; have k1 := HZ3.out.1.c1; have k2 := HZ3.out.1.c2; have k3 := HZ3.out.1.c3
    dsimp only [waX] at k0 k1 k2 k3 k4
    clear p2 HL
    go_wp2_with (go_at_call 9; refine (HA.out _ HZ3.out.2).mono ?_; rintro e u9 ⟨rfl, p9⟩; replace p9 := Lib.hid p9; refine Hid.out ?_)
    refine Lib.hid ?_
    go_wp2
    go_ret
    exact ⟨rfl, HZ3.out.2.trans (p9.out.mono HZ3.out.2.size)⟩
set_option maxRecDepth 100000 in
set_option maxHeartbeats 4000000 in
theorem waits_falsetrue (a b : Int) (ha : 0 ≤ a ∧ a ≤ 4294967295) (hb : 0 ≤ b ∧ b ≤ 4294967295) (W : World) (hv : VarsOk W.heap.size W) :
    Calls Tryd.prog 8 #[.int .u32 a, .int .u32 b, .agg #[.bool false, .bool true]] W fun e w' => e = .returned (.bool true) ∧ Below W.heap.size W w' := by
  obtain ⟨t, ht⟩ : ∃ t, Int.tmod a 1073741824 = t := ⟨_, rfl⟩
  obtain ⟨p, hp⟩ : ∃ p, Int.tmod b 1073741824 = p := ⟨_, rfl⟩
  have wa : IntKind.i64.wrap a = a := by rw [IntKind.wrap_i64]; omega
  have wb : IntKind.i64.wrap b = b := by rw [IntKind.wrap_i64]; omega
  have ht0 : 0 ≤ t ∧ t < 1073741824 := by rw [← ht, Int.tmod_eq_emod_of_nonneg ha.1]; omega
  have hp0 : 0 ≤ p ∧ p < 1073741824 := by rw [← hp, Int.tmod_eq_emod_of_nonneg hb.1]; omega
  have wt : IntKind.i64.wrap t = t := by rw [IntKind.wrap_i64]; omega
  have wp : IntKind.i64.wrap p = p := by rw [IntKind.wrap_i64]; omega
  obtain ⟨s, hs⟩ : ∃ s, s = t + p := ⟨_, rfl⟩
  have ws : IntKind.i64.wrap (t + p) = s := by rw [IntKind.wrap_i64]; omega
  obtain ⟨s1, hs1⟩ : ∃ s1, s1 = t + p - 1 := ⟨_, rfl⟩
  have ws1 : IntKind.i64.wrap (s - 1) = s1 := by rw [IntKind.wrap_i64]; omega
  obtain ⟨u, hu⟩ : ∃ u, IntKind.i64.wrap (t + 5) = u := ⟨_, rfl⟩
  have HE : Hid (∀ w, Below W.heap.size W w → Calls Tryd.prog 10 #[.agg #[.string ⟨#[114]⟩, .string ⟨#[103]⟩, .string ⟨#[108, 49, 58, 97, 105, 48, 101, 101]⟩, .int .i64 t], .int .u16 1, .int .i64 5] w fun e w' => e = .returned (.tuple #[.agg #[.string ⟨#[110, 108, 49, 58, 114, 49, 58, 103, 101]⟩, .int .i64 t, .int .u16 1, .string ⟨#[108, 49, 58, 97, 105, 48, 101, 101]⟩, .int .i64 u], .int .i64 0]) ∧ Below w.heap.size w w') := Lib.hid (fun w hw => by
    have h := fEntry_ok ⟨⟨#[114]⟩, ⟨#[103]⟩, calmB, t⟩ 1 5 W.heap.size w hw.size (hv.on hw) (by dsimp only; decide) (by dsimp only; decide) (by dsimp only; decide) (by dsimp only; decide) (check_wa _ (by decide) t ht0.1 ht0.2)
    have hk : keyN ⟨#[114]⟩ ⟨#[103]⟩ = ⟨#[110, 108, 49, 58, 114, 49, 58, 103, 101]⟩ := aw_key
    dsimp only at h
    rw [hk, hu] at h
    exact h)
  have HL : Hid (∀ w, Below W.heap.size W w → Calls Tryd.prog 16 #[.agg #[.string ⟨#[110, 108, 49, 58, 114, 49, 58, 103, 101]⟩, .int .i64 t, .int .u16 1, .string ⟨#[108, 49, 58, 97, 105, 48, 101, 101]⟩, .int .i64 u], .bool true, .string ⟨#[108, 49, 58, 97, 105, 48, 101, 101]⟩, .int .i64 s, .int .i64 p] w fun e w' => e = .returned (.bool false) ∧ Below w.heap.size w w') := Lib.hid (fun w hw => by
    have h := fNeed_any (waX calmB t u) true calmB s p (by dsimp only [waX]; decide) (by decide) W.heap.size w hw.size (hv.on hw)
    rw [hs, need_late _ t p u ht0.1 hp0.1 ht0.2 hp0.2, som_calm] at h
    rw [hs]
    exact h)
  obtain ⟨ch, hch⟩ : ∃ ch, needN (waX calmB t u) true fireB t p = ch := ⟨_, rfl⟩
  have HC : Hid (∀ w, Below W.heap.size W w → Calls Tryd.prog 16 #[.agg #[.string ⟨#[110, 108, 49, 58, 114, 49, 58, 103, 101]⟩, .int .i64 t, .int .u16 1, .string ⟨#[108, 49, 58, 97, 105, 48, 101, 101]⟩, .int .i64 u], .bool true, .string ⟨#[108, 49, 58, 97, 105, 49, 101, 101]⟩, .int .i64 t, .int .i64 p] w fun e w' => e = .returned (.bool ch) ∧ Below w.heap.size w w') := Lib.hid (fun w hw => by
    have h := fNeed_any (waX calmB t u) true fireB t p (by dsimp only [waX]; decide) (by decide) W.heap.size w hw.size (hv.on hw)
    rw [hch] at h
    exact h)
  have hct : ch = true := by rw [← hch]; exact need_change _ _ t p u (by decide +kernel) (by decide +kernel)
  subst hct
  have HA : Hid (∀ w, Below W.heap.size W w → Calls Tryd.prog 9 #[] w fun e w' => e = .returned (.bool true) ∧ Below w.heap.size w w') := Lib.hid (fun w hw => fawake_any W.heap.size w hw.size (hv.on hw))
  have d1 := (Below.refl W.heap.size W).alloc (Nat.le_refl _) (.cells #[.bool false, .bool true] 47)
  have b1 : BoBlk (W.alloc (.cells #[.bool false, .bool true] 47)) W.heap.size false true := newE W _
  have HZ := Lib.hid (And.intro b1 d1)
  have HP : Hid (0 < p → ∀ w, Below W.heap.size W w → Calls Tryd.prog 16 #[.agg #[.string ⟨#[110, 108, 49, 58, 114, 49, 58, 103, 101]⟩, .int .i64 t, .int .u16 1, .string ⟨#[108, 49, 58, 97, 105, 48, 101, 101]⟩, .int .i64 u], .bool true, .string ⟨#[108, 49, 58, 97, 105, 48, 101, 101]⟩, .int .i64 s1, .int .i64 p] w fun e w' => e = .returned (.bool false) ∧ Below w.heap.size w w') := Lib.hid (fun hpp w hw => by
    have h := fNeed_any (waX calmB t u) true calmB s1 p (by dsimp only [waX]; decide) (by decide) W.heap.size w hw.size (hv.on hw)
    rw [hs1, need_early _ t p u hpp hp0.2] at h
    rw [hs1]
    exact h)
  clear b1 d1 hv ha hb hs hs1 hch hu ht0
  go_enter Tryd.func8, Tryd.ntmps8
  go_wp2_with fail
  obtain ⟨b1, d1⟩ := HZ.out
  clear HZ
  generalize hw2 : W.alloc (.cells #[.bool false, .bool true] 47) = w2 at *
  clear hw2
  refine wp_region_any (by kernel_rfl) ?_
  change wpAny _ _ _ _ _ _ _ (World.drew _)
  have hS : (fun w' : World => BoBlk w' W.heap.size false true ∧ Below W.heap.size W w') w2.drew := ⟨b1, d1.drew⟩
  refine wpAny_of_held (S := fun w' => BoBlk w' W.heap.size false true ∧ Below W.heap.size W w') _ _ _ _ ?_
  clear b1 d1
  refine wpAnyH_takeE (i := 0) (some 17) (v := ?_) rfl rfl (by as_aux_lemma => kernel_rfl) (by as_aux_lemma => kernel_rfl) (by as_aux_lemma => kernel_rfl) (fun _ _ _ h => h) (Or.inl ⟨by kernel_rfl, ?_⟩) hS ?_
  rotate_left
  · intro w hSw; have x0 := hSw.1.c0; have x1 := hSw.1.c1; go_simp
    first | done | with_reducible rfl
  refine wpAnyH_takeE (i := 1) (some 18) (v := ?_) rfl rfl (by as_aux_lemma => kernel_rfl) (by as_aux_lemma => kernel_rfl) (by as_aux_lemma => kernel_rfl) (fun _ _ _ h => h) (Or.inl ⟨by kernel_rfl, ?_⟩) hS ?_
  rotate_left
  · intro w hSw; have x0 := hSw.1.c0; have x1 := hSw.1.c1; go_simp
    first | done | with_reducible rfl
  refine wpAnyH_takeE (i := 2) (some 19) (v := ?_) rfl rfl (by as_aux_lemma => kernel_rfl) (by as_aux_lemma => kernel_rfl) (by as_aux_lemma => kernel_rfl) (fun _ _ _ h => h) (Or.inl ⟨by kernel_rfl, ?_⟩) hS ?_
  rotate_left
  · intro w hSw; have x0 := hSw.1.c0; have x1 := hSw.1.c1; go_simp
    first | done | with_reducible rfl
  refine wpAnyH_takeE (i := 3) (some 20) (v := ?_) rfl rfl (by as_aux_lemma => kernel_rfl) (by as_aux_lemma => kernel_rfl) (by as_aux_lemma => kernel_rfl) (fun _ _ _ h => h) (Or.inl ⟨by kernel_rfl, ?_⟩) hS ?_
  rotate_left
  · intro w hSw; have x0 := hSw.1.c0; have x1 := hSw.1.c1; go_simp
    first | done | with_reducible rfl
  refine wpAnyH_takeE (i := 4) (some 7) (v := ?_) rfl rfl (by as_aux_lemma => kernel_rfl) (by as_aux_lemma => kernel_rfl) (by as_aux_lemma => kernel_rfl) (fun _ _ _ h => h) (Or.inl ⟨by kernel_rfl, ?_⟩) hS ?_
  rotate_left
  · intro w hSw; have x0 := hSw.1.c0; have x1 := hSw.1.c1; go_simp
    first | done | with_reducible rfl
  refine wpAnyH_takeE (i := 5) (some 8) (v := ?_) rfl rfl (by as_aux_lemma => kernel_rfl) (by as_aux_lemma => kernel_rfl) (by as_aux_lemma => kernel_rfl) (fun _ _ _ h => h) (Or.inl ⟨by kernel_rfl, ?_⟩) hS ?_
  rotate_left
  · intro w hSw; have x0 := hSw.1.c0; have x1 := hSw.1.c1; go_simp
    first | done | with_reducible rfl
  have h5 := Lib.hid hS.2
  clear hS
  refine wpAnyH_done (by kernel_rfl) ?_ _
  go_simp
  by_cases hpp : 0 < p
  · skip
    go_wp2_with (go_at_call 10; refine (HE.out _ h5.out).mono ?_; rintro e w3 ⟨rfl, q3⟩; refine Hid.out ?_)
    refine Lib.hid ?_
    have b3 := EBlk.new w3 (waX ⟨#[108, 49, 58, 97, 105, 48, 101, 101]⟩ t u)
    have d3 := (Below.refl w3.heap.size w3).alloc (Nat.le_refl _) (.cells #[.string ⟨#[110, 108, 49, 58, 114, 49, 58, 103, 101]⟩, .int .i64 t, .int .u16 1, .string ⟨#[108, 49, 58, 97, 105, 48, 101, 101]⟩, .int .i64 u] 27)
    have D2 := h5.out.trans (q3.mono h5.out.size)
    have HZ1 := Lib.hid (And.intro b3 (D2.trans (d3.mono D2.size)))
    clear b3 d3 D2 q3 HE
    have k0 := HZ1.out.1.c0; have k4 := HZ1.out.1.c4; have k1 := HZ1.out.1.c1; have k2 := HZ1.out.1.c2; have k3 := HZ1.out.1.c3
    dsimp only [waX] at k0 k1 k2 k3 k4
    go_wp2_with (go_at_call 16; refine (HP.out hpp _ HZ1.out.2).mono ?_; rintro e u1 ⟨rfl, p1⟩; refine Hid.out ?_)
    refine Lib.hid ?_
    clear k0 k1 k2 k3 k4
    have HZ2 := Lib.hid (And.intro (HZ1.out.1.on p1) (HZ1.out.2.trans (p1.mono HZ1.out.2.size)))
    have k0 := HZ2.out.1.c0; have k4 := HZ2.out.1.c4; have k1 := HZ2.out.1.c1; have k2 := HZ2.out.1.c2; have k3 := HZ2.out.1.c3
    dsimp only [waX] at k0 k1 k2 k3 k4
    clear p1 HP
    go_wp2_with (go_at_call 16; refine (HC.out _ HZ2.out.2).mono ?_; rintro e u2 ⟨rfl, p2⟩; refine Hid.out ?_)
    refine Lib.hid ?_
    clear k0 k1 k2 k3 k4
    have HZ3 := Lib.hid (And.intro (HZ2.out.1.on p2) (HZ2.out.2.trans (p2.mono HZ2.out.2.size)))
    have k0 := HZ3.out.1.c0; have k4 := HZ3.out.1.c4; have k1 := HZ3.out.1.c1; have k2 := HZ3.out.1.c2; have k3 := HZ3.out.1.c3
    dsimp only [waX] at k0 k1 k2 k3 k4
    clear p2 HC
    go_wp2_with (go_at_call 16; refine (HL.out _ HZ3.out.2).mono ?_; rintro e u3 ⟨rfl, p3⟩; refine Hid.out ?_)
    refine Lib.hid ?_
    clear k0 k1 k2 k3 k4
    have HZ4 := Lib.hid (And.intro (HZ3.out.1.on p3) (HZ3.out.2.trans (p3.mono HZ3.out.2.size)))
    have k0 := HZ4.out.1.c0; have k4 := HZ4.out.1.c4; have k1 := HZ4.out.1.c1; have k2 := HZ4.out.1.c2; have k3 := HZ4.out.1.c3
    dsimp only [waX] at k0 k1 k2 k3 k4
    clear p3 HL
    go_wp2_with (go_at_call 9; refine (HA.out _ HZ4.out.2).mono ?_; rintro e u9 ⟨rfl, p9⟩; replace p9 := Lib.hid p9; refine Hid.out ?_)
    refine Lib.hid ?_
    go_wp2
    go_ret
    exact ⟨rfl, HZ4.out.2.trans (p9.out.mono HZ4.out.2.size)⟩
  · skip
    go_wp2_with (go_at_call 10; refine (HE.out _ h5.out).mono ?_; rintro e w3 ⟨rfl, q3⟩; refine Hid.out ?_)
    refine Lib.hid ?_
    have b3 := EBlk.new w3 (waX ⟨#[108, 49, 58, 97, 105, 48, 101, 101]⟩ t u)
    have d3 := (Below.refl w3.heap.size w3).alloc (Nat.le_refl _) (.cells #[.string ⟨#[110, 108, 49, 58, 114, 49, 58, 103, 101]⟩, .int .i64 t, .int .u16 1, .string ⟨#[108, 49, 58, 97, 105, 48, 101, 101]⟩, .int .i64 u] 27)
    have D2 := h5.out.trans (q3.mono h5.out.size)
    have HZ1 := Lib.hid (And.intro b3 (D2.trans (d3.mono D2.size)))
    clear b3 d3 D2 q3 HE
    have k0 := HZ1.out.1.c0; have k4 := HZ1.out.1.c4; have k1 := HZ1.out.1.c1; have k2 := HZ1.out.1.c2; have k3 := HZ1.out.1.c3
    dsimp only [waX] at k0 k1 k2 k3 k4
    go_wp2_with (go_at_call 16; refine (HC.out _ HZ1.out.2).mono ?_; rintro e u1 ⟨rfl, p1⟩; refine Hid.out ?_)
    refine Lib.hid ?_
    clear k0 k1 k2 k3 k4
    have HZ2 := Lib.hid (And.intro (HZ1.out.1.on p1) (HZ1.out.2.trans (p1.mono HZ1.out.2.size)))
    have k0 := HZ2.out.1.c0; have k4 := HZ2.out.1.c4; have k1 := HZ2.out.1.c1; have k2 := HZ2.out.1.c2; have k3 := HZ2.out.1.c3
    dsimp only [waX] at k0 k1 k2 k3 k4
    clear p1 HC
    go_wp2_with (go_at_call 16; refine (HL.out _ HZ2.out.2).mono ?_; rintro e u2 ⟨rfl, p2⟩; refine Hid.out ?_)
    refine Lib.hid ?_
    clear k0 k1 k2 k3 k4
    have HZ3 := Lib.hid (And.intro (HZ2.out.1.on p2) (HZ2.out.2.trans (p2.mono HZ2.out.2.size)))
    have k0 := HZ3.out.1.c0; have k4 := HZ3.out.1.c4; have k1 := HZ3.out.1.c1; have k2 := HZ3.out.1.c2; have k3 := HZ3.out.1.c3
    dsimp only [waX] at k0 k1 k2 k3 k4
    clear p2 HL
    go_wp2_with (go_at_call 9; refine (HA.out _ HZ3.out.2).mono ?_; rintro e u9 ⟨rfl, p9⟩; replace p9 := Lib.hid p9; refine Hid.out ?_)
    refine Lib.hid ?_
    go_wp2
    go_ret
    exact ⟨rfl, HZ3.out.2.trans (p9.out.mono HZ3.out.2.size)⟩
set_option maxRecDepth 100000 in
set_option maxHeartbeats 4000000 in
theorem waits_falsefalse (a b : Int) (ha : 0 ≤ a ∧ a ≤ 4294967295) (hb : 0 ≤ b ∧ b ≤ 4294967295) (W : World) (hv : VarsOk W.heap.size W) :
    Calls Tryd.prog 8 #[.int .u32 a, .int .u32 b, .agg #[.bool false, .bool false]] W fun e w' => e = .returned (.bool true) ∧ Below W.heap.size W w' := by
  obtain ⟨t, ht⟩ : ∃ t, Int.tmod a 1073741824 = t := ⟨_, rfl⟩
  obtain ⟨p, hp⟩ : ∃ p, Int.tmod b 1073741824 = p := ⟨_, rfl⟩
  have wa : IntKind.i64.wrap a = a := by rw [IntKind.wrap_i64]; omega
  have wb : IntKind.i64.wrap b = b := by rw [IntKind.wrap_i64]; omega
  have ht0 : 0 ≤ t ∧ t < 1073741824 := by rw [← ht, Int.tmod_eq_emod_of_nonneg ha.1]; omega
  have hp0 : 0 ≤ p ∧ p < 1073741824 := by rw [← hp, Int.tmod_eq_emod_of_nonneg hb.1]; omega
  have wt : IntKind.i64.wrap t = t := by rw [IntKind.wrap_i64]; omega
  have wp : IntKind.i64.wrap p = p := by rw [IntKind.wrap_i64]; omega
  obtain ⟨s, hs⟩ : ∃ s, s = t + p := ⟨_, rfl⟩
  have ws : IntKind.i64.wrap (t + p) = s := by rw [IntKind.wrap_i64]; omega
  obtain ⟨s1, hs1⟩ : ∃ s1, s1 = t + p - 1 := ⟨_, rfl⟩
  have ws1 : IntKind.i64.wrap (s - 1) = s1 := by rw [IntKind.wrap_i64]; omega
  obtain ⟨u, hu⟩ : ∃ u, IntKind.i64.wrap (t + 5) = u := ⟨_, rfl⟩
  have HE : Hid (∀ w, Below W.heap.size W w → Calls Tryd.prog 10 #[.agg #[.string ⟨#[114]⟩, .string ⟨#[103]⟩, .string ⟨#[108, 49, 58, 97, 105, 48, 101, 101]⟩, .int .i64 t], .int .u16 1, .int .i64 5] w fun e w' => e = .returned (.tuple #[.agg #[.string ⟨#[110, 108, 49, 58, 114, 49, 58, 103, 101]⟩, .int .i64 t, .int .u16 1, .string ⟨#[108, 49, 58, 97, 105, 48, 101, 101]⟩, .int .i64 u], .int .i64 0]) ∧ Below w.heap.size w w') := Lib.hid (fun w hw => by
    have h := fEntry_ok ⟨⟨#[114]⟩, ⟨#[103]⟩, calmB, t⟩ 1 5 W.heap.size w hw.size (hv.on hw) (by dsimp only; decide) (by dsimp only; decide) (by dsimp only; decide) (by dsimp only; decide) (check_wa _ (by decide) t ht0.1 ht0.2)
    have hk : keyN ⟨#[114]⟩ ⟨#[103]⟩ = ⟨#[110, 108, 49, 58, 114, 49, 58, 103, 101]⟩ := aw_key
    dsimp only at h
    rw [hk, hu] at h
    exact h)
  have HL : Hid (∀ w, Below W.heap.size W w → Calls Tryd.prog 16 #[.agg #[.string ⟨#[110, 108, 49, 58, 114, 49, 58, 103, 101]⟩, .int .i64 t, .int .u16 1, .string ⟨#[108, 49, 58, 97, 105, 48, 101, 101]⟩, .int .i64 u], .bool true, .string ⟨#[108, 49, 58, 97, 105, 48, 101, 101]⟩, .int .i64 s, .int .i64 p] w fun e w' => e = .returned (.bool false) ∧ Below w.heap.size w w') := Lib.hid (fun w hw => by
    have h := fNeed_any (waX calmB t u) true calmB s p (by dsimp only [waX]; decide) (by decide) W.heap.size w hw.size (hv.on hw)
    rw [hs, need_late _ t p u ht0.1 hp0.1 ht0.2 hp0.2, som_calm] at h
    rw [hs]
    exact h)
  obtain ⟨ch, hch⟩ : ∃ ch, needN (waX calmB t u) true calmB t p = ch := ⟨_, rfl⟩
  have HC : Hid (∀ w, Below W.heap.size W w → Calls Tryd.prog 16 #[.agg #[.string ⟨#[110, 108, 49, 58, 114, 49, 58, 103, 101]⟩, .int .i64 t, .int .u16 1, .string ⟨#[108, 49, 58, 97, 105, 48, 101, 101]⟩, .int .i64 u], .bool true, .string ⟨#[108, 49, 58, 97, 105, 48, 101, 101]⟩, .int .i64 t, .int .i64 p] w fun e w' => e = .returned (.bool ch) ∧ Below w.heap.size w w') := Lib.hid (fun w hw => by
    have h := fNeed_any (waX calmB t u) true calmB t p (by dsimp only [waX]; decide) (by decide) W.heap.size w hw.size (hv.on hw)
    rw [hch] at h
    exact h)
  have HA : Hid (∀ w, Below W.heap.size W w → Calls Tryd.prog 9 #[] w fun e w' => e = .returned (.bool true) ∧ Below w.heap.size w w') := Lib.hid (fun w hw => fawake_any W.heap.size w hw.size (hv.on hw))
  have d1 := (Below.refl W.heap.size W).alloc (Nat.le_refl _) (.cells #[.bool false, .bool false] 47)
  have b1 : BoBlk (W.alloc (.cells #[.bool false, .bool false] 47)) W.heap.size false false := newE W _
  have HZ := Lib.hid (And.intro b1 d1)
  have HP : Hid (0 < p → ∀ w, Below W.heap.size W w → Calls Tryd.prog 16 #[.agg #[.string ⟨#[110, 108, 49, 58, 114, 49, 58, 103, 101]⟩, .int .i64 t, .int .u16 1, .string ⟨#[108, 49, 58, 97, 105, 48, 101, 101]⟩, .int .i64 u], .bool true, .string ⟨#[108, 49, 58, 97, 105, 48, 101, 101]⟩, .int .i64 s1, .int .i64 p] w fun e w' => e = .returned (.bool false) ∧ Below w.heap.size w w') := Lib.hid (fun hpp w hw => by
    have h := fNeed_any (waX calmB t u) true calmB s1 p (by dsimp only [waX]; decide) (by decide) W.heap.size w hw.size (hv.on hw)
    rw [hs1, need_early _ t p u hpp hp0.2] at h
    rw [hs1]
    exact h)
  clear b1 d1 hv ha hb hs hs1 hch hu ht0
  go_enter Tryd.func8, Tryd.ntmps8
  go_wp2_with fail
  obtain ⟨b1, d1⟩ := HZ.out
  clear HZ
  generalize hw2 : W.alloc (.cells #[.bool false, .bool false] 47) = w2 at *
  clear hw2
  refine wp_region_any (by kernel_rfl) ?_
  change wpAny _ _ _ _ _ _ _ (World.drew _)
  have hS : (fun w' : World => BoBlk w' W.heap.size false false ∧ Below W.heap.size W w') w2.drew := ⟨b1, d1.drew⟩
  refine wpAny_of_held (S := fun w' => BoBlk w' W.heap.size false false ∧ Below W.heap.size W w') _ _ _ _ ?_
  clear b1 d1
  refine wpAnyH_takeE (i := 0) (some 17) (v := ?_) rfl rfl (by as_aux_lemma => kernel_rfl) (by as_aux_lemma => kernel_rfl) (by as_aux_lemma => kernel_rfl) (fun _ _ _ h => h) (Or.inl ⟨by kernel_rfl, ?_⟩) hS ?_
  rotate_left
  · intro w hSw; have x0 := hSw.1.c0; have x1 := hSw.1.c1; go_simp
    first | done | with_reducible rfl
  refine wpAnyH_takeE (i := 1) (some 18) (v := ?_) rfl rfl (by as_aux_lemma => kernel_rfl) (by as_aux_lemma => kernel_rfl) (by as_aux_lemma => kernel_rfl) (fun _ _ _ h => h) (Or.inl ⟨by kernel_rfl, ?_⟩) hS ?_
  rotate_left
  · intro w hSw; have x0 := hSw.1.c0; have x1 := hSw.1.c1; go_simp
    first | done | with_reducible rfl
  refine wpAnyH_takeE (i := 2) (some 19) (v := ?_) rfl rfl (by as_aux_lemma => kernel_rfl) (by as_aux_lemma => kernel_rfl) (by as_aux_lemma => kernel_rfl) (fun _ _ _ h => h) (Or.inl ⟨by kernel_rfl, ?_⟩) hS ?_
  rotate_left
  · intro w hSw; have x0 := hSw.1.c0; have x1 := hSw.1.c1; go_simp
    first | done | with_reducible rfl
  refine wpAnyH_takeE (i := 3) (some 20) (v := ?_) rfl rfl (by as_aux_lemma => kernel_rfl) (by as_aux_lemma => kernel_rfl) (by as_aux_lemma => kernel_rfl) (fun _ _ _ h => h) (Or.inl ⟨by kernel_rfl, ?_⟩) hS ?_
  rotate_left
  · intro w hSw; have x0 := hSw.1.c0; have x1 := hSw.1.c1; go_simp
    first | done | with_reducible rfl
  refine wpAnyH_takeE (i := 4) (some 7) (v := ?_) rfl rfl (by as_aux_lemma => kernel_rfl) (by as_aux_lemma => kernel_rfl) (by as_aux_lemma => kernel_rfl) (fun _ _ _ h => h) (Or.inl ⟨by kernel_rfl, ?_⟩) hS ?_
  rotate_left
  · intro w hSw; have x0 := hSw.1.c0; have x1 := hSw.1.c1; go_simp
    first | done | with_reducible rfl
  refine wpAnyH_takeE (i := 5) (some 8) (v := ?_) rfl rfl (by as_aux_lemma => kernel_rfl) (by as_aux_lemma => kernel_rfl) (by as_aux_lemma => kernel_rfl) (fun _ _ _ h => h) (Or.inl ⟨by kernel_rfl, ?_⟩) hS ?_
  rotate_left
  · intro w hSw; have x0 := hSw.1.c0; have x1 := hSw.1.c1; go_simp
    first | done | with_reducible rfl
  have h5 := Lib.hid hS.2
  clear hS
  refine wpAnyH_done (by kernel_rfl) ?_ _
  go_simp
  by_cases hpp : 0 < p
  · skip
    go_wp2_with (go_at_call 10; refine (HE.out _ h5.out).mono ?_; rintro e w3 ⟨rfl, q3⟩; refine Hid.out ?_)
    refine Lib.hid ?_
    have b3 := EBlk.new w3 (waX ⟨#[108, 49, 58, 97, 105, 48, 101, 101]⟩ t u)
    have d3 := (Below.refl w3.heap.size w3).alloc (Nat.le_refl _) (.cells #[.string ⟨#[110, 108, 49, 58, 114, 49, 58, 103, 101]⟩, .int .i64 t, .int .u16 1, .string ⟨#[108, 49, 58, 97, 105, 48, 101, 101]⟩, .int .i64 u] 27)
    have D2 := h5.out.trans (q3.mono h5.out.size)
    have HZ1 := Lib.hid (And.intro b3 (D2.trans (d3.mono D2.size)))
    clear b3 d3 D2 q3 HE
    have k0 := HZ1.out.1.c0; have k4 := HZ1.out.1.c4; have k1 := HZ1.out.1.c1; have k2 := HZ1.out.1.c2; have k3 := HZ1.out.1.c3
    dsimp only [waX] at k0 k1 k2 k3 k4
    go_wp2_with (go_at_call 16; refine (HP.out hpp _ HZ1.out.2).mono ?_; rintro e u1 ⟨rfl, p1⟩; refine Hid.out ?_)
    refine Lib.hid ?_
    clear k0 k1 k2 k3 k4
    have HZ2 := Lib.hid (And.intro (HZ1.out.1.on p1) (HZ1.out.2.trans (p1.mono HZ1.out.2.size)))
    have k0 := HZ2.out.1.c0; have k4 := HZ2.out.1.c4; have k1 := HZ2.out.1.c1; have k2 := HZ2.out.1.c2; have k3 := HZ2.out.1.c3
    dsimp only [waX] at k0 k1 k2 k3 k4
    clear p1 HP
    go_wp2_with (go_at_call 16; refine (HC.out _ HZ2.out.2).mono ?_; rintro e u2 ⟨rfl, p2⟩; refine Hid.out ?_)
    refine Lib.hid ?_
    clear k0 k1 k2 k3 k4
    have HZ3 := Lib.hid (And.intro (HZ2.out.1.on p2) (HZ2.out.2.trans (p2.mono HZ2.out.2.size)))
    have k0 := HZ3.out.1.c0; have k4 := HZ3.out.1.c4; have k1 := HZ3.out.1.c1; have k2 := HZ3.out.1.c2; have k3 := HZ3.out.1.c3
    dsimp only [waX] at k0 k1 k2 k3 k4
    clear p2 HC
    go_wp2_with (go_at_call 16; refine (HL.out _ HZ3.out.2).mono ?_; rintro e u3 ⟨rfl, p3⟩; refine Hid.out ?_)
    refine Lib.hid ?_
    clear k0 k1 k2 k3 k4
    have HZ4 := Lib.hid (And.intro (HZ3.out.1.on p3) (HZ3.out.2.trans (p3.mono HZ3.out.2.size)))
    have k0 := HZ4.out.1.c0; have k4 := HZ4.out.1.c4; have k1 := HZ4.out.1.c1; have k2 := HZ4.out.1.c2; have k3 := HZ4.out.1.c3
    dsimp only [waX] at k0 k1 k2 k3 k4
    clear p3 HL
    go_wp2_with (go_at_call 9; refine (HA.out _ HZ4.out.2).mono ?_; rintro e u9 ⟨rfl, p9⟩; replace p9 := Lib.hid p9; refine Hid.out ?_)
    refine Lib.hid ?_
    go_wp2
    go_ret
    exact ⟨rfl, HZ4.out.2.trans (p9.out.mono HZ4.out.2.size)⟩
  · skip
    go_wp2_with (go_at_call 10; refine (HE.out _ h5.out).mono ?_; rintro e w3 ⟨rfl, q3⟩; refine Hid.out ?_)
    refine Lib.hid ?_
    have b3 := EBlk.new w3 (waX ⟨#[108, 49, 58, 97, 105, 48, 101, 101]⟩ t u)
    have d3 := (Below.refl w3.heap.size w3).alloc (Nat.le_refl _) (.cells #[.string ⟨#[110, 108, 49, 58, 114, 49, 58, 103, 101]⟩, .int .i64 t, .int .u16 1, .string ⟨#[108, 49, 58, 97, 105, 48, 101, 101]⟩, .int .i64 u] 27)
    have D2 := h5.out.trans (q3.mono h5.out.size)
    have HZ1 := Lib.hid (And.intro b3 (D2.trans (d3.mono D2.size)))
    clear b3 d3 D2 q3 HE
    have k0 := HZ1.out.1.c0; have k4 := HZ1.out.1.c4; have k1 := HZ1.out.1.c1; have k2 := HZ1.out.1.c2; have k3 := HZ1.out.1.c3
    dsimp only [waX] at k0 k1 k2 k3 k4
    go_wp2_with (go_at_call 16; refine (HC.out _ HZ1.out.2).mono ?_; rintro e u1 ⟨rfl, p1⟩; refine Hid.out ?_)
    refine Lib.hid ?_
    clear k0 k1 k2 k3 k4
    have HZ2 := Lib.hid (And.intro (HZ1.out.1.on p1) (HZ1.out.2.trans (p1.mono HZ1.out.2.size)))
    have k0 := HZ2.out.1.c0; have k4 := HZ2.out.1.c4; have k1 := HZ2.out.1.c1; have k2 := HZ2.out.1.c2; have k3 := HZ2.out.1.c3
    dsimp only [waX] at k0 k1 k2 k3 k4
    clear p1 HC
    go_wp2_with (go_at_call 16; refine (HL.out _ HZ2.out.2).mono ?_; rintro e u2 ⟨rfl, p2⟩; refine Hid.out ?_)
    refine Lib.hid ?_
    clear k0 k1 k2 k3 k4
    have HZ3 := Lib.hid (And.intro (HZ2.out.1.on p2) (HZ2.out.2.trans (p2.mono HZ2.out.2.size)))
    have k0 := HZ3.out.1.c0; have k4 := HZ3.out.1.c4; have k1 := HZ3.out.1.c1; have k2 := HZ3.out.1.c2; have k3 := HZ3.out.1.c3
    dsimp only [waX] at k0 k1 k2 k3 k4
    clear p2 HL
    go_wp2_with (go_at_call 9; refine (HA.out _ HZ3.out.2).mono ?_; rintro e u9 ⟨rfl, p9⟩; replace p9 := Lib.hid p9; refine Hid.out ?_)
    refine Lib.hid ?_
    go_wp2
    go_ret
    exact ⟨rfl, HZ3.out.2.trans (p9.out.mono HZ3.out.2.size)⟩

theorem waits_walk (a b : Int) (ha : 0 ≤ a ∧ a ≤ 4294967295) (hb : 0 ≤ b ∧ b ≤ 4294967295) (f g : Bool) (W : World) (hv : VarsOk W.heap.size W) :
    Calls Tryd.prog 8 #[.int .u32 a, .int .u32 b, .agg #[.bool f, .bool g]] W fun e w' => e = .returned (.bool true) ∧ Below W.heap.size W w' := by
  cases f <;> cases g
  · exact waits_falsefalse a b ha hb W hv
  · exact waits_falsetrue a b ha hb W hv
  · exact waits_truefalse a b ha hb W hv
  · exact waits_truetrue a b ha hb W hv

end Go.Proofs.YtcdlalbmafipdaaDoor
