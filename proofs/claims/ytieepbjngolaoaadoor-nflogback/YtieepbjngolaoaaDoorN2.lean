/-
  What Entry of package nflog tells.
-/
import Derived.Test.YtieepbjngolaoaaDoorN1
namespace Go.Proofs.YtieepbjngolaoaaDoor
open Go.RowKit

/-- A block of one sending. -/
def SnBlk (w : World) (B : Nat) (s : Snd) : Prop := w.heap[B]? = some (.cells #[.string s.r, .string s.k, .string s.v, .int .i64 s.t] 33 (0, 0))
theorem SnBlk.lt {w : World} {B : Nat} {s : Snd} (h : SnBlk w B s) : B < w.heap.size := ltE h
theorem SnBlk.on {w w' : World} {B : Nat} {s : Snd} (h : SnBlk w B s) (hb : Below w.heap.size w w') : SnBlk w' B s := (hb.block B h.lt).trans h
theorem SnBlk.new (w : World) (s : Snd) : SnBlk (w.alloc (.cells #[.string s.r, .string s.k, .string s.v, .int .i64 s.t] 33)) w.heap.size s := newE w _
theorem SnBlk.c0 {w : World} {B : Nat} {s : Snd} (h : SnBlk w B s) : w.cell? ⟨B, 0, none⟩ = some (.string s.r) := cellE h
theorem SnBlk.c1 {w : World} {B : Nat} {s : Snd} (h : SnBlk w B s) : w.cell? ⟨B, 1, none⟩ = some (.string s.k) := cellE h
theorem SnBlk.c2 {w : World} {B : Nat} {s : Snd} (h : SnBlk w B s) : w.cell? ⟨B, 2, none⟩ = some (.string s.v) := cellE h
theorem SnBlk.c3 {w : World} {B : Nat} {s : Snd} (h : SnBlk w B s) : w.cell? ⟨B, 3, none⟩ = some (.int .i64 s.t) := cellE h
theorem SnBlk.f {w : World} {B : Nat} {s : Snd} (h : SnBlk w B s) (j : Nat) : w.frozen? ⟨B, j, none⟩ = false := by
  unfold SnBlk at h
  simp [World.frozen?, h]
theorem SnBlk.other {w : World} {B : Nat} {s : Snd} (h : SnBlk w B s) {p : Addr} (hp : B ≠ p.block) (v : Value) : SnBlk (w.setCell p v) B s := (Below.heap_setCell w p v B hp).trans h
theorem SnBlk.stOther {w : World} {B X : Nat} {s : Snd} (h : SnBlk w B s) (hX : B ≠ X) (y : Ent) : SnBlk (stE w X y) B s := ((((h.other (p := ⟨X, 0, none⟩) hX _).other (p := ⟨X, 1, none⟩) hX _).other (p := ⟨X, 2, none⟩) hX _).other (p := ⟨X, 3, none⟩) hX _).other (p := ⟨X, 4, none⟩) hX _
theorem EBlk.stOtherN {w : World} {B X : Nat} {x : Ent} (h : EBlk w B x) (hX : B ≠ X) (y : Ent) : EBlk (stE w X y) B x := ((((h.other (p := ⟨X, 0, none⟩) hX _).other (p := ⟨X, 1, none⟩) hX _).other (p := ⟨X, 2, none⟩) hX _).other (p := ⟨X, 3, none⟩) hX _).other (p := ⟨X, 4, none⟩) hX _
theorem toListN (k : ByteArray) : (k.toList == ([] : List UInt8)) = decide (k.size = 0) := by
  by_cases h : k.size = 0
  · rw [(toList_nil _).2 h, decide_eq_true h]; rfl
  · rw [decide_eq_false h, beq_eq_false_iff_ne]; exact fun e => h ((toList_nil _).1 e)

set_option maxRecDepth 100000 in
set_option maxHeartbeats 4000000 in
theorem fEntry_arg1 (s : Snd) (o keep : Int) (w : World) (h1 : s.r.size = 0) :
    Calls Tryd.prog 10 #[.agg #[.string s.r, .string s.k, .string s.v, .int .i64 s.t], .int .u16 o, .int .i64 keep] w fun e w' => e = .returned (.tuple #[.agg #[.string ⟨#[]⟩, .int .i64 0, .int .u16 0, .string ⟨#[]⟩, .int .i64 0], .int .i64 2]) ∧ Below w.heap.size w w' := by
  have d1 := (Below.refl w.heap.size w).alloc (Nat.le_refl _) (.cells #[.string s.r, .string s.k, .string s.v, .int .i64 s.t] 33)
  have b1 := (SnBlk.new w s).on ((Below.refl _ _).alloc (Nat.le_refl _) (.cells #[.string ⟨#[]⟩, .int .i64 0, .int .u16 0, .string ⟨#[]⟩, .int .i64 0] 24))
  have d2 := d1.alloc (by simp) (.cells #[.string ⟨#[]⟩, .int .i64 0, .int .u16 0, .string ⟨#[]⟩, .int .i64 0] 24)
  have b2 := EBlk.new (w.alloc (.cells #[.string s.r, .string s.k, .string s.v, .int .i64 s.t] 33)) zeroE
  rw [World.size_alloc] at b2
  dsimp only [zeroE] at b2
  have g1 : (s.r.toList == ([] : List UInt8)) = true := by rw [toListN, decide_eq_true h1]
  clear h1
  have HB := Lib.hid (And.intro b1 (And.intro b2 d2))
  have z0 := b2.c0; have z1 := b2.c1; have z2 := b2.c2; have z3 := b2.c3; have z4 := b2.c4
  have y0 := b2.f 0; have y1 := b2.f 1; have y2 := b2.f 2; have y3 := b2.f 3; have y4 := b2.f 4
  have x0 := b1.c0; have x1 := b1.c1
  have HF := Lib.hid b2
  have HQ := Lib.hid d2
  clear b1 b2 d1 d2
  obtain ⟨rs, ks, vs, ts⟩ := s
  dsimp only at *
  go_enter Tryd.func10, Tryd.ntmps10
  go_wp2
  refine bodyPost_ret (v := .tuple #[.agg #[.string ⟨#[]⟩, .int .i64 0, .int .u16 0, .string ⟨#[]⟩, .int .i64 0], .int .i64 2]) (by have b5 := HF.out; have z0 := b5.c0; have z1 := b5.c1; have z2 := b5.c2; have z3 := b5.c3; have z4 := b5.c4; try unfold stE at z0 z1 z2 z3 z4; simp [results, Tryd.results10, go_sem, z0, z1, z2, z3, z4]) rfl ?_
  exact ⟨rfl, HQ.out⟩
set_option maxRecDepth 100000 in
set_option maxHeartbeats 4000000 in
theorem fEntry_arg2 (s : Snd) (o keep : Int) (w : World) (h1 : s.r.size ≠ 0) (h2 : s.k.size = 0) :
    Calls Tryd.prog 10 #[.agg #[.string s.r, .string s.k, .string s.v, .int .i64 s.t], .int .u16 o, .int .i64 keep] w fun e w' => e = .returned (.tuple #[.agg #[.string ⟨#[]⟩, .int .i64 0, .int .u16 0, .string ⟨#[]⟩, .int .i64 0], .int .i64 2]) ∧ Below w.heap.size w w' := by
  have d1 := (Below.refl w.heap.size w).alloc (Nat.le_refl _) (.cells #[.string s.r, .string s.k, .string s.v, .int .i64 s.t] 33)
  have b1 := (SnBlk.new w s).on ((Below.refl _ _).alloc (Nat.le_refl _) (.cells #[.string ⟨#[]⟩, .int .i64 0, .int .u16 0, .string ⟨#[]⟩, .int .i64 0] 24))
  have d2 := d1.alloc (by simp) (.cells #[.string ⟨#[]⟩, .int .i64 0, .int .u16 0, .string ⟨#[]⟩, .int .i64 0] 24)
  have b2 := EBlk.new (w.alloc (.cells #[.string s.r, .string s.k, .string s.v, .int .i64 s.t] 33)) zeroE
  rw [World.size_alloc] at b2
  dsimp only [zeroE] at b2
  have g1 : (s.r.toList == ([] : List UInt8)) = false := by rw [toListN, decide_eq_false h1]
  have g2 : (s.k.toList == ([] : List UInt8)) = true := by rw [toListN, decide_eq_true h2]
  clear h1 h2
  have HB := Lib.hid (And.intro b1 (And.intro b2 d2))
  have z0 := b2.c0; have z1 := b2.c1; have z2 := b2.c2; have z3 := b2.c3; have z4 := b2.c4
  have y0 := b2.f 0; have y1 := b2.f 1; have y2 := b2.f 2; have y3 := b2.f 3; have y4 := b2.f 4
  have x0 := b1.c0; have x1 := b1.c1
  have HF := Lib.hid b2
  have HQ := Lib.hid d2
  clear b1 b2 d1 d2
  obtain ⟨rs, ks, vs, ts⟩ := s
  dsimp only at *
  go_enter Tryd.func10, Tryd.ntmps10
  go_wp2
  refine bodyPost_ret (v := .tuple #[.agg #[.string ⟨#[]⟩, .int .i64 0, .int .u16 0, .string ⟨#[]⟩, .int .i64 0], .int .i64 2]) (by have b5 := HF.out; have z0 := b5.c0; have z1 := b5.c1; have z2 := b5.c2; have z3 := b5.c3; have z4 := b5.c4; try unfold stE at z0 z1 z2 z3 z4; simp [results, Tryd.results10, go_sem, z0, z1, z2, z3, z4]) rfl ?_
  exact ⟨rfl, HQ.out⟩
set_option maxRecDepth 100000 in
set_option maxHeartbeats 4000000 in
theorem fEntry_err (s : Snd) (o keep : Int) (B : Nat) (w : World) (hB : B ≤ w.heap.size) (hv : VarsOk B w) (h1 : s.r.size ≠ 0) (h2 : s.k.size ≠ 0) (hr : s.r.size ≤ 1048576) (hg : s.k.size ≤ 1048576) (he : checkEn (entN s o keep) ≠ 0) :
    Calls Tryd.prog 10 #[.agg #[.string s.r, .string s.k, .string s.v, .int .i64 s.t], .int .u16 o, .int .i64 keep] w fun e w' => e = .returned (.tuple #[.agg #[.string ⟨#[]⟩, .int .i64 0, .int .u16 0, .string ⟨#[]⟩, .int .i64 0], .int .i64 (checkEn (entN s o keep))]) ∧ Below w.heap.size w w' := by
  have d1 := (Below.refl w.heap.size w).alloc (Nat.le_refl _) (.cells #[.string s.r, .string s.k, .string s.v, .int .i64 s.t] 33)
  have b1 := (SnBlk.new w s).on ((Below.refl _ _).alloc (Nat.le_refl _) (.cells #[.string ⟨#[]⟩, .int .i64 0, .int .u16 0, .string ⟨#[]⟩, .int .i64 0] 24))
  have d2 := d1.alloc (by simp) (.cells #[.string ⟨#[]⟩, .int .i64 0, .int .u16 0, .string ⟨#[]⟩, .int .i64 0] 24)
  have b2 := EBlk.new (w.alloc (.cells #[.string s.r, .string s.k, .string s.v, .int .i64 s.t] 33)) zeroE
  rw [World.size_alloc] at b2
  dsimp only [zeroE] at b2
  have g1 : (s.r.toList == ([] : List UInt8)) = false := by rw [toListN, decide_eq_false h1]
  have g2 : (s.k.toList == ([] : List UInt8)) = false := by rw [toListN, decide_eq_false h2]
  have HK : Hid (∀ u, Below w.heap.size w u → Calls Tryd.prog 12 #[.string s.r, .string s.k] u fun e w' => e = .returned (.string (keyN s.r s.k)) ∧ Below u.heap.size u w') := Lib.hid (fun u hu => fKey_any s.r s.k hr hg B u (Nat.le_trans hB hu.size) (hv.on (hu.mono hB)))
  have HC := Lib.hid (fun u => eCheck_any (entN s o keep) u)
  unfold entN at HC he ⊢
  obtain ⟨K1, hK1⟩ : ∃ z, keyN s.r s.k = z := ⟨_, rfl⟩
  obtain ⟨U1, hU1⟩ : ∃ z, IntKind.i64.wrap (s.t + keep) = z := ⟨_, rfl⟩
  rw [hK1] at HK
  simp only [hK1, hU1] at HC he ⊢
  generalize checkEn ⟨K1, s.t, o, s.v, U1⟩ = E at *
  have hEb : ((E : Int) != 0) = true := by simpa using he
  have HU := Lib.hid hU1
  clear h1 h2 hr hg hB hv he hK1 hU1 d1
  have x0 := b1.c0; have x1 := b1.c1
  have HZ := Lib.hid (And.intro b1 (And.intro b2 d2))
  clear b1 b2 d2
  obtain ⟨rs, ks, vs, ts⟩ := s
  dsimp only at *
  go_enter Tryd.func10, Tryd.ntmps10
  go_wp2_with fail
  obtain ⟨b1, b2, d2⟩ := HZ.out
  clear x0 x1 HZ g1 g2
  generalize hw2 : ((w.alloc (.cells #[.string rs, .string ks, .string vs, .int .i64 ts] 33)).alloc (.cells #[.string ⟨#[]⟩, .int .i64 0, .int .u16 0, .string ⟨#[]⟩, .int .i64 0] 24)) = w2 at *
  clear hw2
  refine wp_region_any (by kernel_rfl) ?_
  change wpAny _ _ _ _ _ _ _ (World.drew _)
  have hS : (fun w' : World => SnBlk w' w.heap.size ⟨rs, ks, vs, ts⟩ ∧ EBlk w' (w.heap.size + 1) zeroE ∧ Below w.heap.size w w') w2.drew := ⟨b1, b2, d2.drew⟩
  refine wpAny_of_held (S := fun w' => SnBlk w' w.heap.size ⟨rs, ks, vs, ts⟩ ∧ EBlk w' (w.heap.size + 1) zeroE ∧ Below w.heap.size w w') _ _ _ _ ?_
  clear b1 b2 d2
  refine wpAnyH_takeE (i := 0) (some 19) (v := ?_) rfl rfl (by as_aux_lemma => kernel_rfl) (by as_aux_lemma => kernel_rfl) (by as_aux_lemma => kernel_rfl) (fun _ _ _ h => h) (Or.inl ⟨by kernel_rfl, ?_⟩) hS ?_
  rotate_left
  · intro w hSw; have x0 := hSw.1.c0; have x1 := hSw.1.c1; have x2 := hSw.1.c2; have x3 := hSw.1.c3; dsimp only at x0 x1 x2 x3; go_simp
    first | done | with_reducible rfl
  refine wpAnyH_takeE (i := 1) (some 20) (v := ?_) rfl rfl (by as_aux_lemma => kernel_rfl) (by as_aux_lemma => kernel_rfl) (by as_aux_lemma => kernel_rfl) (fun _ _ _ h => h) (Or.inl ⟨by kernel_rfl, ?_⟩) hS ?_
  rotate_left
  · intro w hSw; have x0 := hSw.1.c0; have x1 := hSw.1.c1; have x2 := hSw.1.c2; have x3 := hSw.1.c3; dsimp only at x0 x1 x2 x3; go_simp
    first | done | with_reducible rfl
  refine wpAnyH_takeE (i := 2) (some 21) (v := ?_) rfl rfl (by as_aux_lemma => kernel_rfl) (by as_aux_lemma => kernel_rfl) (by as_aux_lemma => kernel_rfl) (fun _ _ _ h => h) (Or.inl ⟨by kernel_rfl, ?_⟩) hS ?_
  rotate_left
  · intro w hSw; have x0 := hSw.1.c0; have x1 := hSw.1.c1; have x2 := hSw.1.c2; have x3 := hSw.1.c3; dsimp only at x0 x1 x2 x3; go_simp
    first | done | with_reducible rfl
  refine wpAnyH_takeE (i := 3) (some 22) (v := ?_) rfl rfl (by as_aux_lemma => kernel_rfl) (by as_aux_lemma => kernel_rfl) (by as_aux_lemma => kernel_rfl) (fun _ _ _ h => h) (Or.inl ⟨by kernel_rfl, ?_⟩) hS ?_
  rotate_left
  · intro w hSw; have x0 := hSw.1.c0; have x1 := hSw.1.c1; have x2 := hSw.1.c2; have x3 := hSw.1.c3; dsimp only at x0 x1 x2 x3; go_simp
    first | done | with_reducible rfl
  refine wpAnyH_takeE (i := 5) (some 24) (v := ?_) rfl rfl (by as_aux_lemma => kernel_rfl) (by as_aux_lemma => kernel_rfl) (by as_aux_lemma => kernel_rfl) (fun _ _ _ h => h) (Or.inl ⟨by kernel_rfl, ?_⟩) hS ?_
  rotate_left
  · intro w hSw; have x0 := hSw.1.c0; have x1 := hSw.1.c1; have x2 := hSw.1.c2; have x3 := hSw.1.c3; dsimp only at x0 x1 x2 x3; go_simp
    first | done | with_reducible rfl
  refine wpAnyH_takeE (i := 6) (some 25) (v := ?_) rfl rfl (by as_aux_lemma => kernel_rfl) (by as_aux_lemma => kernel_rfl) (by as_aux_lemma => kernel_rfl) (fun _ _ _ h => h) (Or.inl ⟨by kernel_rfl, ?_⟩) hS ?_
  rotate_left
  · intro w hSw; have x0 := hSw.1.c0; have x1 := hSw.1.c1; have x2 := hSw.1.c2; have x3 := hSw.1.c3; dsimp only at x0 x1 x2 x3; go_simp
    first | done | with_reducible rfl
  refine wpAnyH_takeE (i := 7) (some 26) (v := ?_) rfl rfl (by as_aux_lemma => kernel_rfl) (by as_aux_lemma => kernel_rfl) (by as_aux_lemma => kernel_rfl) (fun _ _ _ h => h) (Or.inl ⟨by kernel_rfl, ?_⟩) hS ?_
  rotate_left
  · intro w hSw; have x0 := hSw.1.c0; have x1 := hSw.1.c1; have x2 := hSw.1.c2; have x3 := hSw.1.c3; dsimp only at x0 x1 x2 x3; go_simp
    first | done | with_reducible rfl
  refine wpAnyH_takeE (i := 8) (some 27) (v := ?_) rfl rfl (by as_aux_lemma => kernel_rfl) (by as_aux_lemma => kernel_rfl) (by as_aux_lemma => kernel_rfl) (fun _ _ _ h => h) (Or.inl ⟨by kernel_rfl, ?_⟩) hS ?_
  rotate_left
  · intro w hSw; have x0 := hSw.1.c0; have x1 := hSw.1.c1; have x2 := hSw.1.c2; have x3 := hSw.1.c3; dsimp only at x0 x1 x2 x3; go_simp
    first | done | with_reducible rfl
  refine wpAnyH_takeE (i := 9) (some 28) (v := ?_) rfl rfl (by as_aux_lemma => kernel_rfl) (by as_aux_lemma => kernel_rfl) (by as_aux_lemma => kernel_rfl) (fun _ _ _ h => h) (Or.inl ⟨by kernel_rfl, ?_⟩) hS ?_
  rotate_left
  · intro w hSw; have x0 := hSw.1.c0; have x1 := hSw.1.c1; have x2 := hSw.1.c2; have x3 := hSw.1.c3; dsimp only at x0 x1 x2 x3; go_simp
    first | done | with_reducible rfl
  refine wpAnyH_takeE (i := 10) (some 29) (v := ?_) rfl rfl (by as_aux_lemma => kernel_rfl) (by as_aux_lemma => kernel_rfl) (by as_aux_lemma => kernel_rfl) (fun _ _ _ h => h) (Or.inl ⟨by kernel_rfl, ?_⟩) hS ?_
  rotate_left
  · intro w hSw; have x0 := hSw.1.c0; have x1 := hSw.1.c1; have x2 := hSw.1.c2; have x3 := hSw.1.c3; dsimp only at x0 x1 x2 x3; go_simp
    first | done | with_reducible rfl
  refine wpAnyH_takeE (i := 11) (some 30) (v := ?_) rfl rfl (by as_aux_lemma => kernel_rfl) (by as_aux_lemma => kernel_rfl) (by as_aux_lemma => kernel_rfl) (fun _ _ _ h => h) (Or.inl ⟨by kernel_rfl, ?_⟩) hS ?_
  rotate_left
  · intro w hSw; have x0 := hSw.1.c0; have x1 := hSw.1.c1; have x2 := hSw.1.c2; have x3 := hSw.1.c3; dsimp only at x0 x1 x2 x3; go_simp
    first | done | with_reducible rfl
  refine wpAnyH_takeE (i := 12) (some 31) (v := ?_) rfl rfl (by as_aux_lemma => kernel_rfl) (by as_aux_lemma => kernel_rfl) (by as_aux_lemma => kernel_rfl) (fun _ _ _ h => h) (Or.inl ⟨by kernel_rfl, ?_⟩) hS ?_
  rotate_left
  · intro w hSw; have x0 := hSw.1.c0; have x1 := hSw.1.c1; have x2 := hSw.1.c2; have x3 := hSw.1.c3; dsimp only at x0 x1 x2 x3; go_simp
    first | done | with_reducible rfl
  have hU := HU.out
  refine wpAnyH_takeE (i := 13) (some 32) (v := ?_) rfl rfl (by as_aux_lemma => kernel_rfl) (by as_aux_lemma => kernel_rfl) (by as_aux_lemma => kernel_rfl) (fun _ _ _ h => h) (Or.inl ⟨by kernel_rfl, ?_⟩) hS ?_
  rotate_left
  · intro w hSw; have x0 := hSw.1.c0; have x1 := hSw.1.c1; have x2 := hSw.1.c2; have x3 := hSw.1.c3; dsimp only at x0 x1 x2 x3; go_simp
    first | done | with_reducible rfl
  clear hU
  refine wpAnyH_ready (rs := [4, 15]) (by as_aux_lemma => kernel_rfl) (by simp) ?_
  refine AllReadyH.cons rfl (fun K hK => ?_) (AllReadyH.cons rfl (fun K hK => ?_) AllReadyH.nil)
  · go_simp
    go_wp2_with (go_at_call 12; refine (HK.out _ hS.2.2).mono ?_; rintro e u ⟨rfl, q'⟩)
    refine hK.out _ _ ?_ (fun hS => ?_)
    · exact ⟨hS.1.on q', hS.2.1.on q', hS.2.2.trans (q'.mono hS.2.2.size)⟩
    clear hK K q'
    refine wpAnyH_takeE (i := 14) (some 33) (v := ?_) rfl rfl (by as_aux_lemma => kernel_rfl) (by as_aux_lemma => kernel_rfl) (by as_aux_lemma => kernel_rfl) (fun _ _ _ h => h) (Or.inl ⟨by kernel_rfl, ?_⟩) hS ?_
    rotate_left
    · intro w hSw; have x0 := hSw.1.c0; have x1 := hSw.1.c1; have x2 := hSw.1.c2; have x3 := hSw.1.c3; dsimp only at x0 x1 x2 x3; go_simp
      first | done | with_reducible rfl
    refine wpAnyH_ready (rs := [15]) (by as_aux_lemma => kernel_rfl) (by simp) ?_
    refine AllReadyH.cons rfl (fun K hK => ?_) AllReadyH.nil
    go_simp
    have dX := (Below.refl u.heap.size u).alloc (Nat.le_refl _) (.cells #[.string ⟨#[]⟩, .int .i64 0, .int .u16 0, .string ⟨#[]⟩, .int .i64 0] 24)
    have hX : w.heap.size + 1 < u.heap.size := hS.2.1.lt
    have nb := EBlk.new u zeroE
    dsimp only [zeroE] at nb
    refine hK.out _ _ ⟨hS.1.on dX, hS.2.1.on dX, hS.2.2.trans (dX.mono hS.2.2.size)⟩ (fun hS => ?_)
    clear hK K dX
    generalize hy : u.alloc (.cells #[.string ⟨#[]⟩, .int .i64 0, .int .u16 0, .string ⟨#[]⟩, .int .i64 0] 24) = u2 at *
    clear hy
    generalize u.heap.size = X at *
    refine wpAnyH_ready (rs := [16]) (by as_aux_lemma => kernel_rfl) (by simp) ?_
    refine AllReadyH.cons rfl (fun K hK => ?_) AllReadyH.nil
    have z0 := nb.c0; have z1 := nb.c1; have z2 := nb.c2; have z3 := nb.c3; have z4 := nb.c4; have y0 := nb.f 0; have y1 := nb.f 1; have y2 := nb.f 2; have y3 := nb.f 3; have y4 := nb.f 4
    dsimp only [zeroE] at z0 z1 z2 z3 z4
    go_simp
    clear z0 z1 z2 z3 z4 y0 y1 y2 y3 y4
    have nb2 := nb.store ⟨K1, ts, o, vs, U1⟩
    have hr2 := hS.2.1.stOtherN (show w.heap.size + 1 ≠ X by omega) ⟨K1, ts, o, vs, U1⟩
    refine hK.out _ _ ⟨hS.1.stOther (show w.heap.size ≠ X by omega) ⟨K1, ts, o, vs, U1⟩, hr2, stE_below hS.2.2 (show w.heap.size ≤ X by omega) ⟨K1, ts, o, vs, U1⟩⟩ (fun hS => ?_)
    clear hK K nb hr2
    have h5 := hS
    refine wpAnyH_done (by kernel_rfl) ?_ _
    clear hS
    go_simp
    dsimp only [stE] at *
    generalize hw5 : (((((World.setCell u2 ⟨X, 0, none⟩ (.string K1)).setCell ⟨X, 1, none⟩ (.int .i64 ts)).setCell ⟨X, 2, none⟩ (.int .u16 o)).setCell ⟨X, 3, none⟩ (.string vs)).setCell ⟨X, 4, none⟩ (.int .i64 U1)) = w5 at *
    clear hw5
    have z0 := nb2.c0; have z1 := nb2.c1; have z2 := nb2.c2; have z3 := nb2.c3; have z4 := nb2.c4
    dsimp only at z0 z1 z2 z3 z4
    have HG := Lib.hid (And.intro nb2 h5)
    clear nb2 h5 hX
    go_wp2_with (go_at_call 16; refine (HC.out _).mono ?_; rintro e w6 ⟨rfl, q6⟩; refine Hid.out ?_)
    refine Lib.hid ?_
    obtain ⟨nb2, s5, r5, d5⟩ := HG.out
    clear z0 z1 z2 z3 z4 HG
    have nb6 := nb2.on q6
    have r6 := r5.on q6
    have D6 := d5.trans (q6.mono d5.size)
    have z0 := nb6.c0; have z1 := nb6.c1; have z2 := nb6.c2; have z3 := nb6.c3; have z4 := nb6.c4
    dsimp only at z0 z1 z2 z3 z4
    have t0 := r6.c0; have t1 := r6.c1; have t2 := r6.c2; have t3 := r6.c3; have t4 := r6.c4; have y0 := r6.f 0; have y1 := r6.f 1; have y2 := r6.f 2; have y3 := r6.f 3; have y4 := r6.f 4
    dsimp only [zeroE] at t0 t1 t2 t3 t4
    have HF := Lib.hid (r6.store zeroE)
    have HQ := Lib.hid (stE_below D6 (show w.heap.size ≤ w.heap.size + 1 by omega) zeroE)
    try dsimp only [zeroE] at HF HQ
    clear nb6 r6 D6 nb2 s5 r5 d5 q6
    go_wp2
    refine bodyPost_ret (v := .tuple #[.agg #[.string ⟨#[]⟩, .int .i64 0, .int .u16 0, .string ⟨#[]⟩, .int .i64 0], .int .i64 E]) (by have b5 := HF.out; have z0 := b5.c0; have z1 := b5.c1; have z2 := b5.c2; have z3 := b5.c3; have z4 := b5.c4; try unfold stE at z0 z1 z2 z3 z4; simp [results, Tryd.results10, go_sem, z0, z1, z2, z3, z4]) rfl ?_
    exact ⟨rfl, HQ.out⟩
  · go_simp
    have dX : Below w2.drew.heap.size w2.drew (w2.alloc (.cells #[.string ⟨#[]⟩, .int .i64 0, .int .u16 0, .string ⟨#[]⟩, .int .i64 0] 24)).drew := (Below.refl w2.drew.heap.size w2.drew).alloc (Nat.le_refl _) (.cells #[.string ⟨#[]⟩, .int .i64 0, .int .u16 0, .string ⟨#[]⟩, .int .i64 0] 24)
    have hX : w.heap.size + 1 < w2.heap.size := hS.2.1.lt
    have nb0 : EBlk (w2.alloc (.cells #[.string ⟨#[]⟩, .int .i64 0, .int .u16 0, .string ⟨#[]⟩, .int .i64 0] 24)).drew w2.heap.size zeroE := EBlk.new w2 zeroE
    refine hK.out _ _ ⟨hS.1.on dX, hS.2.1.on dX, hS.2.2.trans (dX.mono hS.2.2.size)⟩ (fun hS => ?_)
    clear hK K dX
    refine wpAnyH_ready (rs := [4]) (by as_aux_lemma => kernel_rfl) (by simp) ?_
    refine AllReadyH.cons rfl (fun K hK => ?_) AllReadyH.nil
    go_simp
    go_wp2_with (go_at_call 12; refine (HK.out _ hS.2.2).mono ?_; rintro e u ⟨rfl, q'⟩)
    have nb := nb0.on q'
    refine hK.out _ _ ?_ (fun hS => ?_)
    · exact ⟨hS.1.on q', hS.2.1.on q', hS.2.2.trans (q'.mono hS.2.2.size)⟩
    clear hK K q' nb0
    generalize w2.heap.size = X at *
    refine wpAnyH_takeE (i := 14) (some 33) (v := ?_) rfl rfl (by as_aux_lemma => kernel_rfl) (by as_aux_lemma => kernel_rfl) (by as_aux_lemma => kernel_rfl) (fun _ _ _ h => h) (Or.inl ⟨by kernel_rfl, ?_⟩) hS ?_
    rotate_left
    · intro w hSw; have x0 := hSw.1.c0; have x1 := hSw.1.c1; have x2 := hSw.1.c2; have x3 := hSw.1.c3; dsimp only at x0 x1 x2 x3; go_simp
      first | done | with_reducible rfl
    refine wpAnyH_ready (rs := [16]) (by as_aux_lemma => kernel_rfl) (by simp) ?_
    refine AllReadyH.cons rfl (fun K hK => ?_) AllReadyH.nil
    have z0 := nb.c0; have z1 := nb.c1; have z2 := nb.c2; have z3 := nb.c3; have z4 := nb.c4; have y0 := nb.f 0; have y1 := nb.f 1; have y2 := nb.f 2; have y3 := nb.f 3; have y4 := nb.f 4
    dsimp only [zeroE] at z0 z1 z2 z3 z4
    go_simp
    clear z0 z1 z2 z3 z4 y0 y1 y2 y3 y4
    have nb2 := nb.store ⟨K1, ts, o, vs, U1⟩
    have hr2 := hS.2.1.stOtherN (show w.heap.size + 1 ≠ X by omega) ⟨K1, ts, o, vs, U1⟩
    refine hK.out _ _ ⟨hS.1.stOther (show w.heap.size ≠ X by omega) ⟨K1, ts, o, vs, U1⟩, hr2, stE_below hS.2.2 (show w.heap.size ≤ X by omega) ⟨K1, ts, o, vs, U1⟩⟩ (fun hS => ?_)
    clear hK K nb hr2
    have h5 := hS
    refine wpAnyH_done (by kernel_rfl) ?_ _
    clear hS
    go_simp
    dsimp only [stE] at *
    generalize hw5 : (((((World.setCell u ⟨X, 0, none⟩ (.string K1)).setCell ⟨X, 1, none⟩ (.int .i64 ts)).setCell ⟨X, 2, none⟩ (.int .u16 o)).setCell ⟨X, 3, none⟩ (.string vs)).setCell ⟨X, 4, none⟩ (.int .i64 U1)) = w5 at *
    clear hw5
    have z0 := nb2.c0; have z1 := nb2.c1; have z2 := nb2.c2; have z3 := nb2.c3; have z4 := nb2.c4
    dsimp only at z0 z1 z2 z3 z4
    have HG := Lib.hid (And.intro nb2 h5)
    clear nb2 h5 hX
    go_wp2_with (go_at_call 16; refine (HC.out _).mono ?_; rintro e w6 ⟨rfl, q6⟩; refine Hid.out ?_)
    refine Lib.hid ?_
    obtain ⟨nb2, s5, r5, d5⟩ := HG.out
    clear z0 z1 z2 z3 z4 HG
    have nb6 := nb2.on q6
    have r6 := r5.on q6
    have D6 := d5.trans (q6.mono d5.size)
    have z0 := nb6.c0; have z1 := nb6.c1; have z2 := nb6.c2; have z3 := nb6.c3; have z4 := nb6.c4
    dsimp only at z0 z1 z2 z3 z4
    have t0 := r6.c0; have t1 := r6.c1; have t2 := r6.c2; have t3 := r6.c3; have t4 := r6.c4; have y0 := r6.f 0; have y1 := r6.f 1; have y2 := r6.f 2; have y3 := r6.f 3; have y4 := r6.f 4
    dsimp only [zeroE] at t0 t1 t2 t3 t4
    have HF := Lib.hid (r6.store zeroE)
    have HQ := Lib.hid (stE_below D6 (show w.heap.size ≤ w.heap.size + 1 by omega) zeroE)
    try dsimp only [zeroE] at HF HQ
    clear nb6 r6 D6 nb2 s5 r5 d5 q6
    go_wp2
    refine bodyPost_ret (v := .tuple #[.agg #[.string ⟨#[]⟩, .int .i64 0, .int .u16 0, .string ⟨#[]⟩, .int .i64 0], .int .i64 E]) (by have b5 := HF.out; have z0 := b5.c0; have z1 := b5.c1; have z2 := b5.c2; have z3 := b5.c3; have z4 := b5.c4; try unfold stE at z0 z1 z2 z3 z4; simp [results, Tryd.results10, go_sem, z0, z1, z2, z3, z4]) rfl ?_
    exact ⟨rfl, HQ.out⟩
set_option maxRecDepth 100000 in
set_option maxHeartbeats 4000000 in
theorem fEntry_ok (s : Snd) (o keep : Int) (B : Nat) (w : World) (hB : B ≤ w.heap.size) (hv : VarsOk B w) (h1 : s.r.size ≠ 0) (h2 : s.k.size ≠ 0) (hr : s.r.size ≤ 1048576) (hg : s.k.size ≤ 1048576) (he : checkEn (entN s o keep) = 0) :
    Calls Tryd.prog 10 #[.agg #[.string s.r, .string s.k, .string s.v, .int .i64 s.t], .int .u16 o, .int .i64 keep] w fun e w' => e = .returned (.tuple #[.agg #[.string (keyN s.r s.k), .int .i64 s.t, .int .u16 o, .string s.v, .int .i64 (IntKind.i64.wrap (s.t + keep))], .int .i64 0]) ∧ Below w.heap.size w w' := by
  have d1 := (Below.refl w.heap.size w).alloc (Nat.le_refl _) (.cells #[.string s.r, .string s.k, .string s.v, .int .i64 s.t] 33)
  have b1 := (SnBlk.new w s).on ((Below.refl _ _).alloc (Nat.le_refl _) (.cells #[.string ⟨#[]⟩, .int .i64 0, .int .u16 0, .string ⟨#[]⟩, .int .i64 0] 24))
  have d2 := d1.alloc (by simp) (.cells #[.string ⟨#[]⟩, .int .i64 0, .int .u16 0, .string ⟨#[]⟩, .int .i64 0] 24)
  have b2 := EBlk.new (w.alloc (.cells #[.string s.r, .string s.k, .string s.v, .int .i64 s.t] 33)) zeroE
  rw [World.size_alloc] at b2
  dsimp only [zeroE] at b2
  have g1 : (s.r.toList == ([] : List UInt8)) = false := by rw [toListN, decide_eq_false h1]
  have g2 : (s.k.toList == ([] : List UInt8)) = false := by rw [toListN, decide_eq_false h2]
  have HK : Hid (∀ u, Below w.heap.size w u → Calls Tryd.prog 12 #[.string s.r, .string s.k] u fun e w' => e = .returned (.string (keyN s.r s.k)) ∧ Below u.heap.size u w') := Lib.hid (fun u hu => fKey_any s.r s.k hr hg B u (Nat.le_trans hB hu.size) (hv.on (hu.mono hB)))
  have HC := Lib.hid (fun u => eCheck_any (entN s o keep) u)
  unfold entN at HC he
  obtain ⟨K1, hK1⟩ : ∃ z, keyN s.r s.k = z := ⟨_, rfl⟩
  obtain ⟨U1, hU1⟩ : ∃ z, IntKind.i64.wrap (s.t + keep) = z := ⟨_, rfl⟩
  rw [hK1] at HK
  simp only [hK1, hU1] at HC he ⊢
  rw [he] at HC
  have HU := Lib.hid hU1
  clear h1 h2 hr hg hB hv he hK1 hU1 d1
  have x0 := b1.c0; have x1 := b1.c1
  have HZ := Lib.hid (And.intro b1 (And.intro b2 d2))
  clear b1 b2 d2
  obtain ⟨rs, ks, vs, ts⟩ := s
  dsimp only at *
  go_enter Tryd.func10, Tryd.ntmps10
  go_wp2_with fail
  obtain ⟨b1, b2, d2⟩ := HZ.out
  clear x0 x1 HZ g1 g2
  generalize hw2 : ((w.alloc (.cells #[.string rs, .string ks, .string vs, .int .i64 ts] 33)).alloc (.cells #[.string ⟨#[]⟩, .int .i64 0, .int .u16 0, .string ⟨#[]⟩, .int .i64 0] 24)) = w2 at *
  clear hw2
  refine wp_region_any (by kernel_rfl) ?_
  change wpAny _ _ _ _ _ _ _ (World.drew _)
  have hS : (fun w' : World => SnBlk w' w.heap.size ⟨rs, ks, vs, ts⟩ ∧ EBlk w' (w.heap.size + 1) zeroE ∧ Below w.heap.size w w') w2.drew := ⟨b1, b2, d2.drew⟩
  refine wpAny_of_held (S := fun w' => SnBlk w' w.heap.size ⟨rs, ks, vs, ts⟩ ∧ EBlk w' (w.heap.size + 1) zeroE ∧ Below w.heap.size w w') _ _ _ _ ?_
  clear b1 b2 d2
  refine wpAnyH_takeE (i := 0) (some 19) (v := ?_) rfl rfl (by as_aux_lemma => kernel_rfl) (by as_aux_lemma => kernel_rfl) (by as_aux_lemma => kernel_rfl) (fun _ _ _ h => h) (Or.inl ⟨by kernel_rfl, ?_⟩) hS ?_
  rotate_left
  · intro w hSw; have x0 := hSw.1.c0; have x1 := hSw.1.c1; have x2 := hSw.1.c2; have x3 := hSw.1.c3; dsimp only at x0 x1 x2 x3; go_simp
    first | done | with_reducible rfl
  refine wpAnyH_takeE (i := 1) (some 20) (v := ?_) rfl rfl (by as_aux_lemma => kernel_rfl) (by as_aux_lemma => kernel_rfl) (by as_aux_lemma => kernel_rfl) (fun _ _ _ h => h) (Or.inl ⟨by kernel_rfl, ?_⟩) hS ?_
  rotate_left
  · intro w hSw; have x0 := hSw.1.c0; have x1 := hSw.1.c1; have x2 := hSw.1.c2; have x3 := hSw.1.c3; dsimp only at x0 x1 x2 x3; go_simp
    first | done | with_reducible rfl
  refine wpAnyH_takeE (i := 2) (some 21) (v := ?_) rfl rfl (by as_aux_lemma => kernel_rfl) (by as_aux_lemma => kernel_rfl) (by as_aux_lemma => kernel_rfl) (fun _ _ _ h => h) (Or.inl ⟨by kernel_rfl, ?_⟩) hS ?_
  rotate_left
  · intro w hSw; have x0 := hSw.1.c0; have x1 := hSw.1.c1; have x2 := hSw.1.c2; have x3 := hSw.1.c3; dsimp only at x0 x1 x2 x3; go_simp
    first | done | with_reducible rfl
  refine wpAnyH_takeE (i := 3) (some 22) (v := ?_) rfl rfl (by as_aux_lemma => kernel_rfl) (by as_aux_lemma => kernel_rfl) (by as_aux_lemma => kernel_rfl) (fun _ _ _ h => h) (Or.inl ⟨by kernel_rfl, ?_⟩) hS ?_
  rotate_left
  · intro w hSw; have x0 := hSw.1.c0; have x1 := hSw.1.c1; have x2 := hSw.1.c2; have x3 := hSw.1.c3; dsimp only at x0 x1 x2 x3; go_simp
    first | done | with_reducible rfl
  refine wpAnyH_takeE (i := 5) (some 24) (v := ?_) rfl rfl (by as_aux_lemma => kernel_rfl) (by as_aux_lemma => kernel_rfl) (by as_aux_lemma => kernel_rfl) (fun _ _ _ h => h) (Or.inl ⟨by kernel_rfl, ?_⟩) hS ?_
  rotate_left
  · intro w hSw; have x0 := hSw.1.c0; have x1 := hSw.1.c1; have x2 := hSw.1.c2; have x3 := hSw.1.c3; dsimp only at x0 x1 x2 x3; go_simp
    first | done | with_reducible rfl
  refine wpAnyH_takeE (i := 6) (some 25) (v := ?_) rfl rfl (by as_aux_lemma => kernel_rfl) (by as_aux_lemma => kernel_rfl) (by as_aux_lemma => kernel_rfl) (fun _ _ _ h => h) (Or.inl ⟨by kernel_rfl, ?_⟩) hS ?_
  rotate_left
  · intro w hSw; have x0 := hSw.1.c0; have x1 := hSw.1.c1; have x2 := hSw.1.c2; have x3 := hSw.1.c3; dsimp only at x0 x1 x2 x3; go_simp
    first | done | with_reducible rfl
  refine wpAnyH_takeE (i := 7) (some 26) (v := ?_) rfl rfl (by as_aux_lemma => kernel_rfl) (by as_aux_lemma => kernel_rfl) (by as_aux_lemma => kernel_rfl) (fun _ _ _ h => h) (Or.inl ⟨by kernel_rfl, ?_⟩) hS ?_
  rotate_left
  · intro w hSw; have x0 := hSw.1.c0; have x1 := hSw.1.c1; have x2 := hSw.1.c2; have x3 := hSw.1.c3; dsimp only at x0 x1 x2 x3; go_simp
    first | done | with_reducible rfl
  refine wpAnyH_takeE (i := 8) (some 27) (v := ?_) rfl rfl (by as_aux_lemma => kernel_rfl) (by as_aux_lemma => kernel_rfl) (by as_aux_lemma => kernel_rfl) (fun _ _ _ h => h) (Or.inl ⟨by kernel_rfl, ?_⟩) hS ?_
  rotate_left
  · intro w hSw; have x0 := hSw.1.c0; have x1 := hSw.1.c1; have x2 := hSw.1.c2; have x3 := hSw.1.c3; dsimp only at x0 x1 x2 x3; go_simp
    first | done | with_reducible rfl
  refine wpAnyH_takeE (i := 9) (some 28) (v := ?_) rfl rfl (by as_aux_lemma => kernel_rfl) (by as_aux_lemma => kernel_rfl) (by as_aux_lemma => kernel_rfl) (fun _ _ _ h => h) (Or.inl ⟨by kernel_rfl, ?_⟩) hS ?_
  rotate_left
  · intro w hSw; have x0 := hSw.1.c0; have x1 := hSw.1.c1; have x2 := hSw.1.c2; have x3 := hSw.1.c3; dsimp only at x0 x1 x2 x3; go_simp
    first | done | with_reducible rfl
  refine wpAnyH_takeE (i := 10) (some 29) (v := ?_) rfl rfl (by as_aux_lemma => kernel_rfl) (by as_aux_lemma => kernel_rfl) (by as_aux_lemma => kernel_rfl) (fun _ _ _ h => h) (Or.inl ⟨by kernel_rfl, ?_⟩) hS ?_
  rotate_left
  · intro w hSw; have x0 := hSw.1.c0; have x1 := hSw.1.c1; have x2 := hSw.1.c2; have x3 := hSw.1.c3; dsimp only at x0 x1 x2 x3; go_simp
    first | done | with_reducible rfl
  refine wpAnyH_takeE (i := 11) (some 30) (v := ?_) rfl rfl (by as_aux_lemma => kernel_rfl) (by as_aux_lemma => kernel_rfl) (by as_aux_lemma => kernel_rfl) (fun _ _ _ h => h) (Or.inl ⟨by kernel_rfl, ?_⟩) hS ?_
  rotate_left
  · intro w hSw; have x0 := hSw.1.c0; have x1 := hSw.1.c1; have x2 := hSw.1.c2; have x3 := hSw.1.c3; dsimp only at x0 x1 x2 x3; go_simp
    first | done | with_reducible rfl
  refine wpAnyH_takeE (i := 12) (some 31) (v := ?_) rfl rfl (by as_aux_lemma => kernel_rfl) (by as_aux_lemma => kernel_rfl) (by as_aux_lemma => kernel_rfl) (fun _ _ _ h => h) (Or.inl ⟨by kernel_rfl, ?_⟩) hS ?_
  rotate_left
  · intro w hSw; have x0 := hSw.1.c0; have x1 := hSw.1.c1; have x2 := hSw.1.c2; have x3 := hSw.1.c3; dsimp only at x0 x1 x2 x3; go_simp
    first | done | with_reducible rfl
  have hU := HU.out
  refine wpAnyH_takeE (i := 13) (some 32) (v := ?_) rfl rfl (by as_aux_lemma => kernel_rfl) (by as_aux_lemma => kernel_rfl) (by as_aux_lemma => kernel_rfl) (fun _ _ _ h => h) (Or.inl ⟨by kernel_rfl, ?_⟩) hS ?_
  rotate_left
  · intro w hSw; have x0 := hSw.1.c0; have x1 := hSw.1.c1; have x2 := hSw.1.c2; have x3 := hSw.1.c3; dsimp only at x0 x1 x2 x3; go_simp
    first | done | with_reducible rfl
  clear hU
  refine wpAnyH_ready (rs := [4, 15]) (by as_aux_lemma => kernel_rfl) (by simp) ?_
  refine AllReadyH.cons rfl (fun K hK => ?_) (AllReadyH.cons rfl (fun K hK => ?_) AllReadyH.nil)
  · go_simp
    go_wp2_with (go_at_call 12; refine (HK.out _ hS.2.2).mono ?_; rintro e u ⟨rfl, q'⟩)
    refine hK.out _ _ ?_ (fun hS => ?_)
    · exact ⟨hS.1.on q', hS.2.1.on q', hS.2.2.trans (q'.mono hS.2.2.size)⟩
    clear hK K q'
    refine wpAnyH_takeE (i := 14) (some 33) (v := ?_) rfl rfl (by as_aux_lemma => kernel_rfl) (by as_aux_lemma => kernel_rfl) (by as_aux_lemma => kernel_rfl) (fun _ _ _ h => h) (Or.inl ⟨by kernel_rfl, ?_⟩) hS ?_
    rotate_left
    · intro w hSw; have x0 := hSw.1.c0; have x1 := hSw.1.c1; have x2 := hSw.1.c2; have x3 := hSw.1.c3; dsimp only at x0 x1 x2 x3; go_simp
      first | done | with_reducible rfl
    refine wpAnyH_ready (rs := [15]) (by as_aux_lemma => kernel_rfl) (by simp) ?_
    refine AllReadyH.cons rfl (fun K hK => ?_) AllReadyH.nil
    go_simp
    have dX := (Below.refl u.heap.size u).alloc (Nat.le_refl _) (.cells #[.string ⟨#[]⟩, .int .i64 0, .int .u16 0, .string ⟨#[]⟩, .int .i64 0] 24)
    have hX : w.heap.size + 1 < u.heap.size := hS.2.1.lt
    have nb := EBlk.new u zeroE
    dsimp only [zeroE] at nb
    refine hK.out _ _ ⟨hS.1.on dX, hS.2.1.on dX, hS.2.2.trans (dX.mono hS.2.2.size)⟩ (fun hS => ?_)
    clear hK K dX
    generalize hy : u.alloc (.cells #[.string ⟨#[]⟩, .int .i64 0, .int .u16 0, .string ⟨#[]⟩, .int .i64 0] 24) = u2 at *
    clear hy
    generalize u.heap.size = X at *
    refine wpAnyH_ready (rs := [16]) (by as_aux_lemma => kernel_rfl) (by simp) ?_
    refine AllReadyH.cons rfl (fun K hK => ?_) AllReadyH.nil
    have z0 := nb.c0; have z1 := nb.c1; have z2 := nb.c2; have z3 := nb.c3; have z4 := nb.c4; have y0 := nb.f 0; have y1 := nb.f 1; have y2 := nb.f 2; have y3 := nb.f 3; have y4 := nb.f 4
    dsimp only [zeroE] at z0 z1 z2 z3 z4
    go_simp
    clear z0 z1 z2 z3 z4 y0 y1 y2 y3 y4
    have nb2 := nb.store ⟨K1, ts, o, vs, U1⟩
    have hr2 := hS.2.1.stOtherN (show w.heap.size + 1 ≠ X by omega) ⟨K1, ts, o, vs, U1⟩
    refine hK.out _ _ ⟨hS.1.stOther (show w.heap.size ≠ X by omega) ⟨K1, ts, o, vs, U1⟩, hr2, stE_below hS.2.2 (show w.heap.size ≤ X by omega) ⟨K1, ts, o, vs, U1⟩⟩ (fun hS => ?_)
    clear hK K nb hr2
    have h5 := hS
    refine wpAnyH_done (by kernel_rfl) ?_ _
    clear hS
    go_simp
    dsimp only [stE] at *
    generalize hw5 : (((((World.setCell u2 ⟨X, 0, none⟩ (.string K1)).setCell ⟨X, 1, none⟩ (.int .i64 ts)).setCell ⟨X, 2, none⟩ (.int .u16 o)).setCell ⟨X, 3, none⟩ (.string vs)).setCell ⟨X, 4, none⟩ (.int .i64 U1)) = w5 at *
    clear hw5
    have z0 := nb2.c0; have z1 := nb2.c1; have z2 := nb2.c2; have z3 := nb2.c3; have z4 := nb2.c4
    dsimp only at z0 z1 z2 z3 z4
    have HG := Lib.hid (And.intro nb2 h5)
    clear nb2 h5 hX
    go_wp2_with (go_at_call 16; refine (HC.out _).mono ?_; rintro e w6 ⟨rfl, q6⟩; refine Hid.out ?_)
    refine Lib.hid ?_
    obtain ⟨nb2, s5, r5, d5⟩ := HG.out
    clear z0 z1 z2 z3 z4 HG
    have nb6 := nb2.on q6
    have r6 := r5.on q6
    have D6 := d5.trans (q6.mono d5.size)
    have z0 := nb6.c0; have z1 := nb6.c1; have z2 := nb6.c2; have z3 := nb6.c3; have z4 := nb6.c4
    dsimp only at z0 z1 z2 z3 z4
    have t0 := r6.c0; have t1 := r6.c1; have t2 := r6.c2; have t3 := r6.c3; have t4 := r6.c4; have y0 := r6.f 0; have y1 := r6.f 1; have y2 := r6.f 2; have y3 := r6.f 3; have y4 := r6.f 4
    dsimp only [zeroE] at t0 t1 t2 t3 t4
    have HF := Lib.hid (r6.store ⟨K1, ts, o, vs, U1⟩)
    have HQ := Lib.hid (stE_below D6 (show w.heap.size ≤ w.heap.size + 1 by omega) ⟨K1, ts, o, vs, U1⟩)
    try dsimp only [zeroE] at HF HQ
    clear nb6 r6 D6 nb2 s5 r5 d5 q6
    go_wp2
    refine bodyPost_ret (v := .tuple #[.agg #[.string K1, .int .i64 ts, .int .u16 o, .string vs, .int .i64 U1], .int .i64 0]) (by have b5 := HF.out; have z0 := b5.c0; have z1 := b5.c1; have z2 := b5.c2; have z3 := b5.c3; have z4 := b5.c4; try unfold stE at z0 z1 z2 z3 z4; simp [results, Tryd.results10, go_sem, z0, z1, z2, z3, z4]) rfl ?_
    exact ⟨rfl, HQ.out⟩
  · go_simp
    have dX : Below w2.drew.heap.size w2.drew (w2.alloc (.cells #[.string ⟨#[]⟩, .int .i64 0, .int .u16 0, .string ⟨#[]⟩, .int .i64 0] 24)).drew := (Below.refl w2.drew.heap.size w2.drew).alloc (Nat.le_refl _) (.cells #[.string ⟨#[]⟩, .int .i64 0, .int .u16 0, .string ⟨#[]⟩, .int .i64 0] 24)
    have hX : w.heap.size + 1 < w2.heap.size := hS.2.1.lt
    have nb0 : EBlk (w2.alloc (.cells #[.string ⟨#[]⟩, .int .i64 0, .int .u16 0, .string ⟨#[]⟩, .int .i64 0] 24)).drew w2.heap.size zeroE := EBlk.new w2 zeroE
    refine hK.out _ _ ⟨hS.1.on dX, hS.2.1.on dX, hS.2.2.trans (dX.mono hS.2.2.size)⟩ (fun hS => ?_)
    clear hK K dX
    refine wpAnyH_ready (rs := [4]) (by as_aux_lemma => kernel_rfl) (by simp) ?_
    refine AllReadyH.cons rfl (fun K hK => ?_) AllReadyH.nil
    go_simp
    go_wp2_with (go_at_call 12; refine (HK.out _ hS.2.2).mono ?_; rintro e u ⟨rfl, q'⟩)
    have nb := nb0.on q'
    refine hK.out _ _ ?_ (fun hS => ?_)
    · exact ⟨hS.1.on q', hS.2.1.on q', hS.2.2.trans (q'.mono hS.2.2.size)⟩
    clear hK K q' nb0
    generalize w2.heap.size = X at *
    refine wpAnyH_takeE (i := 14) (some 33) (v := ?_) rfl rfl (by as_aux_lemma => kernel_rfl) (by as_aux_lemma => kernel_rfl) (by as_aux_lemma => kernel_rfl) (fun _ _ _ h => h) (Or.inl ⟨by kernel_rfl, ?_⟩) hS ?_
    rotate_left
    · intro w hSw; have x0 := hSw.1.c0; have x1 := hSw.1.c1; have x2 := hSw.1.c2; have x3 := hSw.1.c3; dsimp only at x0 x1 x2 x3; go_simp
      first | done | with_reducible rfl
    refine wpAnyH_ready (rs := [16]) (by as_aux_lemma => kernel_rfl) (by simp) ?_
    refine AllReadyH.cons rfl (fun K hK => ?_) AllReadyH.nil
    have z0 := nb.c0; have z1 := nb.c1; have z2 := nb.c2; have z3 := nb.c3; have z4 := nb.c4; have y0 := nb.f 0; have y1 := nb.f 1; have y2 := nb.f 2; have y3 := nb.f 3; have y4 := nb.f 4
    dsimp only [zeroE] at z0 z1 z2 z3 z4
    go_simp
    clear z0 z1 z2 z3 z4 y0 y1 y2 y3 y4
    have nb2 := nb.store ⟨K1, ts, o, vs, U1⟩
    have hr2 := hS.2.1.stOtherN (show w.heap.size + 1 ≠ X by omega) ⟨K1, ts, o, vs, U1⟩
    refine hK.out _ _ ⟨hS.1.stOther (show w.heap.size ≠ X by omega) ⟨K1, ts, o, vs, U1⟩, hr2, stE_below hS.2.2 (show w.heap.size ≤ X by omega) ⟨K1, ts, o, vs, U1⟩⟩ (fun hS => ?_)
    clear hK K nb hr2
    have h5 := hS
    refine wpAnyH_done (by kernel_rfl) ?_ _
    clear hS
    go_simp
    dsimp only [stE] at *
    generalize hw5 : (((((World.setCell u ⟨X, 0, none⟩ (.string K1)).setCell ⟨X, 1, none⟩ (.int .i64 ts)).setCell ⟨X, 2, none⟩ (.int .u16 o)).setCell ⟨X, 3, none⟩ (.string vs)).setCell ⟨X, 4, none⟩ (.int .i64 U1)) = w5 at *
    clear hw5
    have z0 := nb2.c0; have z1 := nb2.c1; have z2 := nb2.c2; have z3 := nb2.c3; have z4 := nb2.c4
    dsimp only at z0 z1 z2 z3 z4
    have HG := Lib.hid (And.intro nb2 h5)
    clear nb2 h5 hX
    go_wp2_with (go_at_call 16; refine (HC.out _).mono ?_; rintro e w6 ⟨rfl, q6⟩; refine Hid.out ?_)
    refine Lib.hid ?_
    obtain ⟨nb2, s5, r5, d5⟩ := HG.out
    clear z0 z1 z2 z3 z4 HG
    have nb6 := nb2.on q6
    have r6 := r5.on q6
    have D6 := d5.trans (q6.mono d5.size)
    have z0 := nb6.c0; have z1 := nb6.c1; have z2 := nb6.c2; have z3 := nb6.c3; have z4 := nb6.c4
    dsimp only at z0 z1 z2 z3 z4
    have t0 := r6.c0; have t1 := r6.c1; have t2 := r6.c2; have t3 := r6.c3; have t4 := r6.c4; have y0 := r6.f 0; have y1 := r6.f 1; have y2 := r6.f 2; have y3 := r6.f 3; have y4 := r6.f 4
    dsimp only [zeroE] at t0 t1 t2 t3 t4
    have HF := Lib.hid (r6.store ⟨K1, ts, o, vs, U1⟩)
    have HQ := Lib.hid (stE_below D6 (show w.heap.size ≤ w.heap.size + 1 by omega) ⟨K1, ts, o, vs, U1⟩)
    try dsimp only [zeroE] at HF HQ
    clear nb6 r6 D6 nb2 s5 r5 d5 q6
    go_wp2
    refine bodyPost_ret (v := .tuple #[.agg #[.string K1, .int .i64 ts, .int .u16 o, .string vs, .int .i64 U1], .int .i64 0]) (by have b5 := HF.out; have z0 := b5.c0; have z1 := b5.c1; have z2 := b5.c2; have z3 := b5.c3; have z4 := b5.c4; try unfold stE at z0 z1 z2 z3 z4; simp [results, Tryd.results10, go_sem, z0, z1, z2, z3, z4]) rfl ?_
    exact ⟨rfl, HQ.out⟩

end Go.Proofs.YtieepbjngolaoaaDoor
