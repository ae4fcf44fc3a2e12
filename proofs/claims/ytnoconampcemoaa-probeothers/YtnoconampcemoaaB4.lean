/-
  What Hear of package member tells.
-/
import Derived.Test.YtnoconampcemoaaB3
namespace Go.Proofs.Ytnoconampcemoaa
open Go Go.RowKit

/-- What Hear hands over. -/
def heardM (T : Tb) (m : Mem) : Mem := if newsB T m = true then saidM T m else zM
def HearPost (b : Nat) (T : Tb) (m : Mem) (w : World) (e : Ending) (w' : World) : Prop :=
  e = .returned (.tuple #[.agg #[.int .u16 (heardM T m).n, .int .u8 (heardM T m).s, .int .i64 (heardM T m).i], .bool (newsB T m)]) ∧ TabBlk w' b (hearB T m) ∧ w.grownBy w' (some b)
theorem below_grown {w a c : World} {b : Nat} (h : Below w.heap.size w a) (g : a.grownBy c (some b)) : w.grownBy c (some b) :=
  ⟨g.os.trans h.os, g.tape.trans h.tape, g.output.trans h.output, Nat.le_trans h.size g.size, fun k hk hne => (g.block k (Nat.lt_of_lt_of_le hk h.size) hne).trans (h.block k hk)⟩

set_option maxRecDepth 20000 in
set_option maxHeartbeats 8000000 in
theorem bHear_bad (b : Nat) (T : Tb) (k : Nat) (s i : Int) (w : World) (hT : TabBlk w b T) (hmay : mayM ⟨(k : Int), s, i⟩ = false) :
    Calls Try.prog 20 #[.pointer (some ⟨b, 0, none⟩), .agg #[.int .u16 (k : Int), .int .u8 s, .int .i64 i]] w fun e w' => e = .returned (.tuple #[.agg #[.int .u16 0, .int .u8 0, .int .i64 0], .bool false]) ∧ TabBlk w' b T ∧ Below w.heap.size w w' := by
  have HMay := Lib.hid (fun w => bmayBe_any ⟨(k : Int), s, i⟩ w)
  rw [hmay] at HMay
  dsimp only at HMay
  clear hmay
  have bw : b < w.heap.size := hT.lt
  have x0 := (Mb.new w ⟨(k : Int), s, i⟩).on ((Below.refl _ _).alloc (Nat.le_refl _) (.cells #[.int .u16 0, .int .u8 0, .int .i64 0] 43))
  have z0 := Mb.new2 w (.cells #[.int .u16 (k : Int), .int .u8 s, .int .i64 i] 43) zM
  have hb0 := ((Below.refl w.heap.size w).alloc (Nat.le_refl _) (.cells #[.int .u16 (k : Int), .int .u8 s, .int .i64 i] 43)).alloc (by simp) (.cells #[.int .u16 0, .int .u8 0, .int .i64 0] 43)
  have t0 := hT.on hb0
  have HZ := Lib.hid (And.intro t0 (And.intro x0 (And.intro z0 hb0)))
  clear t0 x0 z0 hb0
  go_enter Try.func20, Try.ntmps20
  go_wp2_with fail
  obtain ⟨t0, x0, z0, hb0⟩ := HZ.out
  generalize (w.alloc (.cells #[.int .u16 (k : Int), .int .u8 s, .int .i64 i] 43)).alloc (.cells #[.int .u16 0, .int .u8 0, .int .i64 0] 43) = W0 at *
  clear HZ hT
  have c0 := x0.c0; have c1 := x0.c1; have c2 := x0.c2
  dsimp only at c0 c1 c2
  have HZ := Lib.hid (And.intro t0 (And.intro x0 (And.intro z0 hb0)))
  clear t0 x0 z0 hb0
  go_wp2_with (go_at_call 38; refine (HMay.out _).mono ?_; rintro e w1 ⟨rfl, q1⟩; replace q1 := Lib.hid q1; refine Hid.out ?_)
  refine Lib.hid ?_
  obtain ⟨t0, x0, z0, hb0⟩ := HZ.out
  have t1 := t0.on q1.out; have x1 := x0.on q1.out; have z1 := z0.on q1.out; have hb1 := hb0.trans (q1.out.mono hb0.size)
  clear t0 x0 z0 hb0 c0 c1 c2 HZ q1 HMay
  have HZ := Lib.hid (And.intro (z1.store zM) (And.intro (stM_below hb1 (by omega : w.heap.size ≤ w.heap.size + 1) zM) (t1.kept (stM_grown _ (w.heap.size + 1) zM) (by simp; omega))))
  have f0 := z1.f; have e0 := z1.c0; have e1 := z1.c1; have e2 := z1.c2
  dsimp only at e0 e1 e2
  clear t1 x1 z1 hb1
  go_wp2
  exact bodyPost_ret (results_mb2 rfl _ _ _ rfl HZ.out.1) rfl ⟨rfl, HZ.out.2.2, HZ.out.2.1⟩
theorem grown_then {w a c : World} {r : Option Nat} (g : w.grownBy a r) (h : Below w.heap.size a c) : w.grownBy c r :=
  ⟨h.os.trans g.os, h.tape.trans g.tape, h.output.trans g.output, Nat.le_trans g.size h.size, fun k hk hne => (h.block k hk).trans (g.block k hk hne)⟩
/-- The last stores: into the place, into the answer. -/
theorem fin_hear (b : Nat) (T : Tb) (k : Nat) (hk : k < 64) (d : Mem) (w u : World) (hT : TabBlk u b T) (hz : Mb u (w.heap.size + 1) zM) (hb : Below w.heap.size w u) (hbw : b < w.heap.size) :
    Mb (stM (stP u b k d) (w.heap.size + 1) d) (w.heap.size + 1) d ∧ TabBlk (stM (stP u b k d) (w.heap.size + 1) d) b ⟨fun j => if j = k then some d else T.f j, T.s⟩ ∧ w.grownBy (stM (stP u b k d) (w.heap.size + 1) d) (some b) := by
  have h1 := hT.put k hk d
  have h2 := hz.kept (stP_grown u b k d) (by simp; omega)
  exact ⟨h2.store d, h1.kept (stM_grown _ _ d) (by simp; omega), grown_then (below_grown hb (stP_grown u b k d)) (stM_below (Below.refl _ _) (by omega) d)⟩

set_option maxRecDepth 20000 in
set_option maxHeartbeats 8000000 in
theorem bHear_none_self (b : Nat) (T : Tb) (k : Nat) (s i : Int) (w : World) (hT : TabBlk w b T) (hk : k < 64) (hs0 : 0 ≤ i) (hs1 : i ≤ 1073741824) (hmay : mayM ⟨(k : Int), s, i⟩ = true) (hf : T.f k = none) (hme : T.s = k) (ds di : Int) (hd : denyM ⟨(k : Int), s, i⟩ = ⟨k, ds, di⟩) : Calls Try.prog 20 #[.pointer (some ⟨b, 0, none⟩), .agg #[.int .u16 (k : Int), .int .u8 s, .int .i64 i]] w fun e w' => e = .returned (.tuple #[.agg #[.int .u16 (k : Int), .int .u8 ds, .int .i64 di], .bool true]) ∧ TabBlk w' b ⟨fun j => if j = k then some ⟨k, ds, di⟩ else T.f j, T.s⟩ ∧ w.grownBy w' (some b) := by
  have HDn := Lib.hid (fun w => bdenied_any ⟨(k : Int), s, i⟩ w hs1 hs0)
  rw [hd] at HDn
  dsimp only at HDn
  clear hd
  have HMay := Lib.hid (fun w => bmayBe_any ⟨(k : Int), s, i⟩ w)
  rw [hmay] at HMay
  dsimp only at HMay
  clear hmay
  have bw : b < w.heap.size := hT.lt
  have x0 := (Mb.new w ⟨(k : Int), s, i⟩).on ((Below.refl _ _).alloc (Nat.le_refl _) (.cells #[.int .u16 0, .int .u8 0, .int .i64 0] 43))
  have z0 := Mb.new2 w (.cells #[.int .u16 (k : Int), .int .u8 s, .int .i64 i] 43) zM
  have hb0 := ((Below.refl w.heap.size w).alloc (Nat.le_refl _) (.cells #[.int .u16 (k : Int), .int .u8 s, .int .i64 i] 43)).alloc (by simp) (.cells #[.int .u16 0, .int .u8 0, .int .i64 0] 43)
  have t0 := hT.on hb0
  have HZ := Lib.hid (And.intro t0 (And.intro x0 (And.intro z0 hb0)))
  clear t0 x0 z0 hb0
  go_enter Try.func20, Try.ntmps20
  go_wp2_with fail
  obtain ⟨t0, x0, z0, hb0⟩ := HZ.out
  generalize (w.alloc (.cells #[.int .u16 (k : Int), .int .u8 s, .int .i64 i] 43)).alloc (.cells #[.int .u16 0, .int .u8 0, .int .i64 0] 43) = W0 at *
  clear HZ hT
  have c0 := x0.c0; have c1 := x0.c1; have c2 := x0.c2
  dsimp only at c0 c1 c2
  have HZ := Lib.hid (And.intro t0 (And.intro x0 (And.intro z0 hb0)))
  clear t0 x0 z0 hb0
  go_wp2_with (go_at_call 38; refine (HMay.out _).mono ?_; rintro e w1 ⟨rfl, q1⟩; replace q1 := Lib.hid q1; refine Hid.out ?_)
  refine Lib.hid ?_
  obtain ⟨t0, x0, z0, hb0⟩ := HZ.out
  have t1 := t0.on q1.out; have x1 := x0.on q1.out; have z1 := z0.on q1.out; have hb1 := hb0.trans (q1.out.mono hb0.size)
  clear t0 x0 z0 hb0 c0 c1 c2 HZ q1 HMay
  have hk2 : (k : Int) < 64 := by omega
  go_wp2_with fail
  have HZ := Lib.hid (And.intro z1 hb1)
  clear z1 hb1
  refine wp_region_any (by kernel_rfl) ?_
  change wpAny _ _ _ _ _ _ _ (World.drew _)
  have hS : (fun w' : World => TabBlk w' b T ∧ Mb w' w.heap.size ⟨(k : Int), s, i⟩) w1.drew := ⟨t1, x1⟩
  refine wpAny_of_held (S := fun w' => TabBlk w' b T ∧ Mb w' w.heap.size ⟨(k : Int), s, i⟩) _ _ _ _ ?_
  clear t1 x1
  refine wpAnyH_takeE (i := 0) (some 15) (v := ?_) rfl rfl (by as_aux_lemma => kernel_rfl) (by as_aux_lemma => kernel_rfl) (by as_aux_lemma => kernel_rfl) (fun _ _ _ h => h) (Or.inl ⟨by kernel_rfl, ?_⟩) hS ?_
  rotate_left
  · intro w hSw; obtain ⟨d0, d1⟩ := hSw; have c0 := d1.c0; have c1 := d1.c1; have c2 := d1.c2; dsimp only at c0 c1 c2; clear d0 d1; go_simp
    first | done | with_reducible rfl
  refine wpAnyH_takeE (i := 1) (some 16) (v := ?_) rfl rfl (by as_aux_lemma => kernel_rfl) (by as_aux_lemma => kernel_rfl) (by as_aux_lemma => kernel_rfl) (fun _ _ _ h => h) (Or.inl ⟨by kernel_rfl, ?_⟩) hS ?_
  rotate_left
  · intro w hSw; obtain ⟨d0, d1⟩ := hSw; have c0 := d1.c0; have c1 := d1.c1; have c2 := d1.c2; dsimp only at c0 c1 c2; clear d0 d1; go_simp
    first | done | with_reducible rfl
  refine wpAnyH_takeE (i := 2) (some 17) (v := ?_) rfl rfl (by as_aux_lemma => kernel_rfl) (by as_aux_lemma => kernel_rfl) (by as_aux_lemma => kernel_rfl) (fun _ _ _ h => h) (Or.inl ⟨by kernel_rfl, ?_⟩) hS ?_
  rotate_left
  · intro w hSw; obtain ⟨d0, d1⟩ := hSw; have c0 := d1.c0; have c1 := d1.c1; have c2 := d1.c2; dsimp only at c0 c1 c2; clear d0 d1; go_simp
    first | done | with_reducible rfl
  refine wpAnyH_takeE (i := 3) (some 18) (v := ?_) rfl rfl (by as_aux_lemma => kernel_rfl) (by as_aux_lemma => kernel_rfl) (by as_aux_lemma => kernel_rfl) (fun _ _ _ h => h) (Or.inl ⟨by kernel_rfl, ?_⟩) hS ?_
  rotate_left
  · intro w hSw; obtain ⟨d0, d1⟩ := hSw; have c0 := d1.c0; have c1 := d1.c1; have c2 := d1.c2; dsimp only at c0 c1 c2; clear d0 d1; go_simp
    first | done | with_reducible rfl
  refine wpAnyH_takeE (i := 4) (some 19) (v := ?_) rfl rfl (by as_aux_lemma => kernel_rfl) (by as_aux_lemma => kernel_rfl) (by as_aux_lemma => kernel_rfl) (fun _ _ _ h => h) (Or.inl ⟨by kernel_rfl, ?_⟩) hS ?_
  rotate_left
  · intro w hSw; obtain ⟨d0, d1⟩ := hSw; have c0 := d1.c0; have c1 := d1.c1; have c2 := d1.c2; dsimp only at c0 c1 c2; clear d0 d1; go_simp
    first | done | with_reducible rfl
  refine wpAnyH_takeE (i := 5) (some 20) (v := ?_) rfl rfl (by as_aux_lemma => kernel_rfl) (by as_aux_lemma => kernel_rfl) (by as_aux_lemma => kernel_rfl) (fun _ _ _ h => h) (Or.inl ⟨by kernel_rfl, ?_⟩) hS ?_
  rotate_left
  · intro w hSw; obtain ⟨d0, d1⟩ := hSw; have c0 := d1.c0; have c1 := d1.c1; have c2 := d1.c2; dsimp only at c0 c1 c2; clear d0 d1; go_simp
    first | done | with_reducible rfl
  refine wpAnyH_takeE (i := 6) (some 6) (v := ?_) rfl rfl (by as_aux_lemma => kernel_rfl) (by as_aux_lemma => kernel_rfl) (by as_aux_lemma => kernel_rfl) (fun _ _ _ h => h) (Or.inl ⟨by kernel_rfl, ?_⟩) hS ?_
  rotate_left
  · intro w hSw; obtain ⟨d0, d1⟩ := hSw; have c0 := d1.c0; have c1 := d1.c1; have c2 := d1.c2; dsimp only at c0 c1 c2; clear d0 d1; go_simp
    first | done | with_reducible rfl
  obtain ⟨t1, x1⟩ := hS
  refine wpAnyH_done (by kernel_rfl) ?_ _
  go_simp
  go_wp2_with fail
  refine wp_region_any (by kernel_rfl) ?_
  change wpAny _ _ _ _ _ _ _ (World.drew _)
  have hS : (fun w' : World => TabBlk w' b T ∧ Mb w' w.heap.size ⟨(k : Int), s, i⟩) w1.drew.drew := ⟨t1, x1⟩
  refine wpAny_of_held (S := fun w' => TabBlk w' b T ∧ Mb w' w.heap.size ⟨(k : Int), s, i⟩) _ _ _ _ ?_
  clear t1 x1
  refine wpAnyH_takeE (i := 0) (some 21) (v := ?_) rfl rfl (by as_aux_lemma => kernel_rfl) (by as_aux_lemma => kernel_rfl) (by as_aux_lemma => kernel_rfl) (fun _ _ _ h => h) (Or.inl ⟨by kernel_rfl, ?_⟩) hS ?_
  rotate_left
  · intro w hSw; obtain ⟨d0, d1⟩ := hSw; have c0 := d1.c0; have c1 := d1.c1; have c2 := d1.c2; obtain ⟨a1, a2, a3, a4⟩ := d0.nomem hk hf; dsimp only at c0 c1 c2; clear d0 d1; go_simp
    first | done | with_reducible rfl
  refine wpAnyH_takeE (i := 1) (some 22) (v := ?_) rfl rfl (by as_aux_lemma => kernel_rfl) (by as_aux_lemma => kernel_rfl) (by as_aux_lemma => kernel_rfl) (fun _ _ _ h => h) (Or.inl ⟨by kernel_rfl, ?_⟩) hS ?_
  rotate_left
  · intro w hSw; obtain ⟨d0, d1⟩ := hSw; have c0 := d1.c0; have c1 := d1.c1; have c2 := d1.c2; obtain ⟨a1, a2, a3, a4⟩ := d0.nomem hk hf; dsimp only at c0 c1 c2; clear d0 d1; go_simp
    first | done | with_reducible rfl
  refine wpAnyH_takeE (i := 2) (some 23) (v := ?_) rfl rfl (by as_aux_lemma => kernel_rfl) (by as_aux_lemma => kernel_rfl) (by as_aux_lemma => kernel_rfl) (fun _ _ _ h => h) (Or.inl ⟨by kernel_rfl, ?_⟩) hS ?_
  rotate_left
  · intro w hSw; obtain ⟨d0, d1⟩ := hSw; have c0 := d1.c0; have c1 := d1.c1; have c2 := d1.c2; obtain ⟨a1, a2, a3, a4⟩ := d0.nomem hk hf; dsimp only at c0 c1 c2; clear d0 d1; go_simp
    first | done | with_reducible rfl
  refine wpAnyH_takeE (i := 3) (some 24) (v := ?_) rfl rfl (by as_aux_lemma => kernel_rfl) (by as_aux_lemma => kernel_rfl) (by as_aux_lemma => kernel_rfl) (fun _ _ _ h => h) (Or.inl ⟨by kernel_rfl, ?_⟩) hS ?_
  rotate_left
  · intro w hSw; obtain ⟨d0, d1⟩ := hSw; have c0 := d1.c0; have c1 := d1.c1; have c2 := d1.c2; obtain ⟨a1, a2, a3, a4⟩ := d0.nomem hk hf; dsimp only at c0 c1 c2; clear d0 d1; go_simp
    first | done | with_reducible rfl
  refine wpAnyH_takeE (i := 4) (some 25) (v := ?_) rfl rfl (by as_aux_lemma => kernel_rfl) (by as_aux_lemma => kernel_rfl) (by as_aux_lemma => kernel_rfl) (fun _ _ _ h => h) (Or.inl ⟨by kernel_rfl, ?_⟩) hS ?_
  rotate_left
  · intro w hSw; obtain ⟨d0, d1⟩ := hSw; have c0 := d1.c0; have c1 := d1.c1; have c2 := d1.c2; obtain ⟨a1, a2, a3, a4⟩ := d0.nomem hk hf; dsimp only at c0 c1 c2; clear d0 d1; go_simp
    first | done | with_reducible rfl
  refine wpAnyH_takeE (i := 5) (some 26) (v := undef) rfl rfl (by as_aux_lemma => kernel_rfl) (by as_aux_lemma => kernel_rfl) (by as_aux_lemma => kernel_rfl) (fun _ _ _ h => h) (Or.inr ⟨by kernel_rfl, rfl⟩) hS ?_
  refine wpAnyH_takeE (i := 6) (some 27) (v := undef) rfl rfl (by as_aux_lemma => kernel_rfl) (by as_aux_lemma => kernel_rfl) (by as_aux_lemma => kernel_rfl) (fun _ _ _ h => h) (Or.inr ⟨by kernel_rfl, rfl⟩) hS ?_
  refine wpAnyH_takeE (i := 7) (some 28) (v := undef) rfl rfl (by as_aux_lemma => kernel_rfl) (by as_aux_lemma => kernel_rfl) (by as_aux_lemma => kernel_rfl) (fun _ _ _ h => h) (Or.inr ⟨by kernel_rfl, rfl⟩) hS ?_
  refine wpAnyH_takeE (i := 8) (some 29) (v := undef) rfl rfl (by as_aux_lemma => kernel_rfl) (by as_aux_lemma => kernel_rfl) (by as_aux_lemma => kernel_rfl) (fun _ _ _ h => h) (Or.inr ⟨by kernel_rfl, rfl⟩) hS ?_
  refine wpAnyH_takeE (i := 9) (some 30) (v := undef) rfl rfl (by as_aux_lemma => kernel_rfl) (by as_aux_lemma => kernel_rfl) (by as_aux_lemma => kernel_rfl) (fun _ _ _ h => h) (Or.inr ⟨by kernel_rfl, rfl⟩) hS ?_
  refine wpAnyH_takeE (i := 10) (some 31) (v := undef) rfl rfl (by as_aux_lemma => kernel_rfl) (by as_aux_lemma => kernel_rfl) (by as_aux_lemma => kernel_rfl) (fun _ _ _ h => h) (Or.inr ⟨by kernel_rfl, rfl⟩) hS ?_
  refine wpAnyH_takeE (i := 11) (some 32) (v := undef) rfl rfl (by as_aux_lemma => kernel_rfl) (by as_aux_lemma => kernel_rfl) (by as_aux_lemma => kernel_rfl) (fun _ _ _ h => h) (Or.inr ⟨by kernel_rfl, rfl⟩) hS ?_
  refine wpAnyH_takeE (i := 12) (some 33) (v := ?_) rfl rfl (by as_aux_lemma => kernel_rfl) (by as_aux_lemma => kernel_rfl) (by as_aux_lemma => kernel_rfl) (fun _ _ _ h => h) (Or.inl ⟨by kernel_rfl, ?_⟩) hS ?_
  rotate_left
  · intro w hSw; obtain ⟨d0, d1⟩ := hSw; have c0 := d1.c0; have c1 := d1.c1; have c2 := d1.c2; obtain ⟨a1, a2, a3, a4⟩ := d0.nomem hk hf; dsimp only at c0 c1 c2; clear d0 d1; go_simp
    first | done | with_reducible rfl
  obtain ⟨t1, x1⟩ := hS
  refine wpAnyH_done (by kernel_rfl) ?_ _
  go_simp
  obtain ⟨z1, hb1⟩ := HZ.out
  have z4 : Mb w1.drew.drew (w.heap.size + 1) zM := z1
  have hb4 : Below w.heap.size w w1.drew.drew := hb1.drew.drew
  clear z1 hb1 HZ
  generalize w1.drew.drew = w4 at *
  go_wp2_with fail
  have HZ := Lib.hid (And.intro z4 hb4)
  clear z4 hb4
  refine wp_region_any (by kernel_rfl) ?_
  change wpAny _ _ _ _ _ _ _ (World.drew _)
  have hS : (fun w' : World => TabBlk w' b T ∧ Mb w' w.heap.size ⟨(k : Int), s, i⟩) w4.drew := ⟨t1, x1⟩
  refine wpAny_of_held (S := fun w' => TabBlk w' b T ∧ Mb w' w.heap.size ⟨(k : Int), s, i⟩) _ _ _ _ ?_
  clear t1 x1
  refine wpAnyH_takeE (i := 0) (some 35) (v := ?_) rfl rfl (by as_aux_lemma => kernel_rfl) (by as_aux_lemma => kernel_rfl) (by as_aux_lemma => kernel_rfl) (fun _ _ _ h => h) (Or.inl ⟨by kernel_rfl, ?_⟩) hS ?_
  rotate_left
  · intro w hSw; obtain ⟨d0, d1⟩ := hSw; have a0 := d0.self; rw [hme] at a0; have c0 := d1.c0; dsimp only at c0; clear d0 d1; go_simp
    first | done | with_reducible rfl
  refine wpAnyH_takeE (i := 1) (some 36) (v := ?_) rfl rfl (by as_aux_lemma => kernel_rfl) (by as_aux_lemma => kernel_rfl) (by as_aux_lemma => kernel_rfl) (fun _ _ _ h => h) (Or.inl ⟨by kernel_rfl, ?_⟩) hS ?_
  rotate_left
  · intro w hSw; obtain ⟨d0, d1⟩ := hSw; have a0 := d0.self; rw [hme] at a0; have c0 := d1.c0; dsimp only at c0; clear d0 d1; go_simp
    first | done | with_reducible rfl
  refine wpAnyH_takeE (i := 2) (some 37) (v := ?_) rfl rfl (by as_aux_lemma => kernel_rfl) (by as_aux_lemma => kernel_rfl) (by as_aux_lemma => kernel_rfl) (fun _ _ _ h => h) (Or.inl ⟨by kernel_rfl, ?_⟩) hS ?_
  rotate_left
  · intro w hSw; obtain ⟨d0, d1⟩ := hSw; have a0 := d0.self; rw [hme] at a0; have c0 := d1.c0; dsimp only at c0; clear d0 d1; go_simp
    first | done | with_reducible rfl
  refine wpAnyH_takeE (i := 3) (some 38) (v := ?_) rfl rfl (by as_aux_lemma => kernel_rfl) (by as_aux_lemma => kernel_rfl) (by as_aux_lemma => kernel_rfl) (fun _ _ _ h => h) (Or.inl ⟨by kernel_rfl, ?_⟩) hS ?_
  rotate_left
  · intro w hSw; obtain ⟨d0, d1⟩ := hSw; have a0 := d0.self; rw [hme] at a0; have c0 := d1.c0; dsimp only at c0; clear d0 d1; go_simp
    first | done | with_reducible rfl
  refine wpAnyH_takeE (i := 4) (some 39) (v := ?_) rfl rfl (by as_aux_lemma => kernel_rfl) (by as_aux_lemma => kernel_rfl) (by as_aux_lemma => kernel_rfl) (fun _ _ _ h => h) (Or.inl ⟨by kernel_rfl, ?_⟩) hS ?_
  rotate_left
  · intro w hSw; obtain ⟨d0, d1⟩ := hSw; have a0 := d0.self; rw [hme] at a0; have c0 := d1.c0; dsimp only at c0; clear d0 d1; go_simp
    first | done | with_reducible rfl
  refine wpAnyH_takeE (i := 5) (some 40) (v := ?_) rfl rfl (by as_aux_lemma => kernel_rfl) (by as_aux_lemma => kernel_rfl) (by as_aux_lemma => kernel_rfl) (fun _ _ _ h => h) (Or.inl ⟨by kernel_rfl, ?_⟩) hS ?_
  rotate_left
  · intro w hSw; obtain ⟨d0, d1⟩ := hSw; have a0 := d0.self; rw [hme] at a0; have c0 := d1.c0; dsimp only at c0; clear d0 d1; go_simp
    first | done | with_reducible rfl
  refine wpAnyH_takeE (i := 6) (some 41) (v := ?_) rfl rfl (by as_aux_lemma => kernel_rfl) (by as_aux_lemma => kernel_rfl) (by as_aux_lemma => kernel_rfl) (fun _ _ _ h => h) (Or.inl ⟨by kernel_rfl, ?_⟩) hS ?_
  rotate_left
  · intro w hSw; obtain ⟨d0, d1⟩ := hSw; have a0 := d0.self; rw [hme] at a0; have c0 := d1.c0; dsimp only at c0; clear d0 d1; go_simp
    first | done | with_reducible rfl
  obtain ⟨t1, x1⟩ := hS
  refine wpAnyH_done (by kernel_rfl) ?_ _
  go_simp
  obtain ⟨z4, hb4⟩ := HZ.out
  replace z4 : Mb w4.drew (w.heap.size + 1) zM := z4
  replace hb4 := hb4.drew
  clear HZ
  generalize w4.drew = w5 at *
  have c0 := x1.c0; have c1 := x1.c1; have c2 := x1.c2
  dsimp only at c0 c1 c2
  have HZ := Lib.hid (And.intro t1 (And.intro x1 (And.intro z4 hb4)))
  clear t1 x1 z4 hb4
  go_wp2_with (go_at_call 40; refine (HDn.out _).mono ?_; rintro e w6 ⟨rfl, q6⟩; replace q6 := Lib.hid q6; refine Hid.out ?_)
  refine Lib.hid ?_
  obtain ⟨t5, x5, z5, hb5⟩ := HZ.out
  have t1 := t5.on q6.out; have x1 := x5.on q6.out; have z4 := z5.on q6.out; have hb4 := hb5.trans (q6.out.mono hb5.size)
  clear t5 x5 z5 hb5 HZ q6 HDn c0 c1 c2
  have HF := Lib.hid (fin_hear b T k hk ⟨k, ds, di⟩ w (stM w6 w.heap.size ⟨k, ds, di⟩) (t1.kept (stM_grown _ _ _) (by simp; omega)) (z4.kept (stM_grown _ _ _) (by simp)) (stM_below hb4 (Nat.le_refl _) _) bw)
  have fx := x1.f; have c0 := x1.c0; have c1 := x1.c1; have c2 := x1.c2
  dsimp only at c0 c1 c2
  obtain ⟨a1, a2, a3, a4⟩ := t1.nomem hk hf
  have fb := t1.f; have fz := z4.f; have z0 := z4.c0; have z1 := z4.c1; have z2 := z4.c2
  dsimp only at z0 z1 z2
  have hne1 : b ≠ w.heap.size := by omega
  have hne2 : b ≠ w.heap.size + 1 := by omega
  clear t1 x1 z4 hb4
  go_wp2
  exact bodyPost_ret (results_mb2 rfl _ _ _ rfl HF.out.1) rfl ⟨rfl, HF.out.2.1, HF.out.2.2⟩
set_option maxRecDepth 20000 in
set_option maxHeartbeats 8000000 in
theorem bHear_none_other (b : Nat) (T : Tb) (k : Nat) (s i : Int) (w : World) (hT : TabBlk w b T) (hk : k < 64) (_hs0 : 0 ≤ i) (_hs1 : i ≤ 1073741824) (hmay : mayM ⟨(k : Int), s, i⟩ = true) (hf : T.f k = none) (me : Nat) (hme : T.s = me) (hkm : k ≠ me) : Calls Try.prog 20 #[.pointer (some ⟨b, 0, none⟩), .agg #[.int .u16 (k : Int), .int .u8 s, .int .i64 i]] w fun e w' => e = .returned (.tuple #[.agg #[.int .u16 (k : Int), .int .u8 s, .int .i64 i], .bool true]) ∧ TabBlk w' b ⟨fun j => if j = k then some ⟨k, s, i⟩ else T.f j, T.s⟩ ∧ w.grownBy w' (some b) := by
  have hkq : ((k : Int) == (me : Int)) = false := by rw [beq_eq_false_iff_ne]; omega
  have HMay := Lib.hid (fun w => bmayBe_any ⟨(k : Int), s, i⟩ w)
  rw [hmay] at HMay
  dsimp only at HMay
  clear hmay
  have bw : b < w.heap.size := hT.lt
  have x0 := (Mb.new w ⟨(k : Int), s, i⟩).on ((Below.refl _ _).alloc (Nat.le_refl _) (.cells #[.int .u16 0, .int .u8 0, .int .i64 0] 43))
  have z0 := Mb.new2 w (.cells #[.int .u16 (k : Int), .int .u8 s, .int .i64 i] 43) zM
  have hb0 := ((Below.refl w.heap.size w).alloc (Nat.le_refl _) (.cells #[.int .u16 (k : Int), .int .u8 s, .int .i64 i] 43)).alloc (by simp) (.cells #[.int .u16 0, .int .u8 0, .int .i64 0] 43)
  have t0 := hT.on hb0
  have HZ := Lib.hid (And.intro t0 (And.intro x0 (And.intro z0 hb0)))
  clear t0 x0 z0 hb0
  go_enter Try.func20, Try.ntmps20
  go_wp2_with fail
  obtain ⟨t0, x0, z0, hb0⟩ := HZ.out
  generalize (w.alloc (.cells #[.int .u16 (k : Int), .int .u8 s, .int .i64 i] 43)).alloc (.cells #[.int .u16 0, .int .u8 0, .int .i64 0] 43) = W0 at *
  clear HZ hT
  have c0 := x0.c0; have c1 := x0.c1; have c2 := x0.c2
  dsimp only at c0 c1 c2
  have HZ := Lib.hid (And.intro t0 (And.intro x0 (And.intro z0 hb0)))
  clear t0 x0 z0 hb0
  go_wp2_with (go_at_call 38; refine (HMay.out _).mono ?_; rintro e w1 ⟨rfl, q1⟩; replace q1 := Lib.hid q1; refine Hid.out ?_)
  refine Lib.hid ?_
  obtain ⟨t0, x0, z0, hb0⟩ := HZ.out
  have t1 := t0.on q1.out; have x1 := x0.on q1.out; have z1 := z0.on q1.out; have hb1 := hb0.trans (q1.out.mono hb0.size)
  clear t0 x0 z0 hb0 c0 c1 c2 HZ q1 HMay
  have hk2 : (k : Int) < 64 := by omega
  go_wp2_with fail
  have HZ := Lib.hid (And.intro z1 hb1)
  clear z1 hb1
  refine wp_region_any (by kernel_rfl) ?_
  change wpAny _ _ _ _ _ _ _ (World.drew _)
  have hS : (fun w' : World => TabBlk w' b T ∧ Mb w' w.heap.size ⟨(k : Int), s, i⟩) w1.drew := ⟨t1, x1⟩
  refine wpAny_of_held (S := fun w' => TabBlk w' b T ∧ Mb w' w.heap.size ⟨(k : Int), s, i⟩) _ _ _ _ ?_
  clear t1 x1
  refine wpAnyH_takeE (i := 0) (some 15) (v := ?_) rfl rfl (by as_aux_lemma => kernel_rfl) (by as_aux_lemma => kernel_rfl) (by as_aux_lemma => kernel_rfl) (fun _ _ _ h => h) (Or.inl ⟨by kernel_rfl, ?_⟩) hS ?_
  rotate_left
  · intro w hSw; obtain ⟨d0, d1⟩ := hSw; have c0 := d1.c0; have c1 := d1.c1; have c2 := d1.c2; dsimp only at c0 c1 c2; clear d0 d1; go_simp
    first | done | with_reducible rfl
  refine wpAnyH_takeE (i := 1) (some 16) (v := ?_) rfl rfl (by as_aux_lemma => kernel_rfl) (by as_aux_lemma => kernel_rfl) (by as_aux_lemma => kernel_rfl) (fun _ _ _ h => h) (Or.inl ⟨by kernel_rfl, ?_⟩) hS ?_
  rotate_left
  · intro w hSw; obtain ⟨d0, d1⟩ := hSw; have c0 := d1.c0; have c1 := d1.c1; have c2 := d1.c2; dsimp only at c0 c1 c2; clear d0 d1; go_simp
    first | done | with_reducible rfl
  refine wpAnyH_takeE (i := 2) (some 17) (v := ?_) rfl rfl (by as_aux_lemma => kernel_rfl) (by as_aux_lemma => kernel_rfl) (by as_aux_lemma => kernel_rfl) (fun _ _ _ h => h) (Or.inl ⟨by kernel_rfl, ?_⟩) hS ?_
  rotate_left
  · intro w hSw; obtain ⟨d0, d1⟩ := hSw; have c0 := d1.c0; have c1 := d1.c1; have c2 := d1.c2; dsimp only at c0 c1 c2; clear d0 d1; go_simp
    first | done | with_reducible rfl
  refine wpAnyH_takeE (i := 3) (some 18) (v := ?_) rfl rfl (by as_aux_lemma => kernel_rfl) (by as_aux_lemma => kernel_rfl) (by as_aux_lemma => kernel_rfl) (fun _ _ _ h => h) (Or.inl ⟨by kernel_rfl, ?_⟩) hS ?_
  rotate_left
  · intro w hSw; obtain ⟨d0, d1⟩ := hSw; have c0 := d1.c0; have c1 := d1.c1; have c2 := d1.c2; dsimp only at c0 c1 c2; clear d0 d1; go_simp
    first | done | with_reducible rfl
  refine wpAnyH_takeE (i := 4) (some 19) (v := ?_) rfl rfl (by as_aux_lemma => kernel_rfl) (by as_aux_lemma => kernel_rfl) (by as_aux_lemma => kernel_rfl) (fun _ _ _ h => h) (Or.inl ⟨by kernel_rfl, ?_⟩) hS ?_
  rotate_left
  · intro w hSw; obtain ⟨d0, d1⟩ := hSw; have c0 := d1.c0; have c1 := d1.c1; have c2 := d1.c2; dsimp only at c0 c1 c2; clear d0 d1; go_simp
    first | done | with_reducible rfl
  refine wpAnyH_takeE (i := 5) (some 20) (v := ?_) rfl rfl (by as_aux_lemma => kernel_rfl) (by as_aux_lemma => kernel_rfl) (by as_aux_lemma => kernel_rfl) (fun _ _ _ h => h) (Or.inl ⟨by kernel_rfl, ?_⟩) hS ?_
  rotate_left
  · intro w hSw; obtain ⟨d0, d1⟩ := hSw; have c0 := d1.c0; have c1 := d1.c1; have c2 := d1.c2; dsimp only at c0 c1 c2; clear d0 d1; go_simp
    first | done | with_reducible rfl
  refine wpAnyH_takeE (i := 6) (some 6) (v := ?_) rfl rfl (by as_aux_lemma => kernel_rfl) (by as_aux_lemma => kernel_rfl) (by as_aux_lemma => kernel_rfl) (fun _ _ _ h => h) (Or.inl ⟨by kernel_rfl, ?_⟩) hS ?_
  rotate_left
  · intro w hSw; obtain ⟨d0, d1⟩ := hSw; have c0 := d1.c0; have c1 := d1.c1; have c2 := d1.c2; dsimp only at c0 c1 c2; clear d0 d1; go_simp
    first | done | with_reducible rfl
  obtain ⟨t1, x1⟩ := hS
  refine wpAnyH_done (by kernel_rfl) ?_ _
  go_simp
  go_wp2_with fail
  refine wp_region_any (by kernel_rfl) ?_
  change wpAny _ _ _ _ _ _ _ (World.drew _)
  have hS : (fun w' : World => TabBlk w' b T ∧ Mb w' w.heap.size ⟨(k : Int), s, i⟩) w1.drew.drew := ⟨t1, x1⟩
  refine wpAny_of_held (S := fun w' => TabBlk w' b T ∧ Mb w' w.heap.size ⟨(k : Int), s, i⟩) _ _ _ _ ?_
  clear t1 x1
  refine wpAnyH_takeE (i := 0) (some 21) (v := ?_) rfl rfl (by as_aux_lemma => kernel_rfl) (by as_aux_lemma => kernel_rfl) (by as_aux_lemma => kernel_rfl) (fun _ _ _ h => h) (Or.inl ⟨by kernel_rfl, ?_⟩) hS ?_
  rotate_left
  · intro w hSw; obtain ⟨d0, d1⟩ := hSw; have c0 := d1.c0; have c1 := d1.c1; have c2 := d1.c2; obtain ⟨a1, a2, a3, a4⟩ := d0.nomem hk hf; dsimp only at c0 c1 c2; clear d0 d1; go_simp
    first | done | with_reducible rfl
  refine wpAnyH_takeE (i := 1) (some 22) (v := ?_) rfl rfl (by as_aux_lemma => kernel_rfl) (by as_aux_lemma => kernel_rfl) (by as_aux_lemma => kernel_rfl) (fun _ _ _ h => h) (Or.inl ⟨by kernel_rfl, ?_⟩) hS ?_
  rotate_left
  · intro w hSw; obtain ⟨d0, d1⟩ := hSw; have c0 := d1.c0; have c1 := d1.c1; have c2 := d1.c2; obtain ⟨a1, a2, a3, a4⟩ := d0.nomem hk hf; dsimp only at c0 c1 c2; clear d0 d1; go_simp
    first | done | with_reducible rfl
  refine wpAnyH_takeE (i := 2) (some 23) (v := ?_) rfl rfl (by as_aux_lemma => kernel_rfl) (by as_aux_lemma => kernel_rfl) (by as_aux_lemma => kernel_rfl) (fun _ _ _ h => h) (Or.inl ⟨by kernel_rfl, ?_⟩) hS ?_
  rotate_left
  · intro w hSw; obtain ⟨d0, d1⟩ := hSw; have c0 := d1.c0; have c1 := d1.c1; have c2 := d1.c2; obtain ⟨a1, a2, a3, a4⟩ := d0.nomem hk hf; dsimp only at c0 c1 c2; clear d0 d1; go_simp
    first | done | with_reducible rfl
  refine wpAnyH_takeE (i := 3) (some 24) (v := ?_) rfl rfl (by as_aux_lemma => kernel_rfl) (by as_aux_lemma => kernel_rfl) (by as_aux_lemma => kernel_rfl) (fun _ _ _ h => h) (Or.inl ⟨by kernel_rfl, ?_⟩) hS ?_
  rotate_left
  · intro w hSw; obtain ⟨d0, d1⟩ := hSw; have c0 := d1.c0; have c1 := d1.c1; have c2 := d1.c2; obtain ⟨a1, a2, a3, a4⟩ := d0.nomem hk hf; dsimp only at c0 c1 c2; clear d0 d1; go_simp
    first | done | with_reducible rfl
  refine wpAnyH_takeE (i := 4) (some 25) (v := ?_) rfl rfl (by as_aux_lemma => kernel_rfl) (by as_aux_lemma => kernel_rfl) (by as_aux_lemma => kernel_rfl) (fun _ _ _ h => h) (Or.inl ⟨by kernel_rfl, ?_⟩) hS ?_
  rotate_left
  · intro w hSw; obtain ⟨d0, d1⟩ := hSw; have c0 := d1.c0; have c1 := d1.c1; have c2 := d1.c2; obtain ⟨a1, a2, a3, a4⟩ := d0.nomem hk hf; dsimp only at c0 c1 c2; clear d0 d1; go_simp
    first | done | with_reducible rfl
  refine wpAnyH_takeE (i := 5) (some 26) (v := undef) rfl rfl (by as_aux_lemma => kernel_rfl) (by as_aux_lemma => kernel_rfl) (by as_aux_lemma => kernel_rfl) (fun _ _ _ h => h) (Or.inr ⟨by kernel_rfl, rfl⟩) hS ?_
  refine wpAnyH_takeE (i := 6) (some 27) (v := undef) rfl rfl (by as_aux_lemma => kernel_rfl) (by as_aux_lemma => kernel_rfl) (by as_aux_lemma => kernel_rfl) (fun _ _ _ h => h) (Or.inr ⟨by kernel_rfl, rfl⟩) hS ?_
  refine wpAnyH_takeE (i := 7) (some 28) (v := undef) rfl rfl (by as_aux_lemma => kernel_rfl) (by as_aux_lemma => kernel_rfl) (by as_aux_lemma => kernel_rfl) (fun _ _ _ h => h) (Or.inr ⟨by kernel_rfl, rfl⟩) hS ?_
  refine wpAnyH_takeE (i := 8) (some 29) (v := undef) rfl rfl (by as_aux_lemma => kernel_rfl) (by as_aux_lemma => kernel_rfl) (by as_aux_lemma => kernel_rfl) (fun _ _ _ h => h) (Or.inr ⟨by kernel_rfl, rfl⟩) hS ?_
  refine wpAnyH_takeE (i := 9) (some 30) (v := undef) rfl rfl (by as_aux_lemma => kernel_rfl) (by as_aux_lemma => kernel_rfl) (by as_aux_lemma => kernel_rfl) (fun _ _ _ h => h) (Or.inr ⟨by kernel_rfl, rfl⟩) hS ?_
  refine wpAnyH_takeE (i := 10) (some 31) (v := undef) rfl rfl (by as_aux_lemma => kernel_rfl) (by as_aux_lemma => kernel_rfl) (by as_aux_lemma => kernel_rfl) (fun _ _ _ h => h) (Or.inr ⟨by kernel_rfl, rfl⟩) hS ?_
  refine wpAnyH_takeE (i := 11) (some 32) (v := undef) rfl rfl (by as_aux_lemma => kernel_rfl) (by as_aux_lemma => kernel_rfl) (by as_aux_lemma => kernel_rfl) (fun _ _ _ h => h) (Or.inr ⟨by kernel_rfl, rfl⟩) hS ?_
  refine wpAnyH_takeE (i := 12) (some 33) (v := ?_) rfl rfl (by as_aux_lemma => kernel_rfl) (by as_aux_lemma => kernel_rfl) (by as_aux_lemma => kernel_rfl) (fun _ _ _ h => h) (Or.inl ⟨by kernel_rfl, ?_⟩) hS ?_
  rotate_left
  · intro w hSw; obtain ⟨d0, d1⟩ := hSw; have c0 := d1.c0; have c1 := d1.c1; have c2 := d1.c2; obtain ⟨a1, a2, a3, a4⟩ := d0.nomem hk hf; dsimp only at c0 c1 c2; clear d0 d1; go_simp
    first | done | with_reducible rfl
  obtain ⟨t1, x1⟩ := hS
  refine wpAnyH_done (by kernel_rfl) ?_ _
  go_simp
  obtain ⟨z1, hb1⟩ := HZ.out
  have z4 : Mb w1.drew.drew (w.heap.size + 1) zM := z1
  have hb4 : Below w.heap.size w w1.drew.drew := hb1.drew.drew
  clear z1 hb1 HZ
  generalize w1.drew.drew = w4 at *
  go_wp2_with fail
  have HZ := Lib.hid (And.intro z4 hb4)
  clear z4 hb4
  refine wp_region_any (by kernel_rfl) ?_
  change wpAny _ _ _ _ _ _ _ (World.drew _)
  have hS : (fun w' : World => TabBlk w' b T ∧ Mb w' w.heap.size ⟨(k : Int), s, i⟩) w4.drew := ⟨t1, x1⟩
  refine wpAny_of_held (S := fun w' => TabBlk w' b T ∧ Mb w' w.heap.size ⟨(k : Int), s, i⟩) _ _ _ _ ?_
  clear t1 x1
  refine wpAnyH_takeE (i := 0) (some 35) (v := ?_) rfl rfl (by as_aux_lemma => kernel_rfl) (by as_aux_lemma => kernel_rfl) (by as_aux_lemma => kernel_rfl) (fun _ _ _ h => h) (Or.inl ⟨by kernel_rfl, ?_⟩) hS ?_
  rotate_left
  · intro w hSw; obtain ⟨d0, d1⟩ := hSw; have a0 := d0.self; rw [hme] at a0; have c0 := d1.c0; dsimp only at c0; clear d0 d1; go_simp
    first | done | with_reducible rfl
  refine wpAnyH_takeE (i := 1) (some 36) (v := ?_) rfl rfl (by as_aux_lemma => kernel_rfl) (by as_aux_lemma => kernel_rfl) (by as_aux_lemma => kernel_rfl) (fun _ _ _ h => h) (Or.inl ⟨by kernel_rfl, ?_⟩) hS ?_
  rotate_left
  · intro w hSw; obtain ⟨d0, d1⟩ := hSw; have a0 := d0.self; rw [hme] at a0; have c0 := d1.c0; dsimp only at c0; clear d0 d1; go_simp
    first | done | with_reducible rfl
  refine wpAnyH_takeE (i := 2) (some 37) (v := ?_) rfl rfl (by as_aux_lemma => kernel_rfl) (by as_aux_lemma => kernel_rfl) (by as_aux_lemma => kernel_rfl) (fun _ _ _ h => h) (Or.inl ⟨by kernel_rfl, ?_⟩) hS ?_
  rotate_left
  · intro w hSw; obtain ⟨d0, d1⟩ := hSw; have a0 := d0.self; rw [hme] at a0; have c0 := d1.c0; dsimp only at c0; clear d0 d1; go_simp
    first | done | with_reducible rfl
  refine wpAnyH_takeE (i := 3) (some 38) (v := ?_) rfl rfl (by as_aux_lemma => kernel_rfl) (by as_aux_lemma => kernel_rfl) (by as_aux_lemma => kernel_rfl) (fun _ _ _ h => h) (Or.inl ⟨by kernel_rfl, ?_⟩) hS ?_
  rotate_left
  · intro w hSw; obtain ⟨d0, d1⟩ := hSw; have a0 := d0.self; rw [hme] at a0; have c0 := d1.c0; dsimp only at c0; clear d0 d1; go_simp
    first | done | with_reducible rfl
  refine wpAnyH_takeE (i := 4) (some 39) (v := ?_) rfl rfl (by as_aux_lemma => kernel_rfl) (by as_aux_lemma => kernel_rfl) (by as_aux_lemma => kernel_rfl) (fun _ _ _ h => h) (Or.inl ⟨by kernel_rfl, ?_⟩) hS ?_
  rotate_left
  · intro w hSw; obtain ⟨d0, d1⟩ := hSw; have a0 := d0.self; rw [hme] at a0; have c0 := d1.c0; dsimp only at c0; clear d0 d1; go_simp
    first | done | with_reducible rfl
  refine wpAnyH_takeE (i := 5) (some 40) (v := ?_) rfl rfl (by as_aux_lemma => kernel_rfl) (by as_aux_lemma => kernel_rfl) (by as_aux_lemma => kernel_rfl) (fun _ _ _ h => h) (Or.inl ⟨by kernel_rfl, ?_⟩) hS ?_
  rotate_left
  · intro w hSw; obtain ⟨d0, d1⟩ := hSw; have a0 := d0.self; rw [hme] at a0; have c0 := d1.c0; dsimp only at c0; clear d0 d1; go_simp
    first | done | with_reducible rfl
  refine wpAnyH_takeE (i := 6) (some 41) (v := ?_) rfl rfl (by as_aux_lemma => kernel_rfl) (by as_aux_lemma => kernel_rfl) (by as_aux_lemma => kernel_rfl) (fun _ _ _ h => h) (Or.inl ⟨by kernel_rfl, ?_⟩) hS ?_
  rotate_left
  · intro w hSw; obtain ⟨d0, d1⟩ := hSw; have a0 := d0.self; rw [hme] at a0; have c0 := d1.c0; dsimp only at c0; clear d0 d1; go_simp
    first | done | with_reducible rfl
  obtain ⟨t1, x1⟩ := hS
  refine wpAnyH_done (by kernel_rfl) ?_ _
  go_simp
  obtain ⟨z4, hb4⟩ := HZ.out
  replace z4 : Mb w4.drew (w.heap.size + 1) zM := z4
  replace hb4 := hb4.drew
  clear HZ
  generalize w4.drew = w5 at *
  have HF := Lib.hid (fin_hear b T k hk ⟨k, s, i⟩ w w5 t1 z4 hb4 bw)
  have c0 := x1.c0; have c1 := x1.c1; have c2 := x1.c2
  dsimp only at c0 c1 c2
  obtain ⟨a1, a2, a3, a4⟩ := t1.nomem hk hf
  have fb := t1.f; have fz := z4.f; have z0 := z4.c0; have z1 := z4.c1; have z2 := z4.c2
  dsimp only at z0 z1 z2
  have hne1 : b ≠ w.heap.size := by omega
  have hne2 : b ≠ w.heap.size + 1 := by omega
  clear t1 x1 z4 hb4
  go_wp2
  exact bodyPost_ret (results_mb2 rfl _ _ _ rfl HF.out.1) rfl ⟨rfl, HF.out.2.1, HF.out.2.2⟩
set_option maxRecDepth 20000 in
set_option maxHeartbeats 8000000 in
theorem bHear_some_self (b : Nat) (T : Tb) (k : Nat) (s i : Int) (w : World) (hT : TabBlk w b T) (hk : k < 64) (hs0 : 0 ≤ i) (hs1 : i ≤ 1073741824) (hmay : mayM ⟨(k : Int), s, i⟩ = true) (on os oi : Int) (hf : T.f k = some ⟨on, os, oi⟩) (hab : aboveM ⟨(k : Int), s, i⟩ ⟨on, os, oi⟩ = true) (hme : T.s = k) (ds di : Int) (hd : denyM ⟨(k : Int), s, i⟩ = ⟨k, ds, di⟩) : Calls Try.prog 20 #[.pointer (some ⟨b, 0, none⟩), .agg #[.int .u16 (k : Int), .int .u8 s, .int .i64 i]] w fun e w' => e = .returned (.tuple #[.agg #[.int .u16 (k : Int), .int .u8 ds, .int .i64 di], .bool true]) ∧ TabBlk w' b ⟨fun j => if j = k then some ⟨k, ds, di⟩ else T.f j, T.s⟩ ∧ w.grownBy w' (some b) := by
  have HAb := Lib.hid (fun w => bAbove_any ⟨(k : Int), s, i⟩ ⟨on, os, oi⟩ w)
  rw [hab] at HAb
  dsimp only at HAb
  clear hab
  have HDn := Lib.hid (fun w => bdenied_any ⟨(k : Int), s, i⟩ w hs1 hs0)
  rw [hd] at HDn
  dsimp only at HDn
  clear hd
  have HMay := Lib.hid (fun w => bmayBe_any ⟨(k : Int), s, i⟩ w)
  rw [hmay] at HMay
  dsimp only at HMay
  clear hmay
  have bw : b < w.heap.size := hT.lt
  have x0 := (Mb.new w ⟨(k : Int), s, i⟩).on ((Below.refl _ _).alloc (Nat.le_refl _) (.cells #[.int .u16 0, .int .u8 0, .int .i64 0] 43))
  have z0 := Mb.new2 w (.cells #[.int .u16 (k : Int), .int .u8 s, .int .i64 i] 43) zM
  have hb0 := ((Below.refl w.heap.size w).alloc (Nat.le_refl _) (.cells #[.int .u16 (k : Int), .int .u8 s, .int .i64 i] 43)).alloc (by simp) (.cells #[.int .u16 0, .int .u8 0, .int .i64 0] 43)
  have t0 := hT.on hb0
  have HZ := Lib.hid (And.intro t0 (And.intro x0 (And.intro z0 hb0)))
  clear t0 x0 z0 hb0
  go_enter Try.func20, Try.ntmps20
  go_wp2_with fail
  obtain ⟨t0, x0, z0, hb0⟩ := HZ.out
  generalize (w.alloc (.cells #[.int .u16 (k : Int), .int .u8 s, .int .i64 i] 43)).alloc (.cells #[.int .u16 0, .int .u8 0, .int .i64 0] 43) = W0 at *
  clear HZ hT
  have c0 := x0.c0; have c1 := x0.c1; have c2 := x0.c2
  dsimp only at c0 c1 c2
  have HZ := Lib.hid (And.intro t0 (And.intro x0 (And.intro z0 hb0)))
  clear t0 x0 z0 hb0
  go_wp2_with (go_at_call 38; refine (HMay.out _).mono ?_; rintro e w1 ⟨rfl, q1⟩; replace q1 := Lib.hid q1; refine Hid.out ?_)
  refine Lib.hid ?_
  obtain ⟨t0, x0, z0, hb0⟩ := HZ.out
  have t1 := t0.on q1.out; have x1 := x0.on q1.out; have z1 := z0.on q1.out; have hb1 := hb0.trans (q1.out.mono hb0.size)
  clear t0 x0 z0 hb0 c0 c1 c2 HZ q1 HMay
  have hk2 : (k : Int) < 64 := by omega
  go_wp2_with fail
  have HZ := Lib.hid (And.intro z1 hb1)
  clear z1 hb1
  refine wp_region_any (by kernel_rfl) ?_
  change wpAny _ _ _ _ _ _ _ (World.drew _)
  have hS : (fun w' : World => TabBlk w' b T ∧ Mb w' w.heap.size ⟨(k : Int), s, i⟩) w1.drew := ⟨t1, x1⟩
  refine wpAny_of_held (S := fun w' => TabBlk w' b T ∧ Mb w' w.heap.size ⟨(k : Int), s, i⟩) _ _ _ _ ?_
  clear t1 x1
  refine wpAnyH_takeE (i := 0) (some 15) (v := ?_) rfl rfl (by as_aux_lemma => kernel_rfl) (by as_aux_lemma => kernel_rfl) (by as_aux_lemma => kernel_rfl) (fun _ _ _ h => h) (Or.inl ⟨by kernel_rfl, ?_⟩) hS ?_
  rotate_left
  · intro w hSw; obtain ⟨d0, d1⟩ := hSw; have c0 := d1.c0; have c1 := d1.c1; have c2 := d1.c2; dsimp only at c0 c1 c2; clear d0 d1; go_simp
    first | done | with_reducible rfl
  refine wpAnyH_takeE (i := 1) (some 16) (v := ?_) rfl rfl (by as_aux_lemma => kernel_rfl) (by as_aux_lemma => kernel_rfl) (by as_aux_lemma => kernel_rfl) (fun _ _ _ h => h) (Or.inl ⟨by kernel_rfl, ?_⟩) hS ?_
  rotate_left
  · intro w hSw; obtain ⟨d0, d1⟩ := hSw; have c0 := d1.c0; have c1 := d1.c1; have c2 := d1.c2; dsimp only at c0 c1 c2; clear d0 d1; go_simp
    first | done | with_reducible rfl
  refine wpAnyH_takeE (i := 2) (some 17) (v := ?_) rfl rfl (by as_aux_lemma => kernel_rfl) (by as_aux_lemma => kernel_rfl) (by as_aux_lemma => kernel_rfl) (fun _ _ _ h => h) (Or.inl ⟨by kernel_rfl, ?_⟩) hS ?_
  rotate_left
  · intro w hSw; obtain ⟨d0, d1⟩ := hSw; have c0 := d1.c0; have c1 := d1.c1; have c2 := d1.c2; dsimp only at c0 c1 c2; clear d0 d1; go_simp
    first | done | with_reducible rfl
  refine wpAnyH_takeE (i := 3) (some 18) (v := ?_) rfl rfl (by as_aux_lemma => kernel_rfl) (by as_aux_lemma => kernel_rfl) (by as_aux_lemma => kernel_rfl) (fun _ _ _ h => h) (Or.inl ⟨by kernel_rfl, ?_⟩) hS ?_
  rotate_left
  · intro w hSw; obtain ⟨d0, d1⟩ := hSw; have c0 := d1.c0; have c1 := d1.c1; have c2 := d1.c2; dsimp only at c0 c1 c2; clear d0 d1; go_simp
    first | done | with_reducible rfl
  refine wpAnyH_takeE (i := 4) (some 19) (v := ?_) rfl rfl (by as_aux_lemma => kernel_rfl) (by as_aux_lemma => kernel_rfl) (by as_aux_lemma => kernel_rfl) (fun _ _ _ h => h) (Or.inl ⟨by kernel_rfl, ?_⟩) hS ?_
  rotate_left
  · intro w hSw; obtain ⟨d0, d1⟩ := hSw; have c0 := d1.c0; have c1 := d1.c1; have c2 := d1.c2; dsimp only at c0 c1 c2; clear d0 d1; go_simp
    first | done | with_reducible rfl
  refine wpAnyH_takeE (i := 5) (some 20) (v := ?_) rfl rfl (by as_aux_lemma => kernel_rfl) (by as_aux_lemma => kernel_rfl) (by as_aux_lemma => kernel_rfl) (fun _ _ _ h => h) (Or.inl ⟨by kernel_rfl, ?_⟩) hS ?_
  rotate_left
  · intro w hSw; obtain ⟨d0, d1⟩ := hSw; have c0 := d1.c0; have c1 := d1.c1; have c2 := d1.c2; dsimp only at c0 c1 c2; clear d0 d1; go_simp
    first | done | with_reducible rfl
  refine wpAnyH_takeE (i := 6) (some 6) (v := ?_) rfl rfl (by as_aux_lemma => kernel_rfl) (by as_aux_lemma => kernel_rfl) (by as_aux_lemma => kernel_rfl) (fun _ _ _ h => h) (Or.inl ⟨by kernel_rfl, ?_⟩) hS ?_
  rotate_left
  · intro w hSw; obtain ⟨d0, d1⟩ := hSw; have c0 := d1.c0; have c1 := d1.c1; have c2 := d1.c2; dsimp only at c0 c1 c2; clear d0 d1; go_simp
    first | done | with_reducible rfl
  obtain ⟨t1, x1⟩ := hS
  refine wpAnyH_done (by kernel_rfl) ?_ _
  go_simp
  go_wp2_with fail
  refine wp_region_any (by kernel_rfl) ?_
  change wpAny _ _ _ _ _ _ _ (World.drew _)
  have hS : (fun w' : World => TabBlk w' b T ∧ Mb w' w.heap.size ⟨(k : Int), s, i⟩) w1.drew.drew := ⟨t1, x1⟩
  refine wpAny_of_held (S := fun w' => TabBlk w' b T ∧ Mb w' w.heap.size ⟨(k : Int), s, i⟩) _ _ _ _ ?_
  clear t1 x1
  refine wpAnyH_takeE (i := 0) (some 21) (v := ?_) rfl rfl (by as_aux_lemma => kernel_rfl) (by as_aux_lemma => kernel_rfl) (by as_aux_lemma => kernel_rfl) (fun _ _ _ h => h) (Or.inl ⟨by kernel_rfl, ?_⟩) hS ?_
  rotate_left
  · intro w hSw; obtain ⟨d0, d1⟩ := hSw; have c0 := d1.c0; have c1 := d1.c1; have c2 := d1.c2; obtain ⟨a1, a2, a3, a4⟩ := d0.mem hk hf; dsimp only at c0 c1 c2 a1 a2 a3; clear d0 d1; go_simp
    first | done | with_reducible rfl
  refine wpAnyH_takeE (i := 1) (some 22) (v := ?_) rfl rfl (by as_aux_lemma => kernel_rfl) (by as_aux_lemma => kernel_rfl) (by as_aux_lemma => kernel_rfl) (fun _ _ _ h => h) (Or.inl ⟨by kernel_rfl, ?_⟩) hS ?_
  rotate_left
  · intro w hSw; obtain ⟨d0, d1⟩ := hSw; have c0 := d1.c0; have c1 := d1.c1; have c2 := d1.c2; obtain ⟨a1, a2, a3, a4⟩ := d0.mem hk hf; dsimp only at c0 c1 c2 a1 a2 a3; clear d0 d1; go_simp
    first | done | with_reducible rfl
  refine wpAnyH_takeE (i := 2) (some 23) (v := ?_) rfl rfl (by as_aux_lemma => kernel_rfl) (by as_aux_lemma => kernel_rfl) (by as_aux_lemma => kernel_rfl) (fun _ _ _ h => h) (Or.inl ⟨by kernel_rfl, ?_⟩) hS ?_
  rotate_left
  · intro w hSw; obtain ⟨d0, d1⟩ := hSw; have c0 := d1.c0; have c1 := d1.c1; have c2 := d1.c2; obtain ⟨a1, a2, a3, a4⟩ := d0.mem hk hf; dsimp only at c0 c1 c2 a1 a2 a3; clear d0 d1; go_simp
    first | done | with_reducible rfl
  refine wpAnyH_takeE (i := 3) (some 24) (v := ?_) rfl rfl (by as_aux_lemma => kernel_rfl) (by as_aux_lemma => kernel_rfl) (by as_aux_lemma => kernel_rfl) (fun _ _ _ h => h) (Or.inl ⟨by kernel_rfl, ?_⟩) hS ?_
  rotate_left
  · intro w hSw; obtain ⟨d0, d1⟩ := hSw; have c0 := d1.c0; have c1 := d1.c1; have c2 := d1.c2; obtain ⟨a1, a2, a3, a4⟩ := d0.mem hk hf; dsimp only at c0 c1 c2 a1 a2 a3; clear d0 d1; go_simp
    first | done | with_reducible rfl
  refine wpAnyH_takeE (i := 4) (some 25) (v := ?_) rfl rfl (by as_aux_lemma => kernel_rfl) (by as_aux_lemma => kernel_rfl) (by as_aux_lemma => kernel_rfl) (fun _ _ _ h => h) (Or.inl ⟨by kernel_rfl, ?_⟩) hS ?_
  rotate_left
  · intro w hSw; obtain ⟨d0, d1⟩ := hSw; have c0 := d1.c0; have c1 := d1.c1; have c2 := d1.c2; obtain ⟨a1, a2, a3, a4⟩ := d0.mem hk hf; dsimp only at c0 c1 c2 a1 a2 a3; clear d0 d1; go_simp
    first | done | with_reducible rfl
  refine wpAnyH_takeE (i := 5) (some 26) (v := ?_) rfl rfl (by as_aux_lemma => kernel_rfl) (by as_aux_lemma => kernel_rfl) (by as_aux_lemma => kernel_rfl) (fun _ _ _ h => h) (Or.inl ⟨by kernel_rfl, ?_⟩) hS ?_
  rotate_left
  · intro w hSw; obtain ⟨d0, d1⟩ := hSw; have c0 := d1.c0; have c1 := d1.c1; have c2 := d1.c2; obtain ⟨a1, a2, a3, a4⟩ := d0.mem hk hf; dsimp only at c0 c1 c2 a1 a2 a3; clear d0 d1; go_simp
    first | done | with_reducible rfl
  refine wpAnyH_takeE (i := 6) (some 27) (v := ?_) rfl rfl (by as_aux_lemma => kernel_rfl) (by as_aux_lemma => kernel_rfl) (by as_aux_lemma => kernel_rfl) (fun _ _ _ h => h) (Or.inl ⟨by kernel_rfl, ?_⟩) hS ?_
  rotate_left
  · intro w hSw; obtain ⟨d0, d1⟩ := hSw; have c0 := d1.c0; have c1 := d1.c1; have c2 := d1.c2; obtain ⟨a1, a2, a3, a4⟩ := d0.mem hk hf; dsimp only at c0 c1 c2 a1 a2 a3; clear d0 d1; go_simp
    first | done | with_reducible rfl
  refine wpAnyH_takeE (i := 7) (some 28) (v := ?_) rfl rfl (by as_aux_lemma => kernel_rfl) (by as_aux_lemma => kernel_rfl) (by as_aux_lemma => kernel_rfl) (fun _ _ _ h => h) (Or.inl ⟨by kernel_rfl, ?_⟩) hS ?_
  rotate_left
  · intro w hSw; obtain ⟨d0, d1⟩ := hSw; have c0 := d1.c0; have c1 := d1.c1; have c2 := d1.c2; obtain ⟨a1, a2, a3, a4⟩ := d0.mem hk hf; dsimp only at c0 c1 c2 a1 a2 a3; clear d0 d1; go_simp
    first | done | with_reducible rfl
  refine wpAnyH_takeE (i := 8) (some 29) (v := ?_) rfl rfl (by as_aux_lemma => kernel_rfl) (by as_aux_lemma => kernel_rfl) (by as_aux_lemma => kernel_rfl) (fun _ _ _ h => h) (Or.inl ⟨by kernel_rfl, ?_⟩) hS ?_
  rotate_left
  · intro w hSw; obtain ⟨d0, d1⟩ := hSw; have c0 := d1.c0; have c1 := d1.c1; have c2 := d1.c2; obtain ⟨a1, a2, a3, a4⟩ := d0.mem hk hf; dsimp only at c0 c1 c2 a1 a2 a3; clear d0 d1; go_simp
    first | done | with_reducible rfl
  refine wpAnyH_takeE (i := 9) (some 30) (v := ?_) rfl rfl (by as_aux_lemma => kernel_rfl) (by as_aux_lemma => kernel_rfl) (by as_aux_lemma => kernel_rfl) (fun _ _ _ h => h) (Or.inl ⟨by kernel_rfl, ?_⟩) hS ?_
  rotate_left
  · intro w hSw; obtain ⟨d0, d1⟩ := hSw; have c0 := d1.c0; have c1 := d1.c1; have c2 := d1.c2; obtain ⟨a1, a2, a3, a4⟩ := d0.mem hk hf; dsimp only at c0 c1 c2 a1 a2 a3; clear d0 d1; go_simp
    first | done | with_reducible rfl
  refine wpAnyH_ready (rs := [10]) (by as_aux_lemma => kernel_rfl) (by simp) ?_
  refine AllReadyH.cons rfl (fun K hK => ?_) AllReadyH.nil
  go_simp
  go_wp2_with (go_at_call 39; refine (HAb.out _).mono ?_; rintro e w2 ⟨rfl, q2⟩; replace q2 := Lib.hid q2; refine Hid.out ?_)
  refine hK.out _ _ ?_ (fun hS => ?_)
  · exact ⟨hS.1.on q2.out, hS.2.on q2.out⟩
  clear hK K
  refine wpAnyH_takeE (i := 11) (some 32) (v := ?_) rfl rfl (by as_aux_lemma => kernel_rfl) (by as_aux_lemma => kernel_rfl) (by as_aux_lemma => kernel_rfl) (fun _ _ _ h => h) (Or.inl ⟨by kernel_rfl, ?_⟩) hS ?_
  rotate_left
  · intro w hSw; obtain ⟨d0, d1⟩ := hSw; have c0 := d1.c0; have c1 := d1.c1; have c2 := d1.c2; obtain ⟨a1, a2, a3, a4⟩ := d0.mem hk hf; dsimp only at c0 c1 c2 a1 a2 a3; clear d0 d1; go_simp
    first | done | with_reducible rfl
  refine wpAnyH_takeE (i := 12) (some 33) (v := ?_) rfl rfl (by as_aux_lemma => kernel_rfl) (by as_aux_lemma => kernel_rfl) (by as_aux_lemma => kernel_rfl) (fun _ _ _ h => h) (Or.inl ⟨by kernel_rfl, ?_⟩) hS ?_
  rotate_left
  · intro w hSw; obtain ⟨d0, d1⟩ := hSw; have c0 := d1.c0; have c1 := d1.c1; have c2 := d1.c2; obtain ⟨a1, a2, a3, a4⟩ := d0.mem hk hf; dsimp only at c0 c1 c2 a1 a2 a3; clear d0 d1; go_simp
    first | done | with_reducible rfl
  obtain ⟨t1, x1⟩ := hS
  refine wpAnyH_done (by kernel_rfl) ?_ _
  go_simp
  obtain ⟨z1, hb1⟩ := HZ.out
  have q3 : Below w1.heap.size w1.drew.drew w2 := q2.out
  have z4 : Mb w2 (w.heap.size + 1) zM := (show Mb w1.drew.drew (w.heap.size + 1) zM from z1).below q3 z1.lt
  have hb4 : Below w.heap.size w w2 := hb1.drew.drew.trans (q3.mono hb1.size)
  clear z1 hb1 HZ q2 q3 HAb
  generalize w2 = w4 at *
  go_wp2_with fail
  have HZ := Lib.hid (And.intro z4 hb4)
  clear z4 hb4
  refine wp_region_any (by kernel_rfl) ?_
  change wpAny _ _ _ _ _ _ _ (World.drew _)
  have hS : (fun w' : World => TabBlk w' b T ∧ Mb w' w.heap.size ⟨(k : Int), s, i⟩) w4.drew := ⟨t1, x1⟩
  refine wpAny_of_held (S := fun w' => TabBlk w' b T ∧ Mb w' w.heap.size ⟨(k : Int), s, i⟩) _ _ _ _ ?_
  clear t1 x1
  refine wpAnyH_takeE (i := 0) (some 35) (v := ?_) rfl rfl (by as_aux_lemma => kernel_rfl) (by as_aux_lemma => kernel_rfl) (by as_aux_lemma => kernel_rfl) (fun _ _ _ h => h) (Or.inl ⟨by kernel_rfl, ?_⟩) hS ?_
  rotate_left
  · intro w hSw; obtain ⟨d0, d1⟩ := hSw; have a0 := d0.self; rw [hme] at a0; have c0 := d1.c0; dsimp only at c0; clear d0 d1; go_simp
    first | done | with_reducible rfl
  refine wpAnyH_takeE (i := 1) (some 36) (v := ?_) rfl rfl (by as_aux_lemma => kernel_rfl) (by as_aux_lemma => kernel_rfl) (by as_aux_lemma => kernel_rfl) (fun _ _ _ h => h) (Or.inl ⟨by kernel_rfl, ?_⟩) hS ?_
  rotate_left
  · intro w hSw; obtain ⟨d0, d1⟩ := hSw; have a0 := d0.self; rw [hme] at a0; have c0 := d1.c0; dsimp only at c0; clear d0 d1; go_simp
    first | done | with_reducible rfl
  refine wpAnyH_takeE (i := 2) (some 37) (v := ?_) rfl rfl (by as_aux_lemma => kernel_rfl) (by as_aux_lemma => kernel_rfl) (by as_aux_lemma => kernel_rfl) (fun _ _ _ h => h) (Or.inl ⟨by kernel_rfl, ?_⟩) hS ?_
  rotate_left
  · intro w hSw; obtain ⟨d0, d1⟩ := hSw; have a0 := d0.self; rw [hme] at a0; have c0 := d1.c0; dsimp only at c0; clear d0 d1; go_simp
    first | done | with_reducible rfl
  refine wpAnyH_takeE (i := 3) (some 38) (v := ?_) rfl rfl (by as_aux_lemma => kernel_rfl) (by as_aux_lemma => kernel_rfl) (by as_aux_lemma => kernel_rfl) (fun _ _ _ h => h) (Or.inl ⟨by kernel_rfl, ?_⟩) hS ?_
  rotate_left
  · intro w hSw; obtain ⟨d0, d1⟩ := hSw; have a0 := d0.self; rw [hme] at a0; have c0 := d1.c0; dsimp only at c0; clear d0 d1; go_simp
    first | done | with_reducible rfl
  refine wpAnyH_takeE (i := 4) (some 39) (v := ?_) rfl rfl (by as_aux_lemma => kernel_rfl) (by as_aux_lemma => kernel_rfl) (by as_aux_lemma => kernel_rfl) (fun _ _ _ h => h) (Or.inl ⟨by kernel_rfl, ?_⟩) hS ?_
  rotate_left
  · intro w hSw; obtain ⟨d0, d1⟩ := hSw; have a0 := d0.self; rw [hme] at a0; have c0 := d1.c0; dsimp only at c0; clear d0 d1; go_simp
    first | done | with_reducible rfl
  refine wpAnyH_takeE (i := 5) (some 40) (v := ?_) rfl rfl (by as_aux_lemma => kernel_rfl) (by as_aux_lemma => kernel_rfl) (by as_aux_lemma => kernel_rfl) (fun _ _ _ h => h) (Or.inl ⟨by kernel_rfl, ?_⟩) hS ?_
  rotate_left
  · intro w hSw; obtain ⟨d0, d1⟩ := hSw; have a0 := d0.self; rw [hme] at a0; have c0 := d1.c0; dsimp only at c0; clear d0 d1; go_simp
    first | done | with_reducible rfl
  refine wpAnyH_takeE (i := 6) (some 41) (v := ?_) rfl rfl (by as_aux_lemma => kernel_rfl) (by as_aux_lemma => kernel_rfl) (by as_aux_lemma => kernel_rfl) (fun _ _ _ h => h) (Or.inl ⟨by kernel_rfl, ?_⟩) hS ?_
  rotate_left
  · intro w hSw; obtain ⟨d0, d1⟩ := hSw; have a0 := d0.self; rw [hme] at a0; have c0 := d1.c0; dsimp only at c0; clear d0 d1; go_simp
    first | done | with_reducible rfl
  obtain ⟨t1, x1⟩ := hS
  refine wpAnyH_done (by kernel_rfl) ?_ _
  go_simp
  obtain ⟨z4, hb4⟩ := HZ.out
  replace z4 : Mb w4.drew (w.heap.size + 1) zM := z4
  replace hb4 := hb4.drew
  clear HZ
  generalize w4.drew = w5 at *
  have c0 := x1.c0; have c1 := x1.c1; have c2 := x1.c2
  dsimp only at c0 c1 c2
  have HZ := Lib.hid (And.intro t1 (And.intro x1 (And.intro z4 hb4)))
  clear t1 x1 z4 hb4
  go_wp2_with (go_at_call 40; refine (HDn.out _).mono ?_; rintro e w6 ⟨rfl, q6⟩; replace q6 := Lib.hid q6; refine Hid.out ?_)
  refine Lib.hid ?_
  obtain ⟨t5, x5, z5, hb5⟩ := HZ.out
  have t1 := t5.on q6.out; have x1 := x5.on q6.out; have z4 := z5.on q6.out; have hb4 := hb5.trans (q6.out.mono hb5.size)
  clear t5 x5 z5 hb5 HZ q6 HDn c0 c1 c2
  have HF := Lib.hid (fin_hear b T k hk ⟨k, ds, di⟩ w (stM w6 w.heap.size ⟨k, ds, di⟩) (t1.kept (stM_grown _ _ _) (by simp; omega)) (z4.kept (stM_grown _ _ _) (by simp)) (stM_below hb4 (Nat.le_refl _) _) bw)
  have fx := x1.f; have c0 := x1.c0; have c1 := x1.c1; have c2 := x1.c2
  dsimp only at c0 c1 c2
  obtain ⟨a1, a2, a3, a4⟩ := t1.mem hk hf
  dsimp only at a1 a2 a3
  have fb := t1.f; have fz := z4.f; have z0 := z4.c0; have z1 := z4.c1; have z2 := z4.c2
  dsimp only at z0 z1 z2
  have hne1 : b ≠ w.heap.size := by omega
  have hne2 : b ≠ w.heap.size + 1 := by omega
  clear t1 x1 z4 hb4
  go_wp2
  exact bodyPost_ret (results_mb2 rfl _ _ _ rfl HF.out.1) rfl ⟨rfl, HF.out.2.1, HF.out.2.2⟩
set_option maxRecDepth 20000 in
set_option maxHeartbeats 8000000 in
theorem bHear_some_other (b : Nat) (T : Tb) (k : Nat) (s i : Int) (w : World) (hT : TabBlk w b T) (hk : k < 64) (_hs0 : 0 ≤ i) (_hs1 : i ≤ 1073741824) (hmay : mayM ⟨(k : Int), s, i⟩ = true) (on os oi : Int) (hf : T.f k = some ⟨on, os, oi⟩) (hab : aboveM ⟨(k : Int), s, i⟩ ⟨on, os, oi⟩ = true) (me : Nat) (hme : T.s = me) (hkm : k ≠ me) : Calls Try.prog 20 #[.pointer (some ⟨b, 0, none⟩), .agg #[.int .u16 (k : Int), .int .u8 s, .int .i64 i]] w fun e w' => e = .returned (.tuple #[.agg #[.int .u16 (k : Int), .int .u8 s, .int .i64 i], .bool true]) ∧ TabBlk w' b ⟨fun j => if j = k then some ⟨k, s, i⟩ else T.f j, T.s⟩ ∧ w.grownBy w' (some b) := by
  have HAb := Lib.hid (fun w => bAbove_any ⟨(k : Int), s, i⟩ ⟨on, os, oi⟩ w)
  rw [hab] at HAb
  dsimp only at HAb
  clear hab
  have hkq : ((k : Int) == (me : Int)) = false := by rw [beq_eq_false_iff_ne]; omega
  have HMay := Lib.hid (fun w => bmayBe_any ⟨(k : Int), s, i⟩ w)
  rw [hmay] at HMay
  dsimp only at HMay
  clear hmay
  have bw : b < w.heap.size := hT.lt
  have x0 := (Mb.new w ⟨(k : Int), s, i⟩).on ((Below.refl _ _).alloc (Nat.le_refl _) (.cells #[.int .u16 0, .int .u8 0, .int .i64 0] 43))
  have z0 := Mb.new2 w (.cells #[.int .u16 (k : Int), .int .u8 s, .int .i64 i] 43) zM
  have hb0 := ((Below.refl w.heap.size w).alloc (Nat.le_refl _) (.cells #[.int .u16 (k : Int), .int .u8 s, .int .i64 i] 43)).alloc (by simp) (.cells #[.int .u16 0, .int .u8 0, .int .i64 0] 43)
  have t0 := hT.on hb0
  have HZ := Lib.hid (And.intro t0 (And.intro x0 (And.intro z0 hb0)))
  clear t0 x0 z0 hb0
  go_enter Try.func20, Try.ntmps20
  go_wp2_with fail
  obtain ⟨t0, x0, z0, hb0⟩ := HZ.out
  generalize (w.alloc (.cells #[.int .u16 (k : Int), .int .u8 s, .int .i64 i] 43)).alloc (.cells #[.int .u16 0, .int .u8 0, .int .i64 0] 43) = W0 at *
  clear HZ hT
  have c0 := x0.c0; have c1 := x0.c1; have c2 := x0.c2
  dsimp only at c0 c1 c2
  have HZ := Lib.hid (And.intro t0 (And.intro x0 (And.intro z0 hb0)))
  clear t0 x0 z0 hb0
  go_wp2_with (go_at_call 38; refine (HMay.out _).mono ?_; rintro e w1 ⟨rfl, q1⟩; replace q1 := Lib.hid q1; refine Hid.out ?_)
  refine Lib.hid ?_
  obtain ⟨t0, x0, z0, hb0⟩ := HZ.out
  have t1 := t0.on q1.out; have x1 := x0.on q1.out; have z1 := z0.on q1.out; have hb1 := hb0.trans (q1.out.mono hb0.size)
  clear t0 x0 z0 hb0 c0 c1 c2 HZ q1 HMay
  have hk2 : (k : Int) < 64 := by omega
  go_wp2_with fail
  have HZ := Lib.hid (And.intro z1 hb1)
  clear z1 hb1
  refine wp_region_any (by kernel_rfl) ?_
  change wpAny _ _ _ _ _ _ _ (World.drew _)
  have hS : (fun w' : World => TabBlk w' b T ∧ Mb w' w.heap.size ⟨(k : Int), s, i⟩) w1.drew := ⟨t1, x1⟩
  refine wpAny_of_held (S := fun w' => TabBlk w' b T ∧ Mb w' w.heap.size ⟨(k : Int), s, i⟩) _ _ _ _ ?_
  clear t1 x1
  refine wpAnyH_takeE (i := 0) (some 15) (v := ?_) rfl rfl (by as_aux_lemma => kernel_rfl) (by as_aux_lemma => kernel_rfl) (by as_aux_lemma => kernel_rfl) (fun _ _ _ h => h) (Or.inl ⟨by kernel_rfl, ?_⟩) hS ?_
  rotate_left
  · intro w hSw; obtain ⟨d0, d1⟩ := hSw; have c0 := d1.c0; have c1 := d1.c1; have c2 := d1.c2; dsimp only at c0 c1 c2; clear d0 d1; go_simp
    first | done | with_reducible rfl
  refine wpAnyH_takeE (i := 1) (some 16) (v := ?_) rfl rfl (by as_aux_lemma => kernel_rfl) (by as_aux_lemma => kernel_rfl) (by as_aux_lemma => kernel_rfl) (fun _ _ _ h => h) (Or.inl ⟨by kernel_rfl, ?_⟩) hS ?_
  rotate_left
  · intro w hSw; obtain ⟨d0, d1⟩ := hSw; have c0 := d1.c0; have c1 := d1.c1; have c2 := d1.c2; dsimp only at c0 c1 c2; clear d0 d1; go_simp
    first | done | with_reducible rfl
  refine wpAnyH_takeE (i := 2) (some 17) (v := ?_) rfl rfl (by as_aux_lemma => kernel_rfl) (by as_aux_lemma => kernel_rfl) (by as_aux_lemma => kernel_rfl) (fun _ _ _ h => h) (Or.inl ⟨by kernel_rfl, ?_⟩) hS ?_
  rotate_left
  · intro w hSw; obtain ⟨d0, d1⟩ := hSw; have c0 := d1.c0; have c1 := d1.c1; have c2 := d1.c2; dsimp only at c0 c1 c2; clear d0 d1; go_simp
    first | done | with_reducible rfl
  refine wpAnyH_takeE (i := 3) (some 18) (v := ?_) rfl rfl (by as_aux_lemma => kernel_rfl) (by as_aux_lemma => kernel_rfl) (by as_aux_lemma => kernel_rfl) (fun _ _ _ h => h) (Or.inl ⟨by kernel_rfl, ?_⟩) hS ?_
  rotate_left
  · intro w hSw; obtain ⟨d0, d1⟩ := hSw; have c0 := d1.c0; have c1 := d1.c1; have c2 := d1.c2; dsimp only at c0 c1 c2; clear d0 d1; go_simp
    first | done | with_reducible rfl
  refine wpAnyH_takeE (i := 4) (some 19) (v := ?_) rfl rfl (by as_aux_lemma => kernel_rfl) (by as_aux_lemma => kernel_rfl) (by as_aux_lemma => kernel_rfl) (fun _ _ _ h => h) (Or.inl ⟨by kernel_rfl, ?_⟩) hS ?_
  rotate_left
  · intro w hSw; obtain ⟨d0, d1⟩ := hSw; have c0 := d1.c0; have c1 := d1.c1; have c2 := d1.c2; dsimp only at c0 c1 c2; clear d0 d1; go_simp
    first | done | with_reducible rfl
  refine wpAnyH_takeE (i := 5) (some 20) (v := ?_) rfl rfl (by as_aux_lemma => kernel_rfl) (by as_aux_lemma => kernel_rfl) (by as_aux_lemma => kernel_rfl) (fun _ _ _ h => h) (Or.inl ⟨by kernel_rfl, ?_⟩) hS ?_
  rotate_left
  · intro w hSw; obtain ⟨d0, d1⟩ := hSw; have c0 := d1.c0; have c1 := d1.c1; have c2 := d1.c2; dsimp only at c0 c1 c2; clear d0 d1; go_simp
    first | done | with_reducible rfl
  refine wpAnyH_takeE (i := 6) (some 6) (v := ?_) rfl rfl (by as_aux_lemma => kernel_rfl) (by as_aux_lemma => kernel_rfl) (by as_aux_lemma => kernel_rfl) (fun _ _ _ h => h) (Or.inl ⟨by kernel_rfl, ?_⟩) hS ?_
  rotate_left
  · intro w hSw; obtain ⟨d0, d1⟩ := hSw; have c0 := d1.c0; have c1 := d1.c1; have c2 := d1.c2; dsimp only at c0 c1 c2; clear d0 d1; go_simp
    first | done | with_reducible rfl
  obtain ⟨t1, x1⟩ := hS
  refine wpAnyH_done (by kernel_rfl) ?_ _
  go_simp
  go_wp2_with fail
  refine wp_region_any (by kernel_rfl) ?_
  change wpAny _ _ _ _ _ _ _ (World.drew _)
  have hS : (fun w' : World => TabBlk w' b T ∧ Mb w' w.heap.size ⟨(k : Int), s, i⟩) w1.drew.drew := ⟨t1, x1⟩
  refine wpAny_of_held (S := fun w' => TabBlk w' b T ∧ Mb w' w.heap.size ⟨(k : Int), s, i⟩) _ _ _ _ ?_
  clear t1 x1
  refine wpAnyH_takeE (i := 0) (some 21) (v := ?_) rfl rfl (by as_aux_lemma => kernel_rfl) (by as_aux_lemma => kernel_rfl) (by as_aux_lemma => kernel_rfl) (fun _ _ _ h => h) (Or.inl ⟨by kernel_rfl, ?_⟩) hS ?_
  rotate_left
  · intro w hSw; obtain ⟨d0, d1⟩ := hSw; have c0 := d1.c0; have c1 := d1.c1; have c2 := d1.c2; obtain ⟨a1, a2, a3, a4⟩ := d0.mem hk hf; dsimp only at c0 c1 c2 a1 a2 a3; clear d0 d1; go_simp
    first | done | with_reducible rfl
  refine wpAnyH_takeE (i := 1) (some 22) (v := ?_) rfl rfl (by as_aux_lemma => kernel_rfl) (by as_aux_lemma => kernel_rfl) (by as_aux_lemma => kernel_rfl) (fun _ _ _ h => h) (Or.inl ⟨by kernel_rfl, ?_⟩) hS ?_
  rotate_left
  · intro w hSw; obtain ⟨d0, d1⟩ := hSw; have c0 := d1.c0; have c1 := d1.c1; have c2 := d1.c2; obtain ⟨a1, a2, a3, a4⟩ := d0.mem hk hf; dsimp only at c0 c1 c2 a1 a2 a3; clear d0 d1; go_simp
    first | done | with_reducible rfl
  refine wpAnyH_takeE (i := 2) (some 23) (v := ?_) rfl rfl (by as_aux_lemma => kernel_rfl) (by as_aux_lemma => kernel_rfl) (by as_aux_lemma => kernel_rfl) (fun _ _ _ h => h) (Or.inl ⟨by kernel_rfl, ?_⟩) hS ?_
  rotate_left
  · intro w hSw; obtain ⟨d0, d1⟩ := hSw; have c0 := d1.c0; have c1 := d1.c1; have c2 := d1.c2; obtain ⟨a1, a2, a3, a4⟩ := d0.mem hk hf; dsimp only at c0 c1 c2 a1 a2 a3; clear d0 d1; go_simp
    first | done | with_reducible rfl
  refine wpAnyH_takeE (i := 3) (some 24) (v := ?_) rfl rfl (by as_aux_lemma => kernel_rfl) (by as_aux_lemma => kernel_rfl) (by as_aux_lemma => kernel_rfl) (fun _ _ _ h => h) (Or.inl ⟨by kernel_rfl, ?_⟩) hS ?_
  rotate_left
  · intro w hSw; obtain ⟨d0, d1⟩ := hSw; have c0 := d1.c0; have c1 := d1.c1; have c2 := d1.c2; obtain ⟨a1, a2, a3, a4⟩ := d0.mem hk hf; dsimp only at c0 c1 c2 a1 a2 a3; clear d0 d1; go_simp
    first | done | with_reducible rfl
  refine wpAnyH_takeE (i := 4) (some 25) (v := ?_) rfl rfl (by as_aux_lemma => kernel_rfl) (by as_aux_lemma => kernel_rfl) (by as_aux_lemma => kernel_rfl) (fun _ _ _ h => h) (Or.inl ⟨by kernel_rfl, ?_⟩) hS ?_
  rotate_left
  · intro w hSw; obtain ⟨d0, d1⟩ := hSw; have c0 := d1.c0; have c1 := d1.c1; have c2 := d1.c2; obtain ⟨a1, a2, a3, a4⟩ := d0.mem hk hf; dsimp only at c0 c1 c2 a1 a2 a3; clear d0 d1; go_simp
    first | done | with_reducible rfl
  refine wpAnyH_takeE (i := 5) (some 26) (v := ?_) rfl rfl (by as_aux_lemma => kernel_rfl) (by as_aux_lemma => kernel_rfl) (by as_aux_lemma => kernel_rfl) (fun _ _ _ h => h) (Or.inl ⟨by kernel_rfl, ?_⟩) hS ?_
  rotate_left
  · intro w hSw; obtain ⟨d0, d1⟩ := hSw; have c0 := d1.c0; have c1 := d1.c1; have c2 := d1.c2; obtain ⟨a1, a2, a3, a4⟩ := d0.mem hk hf; dsimp only at c0 c1 c2 a1 a2 a3; clear d0 d1; go_simp
    first | done | with_reducible rfl
  refine wpAnyH_takeE (i := 6) (some 27) (v := ?_) rfl rfl (by as_aux_lemma => kernel_rfl) (by as_aux_lemma => kernel_rfl) (by as_aux_lemma => kernel_rfl) (fun _ _ _ h => h) (Or.inl ⟨by kernel_rfl, ?_⟩) hS ?_
  rotate_left
  · intro w hSw; obtain ⟨d0, d1⟩ := hSw; have c0 := d1.c0; have c1 := d1.c1; have c2 := d1.c2; obtain ⟨a1, a2, a3, a4⟩ := d0.mem hk hf; dsimp only at c0 c1 c2 a1 a2 a3; clear d0 d1; go_simp
    first | done | with_reducible rfl
  refine wpAnyH_takeE (i := 7) (some 28) (v := ?_) rfl rfl (by as_aux_lemma => kernel_rfl) (by as_aux_lemma => kernel_rfl) (by as_aux_lemma => kernel_rfl) (fun _ _ _ h => h) (Or.inl ⟨by kernel_rfl, ?_⟩) hS ?_
  rotate_left
  · intro w hSw; obtain ⟨d0, d1⟩ := hSw; have c0 := d1.c0; have c1 := d1.c1; have c2 := d1.c2; obtain ⟨a1, a2, a3, a4⟩ := d0.mem hk hf; dsimp only at c0 c1 c2 a1 a2 a3; clear d0 d1; go_simp
    first | done | with_reducible rfl
  refine wpAnyH_takeE (i := 8) (some 29) (v := ?_) rfl rfl (by as_aux_lemma => kernel_rfl) (by as_aux_lemma => kernel_rfl) (by as_aux_lemma => kernel_rfl) (fun _ _ _ h => h) (Or.inl ⟨by kernel_rfl, ?_⟩) hS ?_
  rotate_left
  · intro w hSw; obtain ⟨d0, d1⟩ := hSw; have c0 := d1.c0; have c1 := d1.c1; have c2 := d1.c2; obtain ⟨a1, a2, a3, a4⟩ := d0.mem hk hf; dsimp only at c0 c1 c2 a1 a2 a3; clear d0 d1; go_simp
    first | done | with_reducible rfl
  refine wpAnyH_takeE (i := 9) (some 30) (v := ?_) rfl rfl (by as_aux_lemma => kernel_rfl) (by as_aux_lemma => kernel_rfl) (by as_aux_lemma => kernel_rfl) (fun _ _ _ h => h) (Or.inl ⟨by kernel_rfl, ?_⟩) hS ?_
  rotate_left
  · intro w hSw; obtain ⟨d0, d1⟩ := hSw; have c0 := d1.c0; have c1 := d1.c1; have c2 := d1.c2; obtain ⟨a1, a2, a3, a4⟩ := d0.mem hk hf; dsimp only at c0 c1 c2 a1 a2 a3; clear d0 d1; go_simp
    first | done | with_reducible rfl
  refine wpAnyH_ready (rs := [10]) (by as_aux_lemma => kernel_rfl) (by simp) ?_
  refine AllReadyH.cons rfl (fun K hK => ?_) AllReadyH.nil
  go_simp
  go_wp2_with (go_at_call 39; refine (HAb.out _).mono ?_; rintro e w2 ⟨rfl, q2⟩; replace q2 := Lib.hid q2; refine Hid.out ?_)
  refine hK.out _ _ ?_ (fun hS => ?_)
  · exact ⟨hS.1.on q2.out, hS.2.on q2.out⟩
  clear hK K
  refine wpAnyH_takeE (i := 11) (some 32) (v := ?_) rfl rfl (by as_aux_lemma => kernel_rfl) (by as_aux_lemma => kernel_rfl) (by as_aux_lemma => kernel_rfl) (fun _ _ _ h => h) (Or.inl ⟨by kernel_rfl, ?_⟩) hS ?_
  rotate_left
  · intro w hSw; obtain ⟨d0, d1⟩ := hSw; have c0 := d1.c0; have c1 := d1.c1; have c2 := d1.c2; obtain ⟨a1, a2, a3, a4⟩ := d0.mem hk hf; dsimp only at c0 c1 c2 a1 a2 a3; clear d0 d1; go_simp
    first | done | with_reducible rfl
  refine wpAnyH_takeE (i := 12) (some 33) (v := ?_) rfl rfl (by as_aux_lemma => kernel_rfl) (by as_aux_lemma => kernel_rfl) (by as_aux_lemma => kernel_rfl) (fun _ _ _ h => h) (Or.inl ⟨by kernel_rfl, ?_⟩) hS ?_
  rotate_left
  · intro w hSw; obtain ⟨d0, d1⟩ := hSw; have c0 := d1.c0; have c1 := d1.c1; have c2 := d1.c2; obtain ⟨a1, a2, a3, a4⟩ := d0.mem hk hf; dsimp only at c0 c1 c2 a1 a2 a3; clear d0 d1; go_simp
    first | done | with_reducible rfl
  obtain ⟨t1, x1⟩ := hS
  refine wpAnyH_done (by kernel_rfl) ?_ _
  go_simp
  obtain ⟨z1, hb1⟩ := HZ.out
  have q3 : Below w1.heap.size w1.drew.drew w2 := q2.out
  have z4 : Mb w2 (w.heap.size + 1) zM := (show Mb w1.drew.drew (w.heap.size + 1) zM from z1).below q3 z1.lt
  have hb4 : Below w.heap.size w w2 := hb1.drew.drew.trans (q3.mono hb1.size)
  clear z1 hb1 HZ q2 q3 HAb
  generalize w2 = w4 at *
  go_wp2_with fail
  have HZ := Lib.hid (And.intro z4 hb4)
  clear z4 hb4
  refine wp_region_any (by kernel_rfl) ?_
  change wpAny _ _ _ _ _ _ _ (World.drew _)
  have hS : (fun w' : World => TabBlk w' b T ∧ Mb w' w.heap.size ⟨(k : Int), s, i⟩) w4.drew := ⟨t1, x1⟩
  refine wpAny_of_held (S := fun w' => TabBlk w' b T ∧ Mb w' w.heap.size ⟨(k : Int), s, i⟩) _ _ _ _ ?_
  clear t1 x1
  refine wpAnyH_takeE (i := 0) (some 35) (v := ?_) rfl rfl (by as_aux_lemma => kernel_rfl) (by as_aux_lemma => kernel_rfl) (by as_aux_lemma => kernel_rfl) (fun _ _ _ h => h) (Or.inl ⟨by kernel_rfl, ?_⟩) hS ?_
  rotate_left
  · intro w hSw; obtain ⟨d0, d1⟩ := hSw; have a0 := d0.self; rw [hme] at a0; have c0 := d1.c0; dsimp only at c0; clear d0 d1; go_simp
    first | done | with_reducible rfl
  refine wpAnyH_takeE (i := 1) (some 36) (v := ?_) rfl rfl (by as_aux_lemma => kernel_rfl) (by as_aux_lemma => kernel_rfl) (by as_aux_lemma => kernel_rfl) (fun _ _ _ h => h) (Or.inl ⟨by kernel_rfl, ?_⟩) hS ?_
  rotate_left
  · intro w hSw; obtain ⟨d0, d1⟩ := hSw; have a0 := d0.self; rw [hme] at a0; have c0 := d1.c0; dsimp only at c0; clear d0 d1; go_simp
    first | done | with_reducible rfl
  refine wpAnyH_takeE (i := 2) (some 37) (v := ?_) rfl rfl (by as_aux_lemma => kernel_rfl) (by as_aux_lemma => kernel_rfl) (by as_aux_lemma => kernel_rfl) (fun _ _ _ h => h) (Or.inl ⟨by kernel_rfl, ?_⟩) hS ?_
  rotate_left
  · intro w hSw; obtain ⟨d0, d1⟩ := hSw; have a0 := d0.self; rw [hme] at a0; have c0 := d1.c0; dsimp only at c0; clear d0 d1; go_simp
    first | done | with_reducible rfl
  refine wpAnyH_takeE (i := 3) (some 38) (v := ?_) rfl rfl (by as_aux_lemma => kernel_rfl) (by as_aux_lemma => kernel_rfl) (by as_aux_lemma => kernel_rfl) (fun _ _ _ h => h) (Or.inl ⟨by kernel_rfl, ?_⟩) hS ?_
  rotate_left
  · intro w hSw; obtain ⟨d0, d1⟩ := hSw; have a0 := d0.self; rw [hme] at a0; have c0 := d1.c0; dsimp only at c0; clear d0 d1; go_simp
    first | done | with_reducible rfl
  refine wpAnyH_takeE (i := 4) (some 39) (v := ?_) rfl rfl (by as_aux_lemma => kernel_rfl) (by as_aux_lemma => kernel_rfl) (by as_aux_lemma => kernel_rfl) (fun _ _ _ h => h) (Or.inl ⟨by kernel_rfl, ?_⟩) hS ?_
  rotate_left
  · intro w hSw; obtain ⟨d0, d1⟩ := hSw; have a0 := d0.self; rw [hme] at a0; have c0 := d1.c0; dsimp only at c0; clear d0 d1; go_simp
    first | done | with_reducible rfl
  refine wpAnyH_takeE (i := 5) (some 40) (v := ?_) rfl rfl (by as_aux_lemma => kernel_rfl) (by as_aux_lemma => kernel_rfl) (by as_aux_lemma => kernel_rfl) (fun _ _ _ h => h) (Or.inl ⟨by kernel_rfl, ?_⟩) hS ?_
  rotate_left
  · intro w hSw; obtain ⟨d0, d1⟩ := hSw; have a0 := d0.self; rw [hme] at a0; have c0 := d1.c0; dsimp only at c0; clear d0 d1; go_simp
    first | done | with_reducible rfl
  refine wpAnyH_takeE (i := 6) (some 41) (v := ?_) rfl rfl (by as_aux_lemma => kernel_rfl) (by as_aux_lemma => kernel_rfl) (by as_aux_lemma => kernel_rfl) (fun _ _ _ h => h) (Or.inl ⟨by kernel_rfl, ?_⟩) hS ?_
  rotate_left
  · intro w hSw; obtain ⟨d0, d1⟩ := hSw; have a0 := d0.self; rw [hme] at a0; have c0 := d1.c0; dsimp only at c0; clear d0 d1; go_simp
    first | done | with_reducible rfl
  obtain ⟨t1, x1⟩ := hS
  refine wpAnyH_done (by kernel_rfl) ?_ _
  go_simp
  obtain ⟨z4, hb4⟩ := HZ.out
  replace z4 : Mb w4.drew (w.heap.size + 1) zM := z4
  replace hb4 := hb4.drew
  clear HZ
  generalize w4.drew = w5 at *
  have HF := Lib.hid (fin_hear b T k hk ⟨k, s, i⟩ w w5 t1 z4 hb4 bw)
  have c0 := x1.c0; have c1 := x1.c1; have c2 := x1.c2
  dsimp only at c0 c1 c2
  obtain ⟨a1, a2, a3, a4⟩ := t1.mem hk hf
  dsimp only at a1 a2 a3
  have fb := t1.f; have fz := z4.f; have z0 := z4.c0; have z1 := z4.c1; have z2 := z4.c2
  dsimp only at z0 z1 z2
  have hne1 : b ≠ w.heap.size := by omega
  have hne2 : b ≠ w.heap.size + 1 := by omega
  clear t1 x1 z4 hb4
  go_wp2
  exact bodyPost_ret (results_mb2 rfl _ _ _ rfl HF.out.1) rfl ⟨rfl, HF.out.2.1, HF.out.2.2⟩
set_option maxRecDepth 20000 in
set_option maxHeartbeats 8000000 in
theorem bHear_low (b : Nat) (T : Tb) (k : Nat) (s i : Int) (w : World) (hT : TabBlk w b T) (hk : k < 64) (_hs0 : 0 ≤ i) (_hs1 : i ≤ 1073741824) (hmay : mayM ⟨(k : Int), s, i⟩ = true) (on os oi : Int) (hf : T.f k = some ⟨on, os, oi⟩) (hab : aboveM ⟨(k : Int), s, i⟩ ⟨on, os, oi⟩ = false) :
    Calls Try.prog 20 #[.pointer (some ⟨b, 0, none⟩), .agg #[.int .u16 (k : Int), .int .u8 s, .int .i64 i]] w fun e w' => e = .returned (.tuple #[.agg #[.int .u16 0, .int .u8 0, .int .i64 0], .bool false]) ∧ TabBlk w' b T ∧ Below w.heap.size w w' := by
  have HAb := Lib.hid (fun w => bAbove_any ⟨(k : Int), s, i⟩ ⟨on, os, oi⟩ w)
  rw [hab] at HAb
  dsimp only at HAb
  clear hab
  have HMay := Lib.hid (fun w => bmayBe_any ⟨(k : Int), s, i⟩ w)
  rw [hmay] at HMay
  dsimp only at HMay
  clear hmay
  have bw : b < w.heap.size := hT.lt
  have x0 := (Mb.new w ⟨(k : Int), s, i⟩).on ((Below.refl _ _).alloc (Nat.le_refl _) (.cells #[.int .u16 0, .int .u8 0, .int .i64 0] 43))
  have z0 := Mb.new2 w (.cells #[.int .u16 (k : Int), .int .u8 s, .int .i64 i] 43) zM
  have hb0 := ((Below.refl w.heap.size w).alloc (Nat.le_refl _) (.cells #[.int .u16 (k : Int), .int .u8 s, .int .i64 i] 43)).alloc (by simp) (.cells #[.int .u16 0, .int .u8 0, .int .i64 0] 43)
  have t0 := hT.on hb0
  have HZ := Lib.hid (And.intro t0 (And.intro x0 (And.intro z0 hb0)))
  clear t0 x0 z0 hb0
  go_enter Try.func20, Try.ntmps20
  go_wp2_with fail
  obtain ⟨t0, x0, z0, hb0⟩ := HZ.out
  generalize (w.alloc (.cells #[.int .u16 (k : Int), .int .u8 s, .int .i64 i] 43)).alloc (.cells #[.int .u16 0, .int .u8 0, .int .i64 0] 43) = W0 at *
  clear HZ hT
  have c0 := x0.c0; have c1 := x0.c1; have c2 := x0.c2
  dsimp only at c0 c1 c2
  have HZ := Lib.hid (And.intro t0 (And.intro x0 (And.intro z0 hb0)))
  clear t0 x0 z0 hb0
  go_wp2_with (go_at_call 38; refine (HMay.out _).mono ?_; rintro e w1 ⟨rfl, q1⟩; replace q1 := Lib.hid q1; refine Hid.out ?_)
  refine Lib.hid ?_
  obtain ⟨t0, x0, z0, hb0⟩ := HZ.out
  have t1 := t0.on q1.out; have x1 := x0.on q1.out; have z1 := z0.on q1.out; have hb1 := hb0.trans (q1.out.mono hb0.size)
  clear t0 x0 z0 hb0 c0 c1 c2 HZ q1 HMay
  have hk2 : (k : Int) < 64 := by omega
  go_wp2_with fail
  have HZ := Lib.hid (And.intro z1 hb1)
  clear z1 hb1
  refine wp_region_any (by kernel_rfl) ?_
  change wpAny _ _ _ _ _ _ _ (World.drew _)
  have hS : (fun w' : World => TabBlk w' b T ∧ Mb w' w.heap.size ⟨(k : Int), s, i⟩) w1.drew := ⟨t1, x1⟩
  refine wpAny_of_held (S := fun w' => TabBlk w' b T ∧ Mb w' w.heap.size ⟨(k : Int), s, i⟩) _ _ _ _ ?_
  clear t1 x1
  refine wpAnyH_takeE (i := 0) (some 15) (v := ?_) rfl rfl (by as_aux_lemma => kernel_rfl) (by as_aux_lemma => kernel_rfl) (by as_aux_lemma => kernel_rfl) (fun _ _ _ h => h) (Or.inl ⟨by kernel_rfl, ?_⟩) hS ?_
  rotate_left
  · intro w hSw; obtain ⟨d0, d1⟩ := hSw; have c0 := d1.c0; have c1 := d1.c1; have c2 := d1.c2; dsimp only at c0 c1 c2; clear d0 d1; go_simp
    first | done | with_reducible rfl
  refine wpAnyH_takeE (i := 1) (some 16) (v := ?_) rfl rfl (by as_aux_lemma => kernel_rfl) (by as_aux_lemma => kernel_rfl) (by as_aux_lemma => kernel_rfl) (fun _ _ _ h => h) (Or.inl ⟨by kernel_rfl, ?_⟩) hS ?_
  rotate_left
  · intro w hSw; obtain ⟨d0, d1⟩ := hSw; have c0 := d1.c0; have c1 := d1.c1; have c2 := d1.c2; dsimp only at c0 c1 c2; clear d0 d1; go_simp
    first | done | with_reducible rfl
  refine wpAnyH_takeE (i := 2) (some 17) (v := ?_) rfl rfl (by as_aux_lemma => kernel_rfl) (by as_aux_lemma => kernel_rfl) (by as_aux_lemma => kernel_rfl) (fun _ _ _ h => h) (Or.inl ⟨by kernel_rfl, ?_⟩) hS ?_
  rotate_left
  · intro w hSw; obtain ⟨d0, d1⟩ := hSw; have c0 := d1.c0; have c1 := d1.c1; have c2 := d1.c2; dsimp only at c0 c1 c2; clear d0 d1; go_simp
    first | done | with_reducible rfl
  refine wpAnyH_takeE (i := 3) (some 18) (v := ?_) rfl rfl (by as_aux_lemma => kernel_rfl) (by as_aux_lemma => kernel_rfl) (by as_aux_lemma => kernel_rfl) (fun _ _ _ h => h) (Or.inl ⟨by kernel_rfl, ?_⟩) hS ?_
  rotate_left
  · intro w hSw; obtain ⟨d0, d1⟩ := hSw; have c0 := d1.c0; have c1 := d1.c1; have c2 := d1.c2; dsimp only at c0 c1 c2; clear d0 d1; go_simp
    first | done | with_reducible rfl
  refine wpAnyH_takeE (i := 4) (some 19) (v := ?_) rfl rfl (by as_aux_lemma => kernel_rfl) (by as_aux_lemma => kernel_rfl) (by as_aux_lemma => kernel_rfl) (fun _ _ _ h => h) (Or.inl ⟨by kernel_rfl, ?_⟩) hS ?_
  rotate_left
  · intro w hSw; obtain ⟨d0, d1⟩ := hSw; have c0 := d1.c0; have c1 := d1.c1; have c2 := d1.c2; dsimp only at c0 c1 c2; clear d0 d1; go_simp
    first | done | with_reducible rfl
  refine wpAnyH_takeE (i := 5) (some 20) (v := ?_) rfl rfl (by as_aux_lemma => kernel_rfl) (by as_aux_lemma => kernel_rfl) (by as_aux_lemma => kernel_rfl) (fun _ _ _ h => h) (Or.inl ⟨by kernel_rfl, ?_⟩) hS ?_
  rotate_left
  · intro w hSw; obtain ⟨d0, d1⟩ := hSw; have c0 := d1.c0; have c1 := d1.c1; have c2 := d1.c2; dsimp only at c0 c1 c2; clear d0 d1; go_simp
    first | done | with_reducible rfl
  refine wpAnyH_takeE (i := 6) (some 6) (v := ?_) rfl rfl (by as_aux_lemma => kernel_rfl) (by as_aux_lemma => kernel_rfl) (by as_aux_lemma => kernel_rfl) (fun _ _ _ h => h) (Or.inl ⟨by kernel_rfl, ?_⟩) hS ?_
  rotate_left
  · intro w hSw; obtain ⟨d0, d1⟩ := hSw; have c0 := d1.c0; have c1 := d1.c1; have c2 := d1.c2; dsimp only at c0 c1 c2; clear d0 d1; go_simp
    first | done | with_reducible rfl
  obtain ⟨t1, x1⟩ := hS
  refine wpAnyH_done (by kernel_rfl) ?_ _
  go_simp
  go_wp2_with fail
  refine wp_region_any (by kernel_rfl) ?_
  change wpAny _ _ _ _ _ _ _ (World.drew _)
  have hS : (fun w' : World => TabBlk w' b T ∧ Mb w' w.heap.size ⟨(k : Int), s, i⟩) w1.drew.drew := ⟨t1, x1⟩
  refine wpAny_of_held (S := fun w' => TabBlk w' b T ∧ Mb w' w.heap.size ⟨(k : Int), s, i⟩) _ _ _ _ ?_
  clear t1 x1
  refine wpAnyH_takeE (i := 0) (some 21) (v := ?_) rfl rfl (by as_aux_lemma => kernel_rfl) (by as_aux_lemma => kernel_rfl) (by as_aux_lemma => kernel_rfl) (fun _ _ _ h => h) (Or.inl ⟨by kernel_rfl, ?_⟩) hS ?_
  rotate_left
  · intro w hSw; obtain ⟨d0, d1⟩ := hSw; have c0 := d1.c0; have c1 := d1.c1; have c2 := d1.c2; obtain ⟨a1, a2, a3, a4⟩ := d0.mem hk hf; dsimp only at c0 c1 c2 a1 a2 a3; clear d0 d1; go_simp
    first | done | with_reducible rfl
  refine wpAnyH_takeE (i := 1) (some 22) (v := ?_) rfl rfl (by as_aux_lemma => kernel_rfl) (by as_aux_lemma => kernel_rfl) (by as_aux_lemma => kernel_rfl) (fun _ _ _ h => h) (Or.inl ⟨by kernel_rfl, ?_⟩) hS ?_
  rotate_left
  · intro w hSw; obtain ⟨d0, d1⟩ := hSw; have c0 := d1.c0; have c1 := d1.c1; have c2 := d1.c2; obtain ⟨a1, a2, a3, a4⟩ := d0.mem hk hf; dsimp only at c0 c1 c2 a1 a2 a3; clear d0 d1; go_simp
    first | done | with_reducible rfl
  refine wpAnyH_takeE (i := 2) (some 23) (v := ?_) rfl rfl (by as_aux_lemma => kernel_rfl) (by as_aux_lemma => kernel_rfl) (by as_aux_lemma => kernel_rfl) (fun _ _ _ h => h) (Or.inl ⟨by kernel_rfl, ?_⟩) hS ?_
  rotate_left
  · intro w hSw; obtain ⟨d0, d1⟩ := hSw; have c0 := d1.c0; have c1 := d1.c1; have c2 := d1.c2; obtain ⟨a1, a2, a3, a4⟩ := d0.mem hk hf; dsimp only at c0 c1 c2 a1 a2 a3; clear d0 d1; go_simp
    first | done | with_reducible rfl
  refine wpAnyH_takeE (i := 3) (some 24) (v := ?_) rfl rfl (by as_aux_lemma => kernel_rfl) (by as_aux_lemma => kernel_rfl) (by as_aux_lemma => kernel_rfl) (fun _ _ _ h => h) (Or.inl ⟨by kernel_rfl, ?_⟩) hS ?_
  rotate_left
  · intro w hSw; obtain ⟨d0, d1⟩ := hSw; have c0 := d1.c0; have c1 := d1.c1; have c2 := d1.c2; obtain ⟨a1, a2, a3, a4⟩ := d0.mem hk hf; dsimp only at c0 c1 c2 a1 a2 a3; clear d0 d1; go_simp
    first | done | with_reducible rfl
  refine wpAnyH_takeE (i := 4) (some 25) (v := ?_) rfl rfl (by as_aux_lemma => kernel_rfl) (by as_aux_lemma => kernel_rfl) (by as_aux_lemma => kernel_rfl) (fun _ _ _ h => h) (Or.inl ⟨by kernel_rfl, ?_⟩) hS ?_
  rotate_left
  · intro w hSw; obtain ⟨d0, d1⟩ := hSw; have c0 := d1.c0; have c1 := d1.c1; have c2 := d1.c2; obtain ⟨a1, a2, a3, a4⟩ := d0.mem hk hf; dsimp only at c0 c1 c2 a1 a2 a3; clear d0 d1; go_simp
    first | done | with_reducible rfl
  refine wpAnyH_takeE (i := 5) (some 26) (v := ?_) rfl rfl (by as_aux_lemma => kernel_rfl) (by as_aux_lemma => kernel_rfl) (by as_aux_lemma => kernel_rfl) (fun _ _ _ h => h) (Or.inl ⟨by kernel_rfl, ?_⟩) hS ?_
  rotate_left
  · intro w hSw; obtain ⟨d0, d1⟩ := hSw; have c0 := d1.c0; have c1 := d1.c1; have c2 := d1.c2; obtain ⟨a1, a2, a3, a4⟩ := d0.mem hk hf; dsimp only at c0 c1 c2 a1 a2 a3; clear d0 d1; go_simp
    first | done | with_reducible rfl
  refine wpAnyH_takeE (i := 6) (some 27) (v := ?_) rfl rfl (by as_aux_lemma => kernel_rfl) (by as_aux_lemma => kernel_rfl) (by as_aux_lemma => kernel_rfl) (fun _ _ _ h => h) (Or.inl ⟨by kernel_rfl, ?_⟩) hS ?_
  rotate_left
  · intro w hSw; obtain ⟨d0, d1⟩ := hSw; have c0 := d1.c0; have c1 := d1.c1; have c2 := d1.c2; obtain ⟨a1, a2, a3, a4⟩ := d0.mem hk hf; dsimp only at c0 c1 c2 a1 a2 a3; clear d0 d1; go_simp
    first | done | with_reducible rfl
  refine wpAnyH_takeE (i := 7) (some 28) (v := ?_) rfl rfl (by as_aux_lemma => kernel_rfl) (by as_aux_lemma => kernel_rfl) (by as_aux_lemma => kernel_rfl) (fun _ _ _ h => h) (Or.inl ⟨by kernel_rfl, ?_⟩) hS ?_
  rotate_left
  · intro w hSw; obtain ⟨d0, d1⟩ := hSw; have c0 := d1.c0; have c1 := d1.c1; have c2 := d1.c2; obtain ⟨a1, a2, a3, a4⟩ := d0.mem hk hf; dsimp only at c0 c1 c2 a1 a2 a3; clear d0 d1; go_simp
    first | done | with_reducible rfl
  refine wpAnyH_takeE (i := 8) (some 29) (v := ?_) rfl rfl (by as_aux_lemma => kernel_rfl) (by as_aux_lemma => kernel_rfl) (by as_aux_lemma => kernel_rfl) (fun _ _ _ h => h) (Or.inl ⟨by kernel_rfl, ?_⟩) hS ?_
  rotate_left
  · intro w hSw; obtain ⟨d0, d1⟩ := hSw; have c0 := d1.c0; have c1 := d1.c1; have c2 := d1.c2; obtain ⟨a1, a2, a3, a4⟩ := d0.mem hk hf; dsimp only at c0 c1 c2 a1 a2 a3; clear d0 d1; go_simp
    first | done | with_reducible rfl
  refine wpAnyH_takeE (i := 9) (some 30) (v := ?_) rfl rfl (by as_aux_lemma => kernel_rfl) (by as_aux_lemma => kernel_rfl) (by as_aux_lemma => kernel_rfl) (fun _ _ _ h => h) (Or.inl ⟨by kernel_rfl, ?_⟩) hS ?_
  rotate_left
  · intro w hSw; obtain ⟨d0, d1⟩ := hSw; have c0 := d1.c0; have c1 := d1.c1; have c2 := d1.c2; obtain ⟨a1, a2, a3, a4⟩ := d0.mem hk hf; dsimp only at c0 c1 c2 a1 a2 a3; clear d0 d1; go_simp
    first | done | with_reducible rfl
  refine wpAnyH_ready (rs := [10]) (by as_aux_lemma => kernel_rfl) (by simp) ?_
  refine AllReadyH.cons rfl (fun K hK => ?_) AllReadyH.nil
  go_simp
  go_wp2_with (go_at_call 39; refine (HAb.out _).mono ?_; rintro e w2 ⟨rfl, q2⟩; replace q2 := Lib.hid q2; refine Hid.out ?_)
  refine hK.out _ _ ?_ (fun hS => ?_)
  · exact ⟨hS.1.on q2.out, hS.2.on q2.out⟩
  clear hK K
  refine wpAnyH_takeE (i := 11) (some 32) (v := ?_) rfl rfl (by as_aux_lemma => kernel_rfl) (by as_aux_lemma => kernel_rfl) (by as_aux_lemma => kernel_rfl) (fun _ _ _ h => h) (Or.inl ⟨by kernel_rfl, ?_⟩) hS ?_
  rotate_left
  · intro w hSw; obtain ⟨d0, d1⟩ := hSw; have c0 := d1.c0; have c1 := d1.c1; have c2 := d1.c2; obtain ⟨a1, a2, a3, a4⟩ := d0.mem hk hf; dsimp only at c0 c1 c2 a1 a2 a3; clear d0 d1; go_simp
    first | done | with_reducible rfl
  refine wpAnyH_takeE (i := 12) (some 33) (v := ?_) rfl rfl (by as_aux_lemma => kernel_rfl) (by as_aux_lemma => kernel_rfl) (by as_aux_lemma => kernel_rfl) (fun _ _ _ h => h) (Or.inl ⟨by kernel_rfl, ?_⟩) hS ?_
  rotate_left
  · intro w hSw; obtain ⟨d0, d1⟩ := hSw; have c0 := d1.c0; have c1 := d1.c1; have c2 := d1.c2; obtain ⟨a1, a2, a3, a4⟩ := d0.mem hk hf; dsimp only at c0 c1 c2 a1 a2 a3; clear d0 d1; go_simp
    first | done | with_reducible rfl
  obtain ⟨t1, x1⟩ := hS
  refine wpAnyH_done (by kernel_rfl) ?_ _
  go_simp
  obtain ⟨z1, hb1⟩ := HZ.out
  have q3 : Below w1.heap.size w1.drew.drew w2 := q2.out
  have z4 : Mb w2 (w.heap.size + 1) zM := (show Mb w1.drew.drew (w.heap.size + 1) zM from z1).below q3 z1.lt
  have hb4 : Below w.heap.size w w2 := hb1.drew.drew.trans (q3.mono hb1.size)
  clear z1 hb1 HZ q2 q3 HAb
  generalize w2 = w4 at *
  have HZ := Lib.hid (And.intro (z4.store zM) (And.intro (stM_below hb4 (by omega : w.heap.size ≤ w.heap.size + 1) zM) (t1.kept (stM_grown _ (w.heap.size + 1) zM) (by simp; omega))))
  have f0 := z4.f; have e0 := z4.c0; have e1 := z4.c1; have e2 := z4.c2
  dsimp only at e0 e1 e2
  clear t1 x1 z4 hb4
  go_wp2
  exact bodyPost_ret (results_mb2 rfl _ _ _ rfl HZ.out.1) rfl ⟨rfl, HZ.out.2.2, HZ.out.2.1⟩

theorem putB_eq (T : Tb) (m : Mem) (k : Nat) (hk : m.n = (k : Int)) : T.put m = ⟨fun j => if j = k then some m else T.f j, T.s⟩ := by
  unfold Tb.put
  rw [hk]
  rfl
theorem denyM_form (n s i : Int) : denyM ⟨n, s, i⟩ = ⟨n, (denyM ⟨n, s, i⟩).s, (denyM ⟨n, s, i⟩).i⟩ := by unfold denyM; split <;> rfl
theorem bHear_any (b : Nat) (T : Tb) (m : Mem) (h0 : 0 ≤ m.n) (w : World) (hT : TabBlk w b T) :
    Calls Try.prog 20 #[.pointer (some ⟨b, 0, none⟩), .agg #[.int .u16 m.n, .int .u8 m.s, .int .i64 m.i]] w (HearPost b T m w) := by
  obtain ⟨n, s, i⟩ := m
  obtain ⟨k, rfl⟩ : ∃ k : Nat, n = (k : Int) := ⟨n.toNat, by dsimp only at h0; omega⟩
  dsimp only
  cases hmay : mayM ⟨(k : Int), s, i⟩ with
  | false =>
    have hn : newsB T ⟨(k : Int), s, i⟩ = false := by unfold newsB; rw [hmay]; rfl
    refine (bHear_bad b T k s i w hT hmay).mono ?_
    rintro e w' ⟨h1, h2, h3⟩
    exact ⟨by rw [h1]; unfold heardM; rw [hn]; rfl, by unfold hearB; rw [hn]; exact h2, grownBy_of_below h3⟩
  | true =>
    obtain ⟨m1, m2, m3, m4⟩ := (mayM_iff _).1 hmay
    dsimp only at m1 m2 m3 m4
    have hk : k < 64 := by omega
    have hsaid : T.s ≠ k → saidM T ⟨(k : Int), s, i⟩ = ⟨(k : Int), s, i⟩ := fun hne => by unfold saidM; rw [if_neg (by dsimp only; omega)]
    have hself : T.s = k → saidM T ⟨(k : Int), s, i⟩ = denyM ⟨(k : Int), s, i⟩ := fun he => by unfold saidM; rw [if_pos (by dsimp only; omega)]
    have hnews : newsB T ⟨(k : Int), s, i⟩ = (T.f k).elim true (fun o => aboveM ⟨(k : Int), s, i⟩ o) := by unfold newsB; rw [hmay]; rfl
    have fin : newsB T ⟨(k : Int), s, i⟩ = true → ∀ d : Mem, saidM T ⟨(k : Int), s, i⟩ = d → d.n = (k : Int) → ∀ (e : Ending) (w' : World), (e = .returned (.tuple #[.agg #[.int .u16 (k : Int), .int .u8 d.s, .int .i64 d.i], .bool true]) ∧ TabBlk w' b ⟨fun j => if j = k then some ⟨k, d.s, d.i⟩ else T.f j, T.s⟩ ∧ w.grownBy w' (some b)) → HearPost b T ⟨(k : Int), s, i⟩ w e w' := by
      rintro hn d hd hdn e w' ⟨h1, h2, h3⟩
      refine ⟨?_, ?_, h3⟩
      · rw [h1]
        unfold heardM
        rw [if_pos hn, hd, hn, hdn]
      · unfold hearB
        rw [if_pos hn, hd, putB_eq T d k hdn]
        have e : d = ⟨(k : Int), d.s, d.i⟩ := by rw [← hdn]
        rw [e]
        exact h2
    cases hf : T.f k with
    | none =>
      have hn : newsB T ⟨(k : Int), s, i⟩ = true := by rw [hnews, hf]; rfl
      by_cases hme : T.s = k
      · exact (bHear_none_self b T k s i w hT hk m3 m4 hmay hf hme (denyM ⟨(k : Int), s, i⟩).s (denyM ⟨(k : Int), s, i⟩).i (denyM_form _ _ _)).mono (fin hn _ (hself hme) (denyM_n _))
      · exact (bHear_none_other b T k s i w hT hk m3 m4 hmay hf T.s rfl (fun e => hme e.symm)).mono (fin hn ⟨(k : Int), s, i⟩ (hsaid hme) rfl)
    | some o =>
      obtain ⟨on, os, oi⟩ := o
      cases hab : aboveM ⟨(k : Int), s, i⟩ ⟨on, os, oi⟩ with
      | false =>
        have hn : newsB T ⟨(k : Int), s, i⟩ = false := by rw [hnews, hf]; exact hab
        refine (bHear_low b T k s i w hT hk m3 m4 hmay on os oi hf hab).mono ?_
        rintro e w' ⟨h1, h2, h3⟩
        exact ⟨by rw [h1]; unfold heardM; rw [hn]; rfl, by unfold hearB; rw [hn]; exact h2, grownBy_of_below h3⟩
      | true =>
        have hn : newsB T ⟨(k : Int), s, i⟩ = true := by rw [hnews, hf]; exact hab
        by_cases hme : T.s = k
        · exact (bHear_some_self b T k s i w hT hk m3 m4 hmay on os oi hf hab hme (denyM ⟨(k : Int), s, i⟩).s (denyM ⟨(k : Int), s, i⟩).i (denyM_form _ _ _)).mono (fin hn _ (hself hme) (denyM_n _))
        · exact (bHear_some_other b T k s i w hT hk m3 m4 hmay on os oi hf hab T.s rfl (fun e => hme e.symm)).mono (fin hn ⟨(k : Int), s, i⟩ (hsaid hme) rfl)
set_option maxRecDepth 20000 in
set_option maxHeartbeats 1000000 in
theorem bHear_nil (m : Mem) (w : World) :
    Calls Try.prog 20 #[.pointer none, .agg #[.int .u16 m.n, .int .u8 m.s, .int .i64 m.i]] w fun e w' => e = .returned (.tuple #[.agg #[.int .u16 0, .int .u8 0, .int .i64 0], .bool false]) ∧ Below w.heap.size w w' := by
  have HB := Lib.hid (((Below.refl w.heap.size w).alloc (Nat.le_refl _) (.cells #[.int .u16 m.n, .int .u8 m.s, .int .i64 m.i] 43)).alloc (by simp) (.cells #[.int .u16 0, .int .u8 0, .int .i64 0] 43))
  go_enter Try.func20, Try.ntmps20
  go_wp2
  exact bodyPost_ret (results_mb2 rfl _ _ _ rfl (Mb.new2 w _ zM)) rfl ⟨rfl, HB.out⟩

end Go.Proofs.Ytnoconampcemoaa
