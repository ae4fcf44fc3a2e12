/-
  The reference's Put: where nothing is taken.
-/
import Derived.Test.YtkbonifbnbdbkabC15
namespace Go.Proofs.Ytkbonifbnbdbkab
open Go.RowKit Go.Maps

theorem placeC_stop {S : List Ent} {k : List UInt8} {P : Nat} (h : placeC S k = P) : ∀ hl : P < S.length, ¬ S[P].key < k := fun hl hk => by
  subst h
  have e : (S.takeWhile fun r => decide (r.key < k)) ++ S.dropWhile (fun r => decide (r.key < k)) = S := List.takeWhile_append_dropWhile
  have h1 : (S.dropWhile fun r => decide (r.key < k)) = S.drop (placeC S k) := by
    have e2 := take_placeC S k
    have e3 := List.take_append_drop (placeC S k) S
    rw [e2] at e3
    exact List.append_cancel_left (e.trans e3.symm)
  rw [List.drop_eq_getElem_cons hl] at h1
  have := List.head?_dropWhile_not (fun r : Ent => decide (r.key < k)) S
  rw [h1] at this
  simp only [List.head?_cons, decide_eq_false_iff_not] at this
  exact this hk

set_option maxRecDepth 100000 in
set_option maxHeartbeats 4000000 in
theorem crPut_err (a : Option Addr) (c : Nat) (S : List Ent) (kx : ByteArray) (tx ox : Int) (vx : ByteArray) (ux : Int) (w : World) (h : RefM w a c S) (hn : S.length ≤ 256) (n : Nat) (hnl : n = S.length) (hE : checkEn ⟨kx, tx, ox, vx, ux⟩ ≠ 0) : Calls Try.prog 25 #[.agg #[.slice a n c], .agg #[.string kx, .int .i64 tx, .int .u16 ox, .string vx, .int .i64 ux]] w (CPutPost w S ⟨kx, tx, ox, vx, ux⟩) := by
  have q2 : cputE S ⟨kx, tx, ox, vx, ux⟩ = checkEn ⟨kx, tx, ox, vx, ux⟩ := if_pos hE
  have q1 : cputB S ⟨kx, tx, ox, vx, ux⟩ = false := by unfold cputB; rw [q2, decide_eq_false hE]; rfl
  have q0 : cputS S ⟨kx, tx, ox, vx, ux⟩ = S := by unfold cputS; rw [q1]; rfl
  have HNL := Lib.hid hnl
  have hn2 : n ≤ 256 := by omega
  have d1 := (Below.refl w.heap.size w).alloc (Nat.le_refl _) (.cells #[.slice a n c] 30)
  have d2 := d1.alloc (by simp) (.cells #[.string kx, .int .i64 tx, .int .u16 ox, .string vx, .int .i64 ux] 36)
  have d3 := d2.alloc (by simp; omega) (.cells #[.slice none 0 0] 30)
  have s1 : (w.alloc (.cells #[.slice a n c] 30)).heap.size = w.heap.size + 1 := by simp
  have s2 : ((w.alloc (.cells #[.slice a n c] 30)).alloc (.cells #[.string kx, .int .i64 tx, .int .u16 ox, .string vx, .int .i64 ux] 36)).heap.size = w.heap.size + 1 + 1 := by simp
  have s3 : (((w.alloc (.cells #[.slice a n c] 30)).alloc (.cells #[.string kx, .int .i64 tx, .int .u16 ox, .string vx, .int .i64 ux] 36)).alloc (.cells #[.slice none 0 0] 30)).heap.size = w.heap.size + 1 + 1 + 1 := by simp
  have k1 := RmBlk.new w a n c
  have k2 := EBlk.new (w.alloc (.cells #[.slice a n c] 30)) ⟨kx, tx, ox, vx, ux⟩
  have k3 := RmBlk.new ((w.alloc (.cells #[.slice a n c] 30)).alloc (.cells #[.string kx, .int .i64 tx, .int .u16 ox, .string vx, .int .i64 ux] 36)) none 0 0
  rw [s1] at k2
  rw [s2] at k3
  replace k1 := (k1.below ((Below.refl _ _).alloc (Nat.le_refl _) (.cells #[.string kx, .int .i64 tx, .int .u16 ox, .string vx, .int .i64 ux] 36)) (by simp)).below ((Below.refl _ _).alloc (Nat.le_refl _) (.cells #[.slice none 0 0] 30)) (by simp; omega)
  replace k2 := k2.below ((Below.refl _ _).alloc (Nat.le_refl _) (.cells #[.slice none 0 0] 30)) (by simp)
  have HC := Lib.hid (eRefCheck_any ⟨kx, tx, ox, vx, ux⟩ (((w.alloc (.cells #[.slice a n c] 30)).alloc (.cells #[.string kx, .int .i64 tx, .int .u16 ox, .string vx, .int .i64 ux] 36)).alloc (.cells #[.slice none 0 0] 30)))
  dsimp only at HC
  have HW := Lib.hid (And.intro d3 (And.intro s3 (And.intro k1 (And.intro k2 k3))))
  have HH := Lib.hid h
  clear d1 d2 d3 s1 s2 s3 k1 k2 k3 hnl
  unfold CPutPost
  obtain ⟨E, hEE⟩ : ∃ E, checkEn ⟨kx, tx, ox, vx, ux⟩ = E := ⟨_, rfl⟩
  rw [hEE] at HC q2 hE
  have HQ := Lib.hid (And.intro q0 (And.intro q1 q2))
  have hE3 : (E != 0) = true := by simpa using hE
  clear h q0 q1 q2 hEE hn
  go_enter Try.func25, Try.ntmps25
  go_wp2_with (go_at_call 35; refine HC.out.mono ?_; rintro r w2 ⟨rfl, q2⟩; refine Hid.out ?_)
  refine Lib.hid ?_
  obtain ⟨d3, s3, k1, k2, k3⟩ := HW.out
  rw [s3] at q2
  replace k1 := k1.below q2 (by omega)
  replace k3 := k3.below q2 (by omega)
  have b2 := d3.trans (q2.mono (by omega))
  clear d3 s3 q2 HC HW
  have c0 := k1.c0
  have c3 := k3.c0; have f3 := k3.f 0
  have r0 := (k3.set (a' := a) (n' := n) (c' := c)).c0
  have b3 := b2.setCell (p := ⟨w.heap.size + 1 + 1, 0, none⟩) (by show w.heap.size ≤ w.heap.size + 1 + 1; omega) (.slice a n c)
  have HF := Lib.hid (And.intro (HH.out.below b3 (Nat.le_refl _)) b3)
  clear k1 k2 k3 b3 b2
  go_wp2
  exact bodyPost_ret (v := .tuple #[.agg #[.slice a n c], .bool false, .int .i64 E]) (by simp [results, Try.results25, go_sem, r0]) rfl ⟨a, c, by rw [HQ.out.1, HQ.out.2.1, HQ.out.2.2, HNL.out], by rw [HQ.out.1]; exact HF.out.1, HF.out.2⟩

set_option maxRecDepth 100000 in
set_option maxHeartbeats 8000000 in
theorem crPut_full2 (a : Option Addr) (c : Nat) (S : List Ent) (kx : ByteArray) (tx ox : Int) (vx : ByteArray) (ux : Int) (w : World) (h : RefM w a c S) (hn : S.length ≤ 256) (n : Nat) (hnl : n = S.length) (hE : checkEn ⟨kx, tx, ox, vx, ux⟩ = 0) (P : Nat) (hP : placeC S (Ent.key ⟨kx, tx, ox, vx, ux⟩) = P) (hPm : P = n) (hgot : gotC S (Ent.key ⟨kx, tx, ox, vx, ux⟩) = none) (h256 : 256 ≤ S.length) : Calls Try.prog 25 #[.agg #[.slice a n c], .agg #[.string kx, .int .i64 tx, .int .u16 ox, .string vx, .int .i64 ux]] w (CPutPost w S ⟨kx, tx, ox, vx, ux⟩) := by
  have q2 : cputE S ⟨kx, tx, ox, vx, ux⟩ = 11 := by unfold cputE; rw [if_neg (by simp [hE]), if_pos (by rw [hgot]; exact ⟨rfl, by omega⟩)]
  have q1 : cputB S ⟨kx, tx, ox, vx, ux⟩ = false := by unfold cputB; rw [q2]; rfl
  have q0 : cputS S ⟨kx, tx, ox, vx, ux⟩ = S := by unfold cputS; rw [q1]; rfl
  have HQ := Lib.hid (And.intro q0 (And.intro q1 q2))
  clear q0 q1 q2 hgot
  have HNL := Lib.hid hnl
  have hn2 : n ≤ 256 := by omega
  have d1 := (Below.refl w.heap.size w).alloc (Nat.le_refl _) (.cells #[.slice a n c] 30)
  have d2 := d1.alloc (by simp) (.cells #[.string kx, .int .i64 tx, .int .u16 ox, .string vx, .int .i64 ux] 36)
  have d3 := d2.alloc (by simp; omega) (.cells #[.slice none 0 0] 30)
  have s1 : (w.alloc (.cells #[.slice a n c] 30)).heap.size = w.heap.size + 1 := by simp
  have s2 : ((w.alloc (.cells #[.slice a n c] 30)).alloc (.cells #[.string kx, .int .i64 tx, .int .u16 ox, .string vx, .int .i64 ux] 36)).heap.size = w.heap.size + 1 + 1 := by simp
  have s3 : (((w.alloc (.cells #[.slice a n c] 30)).alloc (.cells #[.string kx, .int .i64 tx, .int .u16 ox, .string vx, .int .i64 ux] 36)).alloc (.cells #[.slice none 0 0] 30)).heap.size = w.heap.size + 1 + 1 + 1 := by simp
  have k1 := RmBlk.new w a n c
  have k2 := EBlk.new (w.alloc (.cells #[.slice a n c] 30)) ⟨kx, tx, ox, vx, ux⟩
  have k3 := RmBlk.new ((w.alloc (.cells #[.slice a n c] 30)).alloc (.cells #[.string kx, .int .i64 tx, .int .u16 ox, .string vx, .int .i64 ux] 36)) none 0 0
  rw [s1] at k2
  rw [s2] at k3
  replace k1 := (k1.below ((Below.refl _ _).alloc (Nat.le_refl _) (.cells #[.string kx, .int .i64 tx, .int .u16 ox, .string vx, .int .i64 ux] 36)) (by simp)).below ((Below.refl _ _).alloc (Nat.le_refl _) (.cells #[.slice none 0 0] 30)) (by simp; omega)
  replace k2 := k2.below ((Below.refl _ _).alloc (Nat.le_refl _) (.cells #[.slice none 0 0] 30)) (by simp)
  have HC := Lib.hid (eRefCheck_any ⟨kx, tx, ox, vx, ux⟩ (((w.alloc (.cells #[.slice a n c] 30)).alloc (.cells #[.string kx, .int .i64 tx, .int .u16 ox, .string vx, .int .i64 ux] 36)).alloc (.cells #[.slice none 0 0] 30)))
  dsimp only at HC
  have HW := Lib.hid (And.intro d3 (And.intro s3 (And.intro k1 (And.intro k2 k3))))
  have HH := Lib.hid h
  clear d1 d2 d3 s1 s2 s3 k1 k2 k3 hnl
  rw [hE] at HC
  unfold CPutPost
  have hPn : P ≤ n := by rw [HNL.out, ← hP]; exact placeC_le _ _
  have HPl : Hid (∀ j (hj : j < S.length), j < P → S[j].key < Ent.key ⟨kx, tx, ox, vx, ux⟩) := Lib.hid (fun j hj hjp => placeC_lt (by rw [hP]; exact hjp))
  have hc := h.2.1
  rw [← HNL.out] at hc
  have HPeq := Lib.hid hPm
  clear h hE hP hn hPm
  go_enter Try.func25, Try.ntmps25
  go_wp2_with (go_at_call 35; refine HC.out.mono ?_; rintro r w2 ⟨rfl, q2⟩; refine Hid.out ?_)
  refine Lib.hid ?_
  obtain ⟨d3, s3, k1, k2, k3⟩ := HW.out
  rw [s3] at q2
  replace k1 := k1.below q2 (by omega)
  replace k2 := k2.below q2 (by omega)
  replace k3 := k3.below q2 (by omega)
  have b2 := d3.trans (q2.mono (by omega))
  have HI := Lib.hid (And.intro k1 (And.intro k2 (And.intro k3 b2)))
  clear d3 s3 q2 HC HW k1 k2 k3 b2
  go_wp2
  go_loopw [8] (fun i wr => ∃ (k : Nat), k ≤ P ∧ i = .int .i64 (k : Int) ∧ Hid (RmBlk wr w.heap.size a n c ∧ EBlk wr (w.heap.size + 1) ⟨kx, tx, ox, vx, ux⟩ ∧ RmBlk wr (w.heap.size + 1 + 1) none 0 0 ∧ Below w.heap.size w wr)) (fun i _ => P - (intOf i).toNat)
  case atStart => exact ⟨0, Nat.zero_le _, rfl, HI⟩
  case round =>
    clear HI
    obtain ⟨k, hk, rfl, HI⟩ := hrel
    obtain ⟨k1, k2, k3, b2⟩ := HI.out
    by_cases hlt : k < P
    · have hkl : (k : Int) < (n : Int) := by omega
      have hkx : k < S.length := by have := HNL.out; omega
      obtain ⟨b, o, rfl, rr⟩ := (HH.out.1.below b2 (Nat.le_refl _)).row k hkx
      have hless : Op.bytesLess S[k].k.toList kx.toList = true := by rw [ByteArray.toList_eq, ByteArray.toList_eq, lessE]; exact decide_eq_true (HPl.out k hkx hlt)
      generalize S[k] = y at *
      clear hkx HI
      go_wp2_with fail
      refine wp_region_any (by kernel_rfl) ?_
      change wpAny _ _ _ _ _ _ _ (World.drew _)
      have hS : (fun w' : World => RmBlk w' w.heap.size (some ⟨b, o, none⟩) n c ∧ EBlk w' (w.heap.size + 1) ⟨kx, tx, ox, vx, ux⟩ ∧ RmBlk w' (w.heap.size + 1 + 1) none 0 0 ∧ RowAt w' b (o + k * 5) y ∧ Below w.heap.size w w') wr.drew := ⟨k1, k2, k3, rr, b2.drew⟩
      refine wpAny_of_held (S := fun w' => RmBlk w' w.heap.size (some ⟨b, o, none⟩) n c ∧ EBlk w' (w.heap.size + 1) ⟨kx, tx, ox, vx, ux⟩ ∧ RmBlk w' (w.heap.size + 1 + 1) none 0 0 ∧ RowAt w' b (o + k * 5) y ∧ Below w.heap.size w w') _ _ _ _ ?_
      clear k1 k2 k3 rr b2
      refine wpAnyH_takeE (i := 0) (some 18) (v := ?_) rfl rfl (by as_aux_lemma => kernel_rfl) (by as_aux_lemma => kernel_rfl) (by as_aux_lemma => kernel_rfl) (fun _ _ _ h => h) (Or.inl ⟨by kernel_rfl, ?_⟩) hS ?_
      rotate_left
      · intro w hSw; have c0 := hSw.1.c0; have e0 := hSw.2.1.c0; have e1 := hSw.2.1.c1; have e2 := hSw.2.1.c2; have e3 := hSw.2.1.c3; have e4 := hSw.2.1.c4; dsimp only at e0 e1 e2 e3 e4; obtain ⟨d0, d1, d2, d3, d4⟩ := hSw.2.2.2.1; go_simp
        first | done | with_reducible rfl
      refine wpAnyH_takeE (i := 1) (some 19) (v := ?_) rfl rfl (by as_aux_lemma => kernel_rfl) (by as_aux_lemma => kernel_rfl) (by as_aux_lemma => kernel_rfl) (fun _ _ _ h => h) (Or.inl ⟨by kernel_rfl, ?_⟩) hS ?_
      rotate_left
      · intro w hSw; have c0 := hSw.1.c0; have e0 := hSw.2.1.c0; have e1 := hSw.2.1.c1; have e2 := hSw.2.1.c2; have e3 := hSw.2.1.c3; have e4 := hSw.2.1.c4; dsimp only at e0 e1 e2 e3 e4; obtain ⟨d0, d1, d2, d3, d4⟩ := hSw.2.2.2.1; go_simp
        first | done | with_reducible rfl
      refine wpAnyH_takeE (i := 2) (some 20) (v := ?_) rfl rfl (by as_aux_lemma => kernel_rfl) (by as_aux_lemma => kernel_rfl) (by as_aux_lemma => kernel_rfl) (fun _ _ _ h => h) (Or.inl ⟨by kernel_rfl, ?_⟩) hS ?_
      rotate_left
      · intro w hSw; have c0 := hSw.1.c0; have e0 := hSw.2.1.c0; have e1 := hSw.2.1.c1; have e2 := hSw.2.1.c2; have e3 := hSw.2.1.c3; have e4 := hSw.2.1.c4; dsimp only at e0 e1 e2 e3 e4; obtain ⟨d0, d1, d2, d3, d4⟩ := hSw.2.2.2.1; go_simp
        first | done | with_reducible rfl
      refine wpAnyH_takeE (i := 3) (some 21) (v := ?_) rfl rfl (by as_aux_lemma => kernel_rfl) (by as_aux_lemma => kernel_rfl) (by as_aux_lemma => kernel_rfl) (fun _ _ _ h => h) (Or.inl ⟨by kernel_rfl, ?_⟩) hS ?_
      rotate_left
      · intro w hSw; have c0 := hSw.1.c0; have e0 := hSw.2.1.c0; have e1 := hSw.2.1.c1; have e2 := hSw.2.1.c2; have e3 := hSw.2.1.c3; have e4 := hSw.2.1.c4; dsimp only at e0 e1 e2 e3 e4; obtain ⟨d0, d1, d2, d3, d4⟩ := hSw.2.2.2.1; go_simp
        first | done | with_reducible rfl
      refine wpAnyH_takeE (i := 4) (some 22) (v := ?_) rfl rfl (by as_aux_lemma => kernel_rfl) (by as_aux_lemma => kernel_rfl) (by as_aux_lemma => kernel_rfl) (fun _ _ _ h => h) (Or.inl ⟨by kernel_rfl, ?_⟩) hS ?_
      rotate_left
      · intro w hSw; have c0 := hSw.1.c0; have e0 := hSw.2.1.c0; have e1 := hSw.2.1.c1; have e2 := hSw.2.1.c2; have e3 := hSw.2.1.c3; have e4 := hSw.2.1.c4; dsimp only at e0 e1 e2 e3 e4; obtain ⟨d0, d1, d2, d3, d4⟩ := hSw.2.2.2.1; go_simp
        first | done | with_reducible rfl
      refine wpAnyH_takeE (i := 5) (some 23) (v := ?_) rfl rfl (by as_aux_lemma => kernel_rfl) (by as_aux_lemma => kernel_rfl) (by as_aux_lemma => kernel_rfl) (fun _ _ _ h => h) (Or.inl ⟨by kernel_rfl, ?_⟩) hS ?_
      rotate_left
      · intro w hSw; have c0 := hSw.1.c0; have e0 := hSw.2.1.c0; have e1 := hSw.2.1.c1; have e2 := hSw.2.1.c2; have e3 := hSw.2.1.c3; have e4 := hSw.2.1.c4; dsimp only at e0 e1 e2 e3 e4; obtain ⟨d0, d1, d2, d3, d4⟩ := hSw.2.2.2.1; go_simp
        first | done | with_reducible rfl
      refine wpAnyH_takeE (i := 6) (some 24) (v := ?_) rfl rfl (by as_aux_lemma => kernel_rfl) (by as_aux_lemma => kernel_rfl) (by as_aux_lemma => kernel_rfl) (fun _ _ _ h => h) (Or.inl ⟨by kernel_rfl, ?_⟩) hS ?_
      rotate_left
      · intro w hSw; have c0 := hSw.1.c0; have e0 := hSw.2.1.c0; have e1 := hSw.2.1.c1; have e2 := hSw.2.1.c2; have e3 := hSw.2.1.c3; have e4 := hSw.2.1.c4; dsimp only at e0 e1 e2 e3 e4; obtain ⟨d0, d1, d2, d3, d4⟩ := hSw.2.2.2.1; go_simp
        first | done | with_reducible rfl
      refine wpAnyH_takeE (i := 7) (some 25) (v := ?_) rfl rfl (by as_aux_lemma => kernel_rfl) (by as_aux_lemma => kernel_rfl) (by as_aux_lemma => kernel_rfl) (fun _ _ _ h => h) (Or.inl ⟨by kernel_rfl, ?_⟩) hS ?_
      rotate_left
      · intro w hSw; have c0 := hSw.1.c0; have e0 := hSw.2.1.c0; have e1 := hSw.2.1.c1; have e2 := hSw.2.1.c2; have e3 := hSw.2.1.c3; have e4 := hSw.2.1.c4; dsimp only at e0 e1 e2 e3 e4; obtain ⟨d0, d1, d2, d3, d4⟩ := hSw.2.2.2.1; go_simp
        first | done | with_reducible rfl
      refine wpAnyH_takeE (i := 8) (some 26) (v := ?_) rfl rfl (by as_aux_lemma => kernel_rfl) (by as_aux_lemma => kernel_rfl) (by as_aux_lemma => kernel_rfl) (fun _ _ _ h => h) (Or.inl ⟨by kernel_rfl, ?_⟩) hS ?_
      rotate_left
      · intro w hSw; have c0 := hSw.1.c0; have e0 := hSw.2.1.c0; have e1 := hSw.2.1.c1; have e2 := hSw.2.1.c2; have e3 := hSw.2.1.c3; have e4 := hSw.2.1.c4; dsimp only at e0 e1 e2 e3 e4; obtain ⟨d0, d1, d2, d3, d4⟩ := hSw.2.2.2.1; go_simp
        first | done | with_reducible rfl
      refine wpAnyH_takeE (i := 9) (some 27) (v := ?_) rfl rfl (by as_aux_lemma => kernel_rfl) (by as_aux_lemma => kernel_rfl) (by as_aux_lemma => kernel_rfl) (fun _ _ _ h => h) (Or.inl ⟨by kernel_rfl, ?_⟩) hS ?_
      rotate_left
      · intro w hSw; have c0 := hSw.1.c0; have e0 := hSw.2.1.c0; have e1 := hSw.2.1.c1; have e2 := hSw.2.1.c2; have e3 := hSw.2.1.c3; have e4 := hSw.2.1.c4; dsimp only at e0 e1 e2 e3 e4; obtain ⟨d0, d1, d2, d3, d4⟩ := hSw.2.2.2.1; go_simp
        first | done | with_reducible rfl
      refine wpAnyH_takeE (i := 10) (some 28) (v := ?_) rfl rfl (by as_aux_lemma => kernel_rfl) (by as_aux_lemma => kernel_rfl) (by as_aux_lemma => kernel_rfl) (fun _ _ _ h => h) (Or.inl ⟨by kernel_rfl, ?_⟩) hS ?_
      rotate_left
      · intro w hSw; have c0 := hSw.1.c0; have e0 := hSw.2.1.c0; have e1 := hSw.2.1.c1; have e2 := hSw.2.1.c2; have e3 := hSw.2.1.c3; have e4 := hSw.2.1.c4; dsimp only at e0 e1 e2 e3 e4; obtain ⟨d0, d1, d2, d3, d4⟩ := hSw.2.2.2.1; go_simp
        first | done | with_reducible rfl
      refine wpAnyH_takeE (i := 11) (some 29) (v := ?_) rfl rfl (by as_aux_lemma => kernel_rfl) (by as_aux_lemma => kernel_rfl) (by as_aux_lemma => kernel_rfl) (fun _ _ _ h => h) (Or.inl ⟨by kernel_rfl, ?_⟩) hS ?_
      rotate_left
      · intro w hSw; have c0 := hSw.1.c0; have e0 := hSw.2.1.c0; have e1 := hSw.2.1.c1; have e2 := hSw.2.1.c2; have e3 := hSw.2.1.c3; have e4 := hSw.2.1.c4; dsimp only at e0 e1 e2 e3 e4; obtain ⟨d0, d1, d2, d3, d4⟩ := hSw.2.2.2.1; go_simp
        first | done | with_reducible rfl
      refine wpAnyH_takeE (i := 12) (some 30) (v := ?_) rfl rfl (by as_aux_lemma => kernel_rfl) (by as_aux_lemma => kernel_rfl) (by as_aux_lemma => kernel_rfl) (fun _ _ _ h => h) (Or.inl ⟨by kernel_rfl, ?_⟩) hS ?_
      rotate_left
      · intro w hSw; have c0 := hSw.1.c0; have e0 := hSw.2.1.c0; have e1 := hSw.2.1.c1; have e2 := hSw.2.1.c2; have e3 := hSw.2.1.c3; have e4 := hSw.2.1.c4; dsimp only at e0 e1 e2 e3 e4; obtain ⟨d0, d1, d2, d3, d4⟩ := hSw.2.2.2.1; go_simp
        first | done | with_reducible rfl
      refine wpAnyH_takeE (i := 13) (some 31) (v := ?_) rfl rfl (by as_aux_lemma => kernel_rfl) (by as_aux_lemma => kernel_rfl) (by as_aux_lemma => kernel_rfl) (fun _ _ _ h => h) (Or.inl ⟨by kernel_rfl, ?_⟩) hS ?_
      rotate_left
      · intro w hSw; have c0 := hSw.1.c0; have e0 := hSw.2.1.c0; have e1 := hSw.2.1.c1; have e2 := hSw.2.1.c2; have e3 := hSw.2.1.c3; have e4 := hSw.2.1.c4; dsimp only at e0 e1 e2 e3 e4; obtain ⟨d0, d1, d2, d3, d4⟩ := hSw.2.2.2.1; go_simp
        first | done | with_reducible rfl
      refine wpAnyH_takeE (i := 14) (some 32) (v := ?_) rfl rfl (by as_aux_lemma => kernel_rfl) (by as_aux_lemma => kernel_rfl) (by as_aux_lemma => kernel_rfl) (fun _ _ _ h => h) (Or.inl ⟨by kernel_rfl, ?_⟩) hS ?_
      rotate_left
      · intro w hSw; have c0 := hSw.1.c0; have e0 := hSw.2.1.c0; have e1 := hSw.2.1.c1; have e2 := hSw.2.1.c2; have e3 := hSw.2.1.c3; have e4 := hSw.2.1.c4; dsimp only at e0 e1 e2 e3 e4; obtain ⟨d0, d1, d2, d3, d4⟩ := hSw.2.2.2.1; go_simp
        first | done | with_reducible rfl
      refine wpAnyH_takeE (i := 15) (some 33) (v := ?_) rfl rfl (by as_aux_lemma => kernel_rfl) (by as_aux_lemma => kernel_rfl) (by as_aux_lemma => kernel_rfl) (fun _ _ _ h => h) (Or.inl ⟨by kernel_rfl, ?_⟩) hS ?_
      rotate_left
      · intro w hSw; have c0 := hSw.1.c0; have e0 := hSw.2.1.c0; have e1 := hSw.2.1.c1; have e2 := hSw.2.1.c2; have e3 := hSw.2.1.c3; have e4 := hSw.2.1.c4; dsimp only at e0 e1 e2 e3 e4; obtain ⟨d0, d1, d2, d3, d4⟩ := hSw.2.2.2.1; go_simp
        first | done | with_reducible rfl
      have HI : Hid (RmBlk wr.drew w.heap.size (some ⟨b, o, none⟩) n c ∧ EBlk wr.drew (w.heap.size + 1) ⟨kx, tx, ox, vx, ux⟩ ∧ RmBlk wr.drew (w.heap.size + 1 + 1) none 0 0 ∧ Below w.heap.size w wr.drew) := Lib.hid ⟨hS.1, hS.2.1, hS.2.2.1, hS.2.2.2.2⟩
      refine wpAnyH_done (by kernel_rfl) ?_ _
      clear hS
      go_simp
      go_wp2
      go_roundw
      case rel => exact ⟨k + 1, by omega, by go_num, HI⟩
      case measure => simp [intOf]; omega
    · obtain rfl : k = P := by omega
      have hkl : ¬ (k : Int) < (n : Int) := by have := HPeq.out; omega
      clear HI
      go_wp2_with fail
      refine wp_region_any (by kernel_rfl) ?_
      change wpAny _ _ _ _ _ _ _ (World.drew _)
      have hS : (fun w' : World => RmBlk w' w.heap.size a n c ∧ EBlk w' (w.heap.size + 1) ⟨kx, tx, ox, vx, ux⟩ ∧ RmBlk w' (w.heap.size + 1 + 1) none 0 0 ∧ Below w.heap.size w w') wr.drew := ⟨k1, k2, k3, b2.drew⟩
      refine wpAny_of_held (S := fun w' => RmBlk w' w.heap.size a n c ∧ EBlk w' (w.heap.size + 1) ⟨kx, tx, ox, vx, ux⟩ ∧ RmBlk w' (w.heap.size + 1 + 1) none 0 0 ∧ Below w.heap.size w w') _ _ _ _ ?_
      clear k1 k2 k3 b2
      refine wpAnyH_takeE (i := 0) (some 18) (v := ?_) rfl rfl (by as_aux_lemma => kernel_rfl) (by as_aux_lemma => kernel_rfl) (by as_aux_lemma => kernel_rfl) (fun _ _ _ h => h) (Or.inl ⟨by kernel_rfl, ?_⟩) hS ?_
      rotate_left
      · intro w hSw; have c0 := hSw.1.c0; have e0 := hSw.2.1.c0; have e1 := hSw.2.1.c1; have e2 := hSw.2.1.c2; have e3 := hSw.2.1.c3; have e4 := hSw.2.1.c4; dsimp only at e0 e1 e2 e3 e4; go_simp
        first | done | with_reducible rfl
      refine wpAnyH_takeE (i := 1) (some 19) (v := ?_) rfl rfl (by as_aux_lemma => kernel_rfl) (by as_aux_lemma => kernel_rfl) (by as_aux_lemma => kernel_rfl) (fun _ _ _ h => h) (Or.inl ⟨by kernel_rfl, ?_⟩) hS ?_
      rotate_left
      · intro w hSw; have c0 := hSw.1.c0; have e0 := hSw.2.1.c0; have e1 := hSw.2.1.c1; have e2 := hSw.2.1.c2; have e3 := hSw.2.1.c3; have e4 := hSw.2.1.c4; dsimp only at e0 e1 e2 e3 e4; go_simp
        first | done | with_reducible rfl
      refine wpAnyH_takeE (i := 2) (some 20) (v := ?_) rfl rfl (by as_aux_lemma => kernel_rfl) (by as_aux_lemma => kernel_rfl) (by as_aux_lemma => kernel_rfl) (fun _ _ _ h => h) (Or.inl ⟨by kernel_rfl, ?_⟩) hS ?_
      rotate_left
      · intro w hSw; have c0 := hSw.1.c0; have e0 := hSw.2.1.c0; have e1 := hSw.2.1.c1; have e2 := hSw.2.1.c2; have e3 := hSw.2.1.c3; have e4 := hSw.2.1.c4; dsimp only at e0 e1 e2 e3 e4; go_simp
        first | done | with_reducible rfl
      refine wpAnyH_takeE (i := 3) (some 21) (v := ?_) rfl rfl (by as_aux_lemma => kernel_rfl) (by as_aux_lemma => kernel_rfl) (by as_aux_lemma => kernel_rfl) (fun _ _ _ h => h) (Or.inl ⟨by kernel_rfl, ?_⟩) hS ?_
      rotate_left
      · intro w hSw; have c0 := hSw.1.c0; have e0 := hSw.2.1.c0; have e1 := hSw.2.1.c1; have e2 := hSw.2.1.c2; have e3 := hSw.2.1.c3; have e4 := hSw.2.1.c4; dsimp only at e0 e1 e2 e3 e4; go_simp
        first | done | with_reducible rfl
      refine wpAnyH_takeE (i := 4) (some 22) (v := .bool false) rfl rfl (by as_aux_lemma => kernel_rfl) (by as_aux_lemma => kernel_rfl) (by as_aux_lemma => kernel_rfl) (fun _ _ _ h => h) (Or.inl ⟨by kernel_rfl, ?_⟩) hS ?_
      · intro w hSw; have c0 := hSw.1.c0; have e0 := hSw.2.1.c0; have e1 := hSw.2.1.c1; have e2 := hSw.2.1.c2; have e3 := hSw.2.1.c3; have e4 := hSw.2.1.c4; dsimp only at e0 e1 e2 e3 e4; go_simp <;> omega
      refine wpAnyH_takeE (i := 5) (some 23) (v := .bool false) rfl rfl (by as_aux_lemma => kernel_rfl) (by as_aux_lemma => kernel_rfl) (by as_aux_lemma => kernel_rfl) (fun _ _ _ h => h) (Or.inl ⟨by kernel_rfl, ?_⟩) hS ?_
      · intro w hSw; have c0 := hSw.1.c0; have e0 := hSw.2.1.c0; have e1 := hSw.2.1.c1; have e2 := hSw.2.1.c2; have e3 := hSw.2.1.c3; have e4 := hSw.2.1.c4; dsimp only at e0 e1 e2 e3 e4; go_simp
      refine wpAnyH_takeE (i := 6) (some 24) (v := undef) rfl rfl (by as_aux_lemma => kernel_rfl) (by as_aux_lemma => kernel_rfl) (by as_aux_lemma => kernel_rfl) (fun _ _ _ h => h) (Or.inr ⟨by kernel_rfl, rfl⟩) hS ?_
      refine wpAnyH_takeE (i := 7) (some 25) (v := undef) rfl rfl (by as_aux_lemma => kernel_rfl) (by as_aux_lemma => kernel_rfl) (by as_aux_lemma => kernel_rfl) (fun _ _ _ h => h) (Or.inr ⟨by kernel_rfl, rfl⟩) hS ?_
      refine wpAnyH_takeE (i := 8) (some 26) (v := undef) rfl rfl (by as_aux_lemma => kernel_rfl) (by as_aux_lemma => kernel_rfl) (by as_aux_lemma => kernel_rfl) (fun _ _ _ h => h) (Or.inr ⟨by kernel_rfl, rfl⟩) hS ?_
      refine wpAnyH_takeE (i := 9) (some 27) (v := undef) rfl rfl (by as_aux_lemma => kernel_rfl) (by as_aux_lemma => kernel_rfl) (by as_aux_lemma => kernel_rfl) (fun _ _ _ h => h) (Or.inr ⟨by kernel_rfl, rfl⟩) hS ?_
      refine wpAnyH_takeE (i := 10) (some 28) (v := undef) rfl rfl (by as_aux_lemma => kernel_rfl) (by as_aux_lemma => kernel_rfl) (by as_aux_lemma => kernel_rfl) (fun _ _ _ h => h) (Or.inr ⟨by kernel_rfl, rfl⟩) hS ?_
      refine wpAnyH_takeE (i := 11) (some 29) (v := undef) rfl rfl (by as_aux_lemma => kernel_rfl) (by as_aux_lemma => kernel_rfl) (by as_aux_lemma => kernel_rfl) (fun _ _ _ h => h) (Or.inr ⟨by kernel_rfl, rfl⟩) hS ?_
      refine wpAnyH_takeE (i := 12) (some 30) (v := undef) rfl rfl (by as_aux_lemma => kernel_rfl) (by as_aux_lemma => kernel_rfl) (by as_aux_lemma => kernel_rfl) (fun _ _ _ h => h) (Or.inr ⟨by kernel_rfl, rfl⟩) hS ?_
      refine wpAnyH_takeE (i := 13) (some 31) (v := undef) rfl rfl (by as_aux_lemma => kernel_rfl) (by as_aux_lemma => kernel_rfl) (by as_aux_lemma => kernel_rfl) (fun _ _ _ h => h) (Or.inr ⟨by kernel_rfl, rfl⟩) hS ?_
      refine wpAnyH_takeE (i := 14) (some 32) (v := undef) rfl rfl (by as_aux_lemma => kernel_rfl) (by as_aux_lemma => kernel_rfl) (by as_aux_lemma => kernel_rfl) (fun _ _ _ h => h) (Or.inr ⟨by kernel_rfl, rfl⟩) hS ?_
      refine wpAnyH_takeE (i := 15) (some 33) (v := .bool false) rfl rfl (by as_aux_lemma => kernel_rfl) (by as_aux_lemma => kernel_rfl) (by as_aux_lemma => kernel_rfl) (fun _ _ _ h => h) (Or.inl ⟨by kernel_rfl, ?_⟩) hS ?_
      · intro w hSw; have c0 := hSw.1.c0; have e0 := hSw.2.1.c0; have e1 := hSw.2.1.c1; have e2 := hSw.2.1.c2; have e3 := hSw.2.1.c3; have e4 := hSw.2.1.c4; dsimp only at e0 e1 e2 e3 e4; go_simp
      have H5 := Lib.hid hS
      refine wpAnyH_done (by kernel_rfl) ?_ _
      clear hS
      go_simp
      go_wp2_with fail
      have h5 := H5.out
      clear H5
      refine wp_region_any (by kernel_rfl) ?_
      change wpAny _ _ _ _ _ _ _ (World.drew _)
      have hS : (fun w' : World => RmBlk w' w.heap.size a n c ∧ EBlk w' (w.heap.size + 1) ⟨kx, tx, ox, vx, ux⟩ ∧ RmBlk w' (w.heap.size + 1 + 1) none 0 0 ∧ Below w.heap.size w w') wr.drew.drew := ⟨h5.1, h5.2.1, h5.2.2.1, h5.2.2.2.drew⟩
      refine wpAny_of_held (S := fun w' => RmBlk w' w.heap.size a n c ∧ EBlk w' (w.heap.size + 1) ⟨kx, tx, ox, vx, ux⟩ ∧ RmBlk w' (w.heap.size + 1 + 1) none 0 0 ∧ Below w.heap.size w w') _ _ _ _ ?_
      clear h5
      refine wpAnyH_takeE (i := 0) (some 36) (v := ?_) rfl rfl (by as_aux_lemma => kernel_rfl) (by as_aux_lemma => kernel_rfl) (by as_aux_lemma => kernel_rfl) (fun _ _ _ h => h) (Or.inl ⟨by kernel_rfl, ?_⟩) hS ?_
      rotate_left
      · intro w hSw; have c0 := hSw.1.c0; have e0 := hSw.2.1.c0; have e1 := hSw.2.1.c1; have e2 := hSw.2.1.c2; have e3 := hSw.2.1.c3; have e4 := hSw.2.1.c4; dsimp only at e0 e1 e2 e3 e4; go_simp
        first | done | with_reducible rfl
      refine wpAnyH_takeE (i := 1) (some 37) (v := ?_) rfl rfl (by as_aux_lemma => kernel_rfl) (by as_aux_lemma => kernel_rfl) (by as_aux_lemma => kernel_rfl) (fun _ _ _ h => h) (Or.inl ⟨by kernel_rfl, ?_⟩) hS ?_
      rotate_left
      · intro w hSw; have c0 := hSw.1.c0; have e0 := hSw.2.1.c0; have e1 := hSw.2.1.c1; have e2 := hSw.2.1.c2; have e3 := hSw.2.1.c3; have e4 := hSw.2.1.c4; dsimp only at e0 e1 e2 e3 e4; go_simp
        first | done | with_reducible rfl
      refine wpAnyH_takeE (i := 2) (some 38) (v := ?_) rfl rfl (by as_aux_lemma => kernel_rfl) (by as_aux_lemma => kernel_rfl) (by as_aux_lemma => kernel_rfl) (fun _ _ _ h => h) (Or.inl ⟨by kernel_rfl, ?_⟩) hS ?_
      rotate_left
      · intro w hSw; have c0 := hSw.1.c0; have e0 := hSw.2.1.c0; have e1 := hSw.2.1.c1; have e2 := hSw.2.1.c2; have e3 := hSw.2.1.c3; have e4 := hSw.2.1.c4; dsimp only at e0 e1 e2 e3 e4; go_simp
        first | done | with_reducible rfl
      refine wpAnyH_takeE (i := 3) (some 39) (v := ?_) rfl rfl (by as_aux_lemma => kernel_rfl) (by as_aux_lemma => kernel_rfl) (by as_aux_lemma => kernel_rfl) (fun _ _ _ h => h) (Or.inl ⟨by kernel_rfl, ?_⟩) hS ?_
      rotate_left
      · intro w hSw; have c0 := hSw.1.c0; have e0 := hSw.2.1.c0; have e1 := hSw.2.1.c1; have e2 := hSw.2.1.c2; have e3 := hSw.2.1.c3; have e4 := hSw.2.1.c4; dsimp only at e0 e1 e2 e3 e4; go_simp
        first | done | with_reducible rfl
      refine wpAnyH_takeE (i := 4) (some 40) (v := .bool false) rfl rfl (by as_aux_lemma => kernel_rfl) (by as_aux_lemma => kernel_rfl) (by as_aux_lemma => kernel_rfl) (fun _ _ _ h => h) (Or.inl ⟨by kernel_rfl, ?_⟩) hS ?_
      · intro w hSw; have c0 := hSw.1.c0; have e0 := hSw.2.1.c0; have e1 := hSw.2.1.c1; have e2 := hSw.2.1.c2; have e3 := hSw.2.1.c3; have e4 := hSw.2.1.c4; dsimp only at e0 e1 e2 e3 e4; go_simp <;> omega
      refine wpAnyH_takeE (i := 5) (some 41) (v := .bool false) rfl rfl (by as_aux_lemma => kernel_rfl) (by as_aux_lemma => kernel_rfl) (by as_aux_lemma => kernel_rfl) (fun _ _ _ h => h) (Or.inl ⟨by kernel_rfl, ?_⟩) hS ?_
      · intro w hSw; have c0 := hSw.1.c0; have e0 := hSw.2.1.c0; have e1 := hSw.2.1.c1; have e2 := hSw.2.1.c2; have e3 := hSw.2.1.c3; have e4 := hSw.2.1.c4; dsimp only at e0 e1 e2 e3 e4; go_simp
      refine wpAnyH_takeE (i := 6) (some 42) (v := undef) rfl rfl (by as_aux_lemma => kernel_rfl) (by as_aux_lemma => kernel_rfl) (by as_aux_lemma => kernel_rfl) (fun _ _ _ h => h) (Or.inr ⟨by kernel_rfl, rfl⟩) hS ?_
      refine wpAnyH_takeE (i := 7) (some 43) (v := undef) rfl rfl (by as_aux_lemma => kernel_rfl) (by as_aux_lemma => kernel_rfl) (by as_aux_lemma => kernel_rfl) (fun _ _ _ h => h) (Or.inr ⟨by kernel_rfl, rfl⟩) hS ?_
      refine wpAnyH_takeE (i := 8) (some 44) (v := undef) rfl rfl (by as_aux_lemma => kernel_rfl) (by as_aux_lemma => kernel_rfl) (by as_aux_lemma => kernel_rfl) (fun _ _ _ h => h) (Or.inr ⟨by kernel_rfl, rfl⟩) hS ?_
      refine wpAnyH_takeE (i := 9) (some 45) (v := undef) rfl rfl (by as_aux_lemma => kernel_rfl) (by as_aux_lemma => kernel_rfl) (by as_aux_lemma => kernel_rfl) (fun _ _ _ h => h) (Or.inr ⟨by kernel_rfl, rfl⟩) hS ?_
      refine wpAnyH_takeE (i := 10) (some 46) (v := undef) rfl rfl (by as_aux_lemma => kernel_rfl) (by as_aux_lemma => kernel_rfl) (by as_aux_lemma => kernel_rfl) (fun _ _ _ h => h) (Or.inr ⟨by kernel_rfl, rfl⟩) hS ?_
      refine wpAnyH_takeE (i := 11) (some 47) (v := undef) rfl rfl (by as_aux_lemma => kernel_rfl) (by as_aux_lemma => kernel_rfl) (by as_aux_lemma => kernel_rfl) (fun _ _ _ h => h) (Or.inr ⟨by kernel_rfl, rfl⟩) hS ?_
      refine wpAnyH_takeE (i := 12) (some 48) (v := undef) rfl rfl (by as_aux_lemma => kernel_rfl) (by as_aux_lemma => kernel_rfl) (by as_aux_lemma => kernel_rfl) (fun _ _ _ h => h) (Or.inr ⟨by kernel_rfl, rfl⟩) hS ?_
      refine wpAnyH_takeE (i := 13) (some 49) (v := undef) rfl rfl (by as_aux_lemma => kernel_rfl) (by as_aux_lemma => kernel_rfl) (by as_aux_lemma => kernel_rfl) (fun _ _ _ h => h) (Or.inr ⟨by kernel_rfl, rfl⟩) hS ?_
      refine wpAnyH_takeE (i := 14) (some 50) (v := undef) rfl rfl (by as_aux_lemma => kernel_rfl) (by as_aux_lemma => kernel_rfl) (by as_aux_lemma => kernel_rfl) (fun _ _ _ h => h) (Or.inr ⟨by kernel_rfl, rfl⟩) hS ?_
      refine wpAnyH_takeE (i := 15) (some 51) (v := .bool false) rfl rfl (by as_aux_lemma => kernel_rfl) (by as_aux_lemma => kernel_rfl) (by as_aux_lemma => kernel_rfl) (fun _ _ _ h => h) (Or.inl ⟨by kernel_rfl, ?_⟩) hS ?_
      · intro w hSw; have c0 := hSw.1.c0; have e0 := hSw.2.1.c0; have e1 := hSw.2.1.c1; have e2 := hSw.2.1.c2; have e3 := hSw.2.1.c3; have e4 := hSw.2.1.c4; dsimp only at e0 e1 e2 e3 e4; go_simp
      refine wpAnyH_takeE (i := 16) (some 9) (v := .bool false) rfl rfl (by as_aux_lemma => kernel_rfl) (by as_aux_lemma => kernel_rfl) (by as_aux_lemma => kernel_rfl) (fun _ _ _ h => h) (Or.inl ⟨by kernel_rfl, ?_⟩) hS ?_
      · intro w hSw; have c0 := hSw.1.c0; have e0 := hSw.2.1.c0; have e1 := hSw.2.1.c1; have e2 := hSw.2.1.c2; have e3 := hSw.2.1.c3; have e4 := hSw.2.1.c4; dsimp only at e0 e1 e2 e3 e4; go_simp
      have H5 := Lib.hid hS
      refine wpAnyH_done (by kernel_rfl) ?_ _
      clear hS
      go_simp
      go_wp2_with fail
      have h5 := H5.out
      clear H5
      refine wp_region_any (by kernel_rfl) ?_
      change wpAny _ _ _ _ _ _ _ (World.drew _)
      have hS : (fun w' : World => RmBlk w' w.heap.size a n c ∧ EBlk w' (w.heap.size + 1) ⟨kx, tx, ox, vx, ux⟩ ∧ RmBlk w' (w.heap.size + 1 + 1) none 0 0 ∧ Below w.heap.size w w') wr.drew.drew.drew := ⟨h5.1, h5.2.1, h5.2.2.1, h5.2.2.2.drew⟩
      refine wpAny_of_held (S := fun w' => RmBlk w' w.heap.size a n c ∧ EBlk w' (w.heap.size + 1) ⟨kx, tx, ox, vx, ux⟩ ∧ RmBlk w' (w.heap.size + 1 + 1) none 0 0 ∧ Below w.heap.size w w') _ _ _ _ ?_
      clear h5
      refine wpAnyH_takeE (i := 0) (some 54) (v := ?_) rfl rfl (by as_aux_lemma => kernel_rfl) (by as_aux_lemma => kernel_rfl) (by as_aux_lemma => kernel_rfl) (fun _ _ _ h => h) (Or.inl ⟨by kernel_rfl, ?_⟩) hS ?_
      rotate_left
      · intro w hSw; have c0 := hSw.1.c0; have e0 := hSw.2.1.c0; have e1 := hSw.2.1.c1; have e2 := hSw.2.1.c2; have e3 := hSw.2.1.c3; have e4 := hSw.2.1.c4; dsimp only at e0 e1 e2 e3 e4; go_simp
        first | done | with_reducible rfl
      refine wpAnyH_takeE (i := 1) (some 55) (v := ?_) rfl rfl (by as_aux_lemma => kernel_rfl) (by as_aux_lemma => kernel_rfl) (by as_aux_lemma => kernel_rfl) (fun _ _ _ h => h) (Or.inl ⟨by kernel_rfl, ?_⟩) hS ?_
      rotate_left
      · intro w hSw; have c0 := hSw.1.c0; have e0 := hSw.2.1.c0; have e1 := hSw.2.1.c1; have e2 := hSw.2.1.c2; have e3 := hSw.2.1.c3; have e4 := hSw.2.1.c4; dsimp only at e0 e1 e2 e3 e4; go_simp
        first | done | with_reducible rfl
      refine wpAnyH_takeE (i := 2) (some 56) (v := undef) rfl rfl (by as_aux_lemma => kernel_rfl) (by as_aux_lemma => kernel_rfl) (by as_aux_lemma => kernel_rfl) (fun _ _ _ h => h) (Or.inr ⟨by kernel_rfl, rfl⟩) hS ?_
      refine wpAnyH_takeE (i := 3) (some 57) (v := undef) rfl rfl (by as_aux_lemma => kernel_rfl) (by as_aux_lemma => kernel_rfl) (by as_aux_lemma => kernel_rfl) (fun _ _ _ h => h) (Or.inr ⟨by kernel_rfl, rfl⟩) hS ?_
      refine wpAnyH_takeE (i := 4) (some 58) (v := undef) rfl rfl (by as_aux_lemma => kernel_rfl) (by as_aux_lemma => kernel_rfl) (by as_aux_lemma => kernel_rfl) (fun _ _ _ h => h) (Or.inr ⟨by kernel_rfl, rfl⟩) hS ?_
      refine wpAnyH_takeE (i := 5) (some 59) (v := undef) rfl rfl (by as_aux_lemma => kernel_rfl) (by as_aux_lemma => kernel_rfl) (by as_aux_lemma => kernel_rfl) (fun _ _ _ h => h) (Or.inr ⟨by kernel_rfl, rfl⟩) hS ?_
      refine wpAnyH_takeE (i := 6) (some 60) (v := undef) rfl rfl (by as_aux_lemma => kernel_rfl) (by as_aux_lemma => kernel_rfl) (by as_aux_lemma => kernel_rfl) (fun _ _ _ h => h) (Or.inr ⟨by kernel_rfl, rfl⟩) hS ?_
      refine wpAnyH_takeE (i := 7) (some 61) (v := undef) rfl rfl (by as_aux_lemma => kernel_rfl) (by as_aux_lemma => kernel_rfl) (by as_aux_lemma => kernel_rfl) (fun _ _ _ h => h) (Or.inr ⟨by kernel_rfl, rfl⟩) hS ?_
      refine wpAnyH_takeE (i := 8) (some 62) (v := undef) rfl rfl (by as_aux_lemma => kernel_rfl) (by as_aux_lemma => kernel_rfl) (by as_aux_lemma => kernel_rfl) (fun _ _ _ h => h) (Or.inr ⟨by kernel_rfl, rfl⟩) hS ?_
      refine wpAnyH_takeE (i := 9) (some 63) (v := undef) rfl rfl (by as_aux_lemma => kernel_rfl) (by as_aux_lemma => kernel_rfl) (by as_aux_lemma => kernel_rfl) (fun _ _ _ h => h) (Or.inr ⟨by kernel_rfl, rfl⟩) hS ?_
      refine wpAnyH_takeE (i := 10) (some 64) (v := ?_) rfl rfl (by as_aux_lemma => kernel_rfl) (by as_aux_lemma => kernel_rfl) (by as_aux_lemma => kernel_rfl) (fun _ _ _ h => h) (Or.inl ⟨by kernel_rfl, ?_⟩) hS ?_
      rotate_left
      · intro w hSw; have c0 := hSw.1.c0; have e0 := hSw.2.1.c0; have e1 := hSw.2.1.c1; have e2 := hSw.2.1.c2; have e3 := hSw.2.1.c3; have e4 := hSw.2.1.c4; dsimp only at e0 e1 e2 e3 e4; go_simp
        first | done | with_reducible rfl
      refine wpAnyH_takeE (i := 11) (some 53) (v := ?_) rfl rfl (by as_aux_lemma => kernel_rfl) (by as_aux_lemma => kernel_rfl) (by as_aux_lemma => kernel_rfl) (fun _ _ _ h => h) (Or.inl ⟨by kernel_rfl, ?_⟩) hS ?_
      rotate_left
      · intro w hSw; have c0 := hSw.1.c0; have e0 := hSw.2.1.c0; have e1 := hSw.2.1.c1; have e2 := hSw.2.1.c2; have e3 := hSw.2.1.c3; have e4 := hSw.2.1.c4; dsimp only at e0 e1 e2 e3 e4; go_simp
        first | done | with_reducible rfl
      have H5 := Lib.hid hS
      refine wpAnyH_done (by kernel_rfl) ?_ _
      clear hS
      go_simp
      have h5 := H5.out
      clear H5
      have k1 : RmBlk (wr.drew.drew.drew) w.heap.size a n c := h5.1
      have k2 : EBlk (wr.drew.drew.drew) (w.heap.size + 1) ⟨kx, tx, ox, vx, ux⟩ := h5.2.1
      have k3 : RmBlk (wr.drew.drew.drew) (w.heap.size + 1 + 1) none 0 0 := h5.2.2.1
      have b7 : Below w.heap.size w (wr.drew.drew.drew) := h5.2.2.2
      clear h5
      generalize wr.drew.drew.drew = w9 at *
      have h256 : (256 : Int) ≤ (n : Int) := by have := HNL.out; omega
      have c0 := k1.c0
      have c3 := k3.c0; have f3 := k3.f 0
      have r0 := (k3.set (a' := a) (n' := n) (c' := c)).c0
      have b3 := b7.setCell (p := ⟨w.heap.size + 1 + 1, 0, none⟩) (by show w.heap.size ≤ w.heap.size + 1 + 1; omega) (.slice a n c)
      have HF := Lib.hid (And.intro (HH.out.below b3 (Nat.le_refl _)) b3)
      clear k1 k2 k3 b3 b7
      go_wp2
      exact bodyPost_ret (v := .tuple #[.agg #[.slice a n c], .bool false, .int .i64 11]) (by simp [results, Try.results25, go_sem, r0]) rfl ⟨a, c, by rw [HQ.out.1, HQ.out.2.1, HQ.out.2.2, HNL.out], by rw [HQ.out.1]; exact HF.out.1, HF.out.2⟩

set_option maxRecDepth 100000 in
set_option maxHeartbeats 8000000 in
theorem crPut_full1 (a : Option Addr) (c : Nat) (S : List Ent) (kx : ByteArray) (tx ox : Int) (vx : ByteArray) (ux : Int) (w : World) (h : RefM w a c S) (hn : S.length ≤ 256) (n : Nat) (hnl : n = S.length) (hE : checkEn ⟨kx, tx, ox, vx, ux⟩ = 0) (P : Nat) (hP : placeC S (Ent.key ⟨kx, tx, ox, vx, ux⟩) = P) (hPm : P < n) (hYY : ∀ hl : P < S.length, (S[P].k.toList == kx.toList) = false) (hgot : gotC S (Ent.key ⟨kx, tx, ox, vx, ux⟩) = none) (h256 : 256 ≤ S.length) : Calls Try.prog 25 #[.agg #[.slice a n c], .agg #[.string kx, .int .i64 tx, .int .u16 ox, .string vx, .int .i64 ux]] w (CPutPost w S ⟨kx, tx, ox, vx, ux⟩) := by
  have q2 : cputE S ⟨kx, tx, ox, vx, ux⟩ = 11 := by unfold cputE; rw [if_neg (by simp [hE]), if_pos (by rw [hgot]; exact ⟨rfl, by omega⟩)]
  have q1 : cputB S ⟨kx, tx, ox, vx, ux⟩ = false := by unfold cputB; rw [q2]; rfl
  have q0 : cputS S ⟨kx, tx, ox, vx, ux⟩ = S := by unfold cputS; rw [q1]; rfl
  have HQ := Lib.hid (And.intro q0 (And.intro q1 q2))
  clear q0 q1 q2 hgot
  have HNL := Lib.hid hnl
  have hn2 : n ≤ 256 := by omega
  have d1 := (Below.refl w.heap.size w).alloc (Nat.le_refl _) (.cells #[.slice a n c] 30)
  have d2 := d1.alloc (by simp) (.cells #[.string kx, .int .i64 tx, .int .u16 ox, .string vx, .int .i64 ux] 36)
  have d3 := d2.alloc (by simp; omega) (.cells #[.slice none 0 0] 30)
  have s1 : (w.alloc (.cells #[.slice a n c] 30)).heap.size = w.heap.size + 1 := by simp
  have s2 : ((w.alloc (.cells #[.slice a n c] 30)).alloc (.cells #[.string kx, .int .i64 tx, .int .u16 ox, .string vx, .int .i64 ux] 36)).heap.size = w.heap.size + 1 + 1 := by simp
  have s3 : (((w.alloc (.cells #[.slice a n c] 30)).alloc (.cells #[.string kx, .int .i64 tx, .int .u16 ox, .string vx, .int .i64 ux] 36)).alloc (.cells #[.slice none 0 0] 30)).heap.size = w.heap.size + 1 + 1 + 1 := by simp
  have k1 := RmBlk.new w a n c
  have k2 := EBlk.new (w.alloc (.cells #[.slice a n c] 30)) ⟨kx, tx, ox, vx, ux⟩
  have k3 := RmBlk.new ((w.alloc (.cells #[.slice a n c] 30)).alloc (.cells #[.string kx, .int .i64 tx, .int .u16 ox, .string vx, .int .i64 ux] 36)) none 0 0
  rw [s1] at k2
  rw [s2] at k3
  replace k1 := (k1.below ((Below.refl _ _).alloc (Nat.le_refl _) (.cells #[.string kx, .int .i64 tx, .int .u16 ox, .string vx, .int .i64 ux] 36)) (by simp)).below ((Below.refl _ _).alloc (Nat.le_refl _) (.cells #[.slice none 0 0] 30)) (by simp; omega)
  replace k2 := k2.below ((Below.refl _ _).alloc (Nat.le_refl _) (.cells #[.slice none 0 0] 30)) (by simp)
  have HC := Lib.hid (eRefCheck_any ⟨kx, tx, ox, vx, ux⟩ (((w.alloc (.cells #[.slice a n c] 30)).alloc (.cells #[.string kx, .int .i64 tx, .int .u16 ox, .string vx, .int .i64 ux] 36)).alloc (.cells #[.slice none 0 0] 30)))
  dsimp only at HC
  have HW := Lib.hid (And.intro d3 (And.intro s3 (And.intro k1 (And.intro k2 k3))))
  have HH := Lib.hid h
  clear d1 d2 d3 s1 s2 s3 k1 k2 k3 hnl
  rw [hE] at HC
  unfold CPutPost
  have hPn : P ≤ n := by rw [HNL.out, ← hP]; exact placeC_le _ _
  have HPl : Hid (∀ j (hj : j < S.length), j < P → S[j].key < Ent.key ⟨kx, tx, ox, vx, ux⟩) := Lib.hid (fun j hj hjp => placeC_lt (by rw [hP]; exact hjp))
  have hc := h.2.1
  rw [← HNL.out] at hc
  have hPlt : P < n := hPm
  have HNo := Lib.hid (placeC_stop (S := S) (k := Ent.key ⟨kx, tx, ox, vx, ux⟩) hP)
  clear h hE hP hn hPm
  go_enter Try.func25, Try.ntmps25
  go_wp2_with (go_at_call 35; refine HC.out.mono ?_; rintro r w2 ⟨rfl, q2⟩; refine Hid.out ?_)
  refine Lib.hid ?_
  obtain ⟨d3, s3, k1, k2, k3⟩ := HW.out
  rw [s3] at q2
  replace k1 := k1.below q2 (by omega)
  replace k2 := k2.below q2 (by omega)
  replace k3 := k3.below q2 (by omega)
  have b2 := d3.trans (q2.mono (by omega))
  have HI := Lib.hid (And.intro k1 (And.intro k2 (And.intro k3 b2)))
  clear d3 s3 q2 HC HW k1 k2 k3 b2
  go_wp2
  go_loopw [8] (fun i wr => ∃ (k : Nat), k ≤ P ∧ i = .int .i64 (k : Int) ∧ Hid (RmBlk wr w.heap.size a n c ∧ EBlk wr (w.heap.size + 1) ⟨kx, tx, ox, vx, ux⟩ ∧ RmBlk wr (w.heap.size + 1 + 1) none 0 0 ∧ Below w.heap.size w wr)) (fun i _ => P - (intOf i).toNat)
  case atStart => exact ⟨0, Nat.zero_le _, rfl, HI⟩
  case round =>
    clear HI
    obtain ⟨k, hk, rfl, HI⟩ := hrel
    obtain ⟨k1, k2, k3, b2⟩ := HI.out
    by_cases hlt : k < P
    · have hkl : (k : Int) < (n : Int) := by omega
      have hkx : k < S.length := by have := HNL.out; omega
      obtain ⟨b, o, rfl, rr⟩ := (HH.out.1.below b2 (Nat.le_refl _)).row k hkx
      have hless : Op.bytesLess S[k].k.toList kx.toList = true := by rw [ByteArray.toList_eq, ByteArray.toList_eq, lessE]; exact decide_eq_true (HPl.out k hkx hlt)
      generalize S[k] = y at *
      clear hkx HI
      go_wp2_with fail
      refine wp_region_any (by kernel_rfl) ?_
      change wpAny _ _ _ _ _ _ _ (World.drew _)
      have hS : (fun w' : World => RmBlk w' w.heap.size (some ⟨b, o, none⟩) n c ∧ EBlk w' (w.heap.size + 1) ⟨kx, tx, ox, vx, ux⟩ ∧ RmBlk w' (w.heap.size + 1 + 1) none 0 0 ∧ RowAt w' b (o + k * 5) y ∧ Below w.heap.size w w') wr.drew := ⟨k1, k2, k3, rr, b2.drew⟩
      refine wpAny_of_held (S := fun w' => RmBlk w' w.heap.size (some ⟨b, o, none⟩) n c ∧ EBlk w' (w.heap.size + 1) ⟨kx, tx, ox, vx, ux⟩ ∧ RmBlk w' (w.heap.size + 1 + 1) none 0 0 ∧ RowAt w' b (o + k * 5) y ∧ Below w.heap.size w w') _ _ _ _ ?_
      clear k1 k2 k3 rr b2
      refine wpAnyH_takeE (i := 0) (some 18) (v := ?_) rfl rfl (by as_aux_lemma => kernel_rfl) (by as_aux_lemma => kernel_rfl) (by as_aux_lemma => kernel_rfl) (fun _ _ _ h => h) (Or.inl ⟨by kernel_rfl, ?_⟩) hS ?_
      rotate_left
      · intro w hSw; have c0 := hSw.1.c0; have e0 := hSw.2.1.c0; have e1 := hSw.2.1.c1; have e2 := hSw.2.1.c2; have e3 := hSw.2.1.c3; have e4 := hSw.2.1.c4; dsimp only at e0 e1 e2 e3 e4; obtain ⟨d0, d1, d2, d3, d4⟩ := hSw.2.2.2.1; go_simp
        first | done | with_reducible rfl
      refine wpAnyH_takeE (i := 1) (some 19) (v := ?_) rfl rfl (by as_aux_lemma => kernel_rfl) (by as_aux_lemma => kernel_rfl) (by as_aux_lemma => kernel_rfl) (fun _ _ _ h => h) (Or.inl ⟨by kernel_rfl, ?_⟩) hS ?_
      rotate_left
      · intro w hSw; have c0 := hSw.1.c0; have e0 := hSw.2.1.c0; have e1 := hSw.2.1.c1; have e2 := hSw.2.1.c2; have e3 := hSw.2.1.c3; have e4 := hSw.2.1.c4; dsimp only at e0 e1 e2 e3 e4; obtain ⟨d0, d1, d2, d3, d4⟩ := hSw.2.2.2.1; go_simp
        first | done | with_reducible rfl
      refine wpAnyH_takeE (i := 2) (some 20) (v := ?_) rfl rfl (by as_aux_lemma => kernel_rfl) (by as_aux_lemma => kernel_rfl) (by as_aux_lemma => kernel_rfl) (fun _ _ _ h => h) (Or.inl ⟨by kernel_rfl, ?_⟩) hS ?_
      rotate_left
      · intro w hSw; have c0 := hSw.1.c0; have e0 := hSw.2.1.c0; have e1 := hSw.2.1.c1; have e2 := hSw.2.1.c2; have e3 := hSw.2.1.c3; have e4 := hSw.2.1.c4; dsimp only at e0 e1 e2 e3 e4; obtain ⟨d0, d1, d2, d3, d4⟩ := hSw.2.2.2.1; go_simp
        first | done | with_reducible rfl
      refine wpAnyH_takeE (i := 3) (some 21) (v := ?_) rfl rfl (by as_aux_lemma => kernel_rfl) (by as_aux_lemma => kernel_rfl) (by as_aux_lemma => kernel_rfl) (fun _ _ _ h => h) (Or.inl ⟨by kernel_rfl, ?_⟩) hS ?_
      rotate_left
      · intro w hSw; have c0 := hSw.1.c0; have e0 := hSw.2.1.c0; have e1 := hSw.2.1.c1; have e2 := hSw.2.1.c2; have e3 := hSw.2.1.c3; have e4 := hSw.2.1.c4; dsimp only at e0 e1 e2 e3 e4; obtain ⟨d0, d1, d2, d3, d4⟩ := hSw.2.2.2.1; go_simp
        first | done | with_reducible rfl
      refine wpAnyH_takeE (i := 4) (some 22) (v := ?_) rfl rfl (by as_aux_lemma => kernel_rfl) (by as_aux_lemma => kernel_rfl) (by as_aux_lemma => kernel_rfl) (fun _ _ _ h => h) (Or.inl ⟨by kernel_rfl, ?_⟩) hS ?_
      rotate_left
      · intro w hSw; have c0 := hSw.1.c0; have e0 := hSw.2.1.c0; have e1 := hSw.2.1.c1; have e2 := hSw.2.1.c2; have e3 := hSw.2.1.c3; have e4 := hSw.2.1.c4; dsimp only at e0 e1 e2 e3 e4; obtain ⟨d0, d1, d2, d3, d4⟩ := hSw.2.2.2.1; go_simp
        first | done | with_reducible rfl
      refine wpAnyH_takeE (i := 5) (some 23) (v := ?_) rfl rfl (by as_aux_lemma => kernel_rfl) (by as_aux_lemma => kernel_rfl) (by as_aux_lemma => kernel_rfl) (fun _ _ _ h => h) (Or.inl ⟨by kernel_rfl, ?_⟩) hS ?_
      rotate_left
      · intro w hSw; have c0 := hSw.1.c0; have e0 := hSw.2.1.c0; have e1 := hSw.2.1.c1; have e2 := hSw.2.1.c2; have e3 := hSw.2.1.c3; have e4 := hSw.2.1.c4; dsimp only at e0 e1 e2 e3 e4; obtain ⟨d0, d1, d2, d3, d4⟩ := hSw.2.2.2.1; go_simp
        first | done | with_reducible rfl
      refine wpAnyH_takeE (i := 6) (some 24) (v := ?_) rfl rfl (by as_aux_lemma => kernel_rfl) (by as_aux_lemma => kernel_rfl) (by as_aux_lemma => kernel_rfl) (fun _ _ _ h => h) (Or.inl ⟨by kernel_rfl, ?_⟩) hS ?_
      rotate_left
      · intro w hSw; have c0 := hSw.1.c0; have e0 := hSw.2.1.c0; have e1 := hSw.2.1.c1; have e2 := hSw.2.1.c2; have e3 := hSw.2.1.c3; have e4 := hSw.2.1.c4; dsimp only at e0 e1 e2 e3 e4; obtain ⟨d0, d1, d2, d3, d4⟩ := hSw.2.2.2.1; go_simp
        first | done | with_reducible rfl
      refine wpAnyH_takeE (i := 7) (some 25) (v := ?_) rfl rfl (by as_aux_lemma => kernel_rfl) (by as_aux_lemma => kernel_rfl) (by as_aux_lemma => kernel_rfl) (fun _ _ _ h => h) (Or.inl ⟨by kernel_rfl, ?_⟩) hS ?_
      rotate_left
      · intro w hSw; have c0 := hSw.1.c0; have e0 := hSw.2.1.c0; have e1 := hSw.2.1.c1; have e2 := hSw.2.1.c2; have e3 := hSw.2.1.c3; have e4 := hSw.2.1.c4; dsimp only at e0 e1 e2 e3 e4; obtain ⟨d0, d1, d2, d3, d4⟩ := hSw.2.2.2.1; go_simp
        first | done | with_reducible rfl
      refine wpAnyH_takeE (i := 8) (some 26) (v := ?_) rfl rfl (by as_aux_lemma => kernel_rfl) (by as_aux_lemma => kernel_rfl) (by as_aux_lemma => kernel_rfl) (fun _ _ _ h => h) (Or.inl ⟨by kernel_rfl, ?_⟩) hS ?_
      rotate_left
      · intro w hSw; have c0 := hSw.1.c0; have e0 := hSw.2.1.c0; have e1 := hSw.2.1.c1; have e2 := hSw.2.1.c2; have e3 := hSw.2.1.c3; have e4 := hSw.2.1.c4; dsimp only at e0 e1 e2 e3 e4; obtain ⟨d0, d1, d2, d3, d4⟩ := hSw.2.2.2.1; go_simp
        first | done | with_reducible rfl
      refine wpAnyH_takeE (i := 9) (some 27) (v := ?_) rfl rfl (by as_aux_lemma => kernel_rfl) (by as_aux_lemma => kernel_rfl) (by as_aux_lemma => kernel_rfl) (fun _ _ _ h => h) (Or.inl ⟨by kernel_rfl, ?_⟩) hS ?_
      rotate_left
      · intro w hSw; have c0 := hSw.1.c0; have e0 := hSw.2.1.c0; have e1 := hSw.2.1.c1; have e2 := hSw.2.1.c2; have e3 := hSw.2.1.c3; have e4 := hSw.2.1.c4; dsimp only at e0 e1 e2 e3 e4; obtain ⟨d0, d1, d2, d3, d4⟩ := hSw.2.2.2.1; go_simp
        first | done | with_reducible rfl
      refine wpAnyH_takeE (i := 10) (some 28) (v := ?_) rfl rfl (by as_aux_lemma => kernel_rfl) (by as_aux_lemma => kernel_rfl) (by as_aux_lemma => kernel_rfl) (fun _ _ _ h => h) (Or.inl ⟨by kernel_rfl, ?_⟩) hS ?_
      rotate_left
      · intro w hSw; have c0 := hSw.1.c0; have e0 := hSw.2.1.c0; have e1 := hSw.2.1.c1; have e2 := hSw.2.1.c2; have e3 := hSw.2.1.c3; have e4 := hSw.2.1.c4; dsimp only at e0 e1 e2 e3 e4; obtain ⟨d0, d1, d2, d3, d4⟩ := hSw.2.2.2.1; go_simp
        first | done | with_reducible rfl
      refine wpAnyH_takeE (i := 11) (some 29) (v := ?_) rfl rfl (by as_aux_lemma => kernel_rfl) (by as_aux_lemma => kernel_rfl) (by as_aux_lemma => kernel_rfl) (fun _ _ _ h => h) (Or.inl ⟨by kernel_rfl, ?_⟩) hS ?_
      rotate_left
      · intro w hSw; have c0 := hSw.1.c0; have e0 := hSw.2.1.c0; have e1 := hSw.2.1.c1; have e2 := hSw.2.1.c2; have e3 := hSw.2.1.c3; have e4 := hSw.2.1.c4; dsimp only at e0 e1 e2 e3 e4; obtain ⟨d0, d1, d2, d3, d4⟩ := hSw.2.2.2.1; go_simp
        first | done | with_reducible rfl
      refine wpAnyH_takeE (i := 12) (some 30) (v := ?_) rfl rfl (by as_aux_lemma => kernel_rfl) (by as_aux_lemma => kernel_rfl) (by as_aux_lemma => kernel_rfl) (fun _ _ _ h => h) (Or.inl ⟨by kernel_rfl, ?_⟩) hS ?_
      rotate_left
      · intro w hSw; have c0 := hSw.1.c0; have e0 := hSw.2.1.c0; have e1 := hSw.2.1.c1; have e2 := hSw.2.1.c2; have e3 := hSw.2.1.c3; have e4 := hSw.2.1.c4; dsimp only at e0 e1 e2 e3 e4; obtain ⟨d0, d1, d2, d3, d4⟩ := hSw.2.2.2.1; go_simp
        first | done | with_reducible rfl
      refine wpAnyH_takeE (i := 13) (some 31) (v := ?_) rfl rfl (by as_aux_lemma => kernel_rfl) (by as_aux_lemma => kernel_rfl) (by as_aux_lemma => kernel_rfl) (fun _ _ _ h => h) (Or.inl ⟨by kernel_rfl, ?_⟩) hS ?_
      rotate_left
      · intro w hSw; have c0 := hSw.1.c0; have e0 := hSw.2.1.c0; have e1 := hSw.2.1.c1; have e2 := hSw.2.1.c2; have e3 := hSw.2.1.c3; have e4 := hSw.2.1.c4; dsimp only at e0 e1 e2 e3 e4; obtain ⟨d0, d1, d2, d3, d4⟩ := hSw.2.2.2.1; go_simp
        first | done | with_reducible rfl
      refine wpAnyH_takeE (i := 14) (some 32) (v := ?_) rfl rfl (by as_aux_lemma => kernel_rfl) (by as_aux_lemma => kernel_rfl) (by as_aux_lemma => kernel_rfl) (fun _ _ _ h => h) (Or.inl ⟨by kernel_rfl, ?_⟩) hS ?_
      rotate_left
      · intro w hSw; have c0 := hSw.1.c0; have e0 := hSw.2.1.c0; have e1 := hSw.2.1.c1; have e2 := hSw.2.1.c2; have e3 := hSw.2.1.c3; have e4 := hSw.2.1.c4; dsimp only at e0 e1 e2 e3 e4; obtain ⟨d0, d1, d2, d3, d4⟩ := hSw.2.2.2.1; go_simp
        first | done | with_reducible rfl
      refine wpAnyH_takeE (i := 15) (some 33) (v := ?_) rfl rfl (by as_aux_lemma => kernel_rfl) (by as_aux_lemma => kernel_rfl) (by as_aux_lemma => kernel_rfl) (fun _ _ _ h => h) (Or.inl ⟨by kernel_rfl, ?_⟩) hS ?_
      rotate_left
      · intro w hSw; have c0 := hSw.1.c0; have e0 := hSw.2.1.c0; have e1 := hSw.2.1.c1; have e2 := hSw.2.1.c2; have e3 := hSw.2.1.c3; have e4 := hSw.2.1.c4; dsimp only at e0 e1 e2 e3 e4; obtain ⟨d0, d1, d2, d3, d4⟩ := hSw.2.2.2.1; go_simp
        first | done | with_reducible rfl
      have HI : Hid (RmBlk wr.drew w.heap.size (some ⟨b, o, none⟩) n c ∧ EBlk wr.drew (w.heap.size + 1) ⟨kx, tx, ox, vx, ux⟩ ∧ RmBlk wr.drew (w.heap.size + 1 + 1) none 0 0 ∧ Below w.heap.size w wr.drew) := Lib.hid ⟨hS.1, hS.2.1, hS.2.2.1, hS.2.2.2.2⟩
      refine wpAnyH_done (by kernel_rfl) ?_ _
      clear hS
      go_simp
      go_wp2
      go_roundw
      case rel => exact ⟨k + 1, by omega, by go_num, HI⟩
      case measure => simp [intOf]; omega
    · obtain rfl : k = P := by omega
      have hkl : (k : Int) < (n : Int) := by omega
      have hkx : k < S.length := by have := HNL.out; omega
      obtain ⟨b, o, rfl, rr⟩ := (HH.out.1.below b2 (Nat.le_refl _)).row k hkx
      have hless : Op.bytesLess S[k].k.toList kx.toList = false := by rw [ByteArray.toList_eq, ByteArray.toList_eq, lessE]; exact decide_eq_false (HNo.out hkx)
      have HY := Lib.hid (hYY hkx)
      clear hYY
      generalize S[k] = y at *
      clear hkx HI HNo
      obtain ⟨ky, ty, oy, vy, uy⟩ := y
      have hYe := HY.out
      dsimp only at hYe hless
      go_wp2_with fail
      refine wp_region_any (by kernel_rfl) ?_
      change wpAny _ _ _ _ _ _ _ (World.drew _)
      have hS : (fun w' : World => RmBlk w' w.heap.size (some ⟨b, o, none⟩) n c ∧ EBlk w' (w.heap.size + 1) ⟨kx, tx, ox, vx, ux⟩ ∧ RmBlk w' (w.heap.size + 1 + 1) none 0 0 ∧ RowAt w' b (o + k * 5) ⟨ky, ty, oy, vy, uy⟩ ∧ Below w.heap.size w w') wr.drew := ⟨k1, k2, k3, rr, b2.drew⟩
      refine wpAny_of_held (S := fun w' => RmBlk w' w.heap.size (some ⟨b, o, none⟩) n c ∧ EBlk w' (w.heap.size + 1) ⟨kx, tx, ox, vx, ux⟩ ∧ RmBlk w' (w.heap.size + 1 + 1) none 0 0 ∧ RowAt w' b (o + k * 5) ⟨ky, ty, oy, vy, uy⟩ ∧ Below w.heap.size w w') _ _ _ _ ?_
      clear k1 k2 k3 rr b2
      refine wpAnyH_takeE (i := 0) (some 18) (v := ?_) rfl rfl (by as_aux_lemma => kernel_rfl) (by as_aux_lemma => kernel_rfl) (by as_aux_lemma => kernel_rfl) (fun _ _ _ h => h) (Or.inl ⟨by kernel_rfl, ?_⟩) hS ?_
      rotate_left
      · intro w hSw; have c0 := hSw.1.c0; have e0 := hSw.2.1.c0; have e1 := hSw.2.1.c1; have e2 := hSw.2.1.c2; have e3 := hSw.2.1.c3; have e4 := hSw.2.1.c4; dsimp only at e0 e1 e2 e3 e4; obtain ⟨d0, d1, d2, d3, d4⟩ := hSw.2.2.2.1; dsimp only at d0 d1 d2 d3 d4; go_simp
        first | done | with_reducible rfl
      refine wpAnyH_takeE (i := 1) (some 19) (v := ?_) rfl rfl (by as_aux_lemma => kernel_rfl) (by as_aux_lemma => kernel_rfl) (by as_aux_lemma => kernel_rfl) (fun _ _ _ h => h) (Or.inl ⟨by kernel_rfl, ?_⟩) hS ?_
      rotate_left
      · intro w hSw; have c0 := hSw.1.c0; have e0 := hSw.2.1.c0; have e1 := hSw.2.1.c1; have e2 := hSw.2.1.c2; have e3 := hSw.2.1.c3; have e4 := hSw.2.1.c4; dsimp only at e0 e1 e2 e3 e4; obtain ⟨d0, d1, d2, d3, d4⟩ := hSw.2.2.2.1; dsimp only at d0 d1 d2 d3 d4; go_simp
        first | done | with_reducible rfl
      refine wpAnyH_takeE (i := 2) (some 20) (v := ?_) rfl rfl (by as_aux_lemma => kernel_rfl) (by as_aux_lemma => kernel_rfl) (by as_aux_lemma => kernel_rfl) (fun _ _ _ h => h) (Or.inl ⟨by kernel_rfl, ?_⟩) hS ?_
      rotate_left
      · intro w hSw; have c0 := hSw.1.c0; have e0 := hSw.2.1.c0; have e1 := hSw.2.1.c1; have e2 := hSw.2.1.c2; have e3 := hSw.2.1.c3; have e4 := hSw.2.1.c4; dsimp only at e0 e1 e2 e3 e4; obtain ⟨d0, d1, d2, d3, d4⟩ := hSw.2.2.2.1; dsimp only at d0 d1 d2 d3 d4; go_simp
        first | done | with_reducible rfl
      refine wpAnyH_takeE (i := 3) (some 21) (v := ?_) rfl rfl (by as_aux_lemma => kernel_rfl) (by as_aux_lemma => kernel_rfl) (by as_aux_lemma => kernel_rfl) (fun _ _ _ h => h) (Or.inl ⟨by kernel_rfl, ?_⟩) hS ?_
      rotate_left
      · intro w hSw; have c0 := hSw.1.c0; have e0 := hSw.2.1.c0; have e1 := hSw.2.1.c1; have e2 := hSw.2.1.c2; have e3 := hSw.2.1.c3; have e4 := hSw.2.1.c4; dsimp only at e0 e1 e2 e3 e4; obtain ⟨d0, d1, d2, d3, d4⟩ := hSw.2.2.2.1; dsimp only at d0 d1 d2 d3 d4; go_simp
        first | done | with_reducible rfl
      refine wpAnyH_takeE (i := 4) (some 22) (v := ?_) rfl rfl (by as_aux_lemma => kernel_rfl) (by as_aux_lemma => kernel_rfl) (by as_aux_lemma => kernel_rfl) (fun _ _ _ h => h) (Or.inl ⟨by kernel_rfl, ?_⟩) hS ?_
      rotate_left
      · intro w hSw; have c0 := hSw.1.c0; have e0 := hSw.2.1.c0; have e1 := hSw.2.1.c1; have e2 := hSw.2.1.c2; have e3 := hSw.2.1.c3; have e4 := hSw.2.1.c4; dsimp only at e0 e1 e2 e3 e4; obtain ⟨d0, d1, d2, d3, d4⟩ := hSw.2.2.2.1; dsimp only at d0 d1 d2 d3 d4; go_simp
        first | done | with_reducible rfl
      refine wpAnyH_takeE (i := 5) (some 23) (v := ?_) rfl rfl (by as_aux_lemma => kernel_rfl) (by as_aux_lemma => kernel_rfl) (by as_aux_lemma => kernel_rfl) (fun _ _ _ h => h) (Or.inl ⟨by kernel_rfl, ?_⟩) hS ?_
      rotate_left
      · intro w hSw; have c0 := hSw.1.c0; have e0 := hSw.2.1.c0; have e1 := hSw.2.1.c1; have e2 := hSw.2.1.c2; have e3 := hSw.2.1.c3; have e4 := hSw.2.1.c4; dsimp only at e0 e1 e2 e3 e4; obtain ⟨d0, d1, d2, d3, d4⟩ := hSw.2.2.2.1; dsimp only at d0 d1 d2 d3 d4; go_simp
        first | done | with_reducible rfl
      refine wpAnyH_takeE (i := 6) (some 24) (v := ?_) rfl rfl (by as_aux_lemma => kernel_rfl) (by as_aux_lemma => kernel_rfl) (by as_aux_lemma => kernel_rfl) (fun _ _ _ h => h) (Or.inl ⟨by kernel_rfl, ?_⟩) hS ?_
      rotate_left
      · intro w hSw; have c0 := hSw.1.c0; have e0 := hSw.2.1.c0; have e1 := hSw.2.1.c1; have e2 := hSw.2.1.c2; have e3 := hSw.2.1.c3; have e4 := hSw.2.1.c4; dsimp only at e0 e1 e2 e3 e4; obtain ⟨d0, d1, d2, d3, d4⟩ := hSw.2.2.2.1; dsimp only at d0 d1 d2 d3 d4; go_simp
        first | done | with_reducible rfl
      refine wpAnyH_takeE (i := 7) (some 25) (v := ?_) rfl rfl (by as_aux_lemma => kernel_rfl) (by as_aux_lemma => kernel_rfl) (by as_aux_lemma => kernel_rfl) (fun _ _ _ h => h) (Or.inl ⟨by kernel_rfl, ?_⟩) hS ?_
      rotate_left
      · intro w hSw; have c0 := hSw.1.c0; have e0 := hSw.2.1.c0; have e1 := hSw.2.1.c1; have e2 := hSw.2.1.c2; have e3 := hSw.2.1.c3; have e4 := hSw.2.1.c4; dsimp only at e0 e1 e2 e3 e4; obtain ⟨d0, d1, d2, d3, d4⟩ := hSw.2.2.2.1; dsimp only at d0 d1 d2 d3 d4; go_simp
        first | done | with_reducible rfl
      refine wpAnyH_takeE (i := 8) (some 26) (v := ?_) rfl rfl (by as_aux_lemma => kernel_rfl) (by as_aux_lemma => kernel_rfl) (by as_aux_lemma => kernel_rfl) (fun _ _ _ h => h) (Or.inl ⟨by kernel_rfl, ?_⟩) hS ?_
      rotate_left
      · intro w hSw; have c0 := hSw.1.c0; have e0 := hSw.2.1.c0; have e1 := hSw.2.1.c1; have e2 := hSw.2.1.c2; have e3 := hSw.2.1.c3; have e4 := hSw.2.1.c4; dsimp only at e0 e1 e2 e3 e4; obtain ⟨d0, d1, d2, d3, d4⟩ := hSw.2.2.2.1; dsimp only at d0 d1 d2 d3 d4; go_simp
        first | done | with_reducible rfl
      refine wpAnyH_takeE (i := 9) (some 27) (v := ?_) rfl rfl (by as_aux_lemma => kernel_rfl) (by as_aux_lemma => kernel_rfl) (by as_aux_lemma => kernel_rfl) (fun _ _ _ h => h) (Or.inl ⟨by kernel_rfl, ?_⟩) hS ?_
      rotate_left
      · intro w hSw; have c0 := hSw.1.c0; have e0 := hSw.2.1.c0; have e1 := hSw.2.1.c1; have e2 := hSw.2.1.c2; have e3 := hSw.2.1.c3; have e4 := hSw.2.1.c4; dsimp only at e0 e1 e2 e3 e4; obtain ⟨d0, d1, d2, d3, d4⟩ := hSw.2.2.2.1; dsimp only at d0 d1 d2 d3 d4; go_simp
        first | done | with_reducible rfl
      refine wpAnyH_takeE (i := 10) (some 28) (v := ?_) rfl rfl (by as_aux_lemma => kernel_rfl) (by as_aux_lemma => kernel_rfl) (by as_aux_lemma => kernel_rfl) (fun _ _ _ h => h) (Or.inl ⟨by kernel_rfl, ?_⟩) hS ?_
      rotate_left
      · intro w hSw; have c0 := hSw.1.c0; have e0 := hSw.2.1.c0; have e1 := hSw.2.1.c1; have e2 := hSw.2.1.c2; have e3 := hSw.2.1.c3; have e4 := hSw.2.1.c4; dsimp only at e0 e1 e2 e3 e4; obtain ⟨d0, d1, d2, d3, d4⟩ := hSw.2.2.2.1; dsimp only at d0 d1 d2 d3 d4; go_simp
        first | done | with_reducible rfl
      refine wpAnyH_takeE (i := 11) (some 29) (v := ?_) rfl rfl (by as_aux_lemma => kernel_rfl) (by as_aux_lemma => kernel_rfl) (by as_aux_lemma => kernel_rfl) (fun _ _ _ h => h) (Or.inl ⟨by kernel_rfl, ?_⟩) hS ?_
      rotate_left
      · intro w hSw; have c0 := hSw.1.c0; have e0 := hSw.2.1.c0; have e1 := hSw.2.1.c1; have e2 := hSw.2.1.c2; have e3 := hSw.2.1.c3; have e4 := hSw.2.1.c4; dsimp only at e0 e1 e2 e3 e4; obtain ⟨d0, d1, d2, d3, d4⟩ := hSw.2.2.2.1; dsimp only at d0 d1 d2 d3 d4; go_simp
        first | done | with_reducible rfl
      refine wpAnyH_takeE (i := 12) (some 30) (v := ?_) rfl rfl (by as_aux_lemma => kernel_rfl) (by as_aux_lemma => kernel_rfl) (by as_aux_lemma => kernel_rfl) (fun _ _ _ h => h) (Or.inl ⟨by kernel_rfl, ?_⟩) hS ?_
      rotate_left
      · intro w hSw; have c0 := hSw.1.c0; have e0 := hSw.2.1.c0; have e1 := hSw.2.1.c1; have e2 := hSw.2.1.c2; have e3 := hSw.2.1.c3; have e4 := hSw.2.1.c4; dsimp only at e0 e1 e2 e3 e4; obtain ⟨d0, d1, d2, d3, d4⟩ := hSw.2.2.2.1; dsimp only at d0 d1 d2 d3 d4; go_simp
        first | done | with_reducible rfl
      refine wpAnyH_takeE (i := 13) (some 31) (v := ?_) rfl rfl (by as_aux_lemma => kernel_rfl) (by as_aux_lemma => kernel_rfl) (by as_aux_lemma => kernel_rfl) (fun _ _ _ h => h) (Or.inl ⟨by kernel_rfl, ?_⟩) hS ?_
      rotate_left
      · intro w hSw; have c0 := hSw.1.c0; have e0 := hSw.2.1.c0; have e1 := hSw.2.1.c1; have e2 := hSw.2.1.c2; have e3 := hSw.2.1.c3; have e4 := hSw.2.1.c4; dsimp only at e0 e1 e2 e3 e4; obtain ⟨d0, d1, d2, d3, d4⟩ := hSw.2.2.2.1; dsimp only at d0 d1 d2 d3 d4; go_simp
        first | done | with_reducible rfl
      refine wpAnyH_takeE (i := 14) (some 32) (v := ?_) rfl rfl (by as_aux_lemma => kernel_rfl) (by as_aux_lemma => kernel_rfl) (by as_aux_lemma => kernel_rfl) (fun _ _ _ h => h) (Or.inl ⟨by kernel_rfl, ?_⟩) hS ?_
      rotate_left
      · intro w hSw; have c0 := hSw.1.c0; have e0 := hSw.2.1.c0; have e1 := hSw.2.1.c1; have e2 := hSw.2.1.c2; have e3 := hSw.2.1.c3; have e4 := hSw.2.1.c4; dsimp only at e0 e1 e2 e3 e4; obtain ⟨d0, d1, d2, d3, d4⟩ := hSw.2.2.2.1; dsimp only at d0 d1 d2 d3 d4; go_simp
        first | done | with_reducible rfl
      refine wpAnyH_takeE (i := 15) (some 33) (v := ?_) rfl rfl (by as_aux_lemma => kernel_rfl) (by as_aux_lemma => kernel_rfl) (by as_aux_lemma => kernel_rfl) (fun _ _ _ h => h) (Or.inl ⟨by kernel_rfl, ?_⟩) hS ?_
      rotate_left
      · intro w hSw; have c0 := hSw.1.c0; have e0 := hSw.2.1.c0; have e1 := hSw.2.1.c1; have e2 := hSw.2.1.c2; have e3 := hSw.2.1.c3; have e4 := hSw.2.1.c4; dsimp only at e0 e1 e2 e3 e4; obtain ⟨d0, d1, d2, d3, d4⟩ := hSw.2.2.2.1; dsimp only at d0 d1 d2 d3 d4; go_simp
        first | done | with_reducible rfl
      have H5 := Lib.hid hS
      refine wpAnyH_done (by kernel_rfl) ?_ _
      clear hS
      go_simp
      go_wp2_with fail
      have h5 := H5.out
      clear H5
      refine wp_region_any (by kernel_rfl) ?_
      change wpAny _ _ _ _ _ _ _ (World.drew _)
      have hS : (fun w' : World => RmBlk w' w.heap.size (some ⟨b, o, none⟩) n c ∧ EBlk w' (w.heap.size + 1) ⟨kx, tx, ox, vx, ux⟩ ∧ RmBlk w' (w.heap.size + 1 + 1) none 0 0 ∧ RowAt w' b (o + k * 5) ⟨ky, ty, oy, vy, uy⟩ ∧ Below w.heap.size w w') wr.drew.drew := ⟨h5.1, h5.2.1, h5.2.2.1, h5.2.2.2.1, h5.2.2.2.2.drew⟩
      refine wpAny_of_held (S := fun w' => RmBlk w' w.heap.size (some ⟨b, o, none⟩) n c ∧ EBlk w' (w.heap.size + 1) ⟨kx, tx, ox, vx, ux⟩ ∧ RmBlk w' (w.heap.size + 1 + 1) none 0 0 ∧ RowAt w' b (o + k * 5) ⟨ky, ty, oy, vy, uy⟩ ∧ Below w.heap.size w w') _ _ _ _ ?_
      clear h5
      refine wpAnyH_takeE (i := 0) (some 36) (v := ?_) rfl rfl (by as_aux_lemma => kernel_rfl) (by as_aux_lemma => kernel_rfl) (by as_aux_lemma => kernel_rfl) (fun _ _ _ h => h) (Or.inl ⟨by kernel_rfl, ?_⟩) hS ?_
      rotate_left
      · intro w hSw; have c0 := hSw.1.c0; have e0 := hSw.2.1.c0; have e1 := hSw.2.1.c1; have e2 := hSw.2.1.c2; have e3 := hSw.2.1.c3; have e4 := hSw.2.1.c4; dsimp only at e0 e1 e2 e3 e4; obtain ⟨d0, d1, d2, d3, d4⟩ := hSw.2.2.2.1; dsimp only at d0 d1 d2 d3 d4; go_simp
        first | done | with_reducible rfl
      refine wpAnyH_takeE (i := 1) (some 37) (v := ?_) rfl rfl (by as_aux_lemma => kernel_rfl) (by as_aux_lemma => kernel_rfl) (by as_aux_lemma => kernel_rfl) (fun _ _ _ h => h) (Or.inl ⟨by kernel_rfl, ?_⟩) hS ?_
      rotate_left
      · intro w hSw; have c0 := hSw.1.c0; have e0 := hSw.2.1.c0; have e1 := hSw.2.1.c1; have e2 := hSw.2.1.c2; have e3 := hSw.2.1.c3; have e4 := hSw.2.1.c4; dsimp only at e0 e1 e2 e3 e4; obtain ⟨d0, d1, d2, d3, d4⟩ := hSw.2.2.2.1; dsimp only at d0 d1 d2 d3 d4; go_simp
        first | done | with_reducible rfl
      refine wpAnyH_takeE (i := 2) (some 38) (v := ?_) rfl rfl (by as_aux_lemma => kernel_rfl) (by as_aux_lemma => kernel_rfl) (by as_aux_lemma => kernel_rfl) (fun _ _ _ h => h) (Or.inl ⟨by kernel_rfl, ?_⟩) hS ?_
      rotate_left
      · intro w hSw; have c0 := hSw.1.c0; have e0 := hSw.2.1.c0; have e1 := hSw.2.1.c1; have e2 := hSw.2.1.c2; have e3 := hSw.2.1.c3; have e4 := hSw.2.1.c4; dsimp only at e0 e1 e2 e3 e4; obtain ⟨d0, d1, d2, d3, d4⟩ := hSw.2.2.2.1; dsimp only at d0 d1 d2 d3 d4; go_simp
        first | done | with_reducible rfl
      refine wpAnyH_takeE (i := 3) (some 39) (v := ?_) rfl rfl (by as_aux_lemma => kernel_rfl) (by as_aux_lemma => kernel_rfl) (by as_aux_lemma => kernel_rfl) (fun _ _ _ h => h) (Or.inl ⟨by kernel_rfl, ?_⟩) hS ?_
      rotate_left
      · intro w hSw; have c0 := hSw.1.c0; have e0 := hSw.2.1.c0; have e1 := hSw.2.1.c1; have e2 := hSw.2.1.c2; have e3 := hSw.2.1.c3; have e4 := hSw.2.1.c4; dsimp only at e0 e1 e2 e3 e4; obtain ⟨d0, d1, d2, d3, d4⟩ := hSw.2.2.2.1; dsimp only at d0 d1 d2 d3 d4; go_simp
        first | done | with_reducible rfl
      refine wpAnyH_takeE (i := 4) (some 40) (v := ?_) rfl rfl (by as_aux_lemma => kernel_rfl) (by as_aux_lemma => kernel_rfl) (by as_aux_lemma => kernel_rfl) (fun _ _ _ h => h) (Or.inl ⟨by kernel_rfl, ?_⟩) hS ?_
      rotate_left
      · intro w hSw; have c0 := hSw.1.c0; have e0 := hSw.2.1.c0; have e1 := hSw.2.1.c1; have e2 := hSw.2.1.c2; have e3 := hSw.2.1.c3; have e4 := hSw.2.1.c4; dsimp only at e0 e1 e2 e3 e4; obtain ⟨d0, d1, d2, d3, d4⟩ := hSw.2.2.2.1; dsimp only at d0 d1 d2 d3 d4; go_simp
        first | done | with_reducible rfl
      refine wpAnyH_takeE (i := 5) (some 41) (v := ?_) rfl rfl (by as_aux_lemma => kernel_rfl) (by as_aux_lemma => kernel_rfl) (by as_aux_lemma => kernel_rfl) (fun _ _ _ h => h) (Or.inl ⟨by kernel_rfl, ?_⟩) hS ?_
      rotate_left
      · intro w hSw; have c0 := hSw.1.c0; have e0 := hSw.2.1.c0; have e1 := hSw.2.1.c1; have e2 := hSw.2.1.c2; have e3 := hSw.2.1.c3; have e4 := hSw.2.1.c4; dsimp only at e0 e1 e2 e3 e4; obtain ⟨d0, d1, d2, d3, d4⟩ := hSw.2.2.2.1; dsimp only at d0 d1 d2 d3 d4; go_simp
        first | done | with_reducible rfl
      refine wpAnyH_takeE (i := 6) (some 42) (v := ?_) rfl rfl (by as_aux_lemma => kernel_rfl) (by as_aux_lemma => kernel_rfl) (by as_aux_lemma => kernel_rfl) (fun _ _ _ h => h) (Or.inl ⟨by kernel_rfl, ?_⟩) hS ?_
      rotate_left
      · intro w hSw; have c0 := hSw.1.c0; have e0 := hSw.2.1.c0; have e1 := hSw.2.1.c1; have e2 := hSw.2.1.c2; have e3 := hSw.2.1.c3; have e4 := hSw.2.1.c4; dsimp only at e0 e1 e2 e3 e4; obtain ⟨d0, d1, d2, d3, d4⟩ := hSw.2.2.2.1; dsimp only at d0 d1 d2 d3 d4; go_simp
        first | done | with_reducible rfl
      refine wpAnyH_takeE (i := 7) (some 43) (v := ?_) rfl rfl (by as_aux_lemma => kernel_rfl) (by as_aux_lemma => kernel_rfl) (by as_aux_lemma => kernel_rfl) (fun _ _ _ h => h) (Or.inl ⟨by kernel_rfl, ?_⟩) hS ?_
      rotate_left
      · intro w hSw; have c0 := hSw.1.c0; have e0 := hSw.2.1.c0; have e1 := hSw.2.1.c1; have e2 := hSw.2.1.c2; have e3 := hSw.2.1.c3; have e4 := hSw.2.1.c4; dsimp only at e0 e1 e2 e3 e4; obtain ⟨d0, d1, d2, d3, d4⟩ := hSw.2.2.2.1; dsimp only at d0 d1 d2 d3 d4; go_simp
        first | done | with_reducible rfl
      refine wpAnyH_takeE (i := 8) (some 44) (v := ?_) rfl rfl (by as_aux_lemma => kernel_rfl) (by as_aux_lemma => kernel_rfl) (by as_aux_lemma => kernel_rfl) (fun _ _ _ h => h) (Or.inl ⟨by kernel_rfl, ?_⟩) hS ?_
      rotate_left
      · intro w hSw; have c0 := hSw.1.c0; have e0 := hSw.2.1.c0; have e1 := hSw.2.1.c1; have e2 := hSw.2.1.c2; have e3 := hSw.2.1.c3; have e4 := hSw.2.1.c4; dsimp only at e0 e1 e2 e3 e4; obtain ⟨d0, d1, d2, d3, d4⟩ := hSw.2.2.2.1; dsimp only at d0 d1 d2 d3 d4; go_simp
        first | done | with_reducible rfl
      refine wpAnyH_takeE (i := 9) (some 45) (v := ?_) rfl rfl (by as_aux_lemma => kernel_rfl) (by as_aux_lemma => kernel_rfl) (by as_aux_lemma => kernel_rfl) (fun _ _ _ h => h) (Or.inl ⟨by kernel_rfl, ?_⟩) hS ?_
      rotate_left
      · intro w hSw; have c0 := hSw.1.c0; have e0 := hSw.2.1.c0; have e1 := hSw.2.1.c1; have e2 := hSw.2.1.c2; have e3 := hSw.2.1.c3; have e4 := hSw.2.1.c4; dsimp only at e0 e1 e2 e3 e4; obtain ⟨d0, d1, d2, d3, d4⟩ := hSw.2.2.2.1; dsimp only at d0 d1 d2 d3 d4; go_simp
        first | done | with_reducible rfl
      refine wpAnyH_takeE (i := 10) (some 46) (v := ?_) rfl rfl (by as_aux_lemma => kernel_rfl) (by as_aux_lemma => kernel_rfl) (by as_aux_lemma => kernel_rfl) (fun _ _ _ h => h) (Or.inl ⟨by kernel_rfl, ?_⟩) hS ?_
      rotate_left
      · intro w hSw; have c0 := hSw.1.c0; have e0 := hSw.2.1.c0; have e1 := hSw.2.1.c1; have e2 := hSw.2.1.c2; have e3 := hSw.2.1.c3; have e4 := hSw.2.1.c4; dsimp only at e0 e1 e2 e3 e4; obtain ⟨d0, d1, d2, d3, d4⟩ := hSw.2.2.2.1; dsimp only at d0 d1 d2 d3 d4; go_simp
        first | done | with_reducible rfl
      refine wpAnyH_takeE (i := 11) (some 47) (v := ?_) rfl rfl (by as_aux_lemma => kernel_rfl) (by as_aux_lemma => kernel_rfl) (by as_aux_lemma => kernel_rfl) (fun _ _ _ h => h) (Or.inl ⟨by kernel_rfl, ?_⟩) hS ?_
      rotate_left
      · intro w hSw; have c0 := hSw.1.c0; have e0 := hSw.2.1.c0; have e1 := hSw.2.1.c1; have e2 := hSw.2.1.c2; have e3 := hSw.2.1.c3; have e4 := hSw.2.1.c4; dsimp only at e0 e1 e2 e3 e4; obtain ⟨d0, d1, d2, d3, d4⟩ := hSw.2.2.2.1; dsimp only at d0 d1 d2 d3 d4; go_simp
        first | done | with_reducible rfl
      refine wpAnyH_takeE (i := 12) (some 48) (v := ?_) rfl rfl (by as_aux_lemma => kernel_rfl) (by as_aux_lemma => kernel_rfl) (by as_aux_lemma => kernel_rfl) (fun _ _ _ h => h) (Or.inl ⟨by kernel_rfl, ?_⟩) hS ?_
      rotate_left
      · intro w hSw; have c0 := hSw.1.c0; have e0 := hSw.2.1.c0; have e1 := hSw.2.1.c1; have e2 := hSw.2.1.c2; have e3 := hSw.2.1.c3; have e4 := hSw.2.1.c4; dsimp only at e0 e1 e2 e3 e4; obtain ⟨d0, d1, d2, d3, d4⟩ := hSw.2.2.2.1; dsimp only at d0 d1 d2 d3 d4; go_simp
        first | done | with_reducible rfl
      refine wpAnyH_takeE (i := 13) (some 49) (v := ?_) rfl rfl (by as_aux_lemma => kernel_rfl) (by as_aux_lemma => kernel_rfl) (by as_aux_lemma => kernel_rfl) (fun _ _ _ h => h) (Or.inl ⟨by kernel_rfl, ?_⟩) hS ?_
      rotate_left
      · intro w hSw; have c0 := hSw.1.c0; have e0 := hSw.2.1.c0; have e1 := hSw.2.1.c1; have e2 := hSw.2.1.c2; have e3 := hSw.2.1.c3; have e4 := hSw.2.1.c4; dsimp only at e0 e1 e2 e3 e4; obtain ⟨d0, d1, d2, d3, d4⟩ := hSw.2.2.2.1; dsimp only at d0 d1 d2 d3 d4; go_simp
        first | done | with_reducible rfl
      refine wpAnyH_takeE (i := 14) (some 50) (v := ?_) rfl rfl (by as_aux_lemma => kernel_rfl) (by as_aux_lemma => kernel_rfl) (by as_aux_lemma => kernel_rfl) (fun _ _ _ h => h) (Or.inl ⟨by kernel_rfl, ?_⟩) hS ?_
      rotate_left
      · intro w hSw; have c0 := hSw.1.c0; have e0 := hSw.2.1.c0; have e1 := hSw.2.1.c1; have e2 := hSw.2.1.c2; have e3 := hSw.2.1.c3; have e4 := hSw.2.1.c4; dsimp only at e0 e1 e2 e3 e4; obtain ⟨d0, d1, d2, d3, d4⟩ := hSw.2.2.2.1; dsimp only at d0 d1 d2 d3 d4; go_simp
        first | done | with_reducible rfl
      refine wpAnyH_takeE (i := 15) (some 51) (v := ?_) rfl rfl (by as_aux_lemma => kernel_rfl) (by as_aux_lemma => kernel_rfl) (by as_aux_lemma => kernel_rfl) (fun _ _ _ h => h) (Or.inl ⟨by kernel_rfl, ?_⟩) hS ?_
      rotate_left
      · intro w hSw; have c0 := hSw.1.c0; have e0 := hSw.2.1.c0; have e1 := hSw.2.1.c1; have e2 := hSw.2.1.c2; have e3 := hSw.2.1.c3; have e4 := hSw.2.1.c4; dsimp only at e0 e1 e2 e3 e4; obtain ⟨d0, d1, d2, d3, d4⟩ := hSw.2.2.2.1; dsimp only at d0 d1 d2 d3 d4; go_simp
        first | done | with_reducible rfl
      refine wpAnyH_takeE (i := 16) (some 9) (v := ?_) rfl rfl (by as_aux_lemma => kernel_rfl) (by as_aux_lemma => kernel_rfl) (by as_aux_lemma => kernel_rfl) (fun _ _ _ h => h) (Or.inl ⟨by kernel_rfl, ?_⟩) hS ?_
      rotate_left
      · intro w hSw; have c0 := hSw.1.c0; have e0 := hSw.2.1.c0; have e1 := hSw.2.1.c1; have e2 := hSw.2.1.c2; have e3 := hSw.2.1.c3; have e4 := hSw.2.1.c4; dsimp only at e0 e1 e2 e3 e4; obtain ⟨d0, d1, d2, d3, d4⟩ := hSw.2.2.2.1; dsimp only at d0 d1 d2 d3 d4; go_simp
        first | done | with_reducible rfl
      have H5 := Lib.hid hS
      refine wpAnyH_done (by kernel_rfl) ?_ _
      clear hS
      go_simp
      go_wp2_with fail
      have h5 := H5.out
      clear H5
      refine wp_region_any (by kernel_rfl) ?_
      change wpAny _ _ _ _ _ _ _ (World.drew _)
      have hS : (fun w' : World => RmBlk w' w.heap.size (some ⟨b, o, none⟩) n c ∧ EBlk w' (w.heap.size + 1) ⟨kx, tx, ox, vx, ux⟩ ∧ RmBlk w' (w.heap.size + 1 + 1) none 0 0 ∧ RowAt w' b (o + k * 5) ⟨ky, ty, oy, vy, uy⟩ ∧ Below w.heap.size w w') wr.drew.drew.drew := ⟨h5.1, h5.2.1, h5.2.2.1, h5.2.2.2.1, h5.2.2.2.2.drew⟩
      refine wpAny_of_held (S := fun w' => RmBlk w' w.heap.size (some ⟨b, o, none⟩) n c ∧ EBlk w' (w.heap.size + 1) ⟨kx, tx, ox, vx, ux⟩ ∧ RmBlk w' (w.heap.size + 1 + 1) none 0 0 ∧ RowAt w' b (o + k * 5) ⟨ky, ty, oy, vy, uy⟩ ∧ Below w.heap.size w w') _ _ _ _ ?_
      clear h5
      refine wpAnyH_takeE (i := 0) (some 54) (v := ?_) rfl rfl (by as_aux_lemma => kernel_rfl) (by as_aux_lemma => kernel_rfl) (by as_aux_lemma => kernel_rfl) (fun _ _ _ h => h) (Or.inl ⟨by kernel_rfl, ?_⟩) hS ?_
      rotate_left
      · intro w hSw; have c0 := hSw.1.c0; have e0 := hSw.2.1.c0; have e1 := hSw.2.1.c1; have e2 := hSw.2.1.c2; have e3 := hSw.2.1.c3; have e4 := hSw.2.1.c4; dsimp only at e0 e1 e2 e3 e4; obtain ⟨d0, d1, d2, d3, d4⟩ := hSw.2.2.2.1; dsimp only at d0 d1 d2 d3 d4; go_simp
        first | done | with_reducible rfl
      refine wpAnyH_takeE (i := 1) (some 55) (v := ?_) rfl rfl (by as_aux_lemma => kernel_rfl) (by as_aux_lemma => kernel_rfl) (by as_aux_lemma => kernel_rfl) (fun _ _ _ h => h) (Or.inl ⟨by kernel_rfl, ?_⟩) hS ?_
      rotate_left
      · intro w hSw; have c0 := hSw.1.c0; have e0 := hSw.2.1.c0; have e1 := hSw.2.1.c1; have e2 := hSw.2.1.c2; have e3 := hSw.2.1.c3; have e4 := hSw.2.1.c4; dsimp only at e0 e1 e2 e3 e4; obtain ⟨d0, d1, d2, d3, d4⟩ := hSw.2.2.2.1; dsimp only at d0 d1 d2 d3 d4; go_simp
        first | done | with_reducible rfl
      refine wpAnyH_takeE (i := 2) (some 56) (v := undef) rfl rfl (by as_aux_lemma => kernel_rfl) (by as_aux_lemma => kernel_rfl) (by as_aux_lemma => kernel_rfl) (fun _ _ _ h => h) (Or.inr ⟨by kernel_rfl, rfl⟩) hS ?_
      refine wpAnyH_takeE (i := 3) (some 57) (v := undef) rfl rfl (by as_aux_lemma => kernel_rfl) (by as_aux_lemma => kernel_rfl) (by as_aux_lemma => kernel_rfl) (fun _ _ _ h => h) (Or.inr ⟨by kernel_rfl, rfl⟩) hS ?_
      refine wpAnyH_takeE (i := 4) (some 58) (v := undef) rfl rfl (by as_aux_lemma => kernel_rfl) (by as_aux_lemma => kernel_rfl) (by as_aux_lemma => kernel_rfl) (fun _ _ _ h => h) (Or.inr ⟨by kernel_rfl, rfl⟩) hS ?_
      refine wpAnyH_takeE (i := 5) (some 59) (v := undef) rfl rfl (by as_aux_lemma => kernel_rfl) (by as_aux_lemma => kernel_rfl) (by as_aux_lemma => kernel_rfl) (fun _ _ _ h => h) (Or.inr ⟨by kernel_rfl, rfl⟩) hS ?_
      refine wpAnyH_takeE (i := 6) (some 60) (v := undef) rfl rfl (by as_aux_lemma => kernel_rfl) (by as_aux_lemma => kernel_rfl) (by as_aux_lemma => kernel_rfl) (fun _ _ _ h => h) (Or.inr ⟨by kernel_rfl, rfl⟩) hS ?_
      refine wpAnyH_takeE (i := 7) (some 61) (v := undef) rfl rfl (by as_aux_lemma => kernel_rfl) (by as_aux_lemma => kernel_rfl) (by as_aux_lemma => kernel_rfl) (fun _ _ _ h => h) (Or.inr ⟨by kernel_rfl, rfl⟩) hS ?_
      refine wpAnyH_takeE (i := 8) (some 62) (v := undef) rfl rfl (by as_aux_lemma => kernel_rfl) (by as_aux_lemma => kernel_rfl) (by as_aux_lemma => kernel_rfl) (fun _ _ _ h => h) (Or.inr ⟨by kernel_rfl, rfl⟩) hS ?_
      refine wpAnyH_takeE (i := 9) (some 63) (v := undef) rfl rfl (by as_aux_lemma => kernel_rfl) (by as_aux_lemma => kernel_rfl) (by as_aux_lemma => kernel_rfl) (fun _ _ _ h => h) (Or.inr ⟨by kernel_rfl, rfl⟩) hS ?_
      refine wpAnyH_takeE (i := 10) (some 64) (v := ?_) rfl rfl (by as_aux_lemma => kernel_rfl) (by as_aux_lemma => kernel_rfl) (by as_aux_lemma => kernel_rfl) (fun _ _ _ h => h) (Or.inl ⟨by kernel_rfl, ?_⟩) hS ?_
      rotate_left
      · intro w hSw; have c0 := hSw.1.c0; have e0 := hSw.2.1.c0; have e1 := hSw.2.1.c1; have e2 := hSw.2.1.c2; have e3 := hSw.2.1.c3; have e4 := hSw.2.1.c4; dsimp only at e0 e1 e2 e3 e4; obtain ⟨d0, d1, d2, d3, d4⟩ := hSw.2.2.2.1; dsimp only at d0 d1 d2 d3 d4; go_simp
        first | done | with_reducible rfl
      refine wpAnyH_takeE (i := 11) (some 53) (v := ?_) rfl rfl (by as_aux_lemma => kernel_rfl) (by as_aux_lemma => kernel_rfl) (by as_aux_lemma => kernel_rfl) (fun _ _ _ h => h) (Or.inl ⟨by kernel_rfl, ?_⟩) hS ?_
      rotate_left
      · intro w hSw; have c0 := hSw.1.c0; have e0 := hSw.2.1.c0; have e1 := hSw.2.1.c1; have e2 := hSw.2.1.c2; have e3 := hSw.2.1.c3; have e4 := hSw.2.1.c4; dsimp only at e0 e1 e2 e3 e4; obtain ⟨d0, d1, d2, d3, d4⟩ := hSw.2.2.2.1; dsimp only at d0 d1 d2 d3 d4; go_simp
        first | done | with_reducible rfl
      have H5 := Lib.hid hS
      refine wpAnyH_done (by kernel_rfl) ?_ _
      clear hS
      go_simp
      have h5 := H5.out
      clear H5
      have k1 : RmBlk (wr.drew.drew.drew) w.heap.size (some ⟨b, o, none⟩) n c := h5.1
      have k2 : EBlk (wr.drew.drew.drew) (w.heap.size + 1) ⟨kx, tx, ox, vx, ux⟩ := h5.2.1
      have k3 : RmBlk (wr.drew.drew.drew) (w.heap.size + 1 + 1) none 0 0 := h5.2.2.1
      have b7 : Below w.heap.size w (wr.drew.drew.drew) := h5.2.2.2.2
      clear h5
      generalize wr.drew.drew.drew = w9 at *
      have h256 : (256 : Int) ≤ (n : Int) := by have := HNL.out; omega
      have c0 := k1.c0
      have c3 := k3.c0; have f3 := k3.f 0
      have r0 := (k3.set (a' := (some ⟨b, o, none⟩)) (n' := n) (c' := c)).c0
      have b3 := b7.setCell (p := ⟨w.heap.size + 1 + 1, 0, none⟩) (by show w.heap.size ≤ w.heap.size + 1 + 1; omega) (.slice (some ⟨b, o, none⟩) n c)
      have HF := Lib.hid (And.intro (HH.out.below b3 (Nat.le_refl _)) b3)
      clear k1 k2 k3 b3 b7
      go_wp2
      exact bodyPost_ret (v := .tuple #[.agg #[.slice (some ⟨b, o, none⟩) n c], .bool false, .int .i64 11]) (by simp [results, Try.results25, go_sem, r0]) rfl ⟨(some ⟨b, o, none⟩), c, by rw [HQ.out.1, HQ.out.2.1, HQ.out.2.2, HNL.out], by rw [HQ.out.1]; exact HF.out.1, HF.out.2⟩

set_option maxRecDepth 100000 in
set_option maxHeartbeats 8000000 in
theorem crPut_low (a : Option Addr) (c : Nat) (S : List Ent) (kx : ByteArray) (tx ox : Int) (vx : ByteArray) (ux : Int) (w : World) (h : RefM w a c S) (hn : S.length ≤ 256) (n : Nat) (hnl : n = S.length) (hE : checkEn ⟨kx, tx, ox, vx, ux⟩ = 0) (P : Nat) (hP : placeC S (Ent.key ⟨kx, tx, ox, vx, ux⟩) = P) (hPm : P < n) (hYY : ∀ hl : P < S.length, (S[P].k.toList == kx.toList) = true) (hgot : ∀ hl : P < S.length, gotC S (Ent.key ⟨kx, tx, ox, vx, ux⟩) = some S[P]) (hab : ∀ hl : P < S.length, aboveE ⟨kx, tx, ox, vx, ux⟩ S[P] = false) : Calls Try.prog 25 #[.agg #[.slice a n c], .agg #[.string kx, .int .i64 tx, .int .u16 ox, .string vx, .int .i64 ux]] w (CPutPost w S ⟨kx, tx, ox, vx, ux⟩) := by
  have hl : P < S.length := by omega
  have q2 : cputE S ⟨kx, tx, ox, vx, ux⟩ = 0 := by unfold cputE; rw [if_neg (by simp [hE]), if_neg (by rw [hgot hl]; rintro ⟨h, -⟩; cases h)]
  have q1 : cputB S ⟨kx, tx, ox, vx, ux⟩ = false := by unfold cputB; rw [q2, hgot hl]; simp [hab hl]
  have q0 : cputS S ⟨kx, tx, ox, vx, ux⟩ = S := by unfold cputS; rw [q1]; rfl
  have HQ := Lib.hid (And.intro q0 (And.intro q1 q2))
  clear q0 q1 q2 hl
  have HNL := Lib.hid hnl
  have hn2 : n ≤ 256 := by omega
  have d1 := (Below.refl w.heap.size w).alloc (Nat.le_refl _) (.cells #[.slice a n c] 30)
  have d2 := d1.alloc (by simp) (.cells #[.string kx, .int .i64 tx, .int .u16 ox, .string vx, .int .i64 ux] 36)
  have d3 := d2.alloc (by simp; omega) (.cells #[.slice none 0 0] 30)
  have s1 : (w.alloc (.cells #[.slice a n c] 30)).heap.size = w.heap.size + 1 := by simp
  have s2 : ((w.alloc (.cells #[.slice a n c] 30)).alloc (.cells #[.string kx, .int .i64 tx, .int .u16 ox, .string vx, .int .i64 ux] 36)).heap.size = w.heap.size + 1 + 1 := by simp
  have s3 : (((w.alloc (.cells #[.slice a n c] 30)).alloc (.cells #[.string kx, .int .i64 tx, .int .u16 ox, .string vx, .int .i64 ux] 36)).alloc (.cells #[.slice none 0 0] 30)).heap.size = w.heap.size + 1 + 1 + 1 := by simp
  have k1 := RmBlk.new w a n c
  have k2 := EBlk.new (w.alloc (.cells #[.slice a n c] 30)) ⟨kx, tx, ox, vx, ux⟩
  have k3 := RmBlk.new ((w.alloc (.cells #[.slice a n c] 30)).alloc (.cells #[.string kx, .int .i64 tx, .int .u16 ox, .string vx, .int .i64 ux] 36)) none 0 0
  rw [s1] at k2
  rw [s2] at k3
  replace k1 := (k1.below ((Below.refl _ _).alloc (Nat.le_refl _) (.cells #[.string kx, .int .i64 tx, .int .u16 ox, .string vx, .int .i64 ux] 36)) (by simp)).below ((Below.refl _ _).alloc (Nat.le_refl _) (.cells #[.slice none 0 0] 30)) (by simp; omega)
  replace k2 := k2.below ((Below.refl _ _).alloc (Nat.le_refl _) (.cells #[.slice none 0 0] 30)) (by simp)
  have HC := Lib.hid (eRefCheck_any ⟨kx, tx, ox, vx, ux⟩ (((w.alloc (.cells #[.slice a n c] 30)).alloc (.cells #[.string kx, .int .i64 tx, .int .u16 ox, .string vx, .int .i64 ux] 36)).alloc (.cells #[.slice none 0 0] 30)))
  dsimp only at HC
  have HW := Lib.hid (And.intro d3 (And.intro s3 (And.intro k1 (And.intro k2 k3))))
  have HH := Lib.hid h
  clear d1 d2 d3 s1 s2 s3 k1 k2 k3 hnl
  rw [hE] at HC
  unfold CPutPost
  have hPn : P ≤ n := by rw [HNL.out, ← hP]; exact placeC_le _ _
  have HPl : Hid (∀ j (hj : j < S.length), j < P → S[j].key < Ent.key ⟨kx, tx, ox, vx, ux⟩) := Lib.hid (fun j hj hjp => placeC_lt (by rw [hP]; exact hjp))
  have hc := h.2.1
  rw [← HNL.out] at hc
  have hPlt : P < n := hPm
  have HNo := Lib.hid (placeC_stop (S := S) (k := Ent.key ⟨kx, tx, ox, vx, ux⟩) hP)
  clear h hE hP hn hPm
  go_enter Try.func25, Try.ntmps25
  go_wp2_with (go_at_call 35; refine HC.out.mono ?_; rintro r w2 ⟨rfl, q2⟩; refine Hid.out ?_)
  refine Lib.hid ?_
  obtain ⟨d3, s3, k1, k2, k3⟩ := HW.out
  rw [s3] at q2
  replace k1 := k1.below q2 (by omega)
  replace k2 := k2.below q2 (by omega)
  replace k3 := k3.below q2 (by omega)
  have b2 := d3.trans (q2.mono (by omega))
  have HI := Lib.hid (And.intro k1 (And.intro k2 (And.intro k3 b2)))
  clear d3 s3 q2 HC HW k1 k2 k3 b2
  go_wp2
  go_loopw [8] (fun i wr => ∃ (k : Nat), k ≤ P ∧ i = .int .i64 (k : Int) ∧ Hid (RmBlk wr w.heap.size a n c ∧ EBlk wr (w.heap.size + 1) ⟨kx, tx, ox, vx, ux⟩ ∧ RmBlk wr (w.heap.size + 1 + 1) none 0 0 ∧ Below w.heap.size w wr)) (fun i _ => P - (intOf i).toNat)
  case atStart => exact ⟨0, Nat.zero_le _, rfl, HI⟩
  case round =>
    clear HI
    obtain ⟨k, hk, rfl, HI⟩ := hrel
    obtain ⟨k1, k2, k3, b2⟩ := HI.out
    by_cases hlt : k < P
    · have hkl : (k : Int) < (n : Int) := by omega
      have hkx : k < S.length := by have := HNL.out; omega
      obtain ⟨b, o, rfl, rr⟩ := (HH.out.1.below b2 (Nat.le_refl _)).row k hkx
      have hless : Op.bytesLess S[k].k.toList kx.toList = true := by rw [ByteArray.toList_eq, ByteArray.toList_eq, lessE]; exact decide_eq_true (HPl.out k hkx hlt)
      generalize S[k] = y at *
      clear hkx HI
      go_wp2_with fail
      refine wp_region_any (by kernel_rfl) ?_
      change wpAny _ _ _ _ _ _ _ (World.drew _)
      have hS : (fun w' : World => RmBlk w' w.heap.size (some ⟨b, o, none⟩) n c ∧ EBlk w' (w.heap.size + 1) ⟨kx, tx, ox, vx, ux⟩ ∧ RmBlk w' (w.heap.size + 1 + 1) none 0 0 ∧ RowAt w' b (o + k * 5) y ∧ Below w.heap.size w w') wr.drew := ⟨k1, k2, k3, rr, b2.drew⟩
      refine wpAny_of_held (S := fun w' => RmBlk w' w.heap.size (some ⟨b, o, none⟩) n c ∧ EBlk w' (w.heap.size + 1) ⟨kx, tx, ox, vx, ux⟩ ∧ RmBlk w' (w.heap.size + 1 + 1) none 0 0 ∧ RowAt w' b (o + k * 5) y ∧ Below w.heap.size w w') _ _ _ _ ?_
      clear k1 k2 k3 rr b2
      refine wpAnyH_takeE (i := 0) (some 18) (v := ?_) rfl rfl (by as_aux_lemma => kernel_rfl) (by as_aux_lemma => kernel_rfl) (by as_aux_lemma => kernel_rfl) (fun _ _ _ h => h) (Or.inl ⟨by kernel_rfl, ?_⟩) hS ?_
      rotate_left
      · intro w hSw; have c0 := hSw.1.c0; have e0 := hSw.2.1.c0; have e1 := hSw.2.1.c1; have e2 := hSw.2.1.c2; have e3 := hSw.2.1.c3; have e4 := hSw.2.1.c4; dsimp only at e0 e1 e2 e3 e4; obtain ⟨d0, d1, d2, d3, d4⟩ := hSw.2.2.2.1; go_simp
        first | done | with_reducible rfl
      refine wpAnyH_takeE (i := 1) (some 19) (v := ?_) rfl rfl (by as_aux_lemma => kernel_rfl) (by as_aux_lemma => kernel_rfl) (by as_aux_lemma => kernel_rfl) (fun _ _ _ h => h) (Or.inl ⟨by kernel_rfl, ?_⟩) hS ?_
      rotate_left
      · intro w hSw; have c0 := hSw.1.c0; have e0 := hSw.2.1.c0; have e1 := hSw.2.1.c1; have e2 := hSw.2.1.c2; have e3 := hSw.2.1.c3; have e4 := hSw.2.1.c4; dsimp only at e0 e1 e2 e3 e4; obtain ⟨d0, d1, d2, d3, d4⟩ := hSw.2.2.2.1; go_simp
        first | done | with_reducible rfl
      refine wpAnyH_takeE (i := 2) (some 20) (v := ?_) rfl rfl (by as_aux_lemma => kernel_rfl) (by as_aux_lemma => kernel_rfl) (by as_aux_lemma => kernel_rfl) (fun _ _ _ h => h) (Or.inl ⟨by kernel_rfl, ?_⟩) hS ?_
      rotate_left
      · intro w hSw; have c0 := hSw.1.c0; have e0 := hSw.2.1.c0; have e1 := hSw.2.1.c1; have e2 := hSw.2.1.c2; have e3 := hSw.2.1.c3; have e4 := hSw.2.1.c4; dsimp only at e0 e1 e2 e3 e4; obtain ⟨d0, d1, d2, d3, d4⟩ := hSw.2.2.2.1; go_simp
        first | done | with_reducible rfl
      refine wpAnyH_takeE (i := 3) (some 21) (v := ?_) rfl rfl (by as_aux_lemma => kernel_rfl) (by as_aux_lemma => kernel_rfl) (by as_aux_lemma => kernel_rfl) (fun _ _ _ h => h) (Or.inl ⟨by kernel_rfl, ?_⟩) hS ?_
      rotate_left
      · intro w hSw; have c0 := hSw.1.c0; have e0 := hSw.2.1.c0; have e1 := hSw.2.1.c1; have e2 := hSw.2.1.c2; have e3 := hSw.2.1.c3; have e4 := hSw.2.1.c4; dsimp only at e0 e1 e2 e3 e4; obtain ⟨d0, d1, d2, d3, d4⟩ := hSw.2.2.2.1; go_simp
        first | done | with_reducible rfl
      refine wpAnyH_takeE (i := 4) (some 22) (v := ?_) rfl rfl (by as_aux_lemma => kernel_rfl) (by as_aux_lemma => kernel_rfl) (by as_aux_lemma => kernel_rfl) (fun _ _ _ h => h) (Or.inl ⟨by kernel_rfl, ?_⟩) hS ?_
      rotate_left
      · intro w hSw; have c0 := hSw.1.c0; have e0 := hSw.2.1.c0; have e1 := hSw.2.1.c1; have e2 := hSw.2.1.c2; have e3 := hSw.2.1.c3; have e4 := hSw.2.1.c4; dsimp only at e0 e1 e2 e3 e4; obtain ⟨d0, d1, d2, d3, d4⟩ := hSw.2.2.2.1; go_simp
        first | done | with_reducible rfl
      refine wpAnyH_takeE (i := 5) (some 23) (v := ?_) rfl rfl (by as_aux_lemma => kernel_rfl) (by as_aux_lemma => kernel_rfl) (by as_aux_lemma => kernel_rfl) (fun _ _ _ h => h) (Or.inl ⟨by kernel_rfl, ?_⟩) hS ?_
      rotate_left
      · intro w hSw; have c0 := hSw.1.c0; have e0 := hSw.2.1.c0; have e1 := hSw.2.1.c1; have e2 := hSw.2.1.c2; have e3 := hSw.2.1.c3; have e4 := hSw.2.1.c4; dsimp only at e0 e1 e2 e3 e4; obtain ⟨d0, d1, d2, d3, d4⟩ := hSw.2.2.2.1; go_simp
        first | done | with_reducible rfl
      refine wpAnyH_takeE (i := 6) (some 24) (v := ?_) rfl rfl (by as_aux_lemma => kernel_rfl) (by as_aux_lemma => kernel_rfl) (by as_aux_lemma => kernel_rfl) (fun _ _ _ h => h) (Or.inl ⟨by kernel_rfl, ?_⟩) hS ?_
      rotate_left
      · intro w hSw; have c0 := hSw.1.c0; have e0 := hSw.2.1.c0; have e1 := hSw.2.1.c1; have e2 := hSw.2.1.c2; have e3 := hSw.2.1.c3; have e4 := hSw.2.1.c4; dsimp only at e0 e1 e2 e3 e4; obtain ⟨d0, d1, d2, d3, d4⟩ := hSw.2.2.2.1; go_simp
        first | done | with_reducible rfl
      refine wpAnyH_takeE (i := 7) (some 25) (v := ?_) rfl rfl (by as_aux_lemma => kernel_rfl) (by as_aux_lemma => kernel_rfl) (by as_aux_lemma => kernel_rfl) (fun _ _ _ h => h) (Or.inl ⟨by kernel_rfl, ?_⟩) hS ?_
      rotate_left
      · intro w hSw; have c0 := hSw.1.c0; have e0 := hSw.2.1.c0; have e1 := hSw.2.1.c1; have e2 := hSw.2.1.c2; have e3 := hSw.2.1.c3; have e4 := hSw.2.1.c4; dsimp only at e0 e1 e2 e3 e4; obtain ⟨d0, d1, d2, d3, d4⟩ := hSw.2.2.2.1; go_simp
        first | done | with_reducible rfl
      refine wpAnyH_takeE (i := 8) (some 26) (v := ?_) rfl rfl (by as_aux_lemma => kernel_rfl) (by as_aux_lemma => kernel_rfl) (by as_aux_lemma => kernel_rfl) (fun _ _ _ h => h) (Or.inl ⟨by kernel_rfl, ?_⟩) hS ?_
      rotate_left
      · intro w hSw; have c0 := hSw.1.c0; have e0 := hSw.2.1.c0; have e1 := hSw.2.1.c1; have e2 := hSw.2.1.c2; have e3 := hSw.2.1.c3; have e4 := hSw.2.1.c4; dsimp only at e0 e1 e2 e3 e4; obtain ⟨d0, d1, d2, d3, d4⟩ := hSw.2.2.2.1; go_simp
        first | done | with_reducible rfl
      refine wpAnyH_takeE (i := 9) (some 27) (v := ?_) rfl rfl (by as_aux_lemma => kernel_rfl) (by as_aux_lemma => kernel_rfl) (by as_aux_lemma => kernel_rfl) (fun _ _ _ h => h) (Or.inl ⟨by kernel_rfl, ?_⟩) hS ?_
      rotate_left
      · intro w hSw; have c0 := hSw.1.c0; have e0 := hSw.2.1.c0; have e1 := hSw.2.1.c1; have e2 := hSw.2.1.c2; have e3 := hSw.2.1.c3; have e4 := hSw.2.1.c4; dsimp only at e0 e1 e2 e3 e4; obtain ⟨d0, d1, d2, d3, d4⟩ := hSw.2.2.2.1; go_simp
        first | done | with_reducible rfl
      refine wpAnyH_takeE (i := 10) (some 28) (v := ?_) rfl rfl (by as_aux_lemma => kernel_rfl) (by as_aux_lemma => kernel_rfl) (by as_aux_lemma => kernel_rfl) (fun _ _ _ h => h) (Or.inl ⟨by kernel_rfl, ?_⟩) hS ?_
      rotate_left
      · intro w hSw; have c0 := hSw.1.c0; have e0 := hSw.2.1.c0; have e1 := hSw.2.1.c1; have e2 := hSw.2.1.c2; have e3 := hSw.2.1.c3; have e4 := hSw.2.1.c4; dsimp only at e0 e1 e2 e3 e4; obtain ⟨d0, d1, d2, d3, d4⟩ := hSw.2.2.2.1; go_simp
        first | done | with_reducible rfl
      refine wpAnyH_takeE (i := 11) (some 29) (v := ?_) rfl rfl (by as_aux_lemma => kernel_rfl) (by as_aux_lemma => kernel_rfl) (by as_aux_lemma => kernel_rfl) (fun _ _ _ h => h) (Or.inl ⟨by kernel_rfl, ?_⟩) hS ?_
      rotate_left
      · intro w hSw; have c0 := hSw.1.c0; have e0 := hSw.2.1.c0; have e1 := hSw.2.1.c1; have e2 := hSw.2.1.c2; have e3 := hSw.2.1.c3; have e4 := hSw.2.1.c4; dsimp only at e0 e1 e2 e3 e4; obtain ⟨d0, d1, d2, d3, d4⟩ := hSw.2.2.2.1; go_simp
        first | done | with_reducible rfl
      refine wpAnyH_takeE (i := 12) (some 30) (v := ?_) rfl rfl (by as_aux_lemma => kernel_rfl) (by as_aux_lemma => kernel_rfl) (by as_aux_lemma => kernel_rfl) (fun _ _ _ h => h) (Or.inl ⟨by kernel_rfl, ?_⟩) hS ?_
      rotate_left
      · intro w hSw; have c0 := hSw.1.c0; have e0 := hSw.2.1.c0; have e1 := hSw.2.1.c1; have e2 := hSw.2.1.c2; have e3 := hSw.2.1.c3; have e4 := hSw.2.1.c4; dsimp only at e0 e1 e2 e3 e4; obtain ⟨d0, d1, d2, d3, d4⟩ := hSw.2.2.2.1; go_simp
        first | done | with_reducible rfl
      refine wpAnyH_takeE (i := 13) (some 31) (v := ?_) rfl rfl (by as_aux_lemma => kernel_rfl) (by as_aux_lemma => kernel_rfl) (by as_aux_lemma => kernel_rfl) (fun _ _ _ h => h) (Or.inl ⟨by kernel_rfl, ?_⟩) hS ?_
      rotate_left
      · intro w hSw; have c0 := hSw.1.c0; have e0 := hSw.2.1.c0; have e1 := hSw.2.1.c1; have e2 := hSw.2.1.c2; have e3 := hSw.2.1.c3; have e4 := hSw.2.1.c4; dsimp only at e0 e1 e2 e3 e4; obtain ⟨d0, d1, d2, d3, d4⟩ := hSw.2.2.2.1; go_simp
        first | done | with_reducible rfl
      refine wpAnyH_takeE (i := 14) (some 32) (v := ?_) rfl rfl (by as_aux_lemma => kernel_rfl) (by as_aux_lemma => kernel_rfl) (by as_aux_lemma => kernel_rfl) (fun _ _ _ h => h) (Or.inl ⟨by kernel_rfl, ?_⟩) hS ?_
      rotate_left
      · intro w hSw; have c0 := hSw.1.c0; have e0 := hSw.2.1.c0; have e1 := hSw.2.1.c1; have e2 := hSw.2.1.c2; have e3 := hSw.2.1.c3; have e4 := hSw.2.1.c4; dsimp only at e0 e1 e2 e3 e4; obtain ⟨d0, d1, d2, d3, d4⟩ := hSw.2.2.2.1; go_simp
        first | done | with_reducible rfl
      refine wpAnyH_takeE (i := 15) (some 33) (v := ?_) rfl rfl (by as_aux_lemma => kernel_rfl) (by as_aux_lemma => kernel_rfl) (by as_aux_lemma => kernel_rfl) (fun _ _ _ h => h) (Or.inl ⟨by kernel_rfl, ?_⟩) hS ?_
      rotate_left
      · intro w hSw; have c0 := hSw.1.c0; have e0 := hSw.2.1.c0; have e1 := hSw.2.1.c1; have e2 := hSw.2.1.c2; have e3 := hSw.2.1.c3; have e4 := hSw.2.1.c4; dsimp only at e0 e1 e2 e3 e4; obtain ⟨d0, d1, d2, d3, d4⟩ := hSw.2.2.2.1; go_simp
        first | done | with_reducible rfl
      have HI : Hid (RmBlk wr.drew w.heap.size (some ⟨b, o, none⟩) n c ∧ EBlk wr.drew (w.heap.size + 1) ⟨kx, tx, ox, vx, ux⟩ ∧ RmBlk wr.drew (w.heap.size + 1 + 1) none 0 0 ∧ Below w.heap.size w wr.drew) := Lib.hid ⟨hS.1, hS.2.1, hS.2.2.1, hS.2.2.2.2⟩
      refine wpAnyH_done (by kernel_rfl) ?_ _
      clear hS
      go_simp
      go_wp2
      go_roundw
      case rel => exact ⟨k + 1, by omega, by go_num, HI⟩
      case measure => simp [intOf]; omega
    · obtain rfl : k = P := by omega
      have hkl : (k : Int) < (n : Int) := by omega
      have hkx : k < S.length := by have := HNL.out; omega
      obtain ⟨b, o, rfl, rr⟩ := (HH.out.1.below b2 (Nat.le_refl _)).row k hkx
      have hless : Op.bytesLess S[k].k.toList kx.toList = false := by rw [ByteArray.toList_eq, ByteArray.toList_eq, lessE]; exact decide_eq_false (HNo.out hkx)
      have HY := Lib.hid (hYY hkx)
      have HAb := Lib.hid (fun W => eRefAbove_any ⟨kx, tx, ox, vx, ux⟩ S[k] W)
      rw [hab hkx] at HAb
      clear hab hgot
      clear hYY
      generalize S[k] = y at *
      clear hkx HI HNo
      obtain ⟨ky, ty, oy, vy, uy⟩ := y
      have hYe := HY.out
      dsimp only at hYe hless
      dsimp only at HAb
      go_wp2_with fail
      refine wp_region_any (by kernel_rfl) ?_
      change wpAny _ _ _ _ _ _ _ (World.drew _)
      have hS : (fun w' : World => RmBlk w' w.heap.size (some ⟨b, o, none⟩) n c ∧ EBlk w' (w.heap.size + 1) ⟨kx, tx, ox, vx, ux⟩ ∧ RmBlk w' (w.heap.size + 1 + 1) none 0 0 ∧ RowAt w' b (o + k * 5) ⟨ky, ty, oy, vy, uy⟩ ∧ Below w.heap.size w w') wr.drew := ⟨k1, k2, k3, rr, b2.drew⟩
      refine wpAny_of_held (S := fun w' => RmBlk w' w.heap.size (some ⟨b, o, none⟩) n c ∧ EBlk w' (w.heap.size + 1) ⟨kx, tx, ox, vx, ux⟩ ∧ RmBlk w' (w.heap.size + 1 + 1) none 0 0 ∧ RowAt w' b (o + k * 5) ⟨ky, ty, oy, vy, uy⟩ ∧ Below w.heap.size w w') _ _ _ _ ?_
      clear k1 k2 k3 rr b2
      refine wpAnyH_takeE (i := 0) (some 18) (v := ?_) rfl rfl (by as_aux_lemma => kernel_rfl) (by as_aux_lemma => kernel_rfl) (by as_aux_lemma => kernel_rfl) (fun _ _ _ h => h) (Or.inl ⟨by kernel_rfl, ?_⟩) hS ?_
      rotate_left
      · intro w hSw; have c0 := hSw.1.c0; have e0 := hSw.2.1.c0; have e1 := hSw.2.1.c1; have e2 := hSw.2.1.c2; have e3 := hSw.2.1.c3; have e4 := hSw.2.1.c4; dsimp only at e0 e1 e2 e3 e4; obtain ⟨d0, d1, d2, d3, d4⟩ := hSw.2.2.2.1; dsimp only at d0 d1 d2 d3 d4; go_simp
        first | done | with_reducible rfl
      refine wpAnyH_takeE (i := 1) (some 19) (v := ?_) rfl rfl (by as_aux_lemma => kernel_rfl) (by as_aux_lemma => kernel_rfl) (by as_aux_lemma => kernel_rfl) (fun _ _ _ h => h) (Or.inl ⟨by kernel_rfl, ?_⟩) hS ?_
      rotate_left
      · intro w hSw; have c0 := hSw.1.c0; have e0 := hSw.2.1.c0; have e1 := hSw.2.1.c1; have e2 := hSw.2.1.c2; have e3 := hSw.2.1.c3; have e4 := hSw.2.1.c4; dsimp only at e0 e1 e2 e3 e4; obtain ⟨d0, d1, d2, d3, d4⟩ := hSw.2.2.2.1; dsimp only at d0 d1 d2 d3 d4; go_simp
        first | done | with_reducible rfl
      refine wpAnyH_takeE (i := 2) (some 20) (v := ?_) rfl rfl (by as_aux_lemma => kernel_rfl) (by as_aux_lemma => kernel_rfl) (by as_aux_lemma => kernel_rfl) (fun _ _ _ h => h) (Or.inl ⟨by kernel_rfl, ?_⟩) hS ?_
      rotate_left
      · intro w hSw; have c0 := hSw.1.c0; have e0 := hSw.2.1.c0; have e1 := hSw.2.1.c1; have e2 := hSw.2.1.c2; have e3 := hSw.2.1.c3; have e4 := hSw.2.1.c4; dsimp only at e0 e1 e2 e3 e4; obtain ⟨d0, d1, d2, d3, d4⟩ := hSw.2.2.2.1; dsimp only at d0 d1 d2 d3 d4; go_simp
        first | done | with_reducible rfl
      refine wpAnyH_takeE (i := 3) (some 21) (v := ?_) rfl rfl (by as_aux_lemma => kernel_rfl) (by as_aux_lemma => kernel_rfl) (by as_aux_lemma => kernel_rfl) (fun _ _ _ h => h) (Or.inl ⟨by kernel_rfl, ?_⟩) hS ?_
      rotate_left
      · intro w hSw; have c0 := hSw.1.c0; have e0 := hSw.2.1.c0; have e1 := hSw.2.1.c1; have e2 := hSw.2.1.c2; have e3 := hSw.2.1.c3; have e4 := hSw.2.1.c4; dsimp only at e0 e1 e2 e3 e4; obtain ⟨d0, d1, d2, d3, d4⟩ := hSw.2.2.2.1; dsimp only at d0 d1 d2 d3 d4; go_simp
        first | done | with_reducible rfl
      refine wpAnyH_takeE (i := 4) (some 22) (v := ?_) rfl rfl (by as_aux_lemma => kernel_rfl) (by as_aux_lemma => kernel_rfl) (by as_aux_lemma => kernel_rfl) (fun _ _ _ h => h) (Or.inl ⟨by kernel_rfl, ?_⟩) hS ?_
      rotate_left
      · intro w hSw; have c0 := hSw.1.c0; have e0 := hSw.2.1.c0; have e1 := hSw.2.1.c1; have e2 := hSw.2.1.c2; have e3 := hSw.2.1.c3; have e4 := hSw.2.1.c4; dsimp only at e0 e1 e2 e3 e4; obtain ⟨d0, d1, d2, d3, d4⟩ := hSw.2.2.2.1; dsimp only at d0 d1 d2 d3 d4; go_simp
        first | done | with_reducible rfl
      refine wpAnyH_takeE (i := 5) (some 23) (v := ?_) rfl rfl (by as_aux_lemma => kernel_rfl) (by as_aux_lemma => kernel_rfl) (by as_aux_lemma => kernel_rfl) (fun _ _ _ h => h) (Or.inl ⟨by kernel_rfl, ?_⟩) hS ?_
      rotate_left
      · intro w hSw; have c0 := hSw.1.c0; have e0 := hSw.2.1.c0; have e1 := hSw.2.1.c1; have e2 := hSw.2.1.c2; have e3 := hSw.2.1.c3; have e4 := hSw.2.1.c4; dsimp only at e0 e1 e2 e3 e4; obtain ⟨d0, d1, d2, d3, d4⟩ := hSw.2.2.2.1; dsimp only at d0 d1 d2 d3 d4; go_simp
        first | done | with_reducible rfl
      refine wpAnyH_takeE (i := 6) (some 24) (v := ?_) rfl rfl (by as_aux_lemma => kernel_rfl) (by as_aux_lemma => kernel_rfl) (by as_aux_lemma => kernel_rfl) (fun _ _ _ h => h) (Or.inl ⟨by kernel_rfl, ?_⟩) hS ?_
      rotate_left
      · intro w hSw; have c0 := hSw.1.c0; have e0 := hSw.2.1.c0; have e1 := hSw.2.1.c1; have e2 := hSw.2.1.c2; have e3 := hSw.2.1.c3; have e4 := hSw.2.1.c4; dsimp only at e0 e1 e2 e3 e4; obtain ⟨d0, d1, d2, d3, d4⟩ := hSw.2.2.2.1; dsimp only at d0 d1 d2 d3 d4; go_simp
        first | done | with_reducible rfl
      refine wpAnyH_takeE (i := 7) (some 25) (v := ?_) rfl rfl (by as_aux_lemma => kernel_rfl) (by as_aux_lemma => kernel_rfl) (by as_aux_lemma => kernel_rfl) (fun _ _ _ h => h) (Or.inl ⟨by kernel_rfl, ?_⟩) hS ?_
      rotate_left
      · intro w hSw; have c0 := hSw.1.c0; have e0 := hSw.2.1.c0; have e1 := hSw.2.1.c1; have e2 := hSw.2.1.c2; have e3 := hSw.2.1.c3; have e4 := hSw.2.1.c4; dsimp only at e0 e1 e2 e3 e4; obtain ⟨d0, d1, d2, d3, d4⟩ := hSw.2.2.2.1; dsimp only at d0 d1 d2 d3 d4; go_simp
        first | done | with_reducible rfl
      refine wpAnyH_takeE (i := 8) (some 26) (v := ?_) rfl rfl (by as_aux_lemma => kernel_rfl) (by as_aux_lemma => kernel_rfl) (by as_aux_lemma => kernel_rfl) (fun _ _ _ h => h) (Or.inl ⟨by kernel_rfl, ?_⟩) hS ?_
      rotate_left
      · intro w hSw; have c0 := hSw.1.c0; have e0 := hSw.2.1.c0; have e1 := hSw.2.1.c1; have e2 := hSw.2.1.c2; have e3 := hSw.2.1.c3; have e4 := hSw.2.1.c4; dsimp only at e0 e1 e2 e3 e4; obtain ⟨d0, d1, d2, d3, d4⟩ := hSw.2.2.2.1; dsimp only at d0 d1 d2 d3 d4; go_simp
        first | done | with_reducible rfl
      refine wpAnyH_takeE (i := 9) (some 27) (v := ?_) rfl rfl (by as_aux_lemma => kernel_rfl) (by as_aux_lemma => kernel_rfl) (by as_aux_lemma => kernel_rfl) (fun _ _ _ h => h) (Or.inl ⟨by kernel_rfl, ?_⟩) hS ?_
      rotate_left
      · intro w hSw; have c0 := hSw.1.c0; have e0 := hSw.2.1.c0; have e1 := hSw.2.1.c1; have e2 := hSw.2.1.c2; have e3 := hSw.2.1.c3; have e4 := hSw.2.1.c4; dsimp only at e0 e1 e2 e3 e4; obtain ⟨d0, d1, d2, d3, d4⟩ := hSw.2.2.2.1; dsimp only at d0 d1 d2 d3 d4; go_simp
        first | done | with_reducible rfl
      refine wpAnyH_takeE (i := 10) (some 28) (v := ?_) rfl rfl (by as_aux_lemma => kernel_rfl) (by as_aux_lemma => kernel_rfl) (by as_aux_lemma => kernel_rfl) (fun _ _ _ h => h) (Or.inl ⟨by kernel_rfl, ?_⟩) hS ?_
      rotate_left
      · intro w hSw; have c0 := hSw.1.c0; have e0 := hSw.2.1.c0; have e1 := hSw.2.1.c1; have e2 := hSw.2.1.c2; have e3 := hSw.2.1.c3; have e4 := hSw.2.1.c4; dsimp only at e0 e1 e2 e3 e4; obtain ⟨d0, d1, d2, d3, d4⟩ := hSw.2.2.2.1; dsimp only at d0 d1 d2 d3 d4; go_simp
        first | done | with_reducible rfl
      refine wpAnyH_takeE (i := 11) (some 29) (v := ?_) rfl rfl (by as_aux_lemma => kernel_rfl) (by as_aux_lemma => kernel_rfl) (by as_aux_lemma => kernel_rfl) (fun _ _ _ h => h) (Or.inl ⟨by kernel_rfl, ?_⟩) hS ?_
      rotate_left
      · intro w hSw; have c0 := hSw.1.c0; have e0 := hSw.2.1.c0; have e1 := hSw.2.1.c1; have e2 := hSw.2.1.c2; have e3 := hSw.2.1.c3; have e4 := hSw.2.1.c4; dsimp only at e0 e1 e2 e3 e4; obtain ⟨d0, d1, d2, d3, d4⟩ := hSw.2.2.2.1; dsimp only at d0 d1 d2 d3 d4; go_simp
        first | done | with_reducible rfl
      refine wpAnyH_takeE (i := 12) (some 30) (v := ?_) rfl rfl (by as_aux_lemma => kernel_rfl) (by as_aux_lemma => kernel_rfl) (by as_aux_lemma => kernel_rfl) (fun _ _ _ h => h) (Or.inl ⟨by kernel_rfl, ?_⟩) hS ?_
      rotate_left
      · intro w hSw; have c0 := hSw.1.c0; have e0 := hSw.2.1.c0; have e1 := hSw.2.1.c1; have e2 := hSw.2.1.c2; have e3 := hSw.2.1.c3; have e4 := hSw.2.1.c4; dsimp only at e0 e1 e2 e3 e4; obtain ⟨d0, d1, d2, d3, d4⟩ := hSw.2.2.2.1; dsimp only at d0 d1 d2 d3 d4; go_simp
        first | done | with_reducible rfl
      refine wpAnyH_takeE (i := 13) (some 31) (v := ?_) rfl rfl (by as_aux_lemma => kernel_rfl) (by as_aux_lemma => kernel_rfl) (by as_aux_lemma => kernel_rfl) (fun _ _ _ h => h) (Or.inl ⟨by kernel_rfl, ?_⟩) hS ?_
      rotate_left
      · intro w hSw; have c0 := hSw.1.c0; have e0 := hSw.2.1.c0; have e1 := hSw.2.1.c1; have e2 := hSw.2.1.c2; have e3 := hSw.2.1.c3; have e4 := hSw.2.1.c4; dsimp only at e0 e1 e2 e3 e4; obtain ⟨d0, d1, d2, d3, d4⟩ := hSw.2.2.2.1; dsimp only at d0 d1 d2 d3 d4; go_simp
        first | done | with_reducible rfl
      refine wpAnyH_takeE (i := 14) (some 32) (v := ?_) rfl rfl (by as_aux_lemma => kernel_rfl) (by as_aux_lemma => kernel_rfl) (by as_aux_lemma => kernel_rfl) (fun _ _ _ h => h) (Or.inl ⟨by kernel_rfl, ?_⟩) hS ?_
      rotate_left
      · intro w hSw; have c0 := hSw.1.c0; have e0 := hSw.2.1.c0; have e1 := hSw.2.1.c1; have e2 := hSw.2.1.c2; have e3 := hSw.2.1.c3; have e4 := hSw.2.1.c4; dsimp only at e0 e1 e2 e3 e4; obtain ⟨d0, d1, d2, d3, d4⟩ := hSw.2.2.2.1; dsimp only at d0 d1 d2 d3 d4; go_simp
        first | done | with_reducible rfl
      refine wpAnyH_takeE (i := 15) (some 33) (v := ?_) rfl rfl (by as_aux_lemma => kernel_rfl) (by as_aux_lemma => kernel_rfl) (by as_aux_lemma => kernel_rfl) (fun _ _ _ h => h) (Or.inl ⟨by kernel_rfl, ?_⟩) hS ?_
      rotate_left
      · intro w hSw; have c0 := hSw.1.c0; have e0 := hSw.2.1.c0; have e1 := hSw.2.1.c1; have e2 := hSw.2.1.c2; have e3 := hSw.2.1.c3; have e4 := hSw.2.1.c4; dsimp only at e0 e1 e2 e3 e4; obtain ⟨d0, d1, d2, d3, d4⟩ := hSw.2.2.2.1; dsimp only at d0 d1 d2 d3 d4; go_simp
        first | done | with_reducible rfl
      have H5 := Lib.hid hS
      refine wpAnyH_done (by kernel_rfl) ?_ _
      clear hS
      go_simp
      go_wp2_with fail
      have h5 := H5.out
      clear H5
      refine wp_region_any (by kernel_rfl) ?_
      change wpAny _ _ _ _ _ _ _ (World.drew _)
      have hS : (fun w' : World => RmBlk w' w.heap.size (some ⟨b, o, none⟩) n c ∧ EBlk w' (w.heap.size + 1) ⟨kx, tx, ox, vx, ux⟩ ∧ RmBlk w' (w.heap.size + 1 + 1) none 0 0 ∧ RowAt w' b (o + k * 5) ⟨ky, ty, oy, vy, uy⟩ ∧ Below w.heap.size w w') wr.drew.drew := ⟨h5.1, h5.2.1, h5.2.2.1, h5.2.2.2.1, h5.2.2.2.2.drew⟩
      refine wpAny_of_held (S := fun w' => RmBlk w' w.heap.size (some ⟨b, o, none⟩) n c ∧ EBlk w' (w.heap.size + 1) ⟨kx, tx, ox, vx, ux⟩ ∧ RmBlk w' (w.heap.size + 1 + 1) none 0 0 ∧ RowAt w' b (o + k * 5) ⟨ky, ty, oy, vy, uy⟩ ∧ Below w.heap.size w w') _ _ _ _ ?_
      clear h5
      refine wpAnyH_takeE (i := 0) (some 36) (v := ?_) rfl rfl (by as_aux_lemma => kernel_rfl) (by as_aux_lemma => kernel_rfl) (by as_aux_lemma => kernel_rfl) (fun _ _ _ h => h) (Or.inl ⟨by kernel_rfl, ?_⟩) hS ?_
      rotate_left
      · intro w hSw; have c0 := hSw.1.c0; have e0 := hSw.2.1.c0; have e1 := hSw.2.1.c1; have e2 := hSw.2.1.c2; have e3 := hSw.2.1.c3; have e4 := hSw.2.1.c4; dsimp only at e0 e1 e2 e3 e4; obtain ⟨d0, d1, d2, d3, d4⟩ := hSw.2.2.2.1; dsimp only at d0 d1 d2 d3 d4; go_simp
        first | done | with_reducible rfl
      refine wpAnyH_takeE (i := 1) (some 37) (v := ?_) rfl rfl (by as_aux_lemma => kernel_rfl) (by as_aux_lemma => kernel_rfl) (by as_aux_lemma => kernel_rfl) (fun _ _ _ h => h) (Or.inl ⟨by kernel_rfl, ?_⟩) hS ?_
      rotate_left
      · intro w hSw; have c0 := hSw.1.c0; have e0 := hSw.2.1.c0; have e1 := hSw.2.1.c1; have e2 := hSw.2.1.c2; have e3 := hSw.2.1.c3; have e4 := hSw.2.1.c4; dsimp only at e0 e1 e2 e3 e4; obtain ⟨d0, d1, d2, d3, d4⟩ := hSw.2.2.2.1; dsimp only at d0 d1 d2 d3 d4; go_simp
        first | done | with_reducible rfl
      refine wpAnyH_takeE (i := 2) (some 38) (v := ?_) rfl rfl (by as_aux_lemma => kernel_rfl) (by as_aux_lemma => kernel_rfl) (by as_aux_lemma => kernel_rfl) (fun _ _ _ h => h) (Or.inl ⟨by kernel_rfl, ?_⟩) hS ?_
      rotate_left
      · intro w hSw; have c0 := hSw.1.c0; have e0 := hSw.2.1.c0; have e1 := hSw.2.1.c1; have e2 := hSw.2.1.c2; have e3 := hSw.2.1.c3; have e4 := hSw.2.1.c4; dsimp only at e0 e1 e2 e3 e4; obtain ⟨d0, d1, d2, d3, d4⟩ := hSw.2.2.2.1; dsimp only at d0 d1 d2 d3 d4; go_simp
        first | done | with_reducible rfl
      refine wpAnyH_takeE (i := 3) (some 39) (v := ?_) rfl rfl (by as_aux_lemma => kernel_rfl) (by as_aux_lemma => kernel_rfl) (by as_aux_lemma => kernel_rfl) (fun _ _ _ h => h) (Or.inl ⟨by kernel_rfl, ?_⟩) hS ?_
      rotate_left
      · intro w hSw; have c0 := hSw.1.c0; have e0 := hSw.2.1.c0; have e1 := hSw.2.1.c1; have e2 := hSw.2.1.c2; have e3 := hSw.2.1.c3; have e4 := hSw.2.1.c4; dsimp only at e0 e1 e2 e3 e4; obtain ⟨d0, d1, d2, d3, d4⟩ := hSw.2.2.2.1; dsimp only at d0 d1 d2 d3 d4; go_simp
        first | done | with_reducible rfl
      refine wpAnyH_takeE (i := 4) (some 40) (v := ?_) rfl rfl (by as_aux_lemma => kernel_rfl) (by as_aux_lemma => kernel_rfl) (by as_aux_lemma => kernel_rfl) (fun _ _ _ h => h) (Or.inl ⟨by kernel_rfl, ?_⟩) hS ?_
      rotate_left
      · intro w hSw; have c0 := hSw.1.c0; have e0 := hSw.2.1.c0; have e1 := hSw.2.1.c1; have e2 := hSw.2.1.c2; have e3 := hSw.2.1.c3; have e4 := hSw.2.1.c4; dsimp only at e0 e1 e2 e3 e4; obtain ⟨d0, d1, d2, d3, d4⟩ := hSw.2.2.2.1; dsimp only at d0 d1 d2 d3 d4; go_simp
        first | done | with_reducible rfl
      refine wpAnyH_takeE (i := 5) (some 41) (v := ?_) rfl rfl (by as_aux_lemma => kernel_rfl) (by as_aux_lemma => kernel_rfl) (by as_aux_lemma => kernel_rfl) (fun _ _ _ h => h) (Or.inl ⟨by kernel_rfl, ?_⟩) hS ?_
      rotate_left
      · intro w hSw; have c0 := hSw.1.c0; have e0 := hSw.2.1.c0; have e1 := hSw.2.1.c1; have e2 := hSw.2.1.c2; have e3 := hSw.2.1.c3; have e4 := hSw.2.1.c4; dsimp only at e0 e1 e2 e3 e4; obtain ⟨d0, d1, d2, d3, d4⟩ := hSw.2.2.2.1; dsimp only at d0 d1 d2 d3 d4; go_simp
        first | done | with_reducible rfl
      refine wpAnyH_takeE (i := 6) (some 42) (v := ?_) rfl rfl (by as_aux_lemma => kernel_rfl) (by as_aux_lemma => kernel_rfl) (by as_aux_lemma => kernel_rfl) (fun _ _ _ h => h) (Or.inl ⟨by kernel_rfl, ?_⟩) hS ?_
      rotate_left
      · intro w hSw; have c0 := hSw.1.c0; have e0 := hSw.2.1.c0; have e1 := hSw.2.1.c1; have e2 := hSw.2.1.c2; have e3 := hSw.2.1.c3; have e4 := hSw.2.1.c4; dsimp only at e0 e1 e2 e3 e4; obtain ⟨d0, d1, d2, d3, d4⟩ := hSw.2.2.2.1; dsimp only at d0 d1 d2 d3 d4; go_simp
        first | done | with_reducible rfl
      refine wpAnyH_takeE (i := 7) (some 43) (v := ?_) rfl rfl (by as_aux_lemma => kernel_rfl) (by as_aux_lemma => kernel_rfl) (by as_aux_lemma => kernel_rfl) (fun _ _ _ h => h) (Or.inl ⟨by kernel_rfl, ?_⟩) hS ?_
      rotate_left
      · intro w hSw; have c0 := hSw.1.c0; have e0 := hSw.2.1.c0; have e1 := hSw.2.1.c1; have e2 := hSw.2.1.c2; have e3 := hSw.2.1.c3; have e4 := hSw.2.1.c4; dsimp only at e0 e1 e2 e3 e4; obtain ⟨d0, d1, d2, d3, d4⟩ := hSw.2.2.2.1; dsimp only at d0 d1 d2 d3 d4; go_simp
        first | done | with_reducible rfl
      refine wpAnyH_takeE (i := 8) (some 44) (v := ?_) rfl rfl (by as_aux_lemma => kernel_rfl) (by as_aux_lemma => kernel_rfl) (by as_aux_lemma => kernel_rfl) (fun _ _ _ h => h) (Or.inl ⟨by kernel_rfl, ?_⟩) hS ?_
      rotate_left
      · intro w hSw; have c0 := hSw.1.c0; have e0 := hSw.2.1.c0; have e1 := hSw.2.1.c1; have e2 := hSw.2.1.c2; have e3 := hSw.2.1.c3; have e4 := hSw.2.1.c4; dsimp only at e0 e1 e2 e3 e4; obtain ⟨d0, d1, d2, d3, d4⟩ := hSw.2.2.2.1; dsimp only at d0 d1 d2 d3 d4; go_simp
        first | done | with_reducible rfl
      refine wpAnyH_takeE (i := 9) (some 45) (v := ?_) rfl rfl (by as_aux_lemma => kernel_rfl) (by as_aux_lemma => kernel_rfl) (by as_aux_lemma => kernel_rfl) (fun _ _ _ h => h) (Or.inl ⟨by kernel_rfl, ?_⟩) hS ?_
      rotate_left
      · intro w hSw; have c0 := hSw.1.c0; have e0 := hSw.2.1.c0; have e1 := hSw.2.1.c1; have e2 := hSw.2.1.c2; have e3 := hSw.2.1.c3; have e4 := hSw.2.1.c4; dsimp only at e0 e1 e2 e3 e4; obtain ⟨d0, d1, d2, d3, d4⟩ := hSw.2.2.2.1; dsimp only at d0 d1 d2 d3 d4; go_simp
        first | done | with_reducible rfl
      refine wpAnyH_takeE (i := 10) (some 46) (v := ?_) rfl rfl (by as_aux_lemma => kernel_rfl) (by as_aux_lemma => kernel_rfl) (by as_aux_lemma => kernel_rfl) (fun _ _ _ h => h) (Or.inl ⟨by kernel_rfl, ?_⟩) hS ?_
      rotate_left
      · intro w hSw; have c0 := hSw.1.c0; have e0 := hSw.2.1.c0; have e1 := hSw.2.1.c1; have e2 := hSw.2.1.c2; have e3 := hSw.2.1.c3; have e4 := hSw.2.1.c4; dsimp only at e0 e1 e2 e3 e4; obtain ⟨d0, d1, d2, d3, d4⟩ := hSw.2.2.2.1; dsimp only at d0 d1 d2 d3 d4; go_simp
        first | done | with_reducible rfl
      refine wpAnyH_takeE (i := 11) (some 47) (v := ?_) rfl rfl (by as_aux_lemma => kernel_rfl) (by as_aux_lemma => kernel_rfl) (by as_aux_lemma => kernel_rfl) (fun _ _ _ h => h) (Or.inl ⟨by kernel_rfl, ?_⟩) hS ?_
      rotate_left
      · intro w hSw; have c0 := hSw.1.c0; have e0 := hSw.2.1.c0; have e1 := hSw.2.1.c1; have e2 := hSw.2.1.c2; have e3 := hSw.2.1.c3; have e4 := hSw.2.1.c4; dsimp only at e0 e1 e2 e3 e4; obtain ⟨d0, d1, d2, d3, d4⟩ := hSw.2.2.2.1; dsimp only at d0 d1 d2 d3 d4; go_simp
        first | done | with_reducible rfl
      refine wpAnyH_takeE (i := 12) (some 48) (v := ?_) rfl rfl (by as_aux_lemma => kernel_rfl) (by as_aux_lemma => kernel_rfl) (by as_aux_lemma => kernel_rfl) (fun _ _ _ h => h) (Or.inl ⟨by kernel_rfl, ?_⟩) hS ?_
      rotate_left
      · intro w hSw; have c0 := hSw.1.c0; have e0 := hSw.2.1.c0; have e1 := hSw.2.1.c1; have e2 := hSw.2.1.c2; have e3 := hSw.2.1.c3; have e4 := hSw.2.1.c4; dsimp only at e0 e1 e2 e3 e4; obtain ⟨d0, d1, d2, d3, d4⟩ := hSw.2.2.2.1; dsimp only at d0 d1 d2 d3 d4; go_simp
        first | done | with_reducible rfl
      refine wpAnyH_takeE (i := 13) (some 49) (v := ?_) rfl rfl (by as_aux_lemma => kernel_rfl) (by as_aux_lemma => kernel_rfl) (by as_aux_lemma => kernel_rfl) (fun _ _ _ h => h) (Or.inl ⟨by kernel_rfl, ?_⟩) hS ?_
      rotate_left
      · intro w hSw; have c0 := hSw.1.c0; have e0 := hSw.2.1.c0; have e1 := hSw.2.1.c1; have e2 := hSw.2.1.c2; have e3 := hSw.2.1.c3; have e4 := hSw.2.1.c4; dsimp only at e0 e1 e2 e3 e4; obtain ⟨d0, d1, d2, d3, d4⟩ := hSw.2.2.2.1; dsimp only at d0 d1 d2 d3 d4; go_simp
        first | done | with_reducible rfl
      refine wpAnyH_takeE (i := 14) (some 50) (v := ?_) rfl rfl (by as_aux_lemma => kernel_rfl) (by as_aux_lemma => kernel_rfl) (by as_aux_lemma => kernel_rfl) (fun _ _ _ h => h) (Or.inl ⟨by kernel_rfl, ?_⟩) hS ?_
      rotate_left
      · intro w hSw; have c0 := hSw.1.c0; have e0 := hSw.2.1.c0; have e1 := hSw.2.1.c1; have e2 := hSw.2.1.c2; have e3 := hSw.2.1.c3; have e4 := hSw.2.1.c4; dsimp only at e0 e1 e2 e3 e4; obtain ⟨d0, d1, d2, d3, d4⟩ := hSw.2.2.2.1; dsimp only at d0 d1 d2 d3 d4; go_simp
        first | done | with_reducible rfl
      refine wpAnyH_takeE (i := 15) (some 51) (v := ?_) rfl rfl (by as_aux_lemma => kernel_rfl) (by as_aux_lemma => kernel_rfl) (by as_aux_lemma => kernel_rfl) (fun _ _ _ h => h) (Or.inl ⟨by kernel_rfl, ?_⟩) hS ?_
      rotate_left
      · intro w hSw; have c0 := hSw.1.c0; have e0 := hSw.2.1.c0; have e1 := hSw.2.1.c1; have e2 := hSw.2.1.c2; have e3 := hSw.2.1.c3; have e4 := hSw.2.1.c4; dsimp only at e0 e1 e2 e3 e4; obtain ⟨d0, d1, d2, d3, d4⟩ := hSw.2.2.2.1; dsimp only at d0 d1 d2 d3 d4; go_simp
        first | done | with_reducible rfl
      refine wpAnyH_takeE (i := 16) (some 9) (v := ?_) rfl rfl (by as_aux_lemma => kernel_rfl) (by as_aux_lemma => kernel_rfl) (by as_aux_lemma => kernel_rfl) (fun _ _ _ h => h) (Or.inl ⟨by kernel_rfl, ?_⟩) hS ?_
      rotate_left
      · intro w hSw; have c0 := hSw.1.c0; have e0 := hSw.2.1.c0; have e1 := hSw.2.1.c1; have e2 := hSw.2.1.c2; have e3 := hSw.2.1.c3; have e4 := hSw.2.1.c4; dsimp only at e0 e1 e2 e3 e4; obtain ⟨d0, d1, d2, d3, d4⟩ := hSw.2.2.2.1; dsimp only at d0 d1 d2 d3 d4; go_simp
        first | done | with_reducible rfl
      have H5 := Lib.hid hS
      refine wpAnyH_done (by kernel_rfl) ?_ _
      clear hS
      go_simp
      go_wp2_with fail
      have h5 := H5.out
      clear H5
      refine wp_region_any (by kernel_rfl) ?_
      change wpAny _ _ _ _ _ _ _ (World.drew _)
      have hS : (fun w' : World => RmBlk w' w.heap.size (some ⟨b, o, none⟩) n c ∧ EBlk w' (w.heap.size + 1) ⟨kx, tx, ox, vx, ux⟩ ∧ RmBlk w' (w.heap.size + 1 + 1) none 0 0 ∧ RowAt w' b (o + k * 5) ⟨ky, ty, oy, vy, uy⟩ ∧ Below w.heap.size w w') wr.drew.drew.drew := ⟨h5.1, h5.2.1, h5.2.2.1, h5.2.2.2.1, h5.2.2.2.2.drew⟩
      refine wpAny_of_held (S := fun w' => RmBlk w' w.heap.size (some ⟨b, o, none⟩) n c ∧ EBlk w' (w.heap.size + 1) ⟨kx, tx, ox, vx, ux⟩ ∧ RmBlk w' (w.heap.size + 1 + 1) none 0 0 ∧ RowAt w' b (o + k * 5) ⟨ky, ty, oy, vy, uy⟩ ∧ Below w.heap.size w w') _ _ _ _ ?_
      clear h5
      refine wpAnyH_takeE (i := 0) (some 54) (v := ?_) rfl rfl (by as_aux_lemma => kernel_rfl) (by as_aux_lemma => kernel_rfl) (by as_aux_lemma => kernel_rfl) (fun _ _ _ h => h) (Or.inl ⟨by kernel_rfl, ?_⟩) hS ?_
      rotate_left
      · intro w hSw; have c0 := hSw.1.c0; have e0 := hSw.2.1.c0; have e1 := hSw.2.1.c1; have e2 := hSw.2.1.c2; have e3 := hSw.2.1.c3; have e4 := hSw.2.1.c4; dsimp only at e0 e1 e2 e3 e4; obtain ⟨d0, d1, d2, d3, d4⟩ := hSw.2.2.2.1; dsimp only at d0 d1 d2 d3 d4; go_simp
        first | done | with_reducible rfl
      refine wpAnyH_takeE (i := 1) (some 55) (v := ?_) rfl rfl (by as_aux_lemma => kernel_rfl) (by as_aux_lemma => kernel_rfl) (by as_aux_lemma => kernel_rfl) (fun _ _ _ h => h) (Or.inl ⟨by kernel_rfl, ?_⟩) hS ?_
      rotate_left
      · intro w hSw; have c0 := hSw.1.c0; have e0 := hSw.2.1.c0; have e1 := hSw.2.1.c1; have e2 := hSw.2.1.c2; have e3 := hSw.2.1.c3; have e4 := hSw.2.1.c4; dsimp only at e0 e1 e2 e3 e4; obtain ⟨d0, d1, d2, d3, d4⟩ := hSw.2.2.2.1; dsimp only at d0 d1 d2 d3 d4; go_simp
        first | done | with_reducible rfl
      refine wpAnyH_takeE (i := 2) (some 56) (v := ?_) rfl rfl (by as_aux_lemma => kernel_rfl) (by as_aux_lemma => kernel_rfl) (by as_aux_lemma => kernel_rfl) (fun _ _ _ h => h) (Or.inl ⟨by kernel_rfl, ?_⟩) hS ?_
      rotate_left
      · intro w hSw; have c0 := hSw.1.c0; have e0 := hSw.2.1.c0; have e1 := hSw.2.1.c1; have e2 := hSw.2.1.c2; have e3 := hSw.2.1.c3; have e4 := hSw.2.1.c4; dsimp only at e0 e1 e2 e3 e4; obtain ⟨d0, d1, d2, d3, d4⟩ := hSw.2.2.2.1; dsimp only at d0 d1 d2 d3 d4; go_simp
        first | done | with_reducible rfl
      refine wpAnyH_takeE (i := 3) (some 57) (v := ?_) rfl rfl (by as_aux_lemma => kernel_rfl) (by as_aux_lemma => kernel_rfl) (by as_aux_lemma => kernel_rfl) (fun _ _ _ h => h) (Or.inl ⟨by kernel_rfl, ?_⟩) hS ?_
      rotate_left
      · intro w hSw; have c0 := hSw.1.c0; have e0 := hSw.2.1.c0; have e1 := hSw.2.1.c1; have e2 := hSw.2.1.c2; have e3 := hSw.2.1.c3; have e4 := hSw.2.1.c4; dsimp only at e0 e1 e2 e3 e4; obtain ⟨d0, d1, d2, d3, d4⟩ := hSw.2.2.2.1; dsimp only at d0 d1 d2 d3 d4; go_simp
        first | done | with_reducible rfl
      refine wpAnyH_takeE (i := 4) (some 58) (v := ?_) rfl rfl (by as_aux_lemma => kernel_rfl) (by as_aux_lemma => kernel_rfl) (by as_aux_lemma => kernel_rfl) (fun _ _ _ h => h) (Or.inl ⟨by kernel_rfl, ?_⟩) hS ?_
      rotate_left
      · intro w hSw; have c0 := hSw.1.c0; have e0 := hSw.2.1.c0; have e1 := hSw.2.1.c1; have e2 := hSw.2.1.c2; have e3 := hSw.2.1.c3; have e4 := hSw.2.1.c4; dsimp only at e0 e1 e2 e3 e4; obtain ⟨d0, d1, d2, d3, d4⟩ := hSw.2.2.2.1; dsimp only at d0 d1 d2 d3 d4; go_simp
        first | done | with_reducible rfl
      refine wpAnyH_takeE (i := 5) (some 59) (v := ?_) rfl rfl (by as_aux_lemma => kernel_rfl) (by as_aux_lemma => kernel_rfl) (by as_aux_lemma => kernel_rfl) (fun _ _ _ h => h) (Or.inl ⟨by kernel_rfl, ?_⟩) hS ?_
      rotate_left
      · intro w hSw; have c0 := hSw.1.c0; have e0 := hSw.2.1.c0; have e1 := hSw.2.1.c1; have e2 := hSw.2.1.c2; have e3 := hSw.2.1.c3; have e4 := hSw.2.1.c4; dsimp only at e0 e1 e2 e3 e4; obtain ⟨d0, d1, d2, d3, d4⟩ := hSw.2.2.2.1; dsimp only at d0 d1 d2 d3 d4; go_simp
        first | done | with_reducible rfl
      refine wpAnyH_takeE (i := 6) (some 60) (v := ?_) rfl rfl (by as_aux_lemma => kernel_rfl) (by as_aux_lemma => kernel_rfl) (by as_aux_lemma => kernel_rfl) (fun _ _ _ h => h) (Or.inl ⟨by kernel_rfl, ?_⟩) hS ?_
      rotate_left
      · intro w hSw; have c0 := hSw.1.c0; have e0 := hSw.2.1.c0; have e1 := hSw.2.1.c1; have e2 := hSw.2.1.c2; have e3 := hSw.2.1.c3; have e4 := hSw.2.1.c4; dsimp only at e0 e1 e2 e3 e4; obtain ⟨d0, d1, d2, d3, d4⟩ := hSw.2.2.2.1; dsimp only at d0 d1 d2 d3 d4; go_simp
        first | done | with_reducible rfl
      refine wpAnyH_takeE (i := 7) (some 61) (v := ?_) rfl rfl (by as_aux_lemma => kernel_rfl) (by as_aux_lemma => kernel_rfl) (by as_aux_lemma => kernel_rfl) (fun _ _ _ h => h) (Or.inl ⟨by kernel_rfl, ?_⟩) hS ?_
      rotate_left
      · intro w hSw; have c0 := hSw.1.c0; have e0 := hSw.2.1.c0; have e1 := hSw.2.1.c1; have e2 := hSw.2.1.c2; have e3 := hSw.2.1.c3; have e4 := hSw.2.1.c4; dsimp only at e0 e1 e2 e3 e4; obtain ⟨d0, d1, d2, d3, d4⟩ := hSw.2.2.2.1; dsimp only at d0 d1 d2 d3 d4; go_simp
        first | done | with_reducible rfl
      refine wpAnyH_ready (rs := [8]) (by as_aux_lemma => kernel_rfl) (by simp) ?_
      refine AllReadyH.cons rfl (fun K hK => ?_) AllReadyH.nil
      go_simp
      go_wp2_with (go_at_call 32; refine (HAb.out _).mono ?_; rintro e w9 ⟨rfl, q9⟩)
      refine hK.out _ _ ?_ (fun hS => ?_)
      · exact ⟨hS.1.on q9, hS.2.1.on q9, hS.2.2.1.on q9, hS.2.2.2.1.on q9, hS.2.2.2.2.trans (q9.mono hS.2.2.2.2.size)⟩
      clear hK K
      clear q9
      refine wpAnyH_takeE (i := 9) (some 63) (v := ?_) rfl rfl (by as_aux_lemma => kernel_rfl) (by as_aux_lemma => kernel_rfl) (by as_aux_lemma => kernel_rfl) (fun _ _ _ h => h) (Or.inl ⟨by kernel_rfl, ?_⟩) hS ?_
      rotate_left
      · intro w hSw; have c0 := hSw.1.c0; have e0 := hSw.2.1.c0; have e1 := hSw.2.1.c1; have e2 := hSw.2.1.c2; have e3 := hSw.2.1.c3; have e4 := hSw.2.1.c4; dsimp only at e0 e1 e2 e3 e4; obtain ⟨d0, d1, d2, d3, d4⟩ := hSw.2.2.2.1; dsimp only at d0 d1 d2 d3 d4; go_simp
        first | done | with_reducible rfl
      refine wpAnyH_takeE (i := 10) (some 64) (v := ?_) rfl rfl (by as_aux_lemma => kernel_rfl) (by as_aux_lemma => kernel_rfl) (by as_aux_lemma => kernel_rfl) (fun _ _ _ h => h) (Or.inl ⟨by kernel_rfl, ?_⟩) hS ?_
      rotate_left
      · intro w hSw; have c0 := hSw.1.c0; have e0 := hSw.2.1.c0; have e1 := hSw.2.1.c1; have e2 := hSw.2.1.c2; have e3 := hSw.2.1.c3; have e4 := hSw.2.1.c4; dsimp only at e0 e1 e2 e3 e4; obtain ⟨d0, d1, d2, d3, d4⟩ := hSw.2.2.2.1; dsimp only at d0 d1 d2 d3 d4; go_simp
        first | done | with_reducible rfl
      refine wpAnyH_takeE (i := 11) (some 53) (v := ?_) rfl rfl (by as_aux_lemma => kernel_rfl) (by as_aux_lemma => kernel_rfl) (by as_aux_lemma => kernel_rfl) (fun _ _ _ h => h) (Or.inl ⟨by kernel_rfl, ?_⟩) hS ?_
      rotate_left
      · intro w hSw; have c0 := hSw.1.c0; have e0 := hSw.2.1.c0; have e1 := hSw.2.1.c1; have e2 := hSw.2.1.c2; have e3 := hSw.2.1.c3; have e4 := hSw.2.1.c4; dsimp only at e0 e1 e2 e3 e4; obtain ⟨d0, d1, d2, d3, d4⟩ := hSw.2.2.2.1; dsimp only at d0 d1 d2 d3 d4; go_simp
        first | done | with_reducible rfl
      have H5 := Lib.hid hS
      refine wpAnyH_done (by kernel_rfl) ?_ _
      clear hS
      go_simp
      have h5 := H5.out
      clear H5
      have k1 : RmBlk (w9) w.heap.size (some ⟨b, o, none⟩) n c := h5.1
      have k2 : EBlk (w9) (w.heap.size + 1) ⟨kx, tx, ox, vx, ux⟩ := h5.2.1
      have k3 : RmBlk (w9) (w.heap.size + 1 + 1) none 0 0 := h5.2.2.1
      have b7 : Below w.heap.size w (w9) := h5.2.2.2.2
      clear h5
      have c0 := k1.c0
      have c3 := k3.c0; have f3 := k3.f 0
      have r0 := (k3.set (a' := (some ⟨b, o, none⟩)) (n' := n) (c' := c)).c0
      have b3 := b7.setCell (p := ⟨w.heap.size + 1 + 1, 0, none⟩) (by show w.heap.size ≤ w.heap.size + 1 + 1; omega) (.slice (some ⟨b, o, none⟩) n c)
      have HF := Lib.hid (And.intro (HH.out.below b3 (Nat.le_refl _)) b3)
      clear k1 k2 k3 b3 b7
      go_wp2
      exact bodyPost_ret (v := .tuple #[.agg #[.slice (some ⟨b, o, none⟩) n c], .bool false, .int .i64 0]) (by simp [results, Try.results25, go_sem, r0]) rfl ⟨(some ⟨b, o, none⟩), c, by rw [HQ.out.1, HQ.out.2.1, HQ.out.2.2, HNL.out], by rw [HQ.out.1]; exact HF.out.1, HF.out.2⟩

end Go.Proofs.Ytkbonifbnbdbkab
