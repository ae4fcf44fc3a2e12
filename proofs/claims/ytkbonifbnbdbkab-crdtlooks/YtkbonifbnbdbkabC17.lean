/-
  The reference's Put: where an entry is taken.
-/
import Derived.Test.YtkbonifbnbdbkabC16
namespace Go.Proofs.Ytkbonifbnbdbkab
open Go.RowKit Go.Maps

set_option maxRecDepth 100000 in
set_option maxHeartbeats 8000000 in
theorem crPut_new2 (a : Option Addr) (c : Nat) (S : List Ent) (kx : ByteArray) (tx ox : Int) (vx : ByteArray) (ux : Int) (w : World) (h : RefM w a c S) (hR : RisingC S) (hn : S.length ≤ 256) (n : Nat) (hnl : n = S.length) (hE : checkEn ⟨kx, tx, ox, vx, ux⟩ = 0) (P : Nat) (hP : placeC S (Ent.key ⟨kx, tx, ox, vx, ux⟩) = P) (hPm : P = n) (hgot : gotC S (Ent.key ⟨kx, tx, ox, vx, ux⟩) = none) (h6 : ¬ 256 ≤ S.length) (hat : isAtC S (Ent.key ⟨kx, tx, ox, vx, ux⟩) = false) : Calls Try.prog 25 #[.agg #[.slice a n c], .agg #[.string kx, .int .i64 tx, .int .u16 ox, .string vx, .int .i64 ux]] w (CPutPost w S ⟨kx, tx, ox, vx, ux⟩) := by
  have q2 : cputE S ⟨kx, tx, ox, vx, ux⟩ = 0 := by unfold cputE; rw [if_neg (by simp [hE]), if_neg (by rintro ⟨-, h⟩; omega)]
  have q1 : cputB S ⟨kx, tx, ox, vx, ux⟩ = true := by unfold cputB; rw [q2, hgot]; rfl
  have q0 : cputS S ⟨kx, tx, ox, vx, ux⟩ = S.take P ++ ⟨kx, tx, ox, vx, ux⟩ :: S.drop P := by unfold cputS; rw [q1, if_pos rfl, put_splitC hR, hP, hat]; rfl
  have HQ := Lib.hid (And.intro q0 (And.intro q1 q2))
  have h256 : n < 256 := by omega
  clear q0 q1 q2 hat hgot h6
  have HNL := Lib.hid hnl
  have hn2 : n ≤ 256 := by omega
  have d1 := (Below.refl w.heap.size w).alloc (Nat.le_refl _) (.cells #[.slice a n c] 30)
  have d2 := d1.alloc (by simp) (.cells #[.string kx, .int .i64 tx, .int .u16 ox, .string vx, .int .i64 ux] 36)
  have d3 := d2.alloc (by simp; omega) (.cells #[.slice none 0 0] 30)
  have s1 : (w.alloc (.cells #[.slice a n c] 30)).heap.size = w.heap.size + 1 := by simp
  have s2 : ((w.alloc (.cells #[.slice a n c] 30)).alloc (.cells #[.string kx, .int .i64 tx, .int .u16 ox, .string vx, .int .i64 ux] 36)).heap.size = w.heap.size + 1 + 1 := by simp
  have s3 : (((w.alloc (.cells #[.slice a n c] 30)).alloc (.cells #[.string kx, .int .i64 tx, .int .u16 ox, .string vx, .int .i64 ux] 36)).alloc (.cells #[.slice none 0 0] 30)).heap.size = w.heap.size + 1 + 1 + 1 := by simp
  have k1 := RmBlk.new w a n c
  have k2 := EBlk.new (w.alloc (.cells #[.slice a n c] 30)) ⟨kx, tx, ox, vx, ux⟩
  have k3 := RmBlk.new ((w.alloc (.cells #[.slice a n c] 30)).alloc (.cells #[.string kx, .int .i64 tx, .int .u16 ox, .string vx, .int .i64 ux] 36)) none 0 0
  rw [s1] at k2
  rw [s2] at k3
  replace k1 := (k1.below ((Below.refl _ _).alloc (Nat.le_refl _) (.cells #[.string kx, .int .i64 tx, .int .u16 ox, .string vx, .int .i64 ux] 36)) (by simp)).below ((Below.refl _ _).alloc (Nat.le_refl _) (.cells #[.slice none 0 0] 30)) (by simp; omega)
  replace k2 := k2.below ((Below.refl _ _).alloc (Nat.le_refl _) (.cells #[.slice none 0 0] 30)) (by simp)
  have HC := Lib.hid (eRefCheck_any ⟨kx, tx, ox, vx, ux⟩ (((w.alloc (.cells #[.slice a n c] 30)).alloc (.cells #[.string kx, .int .i64 tx, .int .u16 ox, .string vx, .int .i64 ux] 36)).alloc (.cells #[.slice none 0 0] 30)))
  dsimp only at HC
  have HW := Lib.hid (And.intro d3 (And.intro s3 (And.intro k1 (And.intro k2 k3))))
  have HH := Lib.hid h
  clear d1 d2 d3 s1 s2 s3 k1 k2 k3 hnl
  rw [hE] at HC
  unfold CPutPost
  have hPn : P ≤ n := by rw [HNL.out, ← hP]; exact placeC_le _ _
  have HPl : Hid (∀ j (hj : j < S.length), j < P → S[j].key < Ent.key ⟨kx, tx, ox, vx, ux⟩) := Lib.hid (fun j hj hjp => placeC_lt (by rw [hP]; exact hjp))
  have hc := h.2.1
  rw [← HNL.out] at hc
  have HPeq := Lib.hid hPm
  clear h hR hE hP hn hPm
  go_enter Try.func25, Try.ntmps25
  go_wp2_with (go_at_call 35; refine HC.out.mono ?_; rintro r w2 ⟨rfl, q2⟩; refine Hid.out ?_)
  refine Lib.hid ?_
  obtain ⟨d3, s3, k1, k2, k3⟩ := HW.out
  rw [s3] at q2
  replace k1 := k1.below q2 (by omega)
  replace k2 := k2.below q2 (by omega)
  replace k3 := k3.below q2 (by omega)
  have b2 := d3.trans (q2.mono (by omega))
  have HI := Lib.hid (And.intro k1 (And.intro k2 (And.intro k3 b2)))
  clear d3 s3 q2 HC HW k1 k2 k3 b2
  go_wp2
  go_loopw [8] (fun i wr => ∃ (k : Nat), k ≤ P ∧ i = .int .i64 (k : Int) ∧ Hid (RmBlk wr w.heap.size a n c ∧ EBlk wr (w.heap.size + 1) ⟨kx, tx, ox, vx, ux⟩ ∧ RmBlk wr (w.heap.size + 1 + 1) none 0 0 ∧ Below w.heap.size w wr)) (fun i _ => P - (intOf i).toNat)
  case atStart => exact ⟨0, Nat.zero_le _, rfl, HI⟩
  case round =>
    clear HI
    obtain ⟨k, hk, rfl, HI⟩ := hrel
    obtain ⟨k1, k2, k3, b2⟩ := HI.out
    by_cases hlt : k < P
    · have hkl : (k : Int) < (n : Int) := by omega
      have hkx : k < S.length := by have := HNL.out; omega
      obtain ⟨b, o, rfl, rr⟩ := (HH.out.1.below b2 (Nat.le_refl _)).row k hkx
      have hless : Op.bytesLess S[k].k.toList kx.toList = true := by rw [ByteArray.toList_eq, ByteArray.toList_eq, lessE]; exact decide_eq_true (HPl.out k hkx hlt)
      generalize S[k] = y at *
      clear hkx HI
      go_wp2_with fail
      refine wp_region_any (by kernel_rfl) ?_
      change wpAny _ _ _ _ _ _ _ (World.drew _)
      have hS : (fun w' : World => RmBlk w' w.heap.size (some ⟨b, o, none⟩) n c ∧ EBlk w' (w.heap.size + 1) ⟨kx, tx, ox, vx, ux⟩ ∧ RmBlk w' (w.heap.size + 1 + 1) none 0 0 ∧ RowAt w' b (o + k * 5) y ∧ Below w.heap.size w w') wr.drew := ⟨k1, k2, k3, rr, b2.drew⟩
      refine wpAny_of_held (S := fun w' => RmBlk w' w.heap.size (some ⟨b, o, none⟩) n c ∧ EBlk w' (w.heap.size + 1) ⟨kx, tx, ox, vx, ux⟩ ∧ RmBlk w' (w.heap.size + 1 + 1) none 0 0 ∧ RowAt w' b (o + k * 5) y ∧ Below w.heap.size w w') _ _ _ _ ?_
      clear k1 k2 k3 rr b2
      refine wpAnyH_takeE (i := 0) (some 18) (v := ?_) rfl rfl (by as_aux_lemma => kernel_rfl) (by as_aux_lemma => kernel_rfl) (by as_aux_lemma => kernel_rfl) (fun _ _ _ h => h) (Or.inl ⟨by kernel_rfl, ?_⟩) hS ?_
      rotate_left
      · intro w hSw; have c0 := hSw.1.c0; have e0 := hSw.2.1.c0; have e1 := hSw.2.1.c1; have e2 := hSw.2.1.c2; have e3 := hSw.2.1.c3; have e4 := hSw.2.1.c4; dsimp only at e0 e1 e2 e3 e4; obtain ⟨d0, d1, d2, d3, d4⟩ := hSw.2.2.2.1; go_simp
        first | done | with_reducible rfl
      refine wpAnyH_takeE (i := 1) (some 19) (v := ?_) rfl rfl (by as_aux_lemma => kernel_rfl) (by as_aux_lemma => kernel_rfl) (by as_aux_lemma => kernel_rfl) (fun _ _ _ h => h) (Or.inl ⟨by kernel_rfl, ?_⟩) hS ?_
      rotate_left
      · intro w hSw; have c0 := hSw.1.c0; have e0 := hSw.2.1.c0; have e1 := hSw.2.1.c1; have e2 := hSw.2.1.c2; have e3 := hSw.2.1.c3; have e4 := hSw.2.1.c4; dsimp only at e0 e1 e2 e3 e4; obtain ⟨d0, d1, d2, d3, d4⟩ := hSw.2.2.2.1; go_simp
        first | done | with_reducible rfl
      refine wpAnyH_takeE (i := 2) (some 20) (v := ?_) rfl rfl (by as_aux_lemma => kernel_rfl) (by as_aux_lemma => kernel_rfl) (by as_aux_lemma => kernel_rfl) (fun _ _ _ h => h) (Or.inl ⟨by kernel_rfl, ?_⟩) hS ?_
      rotate_left
      · intro w hSw; have c0 := hSw.1.c0; have e0 := hSw.2.1.c0; have e1 := hSw.2.1.c1; have e2 := hSw.2.1.c2; have e3 := hSw.2.1.c3; have e4 := hSw.2.1.c4; dsimp only at e0 e1 e2 e3 e4; obtain ⟨d0, d1, d2, d3, d4⟩ := hSw.2.2.2.1; go_simp
        first | done | with_reducible rfl
      refine wpAnyH_takeE (i := 3) (some 21) (v := ?_) rfl rfl (by as_aux_lemma => kernel_rfl) (by as_aux_lemma => kernel_rfl) (by as_aux_lemma => kernel_rfl) (fun _ _ _ h => h) (Or.inl ⟨by kernel_rfl, ?_⟩) hS ?_
      rotate_left
      · intro w hSw; have c0 := hSw.1.c0; have e0 := hSw.2.1.c0; have e1 := hSw.2.1.c1; have e2 := hSw.2.1.c2; have e3 := hSw.2.1.c3; have e4 := hSw.2.1.c4; dsimp only at e0 e1 e2 e3 e4; obtain ⟨d0, d1, d2, d3, d4⟩ := hSw.2.2.2.1; go_simp
        first | done | with_reducible rfl
      refine wpAnyH_takeE (i := 4) (some 22) (v := ?_) rfl rfl (by as_aux_lemma => kernel_rfl) (by as_aux_lemma => kernel_rfl) (by as_aux_lemma => kernel_rfl) (fun _ _ _ h => h) (Or.inl ⟨by kernel_rfl, ?_⟩) hS ?_
      rotate_left
      · intro w hSw; have c0 := hSw.1.c0; have e0 := hSw.2.1.c0; have e1 := hSw.2.1.c1; have e2 := hSw.2.1.c2; have e3 := hSw.2.1.c3; have e4 := hSw.2.1.c4; dsimp only at e0 e1 e2 e3 e4; obtain ⟨d0, d1, d2, d3, d4⟩ := hSw.2.2.2.1; go_simp
        first | done | with_reducible rfl
      refine wpAnyH_takeE (i := 5) (some 23) (v := ?_) rfl rfl (by as_aux_lemma => kernel_rfl) (by as_aux_lemma => kernel_rfl) (by as_aux_lemma => kernel_rfl) (fun _ _ _ h => h) (Or.inl ⟨by kernel_rfl, ?_⟩) hS ?_
      rotate_left
      · intro w hSw; have c0 := hSw.1.c0; have e0 := hSw.2.1.c0; have e1 := hSw.2.1.c1; have e2 := hSw.2.1.c2; have e3 := hSw.2.1.c3; have e4 := hSw.2.1.c4; dsimp only at e0 e1 e2 e3 e4; obtain ⟨d0, d1, d2, d3, d4⟩ := hSw.2.2.2.1; go_simp
        first | done | with_reducible rfl
      refine wpAnyH_takeE (i := 6) (some 24) (v := ?_) rfl rfl (by as_aux_lemma => kernel_rfl) (by as_aux_lemma => kernel_rfl) (by as_aux_lemma => kernel_rfl) (fun _ _ _ h => h) (Or.inl ⟨by kernel_rfl, ?_⟩) hS ?_
      rotate_left
      · intro w hSw; have c0 := hSw.1.c0; have e0 := hSw.2.1.c0; have e1 := hSw.2.1.c1; have e2 := hSw.2.1.c2; have e3 := hSw.2.1.c3; have e4 := hSw.2.1.c4; dsimp only at e0 e1 e2 e3 e4; obtain ⟨d0, d1, d2, d3, d4⟩ := hSw.2.2.2.1; go_simp
        first | done | with_reducible rfl
      refine wpAnyH_takeE (i := 7) (some 25) (v := ?_) rfl rfl (by as_aux_lemma => kernel_rfl) (by as_aux_lemma => kernel_rfl) (by as_aux_lemma => kernel_rfl) (fun _ _ _ h => h) (Or.inl ⟨by kernel_rfl, ?_⟩) hS ?_
      rotate_left
      · intro w hSw; have c0 := hSw.1.c0; have e0 := hSw.2.1.c0; have e1 := hSw.2.1.c1; have e2 := hSw.2.1.c2; have e3 := hSw.2.1.c3; have e4 := hSw.2.1.c4; dsimp only at e0 e1 e2 e3 e4; obtain ⟨d0, d1, d2, d3, d4⟩ := hSw.2.2.2.1; go_simp
        first | done | with_reducible rfl
      refine wpAnyH_takeE (i := 8) (some 26) (v := ?_) rfl rfl (by as_aux_lemma => kernel_rfl) (by as_aux_lemma => kernel_rfl) (by as_aux_lemma => kernel_rfl) (fun _ _ _ h => h) (Or.inl ⟨by kernel_rfl, ?_⟩) hS ?_
      rotate_left
      · intro w hSw; have c0 := hSw.1.c0; have e0 := hSw.2.1.c0; have e1 := hSw.2.1.c1; have e2 := hSw.2.1.c2; have e3 := hSw.2.1.c3; have e4 := hSw.2.1.c4; dsimp only at e0 e1 e2 e3 e4; obtain ⟨d0, d1, d2, d3, d4⟩ := hSw.2.2.2.1; go_simp
        first | done | with_reducible rfl
      refine wpAnyH_takeE (i := 9) (some 27) (v := ?_) rfl rfl (by as_aux_lemma => kernel_rfl) (by as_aux_lemma => kernel_rfl) (by as_aux_lemma => kernel_rfl) (fun _ _ _ h => h) (Or.inl ⟨by kernel_rfl, ?_⟩) hS ?_
      rotate_left
      · intro w hSw; have c0 := hSw.1.c0; have e0 := hSw.2.1.c0; have e1 := hSw.2.1.c1; have e2 := hSw.2.1.c2; have e3 := hSw.2.1.c3; have e4 := hSw.2.1.c4; dsimp only at e0 e1 e2 e3 e4; obtain ⟨d0, d1, d2, d3, d4⟩ := hSw.2.2.2.1; go_simp
        first | done | with_reducible rfl
      refine wpAnyH_takeE (i := 10) (some 28) (v := ?_) rfl rfl (by as_aux_lemma => kernel_rfl) (by as_aux_lemma => kernel_rfl) (by as_aux_lemma => kernel_rfl) (fun _ _ _ h => h) (Or.inl ⟨by kernel_rfl, ?_⟩) hS ?_
      rotate_left
      · intro w hSw; have c0 := hSw.1.c0; have e0 := hSw.2.1.c0; have e1 := hSw.2.1.c1; have e2 := hSw.2.1.c2; have e3 := hSw.2.1.c3; have e4 := hSw.2.1.c4; dsimp only at e0 e1 e2 e3 e4; obtain ⟨d0, d1, d2, d3, d4⟩ := hSw.2.2.2.1; go_simp
        first | done | with_reducible rfl
      refine wpAnyH_takeE (i := 11) (some 29) (v := ?_) rfl rfl (by as_aux_lemma => kernel_rfl) (by as_aux_lemma => kernel_rfl) (by as_aux_lemma => kernel_rfl) (fun _ _ _ h => h) (Or.inl ⟨by kernel_rfl, ?_⟩) hS ?_
      rotate_left
      · intro w hSw; have c0 := hSw.1.c0; have e0 := hSw.2.1.c0; have e1 := hSw.2.1.c1; have e2 := hSw.2.1.c2; have e3 := hSw.2.1.c3; have e4 := hSw.2.1.c4; dsimp only at e0 e1 e2 e3 e4; obtain ⟨d0, d1, d2, d3, d4⟩ := hSw.2.2.2.1; go_simp
        first | done | with_reducible rfl
      refine wpAnyH_takeE (i := 12) (some 30) (v := ?_) rfl rfl (by as_aux_lemma => kernel_rfl) (by as_aux_lemma => kernel_rfl) (by as_aux_lemma => kernel_rfl) (fun _ _ _ h => h) (Or.inl ⟨by kernel_rfl, ?_⟩) hS ?_
      rotate_left
      · intro w hSw; have c0 := hSw.1.c0; have e0 := hSw.2.1.c0; have e1 := hSw.2.1.c1; have e2 := hSw.2.1.c2; have e3 := hSw.2.1.c3; have e4 := hSw.2.1.c4; dsimp only at e0 e1 e2 e3 e4; obtain ⟨d0, d1, d2, d3, d4⟩ := hSw.2.2.2.1; go_simp
        first | done | with_reducible rfl
      refine wpAnyH_takeE (i := 13) (some 31) (v := ?_) rfl rfl (by as_aux_lemma => kernel_rfl) (by as_aux_lemma => kernel_rfl) (by as_aux_lemma => kernel_rfl) (fun _ _ _ h => h) (Or.inl ⟨by kernel_rfl, ?_⟩) hS ?_
      rotate_left
      · intro w hSw; have c0 := hSw.1.c0; have e0 := hSw.2.1.c0; have e1 := hSw.2.1.c1; have e2 := hSw.2.1.c2; have e3 := hSw.2.1.c3; have e4 := hSw.2.1.c4; dsimp only at e0 e1 e2 e3 e4; obtain ⟨d0, d1, d2, d3, d4⟩ := hSw.2.2.2.1; go_simp
        first | done | with_reducible rfl
      refine wpAnyH_takeE (i := 14) (some 32) (v := ?_) rfl rfl (by as_aux_lemma => kernel_rfl) (by as_aux_lemma => kernel_rfl) (by as_aux_lemma => kernel_rfl) (fun _ _ _ h => h) (Or.inl ⟨by kernel_rfl, ?_⟩) hS ?_
      rotate_left
      · intro w hSw; have c0 := hSw.1.c0; have e0 := hSw.2.1.c0; have e1 := hSw.2.1.c1; have e2 := hSw.2.1.c2; have e3 := hSw.2.1.c3; have e4 := hSw.2.1.c4; dsimp only at e0 e1 e2 e3 e4; obtain ⟨d0, d1, d2, d3, d4⟩ := hSw.2.2.2.1; go_simp
        first | done | with_reducible rfl
      refine wpAnyH_takeE (i := 15) (some 33) (v := ?_) rfl rfl (by as_aux_lemma => kernel_rfl) (by as_aux_lemma => kernel_rfl) (by as_aux_lemma => kernel_rfl) (fun _ _ _ h => h) (Or.inl ⟨by kernel_rfl, ?_⟩) hS ?_
      rotate_left
      · intro w hSw; have c0 := hSw.1.c0; have e0 := hSw.2.1.c0; have e1 := hSw.2.1.c1; have e2 := hSw.2.1.c2; have e3 := hSw.2.1.c3; have e4 := hSw.2.1.c4; dsimp only at e0 e1 e2 e3 e4; obtain ⟨d0, d1, d2, d3, d4⟩ := hSw.2.2.2.1; go_simp
        first | done | with_reducible rfl
      have HI : Hid (RmBlk wr.drew w.heap.size (some ⟨b, o, none⟩) n c ∧ EBlk wr.drew (w.heap.size + 1) ⟨kx, tx, ox, vx, ux⟩ ∧ RmBlk wr.drew (w.heap.size + 1 + 1) none 0 0 ∧ Below w.heap.size w wr.drew) := Lib.hid ⟨hS.1, hS.2.1, hS.2.2.1, hS.2.2.2.2⟩
      refine wpAnyH_done (by kernel_rfl) ?_ _
      clear hS
      go_simp
      go_wp2
      go_roundw
      case rel => exact ⟨k + 1, by omega, by go_num, HI⟩
      case measure => simp [intOf]; omega
    · obtain rfl : k = P := by omega
      have hkl : ¬ (k : Int) < (n : Int) := by have := HPeq.out; omega
      clear HI
      go_wp2_with fail
      refine wp_region_any (by kernel_rfl) ?_
      change wpAny _ _ _ _ _ _ _ (World.drew _)
      have hS : (fun w' : World => RmBlk w' w.heap.size a n c ∧ EBlk w' (w.heap.size + 1) ⟨kx, tx, ox, vx, ux⟩ ∧ RmBlk w' (w.heap.size + 1 + 1) none 0 0 ∧ Below w.heap.size w w') wr.drew := ⟨k1, k2, k3, b2.drew⟩
      refine wpAny_of_held (S := fun w' => RmBlk w' w.heap.size a n c ∧ EBlk w' (w.heap.size + 1) ⟨kx, tx, ox, vx, ux⟩ ∧ RmBlk w' (w.heap.size + 1 + 1) none 0 0 ∧ Below w.heap.size w w') _ _ _ _ ?_
      clear k1 k2 k3 b2
      refine wpAnyH_takeE (i := 0) (some 18) (v := ?_) rfl rfl (by as_aux_lemma => kernel_rfl) (by as_aux_lemma => kernel_rfl) (by as_aux_lemma => kernel_rfl) (fun _ _ _ h => h) (Or.inl ⟨by kernel_rfl, ?_⟩) hS ?_
      rotate_left
      · intro w hSw; have c0 := hSw.1.c0; have e0 := hSw.2.1.c0; have e1 := hSw.2.1.c1; have e2 := hSw.2.1.c2; have e3 := hSw.2.1.c3; have e4 := hSw.2.1.c4; dsimp only at e0 e1 e2 e3 e4; go_simp
        first | done | with_reducible rfl
      refine wpAnyH_takeE (i := 1) (some 19) (v := ?_) rfl rfl (by as_aux_lemma => kernel_rfl) (by as_aux_lemma => kernel_rfl) (by as_aux_lemma => kernel_rfl) (fun _ _ _ h => h) (Or.inl ⟨by kernel_rfl, ?_⟩) hS ?_
      rotate_left
      · intro w hSw; have c0 := hSw.1.c0; have e0 := hSw.2.1.c0; have e1 := hSw.2.1.c1; have e2 := hSw.2.1.c2; have e3 := hSw.2.1.c3; have e4 := hSw.2.1.c4; dsimp only at e0 e1 e2 e3 e4; go_simp
        first | done | with_reducible rfl
      refine wpAnyH_takeE (i := 2) (some 20) (v := ?_) rfl rfl (by as_aux_lemma => kernel_rfl) (by as_aux_lemma => kernel_rfl) (by as_aux_lemma => kernel_rfl) (fun _ _ _ h => h) (Or.inl ⟨by kernel_rfl, ?_⟩) hS ?_
      rotate_left
      · intro w hSw; have c0 := hSw.1.c0; have e0 := hSw.2.1.c0; have e1 := hSw.2.1.c1; have e2 := hSw.2.1.c2; have e3 := hSw.2.1.c3; have e4 := hSw.2.1.c4; dsimp only at e0 e1 e2 e3 e4; go_simp
        first | done | with_reducible rfl
      refine wpAnyH_takeE (i := 3) (some 21) (v := ?_) rfl rfl (by as_aux_lemma => kernel_rfl) (by as_aux_lemma => kernel_rfl) (by as_aux_lemma => kernel_rfl) (fun _ _ _ h => h) (Or.inl ⟨by kernel_rfl, ?_⟩) hS ?_
      rotate_left
      · intro w hSw; have c0 := hSw.1.c0; have e0 := hSw.2.1.c0; have e1 := hSw.2.1.c1; have e2 := hSw.2.1.c2; have e3 := hSw.2.1.c3; have e4 := hSw.2.1.c4; dsimp only at e0 e1 e2 e3 e4; go_simp
        first | done | with_reducible rfl
      refine wpAnyH_takeE (i := 4) (some 22) (v := .bool false) rfl rfl (by as_aux_lemma => kernel_rfl) (by as_aux_lemma => kernel_rfl) (by as_aux_lemma => kernel_rfl) (fun _ _ _ h => h) (Or.inl ⟨by kernel_rfl, ?_⟩) hS ?_
      · intro w hSw; have c0 := hSw.1.c0; have e0 := hSw.2.1.c0; have e1 := hSw.2.1.c1; have e2 := hSw.2.1.c2; have e3 := hSw.2.1.c3; have e4 := hSw.2.1.c4; dsimp only at e0 e1 e2 e3 e4; go_simp <;> omega
      refine wpAnyH_takeE (i := 5) (some 23) (v := .bool false) rfl rfl (by as_aux_lemma => kernel_rfl) (by as_aux_lemma => kernel_rfl) (by as_aux_lemma => kernel_rfl) (fun _ _ _ h => h) (Or.inl ⟨by kernel_rfl, ?_⟩) hS ?_
      · intro w hSw; have c0 := hSw.1.c0; have e0 := hSw.2.1.c0; have e1 := hSw.2.1.c1; have e2 := hSw.2.1.c2; have e3 := hSw.2.1.c3; have e4 := hSw.2.1.c4; dsimp only at e0 e1 e2 e3 e4; go_simp
      refine wpAnyH_takeE (i := 6) (some 24) (v := undef) rfl rfl (by as_aux_lemma => kernel_rfl) (by as_aux_lemma => kernel_rfl) (by as_aux_lemma => kernel_rfl) (fun _ _ _ h => h) (Or.inr ⟨by kernel_rfl, rfl⟩) hS ?_
      refine wpAnyH_takeE (i := 7) (some 25) (v := undef) rfl rfl (by as_aux_lemma => kernel_rfl) (by as_aux_lemma => kernel_rfl) (by as_aux_lemma => kernel_rfl) (fun _ _ _ h => h) (Or.inr ⟨by kernel_rfl, rfl⟩) hS ?_
      refine wpAnyH_takeE (i := 8) (some 26) (v := undef) rfl rfl (by as_aux_lemma => kernel_rfl) (by as_aux_lemma => kernel_rfl) (by as_aux_lemma => kernel_rfl) (fun _ _ _ h => h) (Or.inr ⟨by kernel_rfl, rfl⟩) hS ?_
      refine wpAnyH_takeE (i := 9) (some 27) (v := undef) rfl rfl (by as_aux_lemma => kernel_rfl) (by as_aux_lemma => kernel_rfl) (by as_aux_lemma => kernel_rfl) (fun _ _ _ h => h) (Or.inr ⟨by kernel_rfl, rfl⟩) hS ?_
      refine wpAnyH_takeE (i := 10) (some 28) (v := undef) rfl rfl (by as_aux_lemma => kernel_rfl) (by as_aux_lemma => kernel_rfl) (by as_aux_lemma => kernel_rfl) (fun _ _ _ h => h) (Or.inr ⟨by kernel_rfl, rfl⟩) hS ?_
      refine wpAnyH_takeE (i := 11) (some 29) (v := undef) rfl rfl (by as_aux_lemma => kernel_rfl) (by as_aux_lemma => kernel_rfl) (by as_aux_lemma => kernel_rfl) (fun _ _ _ h => h) (Or.inr ⟨by kernel_rfl, rfl⟩) hS ?_
      refine wpAnyH_takeE (i := 12) (some 30) (v := undef) rfl rfl (by as_aux_lemma => kernel_rfl) (by as_aux_lemma => kernel_rfl) (by as_aux_lemma => kernel_rfl) (fun _ _ _ h => h) (Or.inr ⟨by kernel_rfl, rfl⟩) hS ?_
      refine wpAnyH_takeE (i := 13) (some 31) (v := undef) rfl rfl (by as_aux_lemma => kernel_rfl) (by as_aux_lemma => kernel_rfl) (by as_aux_lemma => kernel_rfl) (fun _ _ _ h => h) (Or.inr ⟨by kernel_rfl, rfl⟩) hS ?_
      refine wpAnyH_takeE (i := 14) (some 32) (v := undef) rfl rfl (by as_aux_lemma => kernel_rfl) (by as_aux_lemma => kernel_rfl) (by as_aux_lemma => kernel_rfl) (fun _ _ _ h => h) (Or.inr ⟨by kernel_rfl, rfl⟩) hS ?_
      refine wpAnyH_takeE (i := 15) (some 33) (v := .bool false) rfl rfl (by as_aux_lemma => kernel_rfl) (by as_aux_lemma => kernel_rfl) (by as_aux_lemma => kernel_rfl) (fun _ _ _ h => h) (Or.inl ⟨by kernel_rfl, ?_⟩) hS ?_
      · intro w hSw; have c0 := hSw.1.c0; have e0 := hSw.2.1.c0; have e1 := hSw.2.1.c1; have e2 := hSw.2.1.c2; have e3 := hSw.2.1.c3; have e4 := hSw.2.1.c4; dsimp only at e0 e1 e2 e3 e4; go_simp
      have H5 := Lib.hid hS
      refine wpAnyH_done (by kernel_rfl) ?_ _
      clear hS
      go_simp
      go_wp2_with fail
      have h5 := H5.out
      clear H5
      refine wp_region_any (by kernel_rfl) ?_
      change wpAny _ _ _ _ _ _ _ (World.drew _)
      have hS : (fun w' : World => RmBlk w' w.heap.size a n c ∧ EBlk w' (w.heap.size + 1) ⟨kx, tx, ox, vx, ux⟩ ∧ RmBlk w' (w.heap.size + 1 + 1) none 0 0 ∧ Below w.heap.size w w') wr.drew.drew := ⟨h5.1, h5.2.1, h5.2.2.1, h5.2.2.2.drew⟩
      refine wpAny_of_held (S := fun w' => RmBlk w' w.heap.size a n c ∧ EBlk w' (w.heap.size + 1) ⟨kx, tx, ox, vx, ux⟩ ∧ RmBlk w' (w.heap.size + 1 + 1) none 0 0 ∧ Below w.heap.size w w') _ _ _ _ ?_
      clear h5
      refine wpAnyH_takeE (i := 0) (some 36) (v := ?_) rfl rfl (by as_aux_lemma => kernel_rfl) (by as_aux_lemma => kernel_rfl) (by as_aux_lemma => kernel_rfl) (fun _ _ _ h => h) (Or.inl ⟨by kernel_rfl, ?_⟩) hS ?_
      rotate_left
      · intro w hSw; have c0 := hSw.1.c0; have e0 := hSw.2.1.c0; have e1 := hSw.2.1.c1; have e2 := hSw.2.1.c2; have e3 := hSw.2.1.c3; have e4 := hSw.2.1.c4; dsimp only at e0 e1 e2 e3 e4; go_simp
        first | done | with_reducible rfl
      refine wpAnyH_takeE (i := 1) (some 37) (v := ?_) rfl rfl (by as_aux_lemma => kernel_rfl) (by as_aux_lemma => kernel_rfl) (by as_aux_lemma => kernel_rfl) (fun _ _ _ h => h) (Or.inl ⟨by kernel_rfl, ?_⟩) hS ?_
      rotate_left
      · intro w hSw; have c0 := hSw.1.c0; have e0 := hSw.2.1.c0; have e1 := hSw.2.1.c1; have e2 := hSw.2.1.c2; have e3 := hSw.2.1.c3; have e4 := hSw.2.1.c4; dsimp only at e0 e1 e2 e3 e4; go_simp
        first | done | with_reducible rfl
      refine wpAnyH_takeE (i := 2) (some 38) (v := ?_) rfl rfl (by as_aux_lemma => kernel_rfl) (by as_aux_lemma => kernel_rfl) (by as_aux_lemma => kernel_rfl) (fun _ _ _ h => h) (Or.inl ⟨by kernel_rfl, ?_⟩) hS ?_
      rotate_left
      · intro w hSw; have c0 := hSw.1.c0; have e0 := hSw.2.1.c0; have e1 := hSw.2.1.c1; have e2 := hSw.2.1.c2; have e3 := hSw.2.1.c3; have e4 := hSw.2.1.c4; dsimp only at e0 e1 e2 e3 e4; go_simp
        first | done | with_reducible rfl
      refine wpAnyH_takeE (i := 3) (some 39) (v := ?_) rfl rfl (by as_aux_lemma => kernel_rfl) (by as_aux_lemma => kernel_rfl) (by as_aux_lemma => kernel_rfl) (fun _ _ _ h => h) (Or.inl ⟨by kernel_rfl, ?_⟩) hS ?_
      rotate_left
      · intro w hSw; have c0 := hSw.1.c0; have e0 := hSw.2.1.c0; have e1 := hSw.2.1.c1; have e2 := hSw.2.1.c2; have e3 := hSw.2.1.c3; have e4 := hSw.2.1.c4; dsimp only at e0 e1 e2 e3 e4; go_simp
        first | done | with_reducible rfl
      refine wpAnyH_takeE (i := 4) (some 40) (v := .bool false) rfl rfl (by as_aux_lemma => kernel_rfl) (by as_aux_lemma => kernel_rfl) (by as_aux_lemma => kernel_rfl) (fun _ _ _ h => h) (Or.inl ⟨by kernel_rfl, ?_⟩) hS ?_
      · intro w hSw; have c0 := hSw.1.c0; have e0 := hSw.2.1.c0; have e1 := hSw.2.1.c1; have e2 := hSw.2.1.c2; have e3 := hSw.2.1.c3; have e4 := hSw.2.1.c4; dsimp only at e0 e1 e2 e3 e4; go_simp <;> omega
      refine wpAnyH_takeE (i := 5) (some 41) (v := .bool false) rfl rfl (by as_aux_lemma => kernel_rfl) (by as_aux_lemma => kernel_rfl) (by as_aux_lemma => kernel_rfl) (fun _ _ _ h => h) (Or.inl ⟨by kernel_rfl, ?_⟩) hS ?_
      · intro w hSw; have c0 := hSw.1.c0; have e0 := hSw.2.1.c0; have e1 := hSw.2.1.c1; have e2 := hSw.2.1.c2; have e3 := hSw.2.1.c3; have e4 := hSw.2.1.c4; dsimp only at e0 e1 e2 e3 e4; go_simp
      refine wpAnyH_takeE (i := 6) (some 42) (v := undef) rfl rfl (by as_aux_lemma => kernel_rfl) (by as_aux_lemma => kernel_rfl) (by as_aux_lemma => kernel_rfl) (fun _ _ _ h => h) (Or.inr ⟨by kernel_rfl, rfl⟩) hS ?_
      refine wpAnyH_takeE (i := 7) (some 43) (v := undef) rfl rfl (by as_aux_lemma => kernel_rfl) (by as_aux_lemma => kernel_rfl) (by as_aux_lemma => kernel_rfl) (fun _ _ _ h => h) (Or.inr ⟨by kernel_rfl, rfl⟩) hS ?_
      refine wpAnyH_takeE (i := 8) (some 44) (v := undef) rfl rfl (by as_aux_lemma => kernel_rfl) (by as_aux_lemma => kernel_rfl) (by as_aux_lemma => kernel_rfl) (fun _ _ _ h => h) (Or.inr ⟨by kernel_rfl, rfl⟩) hS ?_
      refine wpAnyH_takeE (i := 9) (some 45) (v := undef) rfl rfl (by as_aux_lemma => kernel_rfl) (by as_aux_lemma => kernel_rfl) (by as_aux_lemma => kernel_rfl) (fun _ _ _ h => h) (Or.inr ⟨by kernel_rfl, rfl⟩) hS ?_
      refine wpAnyH_takeE (i := 10) (some 46) (v := undef) rfl rfl (by as_aux_lemma => kernel_rfl) (by as_aux_lemma => kernel_rfl) (by as_aux_lemma => kernel_rfl) (fun _ _ _ h => h) (Or.inr ⟨by kernel_rfl, rfl⟩) hS ?_
      refine wpAnyH_takeE (i := 11) (some 47) (v := undef) rfl rfl (by as_aux_lemma => kernel_rfl) (by as_aux_lemma => kernel_rfl) (by as_aux_lemma => kernel_rfl) (fun _ _ _ h => h) (Or.inr ⟨by kernel_rfl, rfl⟩) hS ?_
      refine wpAnyH_takeE (i := 12) (some 48) (v := undef) rfl rfl (by as_aux_lemma => kernel_rfl) (by as_aux_lemma => kernel_rfl) (by as_aux_lemma => kernel_rfl) (fun _ _ _ h => h) (Or.inr ⟨by kernel_rfl, rfl⟩) hS ?_
      refine wpAnyH_takeE (i := 13) (some 49) (v := undef) rfl rfl (by as_aux_lemma => kernel_rfl) (by as_aux_lemma => kernel_rfl) (by as_aux_lemma => kernel_rfl) (fun _ _ _ h => h) (Or.inr ⟨by kernel_rfl, rfl⟩) hS ?_
      refine wpAnyH_takeE (i := 14) (some 50) (v := undef) rfl rfl (by as_aux_lemma => kernel_rfl) (by as_aux_lemma => kernel_rfl) (by as_aux_lemma => kernel_rfl) (fun _ _ _ h => h) (Or.inr ⟨by kernel_rfl, rfl⟩) hS ?_
      refine wpAnyH_takeE (i := 15) (some 51) (v := .bool false) rfl rfl (by as_aux_lemma => kernel_rfl) (by as_aux_lemma => kernel_rfl) (by as_aux_lemma => kernel_rfl) (fun _ _ _ h => h) (Or.inl ⟨by kernel_rfl, ?_⟩) hS ?_
      · intro w hSw; have c0 := hSw.1.c0; have e0 := hSw.2.1.c0; have e1 := hSw.2.1.c1; have e2 := hSw.2.1.c2; have e3 := hSw.2.1.c3; have e4 := hSw.2.1.c4; dsimp only at e0 e1 e2 e3 e4; go_simp
      refine wpAnyH_takeE (i := 16) (some 9) (v := .bool false) rfl rfl (by as_aux_lemma => kernel_rfl) (by as_aux_lemma => kernel_rfl) (by as_aux_lemma => kernel_rfl) (fun _ _ _ h => h) (Or.inl ⟨by kernel_rfl, ?_⟩) hS ?_
      · intro w hSw; have c0 := hSw.1.c0; have e0 := hSw.2.1.c0; have e1 := hSw.2.1.c1; have e2 := hSw.2.1.c2; have e3 := hSw.2.1.c3; have e4 := hSw.2.1.c4; dsimp only at e0 e1 e2 e3 e4; go_simp
      have H5 := Lib.hid hS
      refine wpAnyH_done (by kernel_rfl) ?_ _
      clear hS
      go_simp
      go_wp2_with fail
      have h5 := H5.out
      clear H5
      refine wp_region_any (by kernel_rfl) ?_
      change wpAny _ _ _ _ _ _ _ (World.drew _)
      have hS : (fun w' : World => RmBlk w' w.heap.size a n c ∧ EBlk w' (w.heap.size + 1) ⟨kx, tx, ox, vx, ux⟩ ∧ RmBlk w' (w.heap.size + 1 + 1) none 0 0 ∧ Below w.heap.size w w') wr.drew.drew.drew := ⟨h5.1, h5.2.1, h5.2.2.1, h5.2.2.2.drew⟩
      refine wpAny_of_held (S := fun w' => RmBlk w' w.heap.size a n c ∧ EBlk w' (w.heap.size + 1) ⟨kx, tx, ox, vx, ux⟩ ∧ RmBlk w' (w.heap.size + 1 + 1) none 0 0 ∧ Below w.heap.size w w') _ _ _ _ ?_
      clear h5
      refine wpAnyH_takeE (i := 0) (some 54) (v := ?_) rfl rfl (by as_aux_lemma => kernel_rfl) (by as_aux_lemma => kernel_rfl) (by as_aux_lemma => kernel_rfl) (fun _ _ _ h => h) (Or.inl ⟨by kernel_rfl, ?_⟩) hS ?_
      rotate_left
      · intro w hSw; have c0 := hSw.1.c0; have e0 := hSw.2.1.c0; have e1 := hSw.2.1.c1; have e2 := hSw.2.1.c2; have e3 := hSw.2.1.c3; have e4 := hSw.2.1.c4; dsimp only at e0 e1 e2 e3 e4; go_simp
        first | done | with_reducible rfl
      refine wpAnyH_takeE (i := 1) (some 55) (v := ?_) rfl rfl (by as_aux_lemma => kernel_rfl) (by as_aux_lemma => kernel_rfl) (by as_aux_lemma => kernel_rfl) (fun _ _ _ h => h) (Or.inl ⟨by kernel_rfl, ?_⟩) hS ?_
      rotate_left
      · intro w hSw; have c0 := hSw.1.c0; have e0 := hSw.2.1.c0; have e1 := hSw.2.1.c1; have e2 := hSw.2.1.c2; have e3 := hSw.2.1.c3; have e4 := hSw.2.1.c4; dsimp only at e0 e1 e2 e3 e4; go_simp
        first | done | with_reducible rfl
      refine wpAnyH_takeE (i := 2) (some 56) (v := undef) rfl rfl (by as_aux_lemma => kernel_rfl) (by as_aux_lemma => kernel_rfl) (by as_aux_lemma => kernel_rfl) (fun _ _ _ h => h) (Or.inr ⟨by kernel_rfl, rfl⟩) hS ?_
      refine wpAnyH_takeE (i := 3) (some 57) (v := undef) rfl rfl (by as_aux_lemma => kernel_rfl) (by as_aux_lemma => kernel_rfl) (by as_aux_lemma => kernel_rfl) (fun _ _ _ h => h) (Or.inr ⟨by kernel_rfl, rfl⟩) hS ?_
      refine wpAnyH_takeE (i := 4) (some 58) (v := undef) rfl rfl (by as_aux_lemma => kernel_rfl) (by as_aux_lemma => kernel_rfl) (by as_aux_lemma => kernel_rfl) (fun _ _ _ h => h) (Or.inr ⟨by kernel_rfl, rfl⟩) hS ?_
      refine wpAnyH_takeE (i := 5) (some 59) (v := undef) rfl rfl (by as_aux_lemma => kernel_rfl) (by as_aux_lemma => kernel_rfl) (by as_aux_lemma => kernel_rfl) (fun _ _ _ h => h) (Or.inr ⟨by kernel_rfl, rfl⟩) hS ?_
      refine wpAnyH_takeE (i := 6) (some 60) (v := undef) rfl rfl (by as_aux_lemma => kernel_rfl) (by as_aux_lemma => kernel_rfl) (by as_aux_lemma => kernel_rfl) (fun _ _ _ h => h) (Or.inr ⟨by kernel_rfl, rfl⟩) hS ?_
      refine wpAnyH_takeE (i := 7) (some 61) (v := undef) rfl rfl (by as_aux_lemma => kernel_rfl) (by as_aux_lemma => kernel_rfl) (by as_aux_lemma => kernel_rfl) (fun _ _ _ h => h) (Or.inr ⟨by kernel_rfl, rfl⟩) hS ?_
      refine wpAnyH_takeE (i := 8) (some 62) (v := undef) rfl rfl (by as_aux_lemma => kernel_rfl) (by as_aux_lemma => kernel_rfl) (by as_aux_lemma => kernel_rfl) (fun _ _ _ h => h) (Or.inr ⟨by kernel_rfl, rfl⟩) hS ?_
      refine wpAnyH_takeE (i := 9) (some 63) (v := undef) rfl rfl (by as_aux_lemma => kernel_rfl) (by as_aux_lemma => kernel_rfl) (by as_aux_lemma => kernel_rfl) (fun _ _ _ h => h) (Or.inr ⟨by kernel_rfl, rfl⟩) hS ?_
      refine wpAnyH_takeE (i := 10) (some 64) (v := ?_) rfl rfl (by as_aux_lemma => kernel_rfl) (by as_aux_lemma => kernel_rfl) (by as_aux_lemma => kernel_rfl) (fun _ _ _ h => h) (Or.inl ⟨by kernel_rfl, ?_⟩) hS ?_
      rotate_left
      · intro w hSw; have c0 := hSw.1.c0; have e0 := hSw.2.1.c0; have e1 := hSw.2.1.c1; have e2 := hSw.2.1.c2; have e3 := hSw.2.1.c3; have e4 := hSw.2.1.c4; dsimp only at e0 e1 e2 e3 e4; go_simp
        first | done | with_reducible rfl
      refine wpAnyH_takeE (i := 11) (some 53) (v := ?_) rfl rfl (by as_aux_lemma => kernel_rfl) (by as_aux_lemma => kernel_rfl) (by as_aux_lemma => kernel_rfl) (fun _ _ _ h => h) (Or.inl ⟨by kernel_rfl, ?_⟩) hS ?_
      rotate_left
      · intro w hSw; have c0 := hSw.1.c0; have e0 := hSw.2.1.c0; have e1 := hSw.2.1.c1; have e2 := hSw.2.1.c2; have e3 := hSw.2.1.c3; have e4 := hSw.2.1.c4; dsimp only at e0 e1 e2 e3 e4; go_simp
        first | done | with_reducible rfl
      have H5 := Lib.hid hS
      refine wpAnyH_done (by kernel_rfl) ?_ _
      clear hS
      go_simp
      have h5 := H5.out
      clear H5
      have k1 : RmBlk (wr.drew.drew.drew) w.heap.size a n c := h5.1
      have k2 : EBlk (wr.drew.drew.drew) (w.heap.size + 1) ⟨kx, tx, ox, vx, ux⟩ := h5.2.1
      have k3 : RmBlk (wr.drew.drew.drew) (w.heap.size + 1 + 1) none 0 0 := h5.2.2.1
      have b7 : Below w.heap.size w (wr.drew.drew.drew) := h5.2.2.2
      clear h5
      generalize wr.drew.drew.drew = w9 at *
      have hat : EntsAt w9 a S := HH.out.1.below b7 (Nat.le_refl _)
      have hnone : (a : Option Addr) = none → c = 0 := HH.out.2.2
      have hP1 : (k : Int) ≤ (c : Int) := by omega
      have HTK : Hid (k = (S.take k).length) := Lib.hid (by rw [List.length_take, ← HNL.out]; omega)
      have hwsz : w.heap.size ≤ w9.heap.size := b7.size
      have HK3 := Lib.hid k3
      have c0 := k1.c0
      have h256n : ¬ (256 : Int) ≤ (n : Int) := by omega
      go_wp2_with fail
      clear c0
      refine wp_region_any (by kernel_rfl) ?_
      change wpAny _ _ _ _ _ _ _ (World.drew _)
      have hS : (fun w' : World => RmBlk w' w.heap.size a n c ∧ EBlk w' (w.heap.size + 1) ⟨kx, tx, ox, vx, ux⟩ ∧ RmBlk w' (w.heap.size + 1 + 1) none 0 0) w9.drew := ⟨k1, k2, k3⟩
      refine wpAny_of_held (S := fun w' => RmBlk w' w.heap.size a n c ∧ EBlk w' (w.heap.size + 1) ⟨kx, tx, ox, vx, ux⟩ ∧ RmBlk w' (w.heap.size + 1 + 1) none 0 0) _ _ _ _ ?_
      refine wpAnyH_takeE (i := 0) (some 76) (v := ?_) rfl rfl (by as_aux_lemma => kernel_rfl) (by as_aux_lemma => kernel_rfl) (by as_aux_lemma => kernel_rfl) (fun _ _ _ h => h) (Or.inl ⟨by kernel_rfl, ?_⟩) hS ?_
      rotate_left
      · intro w hSw; have c0 := hSw.1.c0; have e0 := hSw.2.1.c0; have e1 := hSw.2.1.c1; have e2 := hSw.2.1.c2; have e3 := hSw.2.1.c3; have e4 := hSw.2.1.c4; dsimp only at e0 e1 e2 e3 e4; go_simp
        first | done | with_reducible rfl
      refine wpAnyH_takeE (i := 1) (some 77) (v := ?_) rfl rfl (by as_aux_lemma => kernel_rfl) (by as_aux_lemma => kernel_rfl) (by as_aux_lemma => kernel_rfl) (fun _ _ _ h => h) (Or.inl ⟨by kernel_rfl, ?_⟩) hS ?_
      rotate_left
      · intro w hSw; have c0 := hSw.1.c0; have e0 := hSw.2.1.c0; have e1 := hSw.2.1.c1; have e2 := hSw.2.1.c2; have e3 := hSw.2.1.c3; have e4 := hSw.2.1.c4; dsimp only at e0 e1 e2 e3 e4; go_simp
        first | done | with_reducible rfl
      refine wpAnyH_takeE (i := 2) (some 78) (v := ?_) rfl rfl (by as_aux_lemma => kernel_rfl) (by as_aux_lemma => kernel_rfl) (by as_aux_lemma => kernel_rfl) (fun _ _ _ h => h) (Or.inl ⟨by kernel_rfl, ?_⟩) hS ?_
      rotate_left
      · intro w hSw; have c0 := hSw.1.c0; have e0 := hSw.2.1.c0; have e1 := hSw.2.1.c1; have e2 := hSw.2.1.c2; have e3 := hSw.2.1.c3; have e4 := hSw.2.1.c4; dsimp only at e0 e1 e2 e3 e4; go_simp
        first | done | with_reducible rfl
      refine wpAnyH_takeE (i := 3) (some 79) (v := ?_) rfl rfl (by as_aux_lemma => kernel_rfl) (by as_aux_lemma => kernel_rfl) (by as_aux_lemma => kernel_rfl) (fun _ _ _ h => h) (Or.inl ⟨by kernel_rfl, ?_⟩) hS ?_
      rotate_left
      · intro w hSw; have c0 := hSw.1.c0; have e0 := hSw.2.1.c0; have e1 := hSw.2.1.c1; have e2 := hSw.2.1.c2; have e3 := hSw.2.1.c3; have e4 := hSw.2.1.c4; dsimp only at e0 e1 e2 e3 e4; go_simp
        first | done | with_reducible rfl
      refine wpAnyH_takeE (i := 4) (some 80) (v := ?_) rfl rfl (by as_aux_lemma => kernel_rfl) (by as_aux_lemma => kernel_rfl) (by as_aux_lemma => kernel_rfl) (fun _ _ _ h => h) (Or.inl ⟨by kernel_rfl, ?_⟩) hS ?_
      rotate_left
      · intro w hSw; have c0 := hSw.1.c0; have e0 := hSw.2.1.c0; have e1 := hSw.2.1.c1; have e2 := hSw.2.1.c2; have e3 := hSw.2.1.c3; have e4 := hSw.2.1.c4; dsimp only at e0 e1 e2 e3 e4; go_simp
        first | done | with_reducible rfl
      refine wpAnyH_takeE (i := 6) (some 82) (v := ?_) rfl rfl (by as_aux_lemma => kernel_rfl) (by as_aux_lemma => kernel_rfl) (by as_aux_lemma => kernel_rfl) (fun _ _ _ h => h) (Or.inl ⟨by kernel_rfl, ?_⟩) hS ?_
      rotate_left
      · intro w hSw; have c0 := hSw.1.c0; have e0 := hSw.2.1.c0; have e1 := hSw.2.1.c1; have e2 := hSw.2.1.c2; have e3 := hSw.2.1.c3; have e4 := hSw.2.1.c4; dsimp only at e0 e1 e2 e3 e4; go_simp
        first | done | with_reducible rfl
      refine wpAnyH_ready (rs := [5, 7]) (by as_aux_lemma => kernel_rfl) (by simp) ?_
      refine AllReadyH.cons rfl (fun K hK => ?_) (AllReadyH.cons rfl (fun K hK => ?_) AllReadyH.nil)
      · have own0 : OwnC w9.drew w9.heap.size (.slice none 0 0) [] := World.ownsRow_nil _ _ _ _
        have hat0 : EntsAt w9.drew a (S.take k) := hat.takeC k
        have hle0 : ([] : List Ent).length + (S.take k).length ≤ 1000000 := by rw [← HTK.out]; simp; omega
        have hsz0 : w9.heap.size ≤ w9.drew.heap.size := Nat.le_refl _
        refine step_append_ents (w := w9.drew) rfl _ _ rfl w9.heap.size (.slice none 0 0) [] (by kernel_rfl) own0 a k c (S.take k) (by kernel_rfl) HTK.out hat0 hnone hle0 hsz0 ?_
        intro v8 w8 own8a g8
        have q8 : Below w9.heap.size w9 w8 := (Below.refl w9.heap.size w9).drew.grown g8 (Nat.le_refl _) (fun j e => by cases e)
        refine hK.out _ _ ⟨k1.below q8 k1.lt, k2.below q8 k2.lt, k3.below q8 k3.lt⟩ (fun hS => ?_)
        clear hK K
        refine wpAnyH_ready (rs := [7]) (by as_aux_lemma => kernel_rfl) (by simp) ?_
        refine AllReadyH.cons rfl (fun K hK => ?_) AllReadyH.nil
        go_simp
        have d9 := (Below.refl w8.heap.size w8).alloc (Nat.le_refl _) (.cells #[.string kx, .int .i64 tx, .int .u16 ox, .string vx, .int .i64 ux] 36)
        refine hK.out _ _ ⟨hS.1.on d9, hS.2.1.on d9, hS.2.2.on d9⟩ (fun hS => ?_)
        clear hK K
        have own9 := own8a.onB d9 (Nat.le_refl _)
        have hx9 : EntsAt (w8.alloc (.cells #[.string kx, .int .i64 tx, .int .u16 ox, .string vx, .int .i64 ux] 36)) (some ⟨w8.heap.size, 0, none⟩) [(⟨kx, tx, ox, vx, ux⟩ : Ent)] := EntsAt.one w8 (⟨kx, tx, ox, vx, ux⟩ : Ent)
        refine wpAnyH_ready (rs := [8]) (by as_aux_lemma => kernel_rfl) (by simp) ?_
        refine AllReadyH.cons rfl (fun K hK => ?_) AllReadyH.nil
        refine step_append_ents rfl _ _ rfl w9.heap.size v8 ([] ++ S.take k) (by kernel_rfl) own9 (some ⟨w8.heap.size, 0, none⟩) 1 1 [(⟨kx, tx, ox, vx, ux⟩ : Ent)] (by kernel_rfl) rfl hx9 (fun e => by cases e) (by have := HTK.out; simp at this ⊢; omega) (Nat.le_trans q8.size d9.size) ?_
        intro v10 w10 own10 g10
        have q10 : Below w9.heap.size w9 w10 := (q8.trans (d9.mono q8.size)).grown g10 (Nat.le_trans q8.size d9.size) (fun j e => (World.ownsRow.lt own9 j e).1)
        refine hK.out _ _ ⟨k1.below q10 k1.lt, k2.below q10 k2.lt, k3.below q10 k3.lt⟩ (fun hS => ?_)
        clear hK K d9 own9 hx9 g10 own8a g8 q8 own0 hat0 hle0 hsz0
        refine wpAnyH_takeE (i := 9) (some 11) (v := ?_) rfl rfl (by as_aux_lemma => kernel_rfl) (by as_aux_lemma => kernel_rfl) (by as_aux_lemma => kernel_rfl) (fun _ _ _ h => h) (Or.inl ⟨by kernel_rfl, ?_⟩) hS ?_
        rotate_left
        · intro w hSw; have c0 := hSw.1.c0; have e0 := hSw.2.1.c0; have e1 := hSw.2.1.c1; have e2 := hSw.2.1.c2; have e3 := hSw.2.1.c3; have e4 := hSw.2.1.c4; dsimp only at e0 e1 e2 e3 e4; go_simp
          first | done | with_reducible rfl
        refine wpAnyH_done (by kernel_rfl) ?_ _
        rw [List.nil_append] at own10
        have b10 := b7.trans (q10.mono b7.size)
        obtain ⟨k1', k2', k3'⟩ := hS
        obtain ⟨a10, c10, rfl, -⟩ := own10.form
        clear k1 k2 k3 hat HTK
        obtain ⟨A10, HA10⟩ : ∃ l, Hid (S.take k ++ [(⟨kx, tx, ox, vx, ux⟩ : Ent)] = l) := ⟨_, Lib.hid rfl⟩
        obtain ⟨D10, HD10⟩ : ∃ l, Hid (S.drop (k) = l) := ⟨_, Lib.hid rfl⟩
        rw [HA10.out] at own10 ⊢
        generalize hN10 : A10.length = n10 at *
        have HN10 := Lib.hid hN10
        clear hN10
        go_simp
        have c0 := k1'.c0
        have hkc : (k : Int) ≤ (c : Int) := by omega
        have hkn : (k : Int) ≤ (n : Int) := by omega
        have hat10 : EntsAt w10 a S := HH.out.1.below b10 (Nat.le_refl _)
        have hKn : k ≤ n := by omega
        have HLN : Hid (n - (k) = D10.length) := Lib.hid (by rw [← HD10.out, List.length_drop, ← HNL.out])
        have hle10 : A10.length + D10.length ≤ 1000000 := by rw [← HLN.out, ← HA10.out, List.length_append, List.length_take, ← HNL.out]; simp; omega
        have hle11 : A10.length + D10.length ≤ 1099511627776 := by omega
        have hsz10 : w9.heap.size ≤ w10.heap.size := q10.size
        have HFin := Lib.hid (fun v12 w12 (own12 : OwnC w12 w9.heap.size v12 (A10 ++ D10)) (g12 : w10.grownBy w12 (Value.slice a10 n10 c10).ownBlock) => cput_end b7 (w.heap.size + 1 + 1) HK3.out (by omega) q10 own10 own12 g12)
        have HLS : Hid (A10 ++ D10 = cputS S (⟨kx, tx, ox, vx, ux⟩ : Ent)) := Lib.hid (by rw [HQ.out.1, ← HA10.out, ← HD10.out, List.append_assoc]; rfl)
        clear HN10 b10 k1' k2' k3' q10 b7 HK3
        by_cases hce : c = k
        · have hnil0 : EntsAt w10 a D10 := by
            have : D10 = [] := by rw [← HD10.out]; exact List.drop_eq_nil_of_le (by rw [← HNL.out]; omega)
            subst this
            exact fun h => by simp at h
          have HL0 : Hid (0 = D10.length) := Lib.hid (by rw [← HLN.out]; omega)
          have hn0 : n = k := by omega
          clear hkn hKn
          replace hce := hce.symm
          subst hce
          go_wp2_with (at_builtin; refine wpList_append_ents _ rfl _ _ rfl w9.heap.size _ _ rfl own10 a _ _ D10 rfl (by have := HL0.out; omega) hnil0 (by simp) hle11 hsz10 ?_; refine Hid.out ?_)
          refine Lib.hid ?_
          intro v12 w12 own12 g12
          obtain ⟨a12, c12, rfl, k12, hR12, hB12⟩ := HFin.out v12 w12 own12 g12
          have hk3 := k12.c0; have hf3 := k12.f 0
          generalize hRR : A10 ++ D10 = RR at *
          have HRR := HLS
          clear hRR
          generalize hNN : RR.length = NN at *
          have HNN := Lib.hid hNN
          clear hNN
          have rr0 := (k12.set (a' := a12) (n' := NN) (c' := c12)).c0
          have HF := Lib.hid (And.intro hR12 hB12)
          clear hR12 hB12 own12 g12 k12 own10 HFin c0 hat10
          go_wp2
          exact bodyPost_ret (v := .tuple #[.agg #[.slice a12 NN c12], .bool true, .int .i64 0]) (by simp [results, Try.results25, go_sem, rr0]) rfl ⟨a12, c12, by rw [← HRR.out, HNN.out, HQ.out.2.1, HQ.out.2.2], by rw [← HRR.out]; exact HF.out.1, HF.out.2⟩
        · have hcl : k < c := by omega
          cases a with
          | none => exact absurd (hnone rfl) (by omega)
          | some q =>
            have hdr := hat10.dropC (k)
            rw [HD10.out] at hdr
            go_wp2_with (at_builtin; refine wpList_append_ents _ rfl _ _ rfl w9.heap.size _ _ rfl own10 (some (q.add ((k) * 5))) _ _ D10 rfl HLN.out hdr (fun e => by cases e) hle11 hsz10 ?_; refine Hid.out ?_)
            refine Lib.hid ?_
            intro v12 w12 own12 g12
            obtain ⟨a12, c12, rfl, k12, hR12, hB12⟩ := HFin.out v12 w12 own12 g12
            have hk3 := k12.c0; have hf3 := k12.f 0
            generalize hRR : A10 ++ D10 = RR at *
            have HRR := HLS
            clear hRR
            generalize hNN : RR.length = NN at *
            have HNN := Lib.hid hNN
            clear hNN
            have rr0 := (k12.set (a' := a12) (n' := NN) (c' := c12)).c0
            have HF := Lib.hid (And.intro hR12 hB12)
            clear hR12 hB12 own12 g12 k12 own10 HFin c0 hat10
            go_wp2
            exact bodyPost_ret (v := .tuple #[.agg #[.slice a12 NN c12], .bool true, .int .i64 0]) (by simp [results, Try.results25, go_sem, rr0]) rfl ⟨a12, c12, by rw [← HRR.out, HNN.out, HQ.out.2.1, HQ.out.2.2], by rw [← HRR.out]; exact HF.out.1, HF.out.2⟩
      · go_simp
        have d8 := (Below.refl w9.heap.size w9).alloc (Nat.le_refl _) (.cells #[.string kx, .int .i64 tx, .int .u16 ox, .string vx, .int .i64 ux] 36)
        have d8' : Below w9.heap.size w9 (w9.alloc (.cells #[.string kx, .int .i64 tx, .int .u16 ox, .string vx, .int .i64 ux] 36)).drew := d8.drew
        refine hK.out _ _ ⟨k1.below d8' k1.lt, k2.below d8' k2.lt, k3.below d8' k3.lt⟩ (fun hS => ?_)
        clear hK K
        have own0 : OwnC (w9.alloc (.cells #[.string kx, .int .i64 tx, .int .u16 ox, .string vx, .int .i64 ux] 36)).drew w9.heap.size (.slice none 0 0) [] := World.ownsRow_nil _ _ _ _
        have hat0 : EntsAt (w9.alloc (.cells #[.string kx, .int .i64 tx, .int .u16 ox, .string vx, .int .i64 ux] 36)).drew a (S.take k) := (hat.below d8 (Nat.le_refl _)).takeC k
        have hle0 : ([] : List Ent).length + (S.take k).length ≤ 1000000 := by rw [← HTK.out]; simp; omega
        have hsz0 : w9.heap.size ≤ (w9.alloc (.cells #[.string kx, .int .i64 tx, .int .u16 ox, .string vx, .int .i64 ux] 36)).drew.heap.size := d8.size
        refine wpAnyH_ready (rs := [5]) (by as_aux_lemma => kernel_rfl) (by simp) ?_
        refine AllReadyH.cons rfl (fun K hK => ?_) AllReadyH.nil
        refine step_append_ents (w := (w9.alloc (.cells #[.string kx, .int .i64 tx, .int .u16 ox, .string vx, .int .i64 ux] 36)).drew) rfl _ _ rfl w9.heap.size (.slice none 0 0) [] (by kernel_rfl) own0 a k c (S.take k) (by kernel_rfl) HTK.out hat0 hnone hle0 hsz0 ?_
        intro v8 w8 own8a g8
        have q8' : Below (w9.alloc (.cells #[.string kx, .int .i64 tx, .int .u16 ox, .string vx, .int .i64 ux] 36)).heap.size (w9.alloc (.cells #[.string kx, .int .i64 tx, .int .u16 ox, .string vx, .int .i64 ux] 36)) w8 := (Below.refl _ _).drew.grown g8 (Nat.le_refl _) (fun j e => by cases e)
        have q8 : Below w9.heap.size w9 w8 := d8.trans (q8'.mono d8.size)
        refine hK.out _ _ ⟨k1.below q8 k1.lt, k2.below q8 k2.lt, k3.below q8 k3.lt⟩ (fun hS => ?_)
        clear hK K
        have hx9 : EntsAt w8 (some ⟨w9.heap.size, 0, none⟩) [(⟨kx, tx, ox, vx, ux⟩ : Ent)] := (EntsAt.one w9 (⟨kx, tx, ox, vx, ux⟩ : Ent)).below q8' (Nat.le_refl _)
        refine wpAnyH_ready (rs := [8]) (by as_aux_lemma => kernel_rfl) (by simp) ?_
        refine AllReadyH.cons rfl (fun K hK => ?_) AllReadyH.nil
        refine step_append_ents rfl _ _ rfl w9.heap.size v8 ([] ++ S.take k) (by kernel_rfl) own8a (some ⟨w9.heap.size, 0, none⟩) 1 1 [(⟨kx, tx, ox, vx, ux⟩ : Ent)] (by kernel_rfl) rfl hx9 (fun e => by cases e) (by have := HTK.out; simp at this ⊢; omega) q8.size ?_
        intro v10 w10 own10 g10
        have q10 : Below w9.heap.size w9 w10 := q8.grown g10 q8.size (fun j e => (World.ownsRow.lt own8a j e).1)
        refine hK.out _ _ ⟨k1.below q10 k1.lt, k2.below q10 k2.lt, k3.below q10 k3.lt⟩ (fun hS => ?_)
        clear hK K d8 d8' q8' hx9 g10 own8a g8 q8 own0 hat0 hle0 hsz0
        refine wpAnyH_takeE (i := 9) (some 11) (v := ?_) rfl rfl (by as_aux_lemma => kernel_rfl) (by as_aux_lemma => kernel_rfl) (by as_aux_lemma => kernel_rfl) (fun _ _ _ h => h) (Or.inl ⟨by kernel_rfl, ?_⟩) hS ?_
        rotate_left
        · intro w hSw; have c0 := hSw.1.c0; have e0 := hSw.2.1.c0; have e1 := hSw.2.1.c1; have e2 := hSw.2.1.c2; have e3 := hSw.2.1.c3; have e4 := hSw.2.1.c4; dsimp only at e0 e1 e2 e3 e4; go_simp
          first | done | with_reducible rfl
        refine wpAnyH_done (by kernel_rfl) ?_ _
        rw [List.nil_append] at own10
        have b10 := b7.trans (q10.mono b7.size)
        obtain ⟨k1', k2', k3'⟩ := hS
        obtain ⟨a10, c10, rfl, -⟩ := own10.form
        clear k1 k2 k3 hat HTK
        obtain ⟨A10, HA10⟩ : ∃ l, Hid (S.take k ++ [(⟨kx, tx, ox, vx, ux⟩ : Ent)] = l) := ⟨_, Lib.hid rfl⟩
        obtain ⟨D10, HD10⟩ : ∃ l, Hid (S.drop (k) = l) := ⟨_, Lib.hid rfl⟩
        rw [HA10.out] at own10 ⊢
        generalize hN10 : A10.length = n10 at *
        have HN10 := Lib.hid hN10
        clear hN10
        go_simp
        have c0 := k1'.c0
        have hkc : (k : Int) ≤ (c : Int) := by omega
        have hkn : (k : Int) ≤ (n : Int) := by omega
        have hat10 : EntsAt w10 a S := HH.out.1.below b10 (Nat.le_refl _)
        have hKn : k ≤ n := by omega
        have HLN : Hid (n - (k) = D10.length) := Lib.hid (by rw [← HD10.out, List.length_drop, ← HNL.out])
        have hle10 : A10.length + D10.length ≤ 1000000 := by rw [← HLN.out, ← HA10.out, List.length_append, List.length_take, ← HNL.out]; simp; omega
        have hle11 : A10.length + D10.length ≤ 1099511627776 := by omega
        have hsz10 : w9.heap.size ≤ w10.heap.size := q10.size
        have HFin := Lib.hid (fun v12 w12 (own12 : OwnC w12 w9.heap.size v12 (A10 ++ D10)) (g12 : w10.grownBy w12 (Value.slice a10 n10 c10).ownBlock) => cput_end b7 (w.heap.size + 1 + 1) HK3.out (by omega) q10 own10 own12 g12)
        have HLS : Hid (A10 ++ D10 = cputS S (⟨kx, tx, ox, vx, ux⟩ : Ent)) := Lib.hid (by rw [HQ.out.1, ← HA10.out, ← HD10.out, List.append_assoc]; rfl)
        clear HN10 b10 k1' k2' k3' q10 b7 HK3
        by_cases hce : c = k
        · have hnil0 : EntsAt w10 a D10 := by
            have : D10 = [] := by rw [← HD10.out]; exact List.drop_eq_nil_of_le (by rw [← HNL.out]; omega)
            subst this
            exact fun h => by simp at h
          have HL0 : Hid (0 = D10.length) := Lib.hid (by rw [← HLN.out]; omega)
          have hn0 : n = k := by omega
          clear hkn hKn
          replace hce := hce.symm
          subst hce
          go_wp2_with (at_builtin; refine wpList_append_ents _ rfl _ _ rfl w9.heap.size _ _ rfl own10 a _ _ D10 rfl (by have := HL0.out; omega) hnil0 (by simp) hle11 hsz10 ?_; refine Hid.out ?_)
          refine Lib.hid ?_
          intro v12 w12 own12 g12
          obtain ⟨a12, c12, rfl, k12, hR12, hB12⟩ := HFin.out v12 w12 own12 g12
          have hk3 := k12.c0; have hf3 := k12.f 0
          generalize hRR : A10 ++ D10 = RR at *
          have HRR := HLS
          clear hRR
          generalize hNN : RR.length = NN at *
          have HNN := Lib.hid hNN
          clear hNN
          have rr0 := (k12.set (a' := a12) (n' := NN) (c' := c12)).c0
          have HF := Lib.hid (And.intro hR12 hB12)
          clear hR12 hB12 own12 g12 k12 own10 HFin c0 hat10
          go_wp2
          exact bodyPost_ret (v := .tuple #[.agg #[.slice a12 NN c12], .bool true, .int .i64 0]) (by simp [results, Try.results25, go_sem, rr0]) rfl ⟨a12, c12, by rw [← HRR.out, HNN.out, HQ.out.2.1, HQ.out.2.2], by rw [← HRR.out]; exact HF.out.1, HF.out.2⟩
        · have hcl : k < c := by omega
          cases a with
          | none => exact absurd (hnone rfl) (by omega)
          | some q =>
            have hdr := hat10.dropC (k)
            rw [HD10.out] at hdr
            go_wp2_with (at_builtin; refine wpList_append_ents _ rfl _ _ rfl w9.heap.size _ _ rfl own10 (some (q.add ((k) * 5))) _ _ D10 rfl HLN.out hdr (fun e => by cases e) hle11 hsz10 ?_; refine Hid.out ?_)
            refine Lib.hid ?_
            intro v12 w12 own12 g12
            obtain ⟨a12, c12, rfl, k12, hR12, hB12⟩ := HFin.out v12 w12 own12 g12
            have hk3 := k12.c0; have hf3 := k12.f 0
            generalize hRR : A10 ++ D10 = RR at *
            have HRR := HLS
            clear hRR
            generalize hNN : RR.length = NN at *
            have HNN := Lib.hid hNN
            clear hNN
            have rr0 := (k12.set (a' := a12) (n' := NN) (c' := c12)).c0
            have HF := Lib.hid (And.intro hR12 hB12)
            clear hR12 hB12 own12 g12 k12 own10 HFin c0 hat10
            go_wp2
            exact bodyPost_ret (v := .tuple #[.agg #[.slice a12 NN c12], .bool true, .int .i64 0]) (by simp [results, Try.results25, go_sem, rr0]) rfl ⟨a12, c12, by rw [← HRR.out, HNN.out, HQ.out.2.1, HQ.out.2.2], by rw [← HRR.out]; exact HF.out.1, HF.out.2⟩

set_option maxRecDepth 100000 in
set_option maxHeartbeats 8000000 in
theorem crPut_new1 (a : Option Addr) (c : Nat) (S : List Ent) (kx : ByteArray) (tx ox : Int) (vx : ByteArray) (ux : Int) (w : World) (h : RefM w a c S) (hR : RisingC S) (hn : S.length ≤ 256) (n : Nat) (hnl : n = S.length) (hE : checkEn ⟨kx, tx, ox, vx, ux⟩ = 0) (P : Nat) (hP : placeC S (Ent.key ⟨kx, tx, ox, vx, ux⟩) = P) (hPm : P < n) (hYY : ∀ hl : P < S.length, (S[P].k.toList == kx.toList) = false) (hgot : gotC S (Ent.key ⟨kx, tx, ox, vx, ux⟩) = none) (h6 : ¬ 256 ≤ S.length) (hat : isAtC S (Ent.key ⟨kx, tx, ox, vx, ux⟩) = false) : Calls Try.prog 25 #[.agg #[.slice a n c], .agg #[.string kx, .int .i64 tx, .int .u16 ox, .string vx, .int .i64 ux]] w (CPutPost w S ⟨kx, tx, ox, vx, ux⟩) := by
  have q2 : cputE S ⟨kx, tx, ox, vx, ux⟩ = 0 := by unfold cputE; rw [if_neg (by simp [hE]), if_neg (by rintro ⟨-, h⟩; omega)]
  have q1 : cputB S ⟨kx, tx, ox, vx, ux⟩ = true := by unfold cputB; rw [q2, hgot]; rfl
  have q0 : cputS S ⟨kx, tx, ox, vx, ux⟩ = S.take P ++ ⟨kx, tx, ox, vx, ux⟩ :: S.drop P := by unfold cputS; rw [q1, if_pos rfl, put_splitC hR, hP, hat]; rfl
  have HQ := Lib.hid (And.intro q0 (And.intro q1 q2))
  have h256 : n < 256 := by omega
  clear q0 q1 q2 hat hgot h6
  have HNL := Lib.hid hnl
  have hn2 : n ≤ 256 := by omega
  have d1 := (Below.refl w.heap.size w).alloc (Nat.le_refl _) (.cells #[.slice a n c] 30)
  have d2 := d1.alloc (by simp) (.cells #[.string kx, .int .i64 tx, .int .u16 ox, .string vx, .int .i64 ux] 36)
  have d3 := d2.alloc (by simp; omega) (.cells #[.slice none 0 0] 30)
  have s1 : (w.alloc (.cells #[.slice a n c] 30)).heap.size = w.heap.size + 1 := by simp
  have s2 : ((w.alloc (.cells #[.slice a n c] 30)).alloc (.cells #[.string kx, .int .i64 tx, .int .u16 ox, .string vx, .int .i64 ux] 36)).heap.size = w.heap.size + 1 + 1 := by simp
  have s3 : (((w.alloc (.cells #[.slice a n c] 30)).alloc (.cells #[.string kx, .int .i64 tx, .int .u16 ox, .string vx, .int .i64 ux] 36)).alloc (.cells #[.slice none 0 0] 30)).heap.size = w.heap.size + 1 + 1 + 1 := by simp
  have k1 := RmBlk.new w a n c
  have k2 := EBlk.new (w.alloc (.cells #[.slice a n c] 30)) ⟨kx, tx, ox, vx, ux⟩
  have k3 := RmBlk.new ((w.alloc (.cells #[.slice a n c] 30)).alloc (.cells #[.string kx, .int .i64 tx, .int .u16 ox, .string vx, .int .i64 ux] 36)) none 0 0
  rw [s1] at k2
  rw [s2] at k3
  replace k1 := (k1.below ((Below.refl _ _).alloc (Nat.le_refl _) (.cells #[.string kx, .int .i64 tx, .int .u16 ox, .string vx, .int .i64 ux] 36)) (by simp)).below ((Below.refl _ _).alloc (Nat.le_refl _) (.cells #[.slice none 0 0] 30)) (by simp; omega)
  replace k2 := k2.below ((Below.refl _ _).alloc (Nat.le_refl _) (.cells #[.slice none 0 0] 30)) (by simp)
  have HC := Lib.hid (eRefCheck_any ⟨kx, tx, ox, vx, ux⟩ (((w.alloc (.cells #[.slice a n c] 30)).alloc (.cells #[.string kx, .int .i64 tx, .int .u16 ox, .string vx, .int .i64 ux] 36)).alloc (.cells #[.slice none 0 0] 30)))
  dsimp only at HC
  have HW := Lib.hid (And.intro d3 (And.intro s3 (And.intro k1 (And.intro k2 k3))))
  have HH := Lib.hid h
  clear d1 d2 d3 s1 s2 s3 k1 k2 k3 hnl
  rw [hE] at HC
  unfold CPutPost
  have hPn : P ≤ n := by rw [HNL.out, ← hP]; exact placeC_le _ _
  have HPl : Hid (∀ j (hj : j < S.length), j < P → S[j].key < Ent.key ⟨kx, tx, ox, vx, ux⟩) := Lib.hid (fun j hj hjp => placeC_lt (by rw [hP]; exact hjp))
  have hc := h.2.1
  rw [← HNL.out] at hc
  have hPlt : P < n := hPm
  have HNo := Lib.hid (placeC_stop (S := S) (k := Ent.key ⟨kx, tx, ox, vx, ux⟩) hP)
  clear h hR hE hP hn hPm
  go_enter Try.func25, Try.ntmps25
  go_wp2_with (go_at_call 35; refine HC.out.mono ?_; rintro r w2 ⟨rfl, q2⟩; refine Hid.out ?_)
  refine Lib.hid ?_
  obtain ⟨d3, s3, k1, k2, k3⟩ := HW.out
  rw [s3] at q2
  replace k1 := k1.below q2 (by omega)
  replace k2 := k2.below q2 (by omega)
  replace k3 := k3.below q2 (by omega)
  have b2 := d3.trans (q2.mono (by omega))
  have HI := Lib.hid (And.intro k1 (And.intro k2 (And.intro k3 b2)))
  clear d3 s3 q2 HC HW k1 k2 k3 b2
  go_wp2
  go_loopw [8] (fun i wr => ∃ (k : Nat), k ≤ P ∧ i = .int .i64 (k : Int) ∧ Hid (RmBlk wr w.heap.size a n c ∧ EBlk wr (w.heap.size + 1) ⟨kx, tx, ox, vx, ux⟩ ∧ RmBlk wr (w.heap.size + 1 + 1) none 0 0 ∧ Below w.heap.size w wr)) (fun i _ => P - (intOf i).toNat)
  case atStart => exact ⟨0, Nat.zero_le _, rfl, HI⟩
  case round =>
    clear HI
    obtain ⟨k, hk, rfl, HI⟩ := hrel
    obtain ⟨k1, k2, k3, b2⟩ := HI.out
    by_cases hlt : k < P
    · have hkl : (k : Int) < (n : Int) := by omega
      have hkx : k < S.length := by have := HNL.out; omega
      obtain ⟨b, o, rfl, rr⟩ := (HH.out.1.below b2 (Nat.le_refl _)).row k hkx
      have hless : Op.bytesLess S[k].k.toList kx.toList = true := by rw [ByteArray.toList_eq, ByteArray.toList_eq, lessE]; exact decide_eq_true (HPl.out k hkx hlt)
      generalize S[k] = y at *
      clear hkx HI
      go_wp2_with fail
      refine wp_region_any (by kernel_rfl) ?_
      change wpAny _ _ _ _ _ _ _ (World.drew _)
      have hS : (fun w' : World => RmBlk w' w.heap.size (some ⟨b, o, none⟩) n c ∧ EBlk w' (w.heap.size + 1) ⟨kx, tx, ox, vx, ux⟩ ∧ RmBlk w' (w.heap.size + 1 + 1) none 0 0 ∧ RowAt w' b (o + k * 5) y ∧ Below w.heap.size w w') wr.drew := ⟨k1, k2, k3, rr, b2.drew⟩
      refine wpAny_of_held (S := fun w' => RmBlk w' w.heap.size (some ⟨b, o, none⟩) n c ∧ EBlk w' (w.heap.size + 1) ⟨kx, tx, ox, vx, ux⟩ ∧ RmBlk w' (w.heap.size + 1 + 1) none 0 0 ∧ RowAt w' b (o + k * 5) y ∧ Below w.heap.size w w') _ _ _ _ ?_
      clear k1 k2 k3 rr b2
      refine wpAnyH_takeE (i := 0) (some 18) (v := ?_) rfl rfl (by as_aux_lemma => kernel_rfl) (by as_aux_lemma => kernel_rfl) (by as_aux_lemma => kernel_rfl) (fun _ _ _ h => h) (Or.inl ⟨by kernel_rfl, ?_⟩) hS ?_
      rotate_left
      · intro w hSw; have c0 := hSw.1.c0; have e0 := hSw.2.1.c0; have e1 := hSw.2.1.c1; have e2 := hSw.2.1.c2; have e3 := hSw.2.1.c3; have e4 := hSw.2.1.c4; dsimp only at e0 e1 e2 e3 e4; obtain ⟨d0, d1, d2, d3, d4⟩ := hSw.2.2.2.1; go_simp
        first | done | with_reducible rfl
      refine wpAnyH_takeE (i := 1) (some 19) (v := ?_) rfl rfl (by as_aux_lemma => kernel_rfl) (by as_aux_lemma => kernel_rfl) (by as_aux_lemma => kernel_rfl) (fun _ _ _ h => h) (Or.inl ⟨by kernel_rfl, ?_⟩) hS ?_
      rotate_left
      · intro w hSw; have c0 := hSw.1.c0; have e0 := hSw.2.1.c0; have e1 := hSw.2.1.c1; have e2 := hSw.2.1.c2; have e3 := hSw.2.1.c3; have e4 := hSw.2.1.c4; dsimp only at e0 e1 e2 e3 e4; obtain ⟨d0, d1, d2, d3, d4⟩ := hSw.2.2.2.1; go_simp
        first | done | with_reducible rfl
      refine wpAnyH_takeE (i := 2) (some 20) (v := ?_) rfl rfl (by as_aux_lemma => kernel_rfl) (by as_aux_lemma => kernel_rfl) (by as_aux_lemma => kernel_rfl) (fun _ _ _ h => h) (Or.inl ⟨by kernel_rfl, ?_⟩) hS ?_
      rotate_left
      · intro w hSw; have c0 := hSw.1.c0; have e0 := hSw.2.1.c0; have e1 := hSw.2.1.c1; have e2 := hSw.2.1.c2; have e3 := hSw.2.1.c3; have e4 := hSw.2.1.c4; dsimp only at e0 e1 e2 e3 e4; obtain ⟨d0, d1, d2, d3, d4⟩ := hSw.2.2.2.1; go_simp
        first | done | with_reducible rfl
      refine wpAnyH_takeE (i := 3) (some 21) (v := ?_) rfl rfl (by as_aux_lemma => kernel_rfl) (by as_aux_lemma => kernel_rfl) (by as_aux_lemma => kernel_rfl) (fun _ _ _ h => h) (Or.inl ⟨by kernel_rfl, ?_⟩) hS ?_
      rotate_left
      · intro w hSw; have c0 := hSw.1.c0; have e0 := hSw.2.1.c0; have e1 := hSw.2.1.c1; have e2 := hSw.2.1.c2; have e3 := hSw.2.1.c3; have e4 := hSw.2.1.c4; dsimp only at e0 e1 e2 e3 e4; obtain ⟨d0, d1, d2, d3, d4⟩ := hSw.2.2.2.1; go_simp
        first | done | with_reducible rfl
      refine wpAnyH_takeE (i := 4) (some 22) (v := ?_) rfl rfl (by as_aux_lemma => kernel_rfl) (by as_aux_lemma => kernel_rfl) (by as_aux_lemma => kernel_rfl) (fun _ _ _ h => h) (Or.inl ⟨by kernel_rfl, ?_⟩) hS ?_
      rotate_left
      · intro w hSw; have c0 := hSw.1.c0; have e0 := hSw.2.1.c0; have e1 := hSw.2.1.c1; have e2 := hSw.2.1.c2; have e3 := hSw.2.1.c3; have e4 := hSw.2.1.c4; dsimp only at e0 e1 e2 e3 e4; obtain ⟨d0, d1, d2, d3, d4⟩ := hSw.2.2.2.1; go_simp
        first | done | with_reducible rfl
      refine wpAnyH_takeE (i := 5) (some 23) (v := ?_) rfl rfl (by as_aux_lemma => kernel_rfl) (by as_aux_lemma => kernel_rfl) (by as_aux_lemma => kernel_rfl) (fun _ _ _ h => h) (Or.inl ⟨by kernel_rfl, ?_⟩) hS ?_
      rotate_left
      · intro w hSw; have c0 := hSw.1.c0; have e0 := hSw.2.1.c0; have e1 := hSw.2.1.c1; have e2 := hSw.2.1.c2; have e3 := hSw.2.1.c3; have e4 := hSw.2.1.c4; dsimp only at e0 e1 e2 e3 e4; obtain ⟨d0, d1, d2, d3, d4⟩ := hSw.2.2.2.1; go_simp
        first | done | with_reducible rfl
      refine wpAnyH_takeE (i := 6) (some 24) (v := ?_) rfl rfl (by as_aux_lemma => kernel_rfl) (by as_aux_lemma => kernel_rfl) (by as_aux_lemma => kernel_rfl) (fun _ _ _ h => h) (Or.inl ⟨by kernel_rfl, ?_⟩) hS ?_
      rotate_left
      · intro w hSw; have c0 := hSw.1.c0; have e0 := hSw.2.1.c0; have e1 := hSw.2.1.c1; have e2 := hSw.2.1.c2; have e3 := hSw.2.1.c3; have e4 := hSw.2.1.c4; dsimp only at e0 e1 e2 e3 e4; obtain ⟨d0, d1, d2, d3, d4⟩ := hSw.2.2.2.1; go_simp
        first | done | with_reducible rfl
      refine wpAnyH_takeE (i := 7) (some 25) (v := ?_) rfl rfl (by as_aux_lemma => kernel_rfl) (by as_aux_lemma => kernel_rfl) (by as_aux_lemma => kernel_rfl) (fun _ _ _ h => h) (Or.inl ⟨by kernel_rfl, ?_⟩) hS ?_
      rotate_left
      · intro w hSw; have c0 := hSw.1.c0; have e0 := hSw.2.1.c0; have e1 := hSw.2.1.c1; have e2 := hSw.2.1.c2; have e3 := hSw.2.1.c3; have e4 := hSw.2.1.c4; dsimp only at e0 e1 e2 e3 e4; obtain ⟨d0, d1, d2, d3, d4⟩ := hSw.2.2.2.1; go_simp
        first | done | with_reducible rfl
      refine wpAnyH_takeE (i := 8) (some 26) (v := ?_) rfl rfl (by as_aux_lemma => kernel_rfl) (by as_aux_lemma => kernel_rfl) (by as_aux_lemma => kernel_rfl) (fun _ _ _ h => h) (Or.inl ⟨by kernel_rfl, ?_⟩) hS ?_
      rotate_left
      · intro w hSw; have c0 := hSw.1.c0; have e0 := hSw.2.1.c0; have e1 := hSw.2.1.c1; have e2 := hSw.2.1.c2; have e3 := hSw.2.1.c3; have e4 := hSw.2.1.c4; dsimp only at e0 e1 e2 e3 e4; obtain ⟨d0, d1, d2, d3, d4⟩ := hSw.2.2.2.1; go_simp
        first | done | with_reducible rfl
      refine wpAnyH_takeE (i := 9) (some 27) (v := ?_) rfl rfl (by as_aux_lemma => kernel_rfl) (by as_aux_lemma => kernel_rfl) (by as_aux_lemma => kernel_rfl) (fun _ _ _ h => h) (Or.inl ⟨by kernel_rfl, ?_⟩) hS ?_
      rotate_left
      · intro w hSw; have c0 := hSw.1.c0; have e0 := hSw.2.1.c0; have e1 := hSw.2.1.c1; have e2 := hSw.2.1.c2; have e3 := hSw.2.1.c3; have e4 := hSw.2.1.c4; dsimp only at e0 e1 e2 e3 e4; obtain ⟨d0, d1, d2, d3, d4⟩ := hSw.2.2.2.1; go_simp
        first | done | with_reducible rfl
      refine wpAnyH_takeE (i := 10) (some 28) (v := ?_) rfl rfl (by as_aux_lemma => kernel_rfl) (by as_aux_lemma => kernel_rfl) (by as_aux_lemma => kernel_rfl) (fun _ _ _ h => h) (Or.inl ⟨by kernel_rfl, ?_⟩) hS ?_
      rotate_left
      · intro w hSw; have c0 := hSw.1.c0; have e0 := hSw.2.1.c0; have e1 := hSw.2.1.c1; have e2 := hSw.2.1.c2; have e3 := hSw.2.1.c3; have e4 := hSw.2.1.c4; dsimp only at e0 e1 e2 e3 e4; obtain ⟨d0, d1, d2, d3, d4⟩ := hSw.2.2.2.1; go_simp
        first | done | with_reducible rfl
      refine wpAnyH_takeE (i := 11) (some 29) (v := ?_) rfl rfl (by as_aux_lemma => kernel_rfl) (by as_aux_lemma => kernel_rfl) (by as_aux_lemma => kernel_rfl) (fun _ _ _ h => h) (Or.inl ⟨by kernel_rfl, ?_⟩) hS ?_
      rotate_left
      · intro w hSw; have c0 := hSw.1.c0; have e0 := hSw.2.1.c0; have e1 := hSw.2.1.c1; have e2 := hSw.2.1.c2; have e3 := hSw.2.1.c3; have e4 := hSw.2.1.c4; dsimp only at e0 e1 e2 e3 e4; obtain ⟨d0, d1, d2, d3, d4⟩ := hSw.2.2.2.1; go_simp
        first | done | with_reducible rfl
      refine wpAnyH_takeE (i := 12) (some 30) (v := ?_) rfl rfl (by as_aux_lemma => kernel_rfl) (by as_aux_lemma => kernel_rfl) (by as_aux_lemma => kernel_rfl) (fun _ _ _ h => h) (Or.inl ⟨by kernel_rfl, ?_⟩) hS ?_
      rotate_left
      · intro w hSw; have c0 := hSw.1.c0; have e0 := hSw.2.1.c0; have e1 := hSw.2.1.c1; have e2 := hSw.2.1.c2; have e3 := hSw.2.1.c3; have e4 := hSw.2.1.c4; dsimp only at e0 e1 e2 e3 e4; obtain ⟨d0, d1, d2, d3, d4⟩ := hSw.2.2.2.1; go_simp
        first | done | with_reducible rfl
      refine wpAnyH_takeE (i := 13) (some 31) (v := ?_) rfl rfl (by as_aux_lemma => kernel_rfl) (by as_aux_lemma => kernel_rfl) (by as_aux_lemma => kernel_rfl) (fun _ _ _ h => h) (Or.inl ⟨by kernel_rfl, ?_⟩) hS ?_
      rotate_left
      · intro w hSw; have c0 := hSw.1.c0; have e0 := hSw.2.1.c0; have e1 := hSw.2.1.c1; have e2 := hSw.2.1.c2; have e3 := hSw.2.1.c3; have e4 := hSw.2.1.c4; dsimp only at e0 e1 e2 e3 e4; obtain ⟨d0, d1, d2, d3, d4⟩ := hSw.2.2.2.1; go_simp
        first | done | with_reducible rfl
      refine wpAnyH_takeE (i := 14) (some 32) (v := ?_) rfl rfl (by as_aux_lemma => kernel_rfl) (by as_aux_lemma => kernel_rfl) (by as_aux_lemma => kernel_rfl) (fun _ _ _ h => h) (Or.inl ⟨by kernel_rfl, ?_⟩) hS ?_
      rotate_left
      · intro w hSw; have c0 := hSw.1.c0; have e0 := hSw.2.1.c0; have e1 := hSw.2.1.c1; have e2 := hSw.2.1.c2; have e3 := hSw.2.1.c3; have e4 := hSw.2.1.c4; dsimp only at e0 e1 e2 e3 e4; obtain ⟨d0, d1, d2, d3, d4⟩ := hSw.2.2.2.1; go_simp
        first | done | with_reducible rfl
      refine wpAnyH_takeE (i := 15) (some 33) (v := ?_) rfl rfl (by as_aux_lemma => kernel_rfl) (by as_aux_lemma => kernel_rfl) (by as_aux_lemma => kernel_rfl) (fun _ _ _ h => h) (Or.inl ⟨by kernel_rfl, ?_⟩) hS ?_
      rotate_left
      · intro w hSw; have c0 := hSw.1.c0; have e0 := hSw.2.1.c0; have e1 := hSw.2.1.c1; have e2 := hSw.2.1.c2; have e3 := hSw.2.1.c3; have e4 := hSw.2.1.c4; dsimp only at e0 e1 e2 e3 e4; obtain ⟨d0, d1, d2, d3, d4⟩ := hSw.2.2.2.1; go_simp
        first | done | with_reducible rfl
      have HI : Hid (RmBlk wr.drew w.heap.size (some ⟨b, o, none⟩) n c ∧ EBlk wr.drew (w.heap.size + 1) ⟨kx, tx, ox, vx, ux⟩ ∧ RmBlk wr.drew (w.heap.size + 1 + 1) none 0 0 ∧ Below w.heap.size w wr.drew) := Lib.hid ⟨hS.1, hS.2.1, hS.2.2.1, hS.2.2.2.2⟩
      refine wpAnyH_done (by kernel_rfl) ?_ _
      clear hS
      go_simp
      go_wp2
      go_roundw
      case rel => exact ⟨k + 1, by omega, by go_num, HI⟩
      case measure => simp [intOf]; omega
    · obtain rfl : k = P := by omega
      have hkl : (k : Int) < (n : Int) := by omega
      have hkx : k < S.length := by have := HNL.out; omega
      obtain ⟨b, o, rfl, rr⟩ := (HH.out.1.below b2 (Nat.le_refl _)).row k hkx
      have hless : Op.bytesLess S[k].k.toList kx.toList = false := by rw [ByteArray.toList_eq, ByteArray.toList_eq, lessE]; exact decide_eq_false (HNo.out hkx)
      have HY := Lib.hid (hYY hkx)
      clear hYY
      generalize S[k] = y at *
      clear hkx HI HNo
      obtain ⟨ky, ty, oy, vy, uy⟩ := y
      have hYe := HY.out
      dsimp only at hYe hless
      go_wp2_with fail
      refine wp_region_any (by kernel_rfl) ?_
      change wpAny _ _ _ _ _ _ _ (World.drew _)
      have hS : (fun w' : World => RmBlk w' w.heap.size (some ⟨b, o, none⟩) n c ∧ EBlk w' (w.heap.size + 1) ⟨kx, tx, ox, vx, ux⟩ ∧ RmBlk w' (w.heap.size + 1 + 1) none 0 0 ∧ RowAt w' b (o + k * 5) ⟨ky, ty, oy, vy, uy⟩ ∧ Below w.heap.size w w') wr.drew := ⟨k1, k2, k3, rr, b2.drew⟩
      refine wpAny_of_held (S := fun w' => RmBlk w' w.heap.size (some ⟨b, o, none⟩) n c ∧ EBlk w' (w.heap.size + 1) ⟨kx, tx, ox, vx, ux⟩ ∧ RmBlk w' (w.heap.size + 1 + 1) none 0 0 ∧ RowAt w' b (o + k * 5) ⟨ky, ty, oy, vy, uy⟩ ∧ Below w.heap.size w w') _ _ _ _ ?_
      clear k1 k2 k3 rr b2
      refine wpAnyH_takeE (i := 0) (some 18) (v := ?_) rfl rfl (by as_aux_lemma => kernel_rfl) (by as_aux_lemma => kernel_rfl) (by as_aux_lemma => kernel_rfl) (fun _ _ _ h => h) (Or.inl ⟨by kernel_rfl, ?_⟩) hS ?_
      rotate_left
      · intro w hSw; have c0 := hSw.1.c0; have e0 := hSw.2.1.c0; have e1 := hSw.2.1.c1; have e2 := hSw.2.1.c2; have e3 := hSw.2.1.c3; have e4 := hSw.2.1.c4; dsimp only at e0 e1 e2 e3 e4; obtain ⟨d0, d1, d2, d3, d4⟩ := hSw.2.2.2.1; dsimp only at d0 d1 d2 d3 d4; go_simp
        first | done | with_reducible rfl
      refine wpAnyH_takeE (i := 1) (some 19) (v := ?_) rfl rfl (by as_aux_lemma => kernel_rfl) (by as_aux_lemma => kernel_rfl) (by as_aux_lemma => kernel_rfl) (fun _ _ _ h => h) (Or.inl ⟨by kernel_rfl, ?_⟩) hS ?_
      rotate_left
      · intro w hSw; have c0 := hSw.1.c0; have e0 := hSw.2.1.c0; have e1 := hSw.2.1.c1; have e2 := hSw.2.1.c2; have e3 := hSw.2.1.c3; have e4 := hSw.2.1.c4; dsimp only at e0 e1 e2 e3 e4; obtain ⟨d0, d1, d2, d3, d4⟩ := hSw.2.2.2.1; dsimp only at d0 d1 d2 d3 d4; go_simp
        first | done | with_reducible rfl
      refine wpAnyH_takeE (i := 2) (some 20) (v := ?_) rfl rfl (by as_aux_lemma => kernel_rfl) (by as_aux_lemma => kernel_rfl) (by as_aux_lemma => kernel_rfl) (fun _ _ _ h => h) (Or.inl ⟨by kernel_rfl, ?_⟩) hS ?_
      rotate_left
      · intro w hSw; have c0 := hSw.1.c0; have e0 := hSw.2.1.c0; have e1 := hSw.2.1.c1; have e2 := hSw.2.1.c2; have e3 := hSw.2.1.c3; have e4 := hSw.2.1.c4; dsimp only at e0 e1 e2 e3 e4; obtain ⟨d0, d1, d2, d3, d4⟩ := hSw.2.2.2.1; dsimp only at d0 d1 d2 d3 d4; go_simp
        first | done | with_reducible rfl
      refine wpAnyH_takeE (i := 3) (some 21) (v := ?_) rfl rfl (by as_aux_lemma => kernel_rfl) (by as_aux_lemma => kernel_rfl) (by as_aux_lemma => kernel_rfl) (fun _ _ _ h => h) (Or.inl ⟨by kernel_rfl, ?_⟩) hS ?_
      rotate_left
      · intro w hSw; have c0 := hSw.1.c0; have e0 := hSw.2.1.c0; have e1 := hSw.2.1.c1; have e2 := hSw.2.1.c2; have e3 := hSw.2.1.c3; have e4 := hSw.2.1.c4; dsimp only at e0 e1 e2 e3 e4; obtain ⟨d0, d1, d2, d3, d4⟩ := hSw.2.2.2.1; dsimp only at d0 d1 d2 d3 d4; go_simp
        first | done | with_reducible rfl
      refine wpAnyH_takeE (i := 4) (some 22) (v := ?_) rfl rfl (by as_aux_lemma => kernel_rfl) (by as_aux_lemma => kernel_rfl) (by as_aux_lemma => kernel_rfl) (fun _ _ _ h => h) (Or.inl ⟨by kernel_rfl, ?_⟩) hS ?_
      rotate_left
      · intro w hSw; have c0 := hSw.1.c0; have e0 := hSw.2.1.c0; have e1 := hSw.2.1.c1; have e2 := hSw.2.1.c2; have e3 := hSw.2.1.c3; have e4 := hSw.2.1.c4; dsimp only at e0 e1 e2 e3 e4; obtain ⟨d0, d1, d2, d3, d4⟩ := hSw.2.2.2.1; dsimp only at d0 d1 d2 d3 d4; go_simp
        first | done | with_reducible rfl
      refine wpAnyH_takeE (i := 5) (some 23) (v := ?_) rfl rfl (by as_aux_lemma => kernel_rfl) (by as_aux_lemma => kernel_rfl) (by as_aux_lemma => kernel_rfl) (fun _ _ _ h => h) (Or.inl ⟨by kernel_rfl, ?_⟩) hS ?_
      rotate_left
      · intro w hSw; have c0 := hSw.1.c0; have e0 := hSw.2.1.c0; have e1 := hSw.2.1.c1; have e2 := hSw.2.1.c2; have e3 := hSw.2.1.c3; have e4 := hSw.2.1.c4; dsimp only at e0 e1 e2 e3 e4; obtain ⟨d0, d1, d2, d3, d4⟩ := hSw.2.2.2.1; dsimp only at d0 d1 d2 d3 d4; go_simp
        first | done | with_reducible rfl
      refine wpAnyH_takeE (i := 6) (some 24) (v := ?_) rfl rfl (by as_aux_lemma => kernel_rfl) (by as_aux_lemma => kernel_rfl) (by as_aux_lemma => kernel_rfl) (fun _ _ _ h => h) (Or.inl ⟨by kernel_rfl, ?_⟩) hS ?_
      rotate_left
      · intro w hSw; have c0 := hSw.1.c0; have e0 := hSw.2.1.c0; have e1 := hSw.2.1.c1; have e2 := hSw.2.1.c2; have e3 := hSw.2.1.c3; have e4 := hSw.2.1.c4; dsimp only at e0 e1 e2 e3 e4; obtain ⟨d0, d1, d2, d3, d4⟩ := hSw.2.2.2.1; dsimp only at d0 d1 d2 d3 d4; go_simp
        first | done | with_reducible rfl
      refine wpAnyH_takeE (i := 7) (some 25) (v := ?_) rfl rfl (by as_aux_lemma => kernel_rfl) (by as_aux_lemma => kernel_rfl) (by as_aux_lemma => kernel_rfl) (fun _ _ _ h => h) (Or.inl ⟨by kernel_rfl, ?_⟩) hS ?_
      rotate_left
      · intro w hSw; have c0 := hSw.1.c0; have e0 := hSw.2.1.c0; have e1 := hSw.2.1.c1; have e2 := hSw.2.1.c2; have e3 := hSw.2.1.c3; have e4 := hSw.2.1.c4; dsimp only at e0 e1 e2 e3 e4; obtain ⟨d0, d1, d2, d3, d4⟩ := hSw.2.2.2.1; dsimp only at d0 d1 d2 d3 d4; go_simp
        first | done | with_reducible rfl
      refine wpAnyH_takeE (i := 8) (some 26) (v := ?_) rfl rfl (by as_aux_lemma => kernel_rfl) (by as_aux_lemma => kernel_rfl) (by as_aux_lemma => kernel_rfl) (fun _ _ _ h => h) (Or.inl ⟨by kernel_rfl, ?_⟩) hS ?_
      rotate_left
      · intro w hSw; have c0 := hSw.1.c0; have e0 := hSw.2.1.c0; have e1 := hSw.2.1.c1; have e2 := hSw.2.1.c2; have e3 := hSw.2.1.c3; have e4 := hSw.2.1.c4; dsimp only at e0 e1 e2 e3 e4; obtain ⟨d0, d1, d2, d3, d4⟩ := hSw.2.2.2.1; dsimp only at d0 d1 d2 d3 d4; go_simp
        first | done | with_reducible rfl
      refine wpAnyH_takeE (i := 9) (some 27) (v := ?_) rfl rfl (by as_aux_lemma => kernel_rfl) (by as_aux_lemma => kernel_rfl) (by as_aux_lemma => kernel_rfl) (fun _ _ _ h => h) (Or.inl ⟨by kernel_rfl, ?_⟩) hS ?_
      rotate_left
      · intro w hSw; have c0 := hSw.1.c0; have e0 := hSw.2.1.c0; have e1 := hSw.2.1.c1; have e2 := hSw.2.1.c2; have e3 := hSw.2.1.c3; have e4 := hSw.2.1.c4; dsimp only at e0 e1 e2 e3 e4; obtain ⟨d0, d1, d2, d3, d4⟩ := hSw.2.2.2.1; dsimp only at d0 d1 d2 d3 d4; go_simp
        first | done | with_reducible rfl
      refine wpAnyH_takeE (i := 10) (some 28) (v := ?_) rfl rfl (by as_aux_lemma => kernel_rfl) (by as_aux_lemma => kernel_rfl) (by as_aux_lemma => kernel_rfl) (fun _ _ _ h => h) (Or.inl ⟨by kernel_rfl, ?_⟩) hS ?_
      rotate_left
      · intro w hSw; have c0 := hSw.1.c0; have e0 := hSw.2.1.c0; have e1 := hSw.2.1.c1; have e2 := hSw.2.1.c2; have e3 := hSw.2.1.c3; have e4 := hSw.2.1.c4; dsimp only at e0 e1 e2 e3 e4; obtain ⟨d0, d1, d2, d3, d4⟩ := hSw.2.2.2.1; dsimp only at d0 d1 d2 d3 d4; go_simp
        first | done | with_reducible rfl
      refine wpAnyH_takeE (i := 11) (some 29) (v := ?_) rfl rfl (by as_aux_lemma => kernel_rfl) (by as_aux_lemma => kernel_rfl) (by as_aux_lemma => kernel_rfl) (fun _ _ _ h => h) (Or.inl ⟨by kernel_rfl, ?_⟩) hS ?_
      rotate_left
      · intro w hSw; have c0 := hSw.1.c0; have e0 := hSw.2.1.c0; have e1 := hSw.2.1.c1; have e2 := hSw.2.1.c2; have e3 := hSw.2.1.c3; have e4 := hSw.2.1.c4; dsimp only at e0 e1 e2 e3 e4; obtain ⟨d0, d1, d2, d3, d4⟩ := hSw.2.2.2.1; dsimp only at d0 d1 d2 d3 d4; go_simp
        first | done | with_reducible rfl
      refine wpAnyH_takeE (i := 12) (some 30) (v := ?_) rfl rfl (by as_aux_lemma => kernel_rfl) (by as_aux_lemma => kernel_rfl) (by as_aux_lemma => kernel_rfl) (fun _ _ _ h => h) (Or.inl ⟨by kernel_rfl, ?_⟩) hS ?_
      rotate_left
      · intro w hSw; have c0 := hSw.1.c0; have e0 := hSw.2.1.c0; have e1 := hSw.2.1.c1; have e2 := hSw.2.1.c2; have e3 := hSw.2.1.c3; have e4 := hSw.2.1.c4; dsimp only at e0 e1 e2 e3 e4; obtain ⟨d0, d1, d2, d3, d4⟩ := hSw.2.2.2.1; dsimp only at d0 d1 d2 d3 d4; go_simp
        first | done | with_reducible rfl
      refine wpAnyH_takeE (i := 13) (some 31) (v := ?_) rfl rfl (by as_aux_lemma => kernel_rfl) (by as_aux_lemma => kernel_rfl) (by as_aux_lemma => kernel_rfl) (fun _ _ _ h => h) (Or.inl ⟨by kernel_rfl, ?_⟩) hS ?_
      rotate_left
      · intro w hSw; have c0 := hSw.1.c0; have e0 := hSw.2.1.c0; have e1 := hSw.2.1.c1; have e2 := hSw.2.1.c2; have e3 := hSw.2.1.c3; have e4 := hSw.2.1.c4; dsimp only at e0 e1 e2 e3 e4; obtain ⟨d0, d1, d2, d3, d4⟩ := hSw.2.2.2.1; dsimp only at d0 d1 d2 d3 d4; go_simp
        first | done | with_reducible rfl
      refine wpAnyH_takeE (i := 14) (some 32) (v := ?_) rfl rfl (by as_aux_lemma => kernel_rfl) (by as_aux_lemma => kernel_rfl) (by as_aux_lemma => kernel_rfl) (fun _ _ _ h => h) (Or.inl ⟨by kernel_rfl, ?_⟩) hS ?_
      rotate_left
      · intro w hSw; have c0 := hSw.1.c0; have e0 := hSw.2.1.c0; have e1 := hSw.2.1.c1; have e2 := hSw.2.1.c2; have e3 := hSw.2.1.c3; have e4 := hSw.2.1.c4; dsimp only at e0 e1 e2 e3 e4; obtain ⟨d0, d1, d2, d3, d4⟩ := hSw.2.2.2.1; dsimp only at d0 d1 d2 d3 d4; go_simp
        first | done | with_reducible rfl
      refine wpAnyH_takeE (i := 15) (some 33) (v := ?_) rfl rfl (by as_aux_lemma => kernel_rfl) (by as_aux_lemma => kernel_rfl) (by as_aux_lemma => kernel_rfl) (fun _ _ _ h => h) (Or.inl ⟨by kernel_rfl, ?_⟩) hS ?_
      rotate_left
      · intro w hSw; have c0 := hSw.1.c0; have e0 := hSw.2.1.c0; have e1 := hSw.2.1.c1; have e2 := hSw.2.1.c2; have e3 := hSw.2.1.c3; have e4 := hSw.2.1.c4; dsimp only at e0 e1 e2 e3 e4; obtain ⟨d0, d1, d2, d3, d4⟩ := hSw.2.2.2.1; dsimp only at d0 d1 d2 d3 d4; go_simp
        first | done | with_reducible rfl
      have H5 := Lib.hid hS
      refine wpAnyH_done (by kernel_rfl) ?_ _
      clear hS
      go_simp
      go_wp2_with fail
      have h5 := H5.out
      clear H5
      refine wp_region_any (by kernel_rfl) ?_
      change wpAny _ _ _ _ _ _ _ (World.drew _)
      have hS : (fun w' : World => RmBlk w' w.heap.size (some ⟨b, o, none⟩) n c ∧ EBlk w' (w.heap.size + 1) ⟨kx, tx, ox, vx, ux⟩ ∧ RmBlk w' (w.heap.size + 1 + 1) none 0 0 ∧ RowAt w' b (o + k * 5) ⟨ky, ty, oy, vy, uy⟩ ∧ Below w.heap.size w w') wr.drew.drew := ⟨h5.1, h5.2.1, h5.2.2.1, h5.2.2.2.1, h5.2.2.2.2.drew⟩
      refine wpAny_of_held (S := fun w' => RmBlk w' w.heap.size (some ⟨b, o, none⟩) n c ∧ EBlk w' (w.heap.size + 1) ⟨kx, tx, ox, vx, ux⟩ ∧ RmBlk w' (w.heap.size + 1 + 1) none 0 0 ∧ RowAt w' b (o + k * 5) ⟨ky, ty, oy, vy, uy⟩ ∧ Below w.heap.size w w') _ _ _ _ ?_
      clear h5
      refine wpAnyH_takeE (i := 0) (some 36) (v := ?_) rfl rfl (by as_aux_lemma => kernel_rfl) (by as_aux_lemma => kernel_rfl) (by as_aux_lemma => kernel_rfl) (fun _ _ _ h => h) (Or.inl ⟨by kernel_rfl, ?_⟩) hS ?_
      rotate_left
      · intro w hSw; have c0 := hSw.1.c0; have e0 := hSw.2.1.c0; have e1 := hSw.2.1.c1; have e2 := hSw.2.1.c2; have e3 := hSw.2.1.c3; have e4 := hSw.2.1.c4; dsimp only at e0 e1 e2 e3 e4; obtain ⟨d0, d1, d2, d3, d4⟩ := hSw.2.2.2.1; dsimp only at d0 d1 d2 d3 d4; go_simp
        first | done | with_reducible rfl
      refine wpAnyH_takeE (i := 1) (some 37) (v := ?_) rfl rfl (by as_aux_lemma => kernel_rfl) (by as_aux_lemma => kernel_rfl) (by as_aux_lemma => kernel_rfl) (fun _ _ _ h => h) (Or.inl ⟨by kernel_rfl, ?_⟩) hS ?_
      rotate_left
      · intro w hSw; have c0 := hSw.1.c0; have e0 := hSw.2.1.c0; have e1 := hSw.2.1.c1; have e2 := hSw.2.1.c2; have e3 := hSw.2.1.c3; have e4 := hSw.2.1.c4; dsimp only at e0 e1 e2 e3 e4; obtain ⟨d0, d1, d2, d3, d4⟩ := hSw.2.2.2.1; dsimp only at d0 d1 d2 d3 d4; go_simp
        first | done | with_reducible rfl
      refine wpAnyH_takeE (i := 2) (some 38) (v := ?_) rfl rfl (by as_aux_lemma => kernel_rfl) (by as_aux_lemma => kernel_rfl) (by as_aux_lemma => kernel_rfl) (fun _ _ _ h => h) (Or.inl ⟨by kernel_rfl, ?_⟩) hS ?_
      rotate_left
      · intro w hSw; have c0 := hSw.1.c0; have e0 := hSw.2.1.c0; have e1 := hSw.2.1.c1; have e2 := hSw.2.1.c2; have e3 := hSw.2.1.c3; have e4 := hSw.2.1.c4; dsimp only at e0 e1 e2 e3 e4; obtain ⟨d0, d1, d2, d3, d4⟩ := hSw.2.2.2.1; dsimp only at d0 d1 d2 d3 d4; go_simp
        first | done | with_reducible rfl
      refine wpAnyH_takeE (i := 3) (some 39) (v := ?_) rfl rfl (by as_aux_lemma => kernel_rfl) (by as_aux_lemma => kernel_rfl) (by as_aux_lemma => kernel_rfl) (fun _ _ _ h => h) (Or.inl ⟨by kernel_rfl, ?_⟩) hS ?_
      rotate_left
      · intro w hSw; have c0 := hSw.1.c0; have e0 := hSw.2.1.c0; have e1 := hSw.2.1.c1; have e2 := hSw.2.1.c2; have e3 := hSw.2.1.c3; have e4 := hSw.2.1.c4; dsimp only at e0 e1 e2 e3 e4; obtain ⟨d0, d1, d2, d3, d4⟩ := hSw.2.2.2.1; dsimp only at d0 d1 d2 d3 d4; go_simp
        first | done | with_reducible rfl
      refine wpAnyH_takeE (i := 4) (some 40) (v := ?_) rfl rfl (by as_aux_lemma => kernel_rfl) (by as_aux_lemma => kernel_rfl) (by as_aux_lemma => kernel_rfl) (fun _ _ _ h => h) (Or.inl ⟨by kernel_rfl, ?_⟩) hS ?_
      rotate_left
      · intro w hSw; have c0 := hSw.1.c0; have e0 := hSw.2.1.c0; have e1 := hSw.2.1.c1; have e2 := hSw.2.1.c2; have e3 := hSw.2.1.c3; have e4 := hSw.2.1.c4; dsimp only at e0 e1 e2 e3 e4; obtain ⟨d0, d1, d2, d3, d4⟩ := hSw.2.2.2.1; dsimp only at d0 d1 d2 d3 d4; go_simp
        first | done | with_reducible rfl
      refine wpAnyH_takeE (i := 5) (some 41) (v := ?_) rfl rfl (by as_aux_lemma => kernel_rfl) (by as_aux_lemma => kernel_rfl) (by as_aux_lemma => kernel_rfl) (fun _ _ _ h => h) (Or.inl ⟨by kernel_rfl, ?_⟩) hS ?_
      rotate_left
      · intro w hSw; have c0 := hSw.1.c0; have e0 := hSw.2.1.c0; have e1 := hSw.2.1.c1; have e2 := hSw.2.1.c2; have e3 := hSw.2.1.c3; have e4 := hSw.2.1.c4; dsimp only at e0 e1 e2 e3 e4; obtain ⟨d0, d1, d2, d3, d4⟩ := hSw.2.2.2.1; dsimp only at d0 d1 d2 d3 d4; go_simp
        first | done | with_reducible rfl
      refine wpAnyH_takeE (i := 6) (some 42) (v := ?_) rfl rfl (by as_aux_lemma => kernel_rfl) (by as_aux_lemma => kernel_rfl) (by as_aux_lemma => kernel_rfl) (fun _ _ _ h => h) (Or.inl ⟨by kernel_rfl, ?_⟩) hS ?_
      rotate_left
      · intro w hSw; have c0 := hSw.1.c0; have e0 := hSw.2.1.c0; have e1 := hSw.2.1.c1; have e2 := hSw.2.1.c2; have e3 := hSw.2.1.c3; have e4 := hSw.2.1.c4; dsimp only at e0 e1 e2 e3 e4; obtain ⟨d0, d1, d2, d3, d4⟩ := hSw.2.2.2.1; dsimp only at d0 d1 d2 d3 d4; go_simp
        first | done | with_reducible rfl
      refine wpAnyH_takeE (i := 7) (some 43) (v := ?_) rfl rfl (by as_aux_lemma => kernel_rfl) (by as_aux_lemma => kernel_rfl) (by as_aux_lemma => kernel_rfl) (fun _ _ _ h => h) (Or.inl ⟨by kernel_rfl, ?_⟩) hS ?_
      rotate_left
      · intro w hSw; have c0 := hSw.1.c0; have e0 := hSw.2.1.c0; have e1 := hSw.2.1.c1; have e2 := hSw.2.1.c2; have e3 := hSw.2.1.c3; have e4 := hSw.2.1.c4; dsimp only at e0 e1 e2 e3 e4; obtain ⟨d0, d1, d2, d3, d4⟩ := hSw.2.2.2.1; dsimp only at d0 d1 d2 d3 d4; go_simp
        first | done | with_reducible rfl
      refine wpAnyH_takeE (i := 8) (some 44) (v := ?_) rfl rfl (by as_aux_lemma => kernel_rfl) (by as_aux_lemma => kernel_rfl) (by as_aux_lemma => kernel_rfl) (fun _ _ _ h => h) (Or.inl ⟨by kernel_rfl, ?_⟩) hS ?_
      rotate_left
      · intro w hSw; have c0 := hSw.1.c0; have e0 := hSw.2.1.c0; have e1 := hSw.2.1.c1; have e2 := hSw.2.1.c2; have e3 := hSw.2.1.c3; have e4 := hSw.2.1.c4; dsimp only at e0 e1 e2 e3 e4; obtain ⟨d0, d1, d2, d3, d4⟩ := hSw.2.2.2.1; dsimp only at d0 d1 d2 d3 d4; go_simp
        first | done | with_reducible rfl
      refine wpAnyH_takeE (i := 9) (some 45) (v := ?_) rfl rfl (by as_aux_lemma => kernel_rfl) (by as_aux_lemma => kernel_rfl) (by as_aux_lemma => kernel_rfl) (fun _ _ _ h => h) (Or.inl ⟨by kernel_rfl, ?_⟩) hS ?_
      rotate_left
      · intro w hSw; have c0 := hSw.1.c0; have e0 := hSw.2.1.c0; have e1 := hSw.2.1.c1; have e2 := hSw.2.1.c2; have e3 := hSw.2.1.c3; have e4 := hSw.2.1.c4; dsimp only at e0 e1 e2 e3 e4; obtain ⟨d0, d1, d2, d3, d4⟩ := hSw.2.2.2.1; dsimp only at d0 d1 d2 d3 d4; go_simp
        first | done | with_reducible rfl
      refine wpAnyH_takeE (i := 10) (some 46) (v := ?_) rfl rfl (by as_aux_lemma => kernel_rfl) (by as_aux_lemma => kernel_rfl) (by as_aux_lemma => kernel_rfl) (fun _ _ _ h => h) (Or.inl ⟨by kernel_rfl, ?_⟩) hS ?_
      rotate_left
      · intro w hSw; have c0 := hSw.1.c0; have e0 := hSw.2.1.c0; have e1 := hSw.2.1.c1; have e2 := hSw.2.1.c2; have e3 := hSw.2.1.c3; have e4 := hSw.2.1.c4; dsimp only at e0 e1 e2 e3 e4; obtain ⟨d0, d1, d2, d3, d4⟩ := hSw.2.2.2.1; dsimp only at d0 d1 d2 d3 d4; go_simp
        first | done | with_reducible rfl
      refine wpAnyH_takeE (i := 11) (some 47) (v := ?_) rfl rfl (by as_aux_lemma => kernel_rfl) (by as_aux_lemma => kernel_rfl) (by as_aux_lemma => kernel_rfl) (fun _ _ _ h => h) (Or.inl ⟨by kernel_rfl, ?_⟩) hS ?_
      rotate_left
      · intro w hSw; have c0 := hSw.1.c0; have e0 := hSw.2.1.c0; have e1 := hSw.2.1.c1; have e2 := hSw.2.1.c2; have e3 := hSw.2.1.c3; have e4 := hSw.2.1.c4; dsimp only at e0 e1 e2 e3 e4; obtain ⟨d0, d1, d2, d3, d4⟩ := hSw.2.2.2.1; dsimp only at d0 d1 d2 d3 d4; go_simp
        first | done | with_reducible rfl
      refine wpAnyH_takeE (i := 12) (some 48) (v := ?_) rfl rfl (by as_aux_lemma => kernel_rfl) (by as_aux_lemma => kernel_rfl) (by as_aux_lemma => kernel_rfl) (fun _ _ _ h => h) (Or.inl ⟨by kernel_rfl, ?_⟩) hS ?_
      rotate_left
      · intro w hSw; have c0 := hSw.1.c0; have e0 := hSw.2.1.c0; have e1 := hSw.2.1.c1; have e2 := hSw.2.1.c2; have e3 := hSw.2.1.c3; have e4 := hSw.2.1.c4; dsimp only at e0 e1 e2 e3 e4; obtain ⟨d0, d1, d2, d3, d4⟩ := hSw.2.2.2.1; dsimp only at d0 d1 d2 d3 d4; go_simp
        first | done | with_reducible rfl
      refine wpAnyH_takeE (i := 13) (some 49) (v := ?_) rfl rfl (by as_aux_lemma => kernel_rfl) (by as_aux_lemma => kernel_rfl) (by as_aux_lemma => kernel_rfl) (fun _ _ _ h => h) (Or.inl ⟨by kernel_rfl, ?_⟩) hS ?_
      rotate_left
      · intro w hSw; have c0 := hSw.1.c0; have e0 := hSw.2.1.c0; have e1 := hSw.2.1.c1; have e2 := hSw.2.1.c2; have e3 := hSw.2.1.c3; have e4 := hSw.2.1.c4; dsimp only at e0 e1 e2 e3 e4; obtain ⟨d0, d1, d2, d3, d4⟩ := hSw.2.2.2.1; dsimp only at d0 d1 d2 d3 d4; go_simp
        first | done | with_reducible rfl
      refine wpAnyH_takeE (i := 14) (some 50) (v := ?_) rfl rfl (by as_aux_lemma => kernel_rfl) (by as_aux_lemma => kernel_rfl) (by as_aux_lemma => kernel_rfl) (fun _ _ _ h => h) (Or.inl ⟨by kernel_rfl, ?_⟩) hS ?_
      rotate_left
      · intro w hSw; have c0 := hSw.1.c0; have e0 := hSw.2.1.c0; have e1 := hSw.2.1.c1; have e2 := hSw.2.1.c2; have e3 := hSw.2.1.c3; have e4 := hSw.2.1.c4; dsimp only at e0 e1 e2 e3 e4; obtain ⟨d0, d1, d2, d3, d4⟩ := hSw.2.2.2.1; dsimp only at d0 d1 d2 d3 d4; go_simp
        first | done | with_reducible rfl
      refine wpAnyH_takeE (i := 15) (some 51) (v := ?_) rfl rfl (by as_aux_lemma => kernel_rfl) (by as_aux_lemma => kernel_rfl) (by as_aux_lemma => kernel_rfl) (fun _ _ _ h => h) (Or.inl ⟨by kernel_rfl, ?_⟩) hS ?_
      rotate_left
      · intro w hSw; have c0 := hSw.1.c0; have e0 := hSw.2.1.c0; have e1 := hSw.2.1.c1; have e2 := hSw.2.1.c2; have e3 := hSw.2.1.c3; have e4 := hSw.2.1.c4; dsimp only at e0 e1 e2 e3 e4; obtain ⟨d0, d1, d2, d3, d4⟩ := hSw.2.2.2.1; dsimp only at d0 d1 d2 d3 d4; go_simp
        first | done | with_reducible rfl
      refine wpAnyH_takeE (i := 16) (some 9) (v := ?_) rfl rfl (by as_aux_lemma => kernel_rfl) (by as_aux_lemma => kernel_rfl) (by as_aux_lemma => kernel_rfl) (fun _ _ _ h => h) (Or.inl ⟨by kernel_rfl, ?_⟩) hS ?_
      rotate_left
      · intro w hSw; have c0 := hSw.1.c0; have e0 := hSw.2.1.c0; have e1 := hSw.2.1.c1; have e2 := hSw.2.1.c2; have e3 := hSw.2.1.c3; have e4 := hSw.2.1.c4; dsimp only at e0 e1 e2 e3 e4; obtain ⟨d0, d1, d2, d3, d4⟩ := hSw.2.2.2.1; dsimp only at d0 d1 d2 d3 d4; go_simp
        first | done | with_reducible rfl
      have H5 := Lib.hid hS
      refine wpAnyH_done (by kernel_rfl) ?_ _
      clear hS
      go_simp
      go_wp2_with fail
      have h5 := H5.out
      clear H5
      refine wp_region_any (by kernel_rfl) ?_
      change wpAny _ _ _ _ _ _ _ (World.drew _)
      have hS : (fun w' : World => RmBlk w' w.heap.size (some ⟨b, o, none⟩) n c ∧ EBlk w' (w.heap.size + 1) ⟨kx, tx, ox, vx, ux⟩ ∧ RmBlk w' (w.heap.size + 1 + 1) none 0 0 ∧ RowAt w' b (o + k * 5) ⟨ky, ty, oy, vy, uy⟩ ∧ Below w.heap.size w w') wr.drew.drew.drew := ⟨h5.1, h5.2.1, h5.2.2.1, h5.2.2.2.1, h5.2.2.2.2.drew⟩
      refine wpAny_of_held (S := fun w' => RmBlk w' w.heap.size (some ⟨b, o, none⟩) n c ∧ EBlk w' (w.heap.size + 1) ⟨kx, tx, ox, vx, ux⟩ ∧ RmBlk w' (w.heap.size + 1 + 1) none 0 0 ∧ RowAt w' b (o + k * 5) ⟨ky, ty, oy, vy, uy⟩ ∧ Below w.heap.size w w') _ _ _ _ ?_
      clear h5
      refine wpAnyH_takeE (i := 0) (some 54) (v := ?_) rfl rfl (by as_aux_lemma => kernel_rfl) (by as_aux_lemma => kernel_rfl) (by as_aux_lemma => kernel_rfl) (fun _ _ _ h => h) (Or.inl ⟨by kernel_rfl, ?_⟩) hS ?_
      rotate_left
      · intro w hSw; have c0 := hSw.1.c0; have e0 := hSw.2.1.c0; have e1 := hSw.2.1.c1; have e2 := hSw.2.1.c2; have e3 := hSw.2.1.c3; have e4 := hSw.2.1.c4; dsimp only at e0 e1 e2 e3 e4; obtain ⟨d0, d1, d2, d3, d4⟩ := hSw.2.2.2.1; dsimp only at d0 d1 d2 d3 d4; go_simp
        first | done | with_reducible rfl
      refine wpAnyH_takeE (i := 1) (some 55) (v := ?_) rfl rfl (by as_aux_lemma => kernel_rfl) (by as_aux_lemma => kernel_rfl) (by as_aux_lemma => kernel_rfl) (fun _ _ _ h => h) (Or.inl ⟨by kernel_rfl, ?_⟩) hS ?_
      rotate_left
      · intro w hSw; have c0 := hSw.1.c0; have e0 := hSw.2.1.c0; have e1 := hSw.2.1.c1; have e2 := hSw.2.1.c2; have e3 := hSw.2.1.c3; have e4 := hSw.2.1.c4; dsimp only at e0 e1 e2 e3 e4; obtain ⟨d0, d1, d2, d3, d4⟩ := hSw.2.2.2.1; dsimp only at d0 d1 d2 d3 d4; go_simp
        first | done | with_reducible rfl
      refine wpAnyH_takeE (i := 2) (some 56) (v := undef) rfl rfl (by as_aux_lemma => kernel_rfl) (by as_aux_lemma => kernel_rfl) (by as_aux_lemma => kernel_rfl) (fun _ _ _ h => h) (Or.inr ⟨by kernel_rfl, rfl⟩) hS ?_
      refine wpAnyH_takeE (i := 3) (some 57) (v := undef) rfl rfl (by as_aux_lemma => kernel_rfl) (by as_aux_lemma => kernel_rfl) (by as_aux_lemma => kernel_rfl) (fun _ _ _ h => h) (Or.inr ⟨by kernel_rfl, rfl⟩) hS ?_
      refine wpAnyH_takeE (i := 4) (some 58) (v := undef) rfl rfl (by as_aux_lemma => kernel_rfl) (by as_aux_lemma => kernel_rfl) (by as_aux_lemma => kernel_rfl) (fun _ _ _ h => h) (Or.inr ⟨by kernel_rfl, rfl⟩) hS ?_
      refine wpAnyH_takeE (i := 5) (some 59) (v := undef) rfl rfl (by as_aux_lemma => kernel_rfl) (by as_aux_lemma => kernel_rfl) (by as_aux_lemma => kernel_rfl) (fun _ _ _ h => h) (Or.inr ⟨by kernel_rfl, rfl⟩) hS ?_
      refine wpAnyH_takeE (i := 6) (some 60) (v := undef) rfl rfl (by as_aux_lemma => kernel_rfl) (by as_aux_lemma => kernel_rfl) (by as_aux_lemma => kernel_rfl) (fun _ _ _ h => h) (Or.inr ⟨by kernel_rfl, rfl⟩) hS ?_
      refine wpAnyH_takeE (i := 7) (some 61) (v := undef) rfl rfl (by as_aux_lemma => kernel_rfl) (by as_aux_lemma => kernel_rfl) (by as_aux_lemma => kernel_rfl) (fun _ _ _ h => h) (Or.inr ⟨by kernel_rfl, rfl⟩) hS ?_
      refine wpAnyH_takeE (i := 8) (some 62) (v := undef) rfl rfl (by as_aux_lemma => kernel_rfl) (by as_aux_lemma => kernel_rfl) (by as_aux_lemma => kernel_rfl) (fun _ _ _ h => h) (Or.inr ⟨by kernel_rfl, rfl⟩) hS ?_
      refine wpAnyH_takeE (i := 9) (some 63) (v := undef) rfl rfl (by as_aux_lemma => kernel_rfl) (by as_aux_lemma => kernel_rfl) (by as_aux_lemma => kernel_rfl) (fun _ _ _ h => h) (Or.inr ⟨by kernel_rfl, rfl⟩) hS ?_
      refine wpAnyH_takeE (i := 10) (some 64) (v := ?_) rfl rfl (by as_aux_lemma => kernel_rfl) (by as_aux_lemma => kernel_rfl) (by as_aux_lemma => kernel_rfl) (fun _ _ _ h => h) (Or.inl ⟨by kernel_rfl, ?_⟩) hS ?_
      rotate_left
      · intro w hSw; have c0 := hSw.1.c0; have e0 := hSw.2.1.c0; have e1 := hSw.2.1.c1; have e2 := hSw.2.1.c2; have e3 := hSw.2.1.c3; have e4 := hSw.2.1.c4; dsimp only at e0 e1 e2 e3 e4; obtain ⟨d0, d1, d2, d3, d4⟩ := hSw.2.2.2.1; dsimp only at d0 d1 d2 d3 d4; go_simp
        first | done | with_reducible rfl
      refine wpAnyH_takeE (i := 11) (some 53) (v := ?_) rfl rfl (by as_aux_lemma => kernel_rfl) (by as_aux_lemma => kernel_rfl) (by as_aux_lemma => kernel_rfl) (fun _ _ _ h => h) (Or.inl ⟨by kernel_rfl, ?_⟩) hS ?_
      rotate_left
      · intro w hSw; have c0 := hSw.1.c0; have e0 := hSw.2.1.c0; have e1 := hSw.2.1.c1; have e2 := hSw.2.1.c2; have e3 := hSw.2.1.c3; have e4 := hSw.2.1.c4; dsimp only at e0 e1 e2 e3 e4; obtain ⟨d0, d1, d2, d3, d4⟩ := hSw.2.2.2.1; dsimp only at d0 d1 d2 d3 d4; go_simp
        first | done | with_reducible rfl
      have H5 := Lib.hid hS
      refine wpAnyH_done (by kernel_rfl) ?_ _
      clear hS
      go_simp
      have h5 := H5.out
      clear H5
      have k1 : RmBlk (wr.drew.drew.drew) w.heap.size (some ⟨b, o, none⟩) n c := h5.1
      have k2 : EBlk (wr.drew.drew.drew) (w.heap.size + 1) ⟨kx, tx, ox, vx, ux⟩ := h5.2.1
      have k3 : RmBlk (wr.drew.drew.drew) (w.heap.size + 1 + 1) none 0 0 := h5.2.2.1
      have b7 : Below w.heap.size w (wr.drew.drew.drew) := h5.2.2.2.2
      clear h5
      generalize wr.drew.drew.drew = w9 at *
      have hat : EntsAt w9 (some ⟨b, o, none⟩) S := HH.out.1.below b7 (Nat.le_refl _)
      have hnone : ((some ⟨b, o, none⟩) : Option Addr) = none → c = 0 := HH.out.2.2
      have hP1 : (k : Int) ≤ (c : Int) := by omega
      have HTK : Hid (k = (S.take k).length) := Lib.hid (by rw [List.length_take, ← HNL.out]; omega)
      have hwsz : w.heap.size ≤ w9.heap.size := b7.size
      have HK3 := Lib.hid k3
      have c0 := k1.c0
      have h256n : ¬ (256 : Int) ≤ (n : Int) := by omega
      go_wp2_with fail
      clear c0
      refine wp_region_any (by kernel_rfl) ?_
      change wpAny _ _ _ _ _ _ _ (World.drew _)
      have hS : (fun w' : World => RmBlk w' w.heap.size (some ⟨b, o, none⟩) n c ∧ EBlk w' (w.heap.size + 1) ⟨kx, tx, ox, vx, ux⟩ ∧ RmBlk w' (w.heap.size + 1 + 1) none 0 0) w9.drew := ⟨k1, k2, k3⟩
      refine wpAny_of_held (S := fun w' => RmBlk w' w.heap.size (some ⟨b, o, none⟩) n c ∧ EBlk w' (w.heap.size + 1) ⟨kx, tx, ox, vx, ux⟩ ∧ RmBlk w' (w.heap.size + 1 + 1) none 0 0) _ _ _ _ ?_
      refine wpAnyH_takeE (i := 0) (some 76) (v := ?_) rfl rfl (by as_aux_lemma => kernel_rfl) (by as_aux_lemma => kernel_rfl) (by as_aux_lemma => kernel_rfl) (fun _ _ _ h => h) (Or.inl ⟨by kernel_rfl, ?_⟩) hS ?_
      rotate_left
      · intro w hSw; have c0 := hSw.1.c0; have e0 := hSw.2.1.c0; have e1 := hSw.2.1.c1; have e2 := hSw.2.1.c2; have e3 := hSw.2.1.c3; have e4 := hSw.2.1.c4; dsimp only at e0 e1 e2 e3 e4; go_simp
        first | done | with_reducible rfl
      refine wpAnyH_takeE (i := 1) (some 77) (v := ?_) rfl rfl (by as_aux_lemma => kernel_rfl) (by as_aux_lemma => kernel_rfl) (by as_aux_lemma => kernel_rfl) (fun _ _ _ h => h) (Or.inl ⟨by kernel_rfl, ?_⟩) hS ?_
      rotate_left
      · intro w hSw; have c0 := hSw.1.c0; have e0 := hSw.2.1.c0; have e1 := hSw.2.1.c1; have e2 := hSw.2.1.c2; have e3 := hSw.2.1.c3; have e4 := hSw.2.1.c4; dsimp only at e0 e1 e2 e3 e4; go_simp
        first | done | with_reducible rfl
      refine wpAnyH_takeE (i := 2) (some 78) (v := ?_) rfl rfl (by as_aux_lemma => kernel_rfl) (by as_aux_lemma => kernel_rfl) (by as_aux_lemma => kernel_rfl) (fun _ _ _ h => h) (Or.inl ⟨by kernel_rfl, ?_⟩) hS ?_
      rotate_left
      · intro w hSw; have c0 := hSw.1.c0; have e0 := hSw.2.1.c0; have e1 := hSw.2.1.c1; have e2 := hSw.2.1.c2; have e3 := hSw.2.1.c3; have e4 := hSw.2.1.c4; dsimp only at e0 e1 e2 e3 e4; go_simp
        first | done | with_reducible rfl
      refine wpAnyH_takeE (i := 3) (some 79) (v := ?_) rfl rfl (by as_aux_lemma => kernel_rfl) (by as_aux_lemma => kernel_rfl) (by as_aux_lemma => kernel_rfl) (fun _ _ _ h => h) (Or.inl ⟨by kernel_rfl, ?_⟩) hS ?_
      rotate_left
      · intro w hSw; have c0 := hSw.1.c0; have e0 := hSw.2.1.c0; have e1 := hSw.2.1.c1; have e2 := hSw.2.1.c2; have e3 := hSw.2.1.c3; have e4 := hSw.2.1.c4; dsimp only at e0 e1 e2 e3 e4; go_simp
        first | done | with_reducible rfl
      refine wpAnyH_takeE (i := 4) (some 80) (v := ?_) rfl rfl (by as_aux_lemma => kernel_rfl) (by as_aux_lemma => kernel_rfl) (by as_aux_lemma => kernel_rfl) (fun _ _ _ h => h) (Or.inl ⟨by kernel_rfl, ?_⟩) hS ?_
      rotate_left
      · intro w hSw; have c0 := hSw.1.c0; have e0 := hSw.2.1.c0; have e1 := hSw.2.1.c1; have e2 := hSw.2.1.c2; have e3 := hSw.2.1.c3; have e4 := hSw.2.1.c4; dsimp only at e0 e1 e2 e3 e4; go_simp
        first | done | with_reducible rfl
      refine wpAnyH_takeE (i := 6) (some 82) (v := ?_) rfl rfl (by as_aux_lemma => kernel_rfl) (by as_aux_lemma => kernel_rfl) (by as_aux_lemma => kernel_rfl) (fun _ _ _ h => h) (Or.inl ⟨by kernel_rfl, ?_⟩) hS ?_
      rotate_left
      · intro w hSw; have c0 := hSw.1.c0; have e0 := hSw.2.1.c0; have e1 := hSw.2.1.c1; have e2 := hSw.2.1.c2; have e3 := hSw.2.1.c3; have e4 := hSw.2.1.c4; dsimp only at e0 e1 e2 e3 e4; go_simp
        first | done | with_reducible rfl
      refine wpAnyH_ready (rs := [5, 7]) (by as_aux_lemma => kernel_rfl) (by simp) ?_
      refine AllReadyH.cons rfl (fun K hK => ?_) (AllReadyH.cons rfl (fun K hK => ?_) AllReadyH.nil)
      · have own0 : OwnC w9.drew w9.heap.size (.slice none 0 0) [] := World.ownsRow_nil _ _ _ _
        have hat0 : EntsAt w9.drew (some ⟨b, o, none⟩) (S.take k) := hat.takeC k
        have hle0 : ([] : List Ent).length + (S.take k).length ≤ 1000000 := by rw [← HTK.out]; simp; omega
        have hsz0 : w9.heap.size ≤ w9.drew.heap.size := Nat.le_refl _
        refine step_append_ents (w := w9.drew) rfl _ _ rfl w9.heap.size (.slice none 0 0) [] (by kernel_rfl) own0 (some ⟨b, o, none⟩) k c (S.take k) (by kernel_rfl) HTK.out hat0 hnone hle0 hsz0 ?_
        intro v8 w8 own8a g8
        have q8 : Below w9.heap.size w9 w8 := (Below.refl w9.heap.size w9).drew.grown g8 (Nat.le_refl _) (fun j e => by cases e)
        refine hK.out _ _ ⟨k1.below q8 k1.lt, k2.below q8 k2.lt, k3.below q8 k3.lt⟩ (fun hS => ?_)
        clear hK K
        refine wpAnyH_ready (rs := [7]) (by as_aux_lemma => kernel_rfl) (by simp) ?_
        refine AllReadyH.cons rfl (fun K hK => ?_) AllReadyH.nil
        go_simp
        have d9 := (Below.refl w8.heap.size w8).alloc (Nat.le_refl _) (.cells #[.string kx, .int .i64 tx, .int .u16 ox, .string vx, .int .i64 ux] 36)
        refine hK.out _ _ ⟨hS.1.on d9, hS.2.1.on d9, hS.2.2.on d9⟩ (fun hS => ?_)
        clear hK K
        have own9 := own8a.onB d9 (Nat.le_refl _)
        have hx9 : EntsAt (w8.alloc (.cells #[.string kx, .int .i64 tx, .int .u16 ox, .string vx, .int .i64 ux] 36)) (some ⟨w8.heap.size, 0, none⟩) [(⟨kx, tx, ox, vx, ux⟩ : Ent)] := EntsAt.one w8 (⟨kx, tx, ox, vx, ux⟩ : Ent)
        refine wpAnyH_ready (rs := [8]) (by as_aux_lemma => kernel_rfl) (by simp) ?_
        refine AllReadyH.cons rfl (fun K hK => ?_) AllReadyH.nil
        refine step_append_ents rfl _ _ rfl w9.heap.size v8 ([] ++ S.take k) (by kernel_rfl) own9 (some ⟨w8.heap.size, 0, none⟩) 1 1 [(⟨kx, tx, ox, vx, ux⟩ : Ent)] (by kernel_rfl) rfl hx9 (fun e => by cases e) (by have := HTK.out; simp at this ⊢; omega) (Nat.le_trans q8.size d9.size) ?_
        intro v10 w10 own10 g10
        have q10 : Below w9.heap.size w9 w10 := (q8.trans (d9.mono q8.size)).grown g10 (Nat.le_trans q8.size d9.size) (fun j e => (World.ownsRow.lt own9 j e).1)
        refine hK.out _ _ ⟨k1.below q10 k1.lt, k2.below q10 k2.lt, k3.below q10 k3.lt⟩ (fun hS => ?_)
        clear hK K d9 own9 hx9 g10 own8a g8 q8 own0 hat0 hle0 hsz0
        refine wpAnyH_takeE (i := 9) (some 11) (v := ?_) rfl rfl (by as_aux_lemma => kernel_rfl) (by as_aux_lemma => kernel_rfl) (by as_aux_lemma => kernel_rfl) (fun _ _ _ h => h) (Or.inl ⟨by kernel_rfl, ?_⟩) hS ?_
        rotate_left
        · intro w hSw; have c0 := hSw.1.c0; have e0 := hSw.2.1.c0; have e1 := hSw.2.1.c1; have e2 := hSw.2.1.c2; have e3 := hSw.2.1.c3; have e4 := hSw.2.1.c4; dsimp only at e0 e1 e2 e3 e4; go_simp
          first | done | with_reducible rfl
        refine wpAnyH_done (by kernel_rfl) ?_ _
        rw [List.nil_append] at own10
        have b10 := b7.trans (q10.mono b7.size)
        obtain ⟨k1', k2', k3'⟩ := hS
        obtain ⟨a10, c10, rfl, -⟩ := own10.form
        clear k1 k2 k3 hat HTK
        obtain ⟨A10, HA10⟩ : ∃ l, Hid (S.take k ++ [(⟨kx, tx, ox, vx, ux⟩ : Ent)] = l) := ⟨_, Lib.hid rfl⟩
        obtain ⟨D10, HD10⟩ : ∃ l, Hid (S.drop (k) = l) := ⟨_, Lib.hid rfl⟩
        rw [HA10.out] at own10 ⊢
        generalize hN10 : A10.length = n10 at *
        have HN10 := Lib.hid hN10
        clear hN10
        go_simp
        have c0 := k1'.c0
        have hkc : (k : Int) ≤ (c : Int) := by omega
        have hkn : (k : Int) ≤ (n : Int) := by omega
        have hat10 : EntsAt w10 (some ⟨b, o, none⟩) S := HH.out.1.below b10 (Nat.le_refl _)
        have hKn : k ≤ n := by omega
        have HLN : Hid (n - (k) = D10.length) := Lib.hid (by rw [← HD10.out, List.length_drop, ← HNL.out])
        have hle10 : A10.length + D10.length ≤ 1000000 := by rw [← HLN.out, ← HA10.out, List.length_append, List.length_take, ← HNL.out]; simp; omega
        have hle11 : A10.length + D10.length ≤ 1099511627776 := by omega
        have hsz10 : w9.heap.size ≤ w10.heap.size := q10.size
        have HFin := Lib.hid (fun v12 w12 (own12 : OwnC w12 w9.heap.size v12 (A10 ++ D10)) (g12 : w10.grownBy w12 (Value.slice a10 n10 c10).ownBlock) => cput_end b7 (w.heap.size + 1 + 1) HK3.out (by omega) q10 own10 own12 g12)
        have HLS : Hid (A10 ++ D10 = cputS S (⟨kx, tx, ox, vx, ux⟩ : Ent)) := Lib.hid (by rw [HQ.out.1, ← HA10.out, ← HD10.out, List.append_assoc]; rfl)
        clear HN10 b10 k1' k2' k3' q10 b7 HK3
        by_cases hce : c = k
        · exact absurd hce (by omega)
        · have hcl : k < c := by omega
          have hdr := hat10.dropC (k)
          rw [HD10.out] at hdr
          rw [Go.WideShapes.add_plain] at hdr
          go_wp2_with (at_builtin; refine wpList_append_ents _ rfl _ _ rfl w9.heap.size _ _ rfl own10 (some ⟨b, o + (k) * 5, none⟩) _ _ D10 rfl HLN.out hdr (fun e => by cases e) hle11 hsz10 ?_; refine Hid.out ?_)
          refine Lib.hid ?_
          intro v12 w12 own12 g12
          obtain ⟨a12, c12, rfl, k12, hR12, hB12⟩ := HFin.out v12 w12 own12 g12
          have hk3 := k12.c0; have hf3 := k12.f 0
          generalize hRR : A10 ++ D10 = RR at *
          have HRR := HLS
          clear hRR
          generalize hNN : RR.length = NN at *
          have HNN := Lib.hid hNN
          clear hNN
          have rr0 := (k12.set (a' := a12) (n' := NN) (c' := c12)).c0
          have HF := Lib.hid (And.intro hR12 hB12)
          clear hR12 hB12 own12 g12 k12 own10 HFin c0 hat10
          go_wp2
          exact bodyPost_ret (v := .tuple #[.agg #[.slice a12 NN c12], .bool true, .int .i64 0]) (by simp [results, Try.results25, go_sem, rr0]) rfl ⟨a12, c12, by rw [← HRR.out, HNN.out, HQ.out.2.1, HQ.out.2.2], by rw [← HRR.out]; exact HF.out.1, HF.out.2⟩
      · go_simp
        have d8 := (Below.refl w9.heap.size w9).alloc (Nat.le_refl _) (.cells #[.string kx, .int .i64 tx, .int .u16 ox, .string vx, .int .i64 ux] 36)
        have d8' : Below w9.heap.size w9 (w9.alloc (.cells #[.string kx, .int .i64 tx, .int .u16 ox, .string vx, .int .i64 ux] 36)).drew := d8.drew
        refine hK.out _ _ ⟨k1.below d8' k1.lt, k2.below d8' k2.lt, k3.below d8' k3.lt⟩ (fun hS => ?_)
        clear hK K
        have own0 : OwnC (w9.alloc (.cells #[.string kx, .int .i64 tx, .int .u16 ox, .string vx, .int .i64 ux] 36)).drew w9.heap.size (.slice none 0 0) [] := World.ownsRow_nil _ _ _ _
        have hat0 : EntsAt (w9.alloc (.cells #[.string kx, .int .i64 tx, .int .u16 ox, .string vx, .int .i64 ux] 36)).drew (some ⟨b, o, none⟩) (S.take k) := (hat.below d8 (Nat.le_refl _)).takeC k
        have hle0 : ([] : List Ent).length + (S.take k).length ≤ 1000000 := by rw [← HTK.out]; simp; omega
        have hsz0 : w9.heap.size ≤ (w9.alloc (.cells #[.string kx, .int .i64 tx, .int .u16 ox, .string vx, .int .i64 ux] 36)).drew.heap.size := d8.size
        refine wpAnyH_ready (rs := [5]) (by as_aux_lemma => kernel_rfl) (by simp) ?_
        refine AllReadyH.cons rfl (fun K hK => ?_) AllReadyH.nil
        refine step_append_ents (w := (w9.alloc (.cells #[.string kx, .int .i64 tx, .int .u16 ox, .string vx, .int .i64 ux] 36)).drew) rfl _ _ rfl w9.heap.size (.slice none 0 0) [] (by kernel_rfl) own0 (some ⟨b, o, none⟩) k c (S.take k) (by kernel_rfl) HTK.out hat0 hnone hle0 hsz0 ?_
        intro v8 w8 own8a g8
        have q8' : Below (w9.alloc (.cells #[.string kx, .int .i64 tx, .int .u16 ox, .string vx, .int .i64 ux] 36)).heap.size (w9.alloc (.cells #[.string kx, .int .i64 tx, .int .u16 ox, .string vx, .int .i64 ux] 36)) w8 := (Below.refl _ _).drew.grown g8 (Nat.le_refl _) (fun j e => by cases e)
        have q8 : Below w9.heap.size w9 w8 := d8.trans (q8'.mono d8.size)
        refine hK.out _ _ ⟨k1.below q8 k1.lt, k2.below q8 k2.lt, k3.below q8 k3.lt⟩ (fun hS => ?_)
        clear hK K
        have hx9 : EntsAt w8 (some ⟨w9.heap.size, 0, none⟩) [(⟨kx, tx, ox, vx, ux⟩ : Ent)] := (EntsAt.one w9 (⟨kx, tx, ox, vx, ux⟩ : Ent)).below q8' (Nat.le_refl _)
        refine wpAnyH_ready (rs := [8]) (by as_aux_lemma => kernel_rfl) (by simp) ?_
        refine AllReadyH.cons rfl (fun K hK => ?_) AllReadyH.nil
        refine step_append_ents rfl _ _ rfl w9.heap.size v8 ([] ++ S.take k) (by kernel_rfl) own8a (some ⟨w9.heap.size, 0, none⟩) 1 1 [(⟨kx, tx, ox, vx, ux⟩ : Ent)] (by kernel_rfl) rfl hx9 (fun e => by cases e) (by have := HTK.out; simp at this ⊢; omega) q8.size ?_
        intro v10 w10 own10 g10
        have q10 : Below w9.heap.size w9 w10 := q8.grown g10 q8.size (fun j e => (World.ownsRow.lt own8a j e).1)
        refine hK.out _ _ ⟨k1.below q10 k1.lt, k2.below q10 k2.lt, k3.below q10 k3.lt⟩ (fun hS => ?_)
        clear hK K d8 d8' q8' hx9 g10 own8a g8 q8 own0 hat0 hle0 hsz0
        refine wpAnyH_takeE (i := 9) (some 11) (v := ?_) rfl rfl (by as_aux_lemma => kernel_rfl) (by as_aux_lemma => kernel_rfl) (by as_aux_lemma => kernel_rfl) (fun _ _ _ h => h) (Or.inl ⟨by kernel_rfl, ?_⟩) hS ?_
        rotate_left
        · intro w hSw; have c0 := hSw.1.c0; have e0 := hSw.2.1.c0; have e1 := hSw.2.1.c1; have e2 := hSw.2.1.c2; have e3 := hSw.2.1.c3; have e4 := hSw.2.1.c4; dsimp only at e0 e1 e2 e3 e4; go_simp
          first | done | with_reducible rfl
        refine wpAnyH_done (by kernel_rfl) ?_ _
        rw [List.nil_append] at own10
        have b10 := b7.trans (q10.mono b7.size)
        obtain ⟨k1', k2', k3'⟩ := hS
        obtain ⟨a10, c10, rfl, -⟩ := own10.form
        clear k1 k2 k3 hat HTK
        obtain ⟨A10, HA10⟩ : ∃ l, Hid (S.take k ++ [(⟨kx, tx, ox, vx, ux⟩ : Ent)] = l) := ⟨_, Lib.hid rfl⟩
        obtain ⟨D10, HD10⟩ : ∃ l, Hid (S.drop (k) = l) := ⟨_, Lib.hid rfl⟩
        rw [HA10.out] at own10 ⊢
        generalize hN10 : A10.length = n10 at *
        have HN10 := Lib.hid hN10
        clear hN10
        go_simp
        have c0 := k1'.c0
        have hkc : (k : Int) ≤ (c : Int) := by omega
        have hkn : (k : Int) ≤ (n : Int) := by omega
        have hat10 : EntsAt w10 (some ⟨b, o, none⟩) S := HH.out.1.below b10 (Nat.le_refl _)
        have hKn : k ≤ n := by omega
        have HLN : Hid (n - (k) = D10.length) := Lib.hid (by rw [← HD10.out, List.length_drop, ← HNL.out])
        have hle10 : A10.length + D10.length ≤ 1000000 := by rw [← HLN.out, ← HA10.out, List.length_append, List.length_take, ← HNL.out]; simp; omega
        have hle11 : A10.length + D10.length ≤ 1099511627776 := by omega
        have hsz10 : w9.heap.size ≤ w10.heap.size := q10.size
        have HFin := Lib.hid (fun v12 w12 (own12 : OwnC w12 w9.heap.size v12 (A10 ++ D10)) (g12 : w10.grownBy w12 (Value.slice a10 n10 c10).ownBlock) => cput_end b7 (w.heap.size + 1 + 1) HK3.out (by omega) q10 own10 own12 g12)
        have HLS : Hid (A10 ++ D10 = cputS S (⟨kx, tx, ox, vx, ux⟩ : Ent)) := Lib.hid (by rw [HQ.out.1, ← HA10.out, ← HD10.out, List.append_assoc]; rfl)
        clear HN10 b10 k1' k2' k3' q10 b7 HK3
        by_cases hce : c = k
        · exact absurd hce (by omega)
        · have hcl : k < c := by omega
          have hdr := hat10.dropC (k)
          rw [HD10.out] at hdr
          rw [Go.WideShapes.add_plain] at hdr
          go_wp2_with (at_builtin; refine wpList_append_ents _ rfl _ _ rfl w9.heap.size _ _ rfl own10 (some ⟨b, o + (k) * 5, none⟩) _ _ D10 rfl HLN.out hdr (fun e => by cases e) hle11 hsz10 ?_; refine Hid.out ?_)
          refine Lib.hid ?_
          intro v12 w12 own12 g12
          obtain ⟨a12, c12, rfl, k12, hR12, hB12⟩ := HFin.out v12 w12 own12 g12
          have hk3 := k12.c0; have hf3 := k12.f 0
          generalize hRR : A10 ++ D10 = RR at *
          have HRR := HLS
          clear hRR
          generalize hNN : RR.length = NN at *
          have HNN := Lib.hid hNN
          clear hNN
          have rr0 := (k12.set (a' := a12) (n' := NN) (c' := c12)).c0
          have HF := Lib.hid (And.intro hR12 hB12)
          clear hR12 hB12 own12 g12 k12 own10 HFin c0 hat10
          go_wp2
          exact bodyPost_ret (v := .tuple #[.agg #[.slice a12 NN c12], .bool true, .int .i64 0]) (by simp [results, Try.results25, go_sem, rr0]) rfl ⟨a12, c12, by rw [← HRR.out, HNN.out, HQ.out.2.1, HQ.out.2.2], by rw [← HRR.out]; exact HF.out.1, HF.out.2⟩

set_option maxRecDepth 100000 in
set_option maxHeartbeats 8000000 in
theorem crPut_old (a : Option Addr) (c : Nat) (S : List Ent) (kx : ByteArray) (tx ox : Int) (vx : ByteArray) (ux : Int) (w : World) (h : RefM w a c S) (hR : RisingC S) (hn : S.length ≤ 256) (n : Nat) (hnl : n = S.length) (hE : checkEn ⟨kx, tx, ox, vx, ux⟩ = 0) (P : Nat) (hP : placeC S (Ent.key ⟨kx, tx, ox, vx, ux⟩) = P) (hPm : P < n) (hYY : ∀ hl : P < S.length, (S[P].k.toList == kx.toList) = true) (hgot : ∀ hl : P < S.length, gotC S (Ent.key ⟨kx, tx, ox, vx, ux⟩) = some S[P]) (hab : ∀ hl : P < S.length, aboveE ⟨kx, tx, ox, vx, ux⟩ S[P] = true) (hat : isAtC S (Ent.key ⟨kx, tx, ox, vx, ux⟩) = true) : Calls Try.prog 25 #[.agg #[.slice a n c], .agg #[.string kx, .int .i64 tx, .int .u16 ox, .string vx, .int .i64 ux]] w (CPutPost w S ⟨kx, tx, ox, vx, ux⟩) := by
  have hl : P < S.length := by omega
  have q2 : cputE S ⟨kx, tx, ox, vx, ux⟩ = 0 := by unfold cputE; rw [if_neg (by simp [hE]), if_neg (by rw [hgot hl]; rintro ⟨h, -⟩; cases h)]
  have q1 : cputB S ⟨kx, tx, ox, vx, ux⟩ = true := by unfold cputB; rw [q2, hgot hl]; simp [hab hl]
  have q0 : cputS S ⟨kx, tx, ox, vx, ux⟩ = S.take P ++ ⟨kx, tx, ox, vx, ux⟩ :: S.drop (P + 1) := by unfold cputS; rw [q1, if_pos rfl, put_splitC hR, hP, hat, if_pos rfl]
  have HQ := Lib.hid (And.intro q0 (And.intro q1 q2))
  clear q0 q1 q2 hl hat
  have HNL := Lib.hid hnl
  have hn2 : n ≤ 256 := by omega
  have d1 := (Below.refl w.heap.size w).alloc (Nat.le_refl _) (.cells #[.slice a n c] 30)
  have d2 := d1.alloc (by simp) (.cells #[.string kx, .int .i64 tx, .int .u16 ox, .string vx, .int .i64 ux] 36)
  have d3 := d2.alloc (by simp; omega) (.cells #[.slice none 0 0] 30)
  have s1 : (w.alloc (.cells #[.slice a n c] 30)).heap.size = w.heap.size + 1 := by simp
  have s2 : ((w.alloc (.cells #[.slice a n c] 30)).alloc (.cells #[.string kx, .int .i64 tx, .int .u16 ox, .string vx, .int .i64 ux] 36)).heap.size = w.heap.size + 1 + 1 := by simp
  have s3 : (((w.alloc (.cells #[.slice a n c] 30)).alloc (.cells #[.string kx, .int .i64 tx, .int .u16 ox, .string vx, .int .i64 ux] 36)).alloc (.cells #[.slice none 0 0] 30)).heap.size = w.heap.size + 1 + 1 + 1 := by simp
  have k1 := RmBlk.new w a n c
  have k2 := EBlk.new (w.alloc (.cells #[.slice a n c] 30)) ⟨kx, tx, ox, vx, ux⟩
  have k3 := RmBlk.new ((w.alloc (.cells #[.slice a n c] 30)).alloc (.cells #[.string kx, .int .i64 tx, .int .u16 ox, .string vx, .int .i64 ux] 36)) none 0 0
  rw [s1] at k2
  rw [s2] at k3
  replace k1 := (k1.below ((Below.refl _ _).alloc (Nat.le_refl _) (.cells #[.string kx, .int .i64 tx, .int .u16 ox, .string vx, .int .i64 ux] 36)) (by simp)).below ((Below.refl _ _).alloc (Nat.le_refl _) (.cells #[.slice none 0 0] 30)) (by simp; omega)
  replace k2 := k2.below ((Below.refl _ _).alloc (Nat.le_refl _) (.cells #[.slice none 0 0] 30)) (by simp)
  have HC := Lib.hid (eRefCheck_any ⟨kx, tx, ox, vx, ux⟩ (((w.alloc (.cells #[.slice a n c] 30)).alloc (.cells #[.string kx, .int .i64 tx, .int .u16 ox, .string vx, .int .i64 ux] 36)).alloc (.cells #[.slice none 0 0] 30)))
  dsimp only at HC
  have HW := Lib.hid (And.intro d3 (And.intro s3 (And.intro k1 (And.intro k2 k3))))
  have HH := Lib.hid h
  clear d1 d2 d3 s1 s2 s3 k1 k2 k3 hnl
  rw [hE] at HC
  unfold CPutPost
  have hPn : P ≤ n := by rw [HNL.out, ← hP]; exact placeC_le _ _
  have HPl : Hid (∀ j (hj : j < S.length), j < P → S[j].key < Ent.key ⟨kx, tx, ox, vx, ux⟩) := Lib.hid (fun j hj hjp => placeC_lt (by rw [hP]; exact hjp))
  have hc := h.2.1
  rw [← HNL.out] at hc
  have hPlt : P < n := hPm
  have HNo := Lib.hid (placeC_stop (S := S) (k := Ent.key ⟨kx, tx, ox, vx, ux⟩) hP)
  clear h hR hE hP hn hPm
  go_enter Try.func25, Try.ntmps25
  go_wp2_with (go_at_call 35; refine HC.out.mono ?_; rintro r w2 ⟨rfl, q2⟩; refine Hid.out ?_)
  refine Lib.hid ?_
  obtain ⟨d3, s3, k1, k2, k3⟩ := HW.out
  rw [s3] at q2
  replace k1 := k1.below q2 (by omega)
  replace k2 := k2.below q2 (by omega)
  replace k3 := k3.below q2 (by omega)
  have b2 := d3.trans (q2.mono (by omega))
  have HI := Lib.hid (And.intro k1 (And.intro k2 (And.intro k3 b2)))
  clear d3 s3 q2 HC HW k1 k2 k3 b2
  go_wp2
  go_loopw [8] (fun i wr => ∃ (k : Nat), k ≤ P ∧ i = .int .i64 (k : Int) ∧ Hid (RmBlk wr w.heap.size a n c ∧ EBlk wr (w.heap.size + 1) ⟨kx, tx, ox, vx, ux⟩ ∧ RmBlk wr (w.heap.size + 1 + 1) none 0 0 ∧ Below w.heap.size w wr)) (fun i _ => P - (intOf i).toNat)
  case atStart => exact ⟨0, Nat.zero_le _, rfl, HI⟩
  case round =>
    clear HI
    obtain ⟨k, hk, rfl, HI⟩ := hrel
    obtain ⟨k1, k2, k3, b2⟩ := HI.out
    by_cases hlt : k < P
    · have hkl : (k : Int) < (n : Int) := by omega
      have hkx : k < S.length := by have := HNL.out; omega
      obtain ⟨b, o, rfl, rr⟩ := (HH.out.1.below b2 (Nat.le_refl _)).row k hkx
      have hless : Op.bytesLess S[k].k.toList kx.toList = true := by rw [ByteArray.toList_eq, ByteArray.toList_eq, lessE]; exact decide_eq_true (HPl.out k hkx hlt)
      generalize S[k] = y at *
      clear hkx HI
      go_wp2_with fail
      refine wp_region_any (by kernel_rfl) ?_
      change wpAny _ _ _ _ _ _ _ (World.drew _)
      have hS : (fun w' : World => RmBlk w' w.heap.size (some ⟨b, o, none⟩) n c ∧ EBlk w' (w.heap.size + 1) ⟨kx, tx, ox, vx, ux⟩ ∧ RmBlk w' (w.heap.size + 1 + 1) none 0 0 ∧ RowAt w' b (o + k * 5) y ∧ Below w.heap.size w w') wr.drew := ⟨k1, k2, k3, rr, b2.drew⟩
      refine wpAny_of_held (S := fun w' => RmBlk w' w.heap.size (some ⟨b, o, none⟩) n c ∧ EBlk w' (w.heap.size + 1) ⟨kx, tx, ox, vx, ux⟩ ∧ RmBlk w' (w.heap.size + 1 + 1) none 0 0 ∧ RowAt w' b (o + k * 5) y ∧ Below w.heap.size w w') _ _ _ _ ?_
      clear k1 k2 k3 rr b2
      refine wpAnyH_takeE (i := 0) (some 18) (v := ?_) rfl rfl (by as_aux_lemma => kernel_rfl) (by as_aux_lemma => kernel_rfl) (by as_aux_lemma => kernel_rfl) (fun _ _ _ h => h) (Or.inl ⟨by kernel_rfl, ?_⟩) hS ?_
      rotate_left
      · intro w hSw; have c0 := hSw.1.c0; have e0 := hSw.2.1.c0; have e1 := hSw.2.1.c1; have e2 := hSw.2.1.c2; have e3 := hSw.2.1.c3; have e4 := hSw.2.1.c4; dsimp only at e0 e1 e2 e3 e4; obtain ⟨d0, d1, d2, d3, d4⟩ := hSw.2.2.2.1; go_simp
        first | done | with_reducible rfl
      refine wpAnyH_takeE (i := 1) (some 19) (v := ?_) rfl rfl (by as_aux_lemma => kernel_rfl) (by as_aux_lemma => kernel_rfl) (by as_aux_lemma => kernel_rfl) (fun _ _ _ h => h) (Or.inl ⟨by kernel_rfl, ?_⟩) hS ?_
      rotate_left
      · intro w hSw; have c0 := hSw.1.c0; have e0 := hSw.2.1.c0; have e1 := hSw.2.1.c1; have e2 := hSw.2.1.c2; have e3 := hSw.2.1.c3; have e4 := hSw.2.1.c4; dsimp only at e0 e1 e2 e3 e4; obtain ⟨d0, d1, d2, d3, d4⟩ := hSw.2.2.2.1; go_simp
        first | done | with_reducible rfl
      refine wpAnyH_takeE (i := 2) (some 20) (v := ?_) rfl rfl (by as_aux_lemma => kernel_rfl) (by as_aux_lemma => kernel_rfl) (by as_aux_lemma => kernel_rfl) (fun _ _ _ h => h) (Or.inl ⟨by kernel_rfl, ?_⟩) hS ?_
      rotate_left
      · intro w hSw; have c0 := hSw.1.c0; have e0 := hSw.2.1.c0; have e1 := hSw.2.1.c1; have e2 := hSw.2.1.c2; have e3 := hSw.2.1.c3; have e4 := hSw.2.1.c4; dsimp only at e0 e1 e2 e3 e4; obtain ⟨d0, d1, d2, d3, d4⟩ := hSw.2.2.2.1; go_simp
        first | done | with_reducible rfl
      refine wpAnyH_takeE (i := 3) (some 21) (v := ?_) rfl rfl (by as_aux_lemma => kernel_rfl) (by as_aux_lemma => kernel_rfl) (by as_aux_lemma => kernel_rfl) (fun _ _ _ h => h) (Or.inl ⟨by kernel_rfl, ?_⟩) hS ?_
      rotate_left
      · intro w hSw; have c0 := hSw.1.c0; have e0 := hSw.2.1.c0; have e1 := hSw.2.1.c1; have e2 := hSw.2.1.c2; have e3 := hSw.2.1.c3; have e4 := hSw.2.1.c4; dsimp only at e0 e1 e2 e3 e4; obtain ⟨d0, d1, d2, d3, d4⟩ := hSw.2.2.2.1; go_simp
        first | done | with_reducible rfl
      refine wpAnyH_takeE (i := 4) (some 22) (v := ?_) rfl rfl (by as_aux_lemma => kernel_rfl) (by as_aux_lemma => kernel_rfl) (by as_aux_lemma => kernel_rfl) (fun _ _ _ h => h) (Or.inl ⟨by kernel_rfl, ?_⟩) hS ?_
      rotate_left
      · intro w hSw; have c0 := hSw.1.c0; have e0 := hSw.2.1.c0; have e1 := hSw.2.1.c1; have e2 := hSw.2.1.c2; have e3 := hSw.2.1.c3; have e4 := hSw.2.1.c4; dsimp only at e0 e1 e2 e3 e4; obtain ⟨d0, d1, d2, d3, d4⟩ := hSw.2.2.2.1; go_simp
        first | done | with_reducible rfl
      refine wpAnyH_takeE (i := 5) (some 23) (v := ?_) rfl rfl (by as_aux_lemma => kernel_rfl) (by as_aux_lemma => kernel_rfl) (by as_aux_lemma => kernel_rfl) (fun _ _ _ h => h) (Or.inl ⟨by kernel_rfl, ?_⟩) hS ?_
      rotate_left
      · intro w hSw; have c0 := hSw.1.c0; have e0 := hSw.2.1.c0; have e1 := hSw.2.1.c1; have e2 := hSw.2.1.c2; have e3 := hSw.2.1.c3; have e4 := hSw.2.1.c4; dsimp only at e0 e1 e2 e3 e4; obtain ⟨d0, d1, d2, d3, d4⟩ := hSw.2.2.2.1; go_simp
        first | done | with_reducible rfl
      refine wpAnyH_takeE (i := 6) (some 24) (v := ?_) rfl rfl (by as_aux_lemma => kernel_rfl) (by as_aux_lemma => kernel_rfl) (by as_aux_lemma => kernel_rfl) (fun _ _ _ h => h) (Or.inl ⟨by kernel_rfl, ?_⟩) hS ?_
      rotate_left
      · intro w hSw; have c0 := hSw.1.c0; have e0 := hSw.2.1.c0; have e1 := hSw.2.1.c1; have e2 := hSw.2.1.c2; have e3 := hSw.2.1.c3; have e4 := hSw.2.1.c4; dsimp only at e0 e1 e2 e3 e4; obtain ⟨d0, d1, d2, d3, d4⟩ := hSw.2.2.2.1; go_simp
        first | done | with_reducible rfl
      refine wpAnyH_takeE (i := 7) (some 25) (v := ?_) rfl rfl (by as_aux_lemma => kernel_rfl) (by as_aux_lemma => kernel_rfl) (by as_aux_lemma => kernel_rfl) (fun _ _ _ h => h) (Or.inl ⟨by kernel_rfl, ?_⟩) hS ?_
      rotate_left
      · intro w hSw; have c0 := hSw.1.c0; have e0 := hSw.2.1.c0; have e1 := hSw.2.1.c1; have e2 := hSw.2.1.c2; have e3 := hSw.2.1.c3; have e4 := hSw.2.1.c4; dsimp only at e0 e1 e2 e3 e4; obtain ⟨d0, d1, d2, d3, d4⟩ := hSw.2.2.2.1; go_simp
        first | done | with_reducible rfl
      refine wpAnyH_takeE (i := 8) (some 26) (v := ?_) rfl rfl (by as_aux_lemma => kernel_rfl) (by as_aux_lemma => kernel_rfl) (by as_aux_lemma => kernel_rfl) (fun _ _ _ h => h) (Or.inl ⟨by kernel_rfl, ?_⟩) hS ?_
      rotate_left
      · intro w hSw; have c0 := hSw.1.c0; have e0 := hSw.2.1.c0; have e1 := hSw.2.1.c1; have e2 := hSw.2.1.c2; have e3 := hSw.2.1.c3; have e4 := hSw.2.1.c4; dsimp only at e0 e1 e2 e3 e4; obtain ⟨d0, d1, d2, d3, d4⟩ := hSw.2.2.2.1; go_simp
        first | done | with_reducible rfl
      refine wpAnyH_takeE (i := 9) (some 27) (v := ?_) rfl rfl (by as_aux_lemma => kernel_rfl) (by as_aux_lemma => kernel_rfl) (by as_aux_lemma => kernel_rfl) (fun _ _ _ h => h) (Or.inl ⟨by kernel_rfl, ?_⟩) hS ?_
      rotate_left
      · intro w hSw; have c0 := hSw.1.c0; have e0 := hSw.2.1.c0; have e1 := hSw.2.1.c1; have e2 := hSw.2.1.c2; have e3 := hSw.2.1.c3; have e4 := hSw.2.1.c4; dsimp only at e0 e1 e2 e3 e4; obtain ⟨d0, d1, d2, d3, d4⟩ := hSw.2.2.2.1; go_simp
        first | done | with_reducible rfl
      refine wpAnyH_takeE (i := 10) (some 28) (v := ?_) rfl rfl (by as_aux_lemma => kernel_rfl) (by as_aux_lemma => kernel_rfl) (by as_aux_lemma => kernel_rfl) (fun _ _ _ h => h) (Or.inl ⟨by kernel_rfl, ?_⟩) hS ?_
      rotate_left
      · intro w hSw; have c0 := hSw.1.c0; have e0 := hSw.2.1.c0; have e1 := hSw.2.1.c1; have e2 := hSw.2.1.c2; have e3 := hSw.2.1.c3; have e4 := hSw.2.1.c4; dsimp only at e0 e1 e2 e3 e4; obtain ⟨d0, d1, d2, d3, d4⟩ := hSw.2.2.2.1; go_simp
        first | done | with_reducible rfl
      refine wpAnyH_takeE (i := 11) (some 29) (v := ?_) rfl rfl (by as_aux_lemma => kernel_rfl) (by as_aux_lemma => kernel_rfl) (by as_aux_lemma => kernel_rfl) (fun _ _ _ h => h) (Or.inl ⟨by kernel_rfl, ?_⟩) hS ?_
      rotate_left
      · intro w hSw; have c0 := hSw.1.c0; have e0 := hSw.2.1.c0; have e1 := hSw.2.1.c1; have e2 := hSw.2.1.c2; have e3 := hSw.2.1.c3; have e4 := hSw.2.1.c4; dsimp only at e0 e1 e2 e3 e4; obtain ⟨d0, d1, d2, d3, d4⟩ := hSw.2.2.2.1; go_simp
        first | done | with_reducible rfl
      refine wpAnyH_takeE (i := 12) (some 30) (v := ?_) rfl rfl (by as_aux_lemma => kernel_rfl) (by as_aux_lemma => kernel_rfl) (by as_aux_lemma => kernel_rfl) (fun _ _ _ h => h) (Or.inl ⟨by kernel_rfl, ?_⟩) hS ?_
      rotate_left
      · intro w hSw; have c0 := hSw.1.c0; have e0 := hSw.2.1.c0; have e1 := hSw.2.1.c1; have e2 := hSw.2.1.c2; have e3 := hSw.2.1.c3; have e4 := hSw.2.1.c4; dsimp only at e0 e1 e2 e3 e4; obtain ⟨d0, d1, d2, d3, d4⟩ := hSw.2.2.2.1; go_simp
        first | done | with_reducible rfl
      refine wpAnyH_takeE (i := 13) (some 31) (v := ?_) rfl rfl (by as_aux_lemma => kernel_rfl) (by as_aux_lemma => kernel_rfl) (by as_aux_lemma => kernel_rfl) (fun _ _ _ h => h) (Or.inl ⟨by kernel_rfl, ?_⟩) hS ?_
      rotate_left
      · intro w hSw; have c0 := hSw.1.c0; have e0 := hSw.2.1.c0; have e1 := hSw.2.1.c1; have e2 := hSw.2.1.c2; have e3 := hSw.2.1.c3; have e4 := hSw.2.1.c4; dsimp only at e0 e1 e2 e3 e4; obtain ⟨d0, d1, d2, d3, d4⟩ := hSw.2.2.2.1; go_simp
        first | done | with_reducible rfl
      refine wpAnyH_takeE (i := 14) (some 32) (v := ?_) rfl rfl (by as_aux_lemma => kernel_rfl) (by as_aux_lemma => kernel_rfl) (by as_aux_lemma => kernel_rfl) (fun _ _ _ h => h) (Or.inl ⟨by kernel_rfl, ?_⟩) hS ?_
      rotate_left
      · intro w hSw; have c0 := hSw.1.c0; have e0 := hSw.2.1.c0; have e1 := hSw.2.1.c1; have e2 := hSw.2.1.c2; have e3 := hSw.2.1.c3; have e4 := hSw.2.1.c4; dsimp only at e0 e1 e2 e3 e4; obtain ⟨d0, d1, d2, d3, d4⟩ := hSw.2.2.2.1; go_simp
        first | done | with_reducible rfl
      refine wpAnyH_takeE (i := 15) (some 33) (v := ?_) rfl rfl (by as_aux_lemma => kernel_rfl) (by as_aux_lemma => kernel_rfl) (by as_aux_lemma => kernel_rfl) (fun _ _ _ h => h) (Or.inl ⟨by kernel_rfl, ?_⟩) hS ?_
      rotate_left
      · intro w hSw; have c0 := hSw.1.c0; have e0 := hSw.2.1.c0; have e1 := hSw.2.1.c1; have e2 := hSw.2.1.c2; have e3 := hSw.2.1.c3; have e4 := hSw.2.1.c4; dsimp only at e0 e1 e2 e3 e4; obtain ⟨d0, d1, d2, d3, d4⟩ := hSw.2.2.2.1; go_simp
        first | done | with_reducible rfl
      have HI : Hid (RmBlk wr.drew w.heap.size (some ⟨b, o, none⟩) n c ∧ EBlk wr.drew (w.heap.size + 1) ⟨kx, tx, ox, vx, ux⟩ ∧ RmBlk wr.drew (w.heap.size + 1 + 1) none 0 0 ∧ Below w.heap.size w wr.drew) := Lib.hid ⟨hS.1, hS.2.1, hS.2.2.1, hS.2.2.2.2⟩
      refine wpAnyH_done (by kernel_rfl) ?_ _
      clear hS
      go_simp
      go_wp2
      go_roundw
      case rel => exact ⟨k + 1, by omega, by go_num, HI⟩
      case measure => simp [intOf]; omega
    · obtain rfl : k = P := by omega
      have hkl : (k : Int) < (n : Int) := by omega
      have hkx : k < S.length := by have := HNL.out; omega
      obtain ⟨b, o, rfl, rr⟩ := (HH.out.1.below b2 (Nat.le_refl _)).row k hkx
      have hless : Op.bytesLess S[k].k.toList kx.toList = false := by rw [ByteArray.toList_eq, ByteArray.toList_eq, lessE]; exact decide_eq_false (HNo.out hkx)
      have HY := Lib.hid (hYY hkx)
      have HAb := Lib.hid (fun W => eRefAbove_any ⟨kx, tx, ox, vx, ux⟩ S[k] W)
      rw [hab hkx] at HAb
      clear hab hgot
      clear hYY
      generalize S[k] = y at *
      clear hkx HI HNo
      obtain ⟨ky, ty, oy, vy, uy⟩ := y
      have hYe := HY.out
      dsimp only at hYe hless
      dsimp only at HAb
      go_wp2_with fail
      refine wp_region_any (by kernel_rfl) ?_
      change wpAny _ _ _ _ _ _ _ (World.drew _)
      have hS : (fun w' : World => RmBlk w' w.heap.size (some ⟨b, o, none⟩) n c ∧ EBlk w' (w.heap.size + 1) ⟨kx, tx, ox, vx, ux⟩ ∧ RmBlk w' (w.heap.size + 1 + 1) none 0 0 ∧ RowAt w' b (o + k * 5) ⟨ky, ty, oy, vy, uy⟩ ∧ Below w.heap.size w w') wr.drew := ⟨k1, k2, k3, rr, b2.drew⟩
      refine wpAny_of_held (S := fun w' => RmBlk w' w.heap.size (some ⟨b, o, none⟩) n c ∧ EBlk w' (w.heap.size + 1) ⟨kx, tx, ox, vx, ux⟩ ∧ RmBlk w' (w.heap.size + 1 + 1) none 0 0 ∧ RowAt w' b (o + k * 5) ⟨ky, ty, oy, vy, uy⟩ ∧ Below w.heap.size w w') _ _ _ _ ?_
      clear k1 k2 k3 rr b2
      refine wpAnyH_takeE (i := 0) (some 18) (v := ?_) rfl rfl (by as_aux_lemma => kernel_rfl) (by as_aux_lemma => kernel_rfl) (by as_aux_lemma => kernel_rfl) (fun _ _ _ h => h) (Or.inl ⟨by kernel_rfl, ?_⟩) hS ?_
      rotate_left
      · intro w hSw; have c0 := hSw.1.c0; have e0 := hSw.2.1.c0; have e1 := hSw.2.1.c1; have e2 := hSw.2.1.c2; have e3 := hSw.2.1.c3; have e4 := hSw.2.1.c4; dsimp only at e0 e1 e2 e3 e4; obtain ⟨d0, d1, d2, d3, d4⟩ := hSw.2.2.2.1; dsimp only at d0 d1 d2 d3 d4; go_simp
        first | done | with_reducible rfl
      refine wpAnyH_takeE (i := 1) (some 19) (v := ?_) rfl rfl (by as_aux_lemma => kernel_rfl) (by as_aux_lemma => kernel_rfl) (by as_aux_lemma => kernel_rfl) (fun _ _ _ h => h) (Or.inl ⟨by kernel_rfl, ?_⟩) hS ?_
      rotate_left
      · intro w hSw; have c0 := hSw.1.c0; have e0 := hSw.2.1.c0; have e1 := hSw.2.1.c1; have e2 := hSw.2.1.c2; have e3 := hSw.2.1.c3; have e4 := hSw.2.1.c4; dsimp only at e0 e1 e2 e3 e4; obtain ⟨d0, d1, d2, d3, d4⟩ := hSw.2.2.2.1; dsimp only at d0 d1 d2 d3 d4; go_simp
        first | done | with_reducible rfl
      refine wpAnyH_takeE (i := 2) (some 20) (v := ?_) rfl rfl (by as_aux_lemma => kernel_rfl) (by as_aux_lemma => kernel_rfl) (by as_aux_lemma => kernel_rfl) (fun _ _ _ h => h) (Or.inl ⟨by kernel_rfl, ?_⟩) hS ?_
      rotate_left
      · intro w hSw; have c0 := hSw.1.c0; have e0 := hSw.2.1.c0; have e1 := hSw.2.1.c1; have e2 := hSw.2.1.c2; have e3 := hSw.2.1.c3; have e4 := hSw.2.1.c4; dsimp only at e0 e1 e2 e3 e4; obtain ⟨d0, d1, d2, d3, d4⟩ := hSw.2.2.2.1; dsimp only at d0 d1 d2 d3 d4; go_simp
        first | done | with_reducible rfl
      refine wpAnyH_takeE (i := 3) (some 21) (v := ?_) rfl rfl (by as_aux_lemma => kernel_rfl) (by as_aux_lemma => kernel_rfl) (by as_aux_lemma => kernel_rfl) (fun _ _ _ h => h) (Or.inl ⟨by kernel_rfl, ?_⟩) hS ?_
      rotate_left
      · intro w hSw; have c0 := hSw.1.c0; have e0 := hSw.2.1.c0; have e1 := hSw.2.1.c1; have e2 := hSw.2.1.c2; have e3 := hSw.2.1.c3; have e4 := hSw.2.1.c4; dsimp only at e0 e1 e2 e3 e4; obtain ⟨d0, d1, d2, d3, d4⟩ := hSw.2.2.2.1; dsimp only at d0 d1 d2 d3 d4; go_simp
        first | done | with_reducible rfl
      refine wpAnyH_takeE (i := 4) (some 22) (v := ?_) rfl rfl (by as_aux_lemma => kernel_rfl) (by as_aux_lemma => kernel_rfl) (by as_aux_lemma => kernel_rfl) (fun _ _ _ h => h) (Or.inl ⟨by kernel_rfl, ?_⟩) hS ?_
      rotate_left
      · intro w hSw; have c0 := hSw.1.c0; have e0 := hSw.2.1.c0; have e1 := hSw.2.1.c1; have e2 := hSw.2.1.c2; have e3 := hSw.2.1.c3; have e4 := hSw.2.1.c4; dsimp only at e0 e1 e2 e3 e4; obtain ⟨d0, d1, d2, d3, d4⟩ := hSw.2.2.2.1; dsimp only at d0 d1 d2 d3 d4; go_simp
        first | done | with_reducible rfl
      refine wpAnyH_takeE (i := 5) (some 23) (v := ?_) rfl rfl (by as_aux_lemma => kernel_rfl) (by as_aux_lemma => kernel_rfl) (by as_aux_lemma => kernel_rfl) (fun _ _ _ h => h) (Or.inl ⟨by kernel_rfl, ?_⟩) hS ?_
      rotate_left
      · intro w hSw; have c0 := hSw.1.c0; have e0 := hSw.2.1.c0; have e1 := hSw.2.1.c1; have e2 := hSw.2.1.c2; have e3 := hSw.2.1.c3; have e4 := hSw.2.1.c4; dsimp only at e0 e1 e2 e3 e4; obtain ⟨d0, d1, d2, d3, d4⟩ := hSw.2.2.2.1; dsimp only at d0 d1 d2 d3 d4; go_simp
        first | done | with_reducible rfl
      refine wpAnyH_takeE (i := 6) (some 24) (v := ?_) rfl rfl (by as_aux_lemma => kernel_rfl) (by as_aux_lemma => kernel_rfl) (by as_aux_lemma => kernel_rfl) (fun _ _ _ h => h) (Or.inl ⟨by kernel_rfl, ?_⟩) hS ?_
      rotate_left
      · intro w hSw; have c0 := hSw.1.c0; have e0 := hSw.2.1.c0; have e1 := hSw.2.1.c1; have e2 := hSw.2.1.c2; have e3 := hSw.2.1.c3; have e4 := hSw.2.1.c4; dsimp only at e0 e1 e2 e3 e4; obtain ⟨d0, d1, d2, d3, d4⟩ := hSw.2.2.2.1; dsimp only at d0 d1 d2 d3 d4; go_simp
        first | done | with_reducible rfl
      refine wpAnyH_takeE (i := 7) (some 25) (v := ?_) rfl rfl (by as_aux_lemma => kernel_rfl) (by as_aux_lemma => kernel_rfl) (by as_aux_lemma => kernel_rfl) (fun _ _ _ h => h) (Or.inl ⟨by kernel_rfl, ?_⟩) hS ?_
      rotate_left
      · intro w hSw; have c0 := hSw.1.c0; have e0 := hSw.2.1.c0; have e1 := hSw.2.1.c1; have e2 := hSw.2.1.c2; have e3 := hSw.2.1.c3; have e4 := hSw.2.1.c4; dsimp only at e0 e1 e2 e3 e4; obtain ⟨d0, d1, d2, d3, d4⟩ := hSw.2.2.2.1; dsimp only at d0 d1 d2 d3 d4; go_simp
        first | done | with_reducible rfl
      refine wpAnyH_takeE (i := 8) (some 26) (v := ?_) rfl rfl (by as_aux_lemma => kernel_rfl) (by as_aux_lemma => kernel_rfl) (by as_aux_lemma => kernel_rfl) (fun _ _ _ h => h) (Or.inl ⟨by kernel_rfl, ?_⟩) hS ?_
      rotate_left
      · intro w hSw; have c0 := hSw.1.c0; have e0 := hSw.2.1.c0; have e1 := hSw.2.1.c1; have e2 := hSw.2.1.c2; have e3 := hSw.2.1.c3; have e4 := hSw.2.1.c4; dsimp only at e0 e1 e2 e3 e4; obtain ⟨d0, d1, d2, d3, d4⟩ := hSw.2.2.2.1; dsimp only at d0 d1 d2 d3 d4; go_simp
        first | done | with_reducible rfl
      refine wpAnyH_takeE (i := 9) (some 27) (v := ?_) rfl rfl (by as_aux_lemma => kernel_rfl) (by as_aux_lemma => kernel_rfl) (by as_aux_lemma => kernel_rfl) (fun _ _ _ h => h) (Or.inl ⟨by kernel_rfl, ?_⟩) hS ?_
      rotate_left
      · intro w hSw; have c0 := hSw.1.c0; have e0 := hSw.2.1.c0; have e1 := hSw.2.1.c1; have e2 := hSw.2.1.c2; have e3 := hSw.2.1.c3; have e4 := hSw.2.1.c4; dsimp only at e0 e1 e2 e3 e4; obtain ⟨d0, d1, d2, d3, d4⟩ := hSw.2.2.2.1; dsimp only at d0 d1 d2 d3 d4; go_simp
        first | done | with_reducible rfl
      refine wpAnyH_takeE (i := 10) (some 28) (v := ?_) rfl rfl (by as_aux_lemma => kernel_rfl) (by as_aux_lemma => kernel_rfl) (by as_aux_lemma => kernel_rfl) (fun _ _ _ h => h) (Or.inl ⟨by kernel_rfl, ?_⟩) hS ?_
      rotate_left
      · intro w hSw; have c0 := hSw.1.c0; have e0 := hSw.2.1.c0; have e1 := hSw.2.1.c1; have e2 := hSw.2.1.c2; have e3 := hSw.2.1.c3; have e4 := hSw.2.1.c4; dsimp only at e0 e1 e2 e3 e4; obtain ⟨d0, d1, d2, d3, d4⟩ := hSw.2.2.2.1; dsimp only at d0 d1 d2 d3 d4; go_simp
        first | done | with_reducible rfl
      refine wpAnyH_takeE (i := 11) (some 29) (v := ?_) rfl rfl (by as_aux_lemma => kernel_rfl) (by as_aux_lemma => kernel_rfl) (by as_aux_lemma => kernel_rfl) (fun _ _ _ h => h) (Or.inl ⟨by kernel_rfl, ?_⟩) hS ?_
      rotate_left
      · intro w hSw; have c0 := hSw.1.c0; have e0 := hSw.2.1.c0; have e1 := hSw.2.1.c1; have e2 := hSw.2.1.c2; have e3 := hSw.2.1.c3; have e4 := hSw.2.1.c4; dsimp only at e0 e1 e2 e3 e4; obtain ⟨d0, d1, d2, d3, d4⟩ := hSw.2.2.2.1; dsimp only at d0 d1 d2 d3 d4; go_simp
        first | done | with_reducible rfl
      refine wpAnyH_takeE (i := 12) (some 30) (v := ?_) rfl rfl (by as_aux_lemma => kernel_rfl) (by as_aux_lemma => kernel_rfl) (by as_aux_lemma => kernel_rfl) (fun _ _ _ h => h) (Or.inl ⟨by kernel_rfl, ?_⟩) hS ?_
      rotate_left
      · intro w hSw; have c0 := hSw.1.c0; have e0 := hSw.2.1.c0; have e1 := hSw.2.1.c1; have e2 := hSw.2.1.c2; have e3 := hSw.2.1.c3; have e4 := hSw.2.1.c4; dsimp only at e0 e1 e2 e3 e4; obtain ⟨d0, d1, d2, d3, d4⟩ := hSw.2.2.2.1; dsimp only at d0 d1 d2 d3 d4; go_simp
        first | done | with_reducible rfl
      refine wpAnyH_takeE (i := 13) (some 31) (v := ?_) rfl rfl (by as_aux_lemma => kernel_rfl) (by as_aux_lemma => kernel_rfl) (by as_aux_lemma => kernel_rfl) (fun _ _ _ h => h) (Or.inl ⟨by kernel_rfl, ?_⟩) hS ?_
      rotate_left
      · intro w hSw; have c0 := hSw.1.c0; have e0 := hSw.2.1.c0; have e1 := hSw.2.1.c1; have e2 := hSw.2.1.c2; have e3 := hSw.2.1.c3; have e4 := hSw.2.1.c4; dsimp only at e0 e1 e2 e3 e4; obtain ⟨d0, d1, d2, d3, d4⟩ := hSw.2.2.2.1; dsimp only at d0 d1 d2 d3 d4; go_simp
        first | done | with_reducible rfl
      refine wpAnyH_takeE (i := 14) (some 32) (v := ?_) rfl rfl (by as_aux_lemma => kernel_rfl) (by as_aux_lemma => kernel_rfl) (by as_aux_lemma => kernel_rfl) (fun _ _ _ h => h) (Or.inl ⟨by kernel_rfl, ?_⟩) hS ?_
      rotate_left
      · intro w hSw; have c0 := hSw.1.c0; have e0 := hSw.2.1.c0; have e1 := hSw.2.1.c1; have e2 := hSw.2.1.c2; have e3 := hSw.2.1.c3; have e4 := hSw.2.1.c4; dsimp only at e0 e1 e2 e3 e4; obtain ⟨d0, d1, d2, d3, d4⟩ := hSw.2.2.2.1; dsimp only at d0 d1 d2 d3 d4; go_simp
        first | done | with_reducible rfl
      refine wpAnyH_takeE (i := 15) (some 33) (v := ?_) rfl rfl (by as_aux_lemma => kernel_rfl) (by as_aux_lemma => kernel_rfl) (by as_aux_lemma => kernel_rfl) (fun _ _ _ h => h) (Or.inl ⟨by kernel_rfl, ?_⟩) hS ?_
      rotate_left
      · intro w hSw; have c0 := hSw.1.c0; have e0 := hSw.2.1.c0; have e1 := hSw.2.1.c1; have e2 := hSw.2.1.c2; have e3 := hSw.2.1.c3; have e4 := hSw.2.1.c4; dsimp only at e0 e1 e2 e3 e4; obtain ⟨d0, d1, d2, d3, d4⟩ := hSw.2.2.2.1; dsimp only at d0 d1 d2 d3 d4; go_simp
        first | done | with_reducible rfl
      have H5 := Lib.hid hS
      refine wpAnyH_done (by kernel_rfl) ?_ _
      clear hS
      go_simp
      go_wp2_with fail
      have h5 := H5.out
      clear H5
      refine wp_region_any (by kernel_rfl) ?_
      change wpAny _ _ _ _ _ _ _ (World.drew _)
      have hS : (fun w' : World => RmBlk w' w.heap.size (some ⟨b, o, none⟩) n c ∧ EBlk w' (w.heap.size + 1) ⟨kx, tx, ox, vx, ux⟩ ∧ RmBlk w' (w.heap.size + 1 + 1) none 0 0 ∧ RowAt w' b (o + k * 5) ⟨ky, ty, oy, vy, uy⟩ ∧ Below w.heap.size w w') wr.drew.drew := ⟨h5.1, h5.2.1, h5.2.2.1, h5.2.2.2.1, h5.2.2.2.2.drew⟩
      refine wpAny_of_held (S := fun w' => RmBlk w' w.heap.size (some ⟨b, o, none⟩) n c ∧ EBlk w' (w.heap.size + 1) ⟨kx, tx, ox, vx, ux⟩ ∧ RmBlk w' (w.heap.size + 1 + 1) none 0 0 ∧ RowAt w' b (o + k * 5) ⟨ky, ty, oy, vy, uy⟩ ∧ Below w.heap.size w w') _ _ _ _ ?_
      clear h5
      refine wpAnyH_takeE (i := 0) (some 36) (v := ?_) rfl rfl (by as_aux_lemma => kernel_rfl) (by as_aux_lemma => kernel_rfl) (by as_aux_lemma => kernel_rfl) (fun _ _ _ h => h) (Or.inl ⟨by kernel_rfl, ?_⟩) hS ?_
      rotate_left
      · intro w hSw; have c0 := hSw.1.c0; have e0 := hSw.2.1.c0; have e1 := hSw.2.1.c1; have e2 := hSw.2.1.c2; have e3 := hSw.2.1.c3; have e4 := hSw.2.1.c4; dsimp only at e0 e1 e2 e3 e4; obtain ⟨d0, d1, d2, d3, d4⟩ := hSw.2.2.2.1; dsimp only at d0 d1 d2 d3 d4; go_simp
        first | done | with_reducible rfl
      refine wpAnyH_takeE (i := 1) (some 37) (v := ?_) rfl rfl (by as_aux_lemma => kernel_rfl) (by as_aux_lemma => kernel_rfl) (by as_aux_lemma => kernel_rfl) (fun _ _ _ h => h) (Or.inl ⟨by kernel_rfl, ?_⟩) hS ?_
      rotate_left
      · intro w hSw; have c0 := hSw.1.c0; have e0 := hSw.2.1.c0; have e1 := hSw.2.1.c1; have e2 := hSw.2.1.c2; have e3 := hSw.2.1.c3; have e4 := hSw.2.1.c4; dsimp only at e0 e1 e2 e3 e4; obtain ⟨d0, d1, d2, d3, d4⟩ := hSw.2.2.2.1; dsimp only at d0 d1 d2 d3 d4; go_simp
        first | done | with_reducible rfl
      refine wpAnyH_takeE (i := 2) (some 38) (v := ?_) rfl rfl (by as_aux_lemma => kernel_rfl) (by as_aux_lemma => kernel_rfl) (by as_aux_lemma => kernel_rfl) (fun _ _ _ h => h) (Or.inl ⟨by kernel_rfl, ?_⟩) hS ?_
      rotate_left
      · intro w hSw; have c0 := hSw.1.c0; have e0 := hSw.2.1.c0; have e1 := hSw.2.1.c1; have e2 := hSw.2.1.c2; have e3 := hSw.2.1.c3; have e4 := hSw.2.1.c4; dsimp only at e0 e1 e2 e3 e4; obtain ⟨d0, d1, d2, d3, d4⟩ := hSw.2.2.2.1; dsimp only at d0 d1 d2 d3 d4; go_simp
        first | done | with_reducible rfl
      refine wpAnyH_takeE (i := 3) (some 39) (v := ?_) rfl rfl (by as_aux_lemma => kernel_rfl) (by as_aux_lemma => kernel_rfl) (by as_aux_lemma => kernel_rfl) (fun _ _ _ h => h) (Or.inl ⟨by kernel_rfl, ?_⟩) hS ?_
      rotate_left
      · intro w hSw; have c0 := hSw.1.c0; have e0 := hSw.2.1.c0; have e1 := hSw.2.1.c1; have e2 := hSw.2.1.c2; have e3 := hSw.2.1.c3; have e4 := hSw.2.1.c4; dsimp only at e0 e1 e2 e3 e4; obtain ⟨d0, d1, d2, d3, d4⟩ := hSw.2.2.2.1; dsimp only at d0 d1 d2 d3 d4; go_simp
        first | done | with_reducible rfl
      refine wpAnyH_takeE (i := 4) (some 40) (v := ?_) rfl rfl (by as_aux_lemma => kernel_rfl) (by as_aux_lemma => kernel_rfl) (by as_aux_lemma => kernel_rfl) (fun _ _ _ h => h) (Or.inl ⟨by kernel_rfl, ?_⟩) hS ?_
      rotate_left
      · intro w hSw; have c0 := hSw.1.c0; have e0 := hSw.2.1.c0; have e1 := hSw.2.1.c1; have e2 := hSw.2.1.c2; have e3 := hSw.2.1.c3; have e4 := hSw.2.1.c4; dsimp only at e0 e1 e2 e3 e4; obtain ⟨d0, d1, d2, d3, d4⟩ := hSw.2.2.2.1; dsimp only at d0 d1 d2 d3 d4; go_simp
        first | done | with_reducible rfl
      refine wpAnyH_takeE (i := 5) (some 41) (v := ?_) rfl rfl (by as_aux_lemma => kernel_rfl) (by as_aux_lemma => kernel_rfl) (by as_aux_lemma => kernel_rfl) (fun _ _ _ h => h) (Or.inl ⟨by kernel_rfl, ?_⟩) hS ?_
      rotate_left
      · intro w hSw; have c0 := hSw.1.c0; have e0 := hSw.2.1.c0; have e1 := hSw.2.1.c1; have e2 := hSw.2.1.c2; have e3 := hSw.2.1.c3; have e4 := hSw.2.1.c4; dsimp only at e0 e1 e2 e3 e4; obtain ⟨d0, d1, d2, d3, d4⟩ := hSw.2.2.2.1; dsimp only at d0 d1 d2 d3 d4; go_simp
        first | done | with_reducible rfl
      refine wpAnyH_takeE (i := 6) (some 42) (v := ?_) rfl rfl (by as_aux_lemma => kernel_rfl) (by as_aux_lemma => kernel_rfl) (by as_aux_lemma => kernel_rfl) (fun _ _ _ h => h) (Or.inl ⟨by kernel_rfl, ?_⟩) hS ?_
      rotate_left
      · intro w hSw; have c0 := hSw.1.c0; have e0 := hSw.2.1.c0; have e1 := hSw.2.1.c1; have e2 := hSw.2.1.c2; have e3 := hSw.2.1.c3; have e4 := hSw.2.1.c4; dsimp only at e0 e1 e2 e3 e4; obtain ⟨d0, d1, d2, d3, d4⟩ := hSw.2.2.2.1; dsimp only at d0 d1 d2 d3 d4; go_simp
        first | done | with_reducible rfl
      refine wpAnyH_takeE (i := 7) (some 43) (v := ?_) rfl rfl (by as_aux_lemma => kernel_rfl) (by as_aux_lemma => kernel_rfl) (by as_aux_lemma => kernel_rfl) (fun _ _ _ h => h) (Or.inl ⟨by kernel_rfl, ?_⟩) hS ?_
      rotate_left
      · intro w hSw; have c0 := hSw.1.c0; have e0 := hSw.2.1.c0; have e1 := hSw.2.1.c1; have e2 := hSw.2.1.c2; have e3 := hSw.2.1.c3; have e4 := hSw.2.1.c4; dsimp only at e0 e1 e2 e3 e4; obtain ⟨d0, d1, d2, d3, d4⟩ := hSw.2.2.2.1; dsimp only at d0 d1 d2 d3 d4; go_simp
        first | done | with_reducible rfl
      refine wpAnyH_takeE (i := 8) (some 44) (v := ?_) rfl rfl (by as_aux_lemma => kernel_rfl) (by as_aux_lemma => kernel_rfl) (by as_aux_lemma => kernel_rfl) (fun _ _ _ h => h) (Or.inl ⟨by kernel_rfl, ?_⟩) hS ?_
      rotate_left
      · intro w hSw; have c0 := hSw.1.c0; have e0 := hSw.2.1.c0; have e1 := hSw.2.1.c1; have e2 := hSw.2.1.c2; have e3 := hSw.2.1.c3; have e4 := hSw.2.1.c4; dsimp only at e0 e1 e2 e3 e4; obtain ⟨d0, d1, d2, d3, d4⟩ := hSw.2.2.2.1; dsimp only at d0 d1 d2 d3 d4; go_simp
        first | done | with_reducible rfl
      refine wpAnyH_takeE (i := 9) (some 45) (v := ?_) rfl rfl (by as_aux_lemma => kernel_rfl) (by as_aux_lemma => kernel_rfl) (by as_aux_lemma => kernel_rfl) (fun _ _ _ h => h) (Or.inl ⟨by kernel_rfl, ?_⟩) hS ?_
      rotate_left
      · intro w hSw; have c0 := hSw.1.c0; have e0 := hSw.2.1.c0; have e1 := hSw.2.1.c1; have e2 := hSw.2.1.c2; have e3 := hSw.2.1.c3; have e4 := hSw.2.1.c4; dsimp only at e0 e1 e2 e3 e4; obtain ⟨d0, d1, d2, d3, d4⟩ := hSw.2.2.2.1; dsimp only at d0 d1 d2 d3 d4; go_simp
        first | done | with_reducible rfl
      refine wpAnyH_takeE (i := 10) (some 46) (v := ?_) rfl rfl (by as_aux_lemma => kernel_rfl) (by as_aux_lemma => kernel_rfl) (by as_aux_lemma => kernel_rfl) (fun _ _ _ h => h) (Or.inl ⟨by kernel_rfl, ?_⟩) hS ?_
      rotate_left
      · intro w hSw; have c0 := hSw.1.c0; have e0 := hSw.2.1.c0; have e1 := hSw.2.1.c1; have e2 := hSw.2.1.c2; have e3 := hSw.2.1.c3; have e4 := hSw.2.1.c4; dsimp only at e0 e1 e2 e3 e4; obtain ⟨d0, d1, d2, d3, d4⟩ := hSw.2.2.2.1; dsimp only at d0 d1 d2 d3 d4; go_simp
        first | done | with_reducible rfl
      refine wpAnyH_takeE (i := 11) (some 47) (v := ?_) rfl rfl (by as_aux_lemma => kernel_rfl) (by as_aux_lemma => kernel_rfl) (by as_aux_lemma => kernel_rfl) (fun _ _ _ h => h) (Or.inl ⟨by kernel_rfl, ?_⟩) hS ?_
      rotate_left
      · intro w hSw; have c0 := hSw.1.c0; have e0 := hSw.2.1.c0; have e1 := hSw.2.1.c1; have e2 := hSw.2.1.c2; have e3 := hSw.2.1.c3; have e4 := hSw.2.1.c4; dsimp only at e0 e1 e2 e3 e4; obtain ⟨d0, d1, d2, d3, d4⟩ := hSw.2.2.2.1; dsimp only at d0 d1 d2 d3 d4; go_simp
        first | done | with_reducible rfl
      refine wpAnyH_takeE (i := 12) (some 48) (v := ?_) rfl rfl (by as_aux_lemma => kernel_rfl) (by as_aux_lemma => kernel_rfl) (by as_aux_lemma => kernel_rfl) (fun _ _ _ h => h) (Or.inl ⟨by kernel_rfl, ?_⟩) hS ?_
      rotate_left
      · intro w hSw; have c0 := hSw.1.c0; have e0 := hSw.2.1.c0; have e1 := hSw.2.1.c1; have e2 := hSw.2.1.c2; have e3 := hSw.2.1.c3; have e4 := hSw.2.1.c4; dsimp only at e0 e1 e2 e3 e4; obtain ⟨d0, d1, d2, d3, d4⟩ := hSw.2.2.2.1; dsimp only at d0 d1 d2 d3 d4; go_simp
        first | done | with_reducible rfl
      refine wpAnyH_takeE (i := 13) (some 49) (v := ?_) rfl rfl (by as_aux_lemma => kernel_rfl) (by as_aux_lemma => kernel_rfl) (by as_aux_lemma => kernel_rfl) (fun _ _ _ h => h) (Or.inl ⟨by kernel_rfl, ?_⟩) hS ?_
      rotate_left
      · intro w hSw; have c0 := hSw.1.c0; have e0 := hSw.2.1.c0; have e1 := hSw.2.1.c1; have e2 := hSw.2.1.c2; have e3 := hSw.2.1.c3; have e4 := hSw.2.1.c4; dsimp only at e0 e1 e2 e3 e4; obtain ⟨d0, d1, d2, d3, d4⟩ := hSw.2.2.2.1; dsimp only at d0 d1 d2 d3 d4; go_simp
        first | done | with_reducible rfl
      refine wpAnyH_takeE (i := 14) (some 50) (v := ?_) rfl rfl (by as_aux_lemma => kernel_rfl) (by as_aux_lemma => kernel_rfl) (by as_aux_lemma => kernel_rfl) (fun _ _ _ h => h) (Or.inl ⟨by kernel_rfl, ?_⟩) hS ?_
      rotate_left
      · intro w hSw; have c0 := hSw.1.c0; have e0 := hSw.2.1.c0; have e1 := hSw.2.1.c1; have e2 := hSw.2.1.c2; have e3 := hSw.2.1.c3; have e4 := hSw.2.1.c4; dsimp only at e0 e1 e2 e3 e4; obtain ⟨d0, d1, d2, d3, d4⟩ := hSw.2.2.2.1; dsimp only at d0 d1 d2 d3 d4; go_simp
        first | done | with_reducible rfl
      refine wpAnyH_takeE (i := 15) (some 51) (v := ?_) rfl rfl (by as_aux_lemma => kernel_rfl) (by as_aux_lemma => kernel_rfl) (by as_aux_lemma => kernel_rfl) (fun _ _ _ h => h) (Or.inl ⟨by kernel_rfl, ?_⟩) hS ?_
      rotate_left
      · intro w hSw; have c0 := hSw.1.c0; have e0 := hSw.2.1.c0; have e1 := hSw.2.1.c1; have e2 := hSw.2.1.c2; have e3 := hSw.2.1.c3; have e4 := hSw.2.1.c4; dsimp only at e0 e1 e2 e3 e4; obtain ⟨d0, d1, d2, d3, d4⟩ := hSw.2.2.2.1; dsimp only at d0 d1 d2 d3 d4; go_simp
        first | done | with_reducible rfl
      refine wpAnyH_takeE (i := 16) (some 9) (v := ?_) rfl rfl (by as_aux_lemma => kernel_rfl) (by as_aux_lemma => kernel_rfl) (by as_aux_lemma => kernel_rfl) (fun _ _ _ h => h) (Or.inl ⟨by kernel_rfl, ?_⟩) hS ?_
      rotate_left
      · intro w hSw; have c0 := hSw.1.c0; have e0 := hSw.2.1.c0; have e1 := hSw.2.1.c1; have e2 := hSw.2.1.c2; have e3 := hSw.2.1.c3; have e4 := hSw.2.1.c4; dsimp only at e0 e1 e2 e3 e4; obtain ⟨d0, d1, d2, d3, d4⟩ := hSw.2.2.2.1; dsimp only at d0 d1 d2 d3 d4; go_simp
        first | done | with_reducible rfl
      have H5 := Lib.hid hS
      refine wpAnyH_done (by kernel_rfl) ?_ _
      clear hS
      go_simp
      go_wp2_with fail
      have h5 := H5.out
      clear H5
      refine wp_region_any (by kernel_rfl) ?_
      change wpAny _ _ _ _ _ _ _ (World.drew _)
      have hS : (fun w' : World => RmBlk w' w.heap.size (some ⟨b, o, none⟩) n c ∧ EBlk w' (w.heap.size + 1) ⟨kx, tx, ox, vx, ux⟩ ∧ RmBlk w' (w.heap.size + 1 + 1) none 0 0 ∧ RowAt w' b (o + k * 5) ⟨ky, ty, oy, vy, uy⟩ ∧ Below w.heap.size w w') wr.drew.drew.drew := ⟨h5.1, h5.2.1, h5.2.2.1, h5.2.2.2.1, h5.2.2.2.2.drew⟩
      refine wpAny_of_held (S := fun w' => RmBlk w' w.heap.size (some ⟨b, o, none⟩) n c ∧ EBlk w' (w.heap.size + 1) ⟨kx, tx, ox, vx, ux⟩ ∧ RmBlk w' (w.heap.size + 1 + 1) none 0 0 ∧ RowAt w' b (o + k * 5) ⟨ky, ty, oy, vy, uy⟩ ∧ Below w.heap.size w w') _ _ _ _ ?_
      clear h5
      refine wpAnyH_takeE (i := 0) (some 54) (v := ?_) rfl rfl (by as_aux_lemma => kernel_rfl) (by as_aux_lemma => kernel_rfl) (by as_aux_lemma => kernel_rfl) (fun _ _ _ h => h) (Or.inl ⟨by kernel_rfl, ?_⟩) hS ?_
      rotate_left
      · intro w hSw; have c0 := hSw.1.c0; have e0 := hSw.2.1.c0; have e1 := hSw.2.1.c1; have e2 := hSw.2.1.c2; have e3 := hSw.2.1.c3; have e4 := hSw.2.1.c4; dsimp only at e0 e1 e2 e3 e4; obtain ⟨d0, d1, d2, d3, d4⟩ := hSw.2.2.2.1; dsimp only at d0 d1 d2 d3 d4; go_simp
        first | done | with_reducible rfl
      refine wpAnyH_takeE (i := 1) (some 55) (v := ?_) rfl rfl (by as_aux_lemma => kernel_rfl) (by as_aux_lemma => kernel_rfl) (by as_aux_lemma => kernel_rfl) (fun _ _ _ h => h) (Or.inl ⟨by kernel_rfl, ?_⟩) hS ?_
      rotate_left
      · intro w hSw; have c0 := hSw.1.c0; have e0 := hSw.2.1.c0; have e1 := hSw.2.1.c1; have e2 := hSw.2.1.c2; have e3 := hSw.2.1.c3; have e4 := hSw.2.1.c4; dsimp only at e0 e1 e2 e3 e4; obtain ⟨d0, d1, d2, d3, d4⟩ := hSw.2.2.2.1; dsimp only at d0 d1 d2 d3 d4; go_simp
        first | done | with_reducible rfl
      refine wpAnyH_takeE (i := 2) (some 56) (v := ?_) rfl rfl (by as_aux_lemma => kernel_rfl) (by as_aux_lemma => kernel_rfl) (by as_aux_lemma => kernel_rfl) (fun _ _ _ h => h) (Or.inl ⟨by kernel_rfl, ?_⟩) hS ?_
      rotate_left
      · intro w hSw; have c0 := hSw.1.c0; have e0 := hSw.2.1.c0; have e1 := hSw.2.1.c1; have e2 := hSw.2.1.c2; have e3 := hSw.2.1.c3; have e4 := hSw.2.1.c4; dsimp only at e0 e1 e2 e3 e4; obtain ⟨d0, d1, d2, d3, d4⟩ := hSw.2.2.2.1; dsimp only at d0 d1 d2 d3 d4; go_simp
        first | done | with_reducible rfl
      refine wpAnyH_takeE (i := 3) (some 57) (v := ?_) rfl rfl (by as_aux_lemma => kernel_rfl) (by as_aux_lemma => kernel_rfl) (by as_aux_lemma => kernel_rfl) (fun _ _ _ h => h) (Or.inl ⟨by kernel_rfl, ?_⟩) hS ?_
      rotate_left
      · intro w hSw; have c0 := hSw.1.c0; have e0 := hSw.2.1.c0; have e1 := hSw.2.1.c1; have e2 := hSw.2.1.c2; have e3 := hSw.2.1.c3; have e4 := hSw.2.1.c4; dsimp only at e0 e1 e2 e3 e4; obtain ⟨d0, d1, d2, d3, d4⟩ := hSw.2.2.2.1; dsimp only at d0 d1 d2 d3 d4; go_simp
        first | done | with_reducible rfl
      refine wpAnyH_takeE (i := 4) (some 58) (v := ?_) rfl rfl (by as_aux_lemma => kernel_rfl) (by as_aux_lemma => kernel_rfl) (by as_aux_lemma => kernel_rfl) (fun _ _ _ h => h) (Or.inl ⟨by kernel_rfl, ?_⟩) hS ?_
      rotate_left
      · intro w hSw; have c0 := hSw.1.c0; have e0 := hSw.2.1.c0; have e1 := hSw.2.1.c1; have e2 := hSw.2.1.c2; have e3 := hSw.2.1.c3; have e4 := hSw.2.1.c4; dsimp only at e0 e1 e2 e3 e4; obtain ⟨d0, d1, d2, d3, d4⟩ := hSw.2.2.2.1; dsimp only at d0 d1 d2 d3 d4; go_simp
        first | done | with_reducible rfl
      refine wpAnyH_takeE (i := 5) (some 59) (v := ?_) rfl rfl (by as_aux_lemma => kernel_rfl) (by as_aux_lemma => kernel_rfl) (by as_aux_lemma => kernel_rfl) (fun _ _ _ h => h) (Or.inl ⟨by kernel_rfl, ?_⟩) hS ?_
      rotate_left
      · intro w hSw; have c0 := hSw.1.c0; have e0 := hSw.2.1.c0; have e1 := hSw.2.1.c1; have e2 := hSw.2.1.c2; have e3 := hSw.2.1.c3; have e4 := hSw.2.1.c4; dsimp only at e0 e1 e2 e3 e4; obtain ⟨d0, d1, d2, d3, d4⟩ := hSw.2.2.2.1; dsimp only at d0 d1 d2 d3 d4; go_simp
        first | done | with_reducible rfl
      refine wpAnyH_takeE (i := 6) (some 60) (v := ?_) rfl rfl (by as_aux_lemma => kernel_rfl) (by as_aux_lemma => kernel_rfl) (by as_aux_lemma => kernel_rfl) (fun _ _ _ h => h) (Or.inl ⟨by kernel_rfl, ?_⟩) hS ?_
      rotate_left
      · intro w hSw; have c0 := hSw.1.c0; have e0 := hSw.2.1.c0; have e1 := hSw.2.1.c1; have e2 := hSw.2.1.c2; have e3 := hSw.2.1.c3; have e4 := hSw.2.1.c4; dsimp only at e0 e1 e2 e3 e4; obtain ⟨d0, d1, d2, d3, d4⟩ := hSw.2.2.2.1; dsimp only at d0 d1 d2 d3 d4; go_simp
        first | done | with_reducible rfl
      refine wpAnyH_takeE (i := 7) (some 61) (v := ?_) rfl rfl (by as_aux_lemma => kernel_rfl) (by as_aux_lemma => kernel_rfl) (by as_aux_lemma => kernel_rfl) (fun _ _ _ h => h) (Or.inl ⟨by kernel_rfl, ?_⟩) hS ?_
      rotate_left
      · intro w hSw; have c0 := hSw.1.c0; have e0 := hSw.2.1.c0; have e1 := hSw.2.1.c1; have e2 := hSw.2.1.c2; have e3 := hSw.2.1.c3; have e4 := hSw.2.1.c4; dsimp only at e0 e1 e2 e3 e4; obtain ⟨d0, d1, d2, d3, d4⟩ := hSw.2.2.2.1; dsimp only at d0 d1 d2 d3 d4; go_simp
        first | done | with_reducible rfl
      refine wpAnyH_ready (rs := [8]) (by as_aux_lemma => kernel_rfl) (by simp) ?_
      refine AllReadyH.cons rfl (fun K hK => ?_) AllReadyH.nil
      go_simp
      go_wp2_with (go_at_call 32; refine (HAb.out _).mono ?_; rintro e w9 ⟨rfl, q9⟩)
      refine hK.out _ _ ?_ (fun hS => ?_)
      · exact ⟨hS.1.on q9, hS.2.1.on q9, hS.2.2.1.on q9, hS.2.2.2.1.on q9, hS.2.2.2.2.trans (q9.mono hS.2.2.2.2.size)⟩
      clear hK K
      clear q9
      refine wpAnyH_takeE (i := 9) (some 63) (v := ?_) rfl rfl (by as_aux_lemma => kernel_rfl) (by as_aux_lemma => kernel_rfl) (by as_aux_lemma => kernel_rfl) (fun _ _ _ h => h) (Or.inl ⟨by kernel_rfl, ?_⟩) hS ?_
      rotate_left
      · intro w hSw; have c0 := hSw.1.c0; have e0 := hSw.2.1.c0; have e1 := hSw.2.1.c1; have e2 := hSw.2.1.c2; have e3 := hSw.2.1.c3; have e4 := hSw.2.1.c4; dsimp only at e0 e1 e2 e3 e4; obtain ⟨d0, d1, d2, d3, d4⟩ := hSw.2.2.2.1; dsimp only at d0 d1 d2 d3 d4; go_simp
        first | done | with_reducible rfl
      refine wpAnyH_takeE (i := 10) (some 64) (v := ?_) rfl rfl (by as_aux_lemma => kernel_rfl) (by as_aux_lemma => kernel_rfl) (by as_aux_lemma => kernel_rfl) (fun _ _ _ h => h) (Or.inl ⟨by kernel_rfl, ?_⟩) hS ?_
      rotate_left
      · intro w hSw; have c0 := hSw.1.c0; have e0 := hSw.2.1.c0; have e1 := hSw.2.1.c1; have e2 := hSw.2.1.c2; have e3 := hSw.2.1.c3; have e4 := hSw.2.1.c4; dsimp only at e0 e1 e2 e3 e4; obtain ⟨d0, d1, d2, d3, d4⟩ := hSw.2.2.2.1; dsimp only at d0 d1 d2 d3 d4; go_simp
        first | done | with_reducible rfl
      refine wpAnyH_takeE (i := 11) (some 53) (v := ?_) rfl rfl (by as_aux_lemma => kernel_rfl) (by as_aux_lemma => kernel_rfl) (by as_aux_lemma => kernel_rfl) (fun _ _ _ h => h) (Or.inl ⟨by kernel_rfl, ?_⟩) hS ?_
      rotate_left
      · intro w hSw; have c0 := hSw.1.c0; have e0 := hSw.2.1.c0; have e1 := hSw.2.1.c1; have e2 := hSw.2.1.c2; have e3 := hSw.2.1.c3; have e4 := hSw.2.1.c4; dsimp only at e0 e1 e2 e3 e4; obtain ⟨d0, d1, d2, d3, d4⟩ := hSw.2.2.2.1; dsimp only at d0 d1 d2 d3 d4; go_simp
        first | done | with_reducible rfl
      have H5 := Lib.hid hS
      refine wpAnyH_done (by kernel_rfl) ?_ _
      clear hS
      go_simp
      have h5 := H5.out
      clear H5
      have k1 : RmBlk (w9) w.heap.size (some ⟨b, o, none⟩) n c := h5.1
      have k2 : EBlk (w9) (w.heap.size + 1) ⟨kx, tx, ox, vx, ux⟩ := h5.2.1
      have k3 : RmBlk (w9) (w.heap.size + 1 + 1) none 0 0 := h5.2.2.1
      have b7 : Below w.heap.size w (w9) := h5.2.2.2.2
      clear h5
      have hat : EntsAt w9 (some ⟨b, o, none⟩) S := HH.out.1.below b7 (Nat.le_refl _)
      have hnone : ((some ⟨b, o, none⟩) : Option Addr) = none → c = 0 := HH.out.2.2
      have hP1 : (k : Int) ≤ (c : Int) := by omega
      have HTK : Hid (k = (S.take k).length) := Lib.hid (by rw [List.length_take, ← HNL.out]; omega)
      have hwsz : w.heap.size ≤ w9.heap.size := b7.size
      have HK3 := Lib.hid k3
      have c0 := k1.c0
      go_wp2_with fail
      clear c0
      refine wp_region_any (by kernel_rfl) ?_
      change wpAny _ _ _ _ _ _ _ (World.drew _)
      have hS : (fun w' : World => RmBlk w' w.heap.size (some ⟨b, o, none⟩) n c ∧ EBlk w' (w.heap.size + 1) ⟨kx, tx, ox, vx, ux⟩ ∧ RmBlk w' (w.heap.size + 1 + 1) none 0 0) w9.drew := ⟨k1, k2, k3⟩
      refine wpAny_of_held (S := fun w' => RmBlk w' w.heap.size (some ⟨b, o, none⟩) n c ∧ EBlk w' (w.heap.size + 1) ⟨kx, tx, ox, vx, ux⟩ ∧ RmBlk w' (w.heap.size + 1 + 1) none 0 0) _ _ _ _ ?_
      refine wpAnyH_takeE (i := 0) (some 76) (v := ?_) rfl rfl (by as_aux_lemma => kernel_rfl) (by as_aux_lemma => kernel_rfl) (by as_aux_lemma => kernel_rfl) (fun _ _ _ h => h) (Or.inl ⟨by kernel_rfl, ?_⟩) hS ?_
      rotate_left
      · intro w hSw; have c0 := hSw.1.c0; have e0 := hSw.2.1.c0; have e1 := hSw.2.1.c1; have e2 := hSw.2.1.c2; have e3 := hSw.2.1.c3; have e4 := hSw.2.1.c4; dsimp only at e0 e1 e2 e3 e4; go_simp
        first | done | with_reducible rfl
      refine wpAnyH_takeE (i := 1) (some 77) (v := ?_) rfl rfl (by as_aux_lemma => kernel_rfl) (by as_aux_lemma => kernel_rfl) (by as_aux_lemma => kernel_rfl) (fun _ _ _ h => h) (Or.inl ⟨by kernel_rfl, ?_⟩) hS ?_
      rotate_left
      · intro w hSw; have c0 := hSw.1.c0; have e0 := hSw.2.1.c0; have e1 := hSw.2.1.c1; have e2 := hSw.2.1.c2; have e3 := hSw.2.1.c3; have e4 := hSw.2.1.c4; dsimp only at e0 e1 e2 e3 e4; go_simp
        first | done | with_reducible rfl
      refine wpAnyH_takeE (i := 2) (some 78) (v := ?_) rfl rfl (by as_aux_lemma => kernel_rfl) (by as_aux_lemma => kernel_rfl) (by as_aux_lemma => kernel_rfl) (fun _ _ _ h => h) (Or.inl ⟨by kernel_rfl, ?_⟩) hS ?_
      rotate_left
      · intro w hSw; have c0 := hSw.1.c0; have e0 := hSw.2.1.c0; have e1 := hSw.2.1.c1; have e2 := hSw.2.1.c2; have e3 := hSw.2.1.c3; have e4 := hSw.2.1.c4; dsimp only at e0 e1 e2 e3 e4; go_simp
        first | done | with_reducible rfl
      refine wpAnyH_takeE (i := 3) (some 79) (v := ?_) rfl rfl (by as_aux_lemma => kernel_rfl) (by as_aux_lemma => kernel_rfl) (by as_aux_lemma => kernel_rfl) (fun _ _ _ h => h) (Or.inl ⟨by kernel_rfl, ?_⟩) hS ?_
      rotate_left
      · intro w hSw; have c0 := hSw.1.c0; have e0 := hSw.2.1.c0; have e1 := hSw.2.1.c1; have e2 := hSw.2.1.c2; have e3 := hSw.2.1.c3; have e4 := hSw.2.1.c4; dsimp only at e0 e1 e2 e3 e4; go_simp
        first | done | with_reducible rfl
      refine wpAnyH_takeE (i := 4) (some 80) (v := ?_) rfl rfl (by as_aux_lemma => kernel_rfl) (by as_aux_lemma => kernel_rfl) (by as_aux_lemma => kernel_rfl) (fun _ _ _ h => h) (Or.inl ⟨by kernel_rfl, ?_⟩) hS ?_
      rotate_left
      · intro w hSw; have c0 := hSw.1.c0; have e0 := hSw.2.1.c0; have e1 := hSw.2.1.c1; have e2 := hSw.2.1.c2; have e3 := hSw.2.1.c3; have e4 := hSw.2.1.c4; dsimp only at e0 e1 e2 e3 e4; go_simp
        first | done | with_reducible rfl
      refine wpAnyH_takeE (i := 6) (some 82) (v := ?_) rfl rfl (by as_aux_lemma => kernel_rfl) (by as_aux_lemma => kernel_rfl) (by as_aux_lemma => kernel_rfl) (fun _ _ _ h => h) (Or.inl ⟨by kernel_rfl, ?_⟩) hS ?_
      rotate_left
      · intro w hSw; have c0 := hSw.1.c0; have e0 := hSw.2.1.c0; have e1 := hSw.2.1.c1; have e2 := hSw.2.1.c2; have e3 := hSw.2.1.c3; have e4 := hSw.2.1.c4; dsimp only at e0 e1 e2 e3 e4; go_simp
        first | done | with_reducible rfl
      refine wpAnyH_ready (rs := [5, 7]) (by as_aux_lemma => kernel_rfl) (by simp) ?_
      refine AllReadyH.cons rfl (fun K hK => ?_) (AllReadyH.cons rfl (fun K hK => ?_) AllReadyH.nil)
      · have own0 : OwnC w9.drew w9.heap.size (.slice none 0 0) [] := World.ownsRow_nil _ _ _ _
        have hat0 : EntsAt w9.drew (some ⟨b, o, none⟩) (S.take k) := hat.takeC k
        have hle0 : ([] : List Ent).length + (S.take k).length ≤ 1000000 := by rw [← HTK.out]; simp; omega
        have hsz0 : w9.heap.size ≤ w9.drew.heap.size := Nat.le_refl _
        refine step_append_ents (w := w9.drew) rfl _ _ rfl w9.heap.size (.slice none 0 0) [] (by kernel_rfl) own0 (some ⟨b, o, none⟩) k c (S.take k) (by kernel_rfl) HTK.out hat0 hnone hle0 hsz0 ?_
        intro v8 w8 own8a g8
        have q8 : Below w9.heap.size w9 w8 := (Below.refl w9.heap.size w9).drew.grown g8 (Nat.le_refl _) (fun j e => by cases e)
        refine hK.out _ _ ⟨k1.below q8 k1.lt, k2.below q8 k2.lt, k3.below q8 k3.lt⟩ (fun hS => ?_)
        clear hK K
        refine wpAnyH_ready (rs := [7]) (by as_aux_lemma => kernel_rfl) (by simp) ?_
        refine AllReadyH.cons rfl (fun K hK => ?_) AllReadyH.nil
        go_simp
        have d9 := (Below.refl w8.heap.size w8).alloc (Nat.le_refl _) (.cells #[.string kx, .int .i64 tx, .int .u16 ox, .string vx, .int .i64 ux] 36)
        refine hK.out _ _ ⟨hS.1.on d9, hS.2.1.on d9, hS.2.2.on d9⟩ (fun hS => ?_)
        clear hK K
        have own9 := own8a.onB d9 (Nat.le_refl _)
        have hx9 : EntsAt (w8.alloc (.cells #[.string kx, .int .i64 tx, .int .u16 ox, .string vx, .int .i64 ux] 36)) (some ⟨w8.heap.size, 0, none⟩) [(⟨kx, tx, ox, vx, ux⟩ : Ent)] := EntsAt.one w8 (⟨kx, tx, ox, vx, ux⟩ : Ent)
        refine wpAnyH_ready (rs := [8]) (by as_aux_lemma => kernel_rfl) (by simp) ?_
        refine AllReadyH.cons rfl (fun K hK => ?_) AllReadyH.nil
        refine step_append_ents rfl _ _ rfl w9.heap.size v8 ([] ++ S.take k) (by kernel_rfl) own9 (some ⟨w8.heap.size, 0, none⟩) 1 1 [(⟨kx, tx, ox, vx, ux⟩ : Ent)] (by kernel_rfl) rfl hx9 (fun e => by cases e) (by have := HTK.out; simp at this ⊢; omega) (Nat.le_trans q8.size d9.size) ?_
        intro v10 w10 own10 g10
        have q10 : Below w9.heap.size w9 w10 := (q8.trans (d9.mono q8.size)).grown g10 (Nat.le_trans q8.size d9.size) (fun j e => (World.ownsRow.lt own9 j e).1)
        refine hK.out _ _ ⟨k1.below q10 k1.lt, k2.below q10 k2.lt, k3.below q10 k3.lt⟩ (fun hS => ?_)
        clear hK K d9 own9 hx9 g10 own8a g8 q8 own0 hat0 hle0 hsz0
        refine wpAnyH_takeE (i := 9) (some 11) (v := ?_) rfl rfl (by as_aux_lemma => kernel_rfl) (by as_aux_lemma => kernel_rfl) (by as_aux_lemma => kernel_rfl) (fun _ _ _ h => h) (Or.inl ⟨by kernel_rfl, ?_⟩) hS ?_
        rotate_left
        · intro w hSw; have c0 := hSw.1.c0; have e0 := hSw.2.1.c0; have e1 := hSw.2.1.c1; have e2 := hSw.2.1.c2; have e3 := hSw.2.1.c3; have e4 := hSw.2.1.c4; dsimp only at e0 e1 e2 e3 e4; go_simp
          first | done | with_reducible rfl
        refine wpAnyH_done (by kernel_rfl) ?_ _
        rw [List.nil_append] at own10
        have b10 := b7.trans (q10.mono b7.size)
        obtain ⟨k1', k2', k3'⟩ := hS
        obtain ⟨a10, c10, rfl, -⟩ := own10.form
        clear k1 k2 k3 hat HTK
        obtain ⟨A10, HA10⟩ : ∃ l, Hid (S.take k ++ [(⟨kx, tx, ox, vx, ux⟩ : Ent)] = l) := ⟨_, Lib.hid rfl⟩
        obtain ⟨D10, HD10⟩ : ∃ l, Hid (S.drop (k + 1) = l) := ⟨_, Lib.hid rfl⟩
        rw [HA10.out] at own10 ⊢
        generalize hN10 : A10.length = n10 at *
        have HN10 := Lib.hid hN10
        clear hN10
        go_simp
        have c0 := k1'.c0
        have hkc : (k + 1 : Int) ≤ (c : Int) := by omega
        have hkn : (k + 1 : Int) ≤ (n : Int) := by omega
        have hat10 : EntsAt w10 (some ⟨b, o, none⟩) S := HH.out.1.below b10 (Nat.le_refl _)
        have hKn : k + 1 ≤ n := by omega
        have HLN : Hid (n - (k + 1) = D10.length) := Lib.hid (by rw [← HD10.out, List.length_drop, ← HNL.out])
        have hle10 : A10.length + D10.length ≤ 1000000 := by rw [← HLN.out, ← HA10.out, List.length_append, List.length_take, ← HNL.out]; simp; omega
        have hle11 : A10.length + D10.length ≤ 1099511627776 := by omega
        have hsz10 : w9.heap.size ≤ w10.heap.size := q10.size
        have HFin := Lib.hid (fun v12 w12 (own12 : OwnC w12 w9.heap.size v12 (A10 ++ D10)) (g12 : w10.grownBy w12 (Value.slice a10 n10 c10).ownBlock) => cput_end b7 (w.heap.size + 1 + 1) HK3.out (by omega) q10 own10 own12 g12)
        have HLS : Hid (A10 ++ D10 = cputS S (⟨kx, tx, ox, vx, ux⟩ : Ent)) := Lib.hid (by rw [HQ.out.1, ← HA10.out, ← HD10.out, List.append_assoc]; rfl)
        clear HN10 b10 k1' k2' k3' q10 b7 HK3
        by_cases hce : c = k + 1
        · have hnil0 : EntsAt w10 (some ⟨b, o, none⟩) D10 := by
            have : D10 = [] := by rw [← HD10.out]; exact List.drop_eq_nil_of_le (by rw [← HNL.out]; omega)
            subst this
            exact fun h => by simp at h
          have HL0 : Hid (0 = D10.length) := Lib.hid (by rw [← HLN.out]; omega)
          have hn0 : n = k + 1 := by omega
          clear hkn hKn
          replace hce := hce.symm
          subst hce
          go_wp2_with (at_builtin; refine wpList_append_ents _ rfl _ _ rfl w9.heap.size _ _ rfl own10 (some ⟨b, o, none⟩) _ _ D10 rfl (by have := HL0.out; omega) hnil0 (by simp) hle11 hsz10 ?_; refine Hid.out ?_)
          refine Lib.hid ?_
          intro v12 w12 own12 g12
          obtain ⟨a12, c12, rfl, k12, hR12, hB12⟩ := HFin.out v12 w12 own12 g12
          have hk3 := k12.c0; have hf3 := k12.f 0
          generalize hRR : A10 ++ D10 = RR at *
          have HRR := HLS
          clear hRR
          generalize hNN : RR.length = NN at *
          have HNN := Lib.hid hNN
          clear hNN
          have rr0 := (k12.set (a' := a12) (n' := NN) (c' := c12)).c0
          have HF := Lib.hid (And.intro hR12 hB12)
          clear hR12 hB12 own12 g12 k12 own10 HFin c0 hat10
          go_wp2
          exact bodyPost_ret (v := .tuple #[.agg #[.slice a12 NN c12], .bool true, .int .i64 0]) (by simp [results, Try.results25, go_sem, rr0]) rfl ⟨a12, c12, by rw [← HRR.out, HNN.out, HQ.out.2.1, HQ.out.2.2], by rw [← HRR.out]; exact HF.out.1, HF.out.2⟩
        · have hcl : k + 1 < c := by omega
          have hdr := hat10.dropC (k + 1)
          rw [HD10.out] at hdr
          rw [Go.WideShapes.add_plain] at hdr
          go_wp2_with (at_builtin; refine wpList_append_ents _ rfl _ _ rfl w9.heap.size _ _ rfl own10 (some ⟨b, o + (k + 1) * 5, none⟩) _ _ D10 rfl HLN.out hdr (fun e => by cases e) hle11 hsz10 ?_; refine Hid.out ?_)
          refine Lib.hid ?_
          intro v12 w12 own12 g12
          obtain ⟨a12, c12, rfl, k12, hR12, hB12⟩ := HFin.out v12 w12 own12 g12
          have hk3 := k12.c0; have hf3 := k12.f 0
          generalize hRR : A10 ++ D10 = RR at *
          have HRR := HLS
          clear hRR
          generalize hNN : RR.length = NN at *
          have HNN := Lib.hid hNN
          clear hNN
          have rr0 := (k12.set (a' := a12) (n' := NN) (c' := c12)).c0
          have HF := Lib.hid (And.intro hR12 hB12)
          clear hR12 hB12 own12 g12 k12 own10 HFin c0 hat10
          go_wp2
          exact bodyPost_ret (v := .tuple #[.agg #[.slice a12 NN c12], .bool true, .int .i64 0]) (by simp [results, Try.results25, go_sem, rr0]) rfl ⟨a12, c12, by rw [← HRR.out, HNN.out, HQ.out.2.1, HQ.out.2.2], by rw [← HRR.out]; exact HF.out.1, HF.out.2⟩
      · go_simp
        have d8 := (Below.refl w9.heap.size w9).alloc (Nat.le_refl _) (.cells #[.string kx, .int .i64 tx, .int .u16 ox, .string vx, .int .i64 ux] 36)
        have d8' : Below w9.heap.size w9 (w9.alloc (.cells #[.string kx, .int .i64 tx, .int .u16 ox, .string vx, .int .i64 ux] 36)).drew := d8.drew
        refine hK.out _ _ ⟨k1.below d8' k1.lt, k2.below d8' k2.lt, k3.below d8' k3.lt⟩ (fun hS => ?_)
        clear hK K
        have own0 : OwnC (w9.alloc (.cells #[.string kx, .int .i64 tx, .int .u16 ox, .string vx, .int .i64 ux] 36)).drew w9.heap.size (.slice none 0 0) [] := World.ownsRow_nil _ _ _ _
        have hat0 : EntsAt (w9.alloc (.cells #[.string kx, .int .i64 tx, .int .u16 ox, .string vx, .int .i64 ux] 36)).drew (some ⟨b, o, none⟩) (S.take k) := (hat.below d8 (Nat.le_refl _)).takeC k
        have hle0 : ([] : List Ent).length + (S.take k).length ≤ 1000000 := by rw [← HTK.out]; simp; omega
        have hsz0 : w9.heap.size ≤ (w9.alloc (.cells #[.string kx, .int .i64 tx, .int .u16 ox, .string vx, .int .i64 ux] 36)).drew.heap.size := d8.size
        refine wpAnyH_ready (rs := [5]) (by as_aux_lemma => kernel_rfl) (by simp) ?_
        refine AllReadyH.cons rfl (fun K hK => ?_) AllReadyH.nil
        refine step_append_ents (w := (w9.alloc (.cells #[.string kx, .int .i64 tx, .int .u16 ox, .string vx, .int .i64 ux] 36)).drew) rfl _ _ rfl w9.heap.size (.slice none 0 0) [] (by kernel_rfl) own0 (some ⟨b, o, none⟩) k c (S.take k) (by kernel_rfl) HTK.out hat0 hnone hle0 hsz0 ?_
        intro v8 w8 own8a g8
        have q8' : Below (w9.alloc (.cells #[.string kx, .int .i64 tx, .int .u16 ox, .string vx, .int .i64 ux] 36)).heap.size (w9.alloc (.cells #[.string kx, .int .i64 tx, .int .u16 ox, .string vx, .int .i64 ux] 36)) w8 := (Below.refl _ _).drew.grown g8 (Nat.le_refl _) (fun j e => by cases e)
        have q8 : Below w9.heap.size w9 w8 := d8.trans (q8'.mono d8.size)
        refine hK.out _ _ ⟨k1.below q8 k1.lt, k2.below q8 k2.lt, k3.below q8 k3.lt⟩ (fun hS => ?_)
        clear hK K
        have hx9 : EntsAt w8 (some ⟨w9.heap.size, 0, none⟩) [(⟨kx, tx, ox, vx, ux⟩ : Ent)] := (EntsAt.one w9 (⟨kx, tx, ox, vx, ux⟩ : Ent)).below q8' (Nat.le_refl _)
        refine wpAnyH_ready (rs := [8]) (by as_aux_lemma => kernel_rfl) (by simp) ?_
        refine AllReadyH.cons rfl (fun K hK => ?_) AllReadyH.nil
        refine step_append_ents rfl _ _ rfl w9.heap.size v8 ([] ++ S.take k) (by kernel_rfl) own8a (some ⟨w9.heap.size, 0, none⟩) 1 1 [(⟨kx, tx, ox, vx, ux⟩ : Ent)] (by kernel_rfl) rfl hx9 (fun e => by cases e) (by have := HTK.out; simp at this ⊢; omega) q8.size ?_
        intro v10 w10 own10 g10
        have q10 : Below w9.heap.size w9 w10 := q8.grown g10 q8.size (fun j e => (World.ownsRow.lt own8a j e).1)
        refine hK.out _ _ ⟨k1.below q10 k1.lt, k2.below q10 k2.lt, k3.below q10 k3.lt⟩ (fun hS => ?_)
        clear hK K d8 d8' q8' hx9 g10 own8a g8 q8 own0 hat0 hle0 hsz0
        refine wpAnyH_takeE (i := 9) (some 11) (v := ?_) rfl rfl (by as_aux_lemma => kernel_rfl) (by as_aux_lemma => kernel_rfl) (by as_aux_lemma => kernel_rfl) (fun _ _ _ h => h) (Or.inl ⟨by kernel_rfl, ?_⟩) hS ?_
        rotate_left
        · intro w hSw; have c0 := hSw.1.c0; have e0 := hSw.2.1.c0; have e1 := hSw.2.1.c1; have e2 := hSw.2.1.c2; have e3 := hSw.2.1.c3; have e4 := hSw.2.1.c4; dsimp only at e0 e1 e2 e3 e4; go_simp
          first | done | with_reducible rfl
        refine wpAnyH_done (by kernel_rfl) ?_ _
        rw [List.nil_append] at own10
        have b10 := b7.trans (q10.mono b7.size)
        obtain ⟨k1', k2', k3'⟩ := hS
        obtain ⟨a10, c10, rfl, -⟩ := own10.form
        clear k1 k2 k3 hat HTK
        obtain ⟨A10, HA10⟩ : ∃ l, Hid (S.take k ++ [(⟨kx, tx, ox, vx, ux⟩ : Ent)] = l) := ⟨_, Lib.hid rfl⟩
        obtain ⟨D10, HD10⟩ : ∃ l, Hid (S.drop (k + 1) = l) := ⟨_, Lib.hid rfl⟩
        rw [HA10.out] at own10 ⊢
        generalize hN10 : A10.length = n10 at *
        have HN10 := Lib.hid hN10
        clear hN10
        go_simp
        have c0 := k1'.c0
        have hkc : (k + 1 : Int) ≤ (c : Int) := by omega
        have hkn : (k + 1 : Int) ≤ (n : Int) := by omega
        have hat10 : EntsAt w10 (some ⟨b, o, none⟩) S := HH.out.1.below b10 (Nat.le_refl _)
        have hKn : k + 1 ≤ n := by omega
        have HLN : Hid (n - (k + 1) = D10.length) := Lib.hid (by rw [← HD10.out, List.length_drop, ← HNL.out])
        have hle10 : A10.length + D10.length ≤ 1000000 := by rw [← HLN.out, ← HA10.out, List.length_append, List.length_take, ← HNL.out]; simp; omega
        have hle11 : A10.length + D10.length ≤ 1099511627776 := by omega
        have hsz10 : w9.heap.size ≤ w10.heap.size := q10.size
        have HFin := Lib.hid (fun v12 w12 (own12 : OwnC w12 w9.heap.size v12 (A10 ++ D10)) (g12 : w10.grownBy w12 (Value.slice a10 n10 c10).ownBlock) => cput_end b7 (w.heap.size + 1 + 1) HK3.out (by omega) q10 own10 own12 g12)
        have HLS : Hid (A10 ++ D10 = cputS S (⟨kx, tx, ox, vx, ux⟩ : Ent)) := Lib.hid (by rw [HQ.out.1, ← HA10.out, ← HD10.out, List.append_assoc]; rfl)
        clear HN10 b10 k1' k2' k3' q10 b7 HK3
        by_cases hce : c = k + 1
        · have hnil0 : EntsAt w10 (some ⟨b, o, none⟩) D10 := by
            have : D10 = [] := by rw [← HD10.out]; exact List.drop_eq_nil_of_le (by rw [← HNL.out]; omega)
            subst this
            exact fun h => by simp at h
          have HL0 : Hid (0 = D10.length) := Lib.hid (by rw [← HLN.out]; omega)
          have hn0 : n = k + 1 := by omega
          clear hkn hKn
          replace hce := hce.symm
          subst hce
          go_wp2_with (at_builtin; refine wpList_append_ents _ rfl _ _ rfl w9.heap.size _ _ rfl own10 (some ⟨b, o, none⟩) _ _ D10 rfl (by have := HL0.out; omega) hnil0 (by simp) hle11 hsz10 ?_; refine Hid.out ?_)
          refine Lib.hid ?_
          intro v12 w12 own12 g12
          obtain ⟨a12, c12, rfl, k12, hR12, hB12⟩ := HFin.out v12 w12 own12 g12
          have hk3 := k12.c0; have hf3 := k12.f 0
          generalize hRR : A10 ++ D10 = RR at *
          have HRR := HLS
          clear hRR
          generalize hNN : RR.length = NN at *
          have HNN := Lib.hid hNN
          clear hNN
          have rr0 := (k12.set (a' := a12) (n' := NN) (c' := c12)).c0
          have HF := Lib.hid (And.intro hR12 hB12)
          clear hR12 hB12 own12 g12 k12 own10 HFin c0 hat10
          go_wp2
          exact bodyPost_ret (v := .tuple #[.agg #[.slice a12 NN c12], .bool true, .int .i64 0]) (by simp [results, Try.results25, go_sem, rr0]) rfl ⟨a12, c12, by rw [← HRR.out, HNN.out, HQ.out.2.1, HQ.out.2.2], by rw [← HRR.out]; exact HF.out.1, HF.out.2⟩
        · have hcl : k + 1 < c := by omega
          have hdr := hat10.dropC (k + 1)
          rw [HD10.out] at hdr
          rw [Go.WideShapes.add_plain] at hdr
          go_wp2_with (at_builtin; refine wpList_append_ents _ rfl _ _ rfl w9.heap.size _ _ rfl own10 (some ⟨b, o + (k + 1) * 5, none⟩) _ _ D10 rfl HLN.out hdr (fun e => by cases e) hle11 hsz10 ?_; refine Hid.out ?_)
          refine Lib.hid ?_
          intro v12 w12 own12 g12
          obtain ⟨a12, c12, rfl, k12, hR12, hB12⟩ := HFin.out v12 w12 own12 g12
          have hk3 := k12.c0; have hf3 := k12.f 0
          generalize hRR : A10 ++ D10 = RR at *
          have HRR := HLS
          clear hRR
          generalize hNN : RR.length = NN at *
          have HNN := Lib.hid hNN
          clear hNN
          have rr0 := (k12.set (a' := a12) (n' := NN) (c' := c12)).c0
          have HF := Lib.hid (And.intro hR12 hB12)
          clear hR12 hB12 own12 g12 k12 own10 HFin c0 hat10
          go_wp2
          exact bodyPost_ret (v := .tuple #[.agg #[.slice a12 NN c12], .bool true, .int .i64 0]) (by simp [results, Try.results25, go_sem, rr0]) rfl ⟨a12, c12, by rw [← HRR.out, HNN.out, HQ.out.2.1, HQ.out.2.2], by rw [← HRR.out]; exact HF.out.1, HF.out.2⟩

end Go.Proofs.Ytkbonifbnbdbkab
