/-
  What an act does to both: who is watched, who is heard.
-/
import Derived.Test.YtnoconampcemoaaO15
import Derived.Deep.Cut
namespace Go.Proofs.Ytnoconampcemoaa
open Go Go.RowKit

set_option maxRecDepth 20000 in
set_option maxHeartbeats 16000000 in
theorem pbdo_watch (W w : World) (B b d : Nat) (P : Pb) (T : Tb) (R : Pb) (U : Tb) (now : Int) (a : Option Addr) (n c : Nat) (x : Option Addr) (y z : Nat) (h : WSt W w B b d P T R U now a n c x y z) (q : Ax) (hk : q.k % 5 = 3) (hm : 0 ≤ q.m.n ∧ 0 ≤ q.m.s) :
    Calls Try.prog 11 #[.pointer (some ⟨B, 0, none⟩), .agg #[.int .u8 (q.k : Int), .int .u8 (q.y : Int), .int .u32 (q.d : Int), .int .u16 q.m.n, .int .u8 q.m.s, .int .i64 q.m.i, .int .i64 q.s]] w fun e w' => ∃ a' n' c', e = .returned (.bool true) ∧ WSt W w' B b d (watchP P q.m now) T (watchP R q.m now) U now a' n' c' x y z := by
  have k5 : ((q.k : Int)).tmod 5 = 3 := by rw [Int.tmod_eq_emod_of_nonneg (by omega)]; omega
  have k6 : (q.k : Int) % 5 = 3 := by omega
  have hX : AxB (w.alloc (.cells #[.int .u8 (q.k : Int), .int .u8 (q.y : Int), .int .u32 (q.d : Int), .int .u16 q.m.n, .int .u8 q.m.s, .int .i64 q.m.i, .int .i64 q.s] 45)) w.heap.size q := newE w _
  have hS1 := h.on ((Below.refl w.heap.size w).alloc (Nat.le_refl _) (.cells #[.int .u8 (q.k : Int), .int .u8 (q.y : Int), .int .u32 (q.d : Int), .int .u16 q.m.n, .int .u8 q.m.s, .int .i64 q.m.i, .int .i64 q.s] 45))
  obtain ⟨hB, hb, hd⟩ := h.lt
  have HM := Lib.hid hm
  clear h hk hm
  go_enter Try.func11, Try.ntmps11
  have kc : (w.alloc (.cells #[.int .u8 (q.k : Int), .int .u8 (q.y : Int), .int .u32 (q.d : Int), .int .u16 q.m.n, .int .u8 q.m.s, .int .i64 q.m.i, .int .i64 q.s] 45)).cell? ⟨w.heap.size, 0, none⟩ = some (.int .u8 (q.k : Int)) := hX.row.c0
  go_upto_region 8 with fail
  clear kc
  generalize w.alloc (.cells #[.int .u8 (q.k : Int), .int .u8 (q.y : Int), .int .u32 (q.d : Int), .int .u16 q.m.n, .int .u8 q.m.s, .int .i64 q.m.i, .int .i64 q.s] 45) = X at *
  have hXB : w.heap.size ≠ B := by omega
  have hXb : w.heap.size ≠ b := by omega
  have hXd : w.heap.size ≠ d := by omega
  generalize w.heap.size = x0 at *
  have HS1 := Lib.hid hS1
  have HX := Lib.hid hX
  clear hX hS1 hB hb hd k5 k6
  have HC : Hid (∀ u, Grown2 X u b d → WdAt u B b d R a n c (U.s : Int) x y z now ∧ AxRow u x0 0 q) := Lib.hid (fun u g => ⟨(HS1.out.blk.of (g.block B HS1.out.blk.lt HS1.out.nb HS1.out.nd)).at, (HX.out.of (g.block x0 (ltE HX.out) hXb hXd)).row⟩)
  have HW := Lib.hid (pbWatch_any b P q.m HM.out.1 now X.drew HS1.out.st.pb)
  refine wp_region_any (by kernel_rfl) ?_
  change wpAny _ _ _ _ _ _ _ (World.drew _)
  have hS : (fun w' : World => Grown2 X w' b d) X.drew := ⟨rfl, rfl, rfl, Nat.le_refl _, fun _ _ _ _ => rfl⟩
  refine wpAny_of_held (S := fun w' => Grown2 X w' b d) _ _ _ _ ?_
  refine wpAnyH_takeE (i := 0) (some 51) (v := ?_) rfl rfl (by as_aux_lemma => kernel_rfl) (by as_aux_lemma => kernel_rfl) (by as_aux_lemma => kernel_rfl) (fun _ _ _ h => h) (Or.inl ⟨by kernel_rfl, ?_⟩) hS ?_
  rotate_left
  · intro w hSw; obtain ⟨w0, a0⟩ := HC.out _ hSw; have p0 := w0.p0; have pn := w0.now; have a3 := a0.c3; have a4 := a0.c4; have a5 := a0.c5; clear w0 a0; go_simp
    first | done | with_reducible rfl
  refine wpAnyH_takeE (i := 1) (some 52) (v := ?_) rfl rfl (by as_aux_lemma => kernel_rfl) (by as_aux_lemma => kernel_rfl) (by as_aux_lemma => kernel_rfl) (fun _ _ _ h => h) (Or.inl ⟨by kernel_rfl, ?_⟩) hS ?_
  rotate_left
  · intro w hSw; obtain ⟨w0, a0⟩ := HC.out _ hSw; have p0 := w0.p0; have pn := w0.now; have a3 := a0.c3; have a4 := a0.c4; have a5 := a0.c5; clear w0 a0; go_simp
    first | done | with_reducible rfl
  refine wpAnyH_takeE (i := 2) (some 53) (v := ?_) rfl rfl (by as_aux_lemma => kernel_rfl) (by as_aux_lemma => kernel_rfl) (by as_aux_lemma => kernel_rfl) (fun _ _ _ h => h) (Or.inl ⟨by kernel_rfl, ?_⟩) hS ?_
  rotate_left
  · intro w hSw; obtain ⟨w0, a0⟩ := HC.out _ hSw; have p0 := w0.p0; have pn := w0.now; have a3 := a0.c3; have a4 := a0.c4; have a5 := a0.c5; clear w0 a0; go_simp
    first | done | with_reducible rfl
  refine wpAnyH_takeE (i := 3) (some 54) (v := ?_) rfl rfl (by as_aux_lemma => kernel_rfl) (by as_aux_lemma => kernel_rfl) (by as_aux_lemma => kernel_rfl) (fun _ _ _ h => h) (Or.inl ⟨by kernel_rfl, ?_⟩) hS ?_
  rotate_left
  · intro w hSw; obtain ⟨w0, a0⟩ := HC.out _ hSw; have p0 := w0.p0; have pn := w0.now; have a3 := a0.c3; have a4 := a0.c4; have a5 := a0.c5; clear w0 a0; go_simp
    first | done | with_reducible rfl
  refine wpAnyH_takeE (i := 4) (some 55) (v := ?_) rfl rfl (by as_aux_lemma => kernel_rfl) (by as_aux_lemma => kernel_rfl) (by as_aux_lemma => kernel_rfl) (fun _ _ _ h => h) (Or.inl ⟨by kernel_rfl, ?_⟩) hS ?_
  rotate_left
  · intro w hSw; obtain ⟨w0, a0⟩ := HC.out _ hSw; have p0 := w0.p0; have pn := w0.now; have a3 := a0.c3; have a4 := a0.c4; have a5 := a0.c5; clear w0 a0; go_simp
    first | done | with_reducible rfl
  refine wpAnyH_takeE (i := 5) (some 56) (v := ?_) rfl rfl (by as_aux_lemma => kernel_rfl) (by as_aux_lemma => kernel_rfl) (by as_aux_lemma => kernel_rfl) (fun _ _ _ h => h) (Or.inl ⟨by kernel_rfl, ?_⟩) hS ?_
  rotate_left
  · intro w hSw; obtain ⟨w0, a0⟩ := HC.out _ hSw; have p0 := w0.p0; have pn := w0.now; have a3 := a0.c3; have a4 := a0.c4; have a5 := a0.c5; clear w0 a0; go_simp
    first | done | with_reducible rfl
  refine wpAnyH_takeE (i := 6) (some 57) (v := ?_) rfl rfl (by as_aux_lemma => kernel_rfl) (by as_aux_lemma => kernel_rfl) (by as_aux_lemma => kernel_rfl) (fun _ _ _ h => h) (Or.inl ⟨by kernel_rfl, ?_⟩) hS ?_
  rotate_left
  · intro w hSw; obtain ⟨w0, a0⟩ := HC.out _ hSw; have p0 := w0.p0; have pn := w0.now; have a3 := a0.c3; have a4 := a0.c4; have a5 := a0.c5; clear w0 a0; go_simp
    first | done | with_reducible rfl
  refine wpAnyH_takeE (i := 7) (some 58) (v := ?_) rfl rfl (by as_aux_lemma => kernel_rfl) (by as_aux_lemma => kernel_rfl) (by as_aux_lemma => kernel_rfl) (fun _ _ _ h => h) (Or.inl ⟨by kernel_rfl, ?_⟩) hS ?_
  rotate_left
  · intro w hSw; obtain ⟨w0, a0⟩ := HC.out _ hSw; have p0 := w0.p0; have pn := w0.now; have a3 := a0.c3; have a4 := a0.c4; have a5 := a0.c5; clear w0 a0; go_simp
    first | done | with_reducible rfl
  refine wpAnyH_takeE (i := 8) (some 59) (v := ?_) rfl rfl (by as_aux_lemma => kernel_rfl) (by as_aux_lemma => kernel_rfl) (by as_aux_lemma => kernel_rfl) (fun _ _ _ h => h) (Or.inl ⟨by kernel_rfl, ?_⟩) hS ?_
  rotate_left
  · intro w hSw; obtain ⟨w0, a0⟩ := HC.out _ hSw; have p0 := w0.p0; have pn := w0.now; have a3 := a0.c3; have a4 := a0.c4; have a5 := a0.c5; clear w0 a0; go_simp
    first | done | with_reducible rfl
  refine wpAnyH_takeE (i := 9) (some 60) (v := ?_) rfl rfl (by as_aux_lemma => kernel_rfl) (by as_aux_lemma => kernel_rfl) (by as_aux_lemma => kernel_rfl) (fun _ _ _ h => h) (Or.inl ⟨by kernel_rfl, ?_⟩) hS ?_
  rotate_left
  · intro w hSw; obtain ⟨w0, a0⟩ := HC.out _ hSw; have p0 := w0.p0; have pn := w0.now; have a3 := a0.c3; have a4 := a0.c4; have a5 := a0.c5; clear w0 a0; go_simp
    first | done | with_reducible rfl
  refine wpAnyH_ready (rs := [10]) (by as_aux_lemma => kernel_rfl) (by simp) ?_
  refine AllReadyH.cons rfl (fun K hK => ?_) AllReadyH.nil
  go_simp
  go_wp2_with (go_at_call 16; refine HW.out.mono ?_; rintro e w2 ⟨rfl, p2, g2⟩; replace p2 := Lib.hid p2; replace g2 := Lib.hid g2)
  refine hK.out _ _ ?_ (fun hS => ?_)
  · exact hS.trans (Grown2.one g2.out)
  clear hK K
  refine wpAnyH_done (by kernel_rfl) ?_ _
  have HS2 : Hid (WSt W w2 B b d (watchP P q.m now) T R U now a n c x y z) := Lib.hid (HS1.out.prog hS ((HS1.out.st.on ((Below.refl _ X).drew)).probe (HS1.out.st.pok.watch _ _) p2.out g2.out))
  have HX2 : Hid (AxB w2 x0 q) := Lib.hid (HX.out.of (hS.block x0 (ltE HX.out) hXb hXd))
  clear HS1 HX HC HW p2 g2 hS
  go_upto_region 9 with fail
  have HR := Lib.hid (fun u (hu : WdsAt u a (wdL R)) => pqWatch_any R a n c q.m HM.out.1 now u hu HS2.out.wn)
  obtain ⟨rp, rq, r0, r1, r2, r3, r4, r5, r6, r7, r8, r9, -, -, rn⟩ := HS2.out.blk.at
  have rf := HS2.out.blk.f
  have hlt := HS2.out.lt
  refine wp_region_any (by kernel_rfl) ?_
  change wpAny _ _ _ _ _ _ _ (World.drew _)
  have hS : (fun w' : World => w'.cell? ⟨B, 14, none⟩ = some (.int .i64 now) ∧ AxRow w' x0 0 q) w2.drew := ⟨HS2.out.blk.at.now, AxB.row (show AxB w2.drew x0 q from HX2.out)⟩
  refine wpAny_of_held (S := fun w' => w'.cell? ⟨B, 14, none⟩ = some (.int .i64 now) ∧ AxRow w' x0 0 q) _ _ _ _ ?_
  refine wpAnyH_takeE (i := 0) (some 62) (v := ?_) rfl rfl (by as_aux_lemma => kernel_rfl) (by as_aux_lemma => kernel_rfl) (by as_aux_lemma => kernel_rfl) (fun _ _ _ h => h) (Or.inl ⟨by kernel_rfl, ?_⟩) hS ?_
  rotate_left
  · intro w hSw; obtain ⟨pn, a0⟩ := hSw; have a3 := a0.c3; have a4 := a0.c4; have a5 := a0.c5; clear a0; go_simp
    first | done | with_reducible rfl
  refine wpAnyH_takeE (i := 1) (some 63) (v := ?_) rfl rfl (by as_aux_lemma => kernel_rfl) (by as_aux_lemma => kernel_rfl) (by as_aux_lemma => kernel_rfl) (fun _ _ _ h => h) (Or.inl ⟨by kernel_rfl, ?_⟩) hS ?_
  rotate_left
  · intro w hSw; obtain ⟨pn, a0⟩ := hSw; have a3 := a0.c3; have a4 := a0.c4; have a5 := a0.c5; clear a0; go_simp
    first | done | with_reducible rfl
  refine wpAnyH_takeE (i := 2) (some 64) (v := ?_) rfl rfl (by as_aux_lemma => kernel_rfl) (by as_aux_lemma => kernel_rfl) (by as_aux_lemma => kernel_rfl) (fun _ _ _ h => h) (Or.inl ⟨by kernel_rfl, ?_⟩) hS ?_
  rotate_left
  · intro w hSw; obtain ⟨pn, a0⟩ := hSw; have a3 := a0.c3; have a4 := a0.c4; have a5 := a0.c5; clear a0; go_simp
    first | done | with_reducible rfl
  refine wpAnyH_takeE (i := 3) (some 65) (v := ?_) rfl rfl (by as_aux_lemma => kernel_rfl) (by as_aux_lemma => kernel_rfl) (by as_aux_lemma => kernel_rfl) (fun _ _ _ h => h) (Or.inl ⟨by kernel_rfl, ?_⟩) hS ?_
  rotate_left
  · intro w hSw; obtain ⟨pn, a0⟩ := hSw; have a3 := a0.c3; have a4 := a0.c4; have a5 := a0.c5; clear a0; go_simp
    first | done | with_reducible rfl
  refine wpAnyH_takeE (i := 5) (some 67) (v := ?_) rfl rfl (by as_aux_lemma => kernel_rfl) (by as_aux_lemma => kernel_rfl) (by as_aux_lemma => kernel_rfl) (fun _ _ _ h => h) (Or.inl ⟨by kernel_rfl, ?_⟩) hS ?_
  rotate_left
  · intro w hSw; obtain ⟨pn, a0⟩ := hSw; have a3 := a0.c3; have a4 := a0.c4; have a5 := a0.c5; clear a0; go_simp
    first | done | with_reducible rfl
  refine wpAnyH_takeE (i := 6) (some 68) (v := ?_) rfl rfl (by as_aux_lemma => kernel_rfl) (by as_aux_lemma => kernel_rfl) (by as_aux_lemma => kernel_rfl) (fun _ _ _ h => h) (Or.inl ⟨by kernel_rfl, ?_⟩) hS ?_
  rotate_left
  · intro w hSw; obtain ⟨pn, a0⟩ := hSw; have a3 := a0.c3; have a4 := a0.c4; have a5 := a0.c5; clear a0; go_simp
    first | done | with_reducible rfl
  refine wpAnyH_takeE (i := 7) (some 69) (v := ?_) rfl rfl (by as_aux_lemma => kernel_rfl) (by as_aux_lemma => kernel_rfl) (by as_aux_lemma => kernel_rfl) (fun _ _ _ h => h) (Or.inl ⟨by kernel_rfl, ?_⟩) hS ?_
  rotate_left
  · intro w hSw; obtain ⟨pn, a0⟩ := hSw; have a3 := a0.c3; have a4 := a0.c4; have a5 := a0.c5; clear a0; go_simp
    first | done | with_reducible rfl
  refine wpAnyH_takeE (i := 8) (some 70) (v := ?_) rfl rfl (by as_aux_lemma => kernel_rfl) (by as_aux_lemma => kernel_rfl) (by as_aux_lemma => kernel_rfl) (fun _ _ _ h => h) (Or.inl ⟨by kernel_rfl, ?_⟩) hS ?_
  rotate_left
  · intro w hSw; obtain ⟨pn, a0⟩ := hSw; have a3 := a0.c3; have a4 := a0.c4; have a5 := a0.c5; clear a0; go_simp
    first | done | with_reducible rfl
  refine wpAnyH_takeE (i := 9) (some 71) (v := ?_) rfl rfl (by as_aux_lemma => kernel_rfl) (by as_aux_lemma => kernel_rfl) (by as_aux_lemma => kernel_rfl) (fun _ _ _ h => h) (Or.inl ⟨by kernel_rfl, ?_⟩) hS ?_
  rotate_left
  · intro w hSw; obtain ⟨pn, a0⟩ := hSw; have a3 := a0.c3; have a4 := a0.c4; have a5 := a0.c5; clear a0; go_simp
    first | done | with_reducible rfl
  refine wpAnyH_takeE (i := 10) (some 72) (v := ?_) rfl rfl (by as_aux_lemma => kernel_rfl) (by as_aux_lemma => kernel_rfl) (by as_aux_lemma => kernel_rfl) (fun _ _ _ h => h) (Or.inl ⟨by kernel_rfl, ?_⟩) hS ?_
  rotate_left
  · intro w hSw; obtain ⟨pn, a0⟩ := hSw; have a3 := a0.c3; have a4 := a0.c4; have a5 := a0.c5; clear a0; go_simp
    first | done | with_reducible rfl
  refine wpAnyH_ready (rs := [4]) (by as_aux_lemma => kernel_rfl) (by simp) ?_
  refine AllReadyH.cons rfl (fun K hK => ?_) AllReadyH.nil
  go_simp
  refine hK.out _ _ hS (fun hS => ?_)
  clear hK K
  refine wpAnyH_ready (rs := [11]) (by as_aux_lemma => kernel_rfl) (by simp) ?_
  refine AllReadyH.cons rfl (fun K hK => ?_) AllReadyH.nil
  go_simp
  go_wp2_with (go_at_call 27; refine (HR.out w2.drew (show WdsAt w2.drew a (wdL R) from HS2.out.wl)).mono ?_; rintro e w3 ⟨a', n', c', rfl, hn', hl', ho', q3⟩; replace hn' := Lib.hid hn'; replace hl' := Lib.hid hl'; replace ho' := Lib.hid ho'; replace q3 := Lib.hid q3)
  have HS3 : Hid (WSt W w3 B b d (watchP P q.m now) T R U now a n c x y z) := Lib.hid (HS2.out.on (show Below w2.heap.size w2 w3 from ⟨q3.out.os, q3.out.tape, q3.out.output, q3.out.size, q3.out.block⟩))
  have HX3 : Hid (AxB w3 x0 q) := Lib.hid (HX2.out.of (q3.out.block x0 (ltE HX2.out)))
  refine hK.out _ _ ⟨HS3.out.blk.at.now, HX3.out.row⟩ (fun hS => ?_)
  clear hK K
  refine wpAnyH_takeE (i := 12) (some 74) (v := ?_) rfl rfl (by as_aux_lemma => kernel_rfl) (by as_aux_lemma => kernel_rfl) (by as_aux_lemma => kernel_rfl) (fun _ _ _ h => h) (Or.inl ⟨by kernel_rfl, ?_⟩) hS ?_
  rotate_left
  · intro w hSw; skip; go_simp
    first | done | with_reducible rfl
  refine wpAnyH_takeE (i := 13) (some 75) (v := ?_) rfl rfl (by as_aux_lemma => kernel_rfl) (by as_aux_lemma => kernel_rfl) (by as_aux_lemma => kernel_rfl) (fun _ _ _ h => h) (Or.inl ⟨by kernel_rfl, ?_⟩) hS ?_
  rotate_left
  · intro w hSw; skip; go_simp
    first | done | with_reducible rfl
  have HE : Hid (WSt W (stWR w3 B (watchP R q.m now) a' n' c') B b d (watchP P q.m now) T (watchP R q.m now) U now a' n' c' x y z) := Lib.hid (HS3.out.storeR (HS3.out.rok.watch _ _) hl'.out hn'.out (HS3.out.wo.fresh (w := w2) hlt.1 hlt.2.1 hlt.2.2 ho'.out))
  have HXE : Hid (AxRow (stWR w3 B (watchP R q.m now) a' n' c') x0 0 q) := Lib.hid (HX3.out.row.kept (stWR_grown _ _ _ _ _ _) hXB)
  obtain ⟨-, -, t0, t1, t2, t3, t4, t5, t6, t7, t8, t9, -⟩ := HS3.out.blk.at
  have tf := HS3.out.blk.f
  clear rp rq r0 r1 r2 r3 r4 r5 r6 r7 r8 r9 rn rf hlt HR HS2 HX2 HS3 HX3 hn' hl' ho' q3
  unfold rV
  refine wpAnyH_ready (rs := [14]) (by as_aux_lemma => kernel_rfl) (by simp) ?_
  refine AllReadyH.cons rfl (fun K hK => ?_) AllReadyH.nil
  go_simp
  refine hK.out _ _ ⟨HE.out.blk.at.now, HXE.out⟩ (fun hS => ?_)
  clear hK K t0 t1 t2 t3 t4 t5 t6 t7 t8 t9 tf
  refine wpAnyH_done (by kernel_rfl) ?_ _
  go_wp2
  go_ret
  exact ⟨a', n', c', rfl, HE.out⟩
set_option maxRecDepth 20000 in
set_option maxHeartbeats 16000000 in
theorem pbdo_hear (W w : World) (B b d : Nat) (P : Pb) (T : Tb) (R : Pb) (U : Tb) (now : Int) (a : Option Addr) (n c : Nat) (x : Option Addr) (y z : Nat) (h : WSt W w B b d P T R U now a n c x y z) (q : Ax) (hk : q.k % 5 = 4) (hm : 0 ≤ q.m.n ∧ 0 ≤ q.m.s) :
    Calls Try.prog 11 #[.pointer (some ⟨B, 0, none⟩), .agg #[.int .u8 (q.k : Int), .int .u8 (q.y : Int), .int .u32 (q.d : Int), .int .u16 q.m.n, .int .u8 q.m.s, .int .i64 q.m.i, .int .i64 q.s]] w fun e w' => ∃ x' y' z', e = .returned (.bool true) ∧ WSt W w' B b d P (hearB T q.m) R (hearB U q.m) now a n c x' y' z' := by
  have k5 : ((q.k : Int)).tmod 5 = 4 := by rw [Int.tmod_eq_emod_of_nonneg (by omega)]; omega
  have k6 : (q.k : Int) % 5 = 4 := by omega
  have hX : AxB (w.alloc (.cells #[.int .u8 (q.k : Int), .int .u8 (q.y : Int), .int .u32 (q.d : Int), .int .u16 q.m.n, .int .u8 q.m.s, .int .i64 q.m.i, .int .i64 q.s] 45)) w.heap.size q := newE w _
  have hS1 := h.on ((Below.refl w.heap.size w).alloc (Nat.le_refl _) (.cells #[.int .u8 (q.k : Int), .int .u8 (q.y : Int), .int .u32 (q.d : Int), .int .u16 q.m.n, .int .u8 q.m.s, .int .i64 q.m.i, .int .i64 q.s] 45))
  obtain ⟨hB, hb, hd⟩ := h.lt
  have HM := Lib.hid hm
  clear h hk hm
  go_enter Try.func11, Try.ntmps11
  have kc : (w.alloc (.cells #[.int .u8 (q.k : Int), .int .u8 (q.y : Int), .int .u32 (q.d : Int), .int .u16 q.m.n, .int .u8 q.m.s, .int .i64 q.m.i, .int .i64 q.s] 45)).cell? ⟨w.heap.size, 0, none⟩ = some (.int .u8 (q.k : Int)) := hX.row.c0
  go_upto_region 12 with fail
  clear kc
  generalize w.alloc (.cells #[.int .u8 (q.k : Int), .int .u8 (q.y : Int), .int .u32 (q.d : Int), .int .u16 q.m.n, .int .u8 q.m.s, .int .i64 q.m.i, .int .i64 q.s] 45) = X at *
  have hXB : w.heap.size ≠ B := by omega
  have hXb : w.heap.size ≠ b := by omega
  have hXd : w.heap.size ≠ d := by omega
  generalize w.heap.size = x0 at *
  have HS1 := Lib.hid hS1
  have HX := Lib.hid hX
  clear hX hS1 hB hb hd k5 k6
  have HC : Hid (∀ u, Grown2 X u b d → WdAt u B b d R a n c (U.s : Int) x y z now ∧ AxRow u x0 0 q) := Lib.hid (fun u g => ⟨(HS1.out.blk.of (g.block B HS1.out.blk.lt HS1.out.nb HS1.out.nd)).at, (HX.out.of (g.block x0 (ltE HX.out) hXb hXd)).row⟩)
  have HW := Lib.hid (bHear_any d T q.m HM.out.1 X.drew HS1.out.st.tab)
  refine wp_region_any (by kernel_rfl) ?_
  change wpAny _ _ _ _ _ _ _ (World.drew _)
  have hS : (fun w' : World => Grown2 X w' b d) X.drew := ⟨rfl, rfl, rfl, Nat.le_refl _, fun _ _ _ _ => rfl⟩
  refine wpAny_of_held (S := fun w' => Grown2 X w' b d) _ _ _ _ ?_
  refine wpAnyH_takeE (i := 0) (some 78) (v := ?_) rfl rfl (by as_aux_lemma => kernel_rfl) (by as_aux_lemma => kernel_rfl) (by as_aux_lemma => kernel_rfl) (fun _ _ _ h => h) (Or.inl ⟨by kernel_rfl, ?_⟩) hS ?_
  rotate_left
  · intro w hSw; obtain ⟨w0, a0⟩ := HC.out _ hSw; have p1 := w0.p1; have a3 := a0.c3; have a4 := a0.c4; have a5 := a0.c5; clear w0 a0; go_simp
    first | done | with_reducible rfl
  refine wpAnyH_takeE (i := 1) (some 79) (v := ?_) rfl rfl (by as_aux_lemma => kernel_rfl) (by as_aux_lemma => kernel_rfl) (by as_aux_lemma => kernel_rfl) (fun _ _ _ h => h) (Or.inl ⟨by kernel_rfl, ?_⟩) hS ?_
  rotate_left
  · intro w hSw; obtain ⟨w0, a0⟩ := HC.out _ hSw; have p1 := w0.p1; have a3 := a0.c3; have a4 := a0.c4; have a5 := a0.c5; clear w0 a0; go_simp
    first | done | with_reducible rfl
  refine wpAnyH_takeE (i := 2) (some 80) (v := ?_) rfl rfl (by as_aux_lemma => kernel_rfl) (by as_aux_lemma => kernel_rfl) (by as_aux_lemma => kernel_rfl) (fun _ _ _ h => h) (Or.inl ⟨by kernel_rfl, ?_⟩) hS ?_
  rotate_left
  · intro w hSw; obtain ⟨w0, a0⟩ := HC.out _ hSw; have p1 := w0.p1; have a3 := a0.c3; have a4 := a0.c4; have a5 := a0.c5; clear w0 a0; go_simp
    first | done | with_reducible rfl
  refine wpAnyH_takeE (i := 3) (some 81) (v := ?_) rfl rfl (by as_aux_lemma => kernel_rfl) (by as_aux_lemma => kernel_rfl) (by as_aux_lemma => kernel_rfl) (fun _ _ _ h => h) (Or.inl ⟨by kernel_rfl, ?_⟩) hS ?_
  rotate_left
  · intro w hSw; obtain ⟨w0, a0⟩ := HC.out _ hSw; have p1 := w0.p1; have a3 := a0.c3; have a4 := a0.c4; have a5 := a0.c5; clear w0 a0; go_simp
    first | done | with_reducible rfl
  refine wpAnyH_takeE (i := 4) (some 82) (v := ?_) rfl rfl (by as_aux_lemma => kernel_rfl) (by as_aux_lemma => kernel_rfl) (by as_aux_lemma => kernel_rfl) (fun _ _ _ h => h) (Or.inl ⟨by kernel_rfl, ?_⟩) hS ?_
  rotate_left
  · intro w hSw; obtain ⟨w0, a0⟩ := HC.out _ hSw; have p1 := w0.p1; have a3 := a0.c3; have a4 := a0.c4; have a5 := a0.c5; clear w0 a0; go_simp
    first | done | with_reducible rfl
  refine wpAnyH_takeE (i := 5) (some 83) (v := ?_) rfl rfl (by as_aux_lemma => kernel_rfl) (by as_aux_lemma => kernel_rfl) (by as_aux_lemma => kernel_rfl) (fun _ _ _ h => h) (Or.inl ⟨by kernel_rfl, ?_⟩) hS ?_
  rotate_left
  · intro w hSw; obtain ⟨w0, a0⟩ := HC.out _ hSw; have p1 := w0.p1; have a3 := a0.c3; have a4 := a0.c4; have a5 := a0.c5; clear w0 a0; go_simp
    first | done | with_reducible rfl
  refine wpAnyH_ready (rs := [6]) (by as_aux_lemma => kernel_rfl) (by simp) ?_
  refine AllReadyH.cons rfl (fun K hK => ?_) AllReadyH.nil
  go_simp
  go_wp2_with (go_at_call 20; refine HW.out.mono ?_; rintro e w2 ⟨rfl, t2, g2⟩; replace t2 := Lib.hid t2; replace g2 := Lib.hid g2)
  refine hK.out _ _ ?_ (fun hS => ?_)
  · exact hS.trans (Grown2.two g2.out)
  clear hK K
  refine wpAnyH_done (by kernel_rfl) ?_ _
  have HS2 : Hid (WSt W w2 B b d P (hearB T q.m) R U now a n c x y z) := Lib.hid (HS1.out.prog hS ((HS1.out.st.on ((Below.refl _ X).drew)).table (hearB_ok HS1.out.st.tok HM.out.1 HM.out.2) t2.out g2.out))
  have HX2 : Hid (AxB w2 x0 q) := Lib.hid (HX.out.of (hS.block x0 (ltE HX.out) hXb hXd))
  clear HS1 HX HC HW t2 g2 hS
  go_upto_region 13 with fail
  have HR := Lib.hid (brHear_any x y z U HS2.out.uok q.m HM.out.1 w2.drew (show MemsAt w2.drew x (memsB U) from HS2.out.ul) HS2.out.un)
  obtain ⟨-, -, -, -, -, -, -, -, -, -, -, -, u0, u1, -⟩ := HS2.out.blk.at
  have rf := HS2.out.blk.f
  have hlt := HS2.out.lt
  refine wp_region_any (by kernel_rfl) ?_
  change wpAny _ _ _ _ _ _ _ (World.drew _)
  have hS : (fun w' : World => w'.cell? ⟨B, 14, none⟩ = some (.int .i64 now) ∧ AxRow w' x0 0 q) w2.drew := ⟨HS2.out.blk.at.now, AxB.row (show AxB w2.drew x0 q from HX2.out)⟩
  refine wpAny_of_held (S := fun w' => w'.cell? ⟨B, 14, none⟩ = some (.int .i64 now) ∧ AxRow w' x0 0 q) _ _ _ _ ?_
  refine wpAnyH_takeE (i := 0) (some 86) (v := ?_) rfl rfl (by as_aux_lemma => kernel_rfl) (by as_aux_lemma => kernel_rfl) (by as_aux_lemma => kernel_rfl) (fun _ _ _ h => h) (Or.inl ⟨by kernel_rfl, ?_⟩) hS ?_
  rotate_left
  · intro w hSw; obtain ⟨pn, a0⟩ := hSw; have a3 := a0.c3; have a4 := a0.c4; have a5 := a0.c5; clear a0; go_simp
    first | done | with_reducible rfl
  refine wpAnyH_takeE (i := 1) (some 87) (v := ?_) rfl rfl (by as_aux_lemma => kernel_rfl) (by as_aux_lemma => kernel_rfl) (by as_aux_lemma => kernel_rfl) (fun _ _ _ h => h) (Or.inl ⟨by kernel_rfl, ?_⟩) hS ?_
  rotate_left
  · intro w hSw; obtain ⟨pn, a0⟩ := hSw; have a3 := a0.c3; have a4 := a0.c4; have a5 := a0.c5; clear a0; go_simp
    first | done | with_reducible rfl
  refine wpAnyH_takeE (i := 2) (some 88) (v := ?_) rfl rfl (by as_aux_lemma => kernel_rfl) (by as_aux_lemma => kernel_rfl) (by as_aux_lemma => kernel_rfl) (fun _ _ _ h => h) (Or.inl ⟨by kernel_rfl, ?_⟩) hS ?_
  rotate_left
  · intro w hSw; obtain ⟨pn, a0⟩ := hSw; have a3 := a0.c3; have a4 := a0.c4; have a5 := a0.c5; clear a0; go_simp
    first | done | with_reducible rfl
  refine wpAnyH_takeE (i := 3) (some 89) (v := ?_) rfl rfl (by as_aux_lemma => kernel_rfl) (by as_aux_lemma => kernel_rfl) (by as_aux_lemma => kernel_rfl) (fun _ _ _ h => h) (Or.inl ⟨by kernel_rfl, ?_⟩) hS ?_
  rotate_left
  · intro w hSw; obtain ⟨pn, a0⟩ := hSw; have a3 := a0.c3; have a4 := a0.c4; have a5 := a0.c5; clear a0; go_simp
    first | done | with_reducible rfl
  refine wpAnyH_takeE (i := 5) (some 91) (v := ?_) rfl rfl (by as_aux_lemma => kernel_rfl) (by as_aux_lemma => kernel_rfl) (by as_aux_lemma => kernel_rfl) (fun _ _ _ h => h) (Or.inl ⟨by kernel_rfl, ?_⟩) hS ?_
  rotate_left
  · intro w hSw; obtain ⟨pn, a0⟩ := hSw; have a3 := a0.c3; have a4 := a0.c4; have a5 := a0.c5; clear a0; go_simp
    first | done | with_reducible rfl
  refine wpAnyH_takeE (i := 6) (some 92) (v := ?_) rfl rfl (by as_aux_lemma => kernel_rfl) (by as_aux_lemma => kernel_rfl) (by as_aux_lemma => kernel_rfl) (fun _ _ _ h => h) (Or.inl ⟨by kernel_rfl, ?_⟩) hS ?_
  rotate_left
  · intro w hSw; obtain ⟨pn, a0⟩ := hSw; have a3 := a0.c3; have a4 := a0.c4; have a5 := a0.c5; clear a0; go_simp
    first | done | with_reducible rfl
  refine wpAnyH_ready (rs := [4]) (by as_aux_lemma => kernel_rfl) (by simp) ?_
  refine AllReadyH.cons rfl (fun K hK => ?_) AllReadyH.nil
  go_simp
  refine hK.out _ _ hS (fun hS => ?_)
  clear hK K
  refine wpAnyH_ready (rs := [7]) (by as_aux_lemma => kernel_rfl) (by simp) ?_
  refine AllReadyH.cons rfl (fun K hK => ?_) AllReadyH.nil
  go_simp
  go_wp2_with (go_at_call 28; refine HR.out.mono ?_; rintro e w3 ⟨x', y', z', rfl, hn', hl', ho', q3⟩; replace hn' := Lib.hid hn'; replace hl' := Lib.hid hl'; replace ho' := Lib.hid ho'; replace q3 := Lib.hid q3)
  have HS3 : Hid (WSt W w3 B b d P (hearB T q.m) R U now a n c x y z) := Lib.hid (HS2.out.on (show Below w2.heap.size w2 w3 from ⟨q3.out.os, q3.out.tape, q3.out.output, q3.out.size, q3.out.block⟩))
  have HX3 : Hid (AxB w3 x0 q) := Lib.hid (HX2.out.of (q3.out.block x0 (ltE HX2.out)))
  refine hK.out _ _ ⟨HS3.out.blk.at.now, HX3.out.row⟩ (fun hS => ?_)
  clear hK K
  refine wpAnyH_takeE (i := 8) (some 85) (v := ?_) rfl rfl (by as_aux_lemma => kernel_rfl) (by as_aux_lemma => kernel_rfl) (by as_aux_lemma => kernel_rfl) (fun _ _ _ h => h) (Or.inl ⟨by kernel_rfl, ?_⟩) hS ?_
  rotate_left
  · intro w hSw; skip; go_simp
    first | done | with_reducible rfl
  refine wpAnyH_takeE (i := 9) (some 94) (v := ?_) rfl rfl (by as_aux_lemma => kernel_rfl) (by as_aux_lemma => kernel_rfl) (by as_aux_lemma => kernel_rfl) (fun _ _ _ h => h) (Or.inl ⟨by kernel_rfl, ?_⟩) hS ?_
  rotate_left
  · intro w hSw; skip; go_simp
    first | done | with_reducible rfl
  refine wpAnyH_takeE (i := 10) (some 95) (v := ?_) rfl rfl (by as_aux_lemma => kernel_rfl) (by as_aux_lemma => kernel_rfl) (by as_aux_lemma => kernel_rfl) (fun _ _ _ h => h) (Or.inl ⟨by kernel_rfl, ?_⟩) hS ?_
  rotate_left
  · intro w hSw; skip; go_simp
    first | done | with_reducible rfl
  refine wpAnyH_takeE (i := 11) (some 96) (v := ?_) rfl rfl (by as_aux_lemma => kernel_rfl) (by as_aux_lemma => kernel_rfl) (by as_aux_lemma => kernel_rfl) (fun _ _ _ h => h) (Or.inl ⟨by kernel_rfl, ?_⟩) hS ?_
  rotate_left
  · intro w hSw; skip; go_simp
    first | done | with_reducible rfl
  refine wpAnyH_takeE (i := 12) (some 97) (v := ?_) rfl rfl (by as_aux_lemma => kernel_rfl) (by as_aux_lemma => kernel_rfl) (by as_aux_lemma => kernel_rfl) (fun _ _ _ h => h) (Or.inl ⟨by kernel_rfl, ?_⟩) hS ?_
  rotate_left
  · intro w hSw; skip; go_simp
    first | done | with_reducible rfl
  refine wpAnyH_takeE (i := 13) (some 98) (v := ?_) rfl rfl (by as_aux_lemma => kernel_rfl) (by as_aux_lemma => kernel_rfl) (by as_aux_lemma => kernel_rfl) (fun _ _ _ h => h) (Or.inl ⟨by kernel_rfl, ?_⟩) hS ?_
  rotate_left
  · intro w hSw; skip; go_simp
    first | done | with_reducible rfl
  have HE : Hid (WSt W (stWU w3 B (U.s : Int) x' y' z') B b d P (hearB T q.m) R (hearB U q.m) now a n c x' y' z') := Lib.hid (by have := HS3.out.storeU (x' := x') (y' := y') (z' := z') (hearB_ok HS3.out.uok HM.out.1 HM.out.2) hl'.out hn'.out (HS3.out.uo.fresh (w := w2) hlt.1 hlt.2.1 hlt.2.2 ho'.out); rwa [hearB_s] at this)
  have HXE : Hid (AxRow (stWU w3 B (U.s : Int) x' y' z') x0 0 q) := Lib.hid (HX3.out.row.kept (stWU_grown _ _ _ _ _ _) hXB)
  obtain ⟨-, -, -, -, -, -, -, -, -, -, -, -, t0, t1, -⟩ := HS3.out.blk.at
  have tf := HS3.out.blk.f
  clear u0 u1 rf hlt HR HS2 HX2 HS3 HX3 hn' hl' ho' q3
  refine wpAnyH_ready (rs := [14]) (by as_aux_lemma => kernel_rfl) (by simp) ?_
  refine AllReadyH.cons rfl (fun K hK => ?_) AllReadyH.nil
  go_simp
  refine hK.out _ _ ⟨HE.out.blk.at.now, HXE.out⟩ (fun hS => ?_)
  clear hK K t0 t1 tf
  refine wpAnyH_done (by kernel_rfl) ?_ _
  go_wp2
  go_ret
  exact ⟨x', y', z', rfl, HE.out⟩
/-- What every order of a region ends in. -/
def Ends1 (A : Nat → Act) (F : Nat → World → Prop) : Exit → Act → World → Prop
  | .normal, a, w => ∃ b, a = A b ∧ F b w
  | _, _, _ => False
theorem code_join1 {P : Program} {c : Code} {Q : Exit → Act → World → Prop} {a : Act} {w : World} (F : Nat → World → Prop) (A : Nat → Act) (hR : c.wp P (Ends1 A F) a w) (hT : ∀ b w, F b w → Q .normal (A b) w) : c.wp P Q a w :=
  Code.wp_mono (fun e a w h => by
    cases e with
    | normal =>
      obtain ⟨b, rfl, hF⟩ := h
      exact hT b w hF
    | _ => exact h.elim) hR
theorem ackP_wd (P : Pb) (q s : Int) : wdL (ackP P q s) = wdL P := by
  unfold ackP
  split <;> rfl
set_option maxRecDepth 20000 in
set_option maxHeartbeats 16000000 in
theorem pbdo_ack (W w : World) (B b d : Nat) (P : Pb) (T : Tb) (R : Pb) (U : Tb) (now : Int) (a : Option Addr) (n c : Nat) (x : Option Addr) (y z : Nat) (h : WSt W w B b d P T R U now a n c x y z) (q : Ax) (hk : q.k % 5 = 2) (hm : 0 ≤ q.m.n ∧ 0 ≤ q.m.s) :
    Calls Try.prog 11 #[.pointer (some ⟨B, 0, none⟩), .agg #[.int .u8 (q.k : Int), .int .u8 (q.y : Int), .int .u32 (q.d : Int), .int .u16 q.m.n, .int .u8 q.m.s, .int .i64 q.m.i, .int .i64 q.s]] w fun e w' => e = .returned (.bool (ackB P q.m.n q.s == ackB R q.m.n q.s)) ∧ WSt W w' B b d (ackP P q.m.n q.s) T (ackP R q.m.n q.s) U now a n c x y z := by
  have k5 : ((q.k : Int)).tmod 5 = 2 := by rw [Int.tmod_eq_emod_of_nonneg (by omega)]; omega
  have k6 : (q.k : Int) % 5 = 2 := by omega
  have hX : AxB (w.alloc (.cells #[.int .u8 (q.k : Int), .int .u8 (q.y : Int), .int .u32 (q.d : Int), .int .u16 q.m.n, .int .u8 q.m.s, .int .i64 q.m.i, .int .i64 q.s] 45)) w.heap.size q := newE w _
  have hS1 := h.on ((Below.refl w.heap.size w).alloc (Nat.le_refl _) (.cells #[.int .u8 (q.k : Int), .int .u8 (q.y : Int), .int .u32 (q.d : Int), .int .u16 q.m.n, .int .u8 q.m.s, .int .i64 q.m.i, .int .i64 q.s] 45))
  obtain ⟨hB, hb, hd⟩ := h.lt
  have HM := Lib.hid hm
  clear h hk hm
  go_enter Try.func11, Try.ntmps11
  have kc : (w.alloc (.cells #[.int .u8 (q.k : Int), .int .u8 (q.y : Int), .int .u32 (q.d : Int), .int .u16 q.m.n, .int .u8 q.m.s, .int .i64 q.m.i, .int .i64 q.s] 45)).cell? ⟨w.heap.size, 0, none⟩ = some (.int .u8 (q.k : Int)) := hX.row.c0
  go_upto_region 3 with fail
  clear kc
  generalize w.alloc (.cells #[.int .u8 (q.k : Int), .int .u8 (q.y : Int), .int .u32 (q.d : Int), .int .u16 q.m.n, .int .u8 q.m.s, .int .i64 q.m.i, .int .i64 q.s] 45) = X at *
  have hXB : w.heap.size ≠ B := by omega
  have hXb : w.heap.size ≠ b := by omega
  have hXd : w.heap.size ≠ d := by omega
  generalize w.heap.size = x0 at *
  have HS1 := Lib.hid hS1
  have HX := Lib.hid hX
  clear hX hS1 hB hb hd k5 k6
  have HC : Hid (∀ u, Grown2 X u b d → WdAt u B b d R a n c (U.s : Int) x y z now ∧ AxRow u x0 0 q) := Lib.hid (fun u g => ⟨(HS1.out.blk.of (g.block B HS1.out.blk.lt HS1.out.nb HS1.out.nd)).at, (HX.out.of (g.block x0 (ltE HX.out) hXb hXd)).row⟩)
  have HW := Lib.hid (pbAck_any b P q.m.n q.s X.drew HS1.out.st.pb)
  refine wp_region_any (by kernel_rfl) ?_
  change wpAny _ _ _ _ _ _ _ (World.drew _)
  have hS : (fun w' : World => Grown2 X w' b d) X.drew := ⟨rfl, rfl, rfl, Nat.le_refl _, fun _ _ _ _ => rfl⟩
  refine wpAny_of_held (S := fun w' => Grown2 X w' b d) _ _ _ _ ?_
  refine wpAnyH_takeE (i := 0) (some 19) (v := ?_) rfl rfl (by as_aux_lemma => kernel_rfl) (by as_aux_lemma => kernel_rfl) (by as_aux_lemma => kernel_rfl) (fun _ _ _ h => h) (Or.inl ⟨by kernel_rfl, ?_⟩) hS ?_
  rotate_left
  · intro w hSw; obtain ⟨w0, a0⟩ := HC.out _ hSw; have p0 := w0.p0; have a3 := a0.c3; have a6 := a0.c6; clear w0 a0; go_simp
    first | done | with_reducible rfl
  refine wpAnyH_takeE (i := 1) (some 20) (v := ?_) rfl rfl (by as_aux_lemma => kernel_rfl) (by as_aux_lemma => kernel_rfl) (by as_aux_lemma => kernel_rfl) (fun _ _ _ h => h) (Or.inl ⟨by kernel_rfl, ?_⟩) hS ?_
  rotate_left
  · intro w hSw; obtain ⟨w0, a0⟩ := HC.out _ hSw; have p0 := w0.p0; have a3 := a0.c3; have a6 := a0.c6; clear w0 a0; go_simp
    first | done | with_reducible rfl
  refine wpAnyH_takeE (i := 2) (some 21) (v := ?_) rfl rfl (by as_aux_lemma => kernel_rfl) (by as_aux_lemma => kernel_rfl) (by as_aux_lemma => kernel_rfl) (fun _ _ _ h => h) (Or.inl ⟨by kernel_rfl, ?_⟩) hS ?_
  rotate_left
  · intro w hSw; obtain ⟨w0, a0⟩ := HC.out _ hSw; have p0 := w0.p0; have a3 := a0.c3; have a6 := a0.c6; clear w0 a0; go_simp
    first | done | with_reducible rfl
  refine wpAnyH_takeE (i := 3) (some 22) (v := ?_) rfl rfl (by as_aux_lemma => kernel_rfl) (by as_aux_lemma => kernel_rfl) (by as_aux_lemma => kernel_rfl) (fun _ _ _ h => h) (Or.inl ⟨by kernel_rfl, ?_⟩) hS ?_
  rotate_left
  · intro w hSw; obtain ⟨w0, a0⟩ := HC.out _ hSw; have p0 := w0.p0; have a3 := a0.c3; have a6 := a0.c6; clear w0 a0; go_simp
    first | done | with_reducible rfl
  refine wpAnyH_takeE (i := 4) (some 23) (v := ?_) rfl rfl (by as_aux_lemma => kernel_rfl) (by as_aux_lemma => kernel_rfl) (by as_aux_lemma => kernel_rfl) (fun _ _ _ h => h) (Or.inl ⟨by kernel_rfl, ?_⟩) hS ?_
  rotate_left
  · intro w hSw; obtain ⟨w0, a0⟩ := HC.out _ hSw; have p0 := w0.p0; have a3 := a0.c3; have a6 := a0.c6; clear w0 a0; go_simp
    first | done | with_reducible rfl
  refine wpAnyH_takeE (i := 5) (some 24) (v := ?_) rfl rfl (by as_aux_lemma => kernel_rfl) (by as_aux_lemma => kernel_rfl) (by as_aux_lemma => kernel_rfl) (fun _ _ _ h => h) (Or.inl ⟨by kernel_rfl, ?_⟩) hS ?_
  rotate_left
  · intro w hSw; obtain ⟨w0, a0⟩ := HC.out _ hSw; have p0 := w0.p0; have a3 := a0.c3; have a6 := a0.c6; clear w0 a0; go_simp
    first | done | with_reducible rfl
  refine wpAnyH_takeE (i := 6) (some 25) (v := ?_) rfl rfl (by as_aux_lemma => kernel_rfl) (by as_aux_lemma => kernel_rfl) (by as_aux_lemma => kernel_rfl) (fun _ _ _ h => h) (Or.inl ⟨by kernel_rfl, ?_⟩) hS ?_
  rotate_left
  · intro w hSw; obtain ⟨w0, a0⟩ := HC.out _ hSw; have p0 := w0.p0; have a3 := a0.c3; have a6 := a0.c6; clear w0 a0; go_simp
    first | done | with_reducible rfl
  refine wpAnyH_takeE (i := 7) (some 26) (v := ?_) rfl rfl (by as_aux_lemma => kernel_rfl) (by as_aux_lemma => kernel_rfl) (by as_aux_lemma => kernel_rfl) (fun _ _ _ h => h) (Or.inl ⟨by kernel_rfl, ?_⟩) hS ?_
  rotate_left
  · intro w hSw; obtain ⟨w0, a0⟩ := HC.out _ hSw; have p0 := w0.p0; have a3 := a0.c3; have a6 := a0.c6; clear w0 a0; go_simp
    first | done | with_reducible rfl
  refine wpAnyH_takeE (i := 8) (some 27) (v := ?_) rfl rfl (by as_aux_lemma => kernel_rfl) (by as_aux_lemma => kernel_rfl) (by as_aux_lemma => kernel_rfl) (fun _ _ _ h => h) (Or.inl ⟨by kernel_rfl, ?_⟩) hS ?_
  rotate_left
  · intro w hSw; obtain ⟨w0, a0⟩ := HC.out _ hSw; have p0 := w0.p0; have a3 := a0.c3; have a6 := a0.c6; clear w0 a0; go_simp
    first | done | with_reducible rfl
  refine wpAnyH_ready (rs := [9]) (by as_aux_lemma => kernel_rfl) (by simp) ?_
  refine AllReadyH.cons rfl (fun K hK => ?_) AllReadyH.nil
  go_simp
  go_wp2_with (go_at_call 18; refine HW.out.mono ?_; rintro e w2 ⟨rfl, p2, g2⟩; replace p2 := Lib.hid p2; replace g2 := Lib.hid g2)
  refine hK.out _ _ ?_ (fun hS => ?_)
  · exact hS.trans (Grown2.one g2.out)
  clear hK K
  refine wpAnyH_takeE (i := 10) (some 5) (v := ?_) rfl rfl (by as_aux_lemma => kernel_rfl) (by as_aux_lemma => kernel_rfl) (by as_aux_lemma => kernel_rfl) (fun _ _ _ h => h) (Or.inl ⟨by kernel_rfl, ?_⟩) hS ?_
  rotate_left
  · intro w hSw; skip; go_simp
    first | done | with_reducible rfl
  refine wpAnyH_done (by kernel_rfl) ?_ _
  have HS2 : Hid (WSt W w2 B b d (ackP P q.m.n q.s) T R U now a n c x y z) := Lib.hid (HS1.out.prog hS ((HS1.out.st.on ((Below.refl _ X).drew)).probe (HS1.out.st.pok.ack _ _) p2.out g2.out))
  have HX2 : Hid (AxB w2 x0 q) := Lib.hid (HX.out.of (hS.block x0 (ltE HX.out) hXb hXd))
  clear HS1 HX HC HW p2 g2 hS
  go_upto_region 4 with fail
  have HC : Hid (∀ u, Below w2.heap.size w2 u → WdAt u B b d R a n c (U.s : Int) x y z now ∧ AxRow u x0 0 q) := Lib.hid (fun u g => ⟨(HS2.out.blk.on g).at, (HX2.out.of (g.block x0 (ltE HX2.out))).row⟩)
  have HR := Lib.hid (fun u => pqAck_any R a n c q.m.n q.s u)
  have kz : ∀ w, (zeroValue 32).run Try.prog w = .ok (.agg (rV noP none 0 0)) w := fun w => by kernel_rfl
  apply code_join1 (fun b6 w' => RqB w' b6 (ackP R q.m.n q.s) a n c ∧ w2.heap.size ≤ b6 ∧ Below w2.heap.size w2 w')
  · skip
    refine wp_region_any (by kernel_rfl) ?_
    change wpAny _ _ _ _ _ _ _ (World.drew _)
    have hS : (fun w' : World => Below w2.heap.size w2 w') w2.drew := (Below.refl _ w2).drew
    refine wpAny_of_held (S := fun w' => Below w2.heap.size w2 w') _ _ _ _ ?_
    refine wpAnyH_takeE (i := 0) (some 30) (v := ?_) rfl rfl (by as_aux_lemma => kernel_rfl) (by as_aux_lemma => kernel_rfl) (by as_aux_lemma => kernel_rfl) (fun _ _ _ h => h) (Or.inl ⟨by kernel_rfl, ?_⟩) hS ?_
    rotate_left
    · intro w hSw; obtain ⟨w0, a0⟩ := HC.out _ hSw; obtain ⟨-, -, r0, r1, r2, r3, r4, r5, r6, r7, r8, r9, -, -, -⟩ := w0; have a3 := a0.c3; have a6 := a0.c6; clear a0; go_simp
      first | done | with_reducible rfl
    refine wpAnyH_takeE (i := 1) (some 31) (v := ?_) rfl rfl (by as_aux_lemma => kernel_rfl) (by as_aux_lemma => kernel_rfl) (by as_aux_lemma => kernel_rfl) (fun _ _ _ h => h) (Or.inl ⟨by kernel_rfl, ?_⟩) hS ?_
    rotate_left
    · intro w hSw; obtain ⟨w0, a0⟩ := HC.out _ hSw; obtain ⟨-, -, r0, r1, r2, r3, r4, r5, r6, r7, r8, r9, -, -, -⟩ := w0; have a3 := a0.c3; have a6 := a0.c6; clear a0; go_simp
      first | done | with_reducible rfl
    refine wpAnyH_takeE (i := 2) (some 32) (v := ?_) rfl rfl (by as_aux_lemma => kernel_rfl) (by as_aux_lemma => kernel_rfl) (by as_aux_lemma => kernel_rfl) (fun _ _ _ h => h) (Or.inl ⟨by kernel_rfl, ?_⟩) hS ?_
    rotate_left
    · intro w hSw; obtain ⟨w0, a0⟩ := HC.out _ hSw; obtain ⟨-, -, r0, r1, r2, r3, r4, r5, r6, r7, r8, r9, -, -, -⟩ := w0; have a3 := a0.c3; have a6 := a0.c6; clear a0; go_simp
      first | done | with_reducible rfl
    refine wpAnyH_takeE (i := 3) (some 33) (v := ?_) rfl rfl (by as_aux_lemma => kernel_rfl) (by as_aux_lemma => kernel_rfl) (by as_aux_lemma => kernel_rfl) (fun _ _ _ h => h) (Or.inl ⟨by kernel_rfl, ?_⟩) hS ?_
    rotate_left
    · intro w hSw; obtain ⟨w0, a0⟩ := HC.out _ hSw; obtain ⟨-, -, r0, r1, r2, r3, r4, r5, r6, r7, r8, r9, -, -, -⟩ := w0; have a3 := a0.c3; have a6 := a0.c6; clear a0; go_simp
      first | done | with_reducible rfl
    refine wpAnyH_takeE (i := 4) (some 34) (v := ?_) rfl rfl (by as_aux_lemma => kernel_rfl) (by as_aux_lemma => kernel_rfl) (by as_aux_lemma => kernel_rfl) (fun _ _ _ h => h) (Or.inl ⟨by kernel_rfl, ?_⟩) hS ?_
    rotate_left
    · intro w hSw; obtain ⟨w0, a0⟩ := HC.out _ hSw; obtain ⟨-, -, r0, r1, r2, r3, r4, r5, r6, r7, r8, r9, -, -, -⟩ := w0; have a3 := a0.c3; have a6 := a0.c6; clear a0; go_simp
      first | done | with_reducible rfl
    refine wpAnyH_takeE (i := 5) (some 35) (v := ?_) rfl rfl (by as_aux_lemma => kernel_rfl) (by as_aux_lemma => kernel_rfl) (by as_aux_lemma => kernel_rfl) (fun _ _ _ h => h) (Or.inl ⟨by kernel_rfl, ?_⟩) hS ?_
    rotate_left
    · intro w hSw; obtain ⟨w0, a0⟩ := HC.out _ hSw; obtain ⟨-, -, r0, r1, r2, r3, r4, r5, r6, r7, r8, r9, -, -, -⟩ := w0; have a3 := a0.c3; have a6 := a0.c6; clear a0; go_simp
      first | done | with_reducible rfl
    refine wpAnyH_takeE (i := 6) (some 36) (v := ?_) rfl rfl (by as_aux_lemma => kernel_rfl) (by as_aux_lemma => kernel_rfl) (by as_aux_lemma => kernel_rfl) (fun _ _ _ h => h) (Or.inl ⟨by kernel_rfl, ?_⟩) hS ?_
    rotate_left
    · intro w hSw; obtain ⟨w0, a0⟩ := HC.out _ hSw; obtain ⟨-, -, r0, r1, r2, r3, r4, r5, r6, r7, r8, r9, -, -, -⟩ := w0; have a3 := a0.c3; have a6 := a0.c6; clear a0; go_simp
      first | done | with_reducible rfl
    refine wpAnyH_takeE (i := 7) (some 37) (v := ?_) rfl rfl (by as_aux_lemma => kernel_rfl) (by as_aux_lemma => kernel_rfl) (by as_aux_lemma => kernel_rfl) (fun _ _ _ h => h) (Or.inl ⟨by kernel_rfl, ?_⟩) hS ?_
    rotate_left
    · intro w hSw; obtain ⟨w0, a0⟩ := HC.out _ hSw; obtain ⟨-, -, r0, r1, r2, r3, r4, r5, r6, r7, r8, r9, -, -, -⟩ := w0; have a3 := a0.c3; have a6 := a0.c6; clear a0; go_simp
      first | done | with_reducible rfl
    refine wpAnyH_takeE (i := 8) (some 38) (v := ?_) rfl rfl (by as_aux_lemma => kernel_rfl) (by as_aux_lemma => kernel_rfl) (by as_aux_lemma => kernel_rfl) (fun _ _ _ h => h) (Or.inl ⟨by kernel_rfl, ?_⟩) hS ?_
    rotate_left
    · intro w hSw; obtain ⟨w0, a0⟩ := HC.out _ hSw; obtain ⟨-, -, r0, r1, r2, r3, r4, r5, r6, r7, r8, r9, -, -, -⟩ := w0; have a3 := a0.c3; have a6 := a0.c6; clear a0; go_simp
      first | done | with_reducible rfl
    refine wpAnyH_ready (rs := [9, 13]) (by as_aux_lemma => kernel_rfl) (by simp) ?_
    refine AllReadyH.cons rfl (fun K hK => ?_) (AllReadyH.cons rfl (fun K hK => ?_) AllReadyH.nil)
    · skip
      go_simp
      go_wp2_with (go_at_call 26; refine (HR.out _).mono ?_; rintro e w3 ⟨rfl, q3⟩; replace q3 := Lib.hid q3)
      refine hK.out _ _ (hS.trans (q3.out.mono hS.size)) (fun hS => ?_)
      clear hK K
      refine wpAnyH_takeE (i := 10) (some 29) (v := ?_) rfl rfl (by as_aux_lemma => kernel_rfl) (by as_aux_lemma => kernel_rfl) (by as_aux_lemma => kernel_rfl) (fun _ _ _ h => h) (Or.inl ⟨by kernel_rfl, ?_⟩) hS ?_
      rotate_left
      · intro w hSw; skip; go_simp
        first | done | with_reducible rfl
      refine wpAnyH_takeE (i := 11) (some 40) (v := ?_) rfl rfl (by as_aux_lemma => kernel_rfl) (by as_aux_lemma => kernel_rfl) (by as_aux_lemma => kernel_rfl) (fun _ _ _ h => h) (Or.inl ⟨by kernel_rfl, ?_⟩) hS ?_
      rotate_left
      · intro w hSw; skip; go_simp
        first | done | with_reducible rfl
      refine wpAnyH_takeE (i := 12) (some 41) (v := ?_) rfl rfl (by as_aux_lemma => kernel_rfl) (by as_aux_lemma => kernel_rfl) (by as_aux_lemma => kernel_rfl) (fun _ _ _ h => h) (Or.inl ⟨by kernel_rfl, ?_⟩) hS ?_
      rotate_left
      · intro w hSw; skip; go_simp
        first | done | with_reducible rfl
      have rb : RqB (w3.alloc (.cells (rV noP none 0 0) 32)) w3.heap.size noP none 0 0 := RqB.new w3 noP none 0 0
      have dX := (Below.refl w3.heap.size w3).alloc (Nat.le_refl _) (.cells (rV noP none 0 0) 32)
      have hbx : w2.heap.size ≤ w3.heap.size := hS.size
      refine wpAnyH_ready (rs := [13]) (by as_aux_lemma => kernel_rfl) (by simp) ?_
      refine AllReadyH.cons rfl (fun K hK => ?_) AllReadyH.nil
      go_simp
      refine hK.out _ _ (hS.trans (dX.mono hS.size)) (fun hS => ?_)
      clear hK K dX
      generalize w3.alloc (.cells (rV noP none 0 0) 32) = u4 at *
      generalize w3.heap.size = b6 at *
      have zf := rb.f
      obtain ⟨z0, z1, z2, z3, z4, z5, z6, z7, z8, z9⟩ := rb.at
      have HE : Hid (RqB (stV u4 b6 (ackP R q.m.n q.s) a n c) b6 (ackP R q.m.n q.s) a n c ∧ Below w2.heap.size w2 (stV u4 b6 (ackP R q.m.n q.s) a n c)) := Lib.hid ⟨rb.store _ _ _ _, hS.trans (below_of_grownBy (stV_grown _ _ _ _ _ _) hbx hS.size)⟩
      have HBx := Lib.hid hbx
      clear rb hbx
      unfold rV
      refine wpAnyH_ready (rs := [14]) (by as_aux_lemma => kernel_rfl) (by simp) ?_
      refine AllReadyH.cons rfl (fun K hK => ?_) AllReadyH.nil
      go_simp
      refine hK.out _ _ HE.out.2 (fun hS => ?_)
      clear hK K z0 z1 z2 z3 z4 z5 z6 z7 z8 z9 zf
      refine wpAnyH_takeE (i := 15) (some 7) (v := ?_) rfl rfl (by as_aux_lemma => kernel_rfl) (by as_aux_lemma => kernel_rfl) (by as_aux_lemma => kernel_rfl) (fun _ _ _ h => h) (Or.inl ⟨by kernel_rfl, ?_⟩) hS ?_
      rotate_left
      · intro w hSw; skip; go_simp
        first | done | with_reducible rfl
      refine wpAnyH_done (by kernel_rfl) ?_ _
      exact ⟨b6, rfl, HE.out.1, HBx.out, HE.out.2⟩
    · skip
      go_simp
      have rb : RqB (w2.alloc (.cells (rV noP none 0 0) 32)).drew w2.heap.size noP none 0 0 := RqB.new w2 noP none 0 0
      have dX : Below w2.heap.size w2 (w2.alloc (.cells (rV noP none 0 0) 32)).drew := ((Below.refl w2.heap.size w2).alloc (Nat.le_refl _) (.cells (rV noP none 0 0) 32)).drew
      refine hK.out _ _ dX (fun hS => ?_)
      clear hK K dX
      have hbx : w2.heap.size ≤ w2.heap.size := Nat.le_refl _
      generalize (w2.alloc (.cells (rV noP none 0 0) 32)).drew = u3 at *
      refine wpAnyH_ready (rs := [9]) (by as_aux_lemma => kernel_rfl) (by simp) ?_
      refine AllReadyH.cons rfl (fun K hK => ?_) AllReadyH.nil
      go_simp
      go_wp2_with (go_at_call 26; refine (HR.out _).mono ?_; rintro e u4 ⟨rfl, q3⟩; replace q3 := Lib.hid q3)
      refine hK.out _ _ (hS.trans (q3.out.mono hS.size)) (fun hS => ?_)
      clear hK K
      replace rb := rb.on q3.out
      refine wpAnyH_takeE (i := 10) (some 29) (v := ?_) rfl rfl (by as_aux_lemma => kernel_rfl) (by as_aux_lemma => kernel_rfl) (by as_aux_lemma => kernel_rfl) (fun _ _ _ h => h) (Or.inl ⟨by kernel_rfl, ?_⟩) hS ?_
      rotate_left
      · intro w hSw; skip; go_simp
        first | done | with_reducible rfl
      refine wpAnyH_takeE (i := 11) (some 40) (v := ?_) rfl rfl (by as_aux_lemma => kernel_rfl) (by as_aux_lemma => kernel_rfl) (by as_aux_lemma => kernel_rfl) (fun _ _ _ h => h) (Or.inl ⟨by kernel_rfl, ?_⟩) hS ?_
      rotate_left
      · intro w hSw; skip; go_simp
        first | done | with_reducible rfl
      refine wpAnyH_takeE (i := 12) (some 41) (v := ?_) rfl rfl (by as_aux_lemma => kernel_rfl) (by as_aux_lemma => kernel_rfl) (by as_aux_lemma => kernel_rfl) (fun _ _ _ h => h) (Or.inl ⟨by kernel_rfl, ?_⟩) hS ?_
      rotate_left
      · intro w hSw; skip; go_simp
        first | done | with_reducible rfl
      have zf := rb.f
      obtain ⟨z0, z1, z2, z3, z4, z5, z6, z7, z8, z9⟩ := rb.at
      have HE : Hid (RqB (stV u4 w2.heap.size (ackP R q.m.n q.s) a n c) w2.heap.size (ackP R q.m.n q.s) a n c ∧ Below w2.heap.size w2 (stV u4 w2.heap.size (ackP R q.m.n q.s) a n c)) := Lib.hid ⟨rb.store _ _ _ _, hS.trans (below_of_grownBy (stV_grown _ _ _ _ _ _) hbx hS.size)⟩
      have HBx := Lib.hid hbx
      clear rb hbx
      unfold rV
      refine wpAnyH_ready (rs := [14]) (by as_aux_lemma => kernel_rfl) (by simp) ?_
      refine AllReadyH.cons rfl (fun K hK => ?_) AllReadyH.nil
      go_simp
      refine hK.out _ _ HE.out.2 (fun hS => ?_)
      clear hK K z0 z1 z2 z3 z4 z5 z6 z7 z8 z9 zf
      refine wpAnyH_takeE (i := 15) (some 7) (v := ?_) rfl rfl (by as_aux_lemma => kernel_rfl) (by as_aux_lemma => kernel_rfl) (by as_aux_lemma => kernel_rfl) (fun _ _ _ h => h) (Or.inl ⟨by kernel_rfl, ?_⟩) hS ?_
      rotate_left
      · intro w hSw; skip; go_simp
        first | done | with_reducible rfl
      refine wpAnyH_done (by kernel_rfl) ?_ _
      exact ⟨w2.heap.size, rfl, HE.out.1, HBx.out, HE.out.2⟩
  · intro b6 w3 ⟨hb6, hlt6, hb3⟩
    have HS3 := Lib.hid (HS2.out.on hb3)
    have HE : Hid (WSt W (stWR w3 B (ackP R q.m.n q.s) a n c) B b d (ackP P q.m.n q.s) T (ackP R q.m.n q.s) U now a n c x y z) := Lib.hid (HS3.out.storeR (HS3.out.rok.ack _ _) (by have := HS3.out.wl; rwa [ackP_wd]) (by have := HS3.out.wn; rwa [ackP_wd]) HS3.out.wo)
    obtain ⟨z0, z1, z2, z3, z4, z5, z6, z7, z8, z9⟩ := hb6.at
    obtain ⟨-, -, t0, t1, t2, t3, t4, t5, t6, t7, t8, t9, -⟩ := HS3.out.blk.at
    have tf := HS3.out.blk.f
    clear HS3 HS2 HX2 HC HR hb6 hlt6 hb3 kz
    go_wp2
    go_ret
    exact ⟨rfl, HE.out⟩

end Go.Proofs.Ytnoconampcemoaa
