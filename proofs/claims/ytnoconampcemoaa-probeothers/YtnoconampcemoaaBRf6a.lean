/-
  The reference of layer 15: Hear, walked: what is news (none).
-/
import Derived.Test.YtnoconampcemoaaBRf5
namespace Go.Proofs.Ytnoconampcemoaa
open Go Go.RowKit


set_option maxRecDepth 20000 in
set_option maxHeartbeats 8000000 in
theorem brHear_none_other (a : Option Addr) (n c : Nat) (T : Tb) (hok : TbOk T) (k : Nat) (ms mi : Int) (w : World) (hM : MemsAt w a (memsB T)) (hn : n = (memsB T).length) (hmay : mayM ⟨(k : Int), ms, mi⟩ = true) (hf : T.f k = none) (hne : k ≠ T.s) :
    Calls Try.prog 28 #[.agg #[.int .u16 (T.s : Int), .slice a n c], .agg #[.int .u16 (k : Int), .int .u8 ms, .int .i64 mi]] w (HearRPost a T ⟨(k : Int), ms, mi⟩ w) := by
  have hlt : k < 64 := by have := ((mayM_iff _).1 hmay).1; dsimp only at this; omega
  have hyes : newsB T ⟨(k : Int), ms, mi⟩ = true := by unfold newsB; rw [hmay]; dsimp only; rw [Int.toNat_natCast, hf]; rfl
  have hX : saidM T ⟨(k : Int), ms, mi⟩ = ⟨(k : Int), ms, mi⟩ := by unfold saidM; rw [if_neg (by show ¬ (k : Int) = (T.s : Int); omega)]
  have hne1 : ((k : Int) == (T.s : Int)) = false := by simp; omega
  have HMw := Lib.hid hM
  have HHr : Hid (memsB (hearB T ⟨(k : Int), ms, mi⟩) = setGo ⟨(k : Int), ms, mi⟩ (memsB T) false) := Lib.hid (by rw [hearR_yes hyes, hX]; exact (setGo_mems hok (m := ⟨(k : Int), ms, mi⟩) (by dsimp only; omega) (by dsimp only; omega)).symm)
  have HNw : Hid (heardM T ⟨(k : Int), ms, mi⟩ = ⟨(k : Int), ms, mi⟩ ∧ newsB T ⟨(k : Int), ms, mi⟩ = true) := Lib.hid ⟨by unfold heardM; rw [if_pos hyes, hX], hyes⟩
  have hat : atT T k = zM := by unfold atT; rw [hf]; rfl
  have his : (T.f k).isSome = false := by rw [hf]; rfl
  have HAt := Lib.hid hat
  have HIs := Lib.hid his
  clear hf hat his hX hyes hlt
  have e1 := (Below.refl w.heap.size w).alloc (Nat.le_refl _) (.cells #[.int .u16 (T.s : Int), .slice a n c] 35)
  have e2 := e1.alloc (by simp) (.cells #[.int .u16 (k : Int), .int .u8 ms, .int .i64 mi] 43)
  have e3 := e2.alloc (by simp; omega) (.cells #[.int .u16 0, .slice none 0 0] 35)
  have e4 := e3.alloc (by simp; omega) (.cells #[.int .u16 0, .int .u8 0, .int .i64 0] 43)
  have r2 := (((RtB.new w (T.s : Int) a n c).on ((Below.refl _ _).alloc (Nat.le_refl _) (.cells #[.int .u16 (k : Int), .int .u8 ms, .int .i64 mi] 43))).on ((Below.refl _ _).alloc (Nat.le_refl _) (.cells #[.int .u16 0, .slice none 0 0] 35))).on ((Below.refl _ _).alloc (Nat.le_refl _) (.cells #[.int .u16 0, .int .u8 0, .int .i64 0] 43))
  have b3 := ((Mb.new2 w (.cells #[.int .u16 (T.s : Int), .slice a n c] 35) ⟨(k : Int), ms, mi⟩).on ((Below.refl _ _).alloc (Nat.le_refl _) (.cells #[.int .u16 0, .slice none 0 0] 35))).on ((Below.refl _ _).alloc (Nat.le_refl _) (.cells #[.int .u16 0, .int .u8 0, .int .i64 0] 43))
  have r4 := (RtB.new ((w.alloc (.cells #[.int .u16 (T.s : Int), .slice a n c] 35)).alloc (.cells #[.int .u16 (k : Int), .int .u8 ms, .int .i64 mi] 43)) 0 none 0 0).on ((Below.refl _ _).alloc (Nat.le_refl _) (.cells #[.int .u16 0, .int .u8 0, .int .i64 0] 43))
  have b5 := Mb.new (((w.alloc (.cells #[.int .u16 (T.s : Int), .slice a n c] 35)).alloc (.cells #[.int .u16 (k : Int), .int .u8 ms, .int .i64 mi] 43)).alloc (.cells #[.int .u16 0, .slice none 0 0] 35)) zM
  have hl : (memsB T).length ≤ 64 := memsB_len T
  have hn1 : n ≤ 64 := by omega
  have HN := Lib.hid hn
  have HM := Lib.hid (hM.on e4)
  have HQ := Lib.hid (And.intro e4 (And.intro r2 (And.intro b3 (And.intro r4 b5))))
  simp only [World.size_alloc] at HQ
  have HK := Lib.hid hok
  clear hM hn e1 e2 e3 e4 r2 b3 r4 b5 hok
  unfold HearRPost
  obtain ⟨G, hG⟩ : ∃ G, G = memsB (hearB T ⟨(k : Int), ms, mi⟩) := ⟨_, rfl⟩
  rw [← hG]
  replace hG := Lib.hid hG
  skip
  go_enter Try.func28, Try.ntmps28
  go_wp2_with fail
  generalize (((w.alloc (.cells #[.int .u16 (T.s : Int), .slice a n c] 35)).alloc (.cells #[.int .u16 (k : Int), .int .u8 ms, .int .i64 mi] 43)).alloc (.cells #[.int .u16 0, .slice none 0 0] 35)).alloc (.cells #[.int .u16 0, .int .u8 0, .int .i64 0] 43) = W at *
  have HC : Hid (∀ u, Below W.heap.size W u → RtB u w.heap.size (T.s : Int) a n c ∧ Mb u (w.heap.size + 1) ⟨(k : Int), ms, mi⟩ ∧ RtB u (w.heap.size + 1 + 1) 0 none 0 0 ∧ Mb u (w.heap.size + 1 + 1 + 1) zM ∧ MemsAt u a (memsB T) ∧ Below w.heap.size w u) := Lib.hid (fun u hu => ⟨HQ.out.2.1.on hu, HQ.out.2.2.1.on hu, HQ.out.2.2.2.1.on hu, HQ.out.2.2.2.2.on hu, HM.out.on hu, HQ.out.1.trans (hu.mono HQ.out.1.size)⟩)
  have HSz2 : Hid (w.heap.size + 4 ≤ W.heap.size) := Lib.hid (by have := HQ.out.2.2.2.2.lt; omega)
  clear HQ
  obtain ⟨r2, b3, -, -, hmm, -⟩ := HC.out W (Below.refl _ _)
  have c0 := r2.c0; have c1 := r2.c1; have m0 := b3.c0
  dsimp only at m0
  obtain ⟨g, hg⟩ : ∃ g, g = atT T k := ⟨_, rfl⟩
  obtain ⟨gb, hgb⟩ : ∃ gb, gb = (T.f k).isSome := ⟨_, rfl⟩
  have HG0 := Lib.hid (brGet_any (T.s : Int) a n c (memsB T) k W hmm HN.out (by omega) g gb (by rw [getRl_mems HK.out, hg, hgb]))
  have Hg := Lib.hid hg
  have Hgb := Lib.hid hgb
  clear hg hgb r2 b3 hmm
  obtain ⟨gn, gs, gi⟩ := g
  dsimp only at HG0
  go_wp2_with (go_at_call 42; refine HG0.out.mono ?_; rintro e w1 ⟨rfl, q1⟩; replace q1 := Lib.hid q1; refine Hid.out ?_)
  refine Lib.hid ?_
  have HB1 : Hid (Below W.heap.size W (w1.alloc (.cells #[.int .u16 gn, .int .u8 gs, .int .i64 gi] 43))) := Lib.hid (q1.out.alloc q1.out.size _)
  have HY : Hid (Mb (w1.alloc (.cells #[.int .u16 gn, .int .u8 gs, .int .i64 gi] 43)) w1.heap.size ⟨gn, gs, gi⟩ ∧ W.heap.size ≤ w1.heap.size) := Lib.hid ⟨Mb.new w1 ⟨gn, gs, gi⟩, q1.out.size⟩
  clear HG0 q1 c0 c1 m0
  obtain ⟨w2, hw2⟩ : ∃ w2, w2 = w1.alloc (.cells #[.int .u16 gn, .int .u8 gs, .int .i64 gi] 43) := ⟨_, rfl⟩
  rw [← hw2] at HB1 HY
  obtain ⟨r2, b3, -, -, -, -⟩ := HC.out _ HB1.out
  have c0 := r2.c0; have c1 := r2.c1
  have m0 := b3.c0; have m1 := b3.c1; have m2 := b3.c2
  have y0 := HY.out.1.c0; have y1 := HY.out.1.c1; have y2 := HY.out.1.c2
  dsimp only at m0 m1 m2 y0 y1 y2
  clear r2 b3
  have HMay := Lib.hid (brMay_any ⟨(k : Int), ms, mi⟩ w2)
  have HAb := Lib.hid (fun u => brAbove_any ⟨(k : Int), ms, mi⟩ ⟨gn, gs, gi⟩ u)
  dsimp only at HMay HAb
  subst hw2
  rw [hmay] at HMay
  obtain rfl : gb = false := Hgb.out.trans HIs.out
  clear hmay HAb
  go_wp2_with (go_at_call 43; refine HMay.out.mono ?_; rintro e w3 ⟨rfl, q3⟩; skip; replace q3 := Lib.hid q3; refine Hid.out ?_)
  refine Lib.hid ?_
  have HB4 := Lib.hid (HB1.out.trans (q3.out.mono HB1.out.size))
  obtain ⟨r2, b3, -, -, -, -⟩ := HC.out _ HB4.out
  have n0 := b3.c0; have n1 := b3.c1; have n2 := b3.c2; have nf := b3.f; have l0 := r2.c0; have l1 := r2.c1
  dsimp only at n0 n1 n2
  clear r2 b3 HB1 q3 c0 c1 m0 m1 m2 y0 y1 y2 HMay HY
  have HV : Hid (RtB w3 w.heap.size (T.s : Int) a n c ∧ Mb w3 (w.heap.size + 1) ⟨(k : Int), ms, mi⟩ ∧ RtB w3 (w.heap.size + 1 + 1) 0 none 0 0 ∧ Mb w3 (w.heap.size + 1 + 1 + 1) zM ∧ Below w.heap.size w w3 ∧ w.heap.size + 4 ≤ w3.heap.size) := Lib.hid (by
    obtain ⟨r2, b3, r4, b5, -, hb4⟩ := HC.out _ HB4.out
    exact ⟨r2, b3, r4, b5, hb4, Nat.le_trans HSz2.out HB4.out.size⟩)
  clear HB4
  go_wp2_with fail
  generalize w3 = V at *
  clear n0 n1 n2 nf l0 l1
  have HSet := Lib.hid (fun u (hu : Below V.heap.size V u) => brset_any (T.s : Int) a n c (memsB T) (⟨(k : Int), ms, mi⟩ : Mem) u (HMw.out.on (HV.out.2.2.2.2.1.trans (hu.mono HV.out.2.2.2.2.1.size))) HN.out (by have := memsB_len T; omega))
  have HGs : Hid (G = setGo (⟨(k : Int), ms, mi⟩ : Mem) (memsB T) false) := Lib.hid (hG.out.trans HHr.out)
  dsimp only at HSet
  unfold SetPost at HSet
  rw [← HGs.out] at HSet
  have HS1 := Lib.hid (HSet.out V.drew (Below.refl _ _).drew)
  refine wp_region_any (by kernel_rfl) ?_
  change wpAny _ _ _ _ _ _ _ (World.drew _)
  have hS : (fun w' : World => RtB w' w.heap.size (T.s : Int) a n c ∧ Mb w' (w.heap.size + 1) (⟨(k : Int), ms, mi⟩ : Mem)) V.drew := ⟨HV.out.1.on ((Below.refl _ _).drew), HV.out.2.1.on ((Below.refl _ _).drew)⟩
  refine wpAny_of_held (S := fun w' => RtB w' w.heap.size (T.s : Int) a n c ∧ Mb w' (w.heap.size + 1) (⟨(k : Int), ms, mi⟩ : Mem)) _ _ _ _ ?_
  refine wpAnyH_takeE (i := 0) (some 50) (v := ?_) rfl rfl (by as_aux_lemma => kernel_rfl) (by as_aux_lemma => kernel_rfl) (by as_aux_lemma => kernel_rfl) (fun _ _ _ h => h) (Or.inl ⟨by kernel_rfl, ?_⟩) hS ?_
  rotate_left
  · intro w hSw; have c0 := hSw.1.c0; have c1 := hSw.1.c1; have m0 := hSw.2.c0; have m1 := hSw.2.c1; have m2 := hSw.2.c2; dsimp only at m0 m1 m2; go_simp
    first | done | with_reducible rfl
  refine wpAnyH_takeE (i := 1) (some 51) (v := ?_) rfl rfl (by as_aux_lemma => kernel_rfl) (by as_aux_lemma => kernel_rfl) (by as_aux_lemma => kernel_rfl) (fun _ _ _ h => h) (Or.inl ⟨by kernel_rfl, ?_⟩) hS ?_
  rotate_left
  · intro w hSw; have c0 := hSw.1.c0; have c1 := hSw.1.c1; have m0 := hSw.2.c0; have m1 := hSw.2.c1; have m2 := hSw.2.c2; dsimp only at m0 m1 m2; go_simp
    first | done | with_reducible rfl
  refine wpAnyH_takeE (i := 3) (some 53) (v := ?_) rfl rfl (by as_aux_lemma => kernel_rfl) (by as_aux_lemma => kernel_rfl) (by as_aux_lemma => kernel_rfl) (fun _ _ _ h => h) (Or.inl ⟨by kernel_rfl, ?_⟩) hS ?_
  rotate_left
  · intro w hSw; have c0 := hSw.1.c0; have c1 := hSw.1.c1; have m0 := hSw.2.c0; have m1 := hSw.2.c1; have m2 := hSw.2.c2; dsimp only at m0 m1 m2; go_simp
    first | done | with_reducible rfl
  refine wpAnyH_ready (rs := [2]) (by as_aux_lemma => kernel_rfl) (by simp) ?_
  refine AllReadyH.cons rfl (fun K hK => ?_) AllReadyH.nil
  go_simp
  go_wp2_with (go_at_call 45; refine HS1.out.mono ?_; rintro e w7 ⟨a7, n7, c7, rfl, hn7, ho7, hb7⟩; subst hn7)
  refine hK.out _ _ ?_ (fun hS => ?_)
  · exact ⟨hS.1.on hb7, hS.2.on hb7⟩
  clear hK K
  replace hb7 : Below V.heap.size V w7 := ((Below.refl V.heap.size V).drew).trans hb7
  replace ho7 : OwnMx w7 V.heap.size (.slice a7 G.length c7) G := ho7
  have r7 := HV.out.2.2.1.on hb7
  have b7 := HV.out.2.2.2.1.on hb7
  have hbw := HV.out.2.2.2.2.1.trans (hb7.mono HV.out.2.2.2.2.1.size)
  have hsv := HV.out.2.2.2.2.2
  obtain ⟨w8, hw8⟩ : ∃ w8, w8 = stR w7 (w.heap.size + 1 + 1) (T.s : Int) a7 G.length c7 := ⟨_, rfl⟩
  obtain ⟨w9, hw9⟩ : ∃ w9, w9 = stM w8 (w.heap.size + 1 + 1 + 1) (⟨(k : Int), ms, mi⟩ : Mem) := ⟨_, rfl⟩
  have HF : Hid (RtB w9 (w.heap.size + 1 + 1) (T.s : Int) a7 G.length c7 ∧ Mb w9 (w.heap.size + 1 + 1 + 1) (⟨(k : Int), ms, mi⟩ : Mem) ∧ OwnMx w9 w.heap.size (.slice a7 G.length c7) G ∧ Below w.heap.size w w9) := Lib.hid (by
    rw [hw9, hw8]
    exact ⟨(r7.store (T.s : Int) a7 G.length c7).stM (b := w.heap.size + 1 + 1 + 1) (by omega) (⟨(k : Int), ms, mi⟩ : Mem), (b7.stR (b := w.heap.size + 1 + 1) (by omega) (T.s : Int) a7 G.length c7).store (⟨(k : Int), ms, mi⟩ : Mem), (((ho7.turn (stR_grown w7 (w.heap.size + 1 + 1) (T.s : Int) a7 G.length c7) (by omega)).turn (stM_grown _ (w.heap.size + 1 + 1 + 1) (⟨(k : Int), ms, mi⟩ : Mem)) (by omega))).base (by omega), stM_below (stR_below (B := w.heap.size + 1 + 1) hbw (by omega) (T.s : Int) a7 G.length c7) (B := w.heap.size + 1 + 1 + 1) (by omega) (⟨(k : Int), ms, mi⟩ : Mem)⟩)
  have HK1 : Hid (RtB w8 w.heap.size (T.s : Int) a n c ∧ Mb w8 (w.heap.size + 1) (⟨(k : Int), ms, mi⟩ : Mem)) := Lib.hid (by
    rw [hw8]
    exact ⟨hS.1.kept (stR_grown w7 (w.heap.size + 1 + 1) (T.s : Int) a7 G.length c7) (by simp; omega), hS.2.kept (stR_grown w7 (w.heap.size + 1 + 1) (T.s : Int) a7 G.length c7) (by simp)⟩)
  have HK3 : Hid (RtB w9 w.heap.size (T.s : Int) a n c ∧ Mb w9 (w.heap.size + 1) (⟨(k : Int), ms, mi⟩ : Mem)) := Lib.hid (by
    rw [hw9]
    exact ⟨HK1.out.1.kept (stM_grown _ (w.heap.size + 1 + 1 + 1) (⟨(k : Int), ms, mi⟩ : Mem)) (by simp; omega), HK1.out.2.kept (stM_grown _ (w.heap.size + 1 + 1 + 1) (⟨(k : Int), ms, mi⟩ : Mem)) (by simp)⟩)
  have H45 : Hid (Mb w8 (w.heap.size + 1 + 1 + 1) zM) := Lib.hid (by rw [hw8]; exact b7.stR (b := w.heap.size + 1 + 1) (by omega) (T.s : Int) a7 G.length c7)
  have z0 := r7.c0; have z1 := r7.c1; have zf := r7.f
  have hw8' : w8 = (w7.setCell ⟨w.heap.size + 1 + 1, 0, none⟩ (.int .u16 (T.s : Int))).setCell ⟨w.heap.size + 1 + 1, 1, none⟩ (.slice a7 G.length c7) := hw8
  have hw9' : w9 = ((w8.setCell ⟨w.heap.size + 1 + 1 + 1, 0, none⟩ (.int .u16 ((⟨(k : Int), ms, mi⟩ : Mem)).n)).setCell ⟨w.heap.size + 1 + 1 + 1, 1, none⟩ (.int .u8 ((⟨(k : Int), ms, mi⟩ : Mem)).s)).setCell ⟨w.heap.size + 1 + 1 + 1, 2, none⟩ (.int .i64 ((⟨(k : Int), ms, mi⟩ : Mem)).i) := hw9
  dsimp only at hw9'
  replace hw8' := Lib.hid hw8'
  replace hw9' := Lib.hid hw9'
  clear r7 b7 hbw hsv ho7 hb7 hw8 hw9
  refine wpAnyH_ready (rs := [4]) (by as_aux_lemma => kernel_rfl) (by simp) ?_
  refine AllReadyH.cons rfl (fun K hK => ?_) AllReadyH.nil
  go_simp
  rw [← hw8'.out]
  refine hK.out _ _ HK1.out (fun hS => ?_)
  clear hK K z0 z1 zf
  have x0 := H45.out.c0; have x1 := H45.out.c1; have x2 := H45.out.c2; have xf := H45.out.f
  dsimp only at x0 x1 x2
  clear hw8'
  refine wpAnyH_ready (rs := [5]) (by as_aux_lemma => kernel_rfl) (by simp) ?_
  refine AllReadyH.cons rfl (fun K hK => ?_) AllReadyH.nil
  go_simp
  rw [← hw9'.out]
  refine hK.out _ _ HK3.out (fun hS => ?_)
  clear hK K x0 x1 x2 xf hw9'
  refine wpAnyH_takeE (i := 6) (some 6) (v := ?_) rfl rfl (by as_aux_lemma => kernel_rfl) (by as_aux_lemma => kernel_rfl) (by as_aux_lemma => kernel_rfl) (fun _ _ _ h => h) (Or.inl ⟨by kernel_rfl, ?_⟩) hS ?_
  rotate_left
  · intro w hSw; skip; go_simp
    first | done | with_reducible rfl
  refine wpAnyH_done (by kernel_rfl) ?_ _
  go_simp
  go_wp2
  exact bodyPost_ret (results_rt3 rfl _ _ _ _ rfl rfl HF.out.1 HF.out.2.1) rfl ⟨a7, G.length, c7, by rw [HNw.out.1, HNw.out.2]; rfl, rfl, HF.out.2.2.1.mems, fun q e => by
    obtain ⟨x, y, e2, -, h1, -⟩ := HF.out.2.2.1.form
    simp only [Value.slice.injEq] at e2
    exact .inr (h1 q (e2.1.symm.trans e)).1, HF.out.2.2.2⟩

set_option maxRecDepth 20000 in
set_option maxHeartbeats 8000000 in
theorem brHear_none_alive (a : Option Addr) (n c : Nat) (T : Tb) (hok : TbOk T) (k : Nat) (ms mi : Int) (w : World) (hM : MemsAt w a (memsB T)) (hn : n = (memsB T).length) (hmay : mayM ⟨(k : Int), ms, mi⟩ = true) (hf : T.f k = none) (hk : k = T.s) (hz : ms = 0) :
    Calls Try.prog 28 #[.agg #[.int .u16 (T.s : Int), .slice a n c], .agg #[.int .u16 (k : Int), .int .u8 ms, .int .i64 mi]] w (HearRPost a T ⟨(k : Int), ms, mi⟩ w) := by
  have hlt : k < 64 := by have := ((mayM_iff _).1 hmay).1; dsimp only at this; omega
  have hyes : newsB T ⟨(k : Int), ms, mi⟩ = true := by unfold newsB; rw [hmay]; dsimp only; rw [Int.toNat_natCast, hf]; rfl
  subst hk
  have hX : saidM T ⟨(T.s : Int), ms, mi⟩ = ⟨(T.s : Int), ms, mi⟩ := by
    unfold saidM denyM
    rw [if_pos (show (T.s : Int) = (T.s : Int) from rfl)]
    exact if_pos (.inl hz)
  subst hz
  have HMw := Lib.hid hM
  have HHr : Hid (memsB (hearB T ⟨(T.s : Int), 0, mi⟩) = setGo ⟨(T.s : Int), 0, mi⟩ (memsB T) false) := Lib.hid (by rw [hearR_yes hyes, hX]; exact (setGo_mems hok (m := ⟨(T.s : Int), 0, mi⟩) (by dsimp only; omega) (by dsimp only; omega)).symm)
  have HNw : Hid (heardM T ⟨(T.s : Int), 0, mi⟩ = ⟨(T.s : Int), 0, mi⟩ ∧ newsB T ⟨(T.s : Int), 0, mi⟩ = true) := Lib.hid ⟨by unfold heardM; rw [if_pos hyes, hX], hyes⟩
  have hat : atT T T.s = zM := by unfold atT; rw [hf]; rfl
  have his : (T.f T.s).isSome = false := by rw [hf]; rfl
  have HAt := Lib.hid hat
  have HIs := Lib.hid his
  clear hf hat his hX hyes hlt
  have e1 := (Below.refl w.heap.size w).alloc (Nat.le_refl _) (.cells #[.int .u16 (T.s : Int), .slice a n c] 35)
  have e2 := e1.alloc (by simp) (.cells #[.int .u16 (T.s : Int), .int .u8 0, .int .i64 mi] 43)
  have e3 := e2.alloc (by simp; omega) (.cells #[.int .u16 0, .slice none 0 0] 35)
  have e4 := e3.alloc (by simp; omega) (.cells #[.int .u16 0, .int .u8 0, .int .i64 0] 43)
  have r2 := (((RtB.new w (T.s : Int) a n c).on ((Below.refl _ _).alloc (Nat.le_refl _) (.cells #[.int .u16 (T.s : Int), .int .u8 0, .int .i64 mi] 43))).on ((Below.refl _ _).alloc (Nat.le_refl _) (.cells #[.int .u16 0, .slice none 0 0] 35))).on ((Below.refl _ _).alloc (Nat.le_refl _) (.cells #[.int .u16 0, .int .u8 0, .int .i64 0] 43))
  have b3 := ((Mb.new2 w (.cells #[.int .u16 (T.s : Int), .slice a n c] 35) ⟨(T.s : Int), 0, mi⟩).on ((Below.refl _ _).alloc (Nat.le_refl _) (.cells #[.int .u16 0, .slice none 0 0] 35))).on ((Below.refl _ _).alloc (Nat.le_refl _) (.cells #[.int .u16 0, .int .u8 0, .int .i64 0] 43))
  have r4 := (RtB.new ((w.alloc (.cells #[.int .u16 (T.s : Int), .slice a n c] 35)).alloc (.cells #[.int .u16 (T.s : Int), .int .u8 0, .int .i64 mi] 43)) 0 none 0 0).on ((Below.refl _ _).alloc (Nat.le_refl _) (.cells #[.int .u16 0, .int .u8 0, .int .i64 0] 43))
  have b5 := Mb.new (((w.alloc (.cells #[.int .u16 (T.s : Int), .slice a n c] 35)).alloc (.cells #[.int .u16 (T.s : Int), .int .u8 0, .int .i64 mi] 43)).alloc (.cells #[.int .u16 0, .slice none 0 0] 35)) zM
  have hl : (memsB T).length ≤ 64 := memsB_len T
  have hn1 : n ≤ 64 := by omega
  have HN := Lib.hid hn
  have HM := Lib.hid (hM.on e4)
  have HQ := Lib.hid (And.intro e4 (And.intro r2 (And.intro b3 (And.intro r4 b5))))
  simp only [World.size_alloc] at HQ
  have HK := Lib.hid hok
  clear hM hn e1 e2 e3 e4 r2 b3 r4 b5 hok
  unfold HearRPost
  obtain ⟨G, hG⟩ : ∃ G, G = memsB (hearB T ⟨(T.s : Int), 0, mi⟩) := ⟨_, rfl⟩
  rw [← hG]
  replace hG := Lib.hid hG
  skip
  go_enter Try.func28, Try.ntmps28
  go_wp2_with fail
  generalize (((w.alloc (.cells #[.int .u16 (T.s : Int), .slice a n c] 35)).alloc (.cells #[.int .u16 (T.s : Int), .int .u8 0, .int .i64 mi] 43)).alloc (.cells #[.int .u16 0, .slice none 0 0] 35)).alloc (.cells #[.int .u16 0, .int .u8 0, .int .i64 0] 43) = W at *
  have HC : Hid (∀ u, Below W.heap.size W u → RtB u w.heap.size (T.s : Int) a n c ∧ Mb u (w.heap.size + 1) ⟨(T.s : Int), 0, mi⟩ ∧ RtB u (w.heap.size + 1 + 1) 0 none 0 0 ∧ Mb u (w.heap.size + 1 + 1 + 1) zM ∧ MemsAt u a (memsB T) ∧ Below w.heap.size w u) := Lib.hid (fun u hu => ⟨HQ.out.2.1.on hu, HQ.out.2.2.1.on hu, HQ.out.2.2.2.1.on hu, HQ.out.2.2.2.2.on hu, HM.out.on hu, HQ.out.1.trans (hu.mono HQ.out.1.size)⟩)
  have HSz2 : Hid (w.heap.size + 4 ≤ W.heap.size) := Lib.hid (by have := HQ.out.2.2.2.2.lt; omega)
  clear HQ
  obtain ⟨r2, b3, -, -, hmm, -⟩ := HC.out W (Below.refl _ _)
  have c0 := r2.c0; have c1 := r2.c1; have m0 := b3.c0
  dsimp only at m0
  obtain ⟨g, hg⟩ : ∃ g, g = atT T T.s := ⟨_, rfl⟩
  obtain ⟨gb, hgb⟩ : ∃ gb, gb = (T.f T.s).isSome := ⟨_, rfl⟩
  have HG0 := Lib.hid (brGet_any (T.s : Int) a n c (memsB T) T.s W hmm HN.out (by omega) g gb (by rw [getRl_mems HK.out, hg, hgb]))
  have Hg := Lib.hid hg
  have Hgb := Lib.hid hgb
  clear hg hgb r2 b3 hmm
  obtain ⟨gn, gs, gi⟩ := g
  dsimp only at HG0
  go_wp2_with (go_at_call 42; refine HG0.out.mono ?_; rintro e w1 ⟨rfl, q1⟩; replace q1 := Lib.hid q1; refine Hid.out ?_)
  refine Lib.hid ?_
  have HB1 : Hid (Below W.heap.size W (w1.alloc (.cells #[.int .u16 gn, .int .u8 gs, .int .i64 gi] 43))) := Lib.hid (q1.out.alloc q1.out.size _)
  have HY : Hid (Mb (w1.alloc (.cells #[.int .u16 gn, .int .u8 gs, .int .i64 gi] 43)) w1.heap.size ⟨gn, gs, gi⟩ ∧ W.heap.size ≤ w1.heap.size) := Lib.hid ⟨Mb.new w1 ⟨gn, gs, gi⟩, q1.out.size⟩
  clear HG0 q1 c0 c1 m0
  obtain ⟨w2, hw2⟩ : ∃ w2, w2 = w1.alloc (.cells #[.int .u16 gn, .int .u8 gs, .int .i64 gi] 43) := ⟨_, rfl⟩
  rw [← hw2] at HB1 HY
  obtain ⟨r2, b3, -, -, -, -⟩ := HC.out _ HB1.out
  have c0 := r2.c0; have c1 := r2.c1
  have m0 := b3.c0; have m1 := b3.c1; have m2 := b3.c2
  have y0 := HY.out.1.c0; have y1 := HY.out.1.c1; have y2 := HY.out.1.c2
  dsimp only at m0 m1 m2 y0 y1 y2
  clear r2 b3
  have HMay := Lib.hid (brMay_any ⟨(T.s : Int), 0, mi⟩ w2)
  have HAb := Lib.hid (fun u => brAbove_any ⟨(T.s : Int), 0, mi⟩ ⟨gn, gs, gi⟩ u)
  dsimp only at HMay HAb
  subst hw2
  rw [hmay] at HMay
  obtain rfl : gb = false := Hgb.out.trans HIs.out
  clear hmay HAb
  go_wp2_with (go_at_call 43; refine HMay.out.mono ?_; rintro e w3 ⟨rfl, q3⟩; skip; replace q3 := Lib.hid q3; refine Hid.out ?_)
  refine Lib.hid ?_
  have HB4 := Lib.hid (HB1.out.trans (q3.out.mono HB1.out.size))
  obtain ⟨r2, b3, -, -, -, -⟩ := HC.out _ HB4.out
  have n0 := b3.c0; have n1 := b3.c1; have n2 := b3.c2; have nf := b3.f; have l0 := r2.c0; have l1 := r2.c1
  dsimp only at n0 n1 n2
  clear r2 b3 HB1 q3 c0 c1 m0 m1 m2 y0 y1 y2 HMay HY
  have HV : Hid (RtB w3 w.heap.size (T.s : Int) a n c ∧ Mb w3 (w.heap.size + 1) ⟨(T.s : Int), 0, mi⟩ ∧ RtB w3 (w.heap.size + 1 + 1) 0 none 0 0 ∧ Mb w3 (w.heap.size + 1 + 1 + 1) zM ∧ Below w.heap.size w w3 ∧ w.heap.size + 4 ≤ w3.heap.size) := Lib.hid (by
    obtain ⟨r2, b3, r4, b5, -, hb4⟩ := HC.out _ HB4.out
    exact ⟨r2, b3, r4, b5, hb4, Nat.le_trans HSz2.out HB4.out.size⟩)
  clear HB4
  go_wp2_with fail
  generalize w3 = V at *
  clear n0 n1 n2 nf l0 l1
  have HSet := Lib.hid (fun u (hu : Below V.heap.size V u) => brset_any (T.s : Int) a n c (memsB T) (⟨(T.s : Int), 0, mi⟩ : Mem) u (HMw.out.on (HV.out.2.2.2.2.1.trans (hu.mono HV.out.2.2.2.2.1.size))) HN.out (by have := memsB_len T; omega))
  have HGs : Hid (G = setGo (⟨(T.s : Int), 0, mi⟩ : Mem) (memsB T) false) := Lib.hid (hG.out.trans HHr.out)
  dsimp only at HSet
  unfold SetPost at HSet
  rw [← HGs.out] at HSet
  have HS1 := Lib.hid (HSet.out V.drew (Below.refl _ _).drew)
  refine wp_region_any (by kernel_rfl) ?_
  change wpAny _ _ _ _ _ _ _ (World.drew _)
  have hS : (fun w' : World => RtB w' w.heap.size (T.s : Int) a n c ∧ Mb w' (w.heap.size + 1) (⟨(T.s : Int), 0, mi⟩ : Mem)) V.drew := ⟨HV.out.1.on ((Below.refl _ _).drew), HV.out.2.1.on ((Below.refl _ _).drew)⟩
  refine wpAny_of_held (S := fun w' => RtB w' w.heap.size (T.s : Int) a n c ∧ Mb w' (w.heap.size + 1) (⟨(T.s : Int), 0, mi⟩ : Mem)) _ _ _ _ ?_
  refine wpAnyH_takeE (i := 0) (some 50) (v := ?_) rfl rfl (by as_aux_lemma => kernel_rfl) (by as_aux_lemma => kernel_rfl) (by as_aux_lemma => kernel_rfl) (fun _ _ _ h => h) (Or.inl ⟨by kernel_rfl, ?_⟩) hS ?_
  rotate_left
  · intro w hSw; have c0 := hSw.1.c0; have c1 := hSw.1.c1; have m0 := hSw.2.c0; have m1 := hSw.2.c1; have m2 := hSw.2.c2; dsimp only at m0 m1 m2; go_simp
    first | done | with_reducible rfl
  refine wpAnyH_takeE (i := 1) (some 51) (v := ?_) rfl rfl (by as_aux_lemma => kernel_rfl) (by as_aux_lemma => kernel_rfl) (by as_aux_lemma => kernel_rfl) (fun _ _ _ h => h) (Or.inl ⟨by kernel_rfl, ?_⟩) hS ?_
  rotate_left
  · intro w hSw; have c0 := hSw.1.c0; have c1 := hSw.1.c1; have m0 := hSw.2.c0; have m1 := hSw.2.c1; have m2 := hSw.2.c2; dsimp only at m0 m1 m2; go_simp
    first | done | with_reducible rfl
  refine wpAnyH_takeE (i := 3) (some 53) (v := ?_) rfl rfl (by as_aux_lemma => kernel_rfl) (by as_aux_lemma => kernel_rfl) (by as_aux_lemma => kernel_rfl) (fun _ _ _ h => h) (Or.inl ⟨by kernel_rfl, ?_⟩) hS ?_
  rotate_left
  · intro w hSw; have c0 := hSw.1.c0; have c1 := hSw.1.c1; have m0 := hSw.2.c0; have m1 := hSw.2.c1; have m2 := hSw.2.c2; dsimp only at m0 m1 m2; go_simp
    first | done | with_reducible rfl
  refine wpAnyH_ready (rs := [2]) (by as_aux_lemma => kernel_rfl) (by simp) ?_
  refine AllReadyH.cons rfl (fun K hK => ?_) AllReadyH.nil
  go_simp
  go_wp2_with (go_at_call 45; refine HS1.out.mono ?_; rintro e w7 ⟨a7, n7, c7, rfl, hn7, ho7, hb7⟩; subst hn7)
  refine hK.out _ _ ?_ (fun hS => ?_)
  · exact ⟨hS.1.on hb7, hS.2.on hb7⟩
  clear hK K
  replace hb7 : Below V.heap.size V w7 := ((Below.refl V.heap.size V).drew).trans hb7
  replace ho7 : OwnMx w7 V.heap.size (.slice a7 G.length c7) G := ho7
  have r7 := HV.out.2.2.1.on hb7
  have b7 := HV.out.2.2.2.1.on hb7
  have hbw := HV.out.2.2.2.2.1.trans (hb7.mono HV.out.2.2.2.2.1.size)
  have hsv := HV.out.2.2.2.2.2
  obtain ⟨w8, hw8⟩ : ∃ w8, w8 = stR w7 (w.heap.size + 1 + 1) (T.s : Int) a7 G.length c7 := ⟨_, rfl⟩
  obtain ⟨w9, hw9⟩ : ∃ w9, w9 = stM w8 (w.heap.size + 1 + 1 + 1) (⟨(T.s : Int), 0, mi⟩ : Mem) := ⟨_, rfl⟩
  have HF : Hid (RtB w9 (w.heap.size + 1 + 1) (T.s : Int) a7 G.length c7 ∧ Mb w9 (w.heap.size + 1 + 1 + 1) (⟨(T.s : Int), 0, mi⟩ : Mem) ∧ OwnMx w9 w.heap.size (.slice a7 G.length c7) G ∧ Below w.heap.size w w9) := Lib.hid (by
    rw [hw9, hw8]
    exact ⟨(r7.store (T.s : Int) a7 G.length c7).stM (b := w.heap.size + 1 + 1 + 1) (by omega) (⟨(T.s : Int), 0, mi⟩ : Mem), (b7.stR (b := w.heap.size + 1 + 1) (by omega) (T.s : Int) a7 G.length c7).store (⟨(T.s : Int), 0, mi⟩ : Mem), (((ho7.turn (stR_grown w7 (w.heap.size + 1 + 1) (T.s : Int) a7 G.length c7) (by omega)).turn (stM_grown _ (w.heap.size + 1 + 1 + 1) (⟨(T.s : Int), 0, mi⟩ : Mem)) (by omega))).base (by omega), stM_below (stR_below (B := w.heap.size + 1 + 1) hbw (by omega) (T.s : Int) a7 G.length c7) (B := w.heap.size + 1 + 1 + 1) (by omega) (⟨(T.s : Int), 0, mi⟩ : Mem)⟩)
  have HK1 : Hid (RtB w8 w.heap.size (T.s : Int) a n c ∧ Mb w8 (w.heap.size + 1) (⟨(T.s : Int), 0, mi⟩ : Mem)) := Lib.hid (by
    rw [hw8]
    exact ⟨hS.1.kept (stR_grown w7 (w.heap.size + 1 + 1) (T.s : Int) a7 G.length c7) (by simp; omega), hS.2.kept (stR_grown w7 (w.heap.size + 1 + 1) (T.s : Int) a7 G.length c7) (by simp)⟩)
  have HK3 : Hid (RtB w9 w.heap.size (T.s : Int) a n c ∧ Mb w9 (w.heap.size + 1) (⟨(T.s : Int), 0, mi⟩ : Mem)) := Lib.hid (by
    rw [hw9]
    exact ⟨HK1.out.1.kept (stM_grown _ (w.heap.size + 1 + 1 + 1) (⟨(T.s : Int), 0, mi⟩ : Mem)) (by simp; omega), HK1.out.2.kept (stM_grown _ (w.heap.size + 1 + 1 + 1) (⟨(T.s : Int), 0, mi⟩ : Mem)) (by simp)⟩)
  have H45 : Hid (Mb w8 (w.heap.size + 1 + 1 + 1) zM) := Lib.hid (by rw [hw8]; exact b7.stR (b := w.heap.size + 1 + 1) (by omega) (T.s : Int) a7 G.length c7)
  have z0 := r7.c0; have z1 := r7.c1; have zf := r7.f
  have hw8' : w8 = (w7.setCell ⟨w.heap.size + 1 + 1, 0, none⟩ (.int .u16 (T.s : Int))).setCell ⟨w.heap.size + 1 + 1, 1, none⟩ (.slice a7 G.length c7) := hw8
  have hw9' : w9 = ((w8.setCell ⟨w.heap.size + 1 + 1 + 1, 0, none⟩ (.int .u16 ((⟨(T.s : Int), 0, mi⟩ : Mem)).n)).setCell ⟨w.heap.size + 1 + 1 + 1, 1, none⟩ (.int .u8 ((⟨(T.s : Int), 0, mi⟩ : Mem)).s)).setCell ⟨w.heap.size + 1 + 1 + 1, 2, none⟩ (.int .i64 ((⟨(T.s : Int), 0, mi⟩ : Mem)).i) := hw9
  dsimp only at hw9'
  replace hw8' := Lib.hid hw8'
  replace hw9' := Lib.hid hw9'
  clear r7 b7 hbw hsv ho7 hb7 hw8 hw9
  refine wpAnyH_ready (rs := [4]) (by as_aux_lemma => kernel_rfl) (by simp) ?_
  refine AllReadyH.cons rfl (fun K hK => ?_) AllReadyH.nil
  go_simp
  rw [← hw8'.out]
  refine hK.out _ _ HK1.out (fun hS => ?_)
  clear hK K z0 z1 zf
  have x0 := H45.out.c0; have x1 := H45.out.c1; have x2 := H45.out.c2; have xf := H45.out.f
  dsimp only at x0 x1 x2
  clear hw8'
  refine wpAnyH_ready (rs := [5]) (by as_aux_lemma => kernel_rfl) (by simp) ?_
  refine AllReadyH.cons rfl (fun K hK => ?_) AllReadyH.nil
  go_simp
  rw [← hw9'.out]
  refine hK.out _ _ HK3.out (fun hS => ?_)
  clear hK K x0 x1 x2 xf hw9'
  refine wpAnyH_takeE (i := 6) (some 6) (v := ?_) rfl rfl (by as_aux_lemma => kernel_rfl) (by as_aux_lemma => kernel_rfl) (by as_aux_lemma => kernel_rfl) (fun _ _ _ h => h) (Or.inl ⟨by kernel_rfl, ?_⟩) hS ?_
  rotate_left
  · intro w hSw; skip; go_simp
    first | done | with_reducible rfl
  refine wpAnyH_done (by kernel_rfl) ?_ _
  go_simp
  go_wp2
  exact bodyPost_ret (results_rt3 rfl _ _ _ _ rfl rfl HF.out.1 HF.out.2.1) rfl ⟨a7, G.length, c7, by rw [HNw.out.1, HNw.out.2]; rfl, rfl, HF.out.2.2.1.mems, fun q e => by
    obtain ⟨x, y, e2, -, h1, -⟩ := HF.out.2.2.1.form
    simp only [Value.slice.injEq] at e2
    exact .inr (h1 q (e2.1.symm.trans e)).1, HF.out.2.2.2⟩

set_option maxRecDepth 20000 in
set_option maxHeartbeats 8000000 in
theorem brHear_none_max (a : Option Addr) (n c : Nat) (T : Tb) (hok : TbOk T) (k : Nat) (ms mi : Int) (w : World) (hM : MemsAt w a (memsB T)) (hn : n = (memsB T).length) (hmay : mayM ⟨(k : Int), ms, mi⟩ = true) (hf : T.f k = none) (hk : k = T.s) (hz : ms ≠ 0) (hi : mi = 1073741824) :
    Calls Try.prog 28 #[.agg #[.int .u16 (T.s : Int), .slice a n c], .agg #[.int .u16 (k : Int), .int .u8 ms, .int .i64 mi]] w (HearRPost a T ⟨(k : Int), ms, mi⟩ w) := by
  have hlt : k < 64 := by have := ((mayM_iff _).1 hmay).1; dsimp only at this; omega
  have hyes : newsB T ⟨(k : Int), ms, mi⟩ = true := by unfold newsB; rw [hmay]; dsimp only; rw [Int.toNat_natCast, hf]; rfl
  subst hk
  have hX : saidM T ⟨(T.s : Int), ms, mi⟩ = ⟨(T.s : Int), ms, mi⟩ := by
    unfold saidM denyM
    rw [if_pos (show (T.s : Int) = (T.s : Int) from rfl)]
    exact if_pos (.inr hi)
  have hz1 : (ms == 0) = false := by simpa using hz
  subst hi
  have HMw := Lib.hid hM
  have HHr : Hid (memsB (hearB T ⟨(T.s : Int), ms, 1073741824⟩) = setGo ⟨(T.s : Int), ms, 1073741824⟩ (memsB T) false) := Lib.hid (by rw [hearR_yes hyes, hX]; exact (setGo_mems hok (m := ⟨(T.s : Int), ms, 1073741824⟩) (by dsimp only; omega) (by dsimp only; omega)).symm)
  have HNw : Hid (heardM T ⟨(T.s : Int), ms, 1073741824⟩ = ⟨(T.s : Int), ms, 1073741824⟩ ∧ newsB T ⟨(T.s : Int), ms, 1073741824⟩ = true) := Lib.hid ⟨by unfold heardM; rw [if_pos hyes, hX], hyes⟩
  have hat : atT T T.s = zM := by unfold atT; rw [hf]; rfl
  have his : (T.f T.s).isSome = false := by rw [hf]; rfl
  have HAt := Lib.hid hat
  have HIs := Lib.hid his
  clear hf hat his hX hyes hlt
  have e1 := (Below.refl w.heap.size w).alloc (Nat.le_refl _) (.cells #[.int .u16 (T.s : Int), .slice a n c] 35)
  have e2 := e1.alloc (by simp) (.cells #[.int .u16 (T.s : Int), .int .u8 ms, .int .i64 1073741824] 43)
  have e3 := e2.alloc (by simp; omega) (.cells #[.int .u16 0, .slice none 0 0] 35)
  have e4 := e3.alloc (by simp; omega) (.cells #[.int .u16 0, .int .u8 0, .int .i64 0] 43)
  have r2 := (((RtB.new w (T.s : Int) a n c).on ((Below.refl _ _).alloc (Nat.le_refl _) (.cells #[.int .u16 (T.s : Int), .int .u8 ms, .int .i64 1073741824] 43))).on ((Below.refl _ _).alloc (Nat.le_refl _) (.cells #[.int .u16 0, .slice none 0 0] 35))).on ((Below.refl _ _).alloc (Nat.le_refl _) (.cells #[.int .u16 0, .int .u8 0, .int .i64 0] 43))
  have b3 := ((Mb.new2 w (.cells #[.int .u16 (T.s : Int), .slice a n c] 35) ⟨(T.s : Int), ms, 1073741824⟩).on ((Below.refl _ _).alloc (Nat.le_refl _) (.cells #[.int .u16 0, .slice none 0 0] 35))).on ((Below.refl _ _).alloc (Nat.le_refl _) (.cells #[.int .u16 0, .int .u8 0, .int .i64 0] 43))
  have r4 := (RtB.new ((w.alloc (.cells #[.int .u16 (T.s : Int), .slice a n c] 35)).alloc (.cells #[.int .u16 (T.s : Int), .int .u8 ms, .int .i64 1073741824] 43)) 0 none 0 0).on ((Below.refl _ _).alloc (Nat.le_refl _) (.cells #[.int .u16 0, .int .u8 0, .int .i64 0] 43))
  have b5 := Mb.new (((w.alloc (.cells #[.int .u16 (T.s : Int), .slice a n c] 35)).alloc (.cells #[.int .u16 (T.s : Int), .int .u8 ms, .int .i64 1073741824] 43)).alloc (.cells #[.int .u16 0, .slice none 0 0] 35)) zM
  have hl : (memsB T).length ≤ 64 := memsB_len T
  have hn1 : n ≤ 64 := by omega
  have HN := Lib.hid hn
  have HM := Lib.hid (hM.on e4)
  have HQ := Lib.hid (And.intro e4 (And.intro r2 (And.intro b3 (And.intro r4 b5))))
  simp only [World.size_alloc] at HQ
  have HK := Lib.hid hok
  clear hM hn e1 e2 e3 e4 r2 b3 r4 b5 hok
  unfold HearRPost
  obtain ⟨G, hG⟩ : ∃ G, G = memsB (hearB T ⟨(T.s : Int), ms, 1073741824⟩) := ⟨_, rfl⟩
  rw [← hG]
  replace hG := Lib.hid hG
  skip
  go_enter Try.func28, Try.ntmps28
  go_wp2_with fail
  generalize (((w.alloc (.cells #[.int .u16 (T.s : Int), .slice a n c] 35)).alloc (.cells #[.int .u16 (T.s : Int), .int .u8 ms, .int .i64 1073741824] 43)).alloc (.cells #[.int .u16 0, .slice none 0 0] 35)).alloc (.cells #[.int .u16 0, .int .u8 0, .int .i64 0] 43) = W at *
  have HC : Hid (∀ u, Below W.heap.size W u → RtB u w.heap.size (T.s : Int) a n c ∧ Mb u (w.heap.size + 1) ⟨(T.s : Int), ms, 1073741824⟩ ∧ RtB u (w.heap.size + 1 + 1) 0 none 0 0 ∧ Mb u (w.heap.size + 1 + 1 + 1) zM ∧ MemsAt u a (memsB T) ∧ Below w.heap.size w u) := Lib.hid (fun u hu => ⟨HQ.out.2.1.on hu, HQ.out.2.2.1.on hu, HQ.out.2.2.2.1.on hu, HQ.out.2.2.2.2.on hu, HM.out.on hu, HQ.out.1.trans (hu.mono HQ.out.1.size)⟩)
  have HSz2 : Hid (w.heap.size + 4 ≤ W.heap.size) := Lib.hid (by have := HQ.out.2.2.2.2.lt; omega)
  clear HQ
  obtain ⟨r2, b3, -, -, hmm, -⟩ := HC.out W (Below.refl _ _)
  have c0 := r2.c0; have c1 := r2.c1; have m0 := b3.c0
  dsimp only at m0
  obtain ⟨g, hg⟩ : ∃ g, g = atT T T.s := ⟨_, rfl⟩
  obtain ⟨gb, hgb⟩ : ∃ gb, gb = (T.f T.s).isSome := ⟨_, rfl⟩
  have HG0 := Lib.hid (brGet_any (T.s : Int) a n c (memsB T) T.s W hmm HN.out (by omega) g gb (by rw [getRl_mems HK.out, hg, hgb]))
  have Hg := Lib.hid hg
  have Hgb := Lib.hid hgb
  clear hg hgb r2 b3 hmm
  obtain ⟨gn, gs, gi⟩ := g
  dsimp only at HG0
  go_wp2_with (go_at_call 42; refine HG0.out.mono ?_; rintro e w1 ⟨rfl, q1⟩; replace q1 := Lib.hid q1; refine Hid.out ?_)
  refine Lib.hid ?_
  have HB1 : Hid (Below W.heap.size W (w1.alloc (.cells #[.int .u16 gn, .int .u8 gs, .int .i64 gi] 43))) := Lib.hid (q1.out.alloc q1.out.size _)
  have HY : Hid (Mb (w1.alloc (.cells #[.int .u16 gn, .int .u8 gs, .int .i64 gi] 43)) w1.heap.size ⟨gn, gs, gi⟩ ∧ W.heap.size ≤ w1.heap.size) := Lib.hid ⟨Mb.new w1 ⟨gn, gs, gi⟩, q1.out.size⟩
  clear HG0 q1 c0 c1 m0
  obtain ⟨w2, hw2⟩ : ∃ w2, w2 = w1.alloc (.cells #[.int .u16 gn, .int .u8 gs, .int .i64 gi] 43) := ⟨_, rfl⟩
  rw [← hw2] at HB1 HY
  obtain ⟨r2, b3, -, -, -, -⟩ := HC.out _ HB1.out
  have c0 := r2.c0; have c1 := r2.c1
  have m0 := b3.c0; have m1 := b3.c1; have m2 := b3.c2
  have y0 := HY.out.1.c0; have y1 := HY.out.1.c1; have y2 := HY.out.1.c2
  dsimp only at m0 m1 m2 y0 y1 y2
  clear r2 b3
  have HMay := Lib.hid (brMay_any ⟨(T.s : Int), ms, 1073741824⟩ w2)
  have HAb := Lib.hid (fun u => brAbove_any ⟨(T.s : Int), ms, 1073741824⟩ ⟨gn, gs, gi⟩ u)
  dsimp only at HMay HAb
  subst hw2
  rw [hmay] at HMay
  obtain rfl : gb = false := Hgb.out.trans HIs.out
  clear hmay HAb
  go_wp2_with (go_at_call 43; refine HMay.out.mono ?_; rintro e w3 ⟨rfl, q3⟩; skip; replace q3 := Lib.hid q3; refine Hid.out ?_)
  refine Lib.hid ?_
  have HB4 := Lib.hid (HB1.out.trans (q3.out.mono HB1.out.size))
  obtain ⟨r2, b3, -, -, -, -⟩ := HC.out _ HB4.out
  have n0 := b3.c0; have n1 := b3.c1; have n2 := b3.c2; have nf := b3.f; have l0 := r2.c0; have l1 := r2.c1
  dsimp only at n0 n1 n2
  clear r2 b3 HB1 q3 c0 c1 m0 m1 m2 y0 y1 y2 HMay HY
  have HV : Hid (RtB w3 w.heap.size (T.s : Int) a n c ∧ Mb w3 (w.heap.size + 1) ⟨(T.s : Int), ms, 1073741824⟩ ∧ RtB w3 (w.heap.size + 1 + 1) 0 none 0 0 ∧ Mb w3 (w.heap.size + 1 + 1 + 1) zM ∧ Below w.heap.size w w3 ∧ w.heap.size + 4 ≤ w3.heap.size) := Lib.hid (by
    obtain ⟨r2, b3, r4, b5, -, hb4⟩ := HC.out _ HB4.out
    exact ⟨r2, b3, r4, b5, hb4, Nat.le_trans HSz2.out HB4.out.size⟩)
  clear HB4
  go_wp2_with fail
  generalize w3 = V at *
  clear n0 n1 n2 nf l0 l1
  have HSet := Lib.hid (fun u (hu : Below V.heap.size V u) => brset_any (T.s : Int) a n c (memsB T) (⟨(T.s : Int), ms, 1073741824⟩ : Mem) u (HMw.out.on (HV.out.2.2.2.2.1.trans (hu.mono HV.out.2.2.2.2.1.size))) HN.out (by have := memsB_len T; omega))
  have HGs : Hid (G = setGo (⟨(T.s : Int), ms, 1073741824⟩ : Mem) (memsB T) false) := Lib.hid (hG.out.trans HHr.out)
  dsimp only at HSet
  unfold SetPost at HSet
  rw [← HGs.out] at HSet
  have HS1 := Lib.hid (HSet.out V.drew (Below.refl _ _).drew)
  refine wp_region_any (by kernel_rfl) ?_
  change wpAny _ _ _ _ _ _ _ (World.drew _)
  have hS : (fun w' : World => RtB w' w.heap.size (T.s : Int) a n c ∧ Mb w' (w.heap.size + 1) (⟨(T.s : Int), ms, 1073741824⟩ : Mem)) V.drew := ⟨HV.out.1.on ((Below.refl _ _).drew), HV.out.2.1.on ((Below.refl _ _).drew)⟩
  refine wpAny_of_held (S := fun w' => RtB w' w.heap.size (T.s : Int) a n c ∧ Mb w' (w.heap.size + 1) (⟨(T.s : Int), ms, 1073741824⟩ : Mem)) _ _ _ _ ?_
  refine wpAnyH_takeE (i := 0) (some 50) (v := ?_) rfl rfl (by as_aux_lemma => kernel_rfl) (by as_aux_lemma => kernel_rfl) (by as_aux_lemma => kernel_rfl) (fun _ _ _ h => h) (Or.inl ⟨by kernel_rfl, ?_⟩) hS ?_
  rotate_left
  · intro w hSw; have c0 := hSw.1.c0; have c1 := hSw.1.c1; have m0 := hSw.2.c0; have m1 := hSw.2.c1; have m2 := hSw.2.c2; dsimp only at m0 m1 m2; go_simp
    first | done | with_reducible rfl
  refine wpAnyH_takeE (i := 1) (some 51) (v := ?_) rfl rfl (by as_aux_lemma => kernel_rfl) (by as_aux_lemma => kernel_rfl) (by as_aux_lemma => kernel_rfl) (fun _ _ _ h => h) (Or.inl ⟨by kernel_rfl, ?_⟩) hS ?_
  rotate_left
  · intro w hSw; have c0 := hSw.1.c0; have c1 := hSw.1.c1; have m0 := hSw.2.c0; have m1 := hSw.2.c1; have m2 := hSw.2.c2; dsimp only at m0 m1 m2; go_simp
    first | done | with_reducible rfl
  refine wpAnyH_takeE (i := 3) (some 53) (v := ?_) rfl rfl (by as_aux_lemma => kernel_rfl) (by as_aux_lemma => kernel_rfl) (by as_aux_lemma => kernel_rfl) (fun _ _ _ h => h) (Or.inl ⟨by kernel_rfl, ?_⟩) hS ?_
  rotate_left
  · intro w hSw; have c0 := hSw.1.c0; have c1 := hSw.1.c1; have m0 := hSw.2.c0; have m1 := hSw.2.c1; have m2 := hSw.2.c2; dsimp only at m0 m1 m2; go_simp
    first | done | with_reducible rfl
  refine wpAnyH_ready (rs := [2]) (by as_aux_lemma => kernel_rfl) (by simp) ?_
  refine AllReadyH.cons rfl (fun K hK => ?_) AllReadyH.nil
  go_simp
  go_wp2_with (go_at_call 45; refine HS1.out.mono ?_; rintro e w7 ⟨a7, n7, c7, rfl, hn7, ho7, hb7⟩; subst hn7)
  refine hK.out _ _ ?_ (fun hS => ?_)
  · exact ⟨hS.1.on hb7, hS.2.on hb7⟩
  clear hK K
  replace hb7 : Below V.heap.size V w7 := ((Below.refl V.heap.size V).drew).trans hb7
  replace ho7 : OwnMx w7 V.heap.size (.slice a7 G.length c7) G := ho7
  have r7 := HV.out.2.2.1.on hb7
  have b7 := HV.out.2.2.2.1.on hb7
  have hbw := HV.out.2.2.2.2.1.trans (hb7.mono HV.out.2.2.2.2.1.size)
  have hsv := HV.out.2.2.2.2.2
  obtain ⟨w8, hw8⟩ : ∃ w8, w8 = stR w7 (w.heap.size + 1 + 1) (T.s : Int) a7 G.length c7 := ⟨_, rfl⟩
  obtain ⟨w9, hw9⟩ : ∃ w9, w9 = stM w8 (w.heap.size + 1 + 1 + 1) (⟨(T.s : Int), ms, 1073741824⟩ : Mem) := ⟨_, rfl⟩
  have HF : Hid (RtB w9 (w.heap.size + 1 + 1) (T.s : Int) a7 G.length c7 ∧ Mb w9 (w.heap.size + 1 + 1 + 1) (⟨(T.s : Int), ms, 1073741824⟩ : Mem) ∧ OwnMx w9 w.heap.size (.slice a7 G.length c7) G ∧ Below w.heap.size w w9) := Lib.hid (by
    rw [hw9, hw8]
    exact ⟨(r7.store (T.s : Int) a7 G.length c7).stM (b := w.heap.size + 1 + 1 + 1) (by omega) (⟨(T.s : Int), ms, 1073741824⟩ : Mem), (b7.stR (b := w.heap.size + 1 + 1) (by omega) (T.s : Int) a7 G.length c7).store (⟨(T.s : Int), ms, 1073741824⟩ : Mem), (((ho7.turn (stR_grown w7 (w.heap.size + 1 + 1) (T.s : Int) a7 G.length c7) (by omega)).turn (stM_grown _ (w.heap.size + 1 + 1 + 1) (⟨(T.s : Int), ms, 1073741824⟩ : Mem)) (by omega))).base (by omega), stM_below (stR_below (B := w.heap.size + 1 + 1) hbw (by omega) (T.s : Int) a7 G.length c7) (B := w.heap.size + 1 + 1 + 1) (by omega) (⟨(T.s : Int), ms, 1073741824⟩ : Mem)⟩)
  have HK1 : Hid (RtB w8 w.heap.size (T.s : Int) a n c ∧ Mb w8 (w.heap.size + 1) (⟨(T.s : Int), ms, 1073741824⟩ : Mem)) := Lib.hid (by
    rw [hw8]
    exact ⟨hS.1.kept (stR_grown w7 (w.heap.size + 1 + 1) (T.s : Int) a7 G.length c7) (by simp; omega), hS.2.kept (stR_grown w7 (w.heap.size + 1 + 1) (T.s : Int) a7 G.length c7) (by simp)⟩)
  have HK3 : Hid (RtB w9 w.heap.size (T.s : Int) a n c ∧ Mb w9 (w.heap.size + 1) (⟨(T.s : Int), ms, 1073741824⟩ : Mem)) := Lib.hid (by
    rw [hw9]
    exact ⟨HK1.out.1.kept (stM_grown _ (w.heap.size + 1 + 1 + 1) (⟨(T.s : Int), ms, 1073741824⟩ : Mem)) (by simp; omega), HK1.out.2.kept (stM_grown _ (w.heap.size + 1 + 1 + 1) (⟨(T.s : Int), ms, 1073741824⟩ : Mem)) (by simp)⟩)
  have H45 : Hid (Mb w8 (w.heap.size + 1 + 1 + 1) zM) := Lib.hid (by rw [hw8]; exact b7.stR (b := w.heap.size + 1 + 1) (by omega) (T.s : Int) a7 G.length c7)
  have z0 := r7.c0; have z1 := r7.c1; have zf := r7.f
  have hw8' : w8 = (w7.setCell ⟨w.heap.size + 1 + 1, 0, none⟩ (.int .u16 (T.s : Int))).setCell ⟨w.heap.size + 1 + 1, 1, none⟩ (.slice a7 G.length c7) := hw8
  have hw9' : w9 = ((w8.setCell ⟨w.heap.size + 1 + 1 + 1, 0, none⟩ (.int .u16 ((⟨(T.s : Int), ms, 1073741824⟩ : Mem)).n)).setCell ⟨w.heap.size + 1 + 1 + 1, 1, none⟩ (.int .u8 ((⟨(T.s : Int), ms, 1073741824⟩ : Mem)).s)).setCell ⟨w.heap.size + 1 + 1 + 1, 2, none⟩ (.int .i64 ((⟨(T.s : Int), ms, 1073741824⟩ : Mem)).i) := hw9
  dsimp only at hw9'
  replace hw8' := Lib.hid hw8'
  replace hw9' := Lib.hid hw9'
  clear r7 b7 hbw hsv ho7 hb7 hw8 hw9
  refine wpAnyH_ready (rs := [4]) (by as_aux_lemma => kernel_rfl) (by simp) ?_
  refine AllReadyH.cons rfl (fun K hK => ?_) AllReadyH.nil
  go_simp
  rw [← hw8'.out]
  refine hK.out _ _ HK1.out (fun hS => ?_)
  clear hK K z0 z1 zf
  have x0 := H45.out.c0; have x1 := H45.out.c1; have x2 := H45.out.c2; have xf := H45.out.f
  dsimp only at x0 x1 x2
  clear hw8'
  refine wpAnyH_ready (rs := [5]) (by as_aux_lemma => kernel_rfl) (by simp) ?_
  refine AllReadyH.cons rfl (fun K hK => ?_) AllReadyH.nil
  go_simp
  rw [← hw9'.out]
  refine hK.out _ _ HK3.out (fun hS => ?_)
  clear hK K x0 x1 x2 xf hw9'
  refine wpAnyH_takeE (i := 6) (some 6) (v := ?_) rfl rfl (by as_aux_lemma => kernel_rfl) (by as_aux_lemma => kernel_rfl) (by as_aux_lemma => kernel_rfl) (fun _ _ _ h => h) (Or.inl ⟨by kernel_rfl, ?_⟩) hS ?_
  rotate_left
  · intro w hSw; skip; go_simp
    first | done | with_reducible rfl
  refine wpAnyH_done (by kernel_rfl) ?_ _
  go_simp
  go_wp2
  exact bodyPost_ret (results_rt3 rfl _ _ _ _ rfl rfl HF.out.1 HF.out.2.1) rfl ⟨a7, G.length, c7, by rw [HNw.out.1, HNw.out.2]; rfl, rfl, HF.out.2.2.1.mems, fun q e => by
    obtain ⟨x, y, e2, -, h1, -⟩ := HF.out.2.2.1.form
    simp only [Value.slice.injEq] at e2
    exact .inr (h1 q (e2.1.symm.trans e)).1, HF.out.2.2.2⟩

set_option maxRecDepth 20000 in
set_option maxHeartbeats 8000000 in
theorem brHear_none_deny (a : Option Addr) (n c : Nat) (T : Tb) (hok : TbOk T) (k : Nat) (ms mi : Int) (w : World) (hM : MemsAt w a (memsB T)) (hn : n = (memsB T).length) (hmay : mayM ⟨(k : Int), ms, mi⟩ = true) (hf : T.f k = none) (hk : k = T.s) (hz : ms ≠ 0) (hi : mi < 1073741824) (hi0 : 0 ≤ mi) :
    Calls Try.prog 28 #[.agg #[.int .u16 (T.s : Int), .slice a n c], .agg #[.int .u16 (k : Int), .int .u8 ms, .int .i64 mi]] w (HearRPost a T ⟨(k : Int), ms, mi⟩ w) := by
  have hlt : k < 64 := by have := ((mayM_iff _).1 hmay).1; dsimp only at this; omega
  have hyes : newsB T ⟨(k : Int), ms, mi⟩ = true := by unfold newsB; rw [hmay]; dsimp only; rw [Int.toNat_natCast, hf]; rfl
  subst hk
  have hX : saidM T ⟨(T.s : Int), ms, mi⟩ = ⟨(T.s : Int), 0, mi + 1⟩ := by
    unfold saidM denyM
    rw [if_pos (show (T.s : Int) = (T.s : Int) from rfl)]
    exact if_neg (by rintro (h | h); exact hz h; dsimp only at h; omega)
  have hz1 : (ms == 0) = false := by simpa using hz
  have hw64 : wrap64 (mi + 1) = mi + 1 := by unfold wrap64; omega
  have HMw := Lib.hid hM
  have HHr : Hid (memsB (hearB T ⟨(T.s : Int), ms, mi⟩) = setGo ⟨(T.s : Int), 0, mi + 1⟩ (memsB T) false) := Lib.hid (by rw [hearR_yes hyes, hX]; exact (setGo_mems hok (m := ⟨(T.s : Int), 0, mi + 1⟩) (by dsimp only; omega) (by dsimp only; omega)).symm)
  have HNw : Hid (heardM T ⟨(T.s : Int), ms, mi⟩ = ⟨(T.s : Int), 0, mi + 1⟩ ∧ newsB T ⟨(T.s : Int), ms, mi⟩ = true) := Lib.hid ⟨by unfold heardM; rw [if_pos hyes, hX], hyes⟩
  have hat : atT T T.s = zM := by unfold atT; rw [hf]; rfl
  have his : (T.f T.s).isSome = false := by rw [hf]; rfl
  have HAt := Lib.hid hat
  have HIs := Lib.hid his
  clear hf hat his hX hyes hlt
  have e1 := (Below.refl w.heap.size w).alloc (Nat.le_refl _) (.cells #[.int .u16 (T.s : Int), .slice a n c] 35)
  have e2 := e1.alloc (by simp) (.cells #[.int .u16 (T.s : Int), .int .u8 ms, .int .i64 mi] 43)
  have e3 := e2.alloc (by simp; omega) (.cells #[.int .u16 0, .slice none 0 0] 35)
  have e4 := e3.alloc (by simp; omega) (.cells #[.int .u16 0, .int .u8 0, .int .i64 0] 43)
  have r2 := (((RtB.new w (T.s : Int) a n c).on ((Below.refl _ _).alloc (Nat.le_refl _) (.cells #[.int .u16 (T.s : Int), .int .u8 ms, .int .i64 mi] 43))).on ((Below.refl _ _).alloc (Nat.le_refl _) (.cells #[.int .u16 0, .slice none 0 0] 35))).on ((Below.refl _ _).alloc (Nat.le_refl _) (.cells #[.int .u16 0, .int .u8 0, .int .i64 0] 43))
  have b3 := ((Mb.new2 w (.cells #[.int .u16 (T.s : Int), .slice a n c] 35) ⟨(T.s : Int), ms, mi⟩).on ((Below.refl _ _).alloc (Nat.le_refl _) (.cells #[.int .u16 0, .slice none 0 0] 35))).on ((Below.refl _ _).alloc (Nat.le_refl _) (.cells #[.int .u16 0, .int .u8 0, .int .i64 0] 43))
  have r4 := (RtB.new ((w.alloc (.cells #[.int .u16 (T.s : Int), .slice a n c] 35)).alloc (.cells #[.int .u16 (T.s : Int), .int .u8 ms, .int .i64 mi] 43)) 0 none 0 0).on ((Below.refl _ _).alloc (Nat.le_refl _) (.cells #[.int .u16 0, .int .u8 0, .int .i64 0] 43))
  have b5 := Mb.new (((w.alloc (.cells #[.int .u16 (T.s : Int), .slice a n c] 35)).alloc (.cells #[.int .u16 (T.s : Int), .int .u8 ms, .int .i64 mi] 43)).alloc (.cells #[.int .u16 0, .slice none 0 0] 35)) zM
  have hl : (memsB T).length ≤ 64 := memsB_len T
  have hn1 : n ≤ 64 := by omega
  have HN := Lib.hid hn
  have HM := Lib.hid (hM.on e4)
  have HQ := Lib.hid (And.intro e4 (And.intro r2 (And.intro b3 (And.intro r4 b5))))
  simp only [World.size_alloc] at HQ
  have HK := Lib.hid hok
  clear hM hn e1 e2 e3 e4 r2 b3 r4 b5 hok
  unfold HearRPost
  obtain ⟨G, hG⟩ : ∃ G, G = memsB (hearB T ⟨(T.s : Int), ms, mi⟩) := ⟨_, rfl⟩
  rw [← hG]
  replace hG := Lib.hid hG
  skip
  go_enter Try.func28, Try.ntmps28
  go_wp2_with fail
  generalize (((w.alloc (.cells #[.int .u16 (T.s : Int), .slice a n c] 35)).alloc (.cells #[.int .u16 (T.s : Int), .int .u8 ms, .int .i64 mi] 43)).alloc (.cells #[.int .u16 0, .slice none 0 0] 35)).alloc (.cells #[.int .u16 0, .int .u8 0, .int .i64 0] 43) = W at *
  have HC : Hid (∀ u, Below W.heap.size W u → RtB u w.heap.size (T.s : Int) a n c ∧ Mb u (w.heap.size + 1) ⟨(T.s : Int), ms, mi⟩ ∧ RtB u (w.heap.size + 1 + 1) 0 none 0 0 ∧ Mb u (w.heap.size + 1 + 1 + 1) zM ∧ MemsAt u a (memsB T) ∧ Below w.heap.size w u) := Lib.hid (fun u hu => ⟨HQ.out.2.1.on hu, HQ.out.2.2.1.on hu, HQ.out.2.2.2.1.on hu, HQ.out.2.2.2.2.on hu, HM.out.on hu, HQ.out.1.trans (hu.mono HQ.out.1.size)⟩)
  have HSz2 : Hid (w.heap.size + 4 ≤ W.heap.size) := Lib.hid (by have := HQ.out.2.2.2.2.lt; omega)
  clear HQ
  obtain ⟨r2, b3, -, -, hmm, -⟩ := HC.out W (Below.refl _ _)
  have c0 := r2.c0; have c1 := r2.c1; have m0 := b3.c0
  dsimp only at m0
  obtain ⟨g, hg⟩ : ∃ g, g = atT T T.s := ⟨_, rfl⟩
  obtain ⟨gb, hgb⟩ : ∃ gb, gb = (T.f T.s).isSome := ⟨_, rfl⟩
  have HG0 := Lib.hid (brGet_any (T.s : Int) a n c (memsB T) T.s W hmm HN.out (by omega) g gb (by rw [getRl_mems HK.out, hg, hgb]))
  have Hg := Lib.hid hg
  have Hgb := Lib.hid hgb
  clear hg hgb r2 b3 hmm
  obtain ⟨gn, gs, gi⟩ := g
  dsimp only at HG0
  go_wp2_with (go_at_call 42; refine HG0.out.mono ?_; rintro e w1 ⟨rfl, q1⟩; replace q1 := Lib.hid q1; refine Hid.out ?_)
  refine Lib.hid ?_
  have HB1 : Hid (Below W.heap.size W (w1.alloc (.cells #[.int .u16 gn, .int .u8 gs, .int .i64 gi] 43))) := Lib.hid (q1.out.alloc q1.out.size _)
  have HY : Hid (Mb (w1.alloc (.cells #[.int .u16 gn, .int .u8 gs, .int .i64 gi] 43)) w1.heap.size ⟨gn, gs, gi⟩ ∧ W.heap.size ≤ w1.heap.size) := Lib.hid ⟨Mb.new w1 ⟨gn, gs, gi⟩, q1.out.size⟩
  clear HG0 q1 c0 c1 m0
  obtain ⟨w2, hw2⟩ : ∃ w2, w2 = w1.alloc (.cells #[.int .u16 gn, .int .u8 gs, .int .i64 gi] 43) := ⟨_, rfl⟩
  rw [← hw2] at HB1 HY
  obtain ⟨r2, b3, -, -, -, -⟩ := HC.out _ HB1.out
  have c0 := r2.c0; have c1 := r2.c1
  have m0 := b3.c0; have m1 := b3.c1; have m2 := b3.c2
  have y0 := HY.out.1.c0; have y1 := HY.out.1.c1; have y2 := HY.out.1.c2
  dsimp only at m0 m1 m2 y0 y1 y2
  clear r2 b3
  have HMay := Lib.hid (brMay_any ⟨(T.s : Int), ms, mi⟩ w2)
  have HAb := Lib.hid (fun u => brAbove_any ⟨(T.s : Int), ms, mi⟩ ⟨gn, gs, gi⟩ u)
  dsimp only at HMay HAb
  subst hw2
  rw [hmay] at HMay
  obtain rfl : gb = false := Hgb.out.trans HIs.out
  clear hmay HAb
  go_wp2_with (go_at_call 43; refine HMay.out.mono ?_; rintro e w3 ⟨rfl, q3⟩; skip; replace q3 := Lib.hid q3; refine Hid.out ?_)
  refine Lib.hid ?_
  have HB4 := Lib.hid (HB1.out.trans (q3.out.mono HB1.out.size))
  obtain ⟨r2, b3, -, -, -, -⟩ := HC.out _ HB4.out
  have n0 := b3.c0; have n1 := b3.c1; have n2 := b3.c2; have nf := b3.f; have l0 := r2.c0; have l1 := r2.c1
  dsimp only at n0 n1 n2
  clear r2 b3 HB1 q3 c0 c1 m0 m1 m2 y0 y1 y2 HMay HY
  obtain ⟨r2, b3, r4, b5, -, hb4⟩ := HC.out _ HB4.out
  have hgr : w3.grownBy ((w3.setCell ⟨w.heap.size + 1, 1, none⟩ (.int .u8 0)).setCell ⟨w.heap.size + 1, 2, none⟩ (.int .i64 (mi + 1))) (some (w.heap.size + 1)) := (grownBy_setCell _ _ _ _).trans (grownBy_setCell _ _ _ _)
  have hst : Mb ((w3.setCell ⟨w.heap.size + 1, 1, none⟩ (.int .u8 0)).setCell ⟨w.heap.size + 1, 2, none⟩ (.int .i64 (mi + 1))) (w.heap.size + 1) ⟨(T.s : Int), 0, mi + 1⟩ := by
    have hb := b3
    unfold Mb at hb ⊢
    simp [World.setCell, Array.getElem?_modify, hb]
  have hbz := (hb4.setCell (p := ⟨w.heap.size + 1, 1, none⟩) (by simp) (.int .u8 0)).setCell (p := ⟨w.heap.size + 1, 2, none⟩) (by simp) (.int .i64 (mi + 1))
  have HV : Hid (RtB ((w3.setCell ⟨w.heap.size + 1, 1, none⟩ (.int .u8 0)).setCell ⟨w.heap.size + 1, 2, none⟩ (.int .i64 (mi + 1))) w.heap.size (T.s : Int) a n c ∧ Mb ((w3.setCell ⟨w.heap.size + 1, 1, none⟩ (.int .u8 0)).setCell ⟨w.heap.size + 1, 2, none⟩ (.int .i64 (mi + 1))) (w.heap.size + 1) ⟨(T.s : Int), 0, mi + 1⟩ ∧ RtB ((w3.setCell ⟨w.heap.size + 1, 1, none⟩ (.int .u8 0)).setCell ⟨w.heap.size + 1, 2, none⟩ (.int .i64 (mi + 1))) (w.heap.size + 1 + 1) 0 none 0 0 ∧ Mb ((w3.setCell ⟨w.heap.size + 1, 1, none⟩ (.int .u8 0)).setCell ⟨w.heap.size + 1, 2, none⟩ (.int .i64 (mi + 1))) (w.heap.size + 1 + 1 + 1) zM ∧ Below w.heap.size w ((w3.setCell ⟨w.heap.size + 1, 1, none⟩ (.int .u8 0)).setCell ⟨w.heap.size + 1, 2, none⟩ (.int .i64 (mi + 1))) ∧ w.heap.size + 4 ≤ ((w3.setCell ⟨w.heap.size + 1, 1, none⟩ (.int .u8 0)).setCell ⟨w.heap.size + 1, 2, none⟩ (.int .i64 (mi + 1))).heap.size) := Lib.hid ⟨r2.kept hgr (by simp), hst, r4.kept hgr (by simp), b5.kept hgr (by simp; omega), hbz, by have := HSz2.out; have := HB4.out.size; simp only [World.size_setCell]; omega⟩
  clear r2 b3 r4 b5 hb4 hgr hst hbz HB4
  go_wp2_with fail
  generalize ((w3.setCell ⟨w.heap.size + 1, 1, none⟩ (.int .u8 0)).setCell ⟨w.heap.size + 1, 2, none⟩ (.int .i64 (mi + 1))) = V at *
  clear n0 n1 n2 nf l0 l1
  have HSet := Lib.hid (fun u (hu : Below V.heap.size V u) => brset_any (T.s : Int) a n c (memsB T) (⟨(T.s : Int), 0, mi + 1⟩ : Mem) u (HMw.out.on (HV.out.2.2.2.2.1.trans (hu.mono HV.out.2.2.2.2.1.size))) HN.out (by have := memsB_len T; omega))
  have HGs : Hid (G = setGo (⟨(T.s : Int), 0, mi + 1⟩ : Mem) (memsB T) false) := Lib.hid (hG.out.trans HHr.out)
  dsimp only at HSet
  unfold SetPost at HSet
  rw [← HGs.out] at HSet
  have HS1 := Lib.hid (HSet.out V.drew (Below.refl _ _).drew)
  refine wp_region_any (by kernel_rfl) ?_
  change wpAny _ _ _ _ _ _ _ (World.drew _)
  have hS : (fun w' : World => RtB w' w.heap.size (T.s : Int) a n c ∧ Mb w' (w.heap.size + 1) (⟨(T.s : Int), 0, mi + 1⟩ : Mem)) V.drew := ⟨HV.out.1.on ((Below.refl _ _).drew), HV.out.2.1.on ((Below.refl _ _).drew)⟩
  refine wpAny_of_held (S := fun w' => RtB w' w.heap.size (T.s : Int) a n c ∧ Mb w' (w.heap.size + 1) (⟨(T.s : Int), 0, mi + 1⟩ : Mem)) _ _ _ _ ?_
  refine wpAnyH_takeE (i := 0) (some 50) (v := ?_) rfl rfl (by as_aux_lemma => kernel_rfl) (by as_aux_lemma => kernel_rfl) (by as_aux_lemma => kernel_rfl) (fun _ _ _ h => h) (Or.inl ⟨by kernel_rfl, ?_⟩) hS ?_
  rotate_left
  · intro w hSw; have c0 := hSw.1.c0; have c1 := hSw.1.c1; have m0 := hSw.2.c0; have m1 := hSw.2.c1; have m2 := hSw.2.c2; dsimp only at m0 m1 m2; go_simp
    first | done | with_reducible rfl
  refine wpAnyH_takeE (i := 1) (some 51) (v := ?_) rfl rfl (by as_aux_lemma => kernel_rfl) (by as_aux_lemma => kernel_rfl) (by as_aux_lemma => kernel_rfl) (fun _ _ _ h => h) (Or.inl ⟨by kernel_rfl, ?_⟩) hS ?_
  rotate_left
  · intro w hSw; have c0 := hSw.1.c0; have c1 := hSw.1.c1; have m0 := hSw.2.c0; have m1 := hSw.2.c1; have m2 := hSw.2.c2; dsimp only at m0 m1 m2; go_simp
    first | done | with_reducible rfl
  refine wpAnyH_takeE (i := 3) (some 53) (v := ?_) rfl rfl (by as_aux_lemma => kernel_rfl) (by as_aux_lemma => kernel_rfl) (by as_aux_lemma => kernel_rfl) (fun _ _ _ h => h) (Or.inl ⟨by kernel_rfl, ?_⟩) hS ?_
  rotate_left
  · intro w hSw; have c0 := hSw.1.c0; have c1 := hSw.1.c1; have m0 := hSw.2.c0; have m1 := hSw.2.c1; have m2 := hSw.2.c2; dsimp only at m0 m1 m2; go_simp
    first | done | with_reducible rfl
  refine wpAnyH_ready (rs := [2]) (by as_aux_lemma => kernel_rfl) (by simp) ?_
  refine AllReadyH.cons rfl (fun K hK => ?_) AllReadyH.nil
  go_simp
  go_wp2_with (go_at_call 45; refine HS1.out.mono ?_; rintro e w7 ⟨a7, n7, c7, rfl, hn7, ho7, hb7⟩; subst hn7)
  refine hK.out _ _ ?_ (fun hS => ?_)
  · exact ⟨hS.1.on hb7, hS.2.on hb7⟩
  clear hK K
  replace hb7 : Below V.heap.size V w7 := ((Below.refl V.heap.size V).drew).trans hb7
  replace ho7 : OwnMx w7 V.heap.size (.slice a7 G.length c7) G := ho7
  have r7 := HV.out.2.2.1.on hb7
  have b7 := HV.out.2.2.2.1.on hb7
  have hbw := HV.out.2.2.2.2.1.trans (hb7.mono HV.out.2.2.2.2.1.size)
  have hsv := HV.out.2.2.2.2.2
  obtain ⟨w8, hw8⟩ : ∃ w8, w8 = stR w7 (w.heap.size + 1 + 1) (T.s : Int) a7 G.length c7 := ⟨_, rfl⟩
  obtain ⟨w9, hw9⟩ : ∃ w9, w9 = stM w8 (w.heap.size + 1 + 1 + 1) (⟨(T.s : Int), 0, mi + 1⟩ : Mem) := ⟨_, rfl⟩
  have HF : Hid (RtB w9 (w.heap.size + 1 + 1) (T.s : Int) a7 G.length c7 ∧ Mb w9 (w.heap.size + 1 + 1 + 1) (⟨(T.s : Int), 0, mi + 1⟩ : Mem) ∧ OwnMx w9 w.heap.size (.slice a7 G.length c7) G ∧ Below w.heap.size w w9) := Lib.hid (by
    rw [hw9, hw8]
    exact ⟨(r7.store (T.s : Int) a7 G.length c7).stM (b := w.heap.size + 1 + 1 + 1) (by omega) (⟨(T.s : Int), 0, mi + 1⟩ : Mem), (b7.stR (b := w.heap.size + 1 + 1) (by omega) (T.s : Int) a7 G.length c7).store (⟨(T.s : Int), 0, mi + 1⟩ : Mem), (((ho7.turn (stR_grown w7 (w.heap.size + 1 + 1) (T.s : Int) a7 G.length c7) (by omega)).turn (stM_grown _ (w.heap.size + 1 + 1 + 1) (⟨(T.s : Int), 0, mi + 1⟩ : Mem)) (by omega))).base (by omega), stM_below (stR_below (B := w.heap.size + 1 + 1) hbw (by omega) (T.s : Int) a7 G.length c7) (B := w.heap.size + 1 + 1 + 1) (by omega) (⟨(T.s : Int), 0, mi + 1⟩ : Mem)⟩)
  have HK1 : Hid (RtB w8 w.heap.size (T.s : Int) a n c ∧ Mb w8 (w.heap.size + 1) (⟨(T.s : Int), 0, mi + 1⟩ : Mem)) := Lib.hid (by
    rw [hw8]
    exact ⟨hS.1.kept (stR_grown w7 (w.heap.size + 1 + 1) (T.s : Int) a7 G.length c7) (by simp; omega), hS.2.kept (stR_grown w7 (w.heap.size + 1 + 1) (T.s : Int) a7 G.length c7) (by simp)⟩)
  have HK3 : Hid (RtB w9 w.heap.size (T.s : Int) a n c ∧ Mb w9 (w.heap.size + 1) (⟨(T.s : Int), 0, mi + 1⟩ : Mem)) := Lib.hid (by
    rw [hw9]
    exact ⟨HK1.out.1.kept (stM_grown _ (w.heap.size + 1 + 1 + 1) (⟨(T.s : Int), 0, mi + 1⟩ : Mem)) (by simp; omega), HK1.out.2.kept (stM_grown _ (w.heap.size + 1 + 1 + 1) (⟨(T.s : Int), 0, mi + 1⟩ : Mem)) (by simp)⟩)
  have H45 : Hid (Mb w8 (w.heap.size + 1 + 1 + 1) zM) := Lib.hid (by rw [hw8]; exact b7.stR (b := w.heap.size + 1 + 1) (by omega) (T.s : Int) a7 G.length c7)
  have z0 := r7.c0; have z1 := r7.c1; have zf := r7.f
  have hw8' : w8 = (w7.setCell ⟨w.heap.size + 1 + 1, 0, none⟩ (.int .u16 (T.s : Int))).setCell ⟨w.heap.size + 1 + 1, 1, none⟩ (.slice a7 G.length c7) := hw8
  have hw9' : w9 = ((w8.setCell ⟨w.heap.size + 1 + 1 + 1, 0, none⟩ (.int .u16 ((⟨(T.s : Int), 0, mi + 1⟩ : Mem)).n)).setCell ⟨w.heap.size + 1 + 1 + 1, 1, none⟩ (.int .u8 ((⟨(T.s : Int), 0, mi + 1⟩ : Mem)).s)).setCell ⟨w.heap.size + 1 + 1 + 1, 2, none⟩ (.int .i64 ((⟨(T.s : Int), 0, mi + 1⟩ : Mem)).i) := hw9
  dsimp only at hw9'
  replace hw8' := Lib.hid hw8'
  replace hw9' := Lib.hid hw9'
  clear r7 b7 hbw hsv ho7 hb7 hw8 hw9
  refine wpAnyH_ready (rs := [4]) (by as_aux_lemma => kernel_rfl) (by simp) ?_
  refine AllReadyH.cons rfl (fun K hK => ?_) AllReadyH.nil
  go_simp
  rw [← hw8'.out]
  refine hK.out _ _ HK1.out (fun hS => ?_)
  clear hK K z0 z1 zf
  have x0 := H45.out.c0; have x1 := H45.out.c1; have x2 := H45.out.c2; have xf := H45.out.f
  dsimp only at x0 x1 x2
  clear hw8'
  refine wpAnyH_ready (rs := [5]) (by as_aux_lemma => kernel_rfl) (by simp) ?_
  refine AllReadyH.cons rfl (fun K hK => ?_) AllReadyH.nil
  go_simp
  rw [← hw9'.out]
  refine hK.out _ _ HK3.out (fun hS => ?_)
  clear hK K x0 x1 x2 xf hw9'
  refine wpAnyH_takeE (i := 6) (some 6) (v := ?_) rfl rfl (by as_aux_lemma => kernel_rfl) (by as_aux_lemma => kernel_rfl) (by as_aux_lemma => kernel_rfl) (fun _ _ _ h => h) (Or.inl ⟨by kernel_rfl, ?_⟩) hS ?_
  rotate_left
  · intro w hSw; skip; go_simp
    first | done | with_reducible rfl
  refine wpAnyH_done (by kernel_rfl) ?_ _
  go_simp
  go_wp2
  exact bodyPost_ret (results_rt3 rfl _ _ _ _ rfl rfl HF.out.1 HF.out.2.1) rfl ⟨a7, G.length, c7, by rw [HNw.out.1, HNw.out.2]; rfl, rfl, HF.out.2.2.1.mems, fun q e => by
    obtain ⟨x, y, e2, -, h1, -⟩ := HF.out.2.2.1.form
    simp only [Value.slice.injEq] at e2
    exact .inr (h1 q (e2.1.symm.trans e)).1, HF.out.2.2.2⟩

end Go.Proofs.Ytnoconampcemoaa
