/-
  Merge and Forget of the reference.
-/
import Derived.Test.YtkbonifbnbdbkabC18
namespace Go.Proofs.Ytkbonifbnbdbkab
open Go.RowKit Go.Maps

theorem RefM.turn {w w' : World} {a : Option Addr} {c : Nat} {S : List Ent} {bm : Nat} {T : List Ent} (h : RefM w a c S) (hg : w.grownBy w' (some bm)) (hm : CMap w bm T) : RefM w' a c S := ⟨h.1.turn hg hm, h.2⟩
theorem RefM.other {w : World} {a : Option Addr} {c : Nat} {S : List Ent} (h : RefM w a c S) {X n' c' : Nat} {a' : Option Addr} (hX : RmBlk w X a' n' c') {v : Value} : RefM (w.setCell ⟨X, 0, none⟩ v) a c S := by
  by_cases hS : 0 < S.length
  · obtain ⟨b, o, ea, hlt, hc⟩ := h.1 hS
    refine ⟨h.1.other fun q e hq => ?_, h.2⟩
    rw [ea] at e
    obtain rfl := Option.some.inj e
    have h0 := hc 0 hS 1 (.int .i64 S[0].t) rfl
    have hb : b = X := hq
    subst hb
    unfold RmBlk at hX
    simp [World.cell?, hX] at h0
  · exact ⟨fun hn => absurd hn hS, h.2⟩
theorem EntsAt.otherR {w : World} {a : Option Addr} {S : List Ent} (h : EntsAt w a S) {X n' c' : Nat} {a' : Option Addr} (hX : RmBlk w X a' n' c') {v : Value} : EntsAt (w.setCell ⟨X, 0, none⟩ v) a S := by
  by_cases hS : 0 < S.length
  · obtain ⟨b, o, ea, hlt, hc⟩ := h hS
    refine h.other fun q e hq => ?_
    rw [ea] at e
    obtain rfl := Option.some.inj e
    have h0 := hc 0 hS 1 (.int .i64 S[0].t) rfl
    have hb : b = X := hq
    subst hb
    unfold RmBlk at hX
    simp [World.cell?, hX] at h0
  · exact fun hn => absurd hn hS
theorem grown_cell (w : World) (X : Nat) (v : Value) : w.grownBy (w.setCell ⟨X, 0, none⟩ v) (some X) := ⟨rfl, rfl, rfl, by simp [World.setCell], fun k _ hk => Below.heap_setCell w _ _ _ (fun e => hk (by rw [e]))⟩

theorem insC_len {x : Ent} : ∀ (S : List Ent), (insC x S).length = S.length + 1
  | [] => rfl
  | y :: l => by
    rw [insC]
    split
    · rfl
    · simp [insC_len l]
theorem cputS_rising {S : List Ent} {x : Ent} (h : RisingC S) : RisingC (cputS S x) := by
  unfold cputS
  split
  · exact putC_rising h
  · exact h
theorem mergeS_rising : ∀ (l : List Ent) {S : List Ent}, RisingC S → RisingC (mergeS S l)
  | [], _, h => h
  | _ :: l, _, h => mergeS_rising l (cputS_rising h)

theorem cputS_len {S : List Ent} {x : Ent} (h : S.length ≤ 256) : (cputS S x).length ≤ 256 := by
  unfold cputS
  split
  · rename_i hb
    have hE : cputE S x = 0 := by
      unfold cputB at hb
      rw [Bool.and_eq_true, decide_eq_true_eq] at hb
      exact hb.1
    unfold putC
    rw [insC_len]
    have hf := List.length_filter_le (fun y : Ent => !(y.key == x.key)) S
    cases hg : gotC S x.key with
    | none =>
      have : S.length < 256 := by
        by_cases h2 : 256 ≤ S.length
        · exfalso
          unfold cputE at hE
          split at hE
          · rename_i h3; exact h3 hE
          · rw [if_pos ⟨by rw [hg]; rfl, h2⟩] at hE
            exact absurd hE (by decide)
        · omega
      omega
    | some y =>
      have hm := gotC_mem hg
      have : (S.filter fun y : Ent => !(y.key == x.key)).length < S.length := List.length_filter_lt_length_iff_exists.2 ⟨y, hm.1, by simp [hm.2]⟩
      omega
  · exact h
theorem mergeS_len : ∀ (l : List Ent) {S : List Ent}, S.length ≤ 256 → (mergeS S l).length ≤ 256
  | [], _, h => h
  | _ :: l, _, h => mergeS_len l (cputS_len h)

set_option maxRecDepth 100000 in
set_option maxHeartbeats 8000000 in
theorem crForget_any (a : Option Addr) (c : Nat) (L : List Ent) (now : Int) (W : World) (h : EntsAt W a L) (hl : L.length ≤ 256) (n : Nat) (hn : n = L.length) :
    Calls Try.prog 21 #[.agg #[.slice a n c], .int .i64 now] W fun e w' => ∃ a' c', e = .returned (.tuple #[.agg #[.slice a' (viewC L now).length c'], .int .i64 ((L.length : Int) - ((viewC L now).length : Int))]) ∧ RefM w' a' c' (viewC L now) ∧ Below W.heap.size W w' := by
  have d1 := (Below.refl W.heap.size W).alloc (Nat.le_refl _) (.cells #[.slice a n c] 30)
  have d2 := d1.alloc (by simp) (.cells #[.slice none 0 0] 30)
  have f2 := (Below.refl (W.alloc (.cells #[.slice a n c] 30)).heap.size (W.alloc (.cells #[.slice a n c] 30))).alloc (Nat.le_refl _) (.cells #[.slice none 0 0] 30)
  have b1 := (RmBlk.new W a n c).on f2
  have b2 := RmBlk.new (W.alloc (.cells #[.slice a n c] 30)) none 0 0
  rw [World.size_alloc] at b2
  have HV := Lib.hid (crView_any a c L now _ (h.on d2) (by omega) n hn)
  have hvl : (viewC L now).length ≤ L.length := List.length_filter_le _ _
  generalize viewC L now = V at *
  have HN := Lib.hid (And.intro hn (And.intro hl hvl))
  rw [← hn]
  have HB := Lib.hid (And.intro b1 (And.intro b2 d2))
  have x0 := b1.c0
  clear h hl hn d1 d2 f2 b1 b2 hvl
  go_enter Try.func21, Try.ntmps21
  go_wp2_with (go_at_call 14; refine HV.out.mono ?_; rintro e w1 ⟨v, rfl, ho, q1⟩; refine Hid.out ?_)
  refine Lib.hid ?_
  obtain ⟨a1, c1, rfl, hr, -⟩ := ho.refm
  obtain ⟨nv, hnv⟩ : ∃ nv, nv = V.length := ⟨_, rfl⟩
  rw [← hnv]
  have wsub : IntKind.i64.wrap ((n : Int) - (nv : Int)) = (n : Int) - (nv : Int) := by have := HN.out; rw [IntKind.wrap_i64]; omega
  have c0 := HB.out.1.on q1
  have c1' := HB.out.2.1.on q1
  have y0 := c1'.c0; have y1 := c1'.f 0; have y2 := c1'.lt
  have HR := Lib.hid hr
  have HD := Lib.hid (HB.out.2.2.trans (q1.mono HB.out.2.2.size))
  have HK := Lib.hid c0
  have HK2 := Lib.hid (And.intro c1' c0)
  have HNv := Lib.hid hnv
  clear x0 HV HB ho q1 hr c0 c1' hnv
  go_wp2_with fail
  refine wp_region_any (by kernel_rfl) ?_
  change wpAny _ _ _ _ _ _ _ (World.drew _)
  have hS : (fun w' : World => RmBlk w' W.heap.size a n c) w1.drew := HK.out
  refine wpAny_of_held (S := fun w' => RmBlk w' W.heap.size a n c) _ _ _ _ ?_
  clear HK
  refine wpAnyH_takeE (i := 0) (some 10) (v := ?_) rfl rfl (by as_aux_lemma => kernel_rfl) (by as_aux_lemma => kernel_rfl) (by as_aux_lemma => kernel_rfl) (fun _ _ _ h => h) (Or.inl ⟨by kernel_rfl, ?_⟩) hS ?_
  rotate_left
  · intro w hSw; have x0 := hSw.c0; go_simp
    first | done | with_reducible rfl
  refine wpAnyH_takeE (i := 1) (some 11) (v := ?_) rfl rfl (by as_aux_lemma => kernel_rfl) (by as_aux_lemma => kernel_rfl) (by as_aux_lemma => kernel_rfl) (fun _ _ _ h => h) (Or.inl ⟨by kernel_rfl, ?_⟩) hS ?_
  rotate_left
  · intro w hSw; have x0 := hSw.c0; go_simp
    first | done | with_reducible rfl
  refine wpAnyH_takeE (i := 2) (some 12) (v := ?_) rfl rfl (by as_aux_lemma => kernel_rfl) (by as_aux_lemma => kernel_rfl) (by as_aux_lemma => kernel_rfl) (fun _ _ _ h => h) (Or.inl ⟨by kernel_rfl, ?_⟩) hS ?_
  rotate_left
  · intro w hSw; have x0 := hSw.c0; go_simp
    first | done | with_reducible rfl
  refine wpAnyH_takeE (i := 3) (some 13) (v := ?_) rfl rfl (by as_aux_lemma => kernel_rfl) (by as_aux_lemma => kernel_rfl) (by as_aux_lemma => kernel_rfl) (fun _ _ _ h => h) (Or.inl ⟨by kernel_rfl, ?_⟩) hS ?_
  rotate_left
  · intro w hSw; have x0 := hSw.c0; go_simp
    first | done | with_reducible rfl
  refine wpAnyH_takeE (i := 4) (some 14) (v := ?_) rfl rfl (by as_aux_lemma => kernel_rfl) (by as_aux_lemma => kernel_rfl) (by as_aux_lemma => kernel_rfl) (fun _ _ _ h => h) (Or.inl ⟨by kernel_rfl, ?_⟩) hS ?_
  rotate_left
  · intro w hSw; have x0 := hSw.c0; go_simp
    first | done | with_reducible rfl
  refine wpAnyH_takeE (i := 5) (some 15) (v := ?_) rfl rfl (by as_aux_lemma => kernel_rfl) (by as_aux_lemma => kernel_rfl) (by as_aux_lemma => kernel_rfl) (fun _ _ _ h => h) (Or.inl ⟨by kernel_rfl, ?_⟩) hS ?_
  rotate_left
  · intro w hSw; have x0 := hSw.c0; go_simp
    first | done | with_reducible rfl
  refine wpAnyH_takeE (i := 6) (some 16) (v := ?_) rfl rfl (by as_aux_lemma => kernel_rfl) (by as_aux_lemma => kernel_rfl) (by as_aux_lemma => kernel_rfl) (fun _ _ _ h => h) (Or.inl ⟨by kernel_rfl, ?_⟩) hS ?_
  rotate_left
  · intro w hSw; have x0 := hSw.c0; go_simp
    first | done | with_reducible rfl
  refine wpAnyH_takeE (i := 7) (some 17) (v := ?_) rfl rfl (by as_aux_lemma => kernel_rfl) (by as_aux_lemma => kernel_rfl) (by as_aux_lemma => kernel_rfl) (fun _ _ _ h => h) (Or.inl ⟨by kernel_rfl, ?_⟩) hS ?_
  rotate_left
  · intro w hSw; have x0 := hSw.c0; go_simp
    first | done | with_reducible rfl
  have gX := grown_cell w1 (W.heap.size + 1) (.slice a1 nv c1)
  have HK3 := Lib.hid (HK2.out.2.kept gX (fun e => by have := Option.some.inj e; omega))
  have HF := Lib.hid (And.intro (HK2.out.1.set (a' := a1) (n' := nv) (c' := c1)) (And.intro (HR.out.other HK2.out.1 (v := .slice a1 nv c1)) (HD.out.setCell (p := ⟨W.heap.size + 1, 0, none⟩) (by show W.heap.size ≤ W.heap.size + 1; omega) (.slice a1 nv c1))))
  refine wpAnyH_ready (rs := [8]) (by as_aux_lemma => kernel_rfl) (by simp) ?_
  refine AllReadyH.cons rfl (fun K hK => ?_) AllReadyH.nil
  go_simp
  go_wp2_with (fail)
  refine hK.out _ _ ?_ (fun hS => ?_)
  · exact HK3.out
  clear hK K
  refine wpAnyH_takeE (i := 9) (some 5) (v := ?_) rfl rfl (by as_aux_lemma => kernel_rfl) (by as_aux_lemma => kernel_rfl) (by as_aux_lemma => kernel_rfl) (fun _ _ _ h => h) (Or.inl ⟨by kernel_rfl, ?_⟩) hS ?_
  rotate_left
  · intro w hSw; skip; go_simp
    first | done | with_reducible rfl
  refine wpAnyH_done (by kernel_rfl) ?_ _
  clear hS HK2 HK3 gX HR HD
  go_simp
  go_wp2
  refine bodyPost_ret (v := .tuple #[.agg #[.slice a1 nv c1], .int .i64 ((n : Int) - (nv : Int))]) (by have k0 := HF.out.1.c0; simp [results, Try.results21, go_sem, k0]) rfl ?_
  exact ⟨a1, c1, by rw [HNv.out], HF.out.2.1, HF.out.2.2.drew⟩

set_option maxRecDepth 100000 in
set_option maxHeartbeats 16000000 in
theorem crMerge_any (a0 : Option Addr) (c0 n0 : Nat) (S0 : List Ent) (aA : Option Addr) (nA cA : Nat) (lA : List Ent) (W : World) (h : RefM W a0 c0 S0) (hn0 : n0 = S0.length) (hR : RisingC S0) (hS : S0.length ≤ 256) (heA : EntsAt W aA lA) (hA : nA = lA.length) (hl : nA ≤ 100000) :
    Calls Try.prog 9 #[.agg #[.slice a0 n0 c0], .slice aA nA cA] W fun e w' => ∃ a' c', e = .returned (.tuple #[.agg #[.slice a' (mergeS S0 lA).length c'], .int .i64 (mergeN S0 lA : Int)]) ∧ RefM w' a' c' (mergeS S0 lA) ∧ Below W.heap.size W w' := by
  have d1 := (Below.refl W.heap.size W).alloc (Nat.le_refl _) (.cells #[.slice a0 n0 c0] 30)
  have d2 := d1.alloc (by simp) (.cells #[.slice none 0 0] 30)
  have f2 := (Below.refl (W.alloc (.cells #[.slice a0 n0 c0] 30)).heap.size (W.alloc (.cells #[.slice a0 n0 c0] 30))).alloc (Nat.le_refl _) (.cells #[.slice none 0 0] 30)
  have b1 := (RmBlk.new W a0 n0 c0).on f2
  have b2 := RmBlk.new (W.alloc (.cells #[.slice a0 n0 c0] 30)) none 0 0
  rw [World.size_alloc] at b2
  have HI0 : Hid (0 = mergeN S0 (lA.take 0) ∧ RmBlk ((W.alloc (.cells #[.slice a0 n0 c0] 30)).alloc (.cells #[.slice none 0 0] 30)) W.heap.size a0 n0 c0 ∧ RmBlk ((W.alloc (.cells #[.slice a0 n0 c0] 30)).alloc (.cells #[.slice none 0 0] 30)) (W.heap.size + 1) none 0 0 ∧ n0 = (mergeS S0 (lA.take 0)).length ∧ RefM ((W.alloc (.cells #[.slice a0 n0 c0] 30)).alloc (.cells #[.slice none 0 0] 30)) a0 c0 (mergeS S0 (lA.take 0)) ∧ EntsAt ((W.alloc (.cells #[.slice a0 n0 c0] 30)).alloc (.cells #[.slice none 0 0] 30)) aA lA ∧ Below W.heap.size W ((W.alloc (.cells #[.slice a0 n0 c0] 30)).alloc (.cells #[.slice none 0 0] 30))) := Lib.hid ⟨by simp [mergeN], b1, b2, by simpa [mergeS] using hn0, by simpa [mergeS] using h.on d2, heA.on d2, d2⟩
  have HNA := Lib.hid hA
  have HR0 := Lib.hid (And.intro hR hS)
  clear d1 d2 f2 b1 b2 h hn0 hR hS heA hA
  go_enter Try.func9, Try.ntmps9
  go_wp2
  generalize ((W.alloc (.cells #[.slice a0 n0 c0] 30)).alloc (.cells #[.slice none 0 0] 30)) = w3 at *
  go_loopw [6, 7] (fun v i wr => ∃ (k m : Nat) (aR : Option Addr) (nR cR : Nat), k ≤ nA ∧ m ≤ k ∧ v = .int .i64 (m : Int) ∧ i = .int .i64 (k : Int) ∧ Hid (m = mergeN S0 (lA.take k) ∧ RmBlk wr W.heap.size aR nR cR ∧ RmBlk wr (W.heap.size + 1) none 0 0 ∧ nR = (mergeS S0 (lA.take k)).length ∧ RefM wr aR cR (mergeS S0 (lA.take k)) ∧ EntsAt wr aA lA ∧ Below W.heap.size W wr)) (fun _ i _ => nA - (intOf i).toNat)
  case atStart => exact ⟨0, 0, a0, n0, c0, Nat.zero_le _, Nat.le_refl _, rfl, rfl, HI0⟩
  case round =>
    clear HI0
    obtain ⟨k, m, aR, nR, cR, hk, hmk, rfl, rfl, HI⟩ := hrel
    by_cases hlt : k < nA
    · have hkl : (k : Int) < (nA : Int) := by omega
      have hkx : k < lA.length := by have := HNA.out; omega
      obtain ⟨hmm, r, z, hnR, f, x, q⟩ := HI.out
      obtain ⟨bA, oA, rfl, row⟩ := x.row k hkx
      have HRow : Hid (∀ u, EntsAt u (some ⟨bA, oA, none⟩) lA → RowAt u bA (oA + k * 5) lA[k]) := Lib.hid (fun u hu => by
        obtain ⟨b', o', e, hr⟩ := hu.row k hkx
        obtain ⟨rfl, rfl⟩ : bA = b' ∧ oA = o' := by simpa using e
        exact hr)
      have HS1 := Lib.hid (mergeS_succ S0 lA k hkx)
      have HM1 := Lib.hid (mergeN_succ S0 lA k hkx)
      have hri := mergeS_rising (lA.take k) HR0.out.1
      have hle := mergeS_len (lA.take k) HR0.out.2
      rw [← hmm] at HM1
      obtain ⟨S, hS⟩ : ∃ S, mergeS S0 (lA.take k) = S := ⟨_, rfl⟩
      rw [hS] at hnR f HS1 HM1 hri hle
      have hPr : ∀ u, RefM u aR cR S → Calls Try.prog 25 #[.agg #[.slice aR nR cR], .agg #[.string lA[k].k, .int .i64 lA[k].t, .int .u16 lA[k].o, .string lA[k].v, .int .i64 lA[k].u]] u (CPutPost u S lA[k]) := fun u hu => crPut_any aR cR S lA[k] u hu hri hle nR hnR
      unfold CPutPost at hPr
      generalize lA[k] = y at *
      clear hS hkx HI hmm hri hle
      obtain ⟨ky, ty, oy, vy, uy⟩ := y
      obtain ⟨S', hS'⟩ : ∃ z, cputS S ⟨ky, ty, oy, vy, uy⟩ = z := ⟨_, rfl⟩
      obtain ⟨B', hB'⟩ : ∃ z, cputB S ⟨ky, ty, oy, vy, uy⟩ = z := ⟨_, rfl⟩
      obtain ⟨E', hE'⟩ : ∃ z, cputE S ⟨ky, ty, oy, vy, uy⟩ = z := ⟨_, rfl⟩
      rw [hS', hB', hE'] at hPr
      rw [hS'] at HS1
      rw [hB'] at HM1
      clear hS' hB' hE'
      obtain ⟨ns, hns⟩ : ∃ z, S'.length = z := ⟨_, rfl⟩
      rw [hns] at hPr
      have HNs := Lib.hid hns
      dsimp only at hPr
      have HPr := Lib.hid hPr
      clear hns hPr hnR
      have hl9 := hl
      go_wp2_with fail
      refine wp_region_any (by kernel_rfl) ?_
      change wpAny _ _ _ _ _ _ _ (World.drew _)
      have hS : (fun w' : World => RmBlk w' W.heap.size aR nR cR ∧ RowAt w' bA (oA + k * 5) ⟨ky, ty, oy, vy, uy⟩ ∧ RmBlk w' (W.heap.size + 1) none 0 0 ∧ RefM w' aR cR S ∧ EntsAt w' (some ⟨bA, oA, none⟩) lA ∧ Below W.heap.size W w') wr.drew := ⟨r, row, z, ⟨f.1, f.2⟩, x, q.drew⟩
      refine wpAny_of_held (S := fun w' => RmBlk w' W.heap.size aR nR cR ∧ RowAt w' bA (oA + k * 5) ⟨ky, ty, oy, vy, uy⟩ ∧ RmBlk w' (W.heap.size + 1) none 0 0 ∧ RefM w' aR cR S ∧ EntsAt w' (some ⟨bA, oA, none⟩) lA ∧ Below W.heap.size W w') _ _ _ _ ?_
      clear r row z f x q
      refine wpAnyH_takeE (i := 0) (some 18) (v := ?_) rfl rfl (by as_aux_lemma => kernel_rfl) (by as_aux_lemma => kernel_rfl) (by as_aux_lemma => kernel_rfl) (fun _ _ _ h => h) (Or.inl ⟨by kernel_rfl, ?_⟩) hS ?_
      rotate_left
      · intro w hSw; have r0 := hSw.1.c0; obtain ⟨d0, d1, d2, d3, d4⟩ := hSw.2.1; dsimp only at d0 d1 d2 d3 d4; go_simp
        first | done | with_reducible rfl
      refine wpAnyH_takeE (i := 1) (some 19) (v := ?_) rfl rfl (by as_aux_lemma => kernel_rfl) (by as_aux_lemma => kernel_rfl) (by as_aux_lemma => kernel_rfl) (fun _ _ _ h => h) (Or.inl ⟨by kernel_rfl, ?_⟩) hS ?_
      rotate_left
      · intro w hSw; have r0 := hSw.1.c0; obtain ⟨d0, d1, d2, d3, d4⟩ := hSw.2.1; dsimp only at d0 d1 d2 d3 d4; go_simp
        first | done | with_reducible rfl
      refine wpAnyH_takeE (i := 2) (some 20) (v := ?_) rfl rfl (by as_aux_lemma => kernel_rfl) (by as_aux_lemma => kernel_rfl) (by as_aux_lemma => kernel_rfl) (fun _ _ _ h => h) (Or.inl ⟨by kernel_rfl, ?_⟩) hS ?_
      rotate_left
      · intro w hSw; have r0 := hSw.1.c0; obtain ⟨d0, d1, d2, d3, d4⟩ := hSw.2.1; dsimp only at d0 d1 d2 d3 d4; go_simp
        first | done | with_reducible rfl
      refine wpAnyH_takeE (i := 3) (some 21) (v := ?_) rfl rfl (by as_aux_lemma => kernel_rfl) (by as_aux_lemma => kernel_rfl) (by as_aux_lemma => kernel_rfl) (fun _ _ _ h => h) (Or.inl ⟨by kernel_rfl, ?_⟩) hS ?_
      rotate_left
      · intro w hSw; have r0 := hSw.1.c0; obtain ⟨d0, d1, d2, d3, d4⟩ := hSw.2.1; dsimp only at d0 d1 d2 d3 d4; go_simp
        first | done | with_reducible rfl
      refine wpAnyH_takeE (i := 4) (some 22) (v := ?_) rfl rfl (by as_aux_lemma => kernel_rfl) (by as_aux_lemma => kernel_rfl) (by as_aux_lemma => kernel_rfl) (fun _ _ _ h => h) (Or.inl ⟨by kernel_rfl, ?_⟩) hS ?_
      rotate_left
      · intro w hSw; have r0 := hSw.1.c0; obtain ⟨d0, d1, d2, d3, d4⟩ := hSw.2.1; dsimp only at d0 d1 d2 d3 d4; go_simp
        first | done | with_reducible rfl
      refine wpAnyH_ready (rs := [5, 10]) (by as_aux_lemma => kernel_rfl) (by simp) ?_
      refine AllReadyH.cons rfl (fun K hK => ?_) (AllReadyH.cons rfl (fun K hK => ?_) AllReadyH.nil)
      · go_simp
        go_wp2_with (go_at_call 25; refine (HPr.out _ hS.2.2.2.1).mono ?_; rintro e u ⟨a', c', rfl, f', q'⟩)
        refine hK.out _ _ ?_ (fun hS => ?_)
        · exact ⟨hS.1.on q', hS.2.1.on q', hS.2.2.1.on q', hS.2.2.2.1.on q', hS.2.2.2.2.1.on q', hS.2.2.2.2.2.trans (q'.mono hS.2.2.2.2.2.size)⟩
        clear hK K
        refine wpAnyH_takeE (i := 6) (some 17) (v := ?_) rfl rfl (by as_aux_lemma => kernel_rfl) (by as_aux_lemma => kernel_rfl) (by as_aux_lemma => kernel_rfl) (fun _ _ _ h => h) (Or.inl ⟨by kernel_rfl, ?_⟩) hS ?_
        rotate_left
        · intro w hSw; have r0 := hSw.1.c0; obtain ⟨d0, d1, d2, d3, d4⟩ := hSw.2.1; dsimp only at d0 d1 d2 d3 d4; go_simp
          first | done | with_reducible rfl
        refine wpAnyH_takeE (i := 7) (some 24) (v := ?_) rfl rfl (by as_aux_lemma => kernel_rfl) (by as_aux_lemma => kernel_rfl) (by as_aux_lemma => kernel_rfl) (fun _ _ _ h => h) (Or.inl ⟨by kernel_rfl, ?_⟩) hS ?_
        rotate_left
        · intro w hSw; have r0 := hSw.1.c0; obtain ⟨d0, d1, d2, d3, d4⟩ := hSw.2.1; dsimp only at d0 d1 d2 d3 d4; go_simp
          first | done | with_reducible rfl
        refine wpAnyH_takeE (i := 8) (some 25) (v := ?_) rfl rfl (by as_aux_lemma => kernel_rfl) (by as_aux_lemma => kernel_rfl) (by as_aux_lemma => kernel_rfl) (fun _ _ _ h => h) (Or.inl ⟨by kernel_rfl, ?_⟩) hS ?_
        rotate_left
        · intro w hSw; have r0 := hSw.1.c0; obtain ⟨d0, d1, d2, d3, d4⟩ := hSw.2.1; dsimp only at d0 d1 d2 d3 d4; go_simp
          first | done | with_reducible rfl
        refine wpAnyH_takeE (i := 9) (some 26) (v := ?_) rfl rfl (by as_aux_lemma => kernel_rfl) (by as_aux_lemma => kernel_rfl) (by as_aux_lemma => kernel_rfl) (fun _ _ _ h => h) (Or.inl ⟨by kernel_rfl, ?_⟩) hS ?_
        rotate_left
        · intro w hSw; have r0 := hSw.1.c0; obtain ⟨d0, d1, d2, d3, d4⟩ := hSw.2.1; dsimp only at d0 d1 d2 d3 d4; go_simp
          first | done | with_reducible rfl
        have dX := (Below.refl u.heap.size u).alloc (Nat.le_refl _) (.cells #[.slice none 0 0] 30)
        refine wpAnyH_ready (rs := [10]) (by as_aux_lemma => kernel_rfl) (by simp) ?_
        refine AllReadyH.cons rfl (fun K hK => ?_) AllReadyH.nil
        go_simp
        have hXs : W.heap.size + 1 < u.heap.size := hS.2.2.1.lt
        refine hK.out _ _ ⟨hS.1.on dX, hS.2.1.on dX, hS.2.2.1.on dX, hS.2.2.2.1.on dX, hS.2.2.2.2.1.on dX, hS.2.2.2.2.2.trans (dX.mono hS.2.2.2.2.2.size)⟩ (fun hS => ?_)
        clear hK K
        have nb : RmBlk (u.alloc (.cells #[.slice none 0 0] 30)) u.heap.size none 0 0 := RmBlk.new u none 0 0
        have f2 := f'.on dX
        clear f' dX q'
        generalize hy : u.alloc (.cells #[.slice none 0 0] 30) = u2 at *
        clear hy
        generalize u.heap.size = X at *
        have z0 := nb.c0
        have zf := nb.f 0
        refine wpAnyH_ready (rs := [11]) (by as_aux_lemma => kernel_rfl) (by simp) ?_
        refine AllReadyH.cons rfl (fun K hK => ?_) AllReadyH.nil
        go_simp
        have gX := grown_cell (u2) X (.slice a' ns c')
        refine hK.out _ _ ⟨hS.1.kept gX (fun e => by have := Option.some.inj e; omega), HRow.out _ (hS.2.2.2.2.1.otherR nb), hS.2.2.1.kept gX (fun e => by have := Option.some.inj e; omega), hS.2.2.2.1.other nb, hS.2.2.2.2.1.otherR nb, hS.2.2.2.2.2.setCell (p := ⟨X, 0, none⟩) (by show W.heap.size ≤ X; omega) _⟩ (fun hS => ?_)
        clear hK K z0 zf gX
        have f3 : RefM ((u2).setCell ⟨X, 0, none⟩ (.slice a' ns c')) a' c' S' := f2.other nb
        have nb3 : RmBlk ((u2).setCell ⟨X, 0, none⟩ (.slice a' ns c')) X a' ns c' := nb.set
        clear nb f2
        refine wpAnyH_takeE (i := 12) (some 9) (v := ?_) rfl rfl (by as_aux_lemma => kernel_rfl) (by as_aux_lemma => kernel_rfl) (by as_aux_lemma => kernel_rfl) (fun _ _ _ h => h) (Or.inl ⟨by kernel_rfl, ?_⟩) hS ?_
        rotate_left
        · intro w hSw; have r0 := hSw.1.c0; obtain ⟨d0, d1, d2, d3, d4⟩ := hSw.2.1; dsimp only at d0 d1 d2 d3 d4; go_simp
          first | done | with_reducible rfl
        refine wpAnyH_takeE (i := 13) (some 10) (v := ?_) rfl rfl (by as_aux_lemma => kernel_rfl) (by as_aux_lemma => kernel_rfl) (by as_aux_lemma => kernel_rfl) (fun _ _ _ h => h) (Or.inl ⟨by kernel_rfl, ?_⟩) hS ?_
        rotate_left
        · intro w hSw; have r0 := hSw.1.c0; obtain ⟨d0, d1, d2, d3, d4⟩ := hSw.2.1; dsimp only at d0 d1 d2 d3 d4; go_simp
          first | done | with_reducible rfl
        have h5 := hS
        refine wpAnyH_done (by kernel_rfl) ?_ _
        clear hS
        go_simp
        generalize ((u2).setCell ⟨X, 0, none⟩ (.slice a' ns c')) = w5 at *
        have y0 := nb3.c0
        have s0 := h5.1.c0
        have sf := h5.1.f 0
        have sl := h5.1.lt
        have gR := grown_cell w5 W.heap.size (.slice a' ns c')
        have HJ : Hid (RmBlk (w5.setCell ⟨W.heap.size, 0, none⟩ (.slice a' ns c')) W.heap.size a' ns c' ∧ RmBlk (w5.setCell ⟨W.heap.size, 0, none⟩ (.slice a' ns c')) (W.heap.size + 1) none 0 0 ∧ ns = S'.length ∧ RefM (w5.setCell ⟨W.heap.size, 0, none⟩ (.slice a' ns c')) a' c' S' ∧ EntsAt (w5.setCell ⟨W.heap.size, 0, none⟩ (.slice a' ns c')) (some ⟨bA, oA, none⟩) lA ∧ Below W.heap.size W (w5.setCell ⟨W.heap.size, 0, none⟩ (.slice a' ns c'))) := Lib.hid ⟨h5.1.set, h5.2.2.1.kept gR (fun e => by have := Option.some.inj e; omega), HNs.out.symm, f3.other h5.1, h5.2.2.2.2.1.otherR h5.1, h5.2.2.2.2.2.setCell (p := ⟨W.heap.size, 0, none⟩) (Nat.le_refl _) _⟩
        clear gR h5 f3 nb3
        rw [← HS1.out] at HJ
        cases B' with
        | true =>
          have HM2 : Hid (m + 1 = mergeN S0 (lA.take (k + 1))) := Lib.hid (by rw [HM1.out]; rfl)
          clear HM1
          go_wp2
          go_roundw
          case rel => exact ⟨k + 1, m + 1, a', ns, c', by omega, by omega, by go_num, by go_num, Lib.hid ⟨HM2.out, HJ.out⟩⟩
          case measure => simp [intOf]; omega
        | false =>
          have HM2 : Hid (m = mergeN S0 (lA.take (k + 1))) := Lib.hid (by rw [HM1.out]; rfl)
          clear HM1
          go_wp2
          go_roundw
          case rel => exact ⟨k + 1, m, a', ns, c', by omega, by omega, rfl, by go_num, Lib.hid ⟨HM2.out, HJ.out⟩⟩
          case measure => simp [intOf]; omega
      · go_simp
        have dX : Below wr.drew.heap.size wr.drew (wr.alloc (.cells #[.slice none 0 0] 30)).drew := (Below.refl wr.drew.heap.size wr.drew).alloc (Nat.le_refl _) (.cells #[.slice none 0 0] 30)
        have hXs : W.heap.size + 1 < wr.heap.size := hS.2.2.1.lt
        have nb0 : RmBlk (wr.alloc (.cells #[.slice none 0 0] 30)).drew wr.heap.size none 0 0 := RmBlk.new wr none 0 0
        refine hK.out _ _ ⟨hS.1.on dX, hS.2.1.on dX, hS.2.2.1.on dX, hS.2.2.2.1.on dX, hS.2.2.2.2.1.on dX, hS.2.2.2.2.2.trans (dX.mono hS.2.2.2.2.2.size)⟩ (fun hS => ?_)
        clear hK K dX
        refine wpAnyH_ready (rs := [5]) (by as_aux_lemma => kernel_rfl) (by simp) ?_
        refine AllReadyH.cons rfl (fun K hK => ?_) AllReadyH.nil
        go_simp
        go_wp2_with (go_at_call 25; refine (HPr.out _ hS.2.2.2.1).mono ?_; rintro e u ⟨a', c', rfl, f', q'⟩)
        have nb := nb0.on q'
        refine hK.out _ _ ?_ (fun hS => ?_)
        · exact ⟨hS.1.on q', hS.2.1.on q', hS.2.2.1.on q', hS.2.2.2.1.on q', hS.2.2.2.2.1.on q', hS.2.2.2.2.2.trans (q'.mono hS.2.2.2.2.2.size)⟩
        clear hK K q' nb0
        have f2 := f'
        clear f'
        refine wpAnyH_takeE (i := 6) (some 17) (v := ?_) rfl rfl (by as_aux_lemma => kernel_rfl) (by as_aux_lemma => kernel_rfl) (by as_aux_lemma => kernel_rfl) (fun _ _ _ h => h) (Or.inl ⟨by kernel_rfl, ?_⟩) hS ?_
        rotate_left
        · intro w hSw; have r0 := hSw.1.c0; obtain ⟨d0, d1, d2, d3, d4⟩ := hSw.2.1; dsimp only at d0 d1 d2 d3 d4; go_simp
          first | done | with_reducible rfl
        refine wpAnyH_takeE (i := 7) (some 24) (v := ?_) rfl rfl (by as_aux_lemma => kernel_rfl) (by as_aux_lemma => kernel_rfl) (by as_aux_lemma => kernel_rfl) (fun _ _ _ h => h) (Or.inl ⟨by kernel_rfl, ?_⟩) hS ?_
        rotate_left
        · intro w hSw; have r0 := hSw.1.c0; obtain ⟨d0, d1, d2, d3, d4⟩ := hSw.2.1; dsimp only at d0 d1 d2 d3 d4; go_simp
          first | done | with_reducible rfl
        refine wpAnyH_takeE (i := 8) (some 25) (v := ?_) rfl rfl (by as_aux_lemma => kernel_rfl) (by as_aux_lemma => kernel_rfl) (by as_aux_lemma => kernel_rfl) (fun _ _ _ h => h) (Or.inl ⟨by kernel_rfl, ?_⟩) hS ?_
        rotate_left
        · intro w hSw; have r0 := hSw.1.c0; obtain ⟨d0, d1, d2, d3, d4⟩ := hSw.2.1; dsimp only at d0 d1 d2 d3 d4; go_simp
          first | done | with_reducible rfl
        refine wpAnyH_takeE (i := 9) (some 26) (v := ?_) rfl rfl (by as_aux_lemma => kernel_rfl) (by as_aux_lemma => kernel_rfl) (by as_aux_lemma => kernel_rfl) (fun _ _ _ h => h) (Or.inl ⟨by kernel_rfl, ?_⟩) hS ?_
        rotate_left
        · intro w hSw; have r0 := hSw.1.c0; obtain ⟨d0, d1, d2, d3, d4⟩ := hSw.2.1; dsimp only at d0 d1 d2 d3 d4; go_simp
          first | done | with_reducible rfl
        generalize wr.heap.size = X at *
        have z0 := nb.c0
        have zf := nb.f 0
        refine wpAnyH_ready (rs := [11]) (by as_aux_lemma => kernel_rfl) (by simp) ?_
        refine AllReadyH.cons rfl (fun K hK => ?_) AllReadyH.nil
        go_simp
        have gX := grown_cell (u) X (.slice a' ns c')
        refine hK.out _ _ ⟨hS.1.kept gX (fun e => by have := Option.some.inj e; omega), HRow.out _ (hS.2.2.2.2.1.otherR nb), hS.2.2.1.kept gX (fun e => by have := Option.some.inj e; omega), hS.2.2.2.1.other nb, hS.2.2.2.2.1.otherR nb, hS.2.2.2.2.2.setCell (p := ⟨X, 0, none⟩) (by show W.heap.size ≤ X; omega) _⟩ (fun hS => ?_)
        clear hK K z0 zf gX
        have f3 : RefM ((u).setCell ⟨X, 0, none⟩ (.slice a' ns c')) a' c' S' := f2.other nb
        have nb3 : RmBlk ((u).setCell ⟨X, 0, none⟩ (.slice a' ns c')) X a' ns c' := nb.set
        clear nb f2
        refine wpAnyH_takeE (i := 12) (some 9) (v := ?_) rfl rfl (by as_aux_lemma => kernel_rfl) (by as_aux_lemma => kernel_rfl) (by as_aux_lemma => kernel_rfl) (fun _ _ _ h => h) (Or.inl ⟨by kernel_rfl, ?_⟩) hS ?_
        rotate_left
        · intro w hSw; have r0 := hSw.1.c0; obtain ⟨d0, d1, d2, d3, d4⟩ := hSw.2.1; dsimp only at d0 d1 d2 d3 d4; go_simp
          first | done | with_reducible rfl
        refine wpAnyH_takeE (i := 13) (some 10) (v := ?_) rfl rfl (by as_aux_lemma => kernel_rfl) (by as_aux_lemma => kernel_rfl) (by as_aux_lemma => kernel_rfl) (fun _ _ _ h => h) (Or.inl ⟨by kernel_rfl, ?_⟩) hS ?_
        rotate_left
        · intro w hSw; have r0 := hSw.1.c0; obtain ⟨d0, d1, d2, d3, d4⟩ := hSw.2.1; dsimp only at d0 d1 d2 d3 d4; go_simp
          first | done | with_reducible rfl
        have h5 := hS
        refine wpAnyH_done (by kernel_rfl) ?_ _
        clear hS
        go_simp
        generalize ((u).setCell ⟨X, 0, none⟩ (.slice a' ns c')) = w5 at *
        have y0 := nb3.c0
        have s0 := h5.1.c0
        have sf := h5.1.f 0
        have sl := h5.1.lt
        have gR := grown_cell w5 W.heap.size (.slice a' ns c')
        have HJ : Hid (RmBlk (w5.setCell ⟨W.heap.size, 0, none⟩ (.slice a' ns c')) W.heap.size a' ns c' ∧ RmBlk (w5.setCell ⟨W.heap.size, 0, none⟩ (.slice a' ns c')) (W.heap.size + 1) none 0 0 ∧ ns = S'.length ∧ RefM (w5.setCell ⟨W.heap.size, 0, none⟩ (.slice a' ns c')) a' c' S' ∧ EntsAt (w5.setCell ⟨W.heap.size, 0, none⟩ (.slice a' ns c')) (some ⟨bA, oA, none⟩) lA ∧ Below W.heap.size W (w5.setCell ⟨W.heap.size, 0, none⟩ (.slice a' ns c'))) := Lib.hid ⟨h5.1.set, h5.2.2.1.kept gR (fun e => by have := Option.some.inj e; omega), HNs.out.symm, f3.other h5.1, h5.2.2.2.2.1.otherR h5.1, h5.2.2.2.2.2.setCell (p := ⟨W.heap.size, 0, none⟩) (Nat.le_refl _) _⟩
        clear gR h5 f3 nb3
        rw [← HS1.out] at HJ
        cases B' with
        | true =>
          have HM2 : Hid (m + 1 = mergeN S0 (lA.take (k + 1))) := Lib.hid (by rw [HM1.out]; rfl)
          clear HM1
          go_wp2
          go_roundw
          case rel => exact ⟨k + 1, m + 1, a', ns, c', by omega, by omega, by go_num, by go_num, Lib.hid ⟨HM2.out, HJ.out⟩⟩
          case measure => simp [intOf]; omega
        | false =>
          have HM2 : Hid (m = mergeN S0 (lA.take (k + 1))) := Lib.hid (by rw [HM1.out]; rfl)
          clear HM1
          go_wp2
          go_roundw
          case rel => exact ⟨k + 1, m, a', ns, c', by omega, by omega, rfl, by go_num, Lib.hid ⟨HM2.out, HJ.out⟩⟩
          case measure => simp [intOf]; omega
    · have hkl : ¬ (k : Int) < (nA : Int) := by omega
      have hkn : k = lA.length := by have := HNA.out; omega
      obtain ⟨hmm, r, z, hnR, f, x, q⟩ := HI.out
      rw [hkn, List.take_length] at hmm hnR f
      have HMM := Lib.hid hmm
      have r0 := r.c0; have z0 := z.c0; have zf := z.f 0; have zl := z.lt
      have HF := Lib.hid (And.intro (z.set (a' := aR) (n' := nR) (c' := cR)) (And.intro (f.other z (v := .slice aR nR cR)) (q.setCell (p := ⟨W.heap.size + 1, 0, none⟩) (by show W.heap.size ≤ W.heap.size + 1; omega) (.slice aR nR cR))))
      have HNR := Lib.hid hnR
      clear r z f x q hnR HI hkn hmm
      go_wp2
      refine bodyPost_ret (v := .tuple #[.agg #[.slice aR nR cR], .int .i64 (m : Int)]) (by have k0 := HF.out.1.c0; simp [results, Try.results9, go_sem, k0]) rfl ?_
      exact ⟨aR, cR, by rw [← HNR.out, ← HMM.out], HF.out.2.1, HF.out.2.2⟩


end Go.Proofs.Ytkbonifbnbdbkab
