/-
  The reference's sets, with ^.
-/
import Derived.Test.YtcngifkoopcmeaaGreatDoorK28
namespace Go.Proofs.YtcngifkoopcmeaaGreatDoor
open Go.RowKit


set_option maxRecDepth 20000 in
set_option maxHeartbeats 8000000 in
theorem set_hat (s : ByteArray) (w : World) (hs : s.size ≤ 9223372036854775807) (hx1 : 0 < s.size) (hx2 : ((s[0].toNat : Int) == 94) = true) (R : Option (BSet × List UInt8)) (HI0 : Hid (Inv R 0 noneB (s.extract 1 s.size).data.toList)) (HN : Hid (R = none → pSet s.data.toList = none)) (HS : Hid (∀ T x, R = some (T, x) → pSet s.data.toList = some (notB T, x))) : Calls Tryz.prog 207 #[.string s] w fun e w' => SE s.data.toList e ∧ Below w.heap.size w w' := by
  have kz := zero_tree
  have hx3 : (0 : Int) < (s.size : Int) := by omega
  have hx4 : (1 : Int) ≤ (s.size : Int) := by omega
  go_enter Tryz.func207, Tryz.ntmps207
  go_wp2_with fail
  have t1 := (TreeBlk.new w (noT 0)).alloc (.cells (treeC (noT 0)) 207)
  have t2 := TreeBlk.new' (w.alloc (.cells (treeC (noT 0)) 207)) (noT 0) (w.heap.size + 1) (by simp)
  have hb0 := ((Below.refl w.heap.size w).alloc (Nat.le_refl _) (.cells (treeC (noT 0)) 207)).alloc (by simp) (.cells (treeC (noT 0)) 207)
  generalize (w.alloc (.cells (treeC (noT 0)) 207)).alloc (.cells (treeC (noT 0)) 207) = W at *
  clear kz
  go_loopw [0, 7] (fun sv nv wr => ∃ (s1 : ByteArray) (n : Nat) (T : BSet), sv = .string s1 ∧ nv = .int .i64 n ∧ s1.size + n ≤ s.size ∧ Hid (Inv R n T s1.data.toList) ∧ TreeBlk wr (w.heap.size + 1) (oneT T) ∧ TreeBlk wr w.heap.size (noT 0) ∧ Below w.heap.size w wr) (fun sv _ _ => strSize sv)
  case atStart => exact ⟨s.extract 1 s.size, 0, noneB, rfl, rfl, by rw [ByteArray.size_extract]; omega, HI0, t2, t1, hb0⟩
  case round =>
    obtain ⟨s1, n, T, rfl, rfl, hsz, HI, t2, t1, hb⟩ := hrel
    obtain ⟨wo, rfl⟩ : ∃ x, x = wr := ⟨_, rfl⟩
    by_cases h0 : s1.size = 0
    · have hp : ¬ (0 : Int) < (s1.size : Int) := by omega
      have hne := isEmpty_yes h0
      rw [bytes_nil h0] at HI
      have HF := Lib.hid (HN.out HI.out.nil)
      clear HN HS HI
      go_wp2_with (refine stop_load _ rfl ?_)
      refine Lib.hid ?_
      refine wp_load_tree _ rfl _ rfl t2 ?_
      have kn := treeC_size (oneT (T))
      have ks := t1.storeCells (oneT (T))
      have t3 := t1.row (oneT (T))
      have hb3 := below_setRow hb w.heap.size (Nat.le_refl _) (treeC (oneT (T)))
      generalize World.setRow _ _ _ = W3 at *
      go_wp2
      exact bodyPost_ret (results_tree3 rfl _ _ _ rfl t3) rfl ⟨.inl ⟨HF.out, _, rfl⟩, hb3⟩
    have hp : (0 : Int) < (s1.size : Int) := by omega
    have hp2 : 0 < s1.size := by omega
    have hne := isEmpty_no hp2
    rw [bytes_cons s1 hp2] at HI
    by_cases h93 : s1[0] = 93
    · have q93 : ((s1[0].toNat : Int) != 93) = false := bne_no (n := 93) (by decide) h93
      rw [h93] at HI
      by_cases hn : n = 0
      · subst hn
        have HF := Lib.hid (HN.out HI.out.zero)
        clear HN HS HI h93
        go_wp2_with (refine stop_load _ rfl ?_)
        refine Lib.hid ?_
        refine wp_load_tree _ rfl _ rfl t2 ?_
        have kn := treeC_size (oneT (T))
        have ks := t1.storeCells (oneT (T))
        have t3 := t1.row (oneT (T))
        have hb3 := below_setRow hb w.heap.size (Nat.le_refl _) (treeC (oneT (T)))
        generalize World.setRow _ _ _ = W3 at *
        go_wp2
        exact bodyPost_ret (results_tree3 rfl _ _ _ rfl t3) rfl ⟨.inl ⟨HF.out, _, rfl⟩, hb3⟩
      have hn1 : ((n : Int) == 0) = false := by rw [beq_eq_false_iff_ne]; omega
      have HF := Lib.hid (HS.out _ _ (HI.out.close hn))
      clear HN HS HI h93
      go_wp2_with fail
      go_loopw [13] (fun iv wz => ∃ k : Nat, k ≤ 256 ∧ iv = .int .i64 k ∧ TreeBlk wz (w.heap.size + 1) (oneT (negB T k)) ∧ TreeBlk wz w.heap.size (noT 0) ∧ Below w.heap.size w wz) (fun iv _ => 256 - (intOf iv).toNat)
      case atStart => exact ⟨0, by omega, rfl, by rw [neg_start]; exact t2, t1, hb⟩
      case round =>
        obtain ⟨k, hk, rfl, v2, v1, hz⟩ := hrel
        by_cases hk2 : k < 256
        · have hki : (k : Int) < 256 := by omega
          obtain ⟨d, rfl⟩ := u8_of k hk2
          have c1 : wr.cell? ⟨w.heap.size + 1, 1 + d.toNat, none⟩ = some (.bool (T d)) := by
            rw [v2.bit d]
            show some (Value.bool (negB T d.toNat d)) = _
            rw [neg_get]
          have f1 := v2.frozen (1 + d.toNat)
          have v3 := v2.set d (!T d)
          have v4 : TreeBlk (wr.setCell ⟨w.heap.size + 1, 1 + d.toNat, none⟩ (.bool (!T d))) w.heap.size (noT 0) := v1.of (Below.heap_setCell _ _ _ _ (by simp))
          have hz2 : Below w.heap.size w (wr.setCell ⟨w.heap.size + 1, 1 + d.toNat, none⟩ (.bool (!T d))) := hz.setCell (by simp) _
          go_wp2
          exact ⟨⟨d.toNat + 1, by omega, by go_num, by rw [← neg_step T d]; exact v3, v4, hz2⟩, by simp [intOf]; omega⟩
        · have hki : ¬ (k : Int) < 256 := by omega
          obtain rfl : k = 256 := by omega
          rw [neg_end] at v2
          clear t1 t2 hb
          go_wp2_with fail
          have t2d : TreeBlk wr.drew _ _ := v2
          have t1d : TreeBlk wr.drew _ _ := v1
          have kn := treeC_size (oneT (notB T))
          have ks := t1d.storeCells (oneT (notB T))
          have t3 := t1d.row (oneT (notB T))
          have hb3 := below_setRow (Below.drew hz) w.heap.size (Nat.le_refl _) (treeC (oneT (notB T)))
          have hi2 : (1 : Int) ≤ (s1.size : Int) := by omega
          generalize World.setRow _ _ _ = W3 at *
          refine wp_region_any (by kernel_rfl) ?_
          change wpAny _ _ _ _ _ _ _ (World.drew _)
          refine wpAny_take (i := 1) (v := ?_) rfl (by as_aux_lemma => kernel_rfl) (by as_aux_lemma => kernel_rfl) (by as_aux_lemma => kernel_rfl) (fun _ _ _ h => h) (Or.inl ⟨by kernel_rfl, ?_⟩) ?_
          rotate_left
          · intro w; go_simp
            first | done | with_reducible rfl
          refine wpAny_take (i := 2) (v := ?_) rfl (by as_aux_lemma => kernel_rfl) (by as_aux_lemma => kernel_rfl) (by as_aux_lemma => kernel_rfl) (fun _ _ _ h => h) (Or.inl ⟨by kernel_rfl, ?_⟩) ?_
          rotate_left
          · intro w; go_simp
            first | done | with_reducible rfl
          refine wpAny_ready (rs := [0]) (by as_aux_lemma => kernel_rfl) (by simp) ?_
          refine AllReady.cons rfl (fun K hK => ?_) AllReady.nil
          refine wp_load_tree _ rfl _ rfl t2d ?_
          refine hK _ _ ?_
          clear hK K
          refine wpAny_ready (rs := [3]) (by as_aux_lemma => kernel_rfl) (by simp) ?_
          refine AllReady.cons rfl (fun K hK => ?_) AllReady.nil
          go_simp
          refine hK _ _ ?_
          clear hK K
          refine wpAny_ready (rs := [4]) (by as_aux_lemma => kernel_rfl) (by simp) ?_
          refine AllReady.cons rfl (fun K hK => ?_) AllReady.nil
          go_simp
          refine hK _ _ ?_
          clear hK K
          refine wpAny_ready (rs := [5]) (by as_aux_lemma => kernel_rfl) (by simp) ?_
          refine AllReady.cons rfl (fun K hK => ?_) AllReady.nil
          go_simp
          refine hK _ _ ?_
          clear hK K
          refine wpAny_done (by kernel_rfl) ?_ _
          go_wp2
          exact bodyPost_ret (results_tree3 rfl _ _ _ rfl t3) rfl ⟨.inr ⟨_, _, HF.out, rfl⟩, hb3⟩
    have q93 : ((s1[0].toNat : Int) != 93) = true := bne_yes (n := 93) (by decide) h93
    cases hE : pByte (s1[0] :: (s1.extract 1 s1.size).data.toList) with
    | none =>
      have HB := Lib.hid (inSet_no s1 wo (by omega) (by rw [bytes_cons s1 hp2]; exact hE))
      have HF := Lib.hid (HN.out (HI.out.none h93 (by unfold pItem; rw [hE])))
      clear HN HS HI hE
      go_wp2_with (go_at_call 221; refine HB.out.mono ?_; rintro e w1 ⟨rfl, q1⟩; refine Hid.out ?_)
      refine Lib.hid ?_
      have u2 := t2.below q1
      have u1 := t1.below q1
      have hv := hb.trans (q1.mono hb.size)
      clear t1 t2 hb q1 HB
      go_wp2_with (refine stop_load _ rfl ?_)
      refine Lib.hid ?_
      refine wp_load_tree _ rfl _ rfl u2 ?_
      have kn := treeC_size (oneT (T))
      have ks := u1.storeCells (oneT (T))
      have t3 := u1.row (oneT (T))
      have hb3 := below_setRow hv w.heap.size (Nat.le_refl _) (treeC (oneT (T)))
      generalize World.setRow _ _ _ = W3 at *
      go_wp2
      exact bodyPost_ret (results_tree3 rfl _ _ _ rfl t3) rfl ⟨.inl ⟨HF.out, _, rfl⟩, hb3⟩
    | some p =>
    obtain ⟨a, l2⟩ := p
    obtain ⟨s2, hE⟩ := byte_some hE
    have HB := Lib.hid (inSet_ok s1 wo (by omega) a s2 (by rw [bytes_cons s1 hp2]; exact hE))
    go_wp2_with (go_at_call 221; refine HB.out.mono ?_; rintro e w1 ⟨rfl, q1⟩; refine Hid.out ?_)
    refine Lib.hid ?_
    have u2 := t2.below q1
    have u1 := t1.below q1
    have hv := hb.trans (q1.mono hb.size)
    clear t1 t2 hb q1 HB
    have hs2 : s2.size < s1.size := by
      have := pByte_len hE
      rw [← bytes_cons s1 hp2] at this
      simpa using this
    by_cases hr : rangeB s2.data.toList = true
    · have hl1 : 1 < s2.size := by
        rcases Nat.lt_or_ge 1 s2.size with h | h
        · exact h
        · exfalso
          rcases Nat.eq_zero_or_pos s2.size with h2 | h2
          · rw [bytes_nil h2] at hr; cases hr
          · rw [bytes_cons s2 h2, extract_list, List.drop_eq_nil_of_le (by simp; omega)] at hr; cases hr
      have hr0 := hr
      rw [bytes_cons2 s2 hl1] at hr
      have hr2 : s2[0] = 45 ∧ s2[1] ≠ 93 := by simpa [rangeB] using hr
      have q45 : ((s2[0].toNat : Int) == 45) = true := beq_yes (n := 45) (by decide) hr2.1
      have q93b : ((s2[1].toNat : Int) != 93) = true := bne_yes (n := 93) (by decide) hr2.2
      have hi1 : (1 : Int) < (s2.size : Int) := by omega
      have hi0 : (0 : Int) < (s2.size : Int) := by omega
      have hi2 : (1 : Int) ≤ (s2.size : Int) := by omega
      have HD := Lib.hid (extract_list s2 1)
      cases hE2 : pByte (s2.extract 1 s2.size).data.toList with
      | none =>
        have HF := Lib.hid (HN.out (HI.out.none h93 (by unfold pItem; rw [hE]; simp only []; rw [if_pos hr0, ← HD.out, hE2])))
        have HB := Lib.hid (inSet_no (s2.extract 1 s2.size) w1 (by rw [ByteArray.size_extract]; omega) hE2)
        clear HN HS HI hE hE2 hr hr0 hr2
        go_wp2_with (go_at_call 221; refine HB.out.mono ?_; rintro e w2 ⟨rfl, q2⟩; refine Hid.out ?_)
        refine Lib.hid ?_
        have x2 := u2.below q2
        have x1 := u1.below q2
        have hx := hv.trans (q2.mono hv.size)
        clear u1 u2 hv q2 HB
        go_wp2_with (refine stop_load _ rfl ?_)
        refine Lib.hid ?_
        refine wp_load_tree _ rfl _ rfl x2 ?_
        have kn := treeC_size (oneT (T))
        have ks := x1.storeCells (oneT (T))
        have t3 := x1.row (oneT (T))
        have hb3 := below_setRow hx w.heap.size (Nat.le_refl _) (treeC (oneT (T)))
        generalize World.setRow _ _ _ = W3 at *
        go_wp2
        exact bodyPost_ret (results_tree3 rfl _ _ _ rfl t3) rfl ⟨.inl ⟨HF.out, _, rfl⟩, hb3⟩
      | some p =>
      obtain ⟨b, l3⟩ := p
      obtain ⟨s4, hE2⟩ := byte_some hE2
      have HB := Lib.hid (inSet_ok (s2.extract 1 s2.size) w1 (by rw [ByteArray.size_extract]; omega) b s4 hE2)
      have hs4 : s4.size < s1.size := by
        have := pByte_len hE2
        have e2 : (s2.extract 1 s2.size).data.toList.length ≤ s2.size := by simp
        have e3 : s4.data.toList.length = s4.size := by simp
        omega
      by_cases hba : b < a
      · have hbi : (b.toNat : Int) < (a.toNat : Int) := by have := UInt8.lt_iff_toNat_lt.1 hba; omega
        have HF := Lib.hid (HN.out (HI.out.none h93 (by unfold pItem; rw [hE]; simp only []; rw [if_pos hr0, ← HD.out, hE2]; simp only []; rw [if_pos hba])))
        clear HN HS HI hE hE2 hr hr0 hr2
        go_wp2_with (go_at_call 221; refine HB.out.mono ?_; rintro e w2 ⟨rfl, q2⟩; refine Hid.out ?_)
        refine Lib.hid ?_
        have x2 := u2.below q2
        have x1 := u1.below q2
        have hx := hv.trans (q2.mono hv.size)
        clear u1 u2 hv q2 HB
        go_wp2_with (refine stop_load _ rfl ?_)
        refine Lib.hid ?_
        refine wp_load_tree _ rfl _ rfl x2 ?_
        have kn := treeC_size (oneT (T))
        have ks := x1.storeCells (oneT (T))
        have t3 := x1.row (oneT (T))
        have hb3 := below_setRow hx w.heap.size (Nat.le_refl _) (treeC (oneT (T)))
        generalize World.setRow _ _ _ = W3 at *
        go_wp2
        exact bodyPost_ret (results_tree3 rfl _ _ _ rfl t3) rfl ⟨.inl ⟨HF.out, _, rfl⟩, hb3⟩
      have hba2 : ¬ b.toNat < a.toNat := fun h => hba (UInt8.lt_iff_toNat_lt.2 h)
      have hbi : ¬ (b.toNat : Int) < (a.toNat : Int) := by omega
      have HP : Hid (pItem T (s1[0] :: (s1.extract 1 s1.size).data.toList) = some (addB T a b, s4.data.toList)) := Lib.hid (by unfold pItem; rw [hE]; simp only []; rw [if_pos hr0, ← HD.out, hE2]; simp only []; rw [if_neg hba])
      have HZ : Hid (s4.size + (n + 1) ≤ s.size) := Lib.hid (by omega)
      clear hE hE2 hr hr0 hr2 HN HS
      go_wp2_with (go_at_call 221; refine HB.out.mono ?_; rintro e w2 ⟨rfl, q2⟩; refine Hid.out ?_)
      refine Lib.hid ?_
      have x2 := u2.below q2
      have x1 := u1.below q2
      have hx := hv.trans (q2.mono hv.size)
      clear u1 u2 hv q2 HB
      have u1 := x1
      have u2 := x2
      have hv := hx
      clear x1 x2 hx
      have ha8 := a.toNat_lt
      have hb8 := b.toNat_lt
      go_wp2_with fail
      go_loopw [12] (fun cv wz => ∃ k : Nat, a.toNat ≤ k ∧ k ≤ b.toNat + 1 ∧ cv = .int .i64 k ∧ TreeBlk wz (w.heap.size + 1) (oneT (rngB T a.toNat k)) ∧ TreeBlk wz w.heap.size (noT 0) ∧ Below w.heap.size w wz) (fun cv _ => 300 - (intOf cv).toNat)
      case atStart => exact ⟨a.toNat, Nat.le_refl _, by omega, rfl, by rw [rng_start]; exact u2, u1, hv⟩
      case round =>
        obtain ⟨k, hk1, hk2, rfl, v2, v1, hz⟩ := hrel
        by_cases hkb : k ≤ b.toNat
        · have hki : (k : Int) ≤ (b.toNat : Int) := by omega
          obtain ⟨d, rfl⟩ := u8_of k (by omega)
          have hd8 : (d.toNat : Int) < 256 := by omega
          have c1 := v2.bit d
          have f1 := v2.frozen (1 + d.toNat)
          have v3 := v2.set d true
          have hw1 : w.heap.size + 1 ≠ w.heap.size := by omega
          have v4 : TreeBlk (wr.setCell ⟨w.heap.size + 1, 1 + d.toNat, none⟩ (.bool true)) w.heap.size (noT 0) := v1.of (Below.heap_setCell _ _ _ _ (by simp))
          have hz2 : Below w.heap.size w (wr.setCell ⟨w.heap.size + 1, 1 + d.toNat, none⟩ (.bool true)) := hz.setCell (by simp) _
          go_wp2
          exact ⟨⟨d.toNat + 1, by omega, by omega, by go_num, by rw [← rng_step T a.toNat d hk1]; exact v3, v4, hz2⟩, by simp [intOf]; omega⟩
        · have hki : ¬ (k : Int) ≤ (b.toNat : Int) := by omega
          obtain rfl : k = b.toNat + 1 := by omega
          rw [rng_end] at v2
          go_wp2
          exact ⟨⟨s4, n + 1, _, rfl, by go_num, HZ.out, Lib.hid (HI.out.next h93 HP.out), v2, v1, hz⟩, by simp [strSize]; have := HZ.out; omega⟩
    · have hr3 : ¬ (1 : Int) < (s2.size : Int) ∨ ((1 : Int) < (s2.size : Int) ∧ ∃ h : 0 < s2.size, ((s2[0].toNat : Int) == 45) = false) ∨ ((1 : Int) < (s2.size : Int) ∧ ∃ h : 1 < s2.size, ((s2[0].toNat : Int) == 45) = true ∧ ((s2[1].toNat : Int) != 93) = false) := by
        by_cases h1 : 1 < s2.size
        · rw [bytes_cons2 s2 h1] at hr
          by_cases h45 : s2[0] = 45
          · refine .inr (.inr ⟨by omega, h1, beq_yes (n := 45) (by decide) h45, bne_no (n := 93) (by decide) ?_⟩)
            simpa [rangeB, h45] using hr
          · exact .inr (.inl ⟨by omega, by omega, beq_no (n := 45) (by decide) h45⟩)
        · exact .inl (by omega)
      have HP : Hid (pItem T (s1[0] :: (s1.extract 1 s1.size).data.toList) = some (addB T a a, s2.data.toList)) := Lib.hid (by unfold pItem; rw [hE]; simp only []; rw [if_neg hr])
      have HZ : Hid (s2.size + (n + 1) ≤ s.size) := Lib.hid (by omega)
      have HS2 := Lib.hid hs2
      clear hE hr HN HS
      rcases hr3 with f1 | ⟨f1, f0, f2⟩ | ⟨f1, f0, f2, f3⟩
      · have f4 : 0 = 0 := rfl
        have ha8 := a.toNat_lt
        have hb8 := a.toNat_lt
        go_wp2_with fail
        go_loopw [12] (fun cv wz => ∃ k : Nat, a.toNat ≤ k ∧ k ≤ a.toNat + 1 ∧ cv = .int .i64 k ∧ TreeBlk wz (w.heap.size + 1) (oneT (rngB T a.toNat k)) ∧ TreeBlk wz w.heap.size (noT 0) ∧ Below w.heap.size w wz) (fun cv _ => 300 - (intOf cv).toNat)
        case atStart => exact ⟨a.toNat, Nat.le_refl _, by omega, rfl, by rw [rng_start]; exact u2, u1, hv⟩
        case round =>
          obtain ⟨k, hk1, hk2, rfl, v2, v1, hz⟩ := hrel
          by_cases hkb : k ≤ a.toNat
          · have hki : (k : Int) ≤ (a.toNat : Int) := by omega
            obtain ⟨d, rfl⟩ := u8_of k (by omega)
            have hd8 : (d.toNat : Int) < 256 := by omega
            have c1 := v2.bit d
            have f1 := v2.frozen (1 + d.toNat)
            have v3 := v2.set d true
            have hw1 : w.heap.size + 1 ≠ w.heap.size := by omega
            have v4 : TreeBlk (wr.setCell ⟨w.heap.size + 1, 1 + d.toNat, none⟩ (.bool true)) w.heap.size (noT 0) := v1.of (Below.heap_setCell _ _ _ _ (by simp))
            have hz2 : Below w.heap.size w (wr.setCell ⟨w.heap.size + 1, 1 + d.toNat, none⟩ (.bool true)) := hz.setCell (by simp) _
            go_wp2
            exact ⟨⟨d.toNat + 1, by omega, by omega, by go_num, by rw [← rng_step T a.toNat d hk1]; exact v3, v4, hz2⟩, by simp [intOf]; omega⟩
          · have hki : ¬ (k : Int) ≤ (a.toNat : Int) := by omega
            obtain rfl : k = a.toNat + 1 := by omega
            rw [rng_end] at v2
            go_wp2
            exact ⟨⟨s2, n + 1, _, rfl, by go_num, HZ.out, Lib.hid (HI.out.next h93 HP.out), v2, v1, hz⟩, by simp [strSize]; have := HZ.out; omega⟩
      · have f5 : (0 : Int) < (s2.size : Int) := by omega
        have ha8 := a.toNat_lt
        have hb8 := a.toNat_lt
        go_wp2_with fail
        go_loopw [12] (fun cv wz => ∃ k : Nat, a.toNat ≤ k ∧ k ≤ a.toNat + 1 ∧ cv = .int .i64 k ∧ TreeBlk wz (w.heap.size + 1) (oneT (rngB T a.toNat k)) ∧ TreeBlk wz w.heap.size (noT 0) ∧ Below w.heap.size w wz) (fun cv _ => 300 - (intOf cv).toNat)
        case atStart => exact ⟨a.toNat, Nat.le_refl _, by omega, rfl, by rw [rng_start]; exact u2, u1, hv⟩
        case round =>
          obtain ⟨k, hk1, hk2, rfl, v2, v1, hz⟩ := hrel
          by_cases hkb : k ≤ a.toNat
          · have hki : (k : Int) ≤ (a.toNat : Int) := by omega
            obtain ⟨d, rfl⟩ := u8_of k (by omega)
            have hd8 : (d.toNat : Int) < 256 := by omega
            have c1 := v2.bit d
            have f1 := v2.frozen (1 + d.toNat)
            have v3 := v2.set d true
            have hw1 : w.heap.size + 1 ≠ w.heap.size := by omega
            have v4 : TreeBlk (wr.setCell ⟨w.heap.size + 1, 1 + d.toNat, none⟩ (.bool true)) w.heap.size (noT 0) := v1.of (Below.heap_setCell _ _ _ _ (by simp))
            have hz2 : Below w.heap.size w (wr.setCell ⟨w.heap.size + 1, 1 + d.toNat, none⟩ (.bool true)) := hz.setCell (by simp) _
            go_wp2
            exact ⟨⟨d.toNat + 1, by omega, by omega, by go_num, by rw [← rng_step T a.toNat d hk1]; exact v3, v4, hz2⟩, by simp [intOf]; omega⟩
          · have hki : ¬ (k : Int) ≤ (a.toNat : Int) := by omega
            obtain rfl : k = a.toNat + 1 := by omega
            rw [rng_end] at v2
            go_wp2
            exact ⟨⟨s2, n + 1, _, rfl, by go_num, HZ.out, Lib.hid (HI.out.next h93 HP.out), v2, v1, hz⟩, by simp [strSize]; have := HZ.out; omega⟩
      · have f5 : (0 : Int) < (s2.size : Int) := by omega
        have ha8 := a.toNat_lt
        have hb8 := a.toNat_lt
        go_wp2_with fail
        go_loopw [12] (fun cv wz => ∃ k : Nat, a.toNat ≤ k ∧ k ≤ a.toNat + 1 ∧ cv = .int .i64 k ∧ TreeBlk wz (w.heap.size + 1) (oneT (rngB T a.toNat k)) ∧ TreeBlk wz w.heap.size (noT 0) ∧ Below w.heap.size w wz) (fun cv _ => 300 - (intOf cv).toNat)
        case atStart => exact ⟨a.toNat, Nat.le_refl _, by omega, rfl, by rw [rng_start]; exact u2, u1, hv⟩
        case round =>
          obtain ⟨k, hk1, hk2, rfl, v2, v1, hz⟩ := hrel
          by_cases hkb : k ≤ a.toNat
          · have hki : (k : Int) ≤ (a.toNat : Int) := by omega
            obtain ⟨d, rfl⟩ := u8_of k (by omega)
            have hd8 : (d.toNat : Int) < 256 := by omega
            have c1 := v2.bit d
            have f1 := v2.frozen (1 + d.toNat)
            have v3 := v2.set d true
            have hw1 : w.heap.size + 1 ≠ w.heap.size := by omega
            have v4 : TreeBlk (wr.setCell ⟨w.heap.size + 1, 1 + d.toNat, none⟩ (.bool true)) w.heap.size (noT 0) := v1.of (Below.heap_setCell _ _ _ _ (by simp))
            have hz2 : Below w.heap.size w (wr.setCell ⟨w.heap.size + 1, 1 + d.toNat, none⟩ (.bool true)) := hz.setCell (by simp) _
            go_wp2
            exact ⟨⟨d.toNat + 1, by omega, by omega, by go_num, by rw [← rng_step T a.toNat d hk1]; exact v3, v4, hz2⟩, by simp [intOf]; omega⟩
          · have hki : ¬ (k : Int) ≤ (a.toNat : Int) := by omega
            obtain rfl : k = a.toNat + 1 := by omega
            rw [rng_end] at v2
            go_wp2
            exact ⟨⟨s2, n + 1, _, rfl, by go_num, HZ.out, Lib.hid (HI.out.next h93 HP.out), v2, v1, hz⟩, by simp [strSize]; have := HZ.out; omega⟩
end Go.Proofs.YtcngifkoopcmeaaGreatDoor
