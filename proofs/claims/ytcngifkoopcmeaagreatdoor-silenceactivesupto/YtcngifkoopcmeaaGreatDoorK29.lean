/-
  The reference's atoms that are bytes.
-/
import Derived.Test.YtcngifkoopcmeaaGreatDoorK28
namespace Go.Proofs.YtcngifkoopcmeaaGreatDoor
open Go.RowKit

theorem setB_one (c : UInt8) : setB noneB c true = addB noneB c c := by
  funext d
  unfold setB addB noneB
  by_cases h : d = c
  · subst h; simp
  · have : ¬ (c ≤ d ∧ d ≤ c) := fun x => h (UInt8.le_antisymm x.2 x.1)
    simp only [if_neg h, Bool.false_or]
    symm
    rw [Bool.and_eq_false_iff]
    by_cases h1 : c ≤ d
    · exact .inr (decide_eq_false fun h2 => this ⟨h1, h2⟩)
    · exact .inl (decide_eq_false h1)

set_option maxRecDepth 20000 in
set_option maxHeartbeats 4000000 in
theorem eatom_plain (s : ByteArray) (w : World) (hs : s.size ≤ 9223372036854775807) (h0 : 0 < s.size) (hc : isSpec s[0] = false) :
    Calls Tryz.prog 189 #[.string s] w fun e w' => e = .returned (.tuple #[.agg (treeC (oneT (addB noneB s[0] s[0]))), .string (s.extract 1 s.size), .bool true]) ∧ Below w.heap.size w w' := by
  have kz := zero_tree
  have hp : (0 : Int) < (s.size : Int) := by omega
  have hp1 : (1 : Int) ≤ (s.size : Int) := by omega
  obtain ⟨n40, n91, n46, n92, -⟩ := spec_false hc
  have q40 : ((s[0].toNat : Int) == 40) = false := beq_no (n := 40) (by decide) n40
  have q91 : ((s[0].toNat : Int) == 91) = false := beq_no (n := 91) (by decide) n91
  have q46 : ((s[0].toNat : Int) == 46) = false := beq_no (n := 46) (by decide) n46
  have q92 : ((s[0].toNat : Int) == 92) = false := beq_no (n := 92) (by decide) n92
  have HQ := Lib.hid (refSpecial_any s[0])
  rw [hc] at HQ
  have H1 := Lib.hid (fun u => one_any s[0] u)
  rw [setB_one] at H1
  clear n40 n91 n46 n92 hc
  go_enter Tryz.func189, Tryz.ntmps189
  go_wp2_with (go_at_call 209; refine (HQ.out _).mono ?_; rintro e w' ⟨rfl, hw'⟩; rw [hw']; clear hw')
  have tA := TreeBlk.new w (noT 0)
  have hbA := (Below.refl w.heap.size w).alloc (Nat.le_refl _) (.cells (treeC (noT 0)) 207)
  generalize w.alloc (.cells (treeC (noT 0)) 207) = W at *
  clear kz
  refine wp_region_any (by kernel_rfl) ?_
  change wpAny _ _ _ _ _ _ _ (World.drew _)
  refine wpAny_take (i := 0) (v := ?_) rfl (by as_aux_lemma => kernel_rfl) (by as_aux_lemma => kernel_rfl) (by as_aux_lemma => kernel_rfl) (fun _ _ _ h => h) (Or.inl ⟨by kernel_rfl, ?_⟩) ?_
  rotate_left
  · intro w; go_simp
    first | done | with_reducible rfl
  refine wpAny_take (i := 1) (v := ?_) rfl (by as_aux_lemma => kernel_rfl) (by as_aux_lemma => kernel_rfl) (by as_aux_lemma => kernel_rfl) (fun _ _ _ h => h) (Or.inl ⟨by kernel_rfl, ?_⟩) ?_
  rotate_left
  · intro w; go_simp
    first | done | with_reducible rfl
  refine wpAny_take (i := 3) (v := ?_) rfl (by as_aux_lemma => kernel_rfl) (by as_aux_lemma => kernel_rfl) (by as_aux_lemma => kernel_rfl) (fun _ _ _ h => h) (Or.inl ⟨by kernel_rfl, ?_⟩) ?_
  rotate_left
  · intro w; go_simp
    first | done | with_reducible rfl
  refine wpAny_take (i := 4) (v := ?_) rfl (by as_aux_lemma => kernel_rfl) (by as_aux_lemma => kernel_rfl) (by as_aux_lemma => kernel_rfl) (fun _ _ _ h => h) (Or.inl ⟨by kernel_rfl, ?_⟩) ?_
  rotate_left
  · intro w; go_simp
    first | done | with_reducible rfl
  refine wpAny_ready (rs := [2]) (by as_aux_lemma => kernel_rfl) (by simp) ?_
  refine AllReady.cons rfl (fun K hK => ?_) AllReady.nil
  go_simp
  go_wp2_with (go_at_call 208; refine (H1.out _).mono ?_; rintro e w1 ⟨rfl, q1⟩; refine Hid.out ?_)
  refine Lib.hid ?_
  refine hK _ _ ?_
  clear hK K
  have t1 := (show TreeBlk W.drew w.heap.size (noT 0) from tA).below q1
  have hb1 := hbA.drew.trans (q1.mono hbA.drew.size)
  have kn := treeC_size (oneT (addB noneB s[0] s[0]))
  have ks := t1.storeCells (oneT (addB noneB s[0] s[0]))
  have t3 := t1.row (oneT (addB noneB s[0] s[0]))
  have hb3 := below_setRow hb1 w.heap.size (Nat.le_refl _) (treeC (oneT (addB noneB s[0] s[0])))
  generalize World.setRow _ _ _ = W3 at *
  clear t1 hb1 q1 tA hbA
  refine wpAny_ready (rs := [5]) (by as_aux_lemma => kernel_rfl) (by simp) ?_
  refine AllReady.cons rfl (fun K hK => ?_) AllReady.nil
  go_simp
  refine hK _ _ ?_
  clear hK K
  refine wpAny_ready (rs := [6]) (by as_aux_lemma => kernel_rfl) (by simp) ?_
  refine AllReady.cons rfl (fun K hK => ?_) AllReady.nil
  go_simp
  refine hK _ _ ?_
  clear hK K
  refine wpAny_ready (rs := [7]) (by as_aux_lemma => kernel_rfl) (by simp) ?_
  refine AllReady.cons rfl (fun K hK => ?_) AllReady.nil
  go_simp
  refine hK _ _ ?_
  clear hK K
  refine wpAny_done (by kernel_rfl) ?_ _
  go_wp2
  exact bodyPost_ret (results_tree3 rfl _ _ _ rfl t3) rfl ⟨rfl, hb3⟩

set_option maxRecDepth 20000 in
set_option maxHeartbeats 4000000 in
theorem eatom_esc (s : ByteArray) (w : World) (hs : s.size ≤ 9223372036854775807) (h0 : 1 < s.size) (n92 : s[0] = 92) :
    Calls Tryz.prog 189 #[.string s] w fun e w' => e = .returned (.tuple #[.agg (treeC (oneT (addB noneB s[1] s[1]))), .string (s.extract 2 s.size), .bool true]) ∧ Below w.heap.size w w' := by
  have kz := zero_tree
  have hp : (0 : Int) < (s.size : Int) := by omega
  have hp3 : (1 : Int) < (s.size : Int) := by omega
  have hp1 : (2 : Int) ≤ (s.size : Int) := by omega
  have hp2 : ¬ (s.size : Int) < 2 := by omega
  have n40 : s[0] ≠ 40 := by rw [n92]; decide
  have n91 : s[0] ≠ 91 := by rw [n92]; decide
  have n46 : s[0] ≠ 46 := by rw [n92]; decide
  have q40 : ((s[0].toNat : Int) == 40) = false := beq_no (n := 40) (by decide) n40
  have q91 : ((s[0].toNat : Int) == 91) = false := beq_no (n := 91) (by decide) n91
  have q46 : ((s[0].toNat : Int) == 46) = false := beq_no (n := 46) (by decide) n46
  have q92 : ((s[0].toNat : Int) == 92) = true := beq_yes (n := 92) (by decide) n92
  have H1 := Lib.hid (fun u => one_any s[1] u)
  rw [setB_one] at H1
  clear n40 n91 n46 n92
  go_enter Tryz.func189, Tryz.ntmps189
  go_wp2_with fail
  have tA := TreeBlk.new w (noT 0)
  have hbA := (Below.refl w.heap.size w).alloc (Nat.le_refl _) (.cells (treeC (noT 0)) 207)
  generalize w.alloc (.cells (treeC (noT 0)) 207) = W at *
  clear kz
  refine wp_region_any (by kernel_rfl) ?_
  change wpAny _ _ _ _ _ _ _ (World.drew _)
  refine wpAny_take (i := 0) (v := ?_) rfl (by as_aux_lemma => kernel_rfl) (by as_aux_lemma => kernel_rfl) (by as_aux_lemma => kernel_rfl) (fun _ _ _ h => h) (Or.inl ⟨by kernel_rfl, ?_⟩) ?_
  rotate_left
  · intro w; go_simp
    first | done | with_reducible rfl
  refine wpAny_take (i := 1) (v := ?_) rfl (by as_aux_lemma => kernel_rfl) (by as_aux_lemma => kernel_rfl) (by as_aux_lemma => kernel_rfl) (fun _ _ _ h => h) (Or.inl ⟨by kernel_rfl, ?_⟩) ?_
  rotate_left
  · intro w; go_simp
    first | done | with_reducible rfl
  refine wpAny_take (i := 3) (v := ?_) rfl (by as_aux_lemma => kernel_rfl) (by as_aux_lemma => kernel_rfl) (by as_aux_lemma => kernel_rfl) (fun _ _ _ h => h) (Or.inl ⟨by kernel_rfl, ?_⟩) ?_
  rotate_left
  · intro w; go_simp
    first | done | with_reducible rfl
  refine wpAny_take (i := 4) (v := ?_) rfl (by as_aux_lemma => kernel_rfl) (by as_aux_lemma => kernel_rfl) (by as_aux_lemma => kernel_rfl) (fun _ _ _ h => h) (Or.inl ⟨by kernel_rfl, ?_⟩) ?_
  rotate_left
  · intro w; go_simp
    first | done | with_reducible rfl
  refine wpAny_ready (rs := [2]) (by as_aux_lemma => kernel_rfl) (by simp) ?_
  refine AllReady.cons rfl (fun K hK => ?_) AllReady.nil
  go_simp
  go_wp2_with (go_at_call 208; refine (H1.out _).mono ?_; rintro e w1 ⟨rfl, q1⟩; refine Hid.out ?_)
  refine Lib.hid ?_
  refine hK _ _ ?_
  clear hK K
  have t1 := (show TreeBlk W.drew w.heap.size (noT 0) from tA).below q1
  have hb1 := hbA.drew.trans (q1.mono hbA.drew.size)
  have kn := treeC_size (oneT (addB noneB s[1] s[1]))
  have ks := t1.storeCells (oneT (addB noneB s[1] s[1]))
  have t3 := t1.row (oneT (addB noneB s[1] s[1]))
  have hb3 := below_setRow hb1 w.heap.size (Nat.le_refl _) (treeC (oneT (addB noneB s[1] s[1])))
  generalize World.setRow _ _ _ = W3 at *
  clear t1 hb1 q1 tA hbA
  refine wpAny_ready (rs := [5]) (by as_aux_lemma => kernel_rfl) (by simp) ?_
  refine AllReady.cons rfl (fun K hK => ?_) AllReady.nil
  go_simp
  refine hK _ _ ?_
  clear hK K
  refine wpAny_ready (rs := [6]) (by as_aux_lemma => kernel_rfl) (by simp) ?_
  refine AllReady.cons rfl (fun K hK => ?_) AllReady.nil
  go_simp
  refine hK _ _ ?_
  clear hK K
  refine wpAny_ready (rs := [7]) (by as_aux_lemma => kernel_rfl) (by simp) ?_
  refine AllReady.cons rfl (fun K hK => ?_) AllReady.nil
  go_simp
  refine hK _ _ ?_
  clear hK K
  refine wpAny_done (by kernel_rfl) ?_ _
  go_wp2
  exact bodyPost_ret (results_tree3 rfl _ _ _ rfl t3) rfl ⟨rfl, hb3⟩

set_option maxRecDepth 20000 in
set_option maxHeartbeats 4000000 in
theorem eatom_esc_no (s : ByteArray) (w : World) (h0 : s.size = 1) (n92 : s[0] = 92) :
    Calls Tryz.prog 189 #[.string s] w fun e w' => (∃ t, e = .returned (.tuple #[.agg (treeC t), .string ⟨#[]⟩, .bool false])) ∧ Below w.heap.size w w' := by
  have kz := zero_tree
  have kn := treeC_size (noT 0)
  have ks := store_last w w.heap.size rfl (noT 0) (noT 0)
  have hbA := (Below.refl w.heap.size w).alloc (Nat.le_refl _) (.cells (treeC (noT 0)) 207)
  have tA := TreeBlk.new w (noT 0)
  have hp : (0 : Int) < (s.size : Int) := by omega
  have hp2 : (s.size : Int) < 2 := by omega
  have n40 : s[0] ≠ 40 := by rw [n92]; decide
  have n91 : s[0] ≠ 91 := by rw [n92]; decide
  have n46 : s[0] ≠ 46 := by rw [n92]; decide
  have q40 : ((s[0].toNat : Int) == 40) = false := beq_no (n := 40) (by decide) n40
  have q91 : ((s[0].toNat : Int) == 91) = false := beq_no (n := 91) (by decide) n91
  have q46 : ((s[0].toNat : Int) == 46) = false := beq_no (n := 46) (by decide) n46
  have q92 : ((s[0].toNat : Int) == 92) = true := beq_yes (n := 92) (by decide) n92
  clear n40 n91 n46 n92
  go_enter Tryz.func189, Tryz.ntmps189
  go_wp2
  exact bodyPost_ret (results_tree3 rfl _ _ _ rfl tA) rfl ⟨⟨_, rfl⟩, hbA⟩

set_option maxRecDepth 20000 in
set_option maxHeartbeats 4000000 in
theorem eatom_spec_no (s : ByteArray) (w : World) (hs : s.size ≤ 9223372036854775807) (h0 : 0 < s.size) (hc : isSpec s[0] = true) (n40 : s[0] ≠ 40) (n91 : s[0] ≠ 91) (n46 : s[0] ≠ 46) (n92 : s[0] ≠ 92) :
    Calls Tryz.prog 189 #[.string s] w fun e w' => (∃ t, e = .returned (.tuple #[.agg (treeC t), .string ⟨#[]⟩, .bool false])) ∧ Below w.heap.size w w' := by
  have kz := zero_tree
  have kn := treeC_size (noT 0)
  have ks := store_last w w.heap.size rfl (noT 0) (noT 0)
  have hbA := (Below.refl w.heap.size w).alloc (Nat.le_refl _) (.cells (treeC (noT 0)) 207)
  have tA := TreeBlk.new w (noT 0)
  have hp : (0 : Int) < (s.size : Int) := by omega
  have HQ := Lib.hid (refSpecial_any s[0])
  rw [hc] at HQ
  have q40 : ((s[0].toNat : Int) == 40) = false := beq_no (n := 40) (by decide) n40
  have q91 : ((s[0].toNat : Int) == 91) = false := beq_no (n := 91) (by decide) n91
  have q46 : ((s[0].toNat : Int) == 46) = false := beq_no (n := 46) (by decide) n46
  have q92 : ((s[0].toNat : Int) == 92) = false := beq_no (n := 92) (by decide) n92
  clear n40 n91 n46 n92 hc
  go_enter Tryz.func189, Tryz.ntmps189
  go_wp2_with (go_at_call 209; refine (HQ.out _).mono ?_; rintro e w' ⟨rfl, hw'⟩; rw [hw']; clear hw')
  exact bodyPost_ret (results_tree3 rfl _ _ _ rfl tA) rfl ⟨⟨_, rfl⟩, hbA⟩

theorem rng_all : rngB noneB 0 256 = notB noneB := by
  funext c
  have := c.toNat_lt
  unfold rngB notB noneB
  simp
  omega
set_option maxRecDepth 20000 in
set_option maxHeartbeats 4000000 in
theorem eatom_dot (s : ByteArray) (w : World) (hs : s.size ≤ 9223372036854775807) (h0 : 0 < s.size) (n46 : s[0] = 46) :
    Calls Tryz.prog 189 #[.string s] w fun e w' => e = .returned (.tuple #[.agg (treeC (oneT (notB noneB))), .string (s.extract 1 s.size), .bool true]) ∧ Below w.heap.size w w' := by
  have kz := zero_tree
  have hp : (0 : Int) < (s.size : Int) := by omega
  have hp1 : (1 : Int) ≤ (s.size : Int) := by omega
  have n40 : s[0] ≠ 40 := by rw [n46]; decide
  have n91 : s[0] ≠ 91 := by rw [n46]; decide
  have q40 : ((s[0].toNat : Int) == 40) = false := beq_no (n := 40) (by decide) n40
  have q91 : ((s[0].toNat : Int) == 91) = false := beq_no (n := 91) (by decide) n91
  have q46 : ((s[0].toNat : Int) == 46) = true := beq_yes (n := 46) (by decide) n46
  clear n40 n91 n46
  go_enter Tryz.func189, Tryz.ntmps189
  go_wp2_with fail
  have t1 := (TreeBlk.new w (noT 0)).alloc (.cells (treeC (noT 0)) 207)
  have t2 := TreeBlk.new' (w.alloc (.cells (treeC (noT 0)) 207)) (noT 0) (w.heap.size + 1) (by simp)
  have hb0 := ((Below.refl w.heap.size w).alloc (Nat.le_refl _) (.cells (treeC (noT 0)) 207)).alloc (by simp) (.cells (treeC (noT 0)) 207)
  generalize (w.alloc (.cells (treeC (noT 0)) 207)).alloc (.cells (treeC (noT 0)) 207) = W at *
  clear kz
  go_loopw [9] (fun iv wz => ∃ k : Nat, k ≤ 256 ∧ iv = .int .i64 k ∧ TreeBlk wz (w.heap.size + 1) (oneT (rngB noneB 0 k)) ∧ TreeBlk wz w.heap.size (noT 0) ∧ Below w.heap.size w wz) (fun iv _ => 256 - (intOf iv).toNat)
  case atStart => exact ⟨0, by omega, rfl, by rw [rng_start]; exact t2, t1, hb0⟩
  case round =>
    obtain ⟨k, hk, rfl, v2, v1, hz⟩ := hrel
    by_cases hk2 : k < 256
    · have hki : (k : Int) < 256 := by omega
      obtain ⟨d, rfl⟩ := u8_of k hk2
      have c1 := v2.bit d
      have f1 := v2.frozen (1 + d.toNat)
      have v3 := v2.set d true
      have v4 : TreeBlk (wr.setCell ⟨w.heap.size + 1, 1 + d.toNat, none⟩ (.bool true)) w.heap.size (noT 0) := v1.of (Below.heap_setCell _ _ _ _ (by simp))
      have hz2 : Below w.heap.size w (wr.setCell ⟨w.heap.size + 1, 1 + d.toNat, none⟩ (.bool true)) := hz.setCell (by simp) _
      go_wp2
      exact ⟨⟨d.toNat + 1, by omega, by go_num, by rw [← rng_step noneB 0 d (Nat.zero_le _)]; exact v3, v4, hz2⟩, by simp [intOf]; omega⟩
    · have hki : ¬ (k : Int) < 256 := by omega
      obtain rfl : k = 256 := by omega
      rw [rng_all] at v2
      clear t1 t2 hb0
      go_wp2_with fail
      have t2d : TreeBlk wr.drew _ _ := v2
      have t1d : TreeBlk wr.drew _ _ := v1
      have kn := treeC_size (oneT (notB noneB))
      have ks := t1d.storeCells (oneT (notB noneB))
      have t3 := t1d.row (oneT (notB noneB))
      have hb3 := below_setRow (Below.drew hz) w.heap.size (Nat.le_refl _) (treeC (oneT (notB noneB)))
      generalize World.setRow _ _ _ = W3 at *
      refine wp_region_any (by kernel_rfl) ?_
      change wpAny _ _ _ _ _ _ _ (World.drew _)
      refine wpAny_take (i := 1) (v := ?_) rfl (by as_aux_lemma => kernel_rfl) (by as_aux_lemma => kernel_rfl) (by as_aux_lemma => kernel_rfl) (fun _ _ _ h => h) (Or.inl ⟨by kernel_rfl, ?_⟩) ?_
      rotate_left
      · intro w; go_simp
        first | done | with_reducible rfl
      refine wpAny_take (i := 2) (v := ?_) rfl (by as_aux_lemma => kernel_rfl) (by as_aux_lemma => kernel_rfl) (by as_aux_lemma => kernel_rfl) (fun _ _ _ h => h) (Or.inl ⟨by kernel_rfl, ?_⟩) ?_
      rotate_left
      · intro w; go_simp
        first | done | with_reducible rfl
      refine wpAny_ready (rs := [0]) (by as_aux_lemma => kernel_rfl) (by simp) ?_
      refine AllReady.cons rfl (fun K hK => ?_) AllReady.nil
      refine wp_load_tree _ rfl _ rfl t2d ?_
      refine hK _ _ ?_
      clear hK K
      refine wpAny_ready (rs := [3]) (by as_aux_lemma => kernel_rfl) (by simp) ?_
      refine AllReady.cons rfl (fun K hK => ?_) AllReady.nil
      go_simp
      refine hK _ _ ?_
      clear hK K
      refine wpAny_ready (rs := [4]) (by as_aux_lemma => kernel_rfl) (by simp) ?_
      refine AllReady.cons rfl (fun K hK => ?_) AllReady.nil
      go_simp
      refine hK _ _ ?_
      clear hK K
      refine wpAny_ready (rs := [5]) (by as_aux_lemma => kernel_rfl) (by simp) ?_
      refine AllReady.cons rfl (fun K hK => ?_) AllReady.nil
      go_simp
      refine hK _ _ ?_
      clear hK K
      refine wpAny_done (by kernel_rfl) ?_ _
      go_wp2
      exact bodyPost_ret (results_tree3 rfl _ _ _ rfl t3) rfl ⟨rfl, hb3⟩

end Go.Proofs.YtcngifkoopcmeaaGreatDoor
