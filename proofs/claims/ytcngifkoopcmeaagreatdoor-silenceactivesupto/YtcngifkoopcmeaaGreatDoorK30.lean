/-
  The reference's atoms in brackets: by what the pattern within is read as.
-/
import Derived.Test.YtcngifkoopcmeaaGreatDoorK29
namespace Go.Proofs.YtcngifkoopcmeaaGreatDoor
open Go.RowKit

/-- No pattern is read. -/
def ParNo (s : ByteArray) : Prop := ∀ u, Calls Tryz.prog 173 #[.string s] u fun e w' => (∃ t, e = .returned (.tuple #[.agg (treeC t), .string ⟨#[]⟩, .bool false])) ∧ Below u.heap.size u w'
/-- A pattern is read, and this is left. -/
def ParOk (s s2 : ByteArray) (A : Lang) : Prop := ∀ u, Calls Tryz.prog 173 #[.string s] u fun e w' => (∃ t, e = .returned (.tuple #[.agg (treeC t), .string s2, .bool true]) ∧ ∃ d, Den d w' (fun b => u.heap.size ≤ b ∧ b < w'.heap.size) t A) ∧ Below u.heap.size u w'

set_option maxRecDepth 20000 in
set_option maxHeartbeats 4000000 in
theorem eatom_par_no (s : ByteArray) (w : World) (hs : s.size ≤ 9223372036854775807) (h0 : 0 < s.size) (n40 : s[0] = 40) (HC : ParNo (s.extract 1 s.size)) :
    Calls Tryz.prog 189 #[.string s] w fun e w' => (∃ t, e = .returned (.tuple #[.agg (treeC t), .string ⟨#[]⟩, .bool false])) ∧ Below w.heap.size w w' := by
  have kz := zero_tree
  have hp : (0 : Int) < (s.size : Int) := by omega
  have hp1 : (1 : Int) ≤ (s.size : Int) := by omega
  have q40 : ((s[0].toNat : Int) == 40) = true := beq_yes (n := 40) (by decide) n40
  clear n40
  have kn := treeC_size
  have tA := TreeBlk.new w (noT 0)
  have hbA := (Below.refl w.heap.size w).alloc (Nat.le_refl _) (.cells (treeC (noT 0)) 207)
  go_enter Tryz.func189, Tryz.ntmps189
  go_wp2_with (go_at_call 173; refine (HC _).mono ?_; rintro e w1 ⟨⟨t, rfl⟩, q1⟩; refine Hid.out ?_)
  refine Lib.hid ?_
  have t1 := (tA.below q1).alloc (.cells (treeC t) 207)
  have hb1 := (hbA.trans (q1.mono hbA.size)).alloc (Nat.le_trans hbA.size q1.size) (.cells (treeC t) 207)
  have t2 := TreeBlk.new w1 t
  have ks0 := store_last w1 w1.heap.size rfl (noT 0) t
  go_wp2_with (refine stop_load _ rfl ?_)
  refine Lib.hid ?_
  refine wp_load_tree _ rfl _ rfl t2 ?_
  have ks := t1.storeCells t
  have t3 := t1.row t
  have hb3 := below_setRow hb1 w.heap.size (Nat.le_refl _) (treeC t)
  generalize World.setRow _ _ _ = W3 at *
  go_wp2
  exact bodyPost_ret (results_tree3 rfl _ _ _ rfl t3) rfl ⟨⟨_, rfl⟩, hb3⟩

set_option maxRecDepth 20000 in
set_option maxHeartbeats 4000000 in
theorem eatom_par_end (s s2 : ByteArray) (A : Lang) (w : World) (hs : s.size ≤ 9223372036854775807) (h0 : 0 < s.size) (n40 : s[0] = 40) (HC : ParOk (s.extract 1 s.size) s2 A) (h2 : s2.size = 0) :
    Calls Tryz.prog 189 #[.string s] w fun e w' => (∃ t, e = .returned (.tuple #[.agg (treeC t), .string ⟨#[]⟩, .bool false])) ∧ Below w.heap.size w w' := by
  have hne := isEmpty_yes h2
  have kz := zero_tree
  have hp : (0 : Int) < (s.size : Int) := by omega
  have hp1 : (1 : Int) ≤ (s.size : Int) := by omega
  have q40 : ((s[0].toNat : Int) == 40) = true := beq_yes (n := 40) (by decide) n40
  clear n40
  have kn := treeC_size
  have tA := TreeBlk.new w (noT 0)
  have hbA := (Below.refl w.heap.size w).alloc (Nat.le_refl _) (.cells (treeC (noT 0)) 207)
  go_enter Tryz.func189, Tryz.ntmps189
  go_wp2_with (go_at_call 173; refine (HC _).mono ?_; rintro e w1 ⟨⟨t, rfl, -⟩, q1⟩; refine Hid.out ?_)
  refine Lib.hid ?_
  have t1 := (tA.below q1).alloc (.cells (treeC t) 207)
  have hb1 := (hbA.trans (q1.mono hbA.size)).alloc (Nat.le_trans hbA.size q1.size) (.cells (treeC t) 207)
  have t2 := TreeBlk.new w1 t
  have ks0 := store_last w1 w1.heap.size rfl (noT 0) t
  go_wp2_with (refine stop_load _ rfl ?_)
  refine Lib.hid ?_
  refine wp_load_tree _ rfl _ rfl t2 ?_
  have ks := t1.storeCells t
  have t3 := t1.row t
  have hb3 := below_setRow hb1 w.heap.size (Nat.le_refl _) (treeC t)
  generalize World.setRow _ _ _ = W3 at *
  go_wp2
  exact bodyPost_ret (results_tree3 rfl _ _ _ rfl t3) rfl ⟨⟨_, rfl⟩, hb3⟩

set_option maxRecDepth 20000 in
set_option maxHeartbeats 4000000 in
theorem eatom_par_bad (s s2 : ByteArray) (A : Lang) (w : World) (hs : s.size ≤ 9223372036854775807) (h0 : 0 < s.size) (n40 : s[0] = 40) (HC : ParOk (s.extract 1 s.size) s2 A) (h2 : 0 < s2.size) (n41 : s2[0] ≠ 41) :
    Calls Tryz.prog 189 #[.string s] w fun e w' => (∃ t, e = .returned (.tuple #[.agg (treeC t), .string ⟨#[]⟩, .bool false])) ∧ Below w.heap.size w w' := by
  have hne := isEmpty_no h2
  have hq : (0 : Int) < (s2.size : Int) := by omega
  have q41 : ((s2[0].toNat : Int) != 41) = true := bne_yes (n := 41) (by decide) n41
  have kz := zero_tree
  have hp : (0 : Int) < (s.size : Int) := by omega
  have hp1 : (1 : Int) ≤ (s.size : Int) := by omega
  have q40 : ((s[0].toNat : Int) == 40) = true := beq_yes (n := 40) (by decide) n40
  clear n40
  have kn := treeC_size
  have tA := TreeBlk.new w (noT 0)
  have hbA := (Below.refl w.heap.size w).alloc (Nat.le_refl _) (.cells (treeC (noT 0)) 207)
  go_enter Tryz.func189, Tryz.ntmps189
  go_wp2_with (go_at_call 173; refine (HC _).mono ?_; rintro e w1 ⟨⟨t, rfl, -⟩, q1⟩; refine Hid.out ?_)
  refine Lib.hid ?_
  have t1 := (tA.below q1).alloc (.cells (treeC t) 207)
  have hb1 := (hbA.trans (q1.mono hbA.size)).alloc (Nat.le_trans hbA.size q1.size) (.cells (treeC t) 207)
  have t2 := TreeBlk.new w1 t
  have ks0 := store_last w1 w1.heap.size rfl (noT 0) t
  go_wp2_with (refine stop_load _ rfl ?_)
  refine Lib.hid ?_
  refine wp_load_tree _ rfl _ rfl t2 ?_
  have ks := t1.storeCells t
  have t3 := t1.row t
  have hb3 := below_setRow hb1 w.heap.size (Nat.le_refl _) (treeC t)
  generalize World.setRow _ _ _ = W3 at *
  go_wp2
  exact bodyPost_ret (results_tree3 rfl _ _ _ rfl t3) rfl ⟨⟨_, rfl⟩, hb3⟩

set_option maxRecDepth 20000 in
set_option maxHeartbeats 4000000 in
theorem eatom_par_ok (s s2 : ByteArray) (A : Lang) (w : World) (hs : s.size ≤ 9223372036854775807) (h0 : 0 < s.size) (n40 : s[0] = 40) (HC : ParOk (s.extract 1 s.size) s2 A) (h2 : 0 < s2.size) (h2s : s2.size ≤ 9223372036854775807) (n41 : s2[0] = 41) :
    Calls Tryz.prog 189 #[.string s] w fun e w' => (∃ t, e = .returned (.tuple #[.agg (treeC t), .string (s2.extract 1 s2.size), .bool true]) ∧ ∃ d, Den d w' (fun b => w.heap.size ≤ b ∧ b < w'.heap.size) t A) ∧ Below w.heap.size w w' := by
  have hne := isEmpty_no h2
  have hq : (0 : Int) < (s2.size : Int) := by omega
  have hq1 : (1 : Int) ≤ (s2.size : Int) := by omega
  have q41 : ((s2[0].toNat : Int) != 41) = false := bne_no (n := 41) (by decide) n41
  have kz := zero_tree
  have hp : (0 : Int) < (s.size : Int) := by omega
  have hp1 : (1 : Int) ≤ (s.size : Int) := by omega
  have q40 : ((s[0].toNat : Int) == 40) = true := beq_yes (n := 40) (by decide) n40
  clear n40
  have kn := treeC_size
  have tA := TreeBlk.new w (noT 0)
  have hbA := (Below.refl w.heap.size w).alloc (Nat.le_refl _) (.cells (treeC (noT 0)) 207)
  go_enter Tryz.func189, Tryz.ntmps189
  go_wp2_with (go_at_call 173; refine (HC _).mono ?_; rintro e w1 ⟨⟨t, rfl, d, hd⟩, q1⟩; refine Hid.out ?_)
  refine Lib.hid ?_
  have t1 := (tA.below q1).alloc (.cells (treeC t) 207)
  have hb1 := (hbA.trans (q1.mono hbA.size)).alloc (Nat.le_trans hbA.size q1.size) (.cells (treeC t) 207)
  have t2 := TreeBlk.new w1 t
  have ks0 := store_last w1 w1.heap.size rfl (noT 0) t
  have hA1 : (w.alloc (.cells (treeC (noT 0)) 207)).heap.size = w.heap.size + 1 := by simp
  have hd2 : Den d ((w1.alloc (.cells (treeC t) 207)).drew.setRow w.heap.size (treeC t)) (fun b => w.heap.size ≤ b ∧ b < ((w1.alloc (.cells (treeC t) 207)).drew.setRow w.heap.size (treeC t)).heap.size) t A := by
    refine Den.keep (fun b hb => ?_) (fun b hb => ?_) _ _ _ hd
    · rw [hA1] at hb
      rw [setRow_other _ _ _ _ (by omega)]
      exact Below.heap_alloc w1 _ b hb.2
    · rw [hA1] at hb
      refine ⟨by omega, ?_⟩
      show b < ((w1.alloc (.cells (treeC t) 207)).heap.modify w.heap.size _).size
      rw [Array.size_modify]
      simp
      omega
  go_wp2_with fail
  clear kz ks0 kn
  generalize w1.alloc (.cells (treeC t) 207) = W1 at *
  have t2d : TreeBlk W1.drew _ _ := t2
  have t1d : TreeBlk W1.drew _ _ := t1
  have kn := treeC_size (t)
  have ks := t1d.storeCells (t)
  have t3 := t1d.row (t)
  have hb3 := below_setRow (Below.drew hb1) w.heap.size (Nat.le_refl _) (treeC (t))
  generalize World.setRow _ _ _ = W3 at *
  refine wp_region_any (by kernel_rfl) ?_
  change wpAny _ _ _ _ _ _ _ (World.drew _)
  refine wpAny_take (i := 1) (v := ?_) rfl (by as_aux_lemma => kernel_rfl) (by as_aux_lemma => kernel_rfl) (by as_aux_lemma => kernel_rfl) (fun _ _ _ h => h) (Or.inl ⟨by kernel_rfl, ?_⟩) ?_
  rotate_left
  · intro w; go_simp
    first | done | with_reducible rfl
  refine wpAny_take (i := 2) (v := ?_) rfl (by as_aux_lemma => kernel_rfl) (by as_aux_lemma => kernel_rfl) (by as_aux_lemma => kernel_rfl) (fun _ _ _ h => h) (Or.inl ⟨by kernel_rfl, ?_⟩) ?_
  rotate_left
  · intro w; go_simp
    first | done | with_reducible rfl
  refine wpAny_ready (rs := [0]) (by as_aux_lemma => kernel_rfl) (by simp) ?_
  refine AllReady.cons rfl (fun K hK => ?_) AllReady.nil
  refine wp_load_tree _ rfl _ rfl t2d ?_
  refine hK _ _ ?_
  clear hK K
  refine wpAny_ready (rs := [3]) (by as_aux_lemma => kernel_rfl) (by simp) ?_
  refine AllReady.cons rfl (fun K hK => ?_) AllReady.nil
  go_simp
  refine hK _ _ ?_
  clear hK K
  refine wpAny_ready (rs := [4]) (by as_aux_lemma => kernel_rfl) (by simp) ?_
  refine AllReady.cons rfl (fun K hK => ?_) AllReady.nil
  go_simp
  refine hK _ _ ?_
  clear hK K
  refine wpAny_ready (rs := [5]) (by as_aux_lemma => kernel_rfl) (by simp) ?_
  refine AllReady.cons rfl (fun K hK => ?_) AllReady.nil
  go_simp
  refine hK _ _ ?_
  clear hK K
  refine wpAny_done (by kernel_rfl) ?_ _
  go_wp2
  exact bodyPost_ret (results_tree3 rfl _ _ _ rfl t3) rfl ⟨⟨_, rfl, _, hd2⟩, hb3⟩

end Go.Proofs.YtcngifkoopcmeaaGreatDoor
