/-
  The reference of maps: Light, Same, View, Forget.
-/
import Derived.Test.YtkbonifbnbdbkabC10
import Derived.Test.YtkbonifbnbdbkabC9
import Derived.Test.YtkbonifbnbdbkabC8
namespace Go.Proofs.Ytkbonifbnbdbkab
open Go.RowKit Go.Maps

theorem crLight_any (a : Option Addr) (n c : Nat) (w : World) : Calls Try.prog 5 #[.slice a n c] w fun e w' => e = .returned (.bool (decide (n ≤ 300))) ∧ Below w.heap.size w w' := by
  by_cases h : n ≤ 300
  · have h1 : (n : Int) ≤ 300 := by omega
    go_enter Try.func5, Try.ntmps5
    go_wp2
    go_ret
    exact ⟨by rw [decide_eq_true h]; rfl, Below.refl _ _⟩
  · have h1 : ¬ (n : Int) ≤ 300 := by omega
    go_enter Try.func5, Try.ntmps5
    go_wp2
    go_ret
    exact ⟨by first | rfl | (rw [decide_eq_false h]; rfl), Below.refl _ _⟩

set_option maxRecDepth 100000 in
set_option maxHeartbeats 4000000 in
theorem crSame_any (a b : Option Addr) (c d : Nat) (xs ys : List Ent) (w : World) (ha : EntsAt w a xs) (hb : EntsAt w b ys) (hn : xs.length ≤ 9223372036854775807) (n m : Nat) (hnx : n = xs.length) (hmy : m = ys.length) :
    Calls Try.prog 12 #[.slice a n c, .slice b m d] w fun e w' => e = .returned (.bool (sameC xs ys)) ∧ Below w.heap.size w w' := by
  by_cases hnm : n = m
  · subst hnm
    have hn1 : n ≤ 9223372036854775807 := by omega
    have HN := Lib.hid hnx
    have HM := Lib.hid hmy
    have HA := Lib.hid ha
    have HB := Lib.hid hb
    clear hnx hmy ha hb hn
    go_enter Try.func12, Try.ntmps12
    go_wp2
    go_loopw [5] (fun i wr => ∃ (k : Nat), k ≤ n ∧ i = .int .i64 k ∧ Hid (xs.take k = ys.take k) ∧ Hid (Below w.heap.size w wr)) (fun i _ => n - (intOf i).toNat)
    case atStart => exact ⟨0, Nat.zero_le _, rfl, Lib.hid rfl, Lib.hid (Below.refl _ _)⟩
    case round =>
      obtain ⟨k, hk, rfl, HT, HW⟩ := hrel
      by_cases hlt : k < n
      · have hkl : (k : Int) < (n : Int) := by omega
        have hkx : k < xs.length := by have := HN.out; omega
        have hky : k < ys.length := by have := HM.out; omega
        obtain ⟨bA, oA, rfl, rA⟩ := (HA.out.on HW.out).row k hkx
        obtain ⟨bB, oB, rfl, rB⟩ := (HB.out.on HW.out).row k hky
        have HT2 : Hid (xs[k] = ys[k] → xs.take (k + 1) = ys.take (k + 1)) := Lib.hid (fun e => by rw [List.take_succ_eq_append_getElem hkx, List.take_succ_eq_append_getElem hky, HT.out, e])
        have HF : Hid (xs[k] ≠ ys[k] → sameC xs ys = false) := Lib.hid (fun hne => by rw [Bool.eq_false_iff]; intro e; have e' := (allEqE_iff xs ys).1 e; subst e'; exact hne rfl)
        generalize xs[k] = x at *
        generalize ys[k] = y at *
        clear hkx hky HT
        obtain ⟨kx, tx, ox, vx, ux⟩ := x
        obtain ⟨ky, ty, oy, vy, uy⟩ := y
        have hne := fun w => run_neE ⟨kx, tx, ox, vx, ux⟩ ⟨ky, ty, oy, vy, uy⟩ w
        dsimp only at hne
        cases hc : eqEn ⟨kx, tx, ox, vx, ux⟩ ⟨ky, ty, oy, vy, uy⟩ with
        | true =>
          rw [hc] at hne
          simp only [Bool.not_true] at hne
          have HT3 := Lib.hid (HT2.out ((eqEn_iff _ _).1 hc))
          clear hc HT2 HF
          go_wp2_with fail
          refine wp_region_any (by kernel_rfl) ?_
          change wpAny _ _ _ _ _ _ _ (World.drew _)
          have hS : (fun w' : World => RowAt w' bA (oA + k * 5) ⟨kx, tx, ox, vx, ux⟩ ∧ RowAt w' bB (oB + k * 5) ⟨ky, ty, oy, vy, uy⟩ ∧ Below w.heap.size w w') wr.drew := ⟨rA, rB, HW.out.drew⟩
          refine wpAny_of_held (S := fun w' => RowAt w' bA (oA + k * 5) ⟨kx, tx, ox, vx, ux⟩ ∧ RowAt w' bB (oB + k * 5) ⟨ky, ty, oy, vy, uy⟩ ∧ Below w.heap.size w w') _ _ _ _ ?_
          clear rA rB
          refine wpAnyH_takeE (i := 0) (some 17) (v := ?_) rfl rfl (by as_aux_lemma => kernel_rfl) (by as_aux_lemma => kernel_rfl) (by as_aux_lemma => kernel_rfl) (fun _ _ _ h => h) (Or.inl ⟨by kernel_rfl, ?_⟩) hS ?_
          rotate_left
          · intro w hSw; obtain ⟨a0, a1, a2, a3, a4⟩ := hSw.1; obtain ⟨d0, d1, d2, d3, d4⟩ := hSw.2.1; dsimp only at a0 a1 a2 a3 a4 d0 d1 d2 d3 d4; go_simp
            first | done | with_reducible rfl
          refine wpAnyH_takeE (i := 1) (some 18) (v := ?_) rfl rfl (by as_aux_lemma => kernel_rfl) (by as_aux_lemma => kernel_rfl) (by as_aux_lemma => kernel_rfl) (fun _ _ _ h => h) (Or.inl ⟨by kernel_rfl, ?_⟩) hS ?_
          rotate_left
          · intro w hSw; obtain ⟨a0, a1, a2, a3, a4⟩ := hSw.1; obtain ⟨d0, d1, d2, d3, d4⟩ := hSw.2.1; dsimp only at a0 a1 a2 a3 a4 d0 d1 d2 d3 d4; go_simp
            first | done | with_reducible rfl
          refine wpAnyH_takeE (i := 2) (some 19) (v := ?_) rfl rfl (by as_aux_lemma => kernel_rfl) (by as_aux_lemma => kernel_rfl) (by as_aux_lemma => kernel_rfl) (fun _ _ _ h => h) (Or.inl ⟨by kernel_rfl, ?_⟩) hS ?_
          rotate_left
          · intro w hSw; obtain ⟨a0, a1, a2, a3, a4⟩ := hSw.1; obtain ⟨d0, d1, d2, d3, d4⟩ := hSw.2.1; dsimp only at a0 a1 a2 a3 a4 d0 d1 d2 d3 d4; go_simp
            first | done | with_reducible rfl
          refine wpAnyH_takeE (i := 3) (some 20) (v := ?_) rfl rfl (by as_aux_lemma => kernel_rfl) (by as_aux_lemma => kernel_rfl) (by as_aux_lemma => kernel_rfl) (fun _ _ _ h => h) (Or.inl ⟨by kernel_rfl, ?_⟩) hS ?_
          rotate_left
          · intro w hSw; obtain ⟨a0, a1, a2, a3, a4⟩ := hSw.1; obtain ⟨d0, d1, d2, d3, d4⟩ := hSw.2.1; dsimp only at a0 a1 a2 a3 a4 d0 d1 d2 d3 d4; go_simp
            first | done | with_reducible rfl
          refine wpAnyH_takeE (i := 4) (some 21) (v := ?_) rfl rfl (by as_aux_lemma => kernel_rfl) (by as_aux_lemma => kernel_rfl) (by as_aux_lemma => kernel_rfl) (fun _ _ _ h => h) (Or.inl ⟨by kernel_rfl, ?_⟩) hS ?_
          rotate_left
          · intro w hSw; obtain ⟨a0, a1, a2, a3, a4⟩ := hSw.1; obtain ⟨d0, d1, d2, d3, d4⟩ := hSw.2.1; dsimp only at a0 a1 a2 a3 a4 d0 d1 d2 d3 d4; go_simp
            first | done | with_reducible rfl
          refine wpAnyH_takeE (i := 5) (some 22) (v := ?_) rfl rfl (by as_aux_lemma => kernel_rfl) (by as_aux_lemma => kernel_rfl) (by as_aux_lemma => kernel_rfl) (fun _ _ _ h => h) (Or.inl ⟨by kernel_rfl, ?_⟩) hS ?_
          rotate_left
          · intro w hSw; obtain ⟨a0, a1, a2, a3, a4⟩ := hSw.1; obtain ⟨d0, d1, d2, d3, d4⟩ := hSw.2.1; dsimp only at a0 a1 a2 a3 a4 d0 d1 d2 d3 d4; go_simp
            first | done | with_reducible rfl
          refine wpAnyH_takeE (i := 6) (some 23) (v := ?_) rfl rfl (by as_aux_lemma => kernel_rfl) (by as_aux_lemma => kernel_rfl) (by as_aux_lemma => kernel_rfl) (fun _ _ _ h => h) (Or.inl ⟨by kernel_rfl, ?_⟩) hS ?_
          rotate_left
          · intro w hSw; obtain ⟨a0, a1, a2, a3, a4⟩ := hSw.1; obtain ⟨d0, d1, d2, d3, d4⟩ := hSw.2.1; dsimp only at a0 a1 a2 a3 a4 d0 d1 d2 d3 d4; go_simp
            first | done | with_reducible rfl
          refine wpAnyH_takeE (i := 7) (some 24) (v := ?_) rfl rfl (by as_aux_lemma => kernel_rfl) (by as_aux_lemma => kernel_rfl) (by as_aux_lemma => kernel_rfl) (fun _ _ _ h => h) (Or.inl ⟨by kernel_rfl, ?_⟩) hS ?_
          rotate_left
          · intro w hSw; obtain ⟨a0, a1, a2, a3, a4⟩ := hSw.1; obtain ⟨d0, d1, d2, d3, d4⟩ := hSw.2.1; dsimp only at a0 a1 a2 a3 a4 d0 d1 d2 d3 d4; go_simp
            first | done | with_reducible rfl
          refine wpAnyH_takeE (i := 8) (some 25) (v := ?_) rfl rfl (by as_aux_lemma => kernel_rfl) (by as_aux_lemma => kernel_rfl) (by as_aux_lemma => kernel_rfl) (fun _ _ _ h => h) (Or.inl ⟨by kernel_rfl, ?_⟩) hS ?_
          rotate_left
          · intro w hSw; obtain ⟨a0, a1, a2, a3, a4⟩ := hSw.1; obtain ⟨d0, d1, d2, d3, d4⟩ := hSw.2.1; dsimp only at a0 a1 a2 a3 a4 d0 d1 d2 d3 d4; go_simp
            first | done | with_reducible rfl
          have HB3 := Lib.hid hS.2.2
          refine wpAnyH_done (by kernel_rfl) ?_ _
          clear hS HW
          go_simp
          go_wp2
          go_roundw
          case rel => exact ⟨k + 1, by omega, by go_num, HT3, HB3⟩
          case measure => simp [intOf]; omega
        | false =>
          rw [hc] at hne
          simp only [Bool.not_false] at hne
          have hs : sameC xs ys = false := HF.out (fun e => by rw [e, eqEn_refl] at hc; cases hc)
          have HSm := Lib.hid hs
          clear hc HT2 HF hs
          go_wp2_with fail
          refine wp_region_any (by kernel_rfl) ?_
          change wpAny _ _ _ _ _ _ _ (World.drew _)
          have hS : (fun w' : World => RowAt w' bA (oA + k * 5) ⟨kx, tx, ox, vx, ux⟩ ∧ RowAt w' bB (oB + k * 5) ⟨ky, ty, oy, vy, uy⟩ ∧ Below w.heap.size w w') wr.drew := ⟨rA, rB, HW.out.drew⟩
          refine wpAny_of_held (S := fun w' => RowAt w' bA (oA + k * 5) ⟨kx, tx, ox, vx, ux⟩ ∧ RowAt w' bB (oB + k * 5) ⟨ky, ty, oy, vy, uy⟩ ∧ Below w.heap.size w w') _ _ _ _ ?_
          clear rA rB
          refine wpAnyH_takeE (i := 0) (some 17) (v := ?_) rfl rfl (by as_aux_lemma => kernel_rfl) (by as_aux_lemma => kernel_rfl) (by as_aux_lemma => kernel_rfl) (fun _ _ _ h => h) (Or.inl ⟨by kernel_rfl, ?_⟩) hS ?_
          rotate_left
          · intro w hSw; obtain ⟨a0, a1, a2, a3, a4⟩ := hSw.1; obtain ⟨d0, d1, d2, d3, d4⟩ := hSw.2.1; dsimp only at a0 a1 a2 a3 a4 d0 d1 d2 d3 d4; go_simp
            first | done | with_reducible rfl
          refine wpAnyH_takeE (i := 1) (some 18) (v := ?_) rfl rfl (by as_aux_lemma => kernel_rfl) (by as_aux_lemma => kernel_rfl) (by as_aux_lemma => kernel_rfl) (fun _ _ _ h => h) (Or.inl ⟨by kernel_rfl, ?_⟩) hS ?_
          rotate_left
          · intro w hSw; obtain ⟨a0, a1, a2, a3, a4⟩ := hSw.1; obtain ⟨d0, d1, d2, d3, d4⟩ := hSw.2.1; dsimp only at a0 a1 a2 a3 a4 d0 d1 d2 d3 d4; go_simp
            first | done | with_reducible rfl
          refine wpAnyH_takeE (i := 2) (some 19) (v := ?_) rfl rfl (by as_aux_lemma => kernel_rfl) (by as_aux_lemma => kernel_rfl) (by as_aux_lemma => kernel_rfl) (fun _ _ _ h => h) (Or.inl ⟨by kernel_rfl, ?_⟩) hS ?_
          rotate_left
          · intro w hSw; obtain ⟨a0, a1, a2, a3, a4⟩ := hSw.1; obtain ⟨d0, d1, d2, d3, d4⟩ := hSw.2.1; dsimp only at a0 a1 a2 a3 a4 d0 d1 d2 d3 d4; go_simp
            first | done | with_reducible rfl
          refine wpAnyH_takeE (i := 3) (some 20) (v := ?_) rfl rfl (by as_aux_lemma => kernel_rfl) (by as_aux_lemma => kernel_rfl) (by as_aux_lemma => kernel_rfl) (fun _ _ _ h => h) (Or.inl ⟨by kernel_rfl, ?_⟩) hS ?_
          rotate_left
          · intro w hSw; obtain ⟨a0, a1, a2, a3, a4⟩ := hSw.1; obtain ⟨d0, d1, d2, d3, d4⟩ := hSw.2.1; dsimp only at a0 a1 a2 a3 a4 d0 d1 d2 d3 d4; go_simp
            first | done | with_reducible rfl
          refine wpAnyH_takeE (i := 4) (some 21) (v := ?_) rfl rfl (by as_aux_lemma => kernel_rfl) (by as_aux_lemma => kernel_rfl) (by as_aux_lemma => kernel_rfl) (fun _ _ _ h => h) (Or.inl ⟨by kernel_rfl, ?_⟩) hS ?_
          rotate_left
          · intro w hSw; obtain ⟨a0, a1, a2, a3, a4⟩ := hSw.1; obtain ⟨d0, d1, d2, d3, d4⟩ := hSw.2.1; dsimp only at a0 a1 a2 a3 a4 d0 d1 d2 d3 d4; go_simp
            first | done | with_reducible rfl
          refine wpAnyH_takeE (i := 5) (some 22) (v := ?_) rfl rfl (by as_aux_lemma => kernel_rfl) (by as_aux_lemma => kernel_rfl) (by as_aux_lemma => kernel_rfl) (fun _ _ _ h => h) (Or.inl ⟨by kernel_rfl, ?_⟩) hS ?_
          rotate_left
          · intro w hSw; obtain ⟨a0, a1, a2, a3, a4⟩ := hSw.1; obtain ⟨d0, d1, d2, d3, d4⟩ := hSw.2.1; dsimp only at a0 a1 a2 a3 a4 d0 d1 d2 d3 d4; go_simp
            first | done | with_reducible rfl
          refine wpAnyH_takeE (i := 6) (some 23) (v := ?_) rfl rfl (by as_aux_lemma => kernel_rfl) (by as_aux_lemma => kernel_rfl) (by as_aux_lemma => kernel_rfl) (fun _ _ _ h => h) (Or.inl ⟨by kernel_rfl, ?_⟩) hS ?_
          rotate_left
          · intro w hSw; obtain ⟨a0, a1, a2, a3, a4⟩ := hSw.1; obtain ⟨d0, d1, d2, d3, d4⟩ := hSw.2.1; dsimp only at a0 a1 a2 a3 a4 d0 d1 d2 d3 d4; go_simp
            first | done | with_reducible rfl
          refine wpAnyH_takeE (i := 7) (some 24) (v := ?_) rfl rfl (by as_aux_lemma => kernel_rfl) (by as_aux_lemma => kernel_rfl) (by as_aux_lemma => kernel_rfl) (fun _ _ _ h => h) (Or.inl ⟨by kernel_rfl, ?_⟩) hS ?_
          rotate_left
          · intro w hSw; obtain ⟨a0, a1, a2, a3, a4⟩ := hSw.1; obtain ⟨d0, d1, d2, d3, d4⟩ := hSw.2.1; dsimp only at a0 a1 a2 a3 a4 d0 d1 d2 d3 d4; go_simp
            first | done | with_reducible rfl
          refine wpAnyH_takeE (i := 8) (some 25) (v := ?_) rfl rfl (by as_aux_lemma => kernel_rfl) (by as_aux_lemma => kernel_rfl) (by as_aux_lemma => kernel_rfl) (fun _ _ _ h => h) (Or.inl ⟨by kernel_rfl, ?_⟩) hS ?_
          rotate_left
          · intro w hSw; obtain ⟨a0, a1, a2, a3, a4⟩ := hSw.1; obtain ⟨d0, d1, d2, d3, d4⟩ := hSw.2.1; dsimp only at a0 a1 a2 a3 a4 d0 d1 d2 d3 d4; go_simp
            first | done | with_reducible rfl
          have HB3 := Lib.hid hS.2.2
          refine wpAnyH_done (by kernel_rfl) ?_ _
          clear hS HW
          go_simp
          go_wp2
          go_ret
          exact ⟨by rw [HSm.out]; rfl, HB3.out⟩
      · have hkl : ¬ (k : Int) < (n : Int) := by omega
        have hs : sameC xs ys = true := (allEqE_iff xs ys).2 (by
          have h := HT.out
          rw [List.take_of_length_le (by have := HN.out; omega), List.take_of_length_le (by have := HM.out; omega)] at h
          exact h)
        have HSm := Lib.hid hs
        clear hs HT
        go_wp2
        go_ret
        exact ⟨by rw [HSm.out]; rfl, HW.out⟩
  · have h1 : ((n : Int) != (m : Int)) = true := by simp only [bne_iff_ne, ne_eq]; omega
    have hs := sameC_len (xs := xs) (ys := ys) (by omega)
    rw [hs]
    clear hnx hmy hs hn hnm ha hb
    go_enter Try.func12, Try.ntmps12
    go_wp2
    go_ret
    exact ⟨rfl, Below.refl _ _⟩

theorem view_step (L : List Ent) (now : Int) (k : Nat) (hk : k < L.length) : viewC (L.take (k + 1)) now = if now < L[k].u then viewC (L.take k) now ++ [L[k]] else viewC (L.take k) now := by
  unfold viewC
  rw [List.take_succ_eq_append_getElem hk, List.filter_append]
  by_cases h : now < L[k].u <;> simp [h]
theorem view_le (L : List Ent) (now : Int) : (viewC L now).length ≤ L.length := List.length_filter_le _ _

/-- What lies in one cell, a map of the reference. -/
def RmBlk (w : World) (B : Nat) (a : Option Addr) (n c : Nat) : Prop := w.heap[B]? = some (.cells #[.slice a n c] 30 (0, 0))
theorem RmBlk.lt {w : World} {B : Nat} {a : Option Addr} {n c : Nat} (h : RmBlk w B a n c) : B < w.heap.size := ltE h
theorem RmBlk.below {w w' : World} {B N : Nat} {a : Option Addr} {n c : Nat} (h : RmBlk w B a n c) (hb : Below N w w') (hN : B < N) : RmBlk w' B a n c := (hb.block B hN).trans h
theorem RmBlk.on {w w' : World} {B : Nat} {a : Option Addr} {n c : Nat} (h : RmBlk w B a n c) (hb : Below w.heap.size w w') : RmBlk w' B a n c := h.below hb h.lt
theorem RmBlk.kept {w w' : World} {B : Nat} {a : Option Addr} {n c : Nat} {r : Option Nat} (h : RmBlk w B a n c) (hg : w.grownBy w' r) (hr : some B ≠ r) : RmBlk w' B a n c := (hg.block B h.lt hr).trans h
theorem RmBlk.new (w : World) (a : Option Addr) (n c : Nat) : RmBlk (w.alloc (.cells #[.slice a n c] 30)) w.heap.size a n c := newE w _
theorem RmBlk.c0 {w : World} {B : Nat} {a : Option Addr} {n c : Nat} (h : RmBlk w B a n c) : w.cell? ⟨B, 0, none⟩ = some (.slice a n c) := cellE h

set_option maxRecDepth 100000 in
set_option maxHeartbeats 4000000 in
theorem crView_any (a : Option Addr) (c : Nat) (L : List Ent) (now : Int) (w : World) (he : EntsAt w a L) (hl : L.length ≤ 1000000) (n : Nat) (hn : n = L.length) :
    Calls Try.prog 14 #[.agg #[.slice a n c], .int .i64 now] w fun e w' => ∃ v, e = .returned v ∧ OwnC w' w.heap.size v (viewC L now) ∧ Below w.heap.size w w' := by
  have d1 := (Below.refl w.heap.size w).alloc (Nat.le_refl _) (.cells #[.slice a n c] 30)
  have b1 := RmBlk.new w a n c
  obtain ⟨w1, hw1⟩ : ∃ x, x = w.alloc (.cells #[.slice a n c] 30) := ⟨_, rfl⟩
  rw [← hw1] at d1 b1
  have hs1 : w1.heap.size = w.heap.size + 1 := by rw [hw1]; simp
  have HN := Lib.hid hn
  have hn1 : n ≤ 1000000 := by omega
  have HS := Lib.hid (And.intro (he.on d1) (And.intro d1 (And.intro b1 hs1)))
  clear hn hl he d1 b1 hs1
  subst hw1
  go_enter Try.func14, Try.ntmps14
  go_wp2
  generalize w.alloc (.cells #[.slice a n c] 30) = w1 at *
  obtain ⟨i0, hi, hi0, hi1, hi2⟩ := info_parts infoEn
  go_loopw [5, 6] (fun v i wr => ∃ (k : Nat) (a5 : Option Addr) (n5 c5 : Nat), k ≤ n ∧ i = .int .i64 (k : Int) ∧ v = .slice a5 n5 c5 ∧ Hid (OwnC wr w1.heap.size (.slice a5 n5 c5) (viewC (L.take k) now)) ∧ Hid (Below w1.heap.size w1 wr)) (fun _ i _ => n - (intOf i).toNat)
  case atStart => exact ⟨0, none, 0, 0, Nat.zero_le _, rfl, rfl, Lib.hid (World.ownsRow_nil _ _ _ _), Lib.hid (Below.refl _ _)⟩
  case round =>
    obtain ⟨k, a5, n5, c5, hk, rfl, rfl, HL, HB⟩ := hrel
    obtain ⟨x0, q0, b0, hs0⟩ := HS.out
    have c0 := (b0.on HB.out).c0
    by_cases hlt : k < n
    · have hkl : (k : Int) < (n : Int) := by omega
      have hkx : k < L.length := by have := HN.out; omega
      obtain ⟨b, o, ea, hb, d0, d1, d2, d3, d4⟩ := (x0.on HB.out).cells k hkx
      have HT := Lib.hid (view_step L now k hkx)
      have hown3 := HL.out
      have hMl : (viewC (L.take k) now).length ≤ 1000000 := Nat.le_trans (view_le _ _) (by rw [List.length_take]; omega)
      have hwK : w1.heap.size ≤ wr.heap.size := HB.out.size
      generalize viewC (L.take k) now = M at *
      generalize L[k] = r0 at *
      clear x0 q0 b0 hs0 HL hkx hb
      subst ea
      by_cases hu : now < r0.u
      · rw [if_pos hu] at HT
        go_wp2_with (at_builtin; refine wpList_append_own _ rfl _ _ 22 rfl w1.heap.size 36 i0 _ 5 56 Try.underlying22 hi hi0 hi1 hi2 rfl (by decide) _ _ _ rfl (World.ownsRow.alloc hown3 _) ⟨_, 0, none⟩ 1 1 [.string r0.k, .int .i64 r0.t, .int .u16 r0.o, .string r0.v, .int .i64 r0.u] rfl rfl (World.news_of_block (cs := #[.string r0.k, .int .i64 r0.t, .int .u16 r0.o, .string r0.v, .int .i64 r0.u]) (newE _ _)) (by intro u' hu'; simp at hu'; rcases hu' with rfl | rfl | rfl | rfl | rfl <;> rfl) (by unfold maxLen; omega) (by omega) (by simp; omega) ?_; refine Hid.out ?_)
        refine Lib.hid ?_
        intro v5 w5 hown5 hg5 _
        have hA5 : OwnC w5 w1.heap.size v5 (viewC (L.take (k + 1)) now) := by rw [HT.out]; exact OwnC.push hown5
        obtain ⟨a6, c6, rfl, -, -, -⟩ := hA5.form
        have HB5 : Hid (Below w1.heap.size w1 w5) := Lib.hid ((HB.out.alloc HB.out.size _).grown hg5 (by simp; omega) (fun j hj => (World.ownsRow.lt hown3 j hj).1))
        have HL5 := Lib.hid hA5
        clear hA5 hown5 hg5 hown3 hwK HB d0 d1 d2 d3 d4 c0 HT
        generalize (viewC (L.take (k + 1)) now).length = n6 at *
        go_wp2
        go_roundw
        case rel => exact ⟨k + 1, _, _, _, by omega, by go_num, rfl, HL5, HB5⟩
        case measure => simp [intOf]; omega
      · rw [if_neg hu] at HT
        have HL5 : Hid (OwnC wr w1.heap.size (.slice a5 n5 c5) (viewC (L.take (k + 1)) now)) := Lib.hid (by rw [HT.out]; exact hown3)
        clear hown3 hwK HT
        go_wp2
        go_roundw
        case rel => exact ⟨k + 1, _, _, _, by omega, by go_num, rfl, HL5, HB⟩
        case measure => simp [intOf]; omega
    · have hkl : ¬ (k : Int) < (n : Int) := by omega
      have hA := HL.out
      rw [List.take_of_length_le (by have := HN.out; omega)] at hA
      have HO := Lib.hid (And.intro (hA.base (B' := w.heap.size) (by omega)) (q0.trans (HB.out.mono q0.size)))
      clear hA x0 q0 b0 hs0 HL HB
      go_wp2
      go_ret
      exact ⟨_, rfl, HO.out.1, HO.out.2⟩

end Go.Proofs.Ytkbonifbnbdbkab
