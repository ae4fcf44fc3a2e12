/-
  Whether two packets are one, as the reference says. What Check and Put of the reference tell.
-/
import Derived.Test.YtchhdffehkcecaaDoorP14
namespace Go.Proofs.YtchhdffehkcecaaDoor
open Go Go.RowKit

def RowE6 (w : World) (b p : Nat) (x : Ent) : Prop := w.cell? ⟨b, p, none⟩ = some (.string x.k) ∧ w.cell? ⟨b, p + 1, none⟩ = some (.int .i64 x.t) ∧ w.cell? ⟨b, p + 2, none⟩ = some (.int .u16 x.o) ∧ w.cell? ⟨b, p + 3, none⟩ = some (.string x.v) ∧ w.cell? ⟨b, p + 4, none⟩ = some (.int .i64 x.u)
theorem EntsAt.row6 {w : World} {a : Option Addr} {l : List Ent} (h : EntsAt w a l) (k : Nat) (hk : k < l.length) : ∃ b o, a = some ⟨b, o, none⟩ ∧ RowE6 w b (o + k * 5) l[k] := by
  obtain ⟨b, o, e, -, c⟩ := h.cellsP k hk
  exact ⟨b, o, e, c⟩
def RowM6 (w : World) (b p : Nat) (x : Mem) : Prop := w.cell? ⟨b, p, none⟩ = some (.int .u16 x.n) ∧ w.cell? ⟨b, p + 1, none⟩ = some (.int .u8 x.s) ∧ w.cell? ⟨b, p + 2, none⟩ = some (.int .i64 x.i)
theorem MemsAt.row6 {w : World} {a : Option Addr} {l : List Mem} (h : MemsAt w a l) (k : Nat) (hk : k < l.length) : ∃ b o, a = some ⟨b, o, none⟩ ∧ RowM6 w b (o + k * 3) l[k] := by
  obtain ⟨b, o, e, -, c⟩ := h.cells k hk
  exact ⟨b, o, e, c⟩
theorem eqEn_refl6 (x : Ent) : eqEn x x = true := (eqEn_iff _ _).2 rfl
theorem eqMm_refl6 (x : Mem) : eqMm x x = true := (eqMm_iff _ _).2 rfl

set_option maxRecDepth 100000 in
set_option maxHeartbeats 4000000 in
theorem cRefSame_any (a b : Option Addr) (c d : Nat) (xs ys : List Ent) (w : World) (ha : EntsAt w a xs) (hb : EntsAt w b ys) (hn : xs.length ≤ 9223372036854775807) (n m : Nat) (hnx : n = xs.length) (hmy : m = ys.length) :
    Calls Tryd.prog 29 #[.slice a n c, .slice b m d] w fun e w' => e = .returned (.bool (sameEs xs ys)) ∧ Below w.heap.size w w' := by
  by_cases hnm : n = m
  · subst hnm
    have hn1 : n ≤ 9223372036854775807 := by omega
    have HN := Lib.hid hnx
    have HM := Lib.hid hmy
    have HA := Lib.hid ha
    have HB := Lib.hid hb
    clear hnx hmy ha hb hn
    go_enter Tryd.func29, Tryd.ntmps29
    go_wp2
    go_loopw [5] (fun i wr => ∃ (k : Nat), k ≤ n ∧ i = .int .i64 k ∧ Hid (xs.take k = ys.take k) ∧ Hid (Below w.heap.size w wr)) (fun i _ => n - (intOf i).toNat)
    case atStart => exact ⟨0, Nat.zero_le _, rfl, Lib.hid rfl, Lib.hid (Below.refl _ _)⟩
    case round =>
      obtain ⟨k, hk, rfl, HT, HW⟩ := hrel
      by_cases hlt : k < n
      · have hkl : (k : Int) < (n : Int) := by omega
        have hkx : k < xs.length := by have := HN.out; omega
        have hky : k < ys.length := by have := HM.out; omega
        obtain ⟨bA, oA, rfl, rA⟩ := (HA.out.onP HW.out).row6 k hkx
        obtain ⟨bB, oB, rfl, rB⟩ := (HB.out.onP HW.out).row6 k hky
        have HT2 : Hid (xs[k] = ys[k] → xs.take (k + 1) = ys.take (k + 1)) := Lib.hid (fun e => by rw [List.take_succ_eq_append_getElem hkx, List.take_succ_eq_append_getElem hky, HT.out, e])
        have HF : Hid (xs[k] ≠ ys[k] → sameEs xs ys = false) := Lib.hid (fun hne => by rw [Bool.eq_false_iff]; intro e; have e' := (allEqE_iff xs ys).1 e; subst e'; exact hne rfl)
        generalize xs[k] = x at *
        generalize ys[k] = y at *
        clear hkx hky HT
        obtain ⟨kx, tx, ox, vx, ux⟩ := x
        obtain ⟨ky, ty, oy, vy, uy⟩ := y
        have hne := fun w => run_neE ⟨kx, tx, ox, vx, ux⟩ ⟨ky, ty, oy, vy, uy⟩ w
        dsimp only at hne
        cases hc : eqEn ⟨kx, tx, ox, vx, ux⟩ ⟨ky, ty, oy, vy, uy⟩ with
        | true =>
          rw [hc] at hne
          simp only [Bool.not_true] at hne
          have HT3 := Lib.hid (HT2.out ((eqEn_iff _ _).1 hc))
          clear hc HT2 HF
          go_wp2_with fail
          refine wp_region_any (by kernel_rfl) ?_
          change wpAny _ _ _ _ _ _ _ (World.drew _)
          have hS : (fun w' : World => RowE6 w' bA (oA + k * 5) ⟨kx, tx, ox, vx, ux⟩ ∧ RowE6 w' bB (oB + k * 5) ⟨ky, ty, oy, vy, uy⟩ ∧ Below w.heap.size w w') wr.drew := ⟨rA, rB, HW.out.drew⟩
          refine wpAny_of_held (S := fun w' => RowE6 w' bA (oA + k * 5) ⟨kx, tx, ox, vx, ux⟩ ∧ RowE6 w' bB (oB + k * 5) ⟨ky, ty, oy, vy, uy⟩ ∧ Below w.heap.size w w') _ _ _ _ ?_
          clear rA rB
          refine wpAnyH_takeE (i := 0) (some 17) (v := ?_) rfl rfl (by as_aux_lemma => kernel_rfl) (by as_aux_lemma => kernel_rfl) (by as_aux_lemma => kernel_rfl) (fun _ _ _ h => h) (Or.inl ⟨by kernel_rfl, ?_⟩) hS ?_
          rotate_left
          · intro w hSw; obtain ⟨a0, a1, a2, a3, a4⟩ := hSw.1; obtain ⟨d0, d1, d2, d3, d4⟩ := hSw.2.1; dsimp only at a0 a1 a2 a3 a4 d0 d1 d2 d3 d4; go_simp
            first | done | with_reducible rfl
          refine wpAnyH_takeE (i := 1) (some 18) (v := ?_) rfl rfl (by as_aux_lemma => kernel_rfl) (by as_aux_lemma => kernel_rfl) (by as_aux_lemma => kernel_rfl) (fun _ _ _ h => h) (Or.inl ⟨by kernel_rfl, ?_⟩) hS ?_
          rotate_left
          · intro w hSw; obtain ⟨a0, a1, a2, a3, a4⟩ := hSw.1; obtain ⟨d0, d1, d2, d3, d4⟩ := hSw.2.1; dsimp only at a0 a1 a2 a3 a4 d0 d1 d2 d3 d4; go_simp
            first | done | with_reducible rfl
          refine wpAnyH_takeE (i := 2) (some 19) (v := ?_) rfl rfl (by as_aux_lemma => kernel_rfl) (by as_aux_lemma => kernel_rfl) (by as_aux_lemma => kernel_rfl) (fun _ _ _ h => h) (Or.inl ⟨by kernel_rfl, ?_⟩) hS ?_
          rotate_left
          · intro w hSw; obtain ⟨a0, a1, a2, a3, a4⟩ := hSw.1; obtain ⟨d0, d1, d2, d3, d4⟩ := hSw.2.1; dsimp only at a0 a1 a2 a3 a4 d0 d1 d2 d3 d4; go_simp
            first | done | with_reducible rfl
          refine wpAnyH_takeE (i := 3) (some 20) (v := ?_) rfl rfl (by as_aux_lemma => kernel_rfl) (by as_aux_lemma => kernel_rfl) (by as_aux_lemma => kernel_rfl) (fun _ _ _ h => h) (Or.inl ⟨by kernel_rfl, ?_⟩) hS ?_
          rotate_left
          · intro w hSw; obtain ⟨a0, a1, a2, a3, a4⟩ := hSw.1; obtain ⟨d0, d1, d2, d3, d4⟩ := hSw.2.1; dsimp only at a0 a1 a2 a3 a4 d0 d1 d2 d3 d4; go_simp
            first | done | with_reducible rfl
          refine wpAnyH_takeE (i := 4) (some 21) (v := ?_) rfl rfl (by as_aux_lemma => kernel_rfl) (by as_aux_lemma => kernel_rfl) (by as_aux_lemma => kernel_rfl) (fun _ _ _ h => h) (Or.inl ⟨by kernel_rfl, ?_⟩) hS ?_
          rotate_left
          · intro w hSw; obtain ⟨a0, a1, a2, a3, a4⟩ := hSw.1; obtain ⟨d0, d1, d2, d3, d4⟩ := hSw.2.1; dsimp only at a0 a1 a2 a3 a4 d0 d1 d2 d3 d4; go_simp
            first | done | with_reducible rfl
          refine wpAnyH_takeE (i := 5) (some 22) (v := ?_) rfl rfl (by as_aux_lemma => kernel_rfl) (by as_aux_lemma => kernel_rfl) (by as_aux_lemma => kernel_rfl) (fun _ _ _ h => h) (Or.inl ⟨by kernel_rfl, ?_⟩) hS ?_
          rotate_left
          · intro w hSw; obtain ⟨a0, a1, a2, a3, a4⟩ := hSw.1; obtain ⟨d0, d1, d2, d3, d4⟩ := hSw.2.1; dsimp only at a0 a1 a2 a3 a4 d0 d1 d2 d3 d4; go_simp
            first | done | with_reducible rfl
          refine wpAnyH_takeE (i := 6) (some 23) (v := ?_) rfl rfl (by as_aux_lemma => kernel_rfl) (by as_aux_lemma => kernel_rfl) (by as_aux_lemma => kernel_rfl) (fun _ _ _ h => h) (Or.inl ⟨by kernel_rfl, ?_⟩) hS ?_
          rotate_left
          · intro w hSw; obtain ⟨a0, a1, a2, a3, a4⟩ := hSw.1; obtain ⟨d0, d1, d2, d3, d4⟩ := hSw.2.1; dsimp only at a0 a1 a2 a3 a4 d0 d1 d2 d3 d4; go_simp
            first | done | with_reducible rfl
          refine wpAnyH_takeE (i := 7) (some 24) (v := ?_) rfl rfl (by as_aux_lemma => kernel_rfl) (by as_aux_lemma => kernel_rfl) (by as_aux_lemma => kernel_rfl) (fun _ _ _ h => h) (Or.inl ⟨by kernel_rfl, ?_⟩) hS ?_
          rotate_left
          · intro w hSw; obtain ⟨a0, a1, a2, a3, a4⟩ := hSw.1; obtain ⟨d0, d1, d2, d3, d4⟩ := hSw.2.1; dsimp only at a0 a1 a2 a3 a4 d0 d1 d2 d3 d4; go_simp
            first | done | with_reducible rfl
          refine wpAnyH_takeE (i := 8) (some 25) (v := ?_) rfl rfl (by as_aux_lemma => kernel_rfl) (by as_aux_lemma => kernel_rfl) (by as_aux_lemma => kernel_rfl) (fun _ _ _ h => h) (Or.inl ⟨by kernel_rfl, ?_⟩) hS ?_
          rotate_left
          · intro w hSw; obtain ⟨a0, a1, a2, a3, a4⟩ := hSw.1; obtain ⟨d0, d1, d2, d3, d4⟩ := hSw.2.1; dsimp only at a0 a1 a2 a3 a4 d0 d1 d2 d3 d4; go_simp
            first | done | with_reducible rfl
          have HB3 := Lib.hid hS.2.2
          refine wpAnyH_done (by kernel_rfl) ?_ _
          clear hS HW
          go_simp
          go_wp2
          go_roundw
          case rel => exact ⟨k + 1, by omega, by go_num, HT3, HB3⟩
          case measure => simp [intOf]; omega
        | false =>
          rw [hc] at hne
          simp only [Bool.not_false] at hne
          have hs : sameEs xs ys = false := HF.out (fun e => by rw [e, eqEn_refl6] at hc; cases hc)
          have HSm := Lib.hid hs
          clear hc HT2 HF hs
          go_wp2_with fail
          refine wp_region_any (by kernel_rfl) ?_
          change wpAny _ _ _ _ _ _ _ (World.drew _)
          have hS : (fun w' : World => RowE6 w' bA (oA + k * 5) ⟨kx, tx, ox, vx, ux⟩ ∧ RowE6 w' bB (oB + k * 5) ⟨ky, ty, oy, vy, uy⟩ ∧ Below w.heap.size w w') wr.drew := ⟨rA, rB, HW.out.drew⟩
          refine wpAny_of_held (S := fun w' => RowE6 w' bA (oA + k * 5) ⟨kx, tx, ox, vx, ux⟩ ∧ RowE6 w' bB (oB + k * 5) ⟨ky, ty, oy, vy, uy⟩ ∧ Below w.heap.size w w') _ _ _ _ ?_
          clear rA rB
          refine wpAnyH_takeE (i := 0) (some 17) (v := ?_) rfl rfl (by as_aux_lemma => kernel_rfl) (by as_aux_lemma => kernel_rfl) (by as_aux_lemma => kernel_rfl) (fun _ _ _ h => h) (Or.inl ⟨by kernel_rfl, ?_⟩) hS ?_
          rotate_left
          · intro w hSw; obtain ⟨a0, a1, a2, a3, a4⟩ := hSw.1; obtain ⟨d0, d1, d2, d3, d4⟩ := hSw.2.1; dsimp only at a0 a1 a2 a3 a4 d0 d1 d2 d3 d4; go_simp
            first | done | with_reducible rfl
          refine wpAnyH_takeE (i := 1) (some 18) (v := ?_) rfl rfl (by as_aux_lemma => kernel_rfl) (by as_aux_lemma => kernel_rfl) (by as_aux_lemma => kernel_rfl) (fun _ _ _ h => h) (Or.inl ⟨by kernel_rfl, ?_⟩) hS ?_
          rotate_left
          · intro w hSw; obtain ⟨a0, a1, a2, a3, a4⟩ := hSw.1; obtain ⟨d0, d1, d2, d3, d4⟩ := hSw.2.1; dsimp only at a0 a1 a2 a3 a4 d0 d1 d2 d3 d4; go_simp
            first | done | with_reducible rfl
          refine wpAnyH_takeE (i := 2) (some 19) (v := ?_) rfl rfl (by as_aux_lemma => kernel_rfl) (by as_aux_lemma => kernel_rfl) (by as_aux_lemma => kernel_rfl) (fun _ _ _ h => h) (Or.inl ⟨by kernel_rfl, ?_⟩) hS ?_
          rotate_left
          · intro w hSw; obtain ⟨a0, a1, a2, a3, a4⟩ := hSw.1; obtain ⟨d0, d1, d2, d3, d4⟩ := hSw.2.1; dsimp only at a0 a1 a2 a3 a4 d0 d1 d2 d3 d4; go_simp
            first | done | with_reducible rfl
          refine wpAnyH_takeE (i := 3) (some 20) (v := ?_) rfl rfl (by as_aux_lemma => kernel_rfl) (by as_aux_lemma => kernel_rfl) (by as_aux_lemma => kernel_rfl) (fun _ _ _ h => h) (Or.inl ⟨by kernel_rfl, ?_⟩) hS ?_
          rotate_left
          · intro w hSw; obtain ⟨a0, a1, a2, a3, a4⟩ := hSw.1; obtain ⟨d0, d1, d2, d3, d4⟩ := hSw.2.1; dsimp only at a0 a1 a2 a3 a4 d0 d1 d2 d3 d4; go_simp
            first | done | with_reducible rfl
          refine wpAnyH_takeE (i := 4) (some 21) (v := ?_) rfl rfl (by as_aux_lemma => kernel_rfl) (by as_aux_lemma => kernel_rfl) (by as_aux_lemma => kernel_rfl) (fun _ _ _ h => h) (Or.inl ⟨by kernel_rfl, ?_⟩) hS ?_
          rotate_left
          · intro w hSw; obtain ⟨a0, a1, a2, a3, a4⟩ := hSw.1; obtain ⟨d0, d1, d2, d3, d4⟩ := hSw.2.1; dsimp only at a0 a1 a2 a3 a4 d0 d1 d2 d3 d4; go_simp
            first | done | with_reducible rfl
          refine wpAnyH_takeE (i := 5) (some 22) (v := ?_) rfl rfl (by as_aux_lemma => kernel_rfl) (by as_aux_lemma => kernel_rfl) (by as_aux_lemma => kernel_rfl) (fun _ _ _ h => h) (Or.inl ⟨by kernel_rfl, ?_⟩) hS ?_
          rotate_left
          · intro w hSw; obtain ⟨a0, a1, a2, a3, a4⟩ := hSw.1; obtain ⟨d0, d1, d2, d3, d4⟩ := hSw.2.1; dsimp only at a0 a1 a2 a3 a4 d0 d1 d2 d3 d4; go_simp
            first | done | with_reducible rfl
          refine wpAnyH_takeE (i := 6) (some 23) (v := ?_) rfl rfl (by as_aux_lemma => kernel_rfl) (by as_aux_lemma => kernel_rfl) (by as_aux_lemma => kernel_rfl) (fun _ _ _ h => h) (Or.inl ⟨by kernel_rfl, ?_⟩) hS ?_
          rotate_left
          · intro w hSw; obtain ⟨a0, a1, a2, a3, a4⟩ := hSw.1; obtain ⟨d0, d1, d2, d3, d4⟩ := hSw.2.1; dsimp only at a0 a1 a2 a3 a4 d0 d1 d2 d3 d4; go_simp
            first | done | with_reducible rfl
          refine wpAnyH_takeE (i := 7) (some 24) (v := ?_) rfl rfl (by as_aux_lemma => kernel_rfl) (by as_aux_lemma => kernel_rfl) (by as_aux_lemma => kernel_rfl) (fun _ _ _ h => h) (Or.inl ⟨by kernel_rfl, ?_⟩) hS ?_
          rotate_left
          · intro w hSw; obtain ⟨a0, a1, a2, a3, a4⟩ := hSw.1; obtain ⟨d0, d1, d2, d3, d4⟩ := hSw.2.1; dsimp only at a0 a1 a2 a3 a4 d0 d1 d2 d3 d4; go_simp
            first | done | with_reducible rfl
          refine wpAnyH_takeE (i := 8) (some 25) (v := ?_) rfl rfl (by as_aux_lemma => kernel_rfl) (by as_aux_lemma => kernel_rfl) (by as_aux_lemma => kernel_rfl) (fun _ _ _ h => h) (Or.inl ⟨by kernel_rfl, ?_⟩) hS ?_
          rotate_left
          · intro w hSw; obtain ⟨a0, a1, a2, a3, a4⟩ := hSw.1; obtain ⟨d0, d1, d2, d3, d4⟩ := hSw.2.1; dsimp only at a0 a1 a2 a3 a4 d0 d1 d2 d3 d4; go_simp
            first | done | with_reducible rfl
          have HB3 := Lib.hid hS.2.2
          refine wpAnyH_done (by kernel_rfl) ?_ _
          clear hS HW
          go_simp
          go_wp2
          go_ret
          exact ⟨by rw [HSm.out]; rfl, HB3.out⟩
      · have hkl : ¬ (k : Int) < (n : Int) := by omega
        have hs : sameEs xs ys = true := (allEqE_iff xs ys).2 (by
          have h := HT.out
          rw [List.take_of_length_le (by have := HN.out; omega), List.take_of_length_le (by have := HM.out; omega)] at h
          exact h)
        have HSm := Lib.hid hs
        clear hs HT
        go_wp2
        go_ret
        exact ⟨by rw [HSm.out]; rfl, HW.out⟩
  · have h1 : ((n : Int) != (m : Int)) = true := by simp only [bne_iff_ne, ne_eq]; omega
    have hs := sameEs_len (xs := xs) (ys := ys) (by omega)
    rw [hs]
    clear hnx hmy hs hn hnm ha hb
    go_enter Tryd.func29, Tryd.ntmps29
    go_wp2
    go_ret
    exact ⟨rfl, Below.refl _ _⟩
set_option maxRecDepth 100000 in
set_option maxHeartbeats 4000000 in
theorem ySameM_any (a b : Option Addr) (c d : Nat) (xs ys : List Mem) (w : World) (ha : MemsAt w a xs) (hb : MemsAt w b ys) (hn : xs.length ≤ 9223372036854775807) (n m : Nat) (hnx : n = xs.length) (hmy : m = ys.length) :
    Calls Tryd.prog 28 #[.slice a n c, .slice b m d] w fun e w' => e = .returned (.bool (sameMs xs ys)) ∧ Below w.heap.size w w' := by
  by_cases hnm : n = m
  · subst hnm
    have hn1 : n ≤ 9223372036854775807 := by omega
    have HN := Lib.hid hnx
    have HM := Lib.hid hmy
    have HA := Lib.hid ha
    have HB := Lib.hid hb
    clear hnx hmy ha hb hn
    go_enter Tryd.func28, Tryd.ntmps28
    go_wp2
    go_loopw [5] (fun i wr => ∃ (k : Nat), k ≤ n ∧ i = .int .i64 k ∧ Hid (xs.take k = ys.take k) ∧ Hid (Below w.heap.size w wr)) (fun i _ => n - (intOf i).toNat)
    case atStart => exact ⟨0, Nat.zero_le _, rfl, Lib.hid rfl, Lib.hid (Below.refl _ _)⟩
    case round =>
      obtain ⟨k, hk, rfl, HT, HW⟩ := hrel
      by_cases hlt : k < n
      · have hkl : (k : Int) < (n : Int) := by omega
        have hkx : k < xs.length := by have := HN.out; omega
        have hky : k < ys.length := by have := HM.out; omega
        obtain ⟨bA, oA, rfl, rA⟩ := (HA.out.on HW.out).row6 k hkx
        obtain ⟨bB, oB, rfl, rB⟩ := (HB.out.on HW.out).row6 k hky
        have HT2 : Hid (xs[k] = ys[k] → xs.take (k + 1) = ys.take (k + 1)) := Lib.hid (fun e => by rw [List.take_succ_eq_append_getElem hkx, List.take_succ_eq_append_getElem hky, HT.out, e])
        have HF : Hid (xs[k] ≠ ys[k] → sameMs xs ys = false) := Lib.hid (fun hne => by rw [Bool.eq_false_iff]; intro e; have e' := (allEqM_iff xs ys).1 e; subst e'; exact hne rfl)
        generalize xs[k] = x at *
        generalize ys[k] = y at *
        clear hkx hky HT
        obtain ⟨nx, sx, ix⟩ := x
        obtain ⟨ny, sy, iy⟩ := y
        have hne := fun w => run_neM ⟨nx, sx, ix⟩ ⟨ny, sy, iy⟩ w
        dsimp only at hne
        cases hc : eqMm ⟨nx, sx, ix⟩ ⟨ny, sy, iy⟩ with
        | true =>
          rw [hc] at hne
          simp only [Bool.not_true] at hne
          have HT3 := Lib.hid (HT2.out ((eqMm_iff _ _).1 hc))
          clear hc HT2 HF
          go_wp2_with fail
          refine wp_region_any (by kernel_rfl) ?_
          change wpAny _ _ _ _ _ _ _ (World.drew _)
          have hS : (fun w' : World => RowM6 w' bA (oA + k * 3) ⟨nx, sx, ix⟩ ∧ RowM6 w' bB (oB + k * 3) ⟨ny, sy, iy⟩ ∧ Below w.heap.size w w') wr.drew := ⟨rA, rB, HW.out.drew⟩
          refine wpAny_of_held (S := fun w' => RowM6 w' bA (oA + k * 3) ⟨nx, sx, ix⟩ ∧ RowM6 w' bB (oB + k * 3) ⟨ny, sy, iy⟩ ∧ Below w.heap.size w w') _ _ _ _ ?_
          clear rA rB
          refine wpAnyH_takeE (i := 0) (some 17) (v := ?_) rfl rfl (by as_aux_lemma => kernel_rfl) (by as_aux_lemma => kernel_rfl) (by as_aux_lemma => kernel_rfl) (fun _ _ _ h => h) (Or.inl ⟨by kernel_rfl, ?_⟩) hS ?_
          rotate_left
          · intro w hSw; obtain ⟨a0, a1, a2⟩ := hSw.1; obtain ⟨d0, d1, d2⟩ := hSw.2.1; dsimp only at a0 a1 a2 d0 d1 d2; go_simp
            first | done | with_reducible rfl
          refine wpAnyH_takeE (i := 1) (some 18) (v := ?_) rfl rfl (by as_aux_lemma => kernel_rfl) (by as_aux_lemma => kernel_rfl) (by as_aux_lemma => kernel_rfl) (fun _ _ _ h => h) (Or.inl ⟨by kernel_rfl, ?_⟩) hS ?_
          rotate_left
          · intro w hSw; obtain ⟨a0, a1, a2⟩ := hSw.1; obtain ⟨d0, d1, d2⟩ := hSw.2.1; dsimp only at a0 a1 a2 d0 d1 d2; go_simp
            first | done | with_reducible rfl
          refine wpAnyH_takeE (i := 2) (some 19) (v := ?_) rfl rfl (by as_aux_lemma => kernel_rfl) (by as_aux_lemma => kernel_rfl) (by as_aux_lemma => kernel_rfl) (fun _ _ _ h => h) (Or.inl ⟨by kernel_rfl, ?_⟩) hS ?_
          rotate_left
          · intro w hSw; obtain ⟨a0, a1, a2⟩ := hSw.1; obtain ⟨d0, d1, d2⟩ := hSw.2.1; dsimp only at a0 a1 a2 d0 d1 d2; go_simp
            first | done | with_reducible rfl
          refine wpAnyH_takeE (i := 3) (some 20) (v := ?_) rfl rfl (by as_aux_lemma => kernel_rfl) (by as_aux_lemma => kernel_rfl) (by as_aux_lemma => kernel_rfl) (fun _ _ _ h => h) (Or.inl ⟨by kernel_rfl, ?_⟩) hS ?_
          rotate_left
          · intro w hSw; obtain ⟨a0, a1, a2⟩ := hSw.1; obtain ⟨d0, d1, d2⟩ := hSw.2.1; dsimp only at a0 a1 a2 d0 d1 d2; go_simp
            first | done | with_reducible rfl
          refine wpAnyH_takeE (i := 4) (some 21) (v := ?_) rfl rfl (by as_aux_lemma => kernel_rfl) (by as_aux_lemma => kernel_rfl) (by as_aux_lemma => kernel_rfl) (fun _ _ _ h => h) (Or.inl ⟨by kernel_rfl, ?_⟩) hS ?_
          rotate_left
          · intro w hSw; obtain ⟨a0, a1, a2⟩ := hSw.1; obtain ⟨d0, d1, d2⟩ := hSw.2.1; dsimp only at a0 a1 a2 d0 d1 d2; go_simp
            first | done | with_reducible rfl
          refine wpAnyH_takeE (i := 5) (some 22) (v := ?_) rfl rfl (by as_aux_lemma => kernel_rfl) (by as_aux_lemma => kernel_rfl) (by as_aux_lemma => kernel_rfl) (fun _ _ _ h => h) (Or.inl ⟨by kernel_rfl, ?_⟩) hS ?_
          rotate_left
          · intro w hSw; obtain ⟨a0, a1, a2⟩ := hSw.1; obtain ⟨d0, d1, d2⟩ := hSw.2.1; dsimp only at a0 a1 a2 d0 d1 d2; go_simp
            first | done | with_reducible rfl
          refine wpAnyH_takeE (i := 6) (some 23) (v := ?_) rfl rfl (by as_aux_lemma => kernel_rfl) (by as_aux_lemma => kernel_rfl) (by as_aux_lemma => kernel_rfl) (fun _ _ _ h => h) (Or.inl ⟨by kernel_rfl, ?_⟩) hS ?_
          rotate_left
          · intro w hSw; obtain ⟨a0, a1, a2⟩ := hSw.1; obtain ⟨d0, d1, d2⟩ := hSw.2.1; dsimp only at a0 a1 a2 d0 d1 d2; go_simp
            first | done | with_reducible rfl
          refine wpAnyH_takeE (i := 7) (some 24) (v := ?_) rfl rfl (by as_aux_lemma => kernel_rfl) (by as_aux_lemma => kernel_rfl) (by as_aux_lemma => kernel_rfl) (fun _ _ _ h => h) (Or.inl ⟨by kernel_rfl, ?_⟩) hS ?_
          rotate_left
          · intro w hSw; obtain ⟨a0, a1, a2⟩ := hSw.1; obtain ⟨d0, d1, d2⟩ := hSw.2.1; dsimp only at a0 a1 a2 d0 d1 d2; go_simp
            first | done | with_reducible rfl
          refine wpAnyH_takeE (i := 8) (some 25) (v := ?_) rfl rfl (by as_aux_lemma => kernel_rfl) (by as_aux_lemma => kernel_rfl) (by as_aux_lemma => kernel_rfl) (fun _ _ _ h => h) (Or.inl ⟨by kernel_rfl, ?_⟩) hS ?_
          rotate_left
          · intro w hSw; obtain ⟨a0, a1, a2⟩ := hSw.1; obtain ⟨d0, d1, d2⟩ := hSw.2.1; dsimp only at a0 a1 a2 d0 d1 d2; go_simp
            first | done | with_reducible rfl
          have HB3 := Lib.hid hS.2.2
          refine wpAnyH_done (by kernel_rfl) ?_ _
          clear hS HW
          go_simp
          go_wp2
          go_roundw
          case rel => exact ⟨k + 1, by omega, by go_num, HT3, HB3⟩
          case measure => simp [intOf]; omega
        | false =>
          rw [hc] at hne
          simp only [Bool.not_false] at hne
          have hs : sameMs xs ys = false := HF.out (fun e => by rw [e, eqMm_refl6] at hc; cases hc)
          have HSm := Lib.hid hs
          clear hc HT2 HF hs
          go_wp2_with fail
          refine wp_region_any (by kernel_rfl) ?_
          change wpAny _ _ _ _ _ _ _ (World.drew _)
          have hS : (fun w' : World => RowM6 w' bA (oA + k * 3) ⟨nx, sx, ix⟩ ∧ RowM6 w' bB (oB + k * 3) ⟨ny, sy, iy⟩ ∧ Below w.heap.size w w') wr.drew := ⟨rA, rB, HW.out.drew⟩
          refine wpAny_of_held (S := fun w' => RowM6 w' bA (oA + k * 3) ⟨nx, sx, ix⟩ ∧ RowM6 w' bB (oB + k * 3) ⟨ny, sy, iy⟩ ∧ Below w.heap.size w w') _ _ _ _ ?_
          clear rA rB
          refine wpAnyH_takeE (i := 0) (some 17) (v := ?_) rfl rfl (by as_aux_lemma => kernel_rfl) (by as_aux_lemma => kernel_rfl) (by as_aux_lemma => kernel_rfl) (fun _ _ _ h => h) (Or.inl ⟨by kernel_rfl, ?_⟩) hS ?_
          rotate_left
          · intro w hSw; obtain ⟨a0, a1, a2⟩ := hSw.1; obtain ⟨d0, d1, d2⟩ := hSw.2.1; dsimp only at a0 a1 a2 d0 d1 d2; go_simp
            first | done | with_reducible rfl
          refine wpAnyH_takeE (i := 1) (some 18) (v := ?_) rfl rfl (by as_aux_lemma => kernel_rfl) (by as_aux_lemma => kernel_rfl) (by as_aux_lemma => kernel_rfl) (fun _ _ _ h => h) (Or.inl ⟨by kernel_rfl, ?_⟩) hS ?_
          rotate_left
          · intro w hSw; obtain ⟨a0, a1, a2⟩ := hSw.1; obtain ⟨d0, d1, d2⟩ := hSw.2.1; dsimp only at a0 a1 a2 d0 d1 d2; go_simp
            first | done | with_reducible rfl
          refine wpAnyH_takeE (i := 2) (some 19) (v := ?_) rfl rfl (by as_aux_lemma => kernel_rfl) (by as_aux_lemma => kernel_rfl) (by as_aux_lemma => kernel_rfl) (fun _ _ _ h => h) (Or.inl ⟨by kernel_rfl, ?_⟩) hS ?_
          rotate_left
          · intro w hSw; obtain ⟨a0, a1, a2⟩ := hSw.1; obtain ⟨d0, d1, d2⟩ := hSw.2.1; dsimp only at a0 a1 a2 d0 d1 d2; go_simp
            first | done | with_reducible rfl
          refine wpAnyH_takeE (i := 3) (some 20) (v := ?_) rfl rfl (by as_aux_lemma => kernel_rfl) (by as_aux_lemma => kernel_rfl) (by as_aux_lemma => kernel_rfl) (fun _ _ _ h => h) (Or.inl ⟨by kernel_rfl, ?_⟩) hS ?_
          rotate_left
          · intro w hSw; obtain ⟨a0, a1, a2⟩ := hSw.1; obtain ⟨d0, d1, d2⟩ := hSw.2.1; dsimp only at a0 a1 a2 d0 d1 d2; go_simp
            first | done | with_reducible rfl
          refine wpAnyH_takeE (i := 4) (some 21) (v := ?_) rfl rfl (by as_aux_lemma => kernel_rfl) (by as_aux_lemma => kernel_rfl) (by as_aux_lemma => kernel_rfl) (fun _ _ _ h => h) (Or.inl ⟨by kernel_rfl, ?_⟩) hS ?_
          rotate_left
          · intro w hSw; obtain ⟨a0, a1, a2⟩ := hSw.1; obtain ⟨d0, d1, d2⟩ := hSw.2.1; dsimp only at a0 a1 a2 d0 d1 d2; go_simp
            first | done | with_reducible rfl
          refine wpAnyH_takeE (i := 5) (some 22) (v := ?_) rfl rfl (by as_aux_lemma => kernel_rfl) (by as_aux_lemma => kernel_rfl) (by as_aux_lemma => kernel_rfl) (fun _ _ _ h => h) (Or.inl ⟨by kernel_rfl, ?_⟩) hS ?_
          rotate_left
          · intro w hSw; obtain ⟨a0, a1, a2⟩ := hSw.1; obtain ⟨d0, d1, d2⟩ := hSw.2.1; dsimp only at a0 a1 a2 d0 d1 d2; go_simp
            first | done | with_reducible rfl
          refine wpAnyH_takeE (i := 6) (some 23) (v := ?_) rfl rfl (by as_aux_lemma => kernel_rfl) (by as_aux_lemma => kernel_rfl) (by as_aux_lemma => kernel_rfl) (fun _ _ _ h => h) (Or.inl ⟨by kernel_rfl, ?_⟩) hS ?_
          rotate_left
          · intro w hSw; obtain ⟨a0, a1, a2⟩ := hSw.1; obtain ⟨d0, d1, d2⟩ := hSw.2.1; dsimp only at a0 a1 a2 d0 d1 d2; go_simp
            first | done | with_reducible rfl
          refine wpAnyH_takeE (i := 7) (some 24) (v := ?_) rfl rfl (by as_aux_lemma => kernel_rfl) (by as_aux_lemma => kernel_rfl) (by as_aux_lemma => kernel_rfl) (fun _ _ _ h => h) (Or.inl ⟨by kernel_rfl, ?_⟩) hS ?_
          rotate_left
          · intro w hSw; obtain ⟨a0, a1, a2⟩ := hSw.1; obtain ⟨d0, d1, d2⟩ := hSw.2.1; dsimp only at a0 a1 a2 d0 d1 d2; go_simp
            first | done | with_reducible rfl
          refine wpAnyH_takeE (i := 8) (some 25) (v := ?_) rfl rfl (by as_aux_lemma => kernel_rfl) (by as_aux_lemma => kernel_rfl) (by as_aux_lemma => kernel_rfl) (fun _ _ _ h => h) (Or.inl ⟨by kernel_rfl, ?_⟩) hS ?_
          rotate_left
          · intro w hSw; obtain ⟨a0, a1, a2⟩ := hSw.1; obtain ⟨d0, d1, d2⟩ := hSw.2.1; dsimp only at a0 a1 a2 d0 d1 d2; go_simp
            first | done | with_reducible rfl
          have HB3 := Lib.hid hS.2.2
          refine wpAnyH_done (by kernel_rfl) ?_ _
          clear hS HW
          go_simp
          go_wp2
          go_ret
          exact ⟨by rw [HSm.out]; rfl, HB3.out⟩
      · have hkl : ¬ (k : Int) < (n : Int) := by omega
        have hs : sameMs xs ys = true := (allEqM_iff xs ys).2 (by
          have h := HT.out
          rw [List.take_of_length_le (by have := HN.out; omega), List.take_of_length_le (by have := HM.out; omega)] at h
          exact h)
        have HSm := Lib.hid hs
        clear hs HT
        go_wp2
        go_ret
        exact ⟨by rw [HSm.out]; rfl, HW.out⟩
  · have h1 : ((n : Int) != (m : Int)) = true := by simp only [bne_iff_ne, ne_eq]; omega
    have hs := sameMs_len (xs := xs) (ys := ys) (by omega)
    rw [hs]
    clear hnx hmy hs hn hnm ha hb
    go_enter Tryd.func28, Tryd.ntmps28
    go_wp2
    go_ret
    exact ⟨rfl, Below.refl _ _⟩
set_option maxRecDepth 100000 in
set_option maxHeartbeats 4000000 in
theorem ySame_any (p q : Pk) (am : Option Addr) (na ca : Nat) (ae : Option Addr) (xa ya : Nat) (bm : Option Addr) (nb cb : Nat) (be : Option Addr) (xb yb : Nat) (W : World) (h1 : na = p.ms.length) (h2 : xa = p.es.length) (h3 : nb = q.ms.length) (h4 : xb = q.es.length) (hM : MemsAt W am p.ms) (hE : EntsAt W ae p.es) (hM' : MemsAt W bm q.ms) (hE' : EntsAt W be q.es) (hl1 : p.ms.length ≤ 9223372036854775807) (hl2 : p.es.length ≤ 9223372036854775807) :
    Calls Tryd.prog 14 #[.agg #[.int .u8 p.k, .int .u16 p.f, .int .u16 p.a, .int .i64 p.q, .slice am na ca, .slice ae xa ya], .agg #[.int .u8 q.k, .int .u16 q.f, .int .u16 q.a, .int .i64 q.q, .slice bm nb cb, .slice be xb yb]] W fun e w' => e = .returned (.bool (sameP p q)) ∧ Below W.heap.size W w' := by
  have HM : Hid (∀ u, Below W.heap.size W u → Calls Tryd.prog 28 #[.slice am na ca, .slice bm nb cb] u fun e w' => e = .returned (.bool (sameMs p.ms q.ms)) ∧ Below u.heap.size u w') := Lib.hid (fun u hu => ySameM_any am bm ca cb p.ms q.ms u (hM.below hu (Nat.le_refl _)) (hM'.below hu (Nat.le_refl _)) hl1 na nb h1 h3)
  have HE : Hid (∀ u, Below W.heap.size W u → Calls Tryd.prog 29 #[.slice ae xa ya, .slice be xb yb] u fun e w' => e = .returned (.bool (sameEs p.es q.es)) ∧ Below u.heap.size u w') := Lib.hid (fun u hu => cRefSame_any ae be ya yb p.es q.es u (hE.belowP hu (Nat.le_refl _)) (hE'.belowP hu (Nat.le_refl _)) hl2 xa xb h2 h4)
  have d1 := (Below.refl W.heap.size W).alloc (Nat.le_refl _) (.cells #[.int .u8 p.k, .int .u16 p.f, .int .u16 p.a, .int .i64 p.q, .slice am na ca, .slice ae xa ya] 26)
  have d2 := d1.alloc (by simp) (.cells #[.int .u8 q.k, .int .u16 q.f, .int .u16 q.a, .int .i64 q.q, .slice bm nb cb, .slice be xb yb] 26)
  have b1 := (PkBlk.new W p.k p.f p.a p.q am na ca ae xa ya).on ((Below.refl _ _).alloc (Nat.le_refl _) (.cells #[.int .u8 q.k, .int .u16 q.f, .int .u16 q.a, .int .i64 q.q, .slice bm nb cb, .slice be xb yb] 26))
  have b2 := PkBlk.new (W.alloc (.cells #[.int .u8 p.k, .int .u16 p.f, .int .u16 p.a, .int .i64 p.q, .slice am na ca, .slice ae xa ya] 26)) q.k q.f q.a q.q bm nb cb be xb yb
  rw [World.size_alloc] at b2
  have x0 := b1.c0; have x1 := b1.c1; have x2 := b1.c2; have x3 := b1.c3; have x4 := b1.c4; have x5 := b1.c5
  have y0 := b2.c0; have y1 := b2.c1; have y2 := b2.c2; have y3 := b2.c3; have y4 := b2.c4; have y5 := b2.c5
  have HZ := Lib.hid (And.intro b1 (And.intro b2 d2))
  clear h1 h2 h3 h4 hM hE hM' hE' hl1 hl2 d1 d2 b1 b2
  unfold sameP
  obtain ⟨k, f, a, q1, ms, es⟩ := p
  obtain ⟨k', f', a', q1', ms', es'⟩ := q
  dsimp only at *
  by_cases g0 : k = k'
  case neg =>
    have e0 : (k == k') = false := by simpa using g0
    go_enter Tryd.func14, Tryd.ntmps14
    go_wp2
    go_ret
    exact ⟨by simp [e0], HZ.out.2.2⟩
  subst g0
  by_cases g1 : f = f'
  case neg =>
    have e1 : (f == f') = false := by simpa using g1
    go_enter Tryd.func14, Tryd.ntmps14
    go_wp2
    go_ret
    exact ⟨by simp [e1], HZ.out.2.2⟩
  subst g1
  by_cases g2 : a = a'
  case neg =>
    have e2 : (a == a') = false := by simpa using g2
    go_enter Tryd.func14, Tryd.ntmps14
    go_wp2
    go_ret
    exact ⟨by simp [e2], HZ.out.2.2⟩
  subst g2
  by_cases g3 : q1 = q1'
  case neg =>
    have e3 : (q1 == q1') = false := by simpa using g3
    go_enter Tryd.func14, Tryd.ntmps14
    go_wp2
    go_ret
    exact ⟨by simp [e3], HZ.out.2.2⟩
  subst g3
  cases hs : sameMs ms ms' with
  | false =>
    rw [hs] at HM
    go_enter Tryd.func14, Tryd.ntmps14
    go_wp2_with (go_at_call 28; refine (HM.out _ HZ.out.2.2).mono ?_; rintro e u1 ⟨rfl, r1⟩; refine Hid.out ?_)
    refine Lib.hid ?_
    have HZ1 := Lib.hid (And.intro (HZ.out.1.on r1) (And.intro (HZ.out.2.1.on r1) (HZ.out.2.2.trans (r1.mono HZ.out.2.2.size))))
    clear x0 x1 x2 x3 x4 x5 y0 y1 y2 y3 y4 y5 r1
    go_wp2
    go_ret
    exact ⟨by first | rfl | simp, HZ1.out.2.2⟩
  | true =>
    rw [hs] at HM
    go_enter Tryd.func14, Tryd.ntmps14
    go_wp2_with (go_at_call 28; refine (HM.out _ HZ.out.2.2).mono ?_; rintro e u1 ⟨rfl, r1⟩; refine Hid.out ?_)
    refine Lib.hid ?_
    have HZ1 := Lib.hid (And.intro (HZ.out.1.on r1) (And.intro (HZ.out.2.1.on r1) (HZ.out.2.2.trans (r1.mono HZ.out.2.2.size))))
    clear x0 x1 x2 x3 x4 x5 y0 y1 y2 y3 y4 y5 r1
    have x5 := HZ1.out.1.c5; have y5 := HZ1.out.2.1.c5
    go_wp2_with (go_at_call 29; refine (HE.out _ HZ1.out.2.2).mono ?_; rintro e u2 ⟨rfl, q2⟩; refine Hid.out ?_)
    refine Lib.hid ?_
    have HQ := Lib.hid (HZ1.out.2.2.trans (q2.mono HZ1.out.2.2.size))
    clear q2 x5 y5
    go_wp2
    go_ret
    exact ⟨by first | rfl | simp, HQ.out⟩


set_option maxRecDepth 100000 in
set_option maxHeartbeats 4000000 in
theorem ymember_any (m : Mem) (w : World) :
    Calls Tryd.prog 50 #[.agg #[.int .u16 m.n, .int .u8 m.s, .int .i64 m.i]] w fun e w' => e = .returned (.bool (!badM m)) ∧ Below w.heap.size w w' := by
  have HQ := Lib.hid ((Below.refl w.heap.size w).alloc (Nat.le_refl _) (.cells #[.int .u16 m.n, .int .u8 m.s, .int .i64 m.i] 45))
  unfold badM
  obtain ⟨n, s, i⟩ := m
  dsimp only at *
  by_cases h0 : n < 64
  case neg =>
    go_enter Tryd.func50, Tryd.ntmps50
    go_wp2
    go_ret
    exact ⟨by first | (simp; done) | (simp; omega), HQ.out⟩
  by_cases h1 : s ≤ 2
  case neg =>
    go_enter Tryd.func50, Tryd.ntmps50
    go_wp2
    go_ret
    exact ⟨by first | (simp; done) | (simp; omega), HQ.out⟩
  by_cases h2 : 0 ≤ i
  case neg =>
    go_enter Tryd.func50, Tryd.ntmps50
    go_wp2
    go_ret
    exact ⟨by first | (simp; done) | (simp; omega), HQ.out⟩
  by_cases h3 : i ≤ 1073741824
  case neg =>
    go_enter Tryd.func50, Tryd.ntmps50
    go_wp2
    go_ret
    exact ⟨by first | (simp; done) | (simp; omega), HQ.out⟩
  go_enter Tryd.func50, Tryd.ntmps50
  go_wp2
  go_ret
  exact ⟨by first | (simp; done) | (simp; omega), HQ.out⟩
set_option maxRecDepth 100000 in
set_option maxHeartbeats 4000000 in
theorem yCheck_0 (p : Pk) (am : Option Addr) (nm cm : Nat) (ae : Option Addr) (ne ce : Nat) (W : World)  (h0 : ¬ p.k ≤ 4) :
    Calls Tryd.prog 26 #[.agg #[.int .u8 p.k, .int .u16 p.f, .int .u16 p.a, .int .i64 p.q, .slice am nm cm, .slice ae ne ce]] W fun e w' => e = .returned (.int .i64 14) ∧ Below W.heap.size W w' := by
  have d1 := (Below.refl _ W).alloc (Nat.le_refl _) (.cells #[.int .u8 p.k, .int .u16 p.f, .int .u16 p.a, .int .i64 p.q, .slice am nm cm, .slice ae ne ce] 26)
  have b1 := PkBlk.new W p.k p.f p.a p.q am nm cm ae ne ce
  have x0 := b1.c0; have x1 := b1.c1; have x2 := b1.c2; have x3 := b1.c3; have x4 := b1.c4; have x5 := b1.c5
  have HD := Lib.hid d1
  clear b1 d1
  obtain ⟨k, f, a, q1, ms, es⟩ := p
  dsimp only at *
  go_enter Tryd.func26, Tryd.ntmps26
  go_wp2
  go_ret
  exact ⟨rfl, HD.out⟩
set_option maxRecDepth 100000 in
set_option maxHeartbeats 4000000 in
theorem yCheck_1 (p : Pk) (am : Option Addr) (nm cm : Nat) (ae : Option Addr) (ne ce : Nat) (W : World) (h0 : p.k ≤ 4) (h1 : ¬ p.f < 64) :
    Calls Tryd.prog 26 #[.agg #[.int .u8 p.k, .int .u16 p.f, .int .u16 p.a, .int .i64 p.q, .slice am nm cm, .slice ae ne ce]] W fun e w' => e = .returned (.int .i64 14) ∧ Below W.heap.size W w' := by
  have d1 := (Below.refl _ W).alloc (Nat.le_refl _) (.cells #[.int .u8 p.k, .int .u16 p.f, .int .u16 p.a, .int .i64 p.q, .slice am nm cm, .slice ae ne ce] 26)
  have b1 := PkBlk.new W p.k p.f p.a p.q am nm cm ae ne ce
  have x0 := b1.c0; have x1 := b1.c1; have x2 := b1.c2; have x3 := b1.c3; have x4 := b1.c4; have x5 := b1.c5
  have HD := Lib.hid d1
  clear b1 d1
  obtain ⟨k, f, a, q1, ms, es⟩ := p
  dsimp only at *
  go_enter Tryd.func26, Tryd.ntmps26
  go_wp2
  go_ret
  exact ⟨rfl, HD.out⟩
set_option maxRecDepth 100000 in
set_option maxHeartbeats 4000000 in
theorem yCheck_2 (p : Pk) (am : Option Addr) (nm cm : Nat) (ae : Option Addr) (ne ce : Nat) (W : World) (h0 : p.k ≤ 4) (h1 : p.f < 64) (h2 : ¬ p.a < 64) :
    Calls Tryd.prog 26 #[.agg #[.int .u8 p.k, .int .u16 p.f, .int .u16 p.a, .int .i64 p.q, .slice am nm cm, .slice ae ne ce]] W fun e w' => e = .returned (.int .i64 14) ∧ Below W.heap.size W w' := by
  have d1 := (Below.refl _ W).alloc (Nat.le_refl _) (.cells #[.int .u8 p.k, .int .u16 p.f, .int .u16 p.a, .int .i64 p.q, .slice am nm cm, .slice ae ne ce] 26)
  have b1 := PkBlk.new W p.k p.f p.a p.q am nm cm ae ne ce
  have x0 := b1.c0; have x1 := b1.c1; have x2 := b1.c2; have x3 := b1.c3; have x4 := b1.c4; have x5 := b1.c5
  have HD := Lib.hid d1
  clear b1 d1
  obtain ⟨k, f, a, q1, ms, es⟩ := p
  dsimp only at *
  go_enter Tryd.func26, Tryd.ntmps26
  go_wp2
  go_ret
  exact ⟨rfl, HD.out⟩
set_option maxRecDepth 100000 in
set_option maxHeartbeats 4000000 in
theorem yCheck_3 (p : Pk) (am : Option Addr) (nm cm : Nat) (ae : Option Addr) (ne ce : Nat) (W : World) (h0 : p.k ≤ 4) (h1 : p.f < 64) (h2 : p.a < 64) (h3 : ¬ 0 ≤ p.q) :
    Calls Tryd.prog 26 #[.agg #[.int .u8 p.k, .int .u16 p.f, .int .u16 p.a, .int .i64 p.q, .slice am nm cm, .slice ae ne ce]] W fun e w' => e = .returned (.int .i64 14) ∧ Below W.heap.size W w' := by
  have d1 := (Below.refl _ W).alloc (Nat.le_refl _) (.cells #[.int .u8 p.k, .int .u16 p.f, .int .u16 p.a, .int .i64 p.q, .slice am nm cm, .slice ae ne ce] 26)
  have b1 := PkBlk.new W p.k p.f p.a p.q am nm cm ae ne ce
  have x0 := b1.c0; have x1 := b1.c1; have x2 := b1.c2; have x3 := b1.c3; have x4 := b1.c4; have x5 := b1.c5
  have HD := Lib.hid d1
  clear b1 d1
  obtain ⟨k, f, a, q1, ms, es⟩ := p
  dsimp only at *
  go_enter Tryd.func26, Tryd.ntmps26
  go_wp2
  go_ret
  exact ⟨rfl, HD.out⟩
set_option maxRecDepth 100000 in
set_option maxHeartbeats 4000000 in
theorem yCheck_4 (p : Pk) (am : Option Addr) (nm cm : Nat) (ae : Option Addr) (ne ce : Nat) (W : World) (h0 : p.k ≤ 4) (h1 : p.f < 64) (h2 : p.a < 64) (h3 : 0 ≤ p.q) (h4 : ¬ p.q ≤ 1099511627776) :
    Calls Tryd.prog 26 #[.agg #[.int .u8 p.k, .int .u16 p.f, .int .u16 p.a, .int .i64 p.q, .slice am nm cm, .slice ae ne ce]] W fun e w' => e = .returned (.int .i64 14) ∧ Below W.heap.size W w' := by
  have d1 := (Below.refl _ W).alloc (Nat.le_refl _) (.cells #[.int .u8 p.k, .int .u16 p.f, .int .u16 p.a, .int .i64 p.q, .slice am nm cm, .slice ae ne ce] 26)
  have b1 := PkBlk.new W p.k p.f p.a p.q am nm cm ae ne ce
  have x0 := b1.c0; have x1 := b1.c1; have x2 := b1.c2; have x3 := b1.c3; have x4 := b1.c4; have x5 := b1.c5
  have HD := Lib.hid d1
  clear b1 d1
  obtain ⟨k, f, a, q1, ms, es⟩ := p
  dsimp only at *
  go_enter Tryd.func26, Tryd.ntmps26
  go_wp2
  go_ret
  exact ⟨rfl, HD.out⟩
set_option maxRecDepth 100000 in
set_option maxHeartbeats 4000000 in
theorem yCheck_5 (p : Pk) (am : Option Addr) (nm cm : Nat) (ae : Option Addr) (ne ce : Nat) (W : World) (h0 : p.k ≤ 4) (h1 : p.f < 64) (h2 : p.a < 64) (h3 : 0 ≤ p.q) (h4 : p.q ≤ 1099511627776) (h5 : ¬ (nm : Int) ≤ 64) :
    Calls Tryd.prog 26 #[.agg #[.int .u8 p.k, .int .u16 p.f, .int .u16 p.a, .int .i64 p.q, .slice am nm cm, .slice ae ne ce]] W fun e w' => e = .returned (.int .i64 14) ∧ Below W.heap.size W w' := by
  have d1 := (Below.refl _ W).alloc (Nat.le_refl _) (.cells #[.int .u8 p.k, .int .u16 p.f, .int .u16 p.a, .int .i64 p.q, .slice am nm cm, .slice ae ne ce] 26)
  have b1 := PkBlk.new W p.k p.f p.a p.q am nm cm ae ne ce
  have x0 := b1.c0; have x1 := b1.c1; have x2 := b1.c2; have x3 := b1.c3; have x4 := b1.c4; have x5 := b1.c5
  have HD := Lib.hid d1
  clear b1 d1
  obtain ⟨k, f, a, q1, ms, es⟩ := p
  dsimp only at *
  go_enter Tryd.func26, Tryd.ntmps26
  go_wp2
  go_ret
  exact ⟨rfl, HD.out⟩
set_option maxRecDepth 100000 in
set_option maxHeartbeats 4000000 in
theorem yCheck_6 (p : Pk) (am : Option Addr) (nm cm : Nat) (ae : Option Addr) (ne ce : Nat) (W : World) (h0 : p.k ≤ 4) (h1 : p.f < 64) (h2 : p.a < 64) (h3 : 0 ≤ p.q) (h4 : p.q ≤ 1099511627776) (h5 : (nm : Int) ≤ 64) (h6 : ¬ (ne : Int) ≤ 256) :
    Calls Tryd.prog 26 #[.agg #[.int .u8 p.k, .int .u16 p.f, .int .u16 p.a, .int .i64 p.q, .slice am nm cm, .slice ae ne ce]] W fun e w' => e = .returned (.int .i64 14) ∧ Below W.heap.size W w' := by
  have d1 := (Below.refl _ W).alloc (Nat.le_refl _) (.cells #[.int .u8 p.k, .int .u16 p.f, .int .u16 p.a, .int .i64 p.q, .slice am nm cm, .slice ae ne ce] 26)
  have b1 := PkBlk.new W p.k p.f p.a p.q am nm cm ae ne ce
  have x0 := b1.c0; have x1 := b1.c1; have x2 := b1.c2; have x3 := b1.c3; have x4 := b1.c4; have x5 := b1.c5
  have HD := Lib.hid d1
  clear b1 d1
  obtain ⟨k, f, a, q1, ms, es⟩ := p
  dsimp only at *
  go_enter Tryd.func26, Tryd.ntmps26
  go_wp2
  go_ret
  exact ⟨rfl, HD.out⟩
set_option maxRecDepth 100000 in
set_option maxHeartbeats 4000000 in
theorem yCheck_ok (p : Pk) (hp : p.Ok) (am : Option Addr) (nm cm : Nat) (ae : Option Addr) (ne ce : Nat) (hnm : nm = p.ms.length) (hne : ne = p.es.length) (B : Nat) (W : World) (hB : B ≤ W.heap.size) (hv : TabE B W) (hM : MemsAt W am p.ms) (hE : EntsAt W ae p.es) (h0 : p.k ≤ 4) (h1 : p.f < 64) (h2 : p.a < 64) (h3 : 0 ≤ p.q) (h4 : p.q ≤ 1099511627776) (h5 : (nm : Int) ≤ 64) (h6 : (ne : Int) ≤ 256) :
    Calls Tryd.prog 26 #[.agg #[.int .u8 p.k, .int .u16 p.f, .int .u16 p.a, .int .i64 p.q, .slice am nm cm, .slice ae ne ce]] W fun e w' => e = .returned (.int .i64 (checkP p)) ∧ Below W.heap.size W w' := by
  have hh : headP p.k p.f p.a p.q = true := by simp only [headP, Bool.and_eq_true, decide_eq_true_eq]; exact ⟨h0, h1, h2, h3, h4⟩
  have hme : memsP p.ms = !(p.ms.any badM) := by simp only [memsP]; rw [decide_eq_true (by omega)]; rfl
  have HBAD : Hid (p.ms.any badM = true → checkP p = 14) := Lib.hid (fun h => by rw [checkP, if_pos (.inr (.inl (by rw [hme, h]; rfl)))])
  have HENT : Hid (p.ms.any badM = false → ∀ {q : Int}, entsP p.es = q → q ≠ 0 → checkP p = q) := Lib.hid (fun h q e hq => by
    rw [checkP, if_neg (by rw [hh, hme, h]; simp; omega), if_pos (by rw [e]; exact hq), e])
  have HLEN : Hid (p.ms.any badM = false → (∀ x ∈ p.es, checkEn x = 0) → checkP p = if 16384 < (layPk p).length then 5 else 0) := Lib.hid (fun h he => by
    rw [checkP, if_neg (by rw [hh, hme, h]; simp; omega), if_neg (by rw [entsP_zero he]; simp)])
  have HLAY : Hid (∀ u, (∀ x ∈ p.es, checkEn x = 0) → MemsAt u am p.ms → EntsAt u ae p.es → Below W.heap.size W u → Calls Tryd.prog 27 #[.agg #[.int .u8 p.k, .int .u16 p.f, .int .u16 p.a, .int .i64 p.q, .slice am nm cm, .slice ae ne ce]] u fun e w' => ∃ a k c, e = .returned (.slice a k c) ∧ OwnM w' u.heap.size (.slice a k c) (layPk p) ∧ Below u.heap.size u w') := Lib.hid (fun u he m1 m2 hu => yLay_any p hp ⟨by omega, by omega, he⟩ am nm cm ae ne ce hnm hne B u (Nat.le_trans hB hu.size) (hv.on (hu.mono hB)) m1 m2)
  have HX := Lib.hid (And.intro hnm hne)
  have d1 := (Below.refl _ W).alloc (Nat.le_refl _) (.cells #[.int .u8 p.k, .int .u16 p.f, .int .u16 p.a, .int .i64 p.q, .slice am nm cm, .slice ae ne ce] 26)
  have s1 : BSt W (W.alloc (.cells #[.int .u8 p.k, .int .u16 p.f, .int .u16 p.a, .int .i64 p.q, .slice am nm cm, .slice ae ne ce] 26)) p am nm cm ae ne ce (.slice none 0 0) [] := ⟨PkBlk.new W _ _ _ _ _ _ _ _ _ _, hM.on d1, hE.onP d1, .inl ⟨rfl, rfl⟩, d1⟩
  have x0 := s1.blk.c0; have x1 := s1.blk.c1; have x2 := s1.blk.c2; have x3 := s1.blk.c3; have x4 := s1.blk.c4; have x5 := s1.blk.c5
  have HZ := Lib.hid s1
  clear hp hnm hne hB hv hM hE hh hme d1 s1
  go_enter Tryd.func26, Tryd.ntmps26
  go_wp2
  have s1 := HZ.out
  generalize hw2 : (W.alloc (.cells #[.int .u8 p.k, .int .u16 p.f, .int .u16 p.a, .int .i64 p.q, .slice am nm cm, .slice ae ne ce] 26)) = wA at *
  clear hw2 HZ x0 x1 x2 x3 x4 x5
  have HS1 := Lib.hid s1
  clear s1
  go_loopw [3] (fun i wr => ∃ k : Nat, k ≤ nm ∧ i = .int .i64 k ∧ Hid (∀ j (hj : j < p.ms.length), j < k → badM p.ms[j] = false) ∧ Hid (Below wA.heap.size wA wr)) (fun i _ => nm - (intOf i).toNat)
  case atStart => exact ⟨0, Nat.zero_le _, rfl, Lib.hid (fun j _ h => by omega), Lib.hid (Below.refl _ _)⟩
  case round =>
    obtain ⟨k, hk, rfl, HF, HB⟩ := hrel
    have HSw := Lib.hid (HS1.out.on HB.out)
    have x4 := HSw.out.blk.c4
    by_cases hlt : k < nm
    · have hkl : (k : Int) < (nm : Int) := by omega
      have hkx : k < p.ms.length := by have := HX.out.1; omega
      obtain ⟨b, o, e0, hb, c0, c1, c2⟩ := HSw.out.ms.cells k hkx
      rw [e0] at x4
      have HC := Lib.hid (ymember_any p.ms[k] wr)
      have HS : Hid (badM p.ms[k] = false → ∀ j (hj : j < p.ms.length), j < k + 1 → badM p.ms[j] = false) := Lib.hid (fun h j hj hjk => by
        by_cases e : j = k
        · subst e; exact h
        · exact HF.out j hj (by omega))
      have HT : Hid (badM p.ms[k] = true → p.ms.any badM = true) := Lib.hid (fun h => List.any_eq_true.2 ⟨_, List.getElem_mem hkx, h⟩)
      clear e0
      generalize badM p.ms[k] = q at *
      generalize p.ms[k] = x at *
      obtain ⟨nx, sx, ix⟩ := x
      dsimp only at c0 c1 c2 HC
      clear hb hkx HF
      cases q with
      | true =>
        go_wp2_with (go_at_call 50; refine HC.out.mono ?_; rintro e w2 ⟨rfl, q2⟩; refine Hid.out ?_)
        refine Lib.hid ?_
        have HQ := Lib.hid (And.intro (HT.out (by simp)) ((HSw.out.on q2).low))
        clear q2 c0 c1 c2 x4 HC HS HT HB HSw
        go_wp2
        go_ret
        exact ⟨by rw [HBAD.out HQ.out.1]; rfl, HQ.out.2⟩
      | false =>
        go_wp2_with (go_at_call 50; refine HC.out.mono ?_; rintro e w2 ⟨rfl, q2⟩; refine Hid.out ?_)
        refine Lib.hid ?_
        have HQ := Lib.hid (HB.out.trans (q2.mono HB.out.size))
        have HS2 := Lib.hid (HS.out (by simp))
        clear q2 c0 c1 c2 x4 HC HS HT HB HSw
        go_wp2
        go_roundw
        case rel => exact ⟨k + 1, by omega, by go_num, HS2, HQ⟩
        case measure => simp [intOf]; omega
    · have hkl : ¬ (k : Int) < (nm : Int) := by omega
      have HN : Hid (p.ms.any badM = false) := Lib.hid (by
        rw [List.any_eq_false]
        intro x hx
        obtain ⟨j, hj, rfl⟩ := List.getElem_of_mem hx
        rw [HF.out j hj (by have := HX.out.1; omega)]
        simp)
      go_wp2
      clear x4 hlt hkl HF
      obtain ⟨wB, rfl⟩ : ∃ x, x = wr := ⟨_, rfl⟩
      have HS2 := HSw
      clear HSw HB HS1
      go_loopw [4] (fun i wr => ∃ k : Nat, k ≤ ne ∧ i = .int .i64 k ∧ Hid (∀ j (hj : j < p.es.length), j < k → checkEn p.es[j] = 0) ∧ Hid (Below wB.heap.size wB wr)) (fun i _ => ne - (intOf i).toNat)
      case atStart => exact ⟨0, Nat.zero_le _, rfl, Lib.hid (fun j _ h => by omega), Lib.hid (Below.refl _ _)⟩
      case round =>
        obtain ⟨k, hk, rfl, HF, HB⟩ := hrel
        have HSw := Lib.hid (HS2.out.on HB.out)
        have x5 := HSw.out.blk.c5
        by_cases hlt : k < ne
        · have hkl : (k : Int) < (ne : Int) := by omega
          have hkx : k < p.es.length := by have := HX.out.2; omega
          obtain ⟨b, o, e0, hb, c0, c1, c2, c3, c4⟩ := HSw.out.es.cellsP k hkx
          rw [e0] at x5
          have HC := Lib.hid (eRefCheck_any p.es[k] wr)
          have HS : Hid (checkEn p.es[k] = 0 → ∀ j (hj : j < p.es.length), j < k + 1 → checkEn p.es[j] = 0) := Lib.hid (fun h j hj hjk => by
            by_cases e : j = k
            · subst e; exact h
            · exact HF.out j hj (by omega))
          have HT : Hid (checkEn p.es[k] ≠ 0 → entsP p.es = checkEn p.es[k]) := Lib.hid (fun h => entsP_first hkx HF.out h)
          clear e0
          generalize checkEn p.es[k] = q at *
          generalize p.es[k] = x at *
          obtain ⟨kx, tx, ox, vx, ux⟩ := x
          dsimp only at c0 c1 c2 c3 c4 HC
          clear hb hkx HF
          by_cases hq : q = 0
          · subst hq
            go_wp2_with (go_at_call 51; refine HC.out.mono ?_; rintro e w2 ⟨rfl, q2⟩; refine Hid.out ?_)
            refine Lib.hid ?_
            have HQ := Lib.hid (HB.out.trans (q2.mono HB.out.size))
            have HS3 := Lib.hid (HS.out (by simp))
            clear q2 c0 c1 c2 c3 c4 x5 HC HS HT HB HSw
            go_wp2
            go_roundw
            case rel => exact ⟨k + 1, by omega, by go_num, HS3, HQ⟩
            case measure => simp [intOf]; omega
          · have hq1 : (q != 0) = true := by simpa using hq
            have HQ1 := Lib.hid (And.intro (HT.out hq) hq)
            clear hq HT HS
            go_wp2_with (go_at_call 51; refine HC.out.mono ?_; rintro e w2 ⟨rfl, q2⟩; refine Hid.out ?_)
            refine Lib.hid ?_
            have HQ := Lib.hid ((HSw.out.on q2).low)
            clear q2 c0 c1 c2 c3 c4 x5 HC HB HSw
            go_wp2
            go_ret
            exact ⟨by rw [HENT.out HN.out HQ1.out.1 HQ1.out.2]; rfl, HQ.out⟩
        · have hkl : ¬ (k : Int) < (ne : Int) := by omega
          have HA : Hid (∀ x ∈ p.es, checkEn x = 0) := Lib.hid (fun x hx => by
            obtain ⟨j, hj, rfl⟩ := List.getElem_of_mem hx
            exact HF.out j hj (by have := HX.out.2; omega))
          have x0 := HSw.out.blk.c0; have x1 := HSw.out.blk.c1; have x2 := HSw.out.blk.c2; have x3 := HSw.out.blk.c3; have x4 := HSw.out.blk.c4
          have HL := Lib.hid (HLAY.out wr HA.out HSw.out.ms HSw.out.es HSw.out.low)
          clear HF HB
          obtain ⟨N, hN⟩ : ∃ N, (layPk p).length = N := ⟨_, rfl⟩
          have HN2 := Lib.hid hN
          clear hN
          by_cases hbig : 16384 < N
          · have hbi : (16384 : Int) < (N : Int) := by omega
            go_wp2_with (go_at_call 27; refine HL.out.mono ?_; rintro e w2 ⟨a2, n2, c2, rfl, ho2, q2⟩; refine Hid.out ?_)
            refine Lib.hid ?_
            have hn2 : n2 = N := (src_lenP ho2.src).trans HN2.out
            subst hn2
            have HQ := Lib.hid ((HSw.out.on q2).low)
            clear q2 ho2 x0 x1 x2 x3 x4 x5 HL HSw
            go_wp2
            go_ret
            exact ⟨by rw [HLEN.out HN.out HA.out, HN2.out, if_pos hbig]; rfl, HQ.out⟩
          · have hbi : ¬ (16384 : Int) < (N : Int) := by omega
            go_wp2_with (go_at_call 27; refine HL.out.mono ?_; rintro e w2 ⟨a2, n2, c2, rfl, ho2, q2⟩; refine Hid.out ?_)
            refine Lib.hid ?_
            have hn2 : n2 = N := (src_lenP ho2.src).trans HN2.out
            subst hn2
            have HQ := Lib.hid ((HSw.out.on q2).low)
            clear q2 ho2 x0 x1 x2 x3 x4 x5 HL HSw
            go_wp2
            go_ret
            exact ⟨by rw [HLEN.out HN.out HA.out, HN2.out, if_neg hbig]; rfl, HQ.out⟩
theorem yCheck_any (p : Pk) (hp : p.Ok) (am : Option Addr) (nm cm : Nat) (ae : Option Addr) (ne ce : Nat) (hnm : nm = p.ms.length) (hne : ne = p.es.length) (B : Nat) (W : World) (hB : B ≤ W.heap.size) (hv : TabE B W) (hM : MemsAt W am p.ms) (hE : EntsAt W ae p.es) :
    Calls Tryd.prog 26 #[.agg #[.int .u8 p.k, .int .u16 p.f, .int .u16 p.a, .int .i64 p.q, .slice am nm cm, .slice ae ne ce]] W fun e w' => e = .returned (.int .i64 (checkP p)) ∧ Below W.heap.size W w' := by
  by_cases h : headP p.k p.f p.a p.q = false ∨ 64 < p.ms.length ∨ 256 < p.es.length
  · have e14 : checkP p = 14 := by
      rw [checkP, if_pos]
      rcases h with h | h | h
      · exact .inl h
      · exact .inr (.inl (by simp only [memsP]; rw [decide_eq_false (by omega)]; rfl))
      · exact .inr (.inr h)
    rw [e14]
    by_cases h0 : p.k ≤ 4
    case neg => exact yCheck_0 p am nm cm ae ne ce W h0
    by_cases h1 : p.f < 64
    case neg => exact yCheck_1 p am nm cm ae ne ce W h0 h1
    by_cases h2 : p.a < 64
    case neg => exact yCheck_2 p am nm cm ae ne ce W h0 h1 h2
    by_cases h3 : 0 ≤ p.q
    case neg => exact yCheck_3 p am nm cm ae ne ce W h0 h1 h2 h3
    by_cases h4 : p.q ≤ 1099511627776
    case neg => exact yCheck_4 p am nm cm ae ne ce W h0 h1 h2 h3 h4
    by_cases h5 : (nm : Int) ≤ 64
    case neg => exact yCheck_5 p am nm cm ae ne ce W h0 h1 h2 h3 h4 h5
    refine yCheck_6 p am nm cm ae ne ce W h0 h1 h2 h3 h4 h5 ?_
    have hh : headP p.k p.f p.a p.q = true := by simp only [headP, Bool.and_eq_true, decide_eq_true_eq]; exact ⟨h0, h1, h2, h3, h4⟩
    rw [hh] at h
    rcases h with h | h | h
    · cases h
    · omega
    · omega
  · simp only [not_or, Bool.not_eq_false] at h
    have hh := h.1
    simp only [headP, Bool.and_eq_true, decide_eq_true_eq] at hh
    exact yCheck_ok p hp am nm cm ae ne ce hnm hne B W hB hv hM hE hh.1 hh.2.1 hh.2.2.1 hh.2.2.2.1 hh.2.2.2.2 (by omega) (by omega)
set_option maxRecDepth 100000 in
set_option maxHeartbeats 4000000 in
theorem yPut_ok (p : Pk) (hp : p.Ok) (am : Option Addr) (nm cm : Nat) (ae : Option Addr) (ne ce : Nat) (hnm : nm = p.ms.length) (hne : ne = p.es.length) (B : Nat) (W : World) (hB : B ≤ W.heap.size) (hv : TabE B W) (hM : MemsAt W am p.ms) (hE : EntsAt W ae p.es) (hc : checkP p = 0) :
    Calls Tryd.prog 12 #[.agg #[.int .u8 p.k, .int .u16 p.f, .int .u16 p.a, .int .i64 p.q, .slice am nm cm, .slice ae ne ce]] W fun e w' => ∃ a n c, e = .returned (.tuple #[.slice a n c, .int .i64 0]) ∧ OwnM w' W.heap.size (.slice a n c) (layPk p) ∧ Below W.heap.size W w' := by
  have d1 := (Below.refl _ W).alloc (Nat.le_refl _) (.cells #[.int .u8 p.k, .int .u16 p.f, .int .u16 p.a, .int .i64 p.q, .slice am nm cm, .slice ae ne ce] 26)
  have s1 : BSt W (W.alloc (.cells #[.int .u8 p.k, .int .u16 p.f, .int .u16 p.a, .int .i64 p.q, .slice am nm cm, .slice ae ne ce] 26)) p am nm cm ae ne ce (.slice none 0 0) [] := ⟨PkBlk.new W _ _ _ _ _ _ _ _ _ _, hM.on d1, hE.onP d1, .inl ⟨rfl, rfl⟩, d1⟩
  have x0 := s1.blk.c0; have x1 := s1.blk.c1; have x2 := s1.blk.c2; have x3 := s1.blk.c3; have x4 := s1.blk.c4; have x5 := s1.blk.c5
  have HC := Lib.hid (yCheck_any p hp am nm cm ae ne ce hnm hne B (W.alloc (.cells #[.int .u8 p.k, .int .u16 p.f, .int .u16 p.a, .int .i64 p.q, .slice am nm cm, .slice ae ne ce] 26)) (Nat.le_trans hB d1.size) (hv.on (d1.mono hB)) s1.ms s1.es)
  have hz := checkP_zero hc
  have HLAY : Hid (∀ u, BSt W u p am nm cm ae ne ce (.slice none 0 0) [] → Calls Tryd.prog 27 #[.agg #[.int .u8 p.k, .int .u16 p.f, .int .u16 p.a, .int .i64 p.q, .slice am nm cm, .slice ae ne ce]] u fun e w' => ∃ a k c, e = .returned (.slice a k c) ∧ OwnM w' u.heap.size (.slice a k c) (layPk p) ∧ Below u.heap.size u w') := Lib.hid (fun u hs => yLay_any p hp ⟨by have h := hz.2.1; simp only [memsP, Bool.and_eq_true, decide_eq_true_eq] at h; exact h.1, by omega, entsP_all hz.2.2.2.1⟩ am nm cm ae ne ce hnm hne B u (Nat.le_trans hB hs.low.size) (hv.on (hs.low.mono hB)) hs.ms hs.es)
  rw [hc] at HC
  have HS1 := Lib.hid s1
  clear hp hnm hne hB hv hM hE hc hz d1 s1
  go_enter Tryd.func12, Tryd.ntmps12
  go_wp2_with (go_at_call 26; refine HC.out.mono ?_; rintro e w2 ⟨rfl, q2⟩; refine Hid.out ?_)
  refine Lib.hid ?_
  have HS2 := Lib.hid (HS1.out.on q2)
  clear x0 x1 x2 x3 x4 x5 HS1 HC q2
  have x0 := HS2.out.blk.c0; have x1 := HS2.out.blk.c1; have x2 := HS2.out.blk.c2; have x3 := HS2.out.blk.c3; have x4 := HS2.out.blk.c4; have x5 := HS2.out.blk.c5
  have HL := Lib.hid (HLAY.out _ HS2.out)
  go_wp2_with (go_at_call 27; refine HL.out.mono ?_; rintro e w3 ⟨a3, n3, c3, rfl, ho3, q3⟩; refine Hid.out ?_)
  refine Lib.hid ?_
  have HQ := Lib.hid (And.intro (ownM_base ho3 HS2.out.low.size) (HS2.out.on q3).low)
  clear x0 x1 x2 x3 x4 x5 HS2 HL HLAY ho3 q3
  go_wp2
  go_ret2
  exact ⟨a3, n3, c3, rfl, HQ.out.1, HQ.out.2⟩
set_option maxRecDepth 100000 in
set_option maxHeartbeats 4000000 in
theorem yPut_err (p : Pk) (hp : p.Ok) (am : Option Addr) (nm cm : Nat) (ae : Option Addr) (ne ce : Nat) (hnm : nm = p.ms.length) (hne : ne = p.es.length) (B : Nat) (W : World) (hB : B ≤ W.heap.size) (hv : TabE B W) (hM : MemsAt W am p.ms) (hE : EntsAt W ae p.es) (hc : checkP p ≠ 0) :
    Calls Tryd.prog 12 #[.agg #[.int .u8 p.k, .int .u16 p.f, .int .u16 p.a, .int .i64 p.q, .slice am nm cm, .slice ae ne ce]] W fun e w' => e = .returned (.tuple #[.slice none 0 0, .int .i64 (checkP p)]) ∧ Below W.heap.size W w' := by
  have d1 := (Below.refl _ W).alloc (Nat.le_refl _) (.cells #[.int .u8 p.k, .int .u16 p.f, .int .u16 p.a, .int .i64 p.q, .slice am nm cm, .slice ae ne ce] 26)
  have s1 : BSt W (W.alloc (.cells #[.int .u8 p.k, .int .u16 p.f, .int .u16 p.a, .int .i64 p.q, .slice am nm cm, .slice ae ne ce] 26)) p am nm cm ae ne ce (.slice none 0 0) [] := ⟨PkBlk.new W _ _ _ _ _ _ _ _ _ _, hM.on d1, hE.onP d1, .inl ⟨rfl, rfl⟩, d1⟩
  have x0 := s1.blk.c0; have x1 := s1.blk.c1; have x2 := s1.blk.c2; have x3 := s1.blk.c3; have x4 := s1.blk.c4; have x5 := s1.blk.c5
  have HC := Lib.hid (yCheck_any p hp am nm cm ae ne ce hnm hne B (W.alloc (.cells #[.int .u8 p.k, .int .u16 p.f, .int .u16 p.a, .int .i64 p.q, .slice am nm cm, .slice ae ne ce] 26)) (Nat.le_trans hB d1.size) (hv.on (d1.mono hB)) s1.ms s1.es)
  generalize checkP p = E at *
  have hE1 : (E != 0) = true := by simpa using hc
  have HS1 := Lib.hid s1
  clear hp hnm hne hB hv hM hE hc d1 s1
  go_enter Tryd.func12, Tryd.ntmps12
  go_wp2_with (go_at_call 26; refine HC.out.mono ?_; rintro e w2 ⟨rfl, q2⟩; refine Hid.out ?_)
  refine Lib.hid ?_
  have HQ := Lib.hid (HS1.out.on q2).low
  clear x0 x1 x2 x3 x4 x5 HS1 HC q2
  go_wp2
  go_ret2
  exact ⟨rfl, HQ.out⟩

end Go.Proofs.YtchhdffehkcecaaDoor
