/-
  Whether two packets are one, as the reference says.
-/
import Derived.Test.YtchhdffehkcecaaDoorP15
namespace Go.Proofs.YtchhdffehkcecaaDoor
open Go Go.RowKit

def RowE6 (w : World) (b p : Nat) (x : Ent) : Prop := w.cell? ⟨b, p, none⟩ = some (.string x.k) ∧ w.cell? ⟨b, p + 1, none⟩ = some (.int .i64 x.t) ∧ w.cell? ⟨b, p + 2, none⟩ = some (.int .u16 x.o) ∧ w.cell? ⟨b, p + 3, none⟩ = some (.string x.v) ∧ w.cell? ⟨b, p + 4, none⟩ = some (.int .i64 x.u)
theorem EntsAt.row6 {w : World} {a : Option Addr} {l : List Ent} (h : EntsAt w a l) (k : Nat) (hk : k < l.length) : ∃ b o, a = some ⟨b, o, none⟩ ∧ RowE6 w b (o + k * 5) l[k] := by
  obtain ⟨b, o, e, -, c⟩ := h.cellsP k hk
  exact ⟨b, o, e, c⟩
def RowM6 (w : World) (b p : Nat) (x : Mem) : Prop := w.cell? ⟨b, p, none⟩ = some (.int .u16 x.n) ∧ w.cell? ⟨b, p + 1, none⟩ = some (.int .u8 x.s) ∧ w.cell? ⟨b, p + 2, none⟩ = some (.int .i64 x.i)
theorem MemsAt.row6 {w : World} {a : Option Addr} {l : List Mem} (h : MemsAt w a l) (k : Nat) (hk : k < l.length) : ∃ b o, a = some ⟨b, o, none⟩ ∧ RowM6 w b (o + k * 3) l[k] := by
  obtain ⟨b, o, e, -, c⟩ := h.cells k hk
  exact ⟨b, o, e, c⟩
theorem eqEn_refl6 (x : Ent) : eqEn x x = true := (eqEn_iff _ _).2 rfl
theorem eqMm_refl6 (x : Mem) : eqMm x x = true := (eqMm_iff _ _).2 rfl

set_option maxRecDepth 100000 in
set_option maxHeartbeats 4000000 in
theorem cRefSame_any (a b : Option Addr) (c d : Nat) (xs ys : List Ent) (w : World) (ha : EntsAt w a xs) (hb : EntsAt w b ys) (hn : xs.length ≤ 9223372036854775807) (n m : Nat) (hnx : n = xs.length) (hmy : m = ys.length) :
    Calls Tryd.prog 29 #[.slice a n c, .slice b m d] w fun e w' => e = .returned (.bool (sameEs xs ys)) ∧ Below w.heap.size w w' := by
  by_cases hnm : n = m
  · subst hnm
    have hn1 : n ≤ 9223372036854775807 := by omega
    have HN := Lib.hid hnx
    have HM := Lib.hid hmy
    have HA := Lib.hid ha
    have HB := Lib.hid hb
    clear hnx hmy ha hb hn
    go_enter Tryd.func29, Tryd.ntmps29
    go_wp2
    go_loopw [5] (fun i wr => ∃ (k : Nat), k ≤ n ∧ i = .int .i64 k ∧ Hid (xs.take k = ys.take k) ∧ Hid (Below w.heap.size w wr)) (fun i _ => n - (intOf i).toNat)
    case atStart => exact ⟨0, Nat.zero_le _, rfl, Lib.hid rfl, Lib.hid (Below.refl _ _)⟩
    case round =>
      obtain ⟨k, hk, rfl, HT, HW⟩ := hrel
      by_cases hlt : k < n
      · have hkl : (k : Int) < (n : Int) := by omega
        have hkx : k < xs.length := by have := HN.out; omega
        have hky : k < ys.length := by have := HM.out; omega
        obtain ⟨bA, oA, rfl, rA⟩ := (HA.out.onP HW.out).row6 k hkx
        obtain ⟨bB, oB, rfl, rB⟩ := (HB.out.onP HW.out).row6 k hky
        have HT2 : Hid (xs[k] = ys[k] → xs.take (k + 1) = ys.take (k + 1)) := Lib.hid (fun e => by rw [List.take_succ_eq_append_getElem hkx, List.take_succ_eq_append_getElem hky, HT.out, e])
        have HF : Hid (xs[k] ≠ ys[k] → sameEs xs ys = false) := Lib.hid (fun hne => by rw [Bool.eq_false_iff]; intro e; have e' := (allEqE_iff xs ys).1 e; subst e'; exact hne rfl)
        generalize xs[k] = x at *
        generalize ys[k] = y at *
        clear hkx hky HT
        obtain ⟨kx, tx, ox, vx, ux⟩ := x
        obtain ⟨ky, ty, oy, vy, uy⟩ := y
        have hne := fun w => run_neE ⟨kx, tx, ox, vx, ux⟩ ⟨ky, ty, oy, vy, uy⟩ w
        dsimp only at hne
        cases hc : eqEn ⟨kx, tx, ox, vx, ux⟩ ⟨ky, ty, oy, vy, uy⟩ with
        | true =>
          rw [hc] at hne
          simp only [Bool.not_true] at hne
          have HT3 := Lib.hid (HT2.out ((eqEn_iff _ _).1 hc))
          clear hc HT2 HF
          go_wp2_with fail
          refine wp_region_any (by kernel_rfl) ?_
          change wpAny _ _ _ _ _ _ _ (World.drew _)
          have hS : (fun w' : World => RowE6 w' bA (oA + k * 5) ⟨kx, tx, ox, vx, ux⟩ ∧ RowE6 w' bB (oB + k * 5) ⟨ky, ty, oy, vy, uy⟩ ∧ Below w.heap.size w w') wr.drew := ⟨rA, rB, HW.out.drew⟩
          refine wpAny_of_held (S := fun w' => RowE6 w' bA (oA + k * 5) ⟨kx, tx, ox, vx, ux⟩ ∧ RowE6 w' bB (oB + k * 5) ⟨ky, ty, oy, vy, uy⟩ ∧ Below w.heap.size w w') _ _ _ _ ?_
          clear rA rB
          refine wpAnyH_takeE (i := 0) (some 17) (v := ?_) rfl rfl (by as_aux_lemma => kernel_rfl) (by as_aux_lemma => kernel_rfl) (by as_aux_lemma => kernel_rfl) (fun _ _ _ h => h) (Or.inl ⟨by kernel_rfl, ?_⟩) hS ?_
          rotate_left
          · intro w hSw; obtain ⟨a0, a1, a2, a3, a4⟩ := hSw.1; obtain ⟨d0, d1, d2, d3, d4⟩ := hSw.2.1; dsimp only at a0 a1 a2 a3 a4 d0 d1 d2 d3 d4; go_simp
            first | done | with_reducible rfl
          refine wpAnyH_takeE (i := 1) (some 18) (v := ?_) rfl rfl (by as_aux_lemma => kernel_rfl) (by as_aux_lemma => kernel_rfl) (by as_aux_lemma => kernel_rfl) (fun _ _ _ h => h) (Or.inl ⟨by kernel_rfl, ?_⟩) hS ?_
          rotate_left
          · intro w hSw; obtain ⟨a0, a1, a2, a3, a4⟩ := hSw.1; obtain ⟨d0, d1, d2, d3, d4⟩ := hSw.2.1; dsimp only at a0 a1 a2 a3 a4 d0 d1 d2 d3 d4; go_simp
            first | done | with_reducible rfl
          refine wpAnyH_takeE (i := 2) (some 19) (v := ?_) rfl rfl (by as_aux_lemma => kernel_rfl) (by as_aux_lemma => kernel_rfl) (by as_aux_lemma => kernel_rfl) (fun _ _ _ h => h) (Or.inl ⟨by kernel_rfl, ?_⟩) hS ?_
          rotate_left
          · intro w hSw; obtain ⟨a0, a1, a2, a3, a4⟩ := hSw.1; obtain ⟨d0, d1, d2, d3, d4⟩ := hSw.2.1; dsimp only at a0 a1 a2 a3 a4 d0 d1 d2 d3 d4; go_simp
            first | done | with_reducible rfl
          refine wpAnyH_takeE (i := 3) (some 20) (v := ?_) rfl rfl (by as_aux_lemma => kernel_rfl) (by as_aux_lemma => kernel_rfl) (by as_aux_lemma => kernel_rfl) (fun _ _ _ h => h) (Or.inl ⟨by kernel_rfl, ?_⟩) hS ?_
          rotate_left
          · intro w hSw; obtain ⟨a0, a1, a2, a3, a4⟩ := hSw.1; obtain ⟨d0, d1, d2, d3, d4⟩ := hSw.2.1; dsimp only at a0 a1 a2 a3 a4 d0 d1 d2 d3 d4; go_simp
            first | done | with_reducible rfl
          refine wpAnyH_takeE (i := 4) (some 21) (v := ?_) rfl rfl (by as_aux_lemma => kernel_rfl) (by as_aux_lemma => kernel_rfl) (by as_aux_lemma => kernel_rfl) (fun _ _ _ h => h) (Or.inl ⟨by kernel_rfl, ?_⟩) hS ?_
          rotate_left
          · intro w hSw; obtain ⟨a0, a1, a2, a3, a4⟩ := hSw.1; obtain ⟨d0, d1, d2, d3, d4⟩ := hSw.2.1; dsimp only at a0 a1 a2 a3 a4 d0 d1 d2 d3 d4; go_simp
            first | done | with_reducible rfl
          refine wpAnyH_takeE (i := 5) (some 22) (v := ?_) rfl rfl (by as_aux_lemma => kernel_rfl) (by as_aux_lemma => kernel_rfl) (by as_aux_lemma => kernel_rfl) (fun _ _ _ h => h) (Or.inl ⟨by kernel_rfl, ?_⟩) hS ?_
          rotate_left
          · intro w hSw; obtain ⟨a0, a1, a2, a3, a4⟩ := hSw.1; obtain ⟨d0, d1, d2, d3, d4⟩ := hSw.2.1; dsimp only at a0 a1 a2 a3 a4 d0 d1 d2 d3 d4; go_simp
            first | done | with_reducible rfl
          refine wpAnyH_takeE (i := 6) (some 23) (v := ?_) rfl rfl (by as_aux_lemma => kernel_rfl) (by as_aux_lemma => kernel_rfl) (by as_aux_lemma => kernel_rfl) (fun _ _ _ h => h) (Or.inl ⟨by kernel_rfl, ?_⟩) hS ?_
          rotate_left
          · intro w hSw; obtain ⟨a0, a1, a2, a3, a4⟩ := hSw.1; obtain ⟨d0, d1, d2, d3, d4⟩ := hSw.2.1; dsimp only at a0 a1 a2 a3 a4 d0 d1 d2 d3 d4; go_simp
            first | done | with_reducible rfl
          refine wpAnyH_takeE (i := 7) (some 24) (v := ?_) rfl rfl (by as_aux_lemma => kernel_rfl) (by as_aux_lemma => kernel_rfl) (by as_aux_lemma => kernel_rfl) (fun _ _ _ h => h) (Or.inl ⟨by kernel_rfl, ?_⟩) hS ?_
          rotate_left
          · intro w hSw; obtain ⟨a0, a1, a2, a3, a4⟩ := hSw.1; obtain ⟨d0, d1, d2, d3, d4⟩ := hSw.2.1; dsimp only at a0 a1 a2 a3 a4 d0 d1 d2 d3 d4; go_simp
            first | done | with_reducible rfl
          refine wpAnyH_takeE (i := 8) (some 25) (v := ?_) rfl rfl (by as_aux_lemma => kernel_rfl) (by as_aux_lemma => kernel_rfl) (by as_aux_lemma => kernel_rfl) (fun _ _ _ h => h) (Or.inl ⟨by kernel_rfl, ?_⟩) hS ?_
          rotate_left
          · intro w hSw; obtain ⟨a0, a1, a2, a3, a4⟩ := hSw.1; obtain ⟨d0, d1, d2, d3, d4⟩ := hSw.2.1; dsimp only at a0 a1 a2 a3 a4 d0 d1 d2 d3 d4; go_simp
            first | done | with_reducible rfl
          have HB3 := Lib.hid hS.2.2
          refine wpAnyH_done (by kernel_rfl) ?_ _
          clear hS HW
          go_simp
          go_wp2
          go_roundw
          case rel => exact ⟨k + 1, by omega, by go_num, HT3, HB3⟩
          case measure => simp [intOf]; omega
        | false =>
          rw [hc] at hne
          simp only [Bool.not_false] at hne
          have hs : sameEs xs ys = false := HF.out (fun e => by rw [e, eqEn_refl6] at hc; cases hc)
          have HSm := Lib.hid hs
          clear hc HT2 HF hs
          go_wp2_with fail
          refine wp_region_any (by kernel_rfl) ?_
          change wpAny _ _ _ _ _ _ _ (World.drew _)
          have hS : (fun w' : World => RowE6 w' bA (oA + k * 5) ⟨kx, tx, ox, vx, ux⟩ ∧ RowE6 w' bB (oB + k * 5) ⟨ky, ty, oy, vy, uy⟩ ∧ Below w.heap.size w w') wr.drew := ⟨rA, rB, HW.out.drew⟩
          refine wpAny_of_held (S := fun w' => RowE6 w' bA (oA + k * 5) ⟨kx, tx, ox, vx, ux⟩ ∧ RowE6 w' bB (oB + k * 5) ⟨ky, ty, oy, vy, uy⟩ ∧ Below w.heap.size w w') _ _ _ _ ?_
          clear rA rB
          refine wpAnyH_takeE (i := 0) (some 17) (v := ?_) rfl rfl (by as_aux_lemma => kernel_rfl) (by as_aux_lemma => kernel_rfl) (by as_aux_lemma => kernel_rfl) (fun _ _ _ h => h) (Or.inl ⟨by kernel_rfl, ?_⟩) hS ?_
          rotate_left
          · intro w hSw; obtain ⟨a0, a1, a2, a3, a4⟩ := hSw.1; obtain ⟨d0, d1, d2, d3, d4⟩ := hSw.2.1; dsimp only at a0 a1 a2 a3 a4 d0 d1 d2 d3 d4; go_simp
            first | done | with_reducible rfl
          refine wpAnyH_takeE (i := 1) (some 18) (v := ?_) rfl rfl (by as_aux_lemma => kernel_rfl) (by as_aux_lemma => kernel_rfl) (by as_aux_lemma => kernel_rfl) (fun _ _ _ h => h) (Or.inl ⟨by kernel_rfl, ?_⟩) hS ?_
          rotate_left
          · intro w hSw; obtain ⟨a0, a1, a2, a3, a4⟩ := hSw.1; obtain ⟨d0, d1, d2, d3, d4⟩ := hSw.2.1; dsimp only at a0 a1 a2 a3 a4 d0 d1 d2 d3 d4; go_simp
            first | done | with_reducible rfl
          refine wpAnyH_takeE (i := 2) (some 19) (v := ?_) rfl rfl (by as_aux_lemma => kernel_rfl) (by as_aux_lemma => kernel_rfl) (by as_aux_lemma => kernel_rfl) (fun _ _ _ h => h) (Or.inl ⟨by kernel_rfl, ?_⟩) hS ?_
          rotate_left
          · intro w hSw; obtain ⟨a0, a1, a2, a3, a4⟩ := hSw.1; obtain ⟨d0, d1, d2, d3, d4⟩ := hSw.2.1; dsimp only at a0 a1 a2 a3 a4 d0 d1 d2 d3 d4; go_simp
            first | done | with_reducible rfl
          refine wpAnyH_takeE (i := 3) (some 20) (v := ?_) rfl rfl (by as_aux_lemma => kernel_rfl) (by as_aux_lemma => kernel_rfl) (by as_aux_lemma => kernel_rfl) (fun _ _ _ h => h) (Or.inl ⟨by kernel_rfl, ?_⟩) hS ?_
          rotate_left
          · intro w hSw; obtain ⟨a0, a1, a2, a3, a4⟩ := hSw.1; obtain ⟨d0, d1, d2, d3, d4⟩ := hSw.2.1; dsimp only at a0 a1 a2 a3 a4 d0 d1 d2 d3 d4; go_simp
            first | done | with_reducible rfl
          refine wpAnyH_takeE (i := 4) (some 21) (v := ?_) rfl rfl (by as_aux_lemma => kernel_rfl) (by as_aux_lemma => kernel_rfl) (by as_aux_lemma => kernel_rfl) (fun _ _ _ h => h) (Or.inl ⟨by kernel_rfl, ?_⟩) hS ?_
          rotate_left
          · intro w hSw; obtain ⟨a0, a1, a2, a3, a4⟩ := hSw.1; obtain ⟨d0, d1, d2, d3, d4⟩ := hSw.2.1; dsimp only at a0 a1 a2 a3 a4 d0 d1 d2 d3 d4; go_simp
            first | done | with_reducible rfl
          refine wpAnyH_takeE (i := 5) (some 22) (v := ?_) rfl rfl (by as_aux_lemma => kernel_rfl) (by as_aux_lemma => kernel_rfl) (by as_aux_lemma => kernel_rfl) (fun _ _ _ h => h) (Or.inl ⟨by kernel_rfl, ?_⟩) hS ?_
          rotate_left
          · intro w hSw; obtain ⟨a0, a1, a2, a3, a4⟩ := hSw.1; obtain ⟨d0, d1, d2, d3, d4⟩ := hSw.2.1; dsimp only at a0 a1 a2 a3 a4 d0 d1 d2 d3 d4; go_simp
            first | done | with_reducible rfl
          refine wpAnyH_takeE (i := 6) (some 23) (v := ?_) rfl rfl (by as_aux_lemma => kernel_rfl) (by as_aux_lemma => kernel_rfl) (by as_aux_lemma => kernel_rfl) (fun _ _ _ h => h) (Or.inl ⟨by kernel_rfl, ?_⟩) hS ?_
          rotate_left
          · intro w hSw; obtain ⟨a0, a1, a2, a3, a4⟩ := hSw.1; obtain ⟨d0, d1, d2, d3, d4⟩ := hSw.2.1; dsimp only at a0 a1 a2 a3 a4 d0 d1 d2 d3 d4; go_simp
            first | done | with_reducible rfl
          refine wpAnyH_takeE (i := 7) (some 24) (v := ?_) rfl rfl (by as_aux_lemma => kernel_rfl) (by as_aux_lemma => kernel_rfl) (by as_aux_lemma => kernel_rfl) (fun _ _ _ h => h) (Or.inl ⟨by kernel_rfl, ?_⟩) hS ?_
          rotate_left
          · intro w hSw; obtain ⟨a0, a1, a2, a3, a4⟩ := hSw.1; obtain ⟨d0, d1, d2, d3, d4⟩ := hSw.2.1; dsimp only at a0 a1 a2 a3 a4 d0 d1 d2 d3 d4; go_simp
            first | done | with_reducible rfl
          refine wpAnyH_takeE (i := 8) (some 25) (v := ?_) rfl rfl (by as_aux_lemma => kernel_rfl) (by as_aux_lemma => kernel_rfl) (by as_aux_lemma => kernel_rfl) (fun _ _ _ h => h) (Or.inl ⟨by kernel_rfl, ?_⟩) hS ?_
          rotate_left
          · intro w hSw; obtain ⟨a0, a1, a2, a3, a4⟩ := hSw.1; obtain ⟨d0, d1, d2, d3, d4⟩ := hSw.2.1; dsimp only at a0 a1 a2 a3 a4 d0 d1 d2 d3 d4; go_simp
            first | done | with_reducible rfl
          have HB3 := Lib.hid hS.2.2
          refine wpAnyH_done (by kernel_rfl) ?_ _
          clear hS HW
          go_simp
          go_wp2
          go_ret
          exact ⟨by rw [HSm.out]; rfl, HB3.out⟩
      · have hkl : ¬ (k : Int) < (n : Int) := by omega
        have hs : sameEs xs ys = true := (allEqE_iff xs ys).2 (by
          have h := HT.out
          rw [List.take_of_length_le (by have := HN.out; omega), List.take_of_length_le (by have := HM.out; omega)] at h
          exact h)
        have HSm := Lib.hid hs
        clear hs HT
        go_wp2
        go_ret
        exact ⟨by rw [HSm.out]; rfl, HW.out⟩
  · have h1 : ((n : Int) != (m : Int)) = true := by simp only [bne_iff_ne, ne_eq]; omega
    have hs := sameEs_len (xs := xs) (ys := ys) (by omega)
    rw [hs]
    clear hnx hmy hs hn hnm ha hb
    go_enter Tryd.func29, Tryd.ntmps29
    go_wp2
    go_ret
    exact ⟨rfl, Below.refl _ _⟩
set_option maxRecDepth 100000 in
set_option maxHeartbeats 4000000 in
theorem ySameM_any (a b : Option Addr) (c d : Nat) (xs ys : List Mem) (w : World) (ha : MemsAt w a xs) (hb : MemsAt w b ys) (hn : xs.length ≤ 9223372036854775807) (n m : Nat) (hnx : n = xs.length) (hmy : m = ys.length) :
    Calls Tryd.prog 28 #[.slice a n c, .slice b m d] w fun e w' => e = .returned (.bool (sameMs xs ys)) ∧ Below w.heap.size w w' := by
  by_cases hnm : n = m
  · subst hnm
    have hn1 : n ≤ 9223372036854775807 := by omega
    have HN := Lib.hid hnx
    have HM := Lib.hid hmy
    have HA := Lib.hid ha
    have HB := Lib.hid hb
    clear hnx hmy ha hb hn
    go_enter Tryd.func28, Tryd.ntmps28
    go_wp2
    go_loopw [5] (fun i wr => ∃ (k : Nat), k ≤ n ∧ i = .int .i64 k ∧ Hid (xs.take k = ys.take k) ∧ Hid (Below w.heap.size w wr)) (fun i _ => n - (intOf i).toNat)
    case atStart => exact ⟨0, Nat.zero_le _, rfl, Lib.hid rfl, Lib.hid (Below.refl _ _)⟩
    case round =>
      obtain ⟨k, hk, rfl, HT, HW⟩ := hrel
      by_cases hlt : k < n
      · have hkl : (k : Int) < (n : Int) := by omega
        have hkx : k < xs.length := by have := HN.out; omega
        have hky : k < ys.length := by have := HM.out; omega
        obtain ⟨bA, oA, rfl, rA⟩ := (HA.out.on HW.out).row6 k hkx
        obtain ⟨bB, oB, rfl, rB⟩ := (HB.out.on HW.out).row6 k hky
        have HT2 : Hid (xs[k] = ys[k] → xs.take (k + 1) = ys.take (k + 1)) := Lib.hid (fun e => by rw [List.take_succ_eq_append_getElem hkx, List.take_succ_eq_append_getElem hky, HT.out, e])
        have HF : Hid (xs[k] ≠ ys[k] → sameMs xs ys = false) := Lib.hid (fun hne => by rw [Bool.eq_false_iff]; intro e; have e' := (allEqM_iff xs ys).1 e; subst e'; exact hne rfl)
        generalize xs[k] = x at *
        generalize ys[k] = y at *
        clear hkx hky HT
        obtain ⟨nx, sx, ix⟩ := x
        obtain ⟨ny, sy, iy⟩ := y
        have hne := fun w => run_neM ⟨nx, sx, ix⟩ ⟨ny, sy, iy⟩ w
        dsimp only at hne
        cases hc : eqMm ⟨nx, sx, ix⟩ ⟨ny, sy, iy⟩ with
        | true =>
          rw [hc] at hne
          simp only [Bool.not_true] at hne
          have HT3 := Lib.hid (HT2.out ((eqMm_iff _ _).1 hc))
          clear hc HT2 HF
          go_wp2_with fail
          refine wp_region_any (by kernel_rfl) ?_
          change wpAny _ _ _ _ _ _ _ (World.drew _)
          have hS : (fun w' : World => RowM6 w' bA (oA + k * 3) ⟨nx, sx, ix⟩ ∧ RowM6 w' bB (oB + k * 3) ⟨ny, sy, iy⟩ ∧ Below w.heap.size w w') wr.drew := ⟨rA, rB, HW.out.drew⟩
          refine wpAny_of_held (S := fun w' => RowM6 w' bA (oA + k * 3) ⟨nx, sx, ix⟩ ∧ RowM6 w' bB (oB + k * 3) ⟨ny, sy, iy⟩ ∧ Below w.heap.size w w') _ _ _ _ ?_
          clear rA rB
          refine wpAnyH_takeE (i := 0) (some 17) (v := ?_) rfl rfl (by as_aux_lemma => kernel_rfl) (by as_aux_lemma => kernel_rfl) (by as_aux_lemma => kernel_rfl) (fun _ _ _ h => h) (Or.inl ⟨by kernel_rfl, ?_⟩) hS ?_
          rotate_left
          · intro w hSw; obtain ⟨a0, a1, a2⟩ := hSw.1; obtain ⟨d0, d1, d2⟩ := hSw.2.1; dsimp only at a0 a1 a2 d0 d1 d2; go_simp
            first | done | with_reducible rfl
          refine wpAnyH_takeE (i := 1) (some 18) (v := ?_) rfl rfl (by as_aux_lemma => kernel_rfl) (by as_aux_lemma => kernel_rfl) (by as_aux_lemma => kernel_rfl) (fun _ _ _ h => h) (Or.inl ⟨by kernel_rfl, ?_⟩) hS ?_
          rotate_left
          · intro w hSw; obtain ⟨a0, a1, a2⟩ := hSw.1; obtain ⟨d0, d1, d2⟩ := hSw.2.1; dsimp only at a0 a1 a2 d0 d1 d2; go_simp
            first | done | with_reducible rfl
          refine wpAnyH_takeE (i := 2) (some 19) (v := ?_) rfl rfl (by as_aux_lemma => kernel_rfl) (by as_aux_lemma => kernel_rfl) (by as_aux_lemma => kernel_rfl) (fun _ _ _ h => h) (Or.inl ⟨by kernel_rfl, ?_⟩) hS ?_
          rotate_left
          · intro w hSw; obtain ⟨a0, a1, a2⟩ := hSw.1; obtain ⟨d0, d1, d2⟩ := hSw.2.1; dsimp only at a0 a1 a2 d0 d1 d2; go_simp
            first | done | with_reducible rfl
          refine wpAnyH_takeE (i := 3) (some 20) (v := ?_) rfl rfl (by as_aux_lemma => kernel_rfl) (by as_aux_lemma => kernel_rfl) (by as_aux_lemma => kernel_rfl) (fun _ _ _ h => h) (Or.inl ⟨by kernel_rfl, ?_⟩) hS ?_
          rotate_left
          · intro w hSw; obtain ⟨a0, a1, a2⟩ := hSw.1; obtain ⟨d0, d1, d2⟩ := hSw.2.1; dsimp only at a0 a1 a2 d0 d1 d2; go_simp
            first | done | with_reducible rfl
          refine wpAnyH_takeE (i := 4) (some 21) (v := ?_) rfl rfl (by as_aux_lemma => kernel_rfl) (by as_aux_lemma => kernel_rfl) (by as_aux_lemma => kernel_rfl) (fun _ _ _ h => h) (Or.inl ⟨by kernel_rfl, ?_⟩) hS ?_
          rotate_left
          · intro w hSw; obtain ⟨a0, a1, a2⟩ := hSw.1; obtain ⟨d0, d1, d2⟩ := hSw.2.1; dsimp only at a0 a1 a2 d0 d1 d2; go_simp
            first | done | with_reducible rfl
          refine wpAnyH_takeE (i := 5) (some 22) (v := ?_) rfl rfl (by as_aux_lemma => kernel_rfl) (by as_aux_lemma => kernel_rfl) (by as_aux_lemma => kernel_rfl) (fun _ _ _ h => h) (Or.inl ⟨by kernel_rfl, ?_⟩) hS ?_
          rotate_left
          · intro w hSw; obtain ⟨a0, a1, a2⟩ := hSw.1; obtain ⟨d0, d1, d2⟩ := hSw.2.1; dsimp only at a0 a1 a2 d0 d1 d2; go_simp
            first | done | with_reducible rfl
          refine wpAnyH_takeE (i := 6) (some 23) (v := ?_) rfl rfl (by as_aux_lemma => kernel_rfl) (by as_aux_lemma => kernel_rfl) (by as_aux_lemma => kernel_rfl) (fun _ _ _ h => h) (Or.inl ⟨by kernel_rfl, ?_⟩) hS ?_
          rotate_left
          · intro w hSw; obtain ⟨a0, a1, a2⟩ := hSw.1; obtain ⟨d0, d1, d2⟩ := hSw.2.1; dsimp only at a0 a1 a2 d0 d1 d2; go_simp
            first | done | with_reducible rfl
          refine wpAnyH_takeE (i := 7) (some 24) (v := ?_) rfl rfl (by as_aux_lemma => kernel_rfl) (by as_aux_lemma => kernel_rfl) (by as_aux_lemma => kernel_rfl) (fun _ _ _ h => h) (Or.inl ⟨by kernel_rfl, ?_⟩) hS ?_
          rotate_left
          · intro w hSw; obtain ⟨a0, a1, a2⟩ := hSw.1; obtain ⟨d0, d1, d2⟩ := hSw.2.1; dsimp only at a0 a1 a2 d0 d1 d2; go_simp
            first | done | with_reducible rfl
          refine wpAnyH_takeE (i := 8) (some 25) (v := ?_) rfl rfl (by as_aux_lemma => kernel_rfl) (by as_aux_lemma => kernel_rfl) (by as_aux_lemma => kernel_rfl) (fun _ _ _ h => h) (Or.inl ⟨by kernel_rfl, ?_⟩) hS ?_
          rotate_left
          · intro w hSw; obtain ⟨a0, a1, a2⟩ := hSw.1; obtain ⟨d0, d1, d2⟩ := hSw.2.1; dsimp only at a0 a1 a2 d0 d1 d2; go_simp
            first | done | with_reducible rfl
          have HB3 := Lib.hid hS.2.2
          refine wpAnyH_done (by kernel_rfl) ?_ _
          clear hS HW
          go_simp
          go_wp2
          go_roundw
          case rel => exact ⟨k + 1, by omega, by go_num, HT3, HB3⟩
          case measure => simp [intOf]; omega
        | false =>
          rw [hc] at hne
          simp only [Bool.not_false] at hne
          have hs : sameMs xs ys = false := HF.out (fun e => by rw [e, eqMm_refl6] at hc; cases hc)
          have HSm := Lib.hid hs
          clear hc HT2 HF hs
          go_wp2_with fail
          refine wp_region_any (by kernel_rfl) ?_
          change wpAny _ _ _ _ _ _ _ (World.drew _)
          have hS : (fun w' : World => RowM6 w' bA (oA + k * 3) ⟨nx, sx, ix⟩ ∧ RowM6 w' bB (oB + k * 3) ⟨ny, sy, iy⟩ ∧ Below w.heap.size w w') wr.drew := ⟨rA, rB, HW.out.drew⟩
          refine wpAny_of_held (S := fun w' => RowM6 w' bA (oA + k * 3) ⟨nx, sx, ix⟩ ∧ RowM6 w' bB (oB + k * 3) ⟨ny, sy, iy⟩ ∧ Below w.heap.size w w') _ _ _ _ ?_
          clear rA rB
          refine wpAnyH_takeE (i := 0) (some 17) (v := ?_) rfl rfl (by as_aux_lemma => kernel_rfl) (by as_aux_lemma => kernel_rfl) (by as_aux_lemma => kernel_rfl) (fun _ _ _ h => h) (Or.inl ⟨by kernel_rfl, ?_⟩) hS ?_
          rotate_left
          · intro w hSw; obtain ⟨a0, a1, a2⟩ := hSw.1; obtain ⟨d0, d1, d2⟩ := hSw.2.1; dsimp only at a0 a1 a2 d0 d1 d2; go_simp
            first | done | with_reducible rfl
          refine wpAnyH_takeE (i := 1) (some 18) (v := ?_) rfl rfl (by as_aux_lemma => kernel_rfl) (by as_aux_lemma => kernel_rfl) (by as_aux_lemma => kernel_rfl) (fun _ _ _ h => h) (Or.inl ⟨by kernel_rfl, ?_⟩) hS ?_
          rotate_left
          · intro w hSw; obtain ⟨a0, a1, a2⟩ := hSw.1; obtain ⟨d0, d1, d2⟩ := hSw.2.1; dsimp only at a0 a1 a2 d0 d1 d2; go_simp
            first | done | with_reducible rfl
          refine wpAnyH_takeE (i := 2) (some 19) (v := ?_) rfl rfl (by as_aux_lemma => kernel_rfl) (by as_aux_lemma => kernel_rfl) (by as_aux_lemma => kernel_rfl) (fun _ _ _ h => h) (Or.inl ⟨by kernel_rfl, ?_⟩) hS ?_
          rotate_left
          · intro w hSw; obtain ⟨a0, a1, a2⟩ := hSw.1; obtain ⟨d0, d1, d2⟩ := hSw.2.1; dsimp only at a0 a1 a2 d0 d1 d2; go_simp
            first | done | with_reducible rfl
          refine wpAnyH_takeE (i := 3) (some 20) (v := ?_) rfl rfl (by as_aux_lemma => kernel_rfl) (by as_aux_lemma => kernel_rfl) (by as_aux_lemma => kernel_rfl) (fun _ _ _ h => h) (Or.inl ⟨by kernel_rfl, ?_⟩) hS ?_
          rotate_left
          · intro w hSw; obtain ⟨a0, a1, a2⟩ := hSw.1; obtain ⟨d0, d1, d2⟩ := hSw.2.1; dsimp only at a0 a1 a2 d0 d1 d2; go_simp
            first | done | with_reducible rfl
          refine wpAnyH_takeE (i := 4) (some 21) (v := ?_) rfl rfl (by as_aux_lemma => kernel_rfl) (by as_aux_lemma => kernel_rfl) (by as_aux_lemma => kernel_rfl) (fun _ _ _ h => h) (Or.inl ⟨by kernel_rfl, ?_⟩) hS ?_
          rotate_left
          · intro w hSw; obtain ⟨a0, a1, a2⟩ := hSw.1; obtain ⟨d0, d1, d2⟩ := hSw.2.1; dsimp only at a0 a1 a2 d0 d1 d2; go_simp
            first | done | with_reducible rfl
          refine wpAnyH_takeE (i := 5) (some 22) (v := ?_) rfl rfl (by as_aux_lemma => kernel_rfl) (by as_aux_lemma => kernel_rfl) (by as_aux_lemma => kernel_rfl) (fun _ _ _ h => h) (Or.inl ⟨by kernel_rfl, ?_⟩) hS ?_
          rotate_left
          · intro w hSw; obtain ⟨a0, a1, a2⟩ := hSw.1; obtain ⟨d0, d1, d2⟩ := hSw.2.1; dsimp only at a0 a1 a2 d0 d1 d2; go_simp
            first | done | with_reducible rfl
          refine wpAnyH_takeE (i := 6) (some 23) (v := ?_) rfl rfl (by as_aux_lemma => kernel_rfl) (by as_aux_lemma => kernel_rfl) (by as_aux_lemma => kernel_rfl) (fun _ _ _ h => h) (Or.inl ⟨by kernel_rfl, ?_⟩) hS ?_
          rotate_left
          · intro w hSw; obtain ⟨a0, a1, a2⟩ := hSw.1; obtain ⟨d0, d1, d2⟩ := hSw.2.1; dsimp only at a0 a1 a2 d0 d1 d2; go_simp
            first | done | with_reducible rfl
          refine wpAnyH_takeE (i := 7) (some 24) (v := ?_) rfl rfl (by as_aux_lemma => kernel_rfl) (by as_aux_lemma => kernel_rfl) (by as_aux_lemma => kernel_rfl) (fun _ _ _ h => h) (Or.inl ⟨by kernel_rfl, ?_⟩) hS ?_
          rotate_left
          · intro w hSw; obtain ⟨a0, a1, a2⟩ := hSw.1; obtain ⟨d0, d1, d2⟩ := hSw.2.1; dsimp only at a0 a1 a2 d0 d1 d2; go_simp
            first | done | with_reducible rfl
          refine wpAnyH_takeE (i := 8) (some 25) (v := ?_) rfl rfl (by as_aux_lemma => kernel_rfl) (by as_aux_lemma => kernel_rfl) (by as_aux_lemma => kernel_rfl) (fun _ _ _ h => h) (Or.inl ⟨by kernel_rfl, ?_⟩) hS ?_
          rotate_left
          · intro w hSw; obtain ⟨a0, a1, a2⟩ := hSw.1; obtain ⟨d0, d1, d2⟩ := hSw.2.1; dsimp only at a0 a1 a2 d0 d1 d2; go_simp
            first | done | with_reducible rfl
          have HB3 := Lib.hid hS.2.2
          refine wpAnyH_done (by kernel_rfl) ?_ _
          clear hS HW
          go_simp
          go_wp2
          go_ret
          exact ⟨by rw [HSm.out]; rfl, HB3.out⟩
      · have hkl : ¬ (k : Int) < (n : Int) := by omega
        have hs : sameMs xs ys = true := (allEqM_iff xs ys).2 (by
          have h := HT.out
          rw [List.take_of_length_le (by have := HN.out; omega), List.take_of_length_le (by have := HM.out; omega)] at h
          exact h)
        have HSm := Lib.hid hs
        clear hs HT
        go_wp2
        go_ret
        exact ⟨by rw [HSm.out]; rfl, HW.out⟩
  · have h1 : ((n : Int) != (m : Int)) = true := by simp only [bne_iff_ne, ne_eq]; omega
    have hs := sameMs_len (xs := xs) (ys := ys) (by omega)
    rw [hs]
    clear hnx hmy hs hn hnm ha hb
    go_enter Tryd.func28, Tryd.ntmps28
    go_wp2
    go_ret
    exact ⟨rfl, Below.refl _ _⟩
set_option maxRecDepth 100000 in
set_option maxHeartbeats 4000000 in
theorem ySame_any (p q : Pk) (am : Option Addr) (na ca : Nat) (ae : Option Addr) (xa ya : Nat) (bm : Option Addr) (nb cb : Nat) (be : Option Addr) (xb yb : Nat) (W : World) (h1 : na = p.ms.length) (h2 : xa = p.es.length) (h3 : nb = q.ms.length) (h4 : xb = q.es.length) (hM : MemsAt W am p.ms) (hE : EntsAt W ae p.es) (hM' : MemsAt W bm q.ms) (hE' : EntsAt W be q.es) (hl1 : p.ms.length ≤ 9223372036854775807) (hl2 : p.es.length ≤ 9223372036854775807) :
    Calls Tryd.prog 14 #[.agg #[.int .u8 p.k, .int .u16 p.f, .int .u16 p.a, .int .i64 p.q, .slice am na ca, .slice ae xa ya], .agg #[.int .u8 q.k, .int .u16 q.f, .int .u16 q.a, .int .i64 q.q, .slice bm nb cb, .slice be xb yb]] W fun e w' => e = .returned (.bool (sameP p q)) ∧ Below W.heap.size W w' := by
  have HM : Hid (∀ u, Below W.heap.size W u → Calls Tryd.prog 28 #[.slice am na ca, .slice bm nb cb] u fun e w' => e = .returned (.bool (sameMs p.ms q.ms)) ∧ Below u.heap.size u w') := Lib.hid (fun u hu => ySameM_any am bm ca cb p.ms q.ms u (hM.below hu (Nat.le_refl _)) (hM'.below hu (Nat.le_refl _)) hl1 na nb h1 h3)
  have HE : Hid (∀ u, Below W.heap.size W u → Calls Tryd.prog 29 #[.slice ae xa ya, .slice be xb yb] u fun e w' => e = .returned (.bool (sameEs p.es q.es)) ∧ Below u.heap.size u w') := Lib.hid (fun u hu => cRefSame_any ae be ya yb p.es q.es u (hE.belowP hu (Nat.le_refl _)) (hE'.belowP hu (Nat.le_refl _)) hl2 xa xb h2 h4)
  have d1 := (Below.refl W.heap.size W).alloc (Nat.le_refl _) (.cells #[.int .u8 p.k, .int .u16 p.f, .int .u16 p.a, .int .i64 p.q, .slice am na ca, .slice ae xa ya] 26)
  have d2 := d1.alloc (by simp) (.cells #[.int .u8 q.k, .int .u16 q.f, .int .u16 q.a, .int .i64 q.q, .slice bm nb cb, .slice be xb yb] 26)
  have b1 := (PkBlk.new W p.k p.f p.a p.q am na ca ae xa ya).on ((Below.refl _ _).alloc (Nat.le_refl _) (.cells #[.int .u8 q.k, .int .u16 q.f, .int .u16 q.a, .int .i64 q.q, .slice bm nb cb, .slice be xb yb] 26))
  have b2 := PkBlk.new (W.alloc (.cells #[.int .u8 p.k, .int .u16 p.f, .int .u16 p.a, .int .i64 p.q, .slice am na ca, .slice ae xa ya] 26)) q.k q.f q.a q.q bm nb cb be xb yb
  rw [World.size_alloc] at b2
  have x0 := b1.c0; have x1 := b1.c1; have x2 := b1.c2; have x3 := b1.c3; have x4 := b1.c4; have x5 := b1.c5
  have y0 := b2.c0; have y1 := b2.c1; have y2 := b2.c2; have y3 := b2.c3; have y4 := b2.c4; have y5 := b2.c5
  have HZ := Lib.hid (And.intro b1 (And.intro b2 d2))
  clear h1 h2 h3 h4 hM hE hM' hE' hl1 hl2 d1 d2 b1 b2
  unfold sameP
  obtain ⟨k, f, a, q1, ms, es⟩ := p
  obtain ⟨k', f', a', q1', ms', es'⟩ := q
  dsimp only at *
  by_cases g0 : k = k'
  case neg =>
    have e0 : (k == k') = false := by simpa using g0
    go_enter Tryd.func14, Tryd.ntmps14
    go_wp2
    go_ret
    exact ⟨by simp [e0], HZ.out.2.2⟩
  subst g0
  by_cases g1 : f = f'
  case neg =>
    have e1 : (f == f') = false := by simpa using g1
    go_enter Tryd.func14, Tryd.ntmps14
    go_wp2
    go_ret
    exact ⟨by simp [e1], HZ.out.2.2⟩
  subst g1
  by_cases g2 : a = a'
  case neg =>
    have e2 : (a == a') = false := by simpa using g2
    go_enter Tryd.func14, Tryd.ntmps14
    go_wp2
    go_ret
    exact ⟨by simp [e2], HZ.out.2.2⟩
  subst g2
  by_cases g3 : q1 = q1'
  case neg =>
    have e3 : (q1 == q1') = false := by simpa using g3
    go_enter Tryd.func14, Tryd.ntmps14
    go_wp2
    go_ret
    exact ⟨by simp [e3], HZ.out.2.2⟩
  subst g3
  cases hs : sameMs ms ms' with
  | false =>
    rw [hs] at HM
    go_enter Tryd.func14, Tryd.ntmps14
    go_wp2_with (go_at_call 28; refine (HM.out _ HZ.out.2.2).mono ?_; rintro e u1 ⟨rfl, r1⟩; refine Hid.out ?_)
    refine Lib.hid ?_
    have HZ1 := Lib.hid (And.intro (HZ.out.1.on r1) (And.intro (HZ.out.2.1.on r1) (HZ.out.2.2.trans (r1.mono HZ.out.2.2.size))))
    clear x0 x1 x2 x3 x4 x5 y0 y1 y2 y3 y4 y5 r1
    go_wp2
    go_ret
    exact ⟨by first | rfl | simp, HZ1.out.2.2⟩
  | true =>
    rw [hs] at HM
    go_enter Tryd.func14, Tryd.ntmps14
    go_wp2_with (go_at_call 28; refine (HM.out _ HZ.out.2.2).mono ?_; rintro e u1 ⟨rfl, r1⟩; refine Hid.out ?_)
    refine Lib.hid ?_
    have HZ1 := Lib.hid (And.intro (HZ.out.1.on r1) (And.intro (HZ.out.2.1.on r1) (HZ.out.2.2.trans (r1.mono HZ.out.2.2.size))))
    clear x0 x1 x2 x3 x4 x5 y0 y1 y2 y3 y4 y5 r1
    have x5 := HZ1.out.1.c5; have y5 := HZ1.out.2.1.c5
    go_wp2_with (go_at_call 29; refine (HE.out _ HZ1.out.2.2).mono ?_; rintro e u2 ⟨rfl, q2⟩; refine Hid.out ?_)
    refine Lib.hid ?_
    have HQ := Lib.hid (HZ1.out.2.2.trans (q2.mono HZ1.out.2.2.size))
    clear q2 x5 y5
    go_wp2
    go_ret
    exact ⟨by first | rfl | simp, HQ.out⟩

end Go.Proofs.YtchhdffehkcecaaDoor
