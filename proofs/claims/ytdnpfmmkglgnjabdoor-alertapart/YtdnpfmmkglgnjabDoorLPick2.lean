/-
  What the reference's Get, Pick and Same do.
-/
import Derived.Test.YtdnpfmmkglgnjabDoorLPick
namespace Go.Proofs.YtdnpfmmkglgnjabDoor
open Go.RowKit

theorem ne_at {xs ys : List Pr} (k : Nat) (h1 : k < xs.length) (h2 : k < ys.length) (h : xs[k] ≠ ys[k]) : xs ≠ ys := fun e => by subst e; exact h rfl

set_option maxHeartbeats 2000000 in
theorem refSame_any (a b : Option Addr) (c d : Nat) (xs ys : List Pr) (w : World) (ha : PairsAt w a xs) (hb : PairsAt w b ys) (hn : xs.length ≤ 9223372036854775807) (n m : Nat) (hnx : n = xs.length) (hmy : m = ys.length) :
    Calls Tryd.prog 24 #[.slice a n c, .slice b m d] w fun e w' => e = .returned (.bool (decide (xs = ys))) ∧ Below w.heap.size w w' := by
  subst hnx hmy
  by_cases hl : xs.length = ys.length
  · have hl' : ((xs.length : Int) != (ys.length : Int)) = false := by rw [hl]; simp
    have HL := Lib.hid hl
    clear hl
    go_enter Tryd.func24, Tryd.ntmps24
    go_wp2
    go_loopw [5] (fun i wr => ∃ k : Nat, k ≤ xs.length ∧ i = .int .i64 k ∧ Below w.heap.size w wr ∧ ∀ j, j < k → ∀ (hj : j < xs.length) (hj' : j < ys.length), xs[j] = ys[j]) (fun i _ => xs.length - (intOf i).toNat)
    case atStart => exact ⟨0, Nat.zero_le _, rfl, Below.refl _ _, fun j hj => absurd hj (Nat.not_lt_zero _)⟩
    case round =>
      obtain ⟨k, hk, rfl, hnx, hall⟩ := hrel
      by_cases hlt : k < xs.length
      · have hkl : (k : Int) < (xs.length : Int) := by omega
        have hlt2 : k < ys.length := by rw [← HL.out]; exact hlt
        have hkl2 : (k : Int) < (ys.length : Int) := by omega
        obtain ⟨b1, o1, rfl, h1⟩ := ha (by omega)
        obtain ⟨b2, o2, rfl, h2⟩ := hb (by omega)
        obtain ⟨hc1, hc2⟩ := h1 k hlt
        obtain ⟨hc3, hc4⟩ := h2 k hlt2
        rw [← hnx.cell (p := ⟨b1, o1 + k * 2, none⟩) (World.block_lt_of_cell? w _ hc1)] at hc1
        rw [← hnx.cell (p := ⟨b1, o1 + k * 2 + 1, none⟩) (World.block_lt_of_cell? w _ hc2)] at hc2
        rw [← hnx.cell (p := ⟨b2, o2 + k * 2, none⟩) (World.block_lt_of_cell? w _ hc3)] at hc3
        rw [← hnx.cell (p := ⟨b2, o2 + k * 2 + 1, none⟩) (World.block_lt_of_cell? w _ hc4)] at hc4
        have hneq := neqP_run xs[k] ys[k]
        simp only [encP] at hneq
        clear h1 h2 ha hb
        by_cases hE : xs[k] = ys[k]
        · have hE' : eqP xs[k] ys[k] = true := (eqP_iff _ _).2 hE
          rw [hE'] at hneq
          have HA := Lib.hid (upto_succ hall fun _ _ => hE)
          clear hall hE hE'
          generalize xs[k] = x at *
          generalize ys[k] = y at *
          go_wp2
          go_quiet (fail)
          go_wp2
          go_roundw
          case rel => exact ⟨k + 1, by omega, by go_num, below_drewN hnx _, HA.out⟩
          case measure => simp [intOf]; omega
        · have hE' : eqP xs[k] ys[k] = false := by
            cases he : eqP xs[k] ys[k]
            · rfl
            · exact absurd ((eqP_iff _ _).1 he) hE
          rw [hE'] at hneq
          have HV := Lib.hid (decide_eq_false (ne_at k hlt hlt2 hE))
          clear hall hE hE'
          generalize xs[k] = x at *
          generalize ys[k] = y at *
          go_wp2
          go_quiet (fail)
          go_wp2
          go_ret
          exact ⟨by rw [HV.out]; rfl, below_drewN hnx _⟩
      · obtain rfl : k = xs.length := by omega
        have HV := Lib.hid (decide_eq_true (List.ext_getElem HL.out fun i h1 h2 => hall i h1 h1 h2))
        clear hall
        go_wp2
        go_ret
        exact ⟨by rw [HV.out]; rfl, hnx⟩
  · have hl' : ((xs.length : Int) != (ys.length : Int)) = true := by simp; omega
    have HV := Lib.hid (decide_eq_false (p := xs = ys) fun e => hl (by rw [e]))
    go_enter Tryd.func24, Tryd.ntmps24
    go_wp2
    go_ret
    exact ⟨by rw [HV.out]; rfl, Below.refl _ _⟩

end Go.Proofs.YtdnpfmmkglgnjabDoor
