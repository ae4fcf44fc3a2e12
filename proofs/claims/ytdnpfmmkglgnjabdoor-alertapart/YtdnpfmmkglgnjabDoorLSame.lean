/-
  What Same does: whether two lists of pairs are one.
-/
import Derived.Test.YtdnpfmmkglgnjabDoorLab3
namespace Go.Proofs.YtdnpfmmkglgnjabDoor
open Go.RowKit

def eqP (x y : Pr) : Bool := x.1.toList == y.1.toList && x.2.toList == y.2.toList
theorem eqP_iff (x y : Pr) : eqP x y = true ↔ x = y := by
  unfold eqP
  rw [Bool.and_eq_true, beq_iff_eq, beq_iff_eq, ByteArray.toList_eq, ByteArray.toList_eq, ByteArray.toList_eq, ByteArray.toList_eq]
  constructor
  · rintro ⟨h1, h2⟩
    exact Prod.ext (Go.WideShapes.bytes_inj h1) (Go.WideShapes.bytes_inj h2)
  · rintro rfl
    exact ⟨rfl, rfl⟩
theorem allEq_iff : ∀ (xs ys : List Pr), Lib.allEq eqP xs ys = decide (xs = ys)
  | [], [] => by simp [Lib.allEq]
  | [], _ :: _ => by simp [Lib.allEq]
  | _ :: _, [] => by simp [Lib.allEq]
  | x :: xs, y :: ys => by
    rw [Lib.allEq, allEq_iff xs ys]
    by_cases h : x = y
    · rw [(eqP_iff x y).2 h]
      simp [h]
    · have : eqP x y = false := by
        cases he : eqP x y
        · rfl
        · exact absurd ((eqP_iff x y).1 he) h
      rw [this]
      simp [h]

theorem neqP_run (x y : Pr) (w : World) : (binOp .neq 52 (.agg (encP x).toArray) (.agg (encP y).toArray)).run Tryd.prog w = .ok (.bool (!eqP x y)) w := by
  have u9 := Tryd.underlying9
  have a9 := Tryd.isAgg9
  have z9 := Tryd.sizeOf9
  have hS : Tryd.prog.underlying 52 = some (.struct (Tryd.prog.fieldsOf 52)) := by kernel_rfl
  have hp : Tryd.prog.stoodInHeld 52 = false := by kernel_rfl
  simp only [encP, eqP]
  rw [run_neq_struct, show (10000 : Nat) = 9999 + 1 from rfl, run_equalIn_agg w 9999 52 _ _ hS hp]
  simp only [Program.fieldsOf, Tryd.underlying52]
  go_simp
  by_cases h1 : x.fst.toList = y.fst.toList <;> by_cases h2 : x.snd.toList = y.snd.toList <;> simp [h1, h2]
theorem neqP : NeqAt Tryd.prog 52 (fun x => .agg (encP x).toArray) eqP := ⟨neqP_run, GuardAt.agg _ (by kernel_rfl)⟩

set_option maxHeartbeats 1000000 in
theorem Equal_lens (a b : Option Addr) (n c m d : Nat) (w : World) (hn : n ≠ m) : Calls Tryd.prog 23 #[.slice a n c, .slice b m d] w fun e w' => e = .returned (.bool false) ∧ w' = w := by
  have h1 : ((n : Int) != (m : Int)) = true := by simp; omega
  have h2 : ¬ n = m := hn
  go_enter Tryd.func23, Tryd.ntmps23
  go_wp2
  go_ret
  exact ⟨rfl, rfl⟩

set_option maxHeartbeats 1000000 in
theorem Equal_none (a b : Option Addr) (c d : Nat) (w : World) : Calls Tryd.prog 23 #[.slice a 0 c, .slice b 0 d] w fun e w' => e = .returned (.bool true) ∧ w' = w := by
  go_enter Tryd.func23, Tryd.ntmps23
  go_wp2
  refine wp_loop_rounds 1 ?_
  rw [rounds_succ]
  go_wp2
  go_ret
  exact ⟨rfl, rfl⟩

theorem getElem!_get (xs : List Pr) (j : Nat) (h : j < xs.length) : xs[j]! = xs[j] := getElem!_pos xs j h

theorem pairs_flat {w : World} {b o : Nat} {xs : List Pr} (h : ∀ i (hi : i < xs.length), w.cell? ⟨b, o + i * 2, none⟩ = some (.string xs[i].1) ∧ w.cell? ⟨b, o + i * 2 + 1, none⟩ = some (.string xs[i].2)) :
    ∀ j, j < xs.length → ∀ i v, (encP xs[j]!)[i]? = some v → w.cell? ⟨b, o + j * 2 + i, none⟩ = some v := fun j hj i v hv => by
  rw [getElem!_get xs j hj] at hv
  match i, hv with
  | 0, hv => simp only [encP, List.getElem?_cons_zero, Option.some.injEq] at hv; subst hv; exact (h j hj).1
  | 1, hv => simp only [encP, List.getElem?_cons_succ, List.getElem?_cons_zero, Option.some.injEq] at hv; subst hv; exact (h j hj).2

theorem Equal_any (a b : Option Addr) (c d : Nat) (xs ys : List Pr) (w : World) (ha : PairsAt w a xs) (hb : PairsAt w b ys) (hn : xs.length ≤ 9223372036854775807) :
    Calls Tryd.prog 23 #[.slice a xs.length c, .slice b ys.length d] w fun e w' => e = .returned (.bool (decide (xs = ys))) ∧ ∃ q, w' = w.drewN q := by
  by_cases hl : xs.length = ys.length
  · by_cases hz : 0 < xs.length
    · obtain ⟨b1, o1, rfl, h1⟩ := ha hz
      obtain ⟨b2, o2, rfl, h2⟩ := hb (by omega)
      have hc := AnyQ.slices_Equal Tryd.lEqual 2 Tryd.isAgg52 Tryd.sizeOf52 encP (fun _ => rfl) eqP neqP b1 o1 xs.length c b2 o2 ys.length d xs ys w (Nat.le_refl _) (Nat.le_refl _) hn (by omega) (pairs_flat h1) (pairs_flat h2)
      rw [List.take_length, List.take_length, allEq_iff] at hc
      exact hc
    · obtain rfl := List.eq_nil_of_length_eq_zero (show xs.length = 0 by omega)
      obtain rfl := List.eq_nil_of_length_eq_zero (show ys.length = 0 by simpa using hl.symm)
      exact (Equal_none a b c d w).mono fun e w' ⟨he, hw⟩ => ⟨he, 0, hw⟩
  · have : decide (xs = ys) = false := decide_eq_false fun e => hl (by rw [e])
    rw [this]
    exact (Equal_lens a b _ c _ d w hl).mono fun e w' ⟨he, hw⟩ => ⟨he, 0, hw⟩

set_option maxHeartbeats 1000000 in
theorem Same_any (a b : Option Addr) (c d : Nat) (xs ys : List Pr) (w : World) (ha : PairsAt w a xs) (hb : PairsAt w b ys) (hn : xs.length ≤ 9223372036854775807) (n m : Nat) (hnx : n = xs.length) (hmy : m = ys.length) :
    Calls Tryd.prog 10 #[.slice a n c, .slice b m d] w fun e w' => e = .returned (.bool (decide (xs = ys))) ∧ Below w.heap.size w w' := by
  subst hnx hmy
  have HE := Lib.hid (Equal_any a b c d xs ys w ha hb hn)
  generalize decide (xs = ys) = R at HE ⊢
  clear ha hb
  go_enter Tryd.func10, Tryd.ntmps10
  go_wp2_with (go_at_call 23; refine HE.out.mono ?_; rintro e w1 ⟨rfl, q, rfl⟩)
  go_ret
  exact ⟨rfl, below_drewN (Below.refl _ _) q⟩

end Go.Proofs.YtdnpfmmkglgnjabDoor
