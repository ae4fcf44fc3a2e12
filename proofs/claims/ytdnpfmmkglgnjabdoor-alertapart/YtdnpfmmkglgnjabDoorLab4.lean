/-
  What slices.Clone and slices.SortFunc do at pairs; the function value that compares two pairs by their names.
-/
import Derived.Test.YtdnpfmmkglgnjabDoorLab3

namespace Go.Proofs.YtdnpfmmkglgnjabDoor
open Go.RowKit

/- Clone -/
set_option maxHeartbeats 1000000 in
theorem Clone_zero (q : Addr) (c : Nat) (w : World) :
    Calls Tryd.prog 35 #[.slice (some q) 0 c] w fun e w' => ∃ v, e = .returned v ∧ OwnP w' w.heap.size v [] ∧ Below w.heap.size w w' := by
  obtain ⟨i0, hi, hz0, hz1, hz2⟩ := info_parts infoPair
  have q22 : ∀ (w : World) (a : Option Addr) (n c n' c' : Nat), (binOp .eql 23 (.slice a n c) (.slice none n' c')).run Tryd.prog w = .ok (.bool a.isNone) w := fun w a n c n' c' => Lib.run_eql_slice_nil w _ _ a n c n' c' Tryd.underlying23
  go_enter Tryd.func35, Tryd.ntmps35
  go_wp2_with (at_builtin; refine wpList_append_own _ rfl _ _ 23 rfl w.heap.size 52 i0 _ 2 32 Tryd.underlying23 hi hz0 hz1 hz2 rfl (by decide) _ _ _ rfl (World.ownsRow_made w #[] 0 (Nat.le_refl _) (Nat.zero_le _) (by simp)) q 0 c [] rfl rfl (fun j u hj => by simp at hj) (fun u hu => by simp at hu) (by unfold maxLen; omega) (by omega) (by simp) ?_)
  intro v' w1 hown hgrow hnil
  go_wp2
  go_ret
  refine ⟨v', rfl, hown, ?_⟩
  exact ((Below.refl w.heap.size w).alloc (Nat.le_refl _) _).grown hgrow (by simp) (fun j hj => by simp [Value.ownBlock] at hj; omega)

theorem Clone_any (a : Option Addr) (c : Nat) (ps : List Pr) (w : World) (h : PairsAt w a ps) (hn : ps.length ≤ 4398046511103) :
    Calls Tryd.prog 35 #[.slice a ps.length c] w fun e w' => ∃ v, e = .returned v ∧ OwnP w' w.heap.size v ps ∧ Below w.heap.size w w' := by
  cases a with
  | none =>
    have h0 : ps.length = 0 := by
      by_cases hp : 0 < ps.length
      · obtain ⟨b, o, he, -⟩ := h hp
        cases he
      · omega
    obtain rfl := List.eq_nil_of_length_eq_zero h0
    exact (AnyE.slices_Clone_nil Tryd.lClone 0 c w).mono fun e w' ⟨he, hw⟩ => ⟨_, he, World.ownsRow_nil w' w.heap.size 52 2, by rw [hw]; exact Below.refl _ _⟩
  | some q =>
    by_cases hp : 0 < ps.length
    · obtain ⟨b, o, he, hc⟩ := h hp
      obtain rfl := Option.some.inj he
      obtain ⟨i0, hi, hz0, hz1, hz2⟩ := info_parts infoPair
      refine (AnyE.slices_Clone Tryd.lClone i0 _ 2 32 hi hz0 hz1 hz2 rfl (by decide) Tryd.sizeOf52 b o ps.length c (cellsP ps) w (cellsP_len ps) (by unfold maxLen; omega) (by omega) (PairsAt.cells hc) (cellsP_one ps)).mono ?_
      rintro e w' ⟨v, he, hown, -, hb⟩
      exact ⟨v, he, hown, hb⟩
    · obtain rfl := List.eq_nil_of_length_eq_zero (show ps.length = 0 by omega)
      exact Clone_zero q c w


end Go.Proofs.YtdnpfmmkglgnjabDoor
