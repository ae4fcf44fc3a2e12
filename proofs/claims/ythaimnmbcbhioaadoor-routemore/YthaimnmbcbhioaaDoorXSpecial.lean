/-
  The document's special bytes.
-/
import Derived.Test.YthaimnmbcbhioaaDoorXPure
import Derived.Test.YthaimnmbcbhioaaDoorXAtom
namespace Go.Proofs.YthaimnmbcbhioaaDoor
open Go.RowKit

theorem spec_mem (c : UInt8) : isSpec c = true ↔ c ∈ specs := by unfold isSpec; simp
set_option maxHeartbeats 1000000 in
theorem refSpecial_any (c : UInt8) (w : World) : Calls Tryd.prog 93 #[.int .u8 c.toNat] w fun e w' => e = .returned (.bool (isSpec c)) ∧ w' = w := by
  cases hs : isSpec c with
  | true =>
    have h := (spec_mem c).1 hs
    clear hs
    simp only [specs, List.mem_cons, List.not_mem_nil, or_false] at h
    rcases h with rfl | rfl | rfl | rfl | rfl | rfl | rfl | rfl | rfl | rfl
    all_goals
      go_enter Tryd.func93, Tryd.ntmps93
      go_wp2
      go_ret
      exact ⟨rfl, rfl⟩
  | false =>
    have h : ∀ d ∈ specs, c ≠ d := fun d hd e => by
      rw [e, (spec_mem d).2 hd] at hs
      cases hs
    clear hs
    have m0 := n8 (z := 40) (h 40 (by decide)) rfl
    have m1 := n8 (z := 41) (h 41 (by decide)) rfl
    have m2 := n8 (z := 91) (h 91 (by decide)) rfl
    have m3 := n8 (z := 93) (h 93 (by decide)) rfl
    have m4 := n8 (z := 124) (h 124 (by decide)) rfl
    have m5 := n8 (z := 42) (h 42 (by decide)) rfl
    have m6 := n8 (z := 43) (h 43 (by decide)) rfl
    have m7 := n8 (z := 63) (h 63 (by decide)) rfl
    have m8 := n8 (z := 46) (h 46 (by decide)) rfl
    have m9 := n8 (z := 92) (h 92 (by decide)) rfl
    clear h
    go_enter Tryd.func93, Tryd.ntmps93
    go_wp2
    go_ret
    exact ⟨rfl, rfl⟩

theorem spec_false {c : UInt8} (h : isSpec c = false) : c ≠ 40 ∧ c ≠ 91 ∧ c ≠ 46 ∧ c ≠ 92 ∧ c ≠ 124 ∧ c ≠ 41 ∧ c ≠ 42 ∧ c ≠ 43 ∧ c ≠ 63 := by
  refine ⟨?_, ?_, ?_, ?_, ?_, ?_, ?_, ?_, ?_⟩ <;> (rintro rfl; revert h; decide)

end Go.Proofs.YthaimnmbcbhioaaDoor
