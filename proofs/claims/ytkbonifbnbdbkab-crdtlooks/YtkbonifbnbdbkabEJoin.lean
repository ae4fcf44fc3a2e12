/-
  All orders of a region lead to one goal: what is left of it is said once.
-/
import Derived.Test.YtkbonifbnbdbkabE2
namespace Go.Proofs.Ytkbonifbnbdbkab
open Go.RowKit

section
variable {P : Program} {ops : Array Oper} {Q Q' : Exit → Act → World → Prop}
theorem opwp_monoQ (hQ : ∀ e a w, Q e a w → Q' e a w) {o : Oper} {a : Act} {w : World} {K : Act → World → Prop} (hh : o.wp P a w K Q) : o.wp P a w K Q' := by
  unfold Oper.wp at *
  generalize (execOp a.eval o).run P w = r at *
  cases r with
  | ok n w' =>
    cases n <;> simp only [Oper.upon] at hh ⊢ <;>
      first
        | exact hh
        | exact Calls.mono hh (fun e w'' he => by
            cases e with
            | returned v => exact he
            | panicked c => exact hQ _ _ _ he
            | outgrown => exact he.elim fun a h => h.elim fun w h => ⟨a, w, hQ _ _ _ h⟩)
  | halt x w' => cases x <;> simp only [Oper.upon] at hh ⊢ <;> first | exact hQ _ _ _ hh | exact hh
theorem wpOp_monoQ (hQ : ∀ e a w, Q e a w → Q' e a w) {i : Nat} {a : Act} {w : World} {K : Act → World → Prop} (hh : wpOp P ops Q i K a w) : wpOp P ops Q' i K a w := by
  unfold wpOp at *
  split
  · simpa [*] using hh
  · rename_i o ho
    simp only [ho] at hh
    split
    · rename_i hw
      simp only [hw, if_true] at hh
      exact hh.imp (opwp_monoQ hQ) (fun h => ⟨h.1, h.2.elim fun a h => h.elim fun w h => ⟨a, w, hQ _ _ _ h⟩⟩)
    · rename_i hw
      simp only [hw] at hh
      exact hh
theorem wpAnyH_monoQ {md : Region.Mode} {S : World → Prop} (hQ : ∀ e a w, Q e a w → Q' e a w) : ∀ (fuel : Nat) (listed : Array Bool) (a : Act) (w : World), wpAnyH P md ops Q S fuel listed a w → wpAnyH P md ops Q' S fuel listed a w
  | 0, _, _, _, h => ⟨h.1, hQ _ _ _ h.2⟩
  | fuel + 1, _, _, _, h => ⟨fun hr => hQ _ _ _ (h.1 hr), fun i hi => wpOp_monoQ hQ (wpOp_mono (fun a' w' h' => ⟨h'.1, wpAnyH_monoQ hQ fuel _ a' w' h'.2⟩) (h.2 i hi))⟩
/-- What every order of a region ends in. -/
def Ends (A : Nat → Nat → Act) (F : Nat → Nat → World → Prop) : Exit → Act → World → Prop := fun e a w => e = .normal ∧ ∃ b b', a = A b b' ∧ F b b' w
theorem wpAnyH_join {md : Region.Mode} {S : World → Prop} {fuel : Nat} {listed : Array Bool} {a : Act} {w : World} (F : Nat → Nat → World → Prop) (A : Nat → Nat → Act)
    (hR : wpAnyH P md ops (Ends A F) S fuel listed a w) (hT : ∀ b b' w, F b b' w → Q .normal (A b b') w) : wpAnyH P md ops Q S fuel listed a w :=
  wpAnyH_monoQ (fun e a w h => by
    obtain ⟨rfl, b, b', rfl, hF⟩ := h
    exact hT b b' w hF) fuel listed a w hR
end

end Go.Proofs.Ytkbonifbnbdbkab
