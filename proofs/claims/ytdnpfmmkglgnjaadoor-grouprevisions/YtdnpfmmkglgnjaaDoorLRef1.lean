/-
  What the reference's Name, parts and Check do: the same answers.
-/
import Derived.Test.YtdnpfmmkglgnjaaDoorLab2
namespace Go.Proofs.YtdnpfmmkglgnjaaDoor
open Go.RowKit

/-- A byte may stand at a place of a name. -/
def Fits (s : ByteArray) (i : Nat) : Prop := LetterN (byteN s i) ∨ (i ≠ 0 ∧ DigitN (byteN s i))

theorem name_fits (s : ByteArray) : NameOk s ↔ (1 ≤ s.size ∧ s.size ≤ 16) ∧ ∀ i, i < s.size → Fits s i := by
  unfold NameOk Fits
  constructor
  · rintro ⟨h, h0, hall⟩
    refine ⟨h, fun i hi => ?_⟩
    rcases hall i hi with hl | hd
    · exact .inl hl
    · exact .inr ⟨fun e => h0 (e ▸ hd), hd⟩
  · rintro ⟨h, hall⟩
    refine ⟨h, fun hd => ?_, fun i hi => (hall i hi).imp id (·.2)⟩
    rcases hall 0 (by omega) with hl | ⟨h0, _⟩
    · unfold LetterN DigitN at *; omega
    · exact h0 rfl

theorem partsE_le (ps : List Pr) : 0 ≤ partsE ps ∧ partsE ps ≤ 6 := by
  unfold partsE
  split
  · omega
  · split
    · omega
    · split <;> omega

end Go.Proofs.YtdnpfmmkglgnjaaDoor
