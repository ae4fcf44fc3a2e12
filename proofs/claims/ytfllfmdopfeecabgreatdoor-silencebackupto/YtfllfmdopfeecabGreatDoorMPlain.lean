/-
  Matchers, plainly: which error one has, and whether labels are as it asks.
-/
import Derived.Test.YtfllfmdopfeecabGreatDoorXMatch
import Derived.Test.YtfllfmdopfeecabGreatDoorLab6
namespace Go.Proofs.YtfllfmdopfeecabGreatDoor

/-- A matcher: its name, its comparison, its value. -/
abbrev Mt := ByteArray × Nat × ByteArray
/-- A text is like a pattern. -/
def likeP (p t : List UInt8) : Prop := ∃ A, pParse p = some A ∧ A t
/-- Which error a matcher has. -/
def mErr (m : Mt) : Int := if ¬ NameOk m.1 then 6 else if 3 < m.2.1 then 2 else if 64 < m.2.2.size then 5 else if 2 ≤ m.2.1 then errE m.2.2.data.toList else 0
/-- What a matcher asks of a value. -/
def mHas (m : Mt) (v : ByteArray) : Prop := (m.2.1 = 0 ∧ v.toList = m.2.2.toList) ∨ (m.2.1 = 1 ∧ v.toList ≠ m.2.2.toList) ∨ (m.2.1 = 2 ∧ likeP m.2.2.data.toList v.data.toList) ∨ (m.2.1 = 3 ∧ ¬ likeP m.2.2.data.toList v.data.toList)
/-- Labels are as a matcher asks. -/
def mAsk (ps : List Pr) (m : Mt) : Prop := mErr m = 0 ∧ mHas m (getV ps m.1.toList)

theorem mErr_zero {m : Mt} (h : mErr m = 0) : NameOk m.1 ∧ m.2.1 ≤ 3 ∧ m.2.2.size ≤ 64 ∧ (2 ≤ m.2.1 → errE m.2.2.data.toList = 0) := by
  unfold mErr at h
  split at h
  · cases h
  · rename_i h1
    split at h
    · cases h
    · split at h
      · cases h
      · refine ⟨Classical.not_not.1 h1, by omega, by omega, fun h2 => ?_⟩
        rw [if_pos h2] at h
        exact h
theorem likeP_of {p : List UInt8} {A : Lang} (h : pParse p = some A) (t : List UInt8) : likeP p t ↔ A t :=
  ⟨fun ⟨B, h1, h2⟩ => by rw [h] at h1; obtain rfl := Option.some.inj h1; exact h2, fun h2 => ⟨A, h, h2⟩⟩

/-- Of a matcher that may be, and the one that asks the contrary, just one is so. -/
def mNot (m : Mt) : Mt := (m.1, m.2.1 ^^^ 1, m.2.2)
theorem xor_one (n : Nat) (h : n ≤ 3) : (n = 0 ∧ n ^^^ 1 = 1) ∨ (n = 1 ∧ n ^^^ 1 = 0) ∨ (n = 2 ∧ n ^^^ 1 = 3) ∨ (n = 3 ∧ n ^^^ 1 = 2) := by
  rcases (by omega : n = 0 ∨ n = 1 ∨ n = 2 ∨ n = 3) with rfl | rfl | rfl | rfl <;> decide
theorem mErr_not {m : Mt} (h : mErr m = 0) : mErr (mNot m) = 0 := by
  obtain ⟨h1, h2, h3, h4⟩ := mErr_zero h
  unfold mErr mNot
  rw [if_neg (Classical.not_not.2 h1)]
  have hx := xor_one m.2.1 h2
  simp only
  rw [if_neg (by omega), if_neg (by omega)]
  split
  · exact h4 (by omega)
  · rfl
theorem mAsk_not {m : Mt} (ps : List Pr) (h : mErr m = 0) : mAsk ps (mNot m) ↔ ¬ mAsk ps m := by
  obtain ⟨-, h2, -, -⟩ := mErr_zero h
  have h5 := mErr_not h
  unfold mAsk
  simp only [h, h5, true_and]
  show mHas (mNot m) (getV ps m.1.toList) ↔ _
  obtain ⟨n, o, v⟩ := m
  simp only at h2
  unfold mHas mNot
  rcases (by omega : o = 0 ∨ o = 1 ∨ o = 2 ∨ o = 3) with rfl | rfl | rfl | rfl <;> simp

end Go.Proofs.YtfllfmdopfeecabGreatDoor
