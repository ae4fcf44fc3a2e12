/-
  The walk of RegexBoth.
-/
import Derived.Test.YtphffnlbcppckabDoorXOr
namespace Go.Proofs.YtphffnlbcppckabDoor
open Go.RowKit

theorem extract_list (t : ByteArray) (i j : Nat) : (t.extract i j).data.toList = (t.data.toList.drop i).take (j - i) := by
  rw [ByteArray.data_extract, Array.toList_extract]
theorem extract_pre (t : ByteArray) (k : Nat) : (t.extract 0 k).data.toList = t.data.toList.take k := by rw [extract_list]; simp
theorem extract_post (t : ByteArray) (k : Nat) : (t.extract k t.size).data.toList = t.data.toList.drop k := by
  rw [extract_list]
  exact List.take_of_length_le (by simp)
theorem some_more {A B : Lang} {l : List UInt8} {k : Nat} {b c : Bool} (h : b = true ↔ ∃ j, j < k ∧ A (l.take j) ∧ B (l.drop j)) (hc : c = true ↔ b = true ∨ (A (l.take k) ∧ B (l.drop k))) : c = true ↔ ∃ j, j < k + 1 ∧ A (l.take j) ∧ B (l.drop j) := by
  rw [hc, h]
  constructor
  · rintro (⟨j, h1, h2⟩ | h2)
    · exact ⟨j, by omega, h2⟩
    · exact ⟨k, by omega, h2⟩
  · rintro ⟨j, h1, h2⟩
    by_cases e : j = k
    · subst e; exact .inr h2
    · exact .inl ⟨j, by omega, h2⟩
theorem cat_cut {A B : Lang} {l : List UInt8} : catL A B l ↔ ∃ j, j < l.length + 1 ∧ A (l.take j) ∧ B (l.drop j) := by
  constructor
  · rintro ⟨u, v, rfl, h1, h2⟩
    exact ⟨u.length, by simp; omega, by simpa using h1, by simpa using h2⟩
  · rintro ⟨j, -, h1, h2⟩
    exact ⟨l.take j, l.drop j, (List.take_append_drop j l).symm, h1, h2⟩

theorem comp_ok (s : ByteArray) (w : World) (htab : TabW w) (he : errE s.data.toList = 0) (A : Lang) (hA : pParse s.data.toList = some A) :
    Calls Tryd.prog 6 #[.string s] w fun e w' => ∃ xb, e = .returned (.tuple #[.pointer (some ⟨xb, 0, none⟩), .int .i64 0]) ∧ PatAt w' xb A ∧ Below w.heap.size w w' :=
  comp_good s w (by simpa using (errE_zero he).1) htab A hA

end Go.Proofs.YtphffnlbcppckabDoor
