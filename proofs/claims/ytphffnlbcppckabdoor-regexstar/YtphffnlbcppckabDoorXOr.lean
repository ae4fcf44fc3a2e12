/-
  The walk of RegexOr.
-/
import Derived.Test.YtphffnlbcppckabDoorXPure2
import Derived.Test.YtphffnlbcppckabDoorXAwake
namespace Go.Proofs.YtphffnlbcppckabDoor
open Go.RowKit

/-- What Like tells: the pattern's error, and, where there is none, whether the text is like it. -/
def LikeSays (s t : List UInt8) (e : Ending) : Prop := ∃ b : Bool, e = .returned (.tuple #[.bool b, .int .i64 (errE s)]) ∧ ∀ A, errE s = 0 → pParse s = some A → (b = true ↔ A t)
theorem like_any (s t : ByteArray) (w : World) (htab : TabW w) (hts : t.size ≤ 9223372036854775807) : Calls Tryd.prog 8 #[.string s, .string t] w fun e w' => LikeSays s.data.toList t.data.toList e ∧ Below w.heap.size w w' := by
  by_cases he : errE s.data.toList = 0
  · obtain ⟨hl, A, hA⟩ := errE_zero he
    refine (like_good s t w (by simpa using hl) htab A hA hts).mono fun e w' ⟨⟨b, h1, h2⟩, h3⟩ => ⟨⟨b, by rw [he]; exact h1, fun A' _ hA' => ?_⟩, h3⟩
    obtain rfl := Option.some.inj (hA.symm.trans hA')
    exact h2
  · exact (like_err s t w htab he).mono fun e w' ⟨h1, h2⟩ => ⟨⟨false, h1, fun A h0 => absurd h0 he⟩, h2⟩

theorem ba_size (a : Array UInt8) : (ByteArray.mk a).size = a.size := rfl
theorem app_list (a b : ByteArray) : (a ++ b).data.toList = a.data.toList ++ b.data.toList := by simp

end Go.Proofs.YtphffnlbcppckabDoor
