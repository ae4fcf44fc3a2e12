/-
  The second form's bounds for an entry and for bytes.
-/
import Derived.Test.YtfllfmdopfeecaaDoorEOpen
import Derived.Test.YtfllfmdopfeecaaDoorBulk
namespace Go.Proofs.YtfllfmdopfeecaaDoor
open Go.RowKit

theorem small_entry {H : Type} {ds : List (DataW H)} (h : Rows.uptoBulkAll ds ≤ 1048576) {x : Ent} (hm : datE x ∈ ds) : x.k.size ≤ 1048576 ∧ x.v.size ≤ 1048576 := by
  have h1 := bulk_mem hm
  simp only [datE, Rows.uptoBulk, Rows.uptoBulkAll] at h1
  have h2 : x.v.data.toList.length = x.v.size := rfl
  have h3 : x.k.data.toList.length = x.k.size := rfl
  omega
theorem small_bytes {H : Type} {ds : List (DataW H)} (h : Rows.uptoBulkAll ds ≤ 1048576) {d : DataW H} (hm : d ∈ ds) {l : List UInt8} (hd : d = .nil ∧ l = [] ∨ ∃ elems spare, d = .slice elems spare ∧ elems.length = l.length) : l.length ≤ 1048576 := by
  rcases hd with ⟨-, rfl⟩ | ⟨elems, spare, rfl, hl⟩
  · simp
  · have := slice_bound h hm
    omega

end Go.Proofs.YtfllfmdopfeecaaDoor
