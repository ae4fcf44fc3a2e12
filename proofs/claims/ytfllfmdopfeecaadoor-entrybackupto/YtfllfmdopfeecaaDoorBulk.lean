/-
  What the second form's bound says of the arguments: how many numbers, letters and parts there are at the most.
-/
import Derived.Test.YtfllfmdopfeecaaDoorOpen
namespace Go.Proofs.YtfllfmdopfeecaaDoor
open Go.ChangeShapes Go.WideShapes Go.ChangeAt Go.RowKit Go.Deep

theorem bulk_pos {H : Type} (d : DataW H) : 1 ≤ Rows.uptoBulk d := by
  cases d with
  | lit l => cases l <;> simp [Rows.uptoBulk]
  | _ => simp [Rows.uptoBulk]

theorem bulk_len {H : Type} : ∀ (ds : List (DataW H)), ds.length ≤ Rows.uptoBulkAll ds
  | [] => by simp [Rows.uptoBulkAll]
  | d :: ds => by
    have h1 := bulk_pos d
    have h2 := bulk_len ds
    simp only [Rows.uptoBulkAll, List.length_cons]
    omega

theorem bulk_mem {H : Type} {d : DataW H} : ∀ {ds : List (DataW H)}, d ∈ ds → Rows.uptoBulk d ≤ Rows.uptoBulkAll ds
  | x :: ds, h => by
    simp only [Rows.uptoBulkAll]
    rcases List.mem_cons.1 h with rfl | h
    · omega
    · have := bulk_mem h; omega

theorem bulk_slice {H : Type} (elems spare : List (DataW H)) : Rows.uptoBulkAll elems + 1 ≤ Rows.uptoBulk (.slice elems spare) := by
  simp only [Rows.uptoBulk]; omega

theorem small_bound {H : Type} {ds : List (DataW H)} (h : Rows.uptoSmall H ds = true) : Rows.uptoBulkAll ds ≤ 1048576 := of_decide_eq_true h

theorem slice_bound {H : Type} {ds elems spare : List (DataW H)} (h : Rows.uptoBulkAll ds ≤ 1048576) (hm : DataW.slice elems spare ∈ ds) : elems.length ≤ 1048576 := by
  have h1 := bulk_mem hm
  have h2 := bulk_slice elems spare
  have h3 := bulk_len elems
  omega

theorem string_bound {H : Type} {ds : List (DataW H)} {bs : List UInt8} (h : Rows.uptoBulkAll ds ≤ 1048576) (hm : DataW.lit (.string bs) ∈ ds) : bs.length ≤ 1048576 := by
  have h1 := bulk_mem hm
  simp only [Rows.uptoBulk] at h1
  omega

theorem i64_bounds {z : Int} (hw : (Lit.int .i64 z).wf = true) : -9223372036854775808 ≤ z ∧ z ≤ 9223372036854775807 := by
  have h1 : IntKind.i64.min = -9223372036854775808 := rfl
  have h2 : IntKind.i64.max = 9223372036854775807 := rfl
  simp only [Lit.wf, Bool.and_eq_true, decide_eq_true_eq] at hw
  omega

end Go.Proofs.YtfllfmdopfeecaaDoor
