/-
  What the second form's bound says of the arguments: how many numbers, letters and parts there are at the most.
-/
import Derived.Test.YtbpniegiaadbeaaDoorOpen
import Derived.Test.YtbpniegiaadbeaaDoorParts
namespace Go.Proofs.YtbpniegiaadbeaaDoor
open Go.ChangeShapes Go.WideShapes Go.ChangeAt Go.RowKit Go.Deep

theorem bulk_pos {H : Type} (d : DataW H) : 1 ≤ Rows.uptoBulk d := by
  cases d with
  | lit l => cases l <;> simp [Rows.uptoBulk]
  | _ => simp [Rows.uptoBulk]

theorem bulk_len {H : Type} : ∀ (ds : List (DataW H)), ds.length ≤ Rows.uptoBulkAll ds
  | [] => by simp [Rows.uptoBulkAll]
  | d :: ds => by
    have h1 := bulk_pos d
    have h2 := bulk_len ds
    simp only [Rows.uptoBulkAll, List.length_cons]
    omega

theorem bulk_mem {H : Type} {d : DataW H} : ∀ {ds : List (DataW H)}, d ∈ ds → Rows.uptoBulk d ≤ Rows.uptoBulkAll ds
  | x :: ds, h => by
    simp only [Rows.uptoBulkAll]
    rcases List.mem_cons.1 h with rfl | h
    · omega
    · have := bulk_mem h; omega

theorem bulk_slice {H : Type} (elems spare : List (DataW H)) : Rows.uptoBulkAll elems + 1 ≤ Rows.uptoBulk (.slice elems spare) := by
  simp only [Rows.uptoBulk]; omega

theorem small_bound {H : Type} {ds : List (DataW H)} (h : Rows.uptoSmall H ds = true) : Rows.uptoBulkAll ds ≤ 1048576 := of_decide_eq_true h

theorem slice_bound {H : Type} {ds elems spare : List (DataW H)} (h : Rows.uptoBulkAll ds ≤ 1048576) (hm : DataW.slice elems spare ∈ ds) : elems.length ≤ 1048576 := by
  have h1 := bulk_mem hm
  have h2 := bulk_slice elems spare
  have h3 := bulk_len elems
  omega

theorem string_bound {H : Type} {ds : List (DataW H)} {bs : List UInt8} (h : Rows.uptoBulkAll ds ≤ 1048576) (hm : DataW.lit (.string bs) ∈ ds) : bs.length ≤ 1048576 := by
  have h1 := bulk_mem hm
  simp only [Rows.uptoBulk] at h1
  omega

/-- An argument of type []int64. -/
theorem open_numbers {H : Type} {enc : TypeId × Value → H} {W : World} {base : Nat} {sp : Nat → Bool} {held : Bool} {fuel : Nat} {a : Option Addr} {len cap : Nat} {x : DataW H × List MemPlace}
    (h : DataW.trod enc Tryd.prog W base sp held fuel 43 [.slice a len cap] = some x) :
    ∃ zs : List Int, zs.length = len ∧ IntsAt W a zs ∧ (∀ z ∈ zs, -9223372036854775808 ≤ z ∧ z ≤ 9223372036854775807) ∧ (x.1 = .nil ∧ zs = [] ∨ ∃ elems spare, x.1 = .slice elems spare ∧ elems.length = zs.length) := by
  rcases open_ints Tryd.underlying43 Tryd.underlying2 (by kernel_rfl) h with ⟨hcs, hx⟩ | ⟨p, len', cap', zs, hcs, _, hl, hm, hz, hx, hcell, hwz⟩
  · simp only [List.cons.injEq, Value.slice.injEq, and_true] at hcs
    obtain ⟨rfl, rfl, rfl⟩ := hcs
    exact ⟨[], rfl, fun i hi => absurd hi (Nat.not_lt_zero _), (fun z hz => by cases hz), .inl ⟨by rw [hx], rfl⟩⟩
  · simp only [List.cons.injEq, Value.slice.injEq, and_true] at hcs
    obtain ⟨rfl, rfl, rfl⟩ := hcs
    have hlen : len ≤ zs.length := by split at hz <;> omega
    refine ⟨zs.take len, by simp; omega, fun i hi => ?_, fun z hz1 => ?_, .inr ⟨_, _, by rw [hx], by simp [lits]⟩⟩
    · have hi2 : i < len := by simp at hi; omega
      obtain ⟨b, o, s⟩ := p
      have h0 := hcell 0 (by omega)
      obtain rfl : s = none := by simpa [Addr.add] using World.cell?_spot h0
      have h1 := hcell i (by omega)
      rw [Go.WideShapes.add_plain] at h1
      refine ⟨b, o, rfl, ?_⟩
      rw [h1]
      simp [List.getD, show i < zs.length by omega]
    · have hw := hwz z (List.mem_of_mem_take hz1)
      have h1 : IntKind.i64.min = -9223372036854775808 := rfl
      have h2 : IntKind.i64.max = 9223372036854775807 := rfl
      simp only [Lit.wf, Bool.and_eq_true, decide_eq_true_eq] at hw
      omega

theorem i64_bounds {z : Int} (hw : (Lit.int .i64 z).wf = true) : -9223372036854775808 ≤ z ∧ z ≤ 9223372036854775807 := by
  have h1 : IntKind.i64.min = -9223372036854775808 := rfl
  have h2 : IntKind.i64.max = 9223372036854775807 := rfl
  simp only [Lit.wf, Bool.and_eq_true, decide_eq_true_eq] at hw
  omega

end Go.Proofs.YtbpniegiaadbeaaDoor
