/-
  An argument of type [][]byte, opened.
-/
import Derived.Test.YtbpniegiaadbeaaDoorBulk
import Derived.Deep.Slices
namespace Go.Proofs.YtbpniegiaadbeaaDoor
open Go.ChangeShapes Go.WideShapes Go.ChangeAt Go.RowKit Go.Deep

theorem bulk_parts {H : Type} (D : Nat → DataW H) (f : Nat → List UInt8) : ∀ (is : List Nat), (∀ i ∈ is, (f i).length + 1 ≤ Rows.uptoBulk (D i)) → (is.map f).flatten.length ≤ Rows.uptoBulkAll (is.map D)
  | [], _ => by simp [Rows.uptoBulkAll]
  | i :: is, h => by
    have h1 := h i (List.mem_cons_self ..)
    have h2 := bulk_parts D f is (fun j hj => h j (List.mem_cons_of_mem _ hj))
    simp only [List.map_cons, List.flatten_cons, List.length_append, Rows.uptoBulkAll]
    omega

theorem cellsBytes : Tryd.prog.cellsOf 23 = 1 := by kernel_rfl

theorem open_parts {H : Type} {enc : TypeId × Value → H} {W : World} {base : Nat} {sp : Nat → Bool} {held : Bool} {fuel : Nat} {a : Option Addr} {len cap : Nat} {x : DataW H × List MemPlace}
    (h : DataW.trod enc Tryd.prog W base sp held fuel 22 [.slice a len cap] = some x) :
    ∃ ls : List (List UInt8), ls.length = len ∧ PartsAt W a ls ∧ (x.1 = .nil ∧ ls = [] ∨ ∃ elems spare, x.1 = .slice elems spare ∧ elems.length = ls.length ∧ ls.flatten.length ≤ Rows.uptoBulkAll elems) := by
  rcases open_slice1 Tryd.underlying22 cellsBytes h with ⟨hcs, hx⟩ | ⟨p, len', cap', m, n, V, D, Pl, hcs, _, hl, hm, hmm, hx, hel⟩
  · simp only [List.cons.injEq, Value.slice.injEq, and_true] at hcs
    obtain ⟨rfl, rfl, rfl⟩ := hcs
    exact ⟨[], rfl, fun h => absurd h (Nat.not_lt_zero _), .inl ⟨by rw [hx], rfl⟩⟩
  · simp only [List.cons.injEq, Value.slice.injEq, and_true] at hcs
    obtain ⟨rfl, rfl, rfl⟩ := hcs
    have hlm : len ≤ m := by split at hmm <;> omega
    obtain ⟨f, hf⟩ : ∃ f : Nat → List UInt8, ∀ i, i < len → SrcAt W (V i) (f i) ∧ (D i = .nil ∧ f i = [] ∨ ∃ elems spare, D i = .slice elems spare ∧ elems.length = (f i).length) :=
      choose_lt (n := len) (p := fun i l => SrcAt W (V i) l ∧ (D i = .nil ∧ l = [] ∨ ∃ elems spare, D i = .slice elems spare ∧ elems.length = l.length)) (fun i hi => by
        obtain ⟨l, h1, h2⟩ := open_bytes (hel i (by omega)).2
        exact ⟨l, h1, h2⟩)
    refine ⟨(List.range len).map f, by simp, fun hpos => ?_, .inr ⟨_, _, by rw [hx], by simp, ?_⟩⟩
    · have hlen : 0 < len := by simpa using hpos
      obtain ⟨b, o, s⟩ := p
      have h0 := (hel 0 (by omega)).1
      obtain rfl : s = none := by simpa [Addr.add] using World.cell?_spot h0
      refine ⟨b, o, rfl, fun i hi => ?_⟩
      have hi2 : i < len := by simpa using hi
      have h1 := (hel i (by omega)).1
      rw [Go.WideShapes.add_plain] at h1
      refine ⟨V i, h1, ?_⟩
      simpa using (hf i hi2).1
    · refine bulk_parts D f (List.range len) (fun i hi => ?_)
      rcases (hf i (by simpa using hi)).2 with ⟨e1, e2⟩ | ⟨elems, spare, e1, e2⟩
      · rw [e1, e2]; simp [Rows.uptoBulk]
      · rw [e1]
        have h1 := bulk_slice elems spare
        have h2 := bulk_len elems
        omega

end Go.Proofs.YtbpniegiaadbeaaDoor
