/-
  The items that are wanted are kept, in place.
-/
import Derived.Test.YtkbonifbnbdbkaaDoorQ4
import Derived.Deep.QuietTactic
import Derived.BigQuiet
namespace Go.Proofs.YtkbonifbnbdbkaaDoor
open Go.RowKit

theorem filterI_next (p : Itm → Bool) (L : List Itm) (j : Nat) (hj : j < L.length) : (L.take (j + 1)).filter p = (L.take j).filter p ++ (if p L[j] then [L[j]] else []) := by
  rw [List.take_succ_eq_append_getElem hj, List.filter_append]
  simp [List.filter]
  split <;> simp_all
/-- The row while the items are gone through: what is kept of the first j, then whatever stood there. -/
def MidI (p : Itm → Bool) (L M : List Itm) (i j : Nat) : Prop := M.length = L.length ∧ i = ((L.take j).filter p).length ∧ M.take i = (L.take j).filter p ∧ M.drop j = L.drop j
section
variable {p : Itm → Bool} {L M : List Itm} {i j : Nat}
theorem MidI.start (p : Itm → Bool) (L : List Itm) : MidI p L L 0 0 := ⟨rfl, by simp, by simp, rfl⟩
theorem MidI.le (h : MidI p L M i j) (hj : j ≤ L.length) : i ≤ j := by
  rw [h.2.1]
  exact Nat.le_trans (List.length_filter_le _ _) (by rw [List.length_take]; omega)
theorem MidI.at (h : MidI p L M i j) (hj : j < L.length) (hm : j < M.length) : M[j] = L[j] := by
  have e := congrArg (fun l => l[0]?) h.2.2.2
  simp only [List.getElem?_drop, Nat.add_zero, List.getElem?_eq_getElem hj, List.getElem?_eq_getElem hm, Option.some.injEq] at e
  exact e
theorem MidI.gone (h : MidI p L M i j) (hj : j < L.length) (hp : p L[j] = false) : MidI p L M i (j + 1) := by
  obtain ⟨h0, h1, h2, h3⟩ := h
  have e := filterI_next p L j hj
  simp only [hp, Bool.false_eq_true, if_false, List.append_nil] at e
  refine ⟨h0, by rw [e]; exact h1, by rw [e]; exact h2, ?_⟩
  rw [← List.drop_drop, h3, List.drop_drop]
theorem MidI.stays (h : MidI p L M i j) (hj : j < L.length) (hp : p L[j] = true) : MidI p L (M.set i L[j]) (i + 1) (j + 1) := by
  have hij := h.le (by omega)
  obtain ⟨h0, h1, h2, h3⟩ := h
  have e := filterI_next p L j hj
  simp only [hp, if_true] at e
  refine ⟨by rw [List.length_set]; exact h0, by rw [e, List.length_append, ← h1]; rfl, ?_, ?_⟩
  · rw [e, List.take_succ_eq_append_getElem (by rw [List.length_set]; omega), List.getElem_set_self, List.take_set_of_le (Nat.le_refl _), h2]
  · rw [List.drop_set_of_lt (by omega), ← List.drop_drop, h3, List.drop_drop]
theorem MidI.end (h : MidI p L M i L.length) : M.take i = L.filter p ∧ (L.filter p).length = i := by
  obtain ⟨h0, h1, h2, -⟩ := h
  rw [List.take_length] at h1 h2
  exact ⟨h2, h1.symm⟩
end
theorem zeroI_one (n : Nat) : ∀ u ∈ (Builtin.zeroCells #[.string ⟨#[]⟩, .int .i64 0, .int .u16 0, .string ⟨#[]⟩, .int .i64 0, .int .i64 0, .int .i64 0] n).toList, u.oneCell' = true := fun u hu => by
  have h5 : ∀ j, j < 7 → (#[Value.string ⟨#[]⟩, .int .i64 0, .int .u16 0, .string ⟨#[]⟩, .int .i64 0, .int .i64 0, .int .i64 0][j]!).oneCell' = true := fun j hj => by
    rcases (by omega : j = 0 ∨ j = 1 ∨ j = 2 ∨ j = 3 ∨ j = 4 ∨ j = 5 ∨ j = 6) with rfl | rfl | rfl | rfl | rfl | rfl | rfl <;> rfl
  simp only [Builtin.zeroCells, Array.toList_map, List.mem_map] at hu
  obtain ⟨i, -, rfl⟩ := hu
  exact h5 _ (Nat.mod_lt _ (by decide))
theorem zeroI_len (n : Nat) : (Builtin.zeroCells #[.string ⟨#[]⟩, .int .i64 0, .int .u16 0, .string ⟨#[]⟩, .int .i64 0, .int .i64 0, .int .i64 0] n).toList.length = n * 7 := by simp [Builtin.zeroCells]
theorem zeroV_item (w : World) : (zeroValue 47).run Tryd.prog w = .ok (.agg #[.string ⟨#[]⟩, .int .i64 0, .int .u16 0, .string ⟨#[]⟩, .int .i64 0, .int .i64 0, .int .i64 0]) w := by kernel_rfl
/-- What stands from a place on is made zero. -/
theorem OwnI.clear {w : World} {B g c : Nat} {L : List Itm} (h : OwnI w B (some ⟨g, 0, none⟩) c L) (k : Nat) (hk : k < L.length) (cc : Nat) :
    ∃ w', (∀ ty, (Builtin.clear_ #[43] ty #[.slice (some ⟨g, k * 7, none⟩) (L.length - k) cc]).run Tryd.prog w = .ok (.tuple #[]) w') ∧ OwnI w' B (some ⟨g, 0, none⟩) c (L.take k) ∧ w.grownBy w' (some g) := by
  rcases h with ⟨e, -⟩ | ⟨g', cur, e, h1, h2, h3, h4, h5, h6⟩
  · cases e
  · simp only [Option.some.injEq, Addr.mk.injEq, and_true] at e
    subst e
    obtain ⟨m, hm⟩ : ∃ m, L.length - k = m + 1 := ⟨L.length - k - 1, by omega⟩
    have hst := run_storeCells_at Tryd.prog g (k * 7) 47 (Builtin.zeroCells #[.string ⟨#[]⟩, .int .i64 0, .int .u16 0, .string ⟨#[]⟩, .int .i64 0, .int .i64 0, .int .i64 0] (L.length - k)).toList 0 cur w h2 (by rw [zeroI_len]; omega) (zeroI_one _)
    have hl : (L.take k).length = k := by rw [List.length_take]; omega
    have hcl : cur.toList.length = cur.size := Array.length_toList
    obtain ⟨R, hR0, hR1, hR2⟩ : ∃ R, (storeCells ⟨g, k * 7, none⟩ (Builtin.zeroCells #[.string ⟨#[]⟩, .int .i64 0, .int .u16 0, .string ⟨#[]⟩, .int .i64 0, .int .i64 0, .int .i64 0] (m + 1)).toList 0).run Tryd.prog w = .ok () (w.setRow g R) ∧ R.size = cur.size ∧ R.toList.take (k * 7) = cellsI (L.take k) := by
      rw [← hm]
      refine ⟨_, hst, ?_, ?_⟩
      · have hz := zeroI_len (L.length - k)
        simp only [Nat.add_zero, List.size_toArray, List.length_append, List.length_take, List.length_drop, hz, hcl]
        omega
      · rw [Nat.add_zero, List.append_assoc]
        simp only
        rw [List.take_append_of_le_length (by rw [List.length_take]; omega), List.take_take, Nat.min_self, ← cellsI_take, ← h6, List.take_take, Nat.min_eq_left (by omega)]
    clear hst
    refine ⟨w.setRow g R, fun ty => ?_, ?_, ⟨rfl, rfl, rfl, by simp, fun k _ hk => setRow_other w g k _ (fun e => hk (by simp [e]))⟩⟩
    · rw [hm]
      have hu := run_underlying (P := Tryd.prog) (t := 43) Tryd.underlying43
      simp [Builtin.clear_, hu, Value.cells, hR0]
    · exact .inr ⟨g, R, rfl, h1, setRow_heap w g cur _ 47 _ h2, by omega, h4, by omega, by rw [hl]; exact hR2⟩

end Go.Proofs.YtkbonifbnbdbkaaDoor
