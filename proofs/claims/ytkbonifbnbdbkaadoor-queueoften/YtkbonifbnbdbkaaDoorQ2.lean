/-
  Items stored into a row, and appended to it.
-/
import Derived.Test.YtkbonifbnbdbkaaDoorQ1
namespace Go.Proofs.YtkbonifbnbdbkaaDoor
open Go.RowKit

theorem list_put (A : List Value) (o m : Nat) (vs : List Value) (hm : o + vs.length ≤ m) (hA : m ≤ A.length) : (A.take o ++ vs ++ A.drop (o + vs.length)).take m = (A.take m).take o ++ vs ++ (A.take m).drop (o + vs.length) := by
  have h1 : (A.take o ++ vs).length = o + vs.length := by rw [List.length_append, List.length_take]; omega
  rw [List.take_append, List.take_of_length_le (by omega), h1, List.take_take, Nat.min_eq_left (by omega), List.drop_take]
theorem cellsI_set5 : ∀ (L : List Itm) (k : Nat) (hk : k < L.length) (s : Int), (cellsI L).set (k * 7 + 5) (.int .i64 s) = cellsI (L.set k ⟨L[k].e, s, L[k].q⟩)
  | p :: r, 0, _, s => rfl
  | p :: r, k + 1, hk, s => by
    have ih := cellsI_set5 r k (by simpa using hk) s
    have e0 : (k + 1) * 7 + 5 = (k * 7 + 5) + 1 + 1 + 1 + 1 + 1 + 1 + 1 := by omega
    have e : ∀ (p : Itm) (r : List Itm), cellsI (p :: r) = .string p.e.k :: .int .i64 p.e.t :: .int .u16 p.e.o :: .string p.e.v :: .int .i64 p.e.u :: .int .i64 p.s :: .int .i64 p.q :: cellsI r := fun _ _ => rfl
    rw [e, e0]
    simp only [List.set_cons_succ]
    rw [ih, e]
    rfl
section
variable {w : World} {B c g : Nat} {L : List Itm}
/-- How often an item was sent, turned in its row. -/
theorem OwnI.sent (h : OwnI w B (some ⟨g, 0, none⟩) c L) (k : Nat) (hk : k < L.length) (s : Int) :
    OwnI (w.setCell ⟨g, k * 7 + 5, none⟩ (.int .i64 s)) B (some ⟨g, 0, none⟩) c (L.set k ⟨L[k].e, s, L[k].q⟩) ∧ w.grownBy (w.setCell ⟨g, k * 7 + 5, none⟩ (.int .i64 s)) (some g) := by
  refine ⟨?_, ⟨rfl, rfl, rfl, by simp [World.setCell], fun j _ hj => Below.heap_setCell w _ _ _ (fun e => hj (by rw [e]))⟩⟩
  rcases h with ⟨e, -⟩ | ⟨g', cur, e, h1, h2, h3, h4, h5, h6⟩
  · cases e
  · simp only [Option.some.injEq, Addr.mk.injEq, and_true] at e
    subst e
    refine .inr ⟨g, cur.setIfInBounds (k * 7 + 5) (.int .i64 s), rfl, h1, ?_, by rw [List.length_set]; exact h3, h4, by simpa using h5, ?_⟩
    · simp [World.setCell, Array.getElem?_modify, h2]
    · rw [List.length_set, ← cellsI_set5 L k hk s, ← h6, Array.toList_setIfInBounds, List.take_set]
/-- An item stored by append ahead of the row's end. -/
theorem OwnI.putAt (h : OwnI w B (some ⟨g, 0, none⟩) c L) (k : Nat) (hk : k < L.length) (y : Itm) (ad : Addr) (hnews : ∀ j u, (encI y)[j]? = some u → w.cell? (ad.add j) = some u) (sc : Nat) (hsc : k + 1 ≤ sc) (cc : Nat) (ty : TypeId) :
    ∃ w', (Builtin.append_ #[43, 43] ty #[.slice (some ⟨g, 0, none⟩) k sc, .slice (some ad) 1 cc]).run Tryd.prog w = .ok (.slice (some ⟨g, 0, none⟩) (k + 1) sc) w' ∧ OwnI w' B (some ⟨g, 0, none⟩) c (L.set k y) ∧ w.grownBy w' (some g) := by
  obtain ⟨i0, hi, hi0, hi1, hi2⟩ := info_parts infoIt
  rcases h with ⟨e, -⟩ | ⟨g', cur, e, h1, h2, h3, h4, h5, h6⟩
  · cases e
  · simp only [Option.some.injEq, Addr.mk.injEq, and_true] at e
    subst e
    have hr := run_append_room (P := Tryd.prog) w 43 ty 47 i0 Tryd.underlying43 hi g k sc cur h2 ad 1 cc (encI y) (by rw [hi1]; rfl) hnews (fun u hu => cellsI_one [y] u (by simpa [cellsI] using hu)) hsc (by rw [hi1, encI_len]; omega)
    rw [hi1, encI_len] at hr
    refine ⟨_, hr, .inr ⟨g, _, rfl, h1, setRow_heap w g cur _ 47 _ h2, by rw [List.length_set]; exact h3, h4, ?_, ?_⟩, ⟨rfl, rfl, rfl, by simp, fun j _ hj => setRow_other w g j _ (fun e => hj (by simp [e]))⟩⟩
    · simp only [List.size_toArray, List.length_append, List.length_take, List.length_drop, Array.length_toList, encI_len]
      omega
    · rw [List.length_set]
      show (cur.toList.take (k * 7) ++ encI y ++ cur.toList.drop (k * 7 + (encI y).length)).take (L.length * 7) = _
      rw [list_put _ _ _ _ (by rw [encI_len]; omega) (by have hcl : cur.toList.length = cur.size := Array.length_toList; omega), h6, encI_len, cellsI_put L k hk y]
/-- An item more, where there is room. -/
theorem OwnI.pushAt (h : OwnI w B (some ⟨g, 0, none⟩) c L) (hk : L.length < c) (y : Itm) (ad : Addr) (hnews : ∀ j u, (encI y)[j]? = some u → w.cell? (ad.add j) = some u) (cc : Nat) (ty : TypeId) :
    ∃ w', (Builtin.append_ #[43, 43] ty #[.slice (some ⟨g, 0, none⟩) L.length c, .slice (some ad) 1 cc]).run Tryd.prog w = .ok (.slice (some ⟨g, 0, none⟩) (L.length + 1) c) w' ∧ OwnI w' B (some ⟨g, 0, none⟩) c (L ++ [y]) ∧ w.grownBy w' (some g) := by
  obtain ⟨i0, hi, hi0, hi1, hi2⟩ := info_parts infoIt
  rcases h with ⟨e, -⟩ | ⟨g', cur, e, h1, h2, h3, h4, h5, h6⟩
  · cases e
  · simp only [Option.some.injEq, Addr.mk.injEq, and_true] at e
    subst e
    have hr := run_append_room (P := Tryd.prog) w 43 ty 47 i0 Tryd.underlying43 hi g L.length c cur h2 ad 1 cc (encI y) (by rw [hi1]; rfl) hnews (fun u hu => cellsI_one [y] u (by simpa [cellsI] using hu)) hk (by rw [hi1, encI_len]; omega)
    rw [hi1, encI_len] at hr
    refine ⟨_, hr, .inr ⟨g, _, rfl, h1, setRow_heap w g cur _ 47 _ h2, by rw [List.length_append]; exact hk, h4, ?_, ?_⟩, ⟨rfl, rfl, rfl, by simp, fun j _ hj => setRow_other w g j _ (fun e => hj (by simp [e]))⟩⟩
    · simp only [List.size_toArray, List.length_append, List.length_take, List.length_drop, Array.length_toList, encI_len]
      omega
    · show (cur.toList.take (L.length * 7) ++ encI y ++ cur.toList.drop (L.length * 7 + 7)).take ((L ++ [y]).length * 7) = _
      have e7 : ((L ++ [y]).length) * 7 = (cur.toList.take (L.length * 7) ++ encI y).length := by
        have hcl : cur.toList.length = cur.size := Array.length_toList
        rw [List.length_append, List.length_append, List.length_take, encI_len]
        simp only [List.length_cons, List.length_nil]
        omega
      rw [e7, List.take_left, h6, cellsI_append]
      simp [cellsI]
end
/-- A row of the call's own is one of these. -/
theorem OwnI.ofRow {w : World} {B n : Nat} {v : Value} {L : List Itm} (h : w.ownsRow B 47 7 v n (cellsI L)) (hn : 0 < n) : ∃ g c, v = .slice (some ⟨g, 0, none⟩) n c ∧ OwnI w B (some ⟨g, 0, none⟩) c L ∧ L.length = n := by
  have hl := h.1
  rw [cellsI_len] at hl
  rcases h.2 with ⟨rfl, h0⟩ | ⟨g, cap, cur, rfl, hb, hg, hnc, hcm, hcs, htk⟩
  · omega
  · exact ⟨g, cap, rfl, .inr ⟨g, cur, rfl, hb, hg, by omega, hcm, by omega, by rw [show L.length = n by omega]; exact htk⟩, by omega⟩
/-- Where no room is, a new row is made. -/
theorem OwnI.grow {w : World} {B c : Nat} {a : Option Addr} {L : List Itm} (h : OwnI w B a c L) (hc : c = L.length) (hl : L.length ≤ 1000000) (y : Itm) (ad : Addr) (hnews : ∀ j u, (encI y)[j]? = some u → w.cell? (ad.add j) = some u) (cc : Nat) (ty : TypeId) :
    ∃ g c' w', (Builtin.append_ #[43, 43] ty #[.slice a L.length c, .slice (some ad) 1 cc]).run Tryd.prog w = .ok (.slice (some ⟨g, 0, none⟩) (L.length + 1) c') w' ∧ OwnI w' w.heap.size (some ⟨g, 0, none⟩) c' (L ++ [y]) ∧ w.grownBy w' none := by
  obtain ⟨i0, hi, hi0, hi1, hi2⟩ := info_parts infoIt
  have h1 : ∀ u ∈ encI y, u.oneCell' = true := fun u hu => cellsI_one [y] u (by simpa [cellsI] using hu)
  rcases h with ⟨rfl, rfl, rfl⟩ | ⟨g, cur, rfl, k1, k2, k3, k4, k5, k6⟩
  · obtain ⟨v', w', hr, hrow, hg, -⟩ := run_append_own_at (P := Tryd.prog) w w.heap.size 43 ty 47 i0 _ 7 72 Tryd.underlying43 hi hi0 hi1 hi2 rfl (by decide) (.slice none 0 0) 0 [] (World.ownsRow_nil _ _ _ _) ad 1 cc (encI y) rfl hnews h1 (by unfold maxLen; omega) (by omega) (Nat.le_refl _)
    obtain ⟨g, c', rfl, ho, -⟩ := OwnI.ofRow (L := [y]) (n := 0 + 1) (by simpa [cellsI] using hrow) (by omega)
    exact ⟨g, c', w', hr, ho, by simpa [Value.ownBlock] using hg⟩
  · obtain ⟨v', w', hr, hrow, hg⟩ := run_append_arg_grows (P := Tryd.prog) w 43 ty 47 i0 _ 7 72 Tryd.underlying43 hi hi0 hi1 hi2 rfl (by decide) ⟨g, 0, none⟩ L.length c (cellsI L) (cellsI_len L) (fun j u hj => by
      have hlt := (List.getElem?_eq_some_iff.1 hj).1
      rw [cellsI_len] at hlt
      have h0 : OwnI w B (some ⟨g, 0, none⟩) c L := .inr ⟨g, cur, rfl, k1, k2, k3, k4, k5, k6⟩
      rw [Go.WideShapes.add_plain, Nat.zero_add, h0.cellAt j hlt]
      exact hj) ad 1 cc (encI y) rfl hnews (by omega) (by unfold maxLen; omega) (by omega)
    have e : cellsI L ++ encI y = cellsI (L ++ [y]) := by rw [cellsI_append]; simp [cellsI]
    rw [e] at hrow
    obtain ⟨g', c', rfl, ho, -⟩ := OwnI.ofRow hrow (by omega)
    exact ⟨g', c', w', hr, ho, hg⟩
/-- An item more. -/
theorem OwnI.push {w : World} {B c : Nat} {a : Option Addr} {L : List Itm} (h : OwnI w B a c L) (hB : B ≤ w.heap.size) (hl : L.length ≤ 1000000) (y : Itm) (ad : Addr) (hnews : ∀ j u, (encI y)[j]? = some u → w.cell? (ad.add j) = some u) (cc n : Nat) (hn : n = L.length) (ty : TypeId) :
    ∃ a' c' w', (Builtin.append_ #[43, 43] ty #[.slice a n c, .slice (some ad) 1 cc]).run Tryd.prog w = .ok (.slice a' (n + 1) c') w' ∧ OwnI w' B a' c' (L ++ [y]) ∧ w.grownBy w' (a.map (·.block)) ∧ ∀ q, a' = some q → a = some q ∨ w.heap.size ≤ q.block := by
  subst hn
  by_cases hc : L.length < c
  · rcases h with ⟨-, rfl, rfl⟩ | ⟨g, cur, rfl, k1⟩
    · cases hc
    · obtain ⟨w', h1, h2, h3⟩ := OwnI.pushAt (.inr ⟨g, cur, rfl, k1⟩) hc y ad hnews cc ty
      exact ⟨_, _, w', h1, h2, h3, fun q e => .inl e⟩
  · have hcap := h.cap
    obtain ⟨g, c', w', h1, h2, h3⟩ := h.grow (by omega) hl y ad hnews cc ty
    refine ⟨_, _, w', h1, h2.base hB, ⟨h3.os, h3.tape, h3.output, h3.size, fun k hk _ => h3.block k hk (by simp)⟩, fun q e => .inr (h2.lt q e).1⟩

end Go.Proofs.YtkbonifbnbdbkaaDoor
