/-
  Lists of a copy, put in one by one. Copy of package route.
-/
import Derived.Test.YthaimnmbcbhioaaDoorRCopyT
namespace Go.Proofs.YthaimnmbcbhioaaDoor
open Go.RowKit

theorem flat_set {α : Type} {enc : α → List Value} {k : Nat} (hk : ∀ x, (enc x).length = k) : ∀ (l : List α) (i : Nat) (hi : i < l.length) (j : Nat) (y : α) (v : Value), j < k → enc y = (enc l[i]).set j v → (l.flatMap enc).set (i * k + j) v = (l.set i y).flatMap enc
  | x :: l, 0, _, j, y, v, hj, he => by
    rw [List.set_cons_zero, List.flatMap_cons, List.flatMap_cons, Nat.zero_mul, Nat.zero_add, List.set_append_left _ _ (by rw [hk]; exact hj)]
    rw [he]
    rfl
  | x :: l, i + 1, hi, j, y, v, hj, he => by
    have := flat_set hk l i (by simpa using hi) j y v hj (by simpa using he)
    rw [List.set_cons_succ, List.flatMap_cons, List.flatMap_cons, List.set_append_right _ _ (by rw [hk, Nat.succ_mul]; omega), show (i + 1) * k + j - (enc x).length = i * k + j by rw [hk, Nat.succ_mul]; omega, this]
/-- What a call leaves alone, as a row. -/
theorem Below.kept {w w' : World} (hb : Below w.heap.size w w') (row : Option Nat) : w.grownBy w' row := ⟨hb.os, hb.tape, hb.output, hb.size, fun k hk _ => hb.block k hk⟩
theorem own_keep {w w' : World} {B : Nat} {e : TypeId} {size n : Nat} {v : Value} {xs : List Value} (h : w.ownsRow B e size v n xs) (hb : Below w.heap.size w w') : w'.ownsRow B e size v n xs := h.kept (Below.kept hb none) (by cases v.ownBlock <;> simp)
theorem OwnLists.below {w w' : World} {B : Nat} {row : Option Nat} {r : Rt} (h : OwnLists w B row r) (hb : Below w.heap.size w w') : OwnLists w' B row r := h.grown (Below.kept hb row) (.inl rfl)
theorem OwnListsL.below {w w' : World} {B : Nat} {row : Option Nat} {r : Rl} (h : OwnListsL w B row r) (hb : Below w.heap.size w w') : OwnListsL w' B row r := h.grown (Below.kept hb row) (.inl rfl)
/-- What a list lies in may be written to. -/
def Fr (w : World) (a : Option Addr) : Prop := ∀ ad, a = some ad → ∃ cs t, w.heap[ad.block]? = some (.cells cs t (0, 0))
theorem Fr.of {w : World} {B : Nat} {e : TypeId} {size n : Nat} {a : Option Addr} {c : Nat} {xs : List Value} (h : w.ownsRow B e size (.slice a n c) n xs) : Fr w a := fun ad he => by
  rcases h.2 with ⟨h0, -⟩ | ⟨g, cap, cur, h0, -, hg, -⟩
  · simp only [Value.slice.injEq] at h0
    rw [h0.1] at he
    cases he
  · simp only [Value.slice.injEq, true_and] at h0
    rw [h0.1] at he
    injection he with he
    rw [← he]
    exact ⟨_, _, hg⟩
theorem Fr.grown {w w' : World} {row : Option Nat} {a : Option Addr} (h : Fr w a) (hg : w.grownBy w' row) (hne : ∀ ad, a = some ad → row ≠ some ad.block) : Fr w' a := fun ad e => by
  obtain ⟨cs, t, hb⟩ := h ad e
  exact ⟨cs, t, (hg.block _ (lt_of_block hb) (fun x => hne ad e x.symm)).trans hb⟩
theorem Fr.below {w w' : World} {a : Option Addr} (h : Fr w a) (hb : Below w.heap.size w w') : Fr w' a := h.grown (Below.kept hb none) (fun _ _ e => by cases e)
theorem Fr.set {w : World} {a : Option Addr} (h : Fr w a) (b j : Nat) (v : Value) : Fr (w.setCell ⟨b, j, none⟩ v) a := fun ad e => by
  obtain ⟨cs, t, hb⟩ := h ad e
  by_cases hp : ad.block = b
  · rw [hp] at hb ⊢
    refine ⟨cs.setIfInBounds j v, t, ?_⟩
    simp [World.setCell, Array.getElem?_modify, hb]
  · exact ⟨cs, t, (Below.heap_setCell w ⟨b, j, none⟩ v _ hp).trans hb⟩
def FrR (w : World) (r : Rt) : Prop := Fr w r.ma ∧ Fr w r.ba
def FrL (w : World) (r : Rl) : Prop := Fr w r.ea
/-- A copy of routes of which the first k have lists of their own. -/
def MixR (w : World) (B g n cap : Nat) (l L : List Rt) (k : Nat) : Prop := L.map nrm = l.map nrm ∧ L.length = n ∧ w.ownsRow B 33 8 (.slice (some ⟨g, 0, none⟩) n cap) n (L.flatMap encR) ∧ (∀ i (hi : i < L.length) (_ : i < k), OwnLists w B (some g) L[i]) ∧ ∀ i (hi : i < L.length) (hi' : i < l.length), k ≤ i → L[i] = l[i]
theorem mixR_step {w u1 u3 : World} {B g n cap : Nat} {l L : List Rt} {k : Nat} {a1 : Option Addr} {c1 : Nat} {a3 : Option Addr} {c3 : Nat} (h : MixR w B g n cap l L k) (hk : k < l.length)
    (q1 : Below w.heap.size w u1) (m1 : LstM u1 w.heap.size a1 c1 l[k].ms) (q3 : Below (u1.setCell ⟨g, k * 8 + 1, none⟩ (.slice a1 l[k].ms.length c1)).heap.size (u1.setCell ⟨g, k * 8 + 1, none⟩ (.slice a1 l[k].ms.length c1)) u3) (m3 : LstS u3 (u1.setCell ⟨g, k * 8 + 1, none⟩ (.slice a1 l[k].ms.length c1)).heap.size a3 c3 l[k].bys) :
    MixR (u3.setCell ⟨g, k * 8 + 3, none⟩ (.slice a3 l[k].bys.length c3)) B g n cap l (L.set k { l[k] with ma := a1, mc := c1, ba := a3, bc := c3 }) (k + 1) := by
  obtain ⟨h1, h2, h3, h4, h5⟩ := h
  have hLl : L.length = l.length := by simpa using congrArg List.length h1
  have hkL : k < L.length := by omega
  have hg := h3.lt g rfl
  have o1 := own_keep h3 q1
  obtain ⟨o2, g2⟩ := World.ownsRow.stored o1 (k * 8 + 1) (.slice a1 l[k].ms.length c1)
  rw [flat_set encR_len L k hkL 1 { l[k] with ma := a1, mc := c1 } _ (by decide) (by rw [h5 k hkL hk (Nat.le_refl _)]; rfl)] at o2
  have o3 := own_keep o2 q3
  obtain ⟨o4, g4⟩ := World.ownsRow.stored o3 (k * 8 + 3) (.slice a3 l[k].bys.length c3)
  rw [flat_set encR_len _ k (by rw [List.length_set]; exact hkL) 3 { l[k] with ma := a1, mc := c1, ba := a3, bc := c3 } _ (by decide) (by rw [List.getElem_set_self]; rfl), List.set_set] at o4
  have sz2 : (u1.setCell ⟨g, k * 8 + 1, none⟩ (.slice a1 l[k].ms.length c1)).heap.size = u1.heap.size := size_set _ _ _
  have sz4 : (u3.setCell ⟨g, k * 8 + 3, none⟩ (.slice a3 l[k].bys.length c3)).heap.size = u3.heap.size := size_set _ _ _
  have ap1 : Apart u1 B (some g) a1 := fun ad e => ⟨by have := (m1.2.2 ad e).1; omega, (m1.2.2 ad e).2, fun x => by injection x with x; have := (m1.2.2 ad e).1; omega⟩
  have hq1 := q1.size
  have hq3 := q3.size
  have ap3 : Apart u3 B (some g) a3 := fun ad e => ⟨by have := (m3.2.2.2 ad e).1; omega, (m3.2.2.2 ad e).2, fun x => by injection x with x; have := (m3.2.2.2 ad e).1; omega⟩
  have t2 : MtsAt (u1.setCell ⟨g, k * 8 + 1, none⟩ (.slice a1 l[k].ms.length c1)) a1 l[k].ms := m1.1.grown g2 ap1
  have ap2 : Apart (u1.setCell ⟨g, k * 8 + 1, none⟩ (.slice a1 l[k].ms.length c1)) B (some g) a1 := ap1.grown g2 (.inl rfl)
  have t3 : MtsAt u3 a1 l[k].ms := t2.below q3 (Nat.le_refl _)
  have ap2' : Apart u3 B (some g) a1 := ap2.grown (Below.kept q3 _) (.inl rfl)
  refine ⟨?_, by rw [List.length_set]; exact h2, o4, fun i hi hik => ?_, fun i hi hi' hki => ?_⟩
  · refine List.ext_getElem (by simp [hLl]) fun i x1 x2 => ?_
    simp only [List.length_map, List.length_set] at x1 x2
    rw [List.getElem_map, List.getElem_map, List.getElem_set]
    split
    · rename_i e
      subst e
      rfl
    · have := congrArg (fun q : List Rt => q[i]?) h1
      simpa [x1, x2] using this
  · rw [List.length_set] at hi
    rw [List.getElem_set]
    split
    · rename_i e
      exact ⟨⟨t3.grown g4 ap2', m1.2.1, ap2'.grown g4 (.inl rfl)⟩, m3.1.grown g4 ap3, m3.2.1, m3.2.2.1, ap3.grown g4 (.inl rfl)⟩
    · rename_i e
      exact ((((h4 i hi (by omega)).below q1).grown g2 (.inl rfl)).below q3).grown g4 (.inl rfl)
  · rw [List.length_set] at hi
    rw [List.getElem_set_ne (by omega)]
    exact h5 i hi hi' (by omega)
/-- A copy of rules of which the first k have lists of their own. -/
def MixL (w : World) (B g n cap : Nat) (l L : List Rl) (k : Nat) : Prop := L.map nrmL = l.map nrmL ∧ L.length = n ∧ w.ownsRow B 38 3 (.slice (some ⟨g, 0, none⟩) n cap) n (L.flatMap encL) ∧ (∀ i (hi : i < L.length) (_ : i < k), OwnListsL w B (some g) L[i]) ∧ ∀ i (hi : i < L.length) (hi' : i < l.length), k ≤ i → L[i] = l[i]
theorem mixL_step {w u1 u3 u5 : World} {B g n cap : Nat} {l L : List Rl} {k : Nat} {a1 : Option Addr} {c1 : Nat} {a3 : Option Addr} {c3 : Nat} {a5 : Option Addr} {c5 : Nat} (h : MixL w B g n cap l L k) (hk : k < l.length)
    (q1 : Below w.heap.size w u1) (m1 : LstM u1 w.heap.size a1 c1 l[k].src) (q3 : Below (u1.setCell ⟨g, k * 3, none⟩ (.slice a1 l[k].src.length c1)).heap.size (u1.setCell ⟨g, k * 3, none⟩ (.slice a1 l[k].src.length c1)) u3) (m3 : LstM u3 (u1.setCell ⟨g, k * 3, none⟩ (.slice a1 l[k].src.length c1)).heap.size a3 c3 l[k].tgt)
    (q5 : Below (u3.setCell ⟨g, k * 3 + 1, none⟩ (.slice a3 l[k].tgt.length c3)).heap.size (u3.setCell ⟨g, k * 3 + 1, none⟩ (.slice a3 l[k].tgt.length c3)) u5) (m5 : LstS u5 (u3.setCell ⟨g, k * 3 + 1, none⟩ (.slice a3 l[k].tgt.length c3)).heap.size a5 c5 l[k].eqs) :
    MixL (u5.setCell ⟨g, k * 3 + 2, none⟩ (.slice a5 l[k].eqs.length c5)) B g n cap l (L.set k { l[k] with sa := a1, sc := c1, ta := a3, tc := c3, ea := a5, ec := c5 }) (k + 1) := by
  obtain ⟨h1, h2, h3, h4, h5⟩ := h
  have hLl : L.length = l.length := by simpa using congrArg List.length h1
  have hkL : k < L.length := by omega
  have hg := h3.lt g rfl
  have o1 := own_keep h3 q1
  obtain ⟨o2, g2⟩ := World.ownsRow.stored o1 (k * 3) (.slice a1 l[k].src.length c1)
  have e0 := flat_set encL_len L k hkL 0 { l[k] with sa := a1, sc := c1 } (.slice a1 l[k].src.length c1) (by decide) (by rw [h5 k hkL hk (Nat.le_refl _)]; rfl)
  rw [Nat.add_zero] at e0
  rw [e0] at o2
  have o3 := own_keep o2 q3
  obtain ⟨o4, g4⟩ := World.ownsRow.stored o3 (k * 3 + 1) (.slice a3 l[k].tgt.length c3)
  rw [flat_set encL_len _ k (by rw [List.length_set]; exact hkL) 1 { l[k] with sa := a1, sc := c1, ta := a3, tc := c3 } _ (by decide) (by rw [List.getElem_set_self]; rfl), List.set_set] at o4
  have o5 := own_keep o4 q5
  obtain ⟨o6, g6⟩ := World.ownsRow.stored o5 (k * 3 + 2) (.slice a5 l[k].eqs.length c5)
  rw [flat_set encL_len _ k (by rw [List.length_set]; exact hkL) 2 { l[k] with sa := a1, sc := c1, ta := a3, tc := c3, ea := a5, ec := c5 } _ (by decide) (by rw [List.getElem_set_self]; rfl), List.set_set] at o6
  have sz2 : (u1.setCell ⟨g, k * 3, none⟩ (.slice a1 l[k].src.length c1)).heap.size = u1.heap.size := size_set _ _ _
  have sz4 : (u3.setCell ⟨g, k * 3 + 1, none⟩ (.slice a3 l[k].tgt.length c3)).heap.size = u3.heap.size := size_set _ _ _
  have hq1 := q1.size
  have hq3 := q3.size
  have hq5 := q5.size
  have ap1 : Apart u1 B (some g) a1 := fun ad e => ⟨by have := (m1.2.2 ad e).1; omega, (m1.2.2 ad e).2, fun x => by injection x with x; have := (m1.2.2 ad e).1; omega⟩
  have ap3 : Apart u3 B (some g) a3 := fun ad e => ⟨by have := (m3.2.2 ad e).1; omega, (m3.2.2 ad e).2, fun x => by injection x with x; have := (m3.2.2 ad e).1; omega⟩
  have ap5 : Apart u5 B (some g) a5 := fun ad e => ⟨by have := (m5.2.2.2 ad e).1; omega, (m5.2.2.2 ad e).2, fun x => by injection x with x; have := (m5.2.2.2 ad e).1; omega⟩
  have t2 := m1.1.grown g2 ap1
  have b2 := ap1.grown g2 (.inl rfl)
  have t3 := t2.below q3 (Nat.le_refl _)
  have b3 := b2.grown (Below.kept q3 _) (.inl rfl)
  have t4 := t3.grown g4 b3
  have b4 := b3.grown g4 (.inl rfl)
  have t5 := t4.below q5 (Nat.le_refl _)
  have b5 := b4.grown (Below.kept q5 _) (.inl rfl)
  have s4 := m3.1.grown g4 ap3
  have p4 := ap3.grown g4 (.inl rfl)
  have s5 := s4.below q5 (Nat.le_refl _)
  have p5 := p4.grown (Below.kept q5 _) (.inl rfl)
  refine ⟨?_, by rw [List.length_set]; exact h2, o6, fun i hi hik => ?_, fun i hi hi' hki => ?_⟩
  · refine List.ext_getElem (by simp [hLl]) fun i x1 x2 => ?_
    simp only [List.length_map, List.length_set] at x1 x2
    rw [List.getElem_map, List.getElem_map, List.getElem_set]
    split
    · rename_i e
      subst e
      rfl
    · have := congrArg (fun q : List Rl => q[i]?) h1
      simpa [x1, x2] using this
  · rw [List.length_set] at hi
    rw [List.getElem_set]
    split
    · exact ⟨⟨t5.grown g6 b5, m1.2.1, b5.grown g6 (.inl rfl)⟩, ⟨s5.grown g6 p5, m3.2.1, p5.grown g6 (.inl rfl)⟩, m5.1.grown g6 ap5, m5.2.1, m5.2.2.1, ap5.grown g6 (.inl rfl)⟩
    · rename_i e
      exact ((((((h4 i hi (by omega)).below q1).grown g2 (.inl rfl)).below q3).grown g4 (.inl rfl)).below q5).grown g6 (.inl rfl)
  · rw [List.length_set] at hi
    rw [List.getElem_set_ne (by omega)]
    exact h5 i hi hi' (by omega)

end Go.Proofs.YthaimnmbcbhioaaDoor
