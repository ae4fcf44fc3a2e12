/-
  The walk of CrdtLattice.
-/
import Derived.Test.YtkbonifbnbdbkabC7
namespace Go.Proofs.Ytkbonifbnbdbkab
open Go.RowKit Go.Maps

theorem CAt.apart2 {w w' : World} {sb bm bx : Nat} {S T : List Ent} (h : CAt w sb bm S) (hx : CMap w bx T) (hg : w.grownBy w' (some bx)) (h2 : bm ≠ bx) : CAt w' sb bm S :=
  h.apart hg (fun e => by
    obtain ⟨es, clock, hb, -⟩ := hx
    have h1 := h.1
    unfold CmBlk at h1
    rw [e, hb] at h1
    cases h1) h2

/-- What the maps of three lists are. -/
theorem lattice_pure (a b c : List Ent) (ha : a.length ≤ 80) (hb : b.length ≤ 80) (hc : c.length ≤ 80) :
    mergeS (mergeS (mergeS [] a) (mergeS [] b)) (mergeS [] c) = mergeS (mergeS [] a) (mergeS (mergeS [] b) (mergeS [] c)) ∧
    (mergeN (mergeS (mergeS (mergeS [] a) (mergeS [] b)) (mergeS [] c)) (mergeS (mergeS (mergeS [] a) (mergeS [] b)) (mergeS [] c)) = 0 ∧ mergeS (mergeS (mergeS (mergeS [] a) (mergeS [] b)) (mergeS [] c)) (mergeS (mergeS (mergeS [] a) (mergeS [] b)) (mergeS [] c)) = mergeS (mergeS (mergeS [] a) (mergeS [] b)) (mergeS [] c)) ∧
    (mergeN (mergeS (mergeS (mergeS [] a) (mergeS [] b)) (mergeS [] c)) a = 0 ∧ mergeS (mergeS (mergeS (mergeS [] a) (mergeS [] b)) (mergeS [] c)) a = mergeS (mergeS (mergeS [] a) (mergeS [] b)) (mergeS [] c)) := by
  have hU : (a ++ (b ++ c)).length ≤ 256 := by simp; omega
  have sa : ∀ y ∈ a, y ∈ a ++ (b ++ c) := fun y hy => by simp [hy]
  have sb : ∀ y ∈ b, y ∈ a ++ (b ++ c) := fun y hy => by simp [hy]
  have sc : ∀ y ∈ c, y ∈ a ++ (b ++ c) := fun y hy => by simp [hy]
  have hA := best_of hU sa
  have hB := best_of hU sb
  have hC := best_of hU sc
  have hAB := best_merge hU (mergeS [] b) _ _ hA (fun y hy => sa y hy.1) (fun y hy => sb y (hB.2.1 y hy).1)
  have hBC := best_merge hU (mergeS [] c) _ _ hB (fun y hy => sb y hy.1) (fun y hy => sc y (hC.2.1 y hy).1)
  have sAB : ∀ y, (y ∈ a ∧ checkEn y = 0 ∨ y ∈ mergeS [] b ∧ checkEn y = 0) → y ∈ a ++ (b ++ c) := fun y hy => hy.elim (fun h => sa y h.1) (fun h => sb y (hB.2.1 y h.1).1)
  have sBC : ∀ y, (y ∈ b ∧ checkEn y = 0 ∨ y ∈ mergeS [] c ∧ checkEn y = 0) → y ∈ a ++ (b ++ c) := fun y hy => hy.elim (fun h => sb y h.1) (fun h => sc y (hC.2.1 y h.1).1)
  have hL := best_merge hU (mergeS [] c) _ _ hAB sAB (fun y hy => sc y (hC.2.1 y hy).1)
  have hR := best_merge hU (mergeS (mergeS [] b) (mergeS [] c)) _ _ hA (fun y hy => sa y hy.1) (fun y hy => sBC y (hBC.2.1 y hy))
  generalize hX : mergeS (mergeS (mergeS [] a) (mergeS [] b)) (mergeS [] c) = X at *
  generalize hY : mergeS (mergeS [] a) (mergeS (mergeS [] b) (mergeS [] c)) = Y at *
  -- what the left one has is told on the right, or dominated there
  have dom : ∀ y, (y ∈ a ∨ y ∈ b ∨ y ∈ c) → checkEn y = 0 → (∃ x ∈ X, x.key = y.key ∧ aboveE y x = false) ∧ (∃ x ∈ Y, x.key = y.key ∧ aboveE y x = false) := fun y hy hk => by
    rcases hy with hy | hy | hy
    · exact ⟨hL.2.2 y (.inl (.inl ⟨hy, hk⟩)), hR.2.2 y (.inl ⟨hy, hk⟩)⟩
    · obtain ⟨z, hz, e, az⟩ := hB.2.2 y ⟨hy, hk⟩
      have kz := (hB.2.1 z hz).2
      constructor
      · obtain ⟨x, hx, e2, a2⟩ := hL.2.2 z (.inl (.inr ⟨hz, kz⟩))
        exact ⟨x, hx, e2.trans e, nabove_trans e.symm e2.symm az a2⟩
      · obtain ⟨u, hu, e3, a3⟩ := hBC.2.2 z (.inl ⟨(hB.2.1 z hz).1, kz⟩)
        have ku : checkEn u = 0 := (hBC.2.1 u hu).elim (fun h => h.2) (fun h => h.2)
        obtain ⟨x, hx, e2, a2⟩ := hR.2.2 u (.inr ⟨hu, ku⟩)
        exact ⟨x, hx, e2.trans (e3.trans e), nabove_trans e.symm (e3.symm.trans e2.symm) az (nabove_trans e3.symm e2.symm a3 a2)⟩
    · obtain ⟨z, hz, e, az⟩ := hC.2.2 y ⟨hy, hk⟩
      have kz := (hC.2.1 z hz).2
      constructor
      · obtain ⟨x, hx, e2, a2⟩ := hL.2.2 z (.inr ⟨hz, kz⟩)
        exact ⟨x, hx, e2.trans e, nabove_trans e.symm e2.symm az a2⟩
      · obtain ⟨u, hu, e3, a3⟩ := hBC.2.2 z (.inr ⟨hz, kz⟩)
        have ku : checkEn u = 0 := (hBC.2.1 u hu).elim (fun h => h.2) (fun h => h.2)
        obtain ⟨x, hx, e2, a2⟩ := hR.2.2 u (.inr ⟨hu, ku⟩)
        exact ⟨x, hx, e2.trans (e3.trans e), nabove_trans e.symm (e3.symm.trans e2.symm) az (nabove_trans e3.symm e2.symm a3 a2)⟩
  have inX : ∀ x ∈ X, (x ∈ a ∨ x ∈ b ∨ x ∈ c) ∧ checkEn x = 0 := fun x hx => by
    rcases hL.2.1 x hx with (h | h) | h
    · exact ⟨.inl h.1, h.2⟩
    · exact ⟨.inr (.inl (hB.2.1 x h.1).1), h.2⟩
    · exact ⟨.inr (.inr (hC.2.1 x h.1).1), h.2⟩
  have inY : ∀ x ∈ Y, (x ∈ a ∨ x ∈ b ∨ x ∈ c) ∧ checkEn x = 0 := fun x hx => by
    rcases hR.2.1 x hx with h | ⟨h, k⟩
    · exact ⟨.inl h.1, h.2⟩
    · rcases hBC.2.1 x h with h | h
      · exact ⟨.inr (.inl h.1), k⟩
      · exact ⟨.inr (.inr (hC.2.1 x h.1).1), k⟩
  have bX : Best (fun y => (y ∈ a ∨ y ∈ b ∨ y ∈ c) ∧ checkEn y = 0) X := ⟨hL.1, inX, fun y hy => (dom y hy.1 hy.2).1⟩
  have bY : Best (fun y => (y ∈ a ∨ y ∈ b ∨ y ∈ c) ∧ checkEn y = 0) Y := ⟨hR.1, inY, fun y hy => (dom y hy.1 hy.2).2⟩
  refine ⟨best_same bX bY fun x => Iff.rfl, mergeN_zero X X fun y hy => stays_of bX (inX y hy), mergeN_zero a X fun y hy => ?_⟩
  by_cases hk : checkEn y = 0
  · exact stays_of bX ⟨.inl hy, hk⟩
  · exact bad_stays hk

end Go.Proofs.Ytkbonifbnbdbkab
