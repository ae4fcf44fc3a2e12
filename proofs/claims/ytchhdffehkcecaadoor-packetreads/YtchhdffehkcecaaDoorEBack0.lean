/-
  Entries, plainly: one that is laid is read again, and what is read was laid so.
-/
import Derived.Test.YtchhdffehkcecaaDoorERead
namespace Go.Proofs.YtchhdffehkcecaaDoor
open Go.RowKit

theorem readEn_of {l l0 l1 l2 l3 l4 l5 l6 s1 s4 : List UInt8} {e0 e1 e2 e3 e4 e5 e6 z2 z3 z5 : Int} (h0 : byteE 108 0 l = (l0, e0)) (h1 : textE 9223372036854775807 e0 l0 = (l1, e1, s1)) (h2 : intE e1 l1 = (l2, e2, z2)) (h3 : intE e2 l2 = (l3, e3, z3)) (h4 : textE 9223372036854775807 e3 l3 = (l4, e4, s4)) (h5 : intE e4 l4 = (l5, e5, z5)) (h6 : byteE 101 e5 l5 = (l6, e6)) :
    readEn l = ((if e6 ≠ 0 ∨ z3 < 0 ∨ 65535 < z3 then zeroE else if checkEn ⟨⟨s1.toArray⟩, z2, z3, ⟨s4.toArray⟩, z5⟩ ≠ 0 then zeroE else ⟨⟨s1.toArray⟩, z2, z3, ⟨s4.toArray⟩, z5⟩), l6, e6) := by
  simp only [readEn, h0, h1, h2, h3, h4, h5, h6]
theorem putEn_eq (x : Ent) : putEn x = 108 :: (putText x.k.data.toList ++ (putInt x.t ++ (putInt x.o ++ (putText x.v.data.toList ++ (putInt x.u ++ [101]))))) := by simp [putEn, partsE9, putList]
theorem read_putEn (x : Ent) (hx : x.Ok) (hk : x.k.size ≤ 1000000000) (hv : x.v.size ≤ 1000000000) : readEn (putEn x) = ((if checkEn x ≠ 0 then zeroE else x), [], 0) := by
  have n1 : x.k.data.toList.length = x.k.size := rfl
  have n2 : x.v.data.toList.length = x.v.size := rfl
  have h0 : byteE 108 0 (putEn x) = (putText x.k.data.toList ++ (putInt x.t ++ (putInt x.o ++ (putText x.v.data.toList ++ (putInt x.u ++ [101])))), 0) := by rw [putEn_eq]; simp [byteE, rdByte]
  have h1 : textE 9223372036854775807 0 (putText x.k.data.toList ++ (putInt x.t ++ (putInt x.o ++ (putText x.v.data.toList ++ (putInt x.u ++ [101]))))) = (putInt x.t ++ (putInt x.o ++ (putText x.v.data.toList ++ (putInt x.u ++ [101]))), 0, x.k.data.toList) := read_putText _ (by omega) _ (by omega) _
  have h2 : intE 0 (putInt x.t ++ (putInt x.o ++ (putText x.v.data.toList ++ (putInt x.u ++ [101])))) = (putInt x.o ++ (putText x.v.data.toList ++ (putInt x.u ++ [101])), 0, x.t) := read_putInt _ hx.1.1 hx.1.2 _
  have h3 : intE 0 (putInt x.o ++ (putText x.v.data.toList ++ (putInt x.u ++ [101]))) = (putText x.v.data.toList ++ (putInt x.u ++ [101]), 0, x.o) := read_putInt _ (by have := hx.2.1; omega) (by have := hx.2.1; omega) _
  have h4 : textE 9223372036854775807 0 (putText x.v.data.toList ++ (putInt x.u ++ [101])) = (putInt x.u ++ [101], 0, x.v.data.toList) := read_putText _ (by omega) _ (by omega) _
  have h5 : intE 0 (putInt x.u ++ [101]) = ([101], 0, x.u) := read_putInt _ hx.2.2.1 hx.2.2.2 _
  have h6 : byteE 101 0 [101] = ([], 0) := by simp [byteE, rdByte]
  rw [readEn_of h0 h1 h2 h3 h4 h5 h6, if_neg (by have := hx.2.1; simp only [ne_eq, not_true, false_or]; omega)]
theorem byteE_laid {ch : UInt8} {e : Int} {l l1 : List UInt8} (h : byteE ch e l = (l1, 0)) : e = 0 ∧ l = ch :: l1 := by
  unfold byteE at h
  split at h
  · rename_i h0
    refine ⟨h0, ?_⟩
    cases l with
    | nil => simp [rdByte] at h
    | cons x l =>
      simp only [rdByte] at h
      split at h
      · rename_i hx
        simp only [Prod.mk.injEq, and_true] at h
        rw [hx, h]
      · simp at h
  · rename_i h0
    simp only [Prod.mk.injEq] at h
    exact absurd h.2 h0
theorem textE_laid {most e : Int} {l l1 s : List UInt8} (h : textE most e l = (l1, 0, s)) : e = 0 ∧ l = putText s ++ l1 := by
  unfold textE at h
  split at h
  · rename_i h0
    exact ⟨h0, rdText_laid h⟩
  · rename_i h0
    simp only [Prod.mk.injEq] at h
    exact absurd h.2.1 h0
theorem intE_laid {e : Int} {l l1 : List UInt8} {n : Int} (h : intE e l = (l1, 0, n)) : e = 0 ∧ l = putInt n ++ l1 := by
  unfold intE at h
  split at h
  · rename_i h0
    exact ⟨h0, rdInt_laid h⟩
  · rename_i h0
    simp only [Prod.mk.injEq] at h
    exact absurd h.2.1 h0
theorem checkEn_zero {x : Ent} (h : checkEn x = 0) : (1 ≤ x.k.size ∧ x.k.size ≤ 1024 ∧ x.v.size ≤ 8192) ∧ 0 ≤ x.t ∧ x.t ≤ 1099511627776 ∧ x.t ≤ x.u ∧ x.u ≤ 1099511627776 := by
  unfold checkEn at h
  split at h
  · cases h
  · split at h
    · cases h
    · exact ⟨⟨by omega, by omega, by omega⟩, by omega, by omega, by omega, by omega⟩
/-- What is read, and is no zero entry, was laid so. -/
theorem readEn_laid {l : List UInt8} : (readEn l).1 = zeroE ∨ ((readEn l).2.2 = 0 ∧ checkEn (readEn l).1 = 0 ∧ (readEn l).1.Ok ∧ l = putEn (readEn l).1 ++ (readEn l).2.1) := by
  rcases h0 : byteE 108 0 l with ⟨l0, e0⟩
  rcases h1 : textE 9223372036854775807 e0 l0 with ⟨l1, e1, s1⟩
  rcases h2 : intE e1 l1 with ⟨l2, e2, z2⟩
  rcases h3 : intE e2 l2 with ⟨l3, e3, z3⟩
  rcases h4 : textE 9223372036854775807 e3 l3 with ⟨l4, e4, s4⟩
  rcases h5 : intE e4 l4 with ⟨l5, e5, z5⟩
  rcases h6 : byteE 101 e5 l5 with ⟨l6, e6⟩
  rw [readEn_of h0 h1 h2 h3 h4 h5 h6]
  dsimp only
  by_cases hA : e6 ≠ 0 ∨ z3 < 0 ∨ 65535 < z3
  · rw [if_pos hA]; exact .inl rfl
  rw [if_neg hA]
  by_cases hC : checkEn ⟨⟨s1.toArray⟩, z2, z3, ⟨s4.toArray⟩, z5⟩ = 0
  · rw [if_neg (by simpa using hC)]
    have h60 : e6 = 0 := Classical.byContradiction fun h => hA (.inl h)
    subst h60
    obtain ⟨rfl, q5⟩ := byteE_laid h6
    obtain ⟨rfl, q4⟩ := intE_laid h5
    obtain ⟨rfl, q3⟩ := textE_laid h4
    obtain ⟨rfl, q2⟩ := intE_laid h3
    obtain ⟨rfl, q1⟩ := intE_laid h2
    obtain ⟨rfl, q0⟩ := textE_laid h1
    obtain ⟨-, q⟩ := byteE_laid h0
    have hz := checkEn_zero hC
    dsimp only at hz
    refine .inr ⟨rfl, hC, ⟨⟨by dsimp only; omega, by dsimp only; omega⟩, ⟨by dsimp only; omega, by dsimp only; omega⟩, by dsimp only; omega, by dsimp only; omega⟩, ?_⟩
    rw [putEn_eq, q, q0, q1, q2, q3, q4, q5]
    simp
  · rw [if_pos hC]; exact .inl rfl

end Go.Proofs.YtchhdffehkcecaaDoor
