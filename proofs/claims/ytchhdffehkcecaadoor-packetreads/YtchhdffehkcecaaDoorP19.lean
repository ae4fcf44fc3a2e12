/-
  The reference's Read: what it reads of the bytes of a packet, and what it holds.
-/
import Derived.Test.YtchhdffehkcecaaDoorP18
import Derived.Test.YtchhdffehkcecaaDoorPMore
namespace Go.Proofs.YtchhdffehkcecaaDoor
open Go Go.RowKit

/-- What stands behind the head, and behind the members. -/
def tailE (P : Pk) : List UInt8 := putList (P.es.map putEn) ++ [101]
def tailM (P : Pk) : List UInt8 := putList (P.ms.map layM) ++ tailE P
theorem lay_parts (P : Pk) : layPk P = 108 :: (putInt P.k ++ (putInt P.f ++ (putInt P.a ++ (putInt P.q ++ tailM P)))) := by simp [layPk, partsPk, putList, tailM, tailE]
theorem tailM_eq (P : Pk) : tailM P = 108 :: ((P.ms.map layM).flatten ++ 101 :: tailE P) := by simp [tailM, putList]
theorem tailE_eq (P : Pk) : tailE P = 108 :: ((P.es.map putEn).flatten ++ [101, 101]) := by simp [tailE, putList]
theorem readOk_lay {b : List UInt8} (h : readOk b) : b = 108 :: (putInt (rdPk b).k ++ (putInt (rdPk b).f ++ (putInt (rdPk b).a ++ (putInt (rdPk b).q ++ tailM (rdPk b))))) := by
  rw [← lay_parts]; exact h.2.2.symm
/-- The bytes left are those behind so many members. -/
def OkM (P : Pk) (acc : List Mem) (l : List UInt8) (e : Int) : Prop := ∃ k, k ≤ P.ms.length ∧ acc = P.ms.take k ∧ l = ((P.ms.drop k).map layM).flatten ++ 101 :: tailE P ∧ e = 0
def OkE (P : Pk) (acc : List Ent) (l : List UInt8) (e : Int) : Prop := ∃ k, k ≤ P.es.length ∧ acc = P.es.take k ∧ l = ((P.es.drop k).map putEn).flatten ++ [101, 101] ∧ e = 0
theorem OkM.start (P : Pk) : OkM P [] ((P.ms.map layM).flatten ++ 101 :: tailE P) 0 := ⟨0, Nat.zero_le _, rfl, rfl, rfl⟩
theorem OkE.start (P : Pk) : OkE P [] ((P.es.map putEn).flatten ++ [101, 101]) 0 := ⟨0, Nat.zero_le _, rfl, rfl, rfl⟩
theorem OkM.out {P : Pk} {acc : List Mem} {l : List UInt8} {e : Int} (h : OkM P acc l e) (hm : moreB l = false) : acc = P.ms ∧ l = 101 :: tailE P ∧ e = 0 := by
  obtain ⟨k, hk, rfl, rfl, rfl⟩ := h
  by_cases hl : k < P.ms.length
  · exfalso
    rw [List.drop_eq_getElem_cons hl, List.map_cons, List.flatten_cons] at hm
    generalize ((P.ms.drop (k + 1)).map layM).flatten = R0 at hm
    simp [layM, putList, moreB] at hm
  · have : k = P.ms.length := by omega
    subst this
    simp
theorem OkE.out {P : Pk} {acc : List Ent} {l : List UInt8} {e : Int} (h : OkE P acc l e) (hm : moreB l = false) : acc = P.es ∧ l = [101, 101] ∧ e = 0 := by
  obtain ⟨k, hk, rfl, rfl, rfl⟩ := h
  by_cases hl : k < P.es.length
  · exfalso
    rw [List.drop_eq_getElem_cons hl, List.map_cons, List.flatten_cons] at hm
    generalize ((P.es.drop (k + 1)).map putEn).flatten = R0 at hm
    simp [putEn, putList, moreB] at hm
  · have : k = P.es.length := by omega
    subst this
    simp
theorem OkM.round {P : Pk} (hP : P.Ok) (hc : checkP P = 0) {acc : List Mem} {l l0 l1 l2 l3 l4 : List UInt8} {e e0 e1 e2 e3 e4 n s i : Int} (h : OkM P acc l e) (hm : moreB l = true)
    (b0 : byteE 108 e l = (l0, e0)) (b1 : intE e0 l0 = (l1, e1, n)) (b2 : intE e1 l1 = (l2, e2, s)) (b3 : intE e2 l2 = (l3, e3, i)) (b4 : byteE 101 e3 l3 = (l4, e4)) :
    (0 ≤ n ∧ n ≤ 255) ∧ (0 ≤ s ∧ s ≤ 255) ∧ 0 ≤ i ∧ OkM P (acc ++ [⟨n, s, i⟩]) l4 e4 := by
  obtain ⟨k, hk, rfl, rfl, rfl⟩ := h
  by_cases hl : k < P.ms.length
  · have hx := hP.ms _ (List.getElem_mem hl)
    have hb : badM P.ms[k] = false := by
      have h9 := (checkP_zero hc).2.1
      simp only [memsP, Bool.and_eq_true, Bool.not_eq_true', List.any_eq_false] at h9
      simpa using h9.2 _ (List.getElem_mem hl)
    have e9 : ((P.ms.drop k).map layM).flatten ++ 101 :: tailE P = 108 :: (putInt P.ms[k].n ++ (putInt P.ms[k].s ++ (putInt P.ms[k].i ++ 101 :: (((P.ms.drop (k + 1)).map layM).flatten ++ 101 :: tailE P)))) := by
      rw [List.drop_eq_getElem_cons hl, List.map_cons, List.flatten_cons]; generalize ((P.ms.drop (k + 1)).map layM).flatten = R0; simp [layM, partsM, putList]
    have ht : P.ms.take (k + 1) = P.ms.take k ++ [P.ms[k]] := List.take_succ_eq_append_getElem hl
    rw [e9, byte_here] at b0
    obtain ⟨rfl, rfl⟩ := Prod.mk.inj b0
    rw [int_here _ (by have := hx.1; omega) (by have := hx.1; omega)] at b1
    simp only [Prod.mk.injEq] at b1
    obtain ⟨rfl, rfl, rfl⟩ := b1
    rw [int_here _ (by have := hx.2.1; omega) (by have := hx.2.1; omega)] at b2
    simp only [Prod.mk.injEq] at b2
    obtain ⟨rfl, rfl, rfl⟩ := b2
    rw [int_here _ hx.2.2.1 hx.2.2.2] at b3
    simp only [Prod.mk.injEq] at b3
    obtain ⟨rfl, rfl, rfl⟩ := b3
    rw [byte_here] at b4
    obtain ⟨rfl, rfl⟩ := Prod.mk.inj b4
    simp only [badM, Bool.or_eq_false_iff, decide_eq_false_iff_not] at hb
    exact ⟨⟨hx.1.1, by omega⟩, hx.2.1, by omega, k + 1, hl, ht.symm ▸ rfl, rfl, rfl⟩
  · exfalso
    have : k = P.ms.length := by omega
    subst this
    simp [moreB] at hm
theorem OkE.round {P : Pk} (hP : P.Ok) (hc : checkP P = 0) {acc : List Ent} {l l0 l1 l2 l3 l4 l5 l6 s1 s4 : List UInt8} {e e0 e1 e2 e3 e4 e5 e6 t o u : Int} (h : OkE P acc l e) (hm : moreB l = true)
    (h0 : byteE 108 e l = (l0, e0)) (h1 : textE 1024 e0 l0 = (l1, e1, s1)) (h2 : intE e1 l1 = (l2, e2, t)) (h3 : intE e2 l2 = (l3, e3, o)) (h4 : textE 8192 e3 l3 = (l4, e4, s4)) (h5 : intE e4 l4 = (l5, e5, u)) (h6 : byteE 101 e5 l5 = (l6, e6)) :
    OkE P (acc ++ [if e6 ≠ 0 ∨ o < 0 ∨ 65535 < o ∨ checkEn ⟨⟨s1.toArray⟩, t, o, ⟨s4.toArray⟩, u⟩ ≠ 0 then zeroE else ⟨⟨s1.toArray⟩, t, o, ⟨s4.toArray⟩, u⟩]) l6 e6 := by
  obtain ⟨k, hk, rfl, rfl, rfl⟩ := h
  by_cases hl : k < P.es.length
  · have hx := hP.es _ (List.getElem_mem hl)
    have hz := entsP_all (checkP_zero hc).2.2.2.1 _ (List.getElem_mem hl)
    have hs := checkEn_small hz
    have ht : P.es.take (k + 1) = P.es.take k ++ [P.es[k]] := List.take_succ_eq_append_getElem hl
    have e9 : ((P.es.drop k).map putEn).flatten ++ [101, 101] = 108 :: (putText P.es[k].k.data.toList ++ (putInt P.es[k].t ++ (putInt P.es[k].o ++ (putText P.es[k].v.data.toList ++ (putInt P.es[k].u ++ 101 :: (((P.es.drop (k + 1)).map putEn).flatten ++ [101, 101])))))) := by
      rw [List.drop_eq_getElem_cons hl, List.map_cons, List.flatten_cons]; generalize ((P.es.drop (k + 1)).map putEn).flatten = R0; simp [putEn_eq]
    rw [e9] at h0
    obtain ⟨R, hR⟩ : ∃ R, R = ((P.es.drop (k + 1)).map putEn).flatten ++ [101, 101] := ⟨_, rfl⟩
    rw [← hR] at h0
    generalize hX : P.es[k] = X at *
    have n1 : X.k.data.toList.length = X.k.size := rfl
    have n2 : X.v.data.toList.length = X.v.size := rfl
    rw [byte_here] at h0
    obtain ⟨rfl, rfl⟩ := Prod.mk.inj h0
    have k1 : textE 1024 0 (putText X.k.data.toList ++ (putInt X.t ++ (putInt X.o ++ (putText X.v.data.toList ++ (putInt X.u ++ 101 :: R))))) = _ := read_putText _ (by omega) _ (by omega) _
    rw [k1] at h1
    simp only [Prod.mk.injEq] at h1
    obtain ⟨rfl, rfl, rfl⟩ := h1
    rw [int_here _ hx.1.1 hx.1.2] at h2
    simp only [Prod.mk.injEq] at h2
    obtain ⟨rfl, rfl, rfl⟩ := h2
    rw [int_here _ (by have := hx.2.1; omega) (by have := hx.2.1; omega)] at h3
    simp only [Prod.mk.injEq] at h3
    obtain ⟨rfl, rfl, rfl⟩ := h3
    have k4 : textE 8192 0 (putText X.v.data.toList ++ (putInt X.u ++ 101 :: R)) = _ := read_putText _ (by omega) _ (by omega) _
    rw [k4] at h4
    simp only [Prod.mk.injEq] at h4
    obtain ⟨rfl, rfl, rfl⟩ := h4
    rw [int_here _ hx.2.2.1 hx.2.2.2] at h5
    simp only [Prod.mk.injEq] at h5
    obtain ⟨rfl, rfl, rfl⟩ := h5
    rw [byte_here] at h6
    obtain ⟨rfl, rfl⟩ := Prod.mk.inj h6
    have hq : (⟨⟨X.k.data.toList.toArray⟩, X.t, X.o, ⟨X.v.data.toList.toArray⟩, X.u⟩ : Ent) = X := by obtain ⟨k, t, o, v, u⟩ := X; rfl
    rw [hq, if_neg (by rw [hz]; have := hx.2.1; simp only [ne_eq, not_true, false_or, or_false]; omega)]
    exact ⟨k + 1, hl, by rw [ht], hR, rfl⟩
  · exfalso
    have : k = P.es.length := by omega
    subst this
    simp [moreB] at hm

end Go.Proofs.YtchhdffehkcecaaDoor
