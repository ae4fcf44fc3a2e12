/-
  The reference's atoms, put together.
-/
import Derived.Test.YthaimnmbcbhioaaDoorXTreeBox
namespace Go.Proofs.YthaimnmbcbhioaaDoor
open Go.RowKit

theorem ba_ext {a b : ByteArray} (h : a.data.toList = b.data.toList) : a = b := by
  cases a; cases b
  congr 1
  exact Array.toList_inj.1 h
/-- How a pattern within is read. -/
def ParIH (s1 : ByteArray) : Prop := (pL noL epsL s1.data.toList = none → ParNo s1) ∧ ∀ (A : Lang) (s2 : ByteArray), pL noL epsL s1.data.toList = some (A, s2.data.toList) → ParOk s1 s2 A

theorem eatom_ref (s : ByteArray) (w : World) (hs : s.size ≤ 9223372036854775807) (h0 : 0 < s.size) (IH : ParIH (s.extract 1 s.size)) (hl : ∀ l A l', pL noL epsL l = some (A, l') → l'.length ≤ l.length) :
    (pAtom (pL noL epsL) s.data.toList = none → AtNo s w) ∧ ∀ (A : Lang) (s2 : ByteArray), pAtom (pL noL epsL) s.data.toList = some (A, s2.data.toList) → AtOk s s2 A w := by
  have hx := extract_list s 1
  have hxl : (s.extract 1 s.size).data.toList.length + 1 = s.size := by rw [hx, List.length_drop]; simp; omega
  rw [bytes_cons s h0]
  by_cases n40 : s[0] = 40
  · cases hq : pL noL epsL (s.extract 1 s.size).data.toList with
    | none =>
      have e : pAtom (pL noL epsL) (s[0] :: (s.extract 1 s.size).data.toList) = none := by simp only [pAtom]; rw [if_pos n40, hq]
      rw [e]
      exact ⟨fun _ => eatom_par_no s w hs h0 n40 (IH.1 hq), fun A s2 h => by cases h⟩
    | some p =>
      obtain ⟨A, l2⟩ := p
      have HC := IH.2 A ⟨l2.toArray⟩ (by rw [hq])
      have hll := hl _ _ _ hq
      have e : pAtom (pL noL epsL) (s[0] :: (s.extract 1 s.size).data.toList) = if l2.head? = some 41 then some (A, l2.drop 1) else none := by simp only [pAtom]; rw [if_pos n40, hq]
      rw [e]
      cases l2 with
      | nil => exact ⟨fun _ => eatom_par_end s _ A w hs h0 n40 HC rfl, fun A s2 h => by cases h⟩
      | cons d y =>
        have h2 : 0 < (⟨(d :: y).toArray⟩ : ByteArray).size := by show 0 < (d :: y).toArray.size; simp
        have h2s : (⟨(d :: y).toArray⟩ : ByteArray).size ≤ 9223372036854775807 := by show (d :: y).toArray.size ≤ _; simp at hll ⊢; omega
        by_cases hd : d = 41
        · subst hd
          refine ⟨fun h => (by cases h), fun A' s2 h => ?_⟩
          rw [if_pos (show (41 :: y : List UInt8).head? = some 41 from rfl)] at h
          injection h with h
          injection h with e1 e2
          subst e1
          have := eatom_par_ok s _ A w hs h0 n40 HC h2 h2s rfl
          rw [show s2 = (⟨(41 :: y).toArray⟩ : ByteArray).extract 1 (⟨(41 :: y).toArray⟩ : ByteArray).size from ba_ext (by rw [extract_list, ← e2])]
          exact this
        · rw [if_neg (by simpa using hd)]
          exact ⟨fun _ => eatom_par_bad s _ A w hs h0 n40 HC h2 hd, fun A s2 h => by cases h⟩
  by_cases n91 : s[0] = 91
  · cases hq : pSet (s.extract 1 s.size).data.toList with
    | none =>
      have e : pAtom (pL noL epsL) (s[0] :: (s.extract 1 s.size).data.toList) = none := by simp only [pAtom]; rw [if_neg n40, if_pos n91, hq]
      rw [e]
      exact ⟨fun _ => eatom_set_no s w hs h0 n91 hq, fun A s2 h => by cases h⟩
    | some p =>
      obtain ⟨T, l2⟩ := p
      have e : pAtom (pL noL epsL) (s[0] :: (s.extract 1 s.size).data.toList) = some (setL T, l2) := by simp only [pAtom]; rw [if_neg n40, if_pos n91, hq]
      rw [e]
      refine ⟨fun h => (by cases h), fun A s2 h => ?_⟩
      injection h with h
      injection h with e1 e2
      subst e1 e2
      exact .of (eatom_set_ok s s2 T w hs h0 n91 hq)
  by_cases n46 : s[0] = 46
  · have e : pAtom (pL noL epsL) (s[0] :: (s.extract 1 s.size).data.toList) = some (setL (notB noneB), (s.extract 1 s.size).data.toList) := by simp only [pAtom]; rw [if_neg n40, if_neg n91, if_pos n46]
    rw [e]
    refine ⟨fun h => (by cases h), fun A s2 h => ?_⟩
    injection h with h
    injection h with e1 e2
    subst e1
    obtain rfl := ba_ext e2
    exact .of (eatom_dot s w hs h0 n46)
  by_cases n92 : s[0] = 92
  · by_cases h1 : s.size = 1
    · have e : pAtom (pL noL epsL) (s[0] :: (s.extract 1 s.size).data.toList) = none := by
        rw [List.eq_nil_of_length_eq_zero (l := (s.extract 1 s.size).data.toList) (by omega)]
        simp only [pAtom]; rw [if_neg n40, if_neg n91, if_neg n46, if_pos n92]
      rw [e]
      exact ⟨fun _ => eatom_esc_no s w h1 n92, fun A s2 h => by cases h⟩
    · have h2 : 1 < s.size := by omega
      have e : pAtom (pL noL epsL) (s[0] :: (s.extract 1 s.size).data.toList) = some (setL (addB noneB s[1] s[1]), (s.extract 2 s.size).data.toList) := by
        rw [← bytes_cons s h0, bytes_cons2 s h2]
        simp only [pAtom]; rw [if_neg n40, if_neg n91, if_neg n46, if_pos n92]
      rw [e]
      refine ⟨fun h => (by cases h), fun A s2 h => ?_⟩
      injection h with h
      injection h with e1 e2
      subst e1
      obtain rfl := ba_ext e2
      exact .of (eatom_esc s w hs h2 n92)
  cases hc : isSpec s[0] with
  | true =>
    have e : pAtom (pL noL epsL) (s[0] :: (s.extract 1 s.size).data.toList) = none := by simp only [pAtom]; rw [if_neg n40, if_neg n91, if_neg n46, if_neg n92, if_pos hc]
    rw [e]
    exact ⟨fun _ => eatom_spec_no s w hs h0 hc n40 n91 n46 n92, fun A s2 h => by cases h⟩
  | false =>
    have e : pAtom (pL noL epsL) (s[0] :: (s.extract 1 s.size).data.toList) = some (setL (addB noneB s[0] s[0]), (s.extract 1 s.size).data.toList) := by simp only [pAtom]; rw [if_neg n40, if_neg n91, if_neg n46, if_neg n92, if_neg (by rw [hc]; decide)]
    rw [e]
    refine ⟨fun h => (by cases h), fun A s2 h => ?_⟩
    injection h with h
    injection h with e1 e2
    subst e1
    obtain rfl := ba_ext e2
    exact .of (eatom_plain s w hs h0 hc)

end Go.Proofs.YthaimnmbcbhioaaDoor
