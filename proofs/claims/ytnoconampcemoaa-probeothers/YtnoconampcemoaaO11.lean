/-
  A table of nodes that were heard, one behind the other; a probe that watches nobody.
-/
import Derived.Test.YtnoconampcemoaaO10
namespace Go.Proofs.Ytnoconampcemoaa
open Go Go.RowKit

def calmT : Nat → Tb
  | 0 => newB 0
  | n + 1 => hearB (calmT n) ⟨((n + 1 : Nat) : Int), 0, 0⟩
theorem calmTok : ∀ n, TbOk (calmT n)
  | 0 => newB_ok (by decide)
  | n + 1 => hearB_ok (calmTok n) (by simp only; omega) (by simp)
theorem calmTone : ∀ n, 1 ≤ n → (calmT n).f 1 = some ⟨1, 0, 0⟩
  | 0, h => absurd h (by decide)
  | n + 1, _ => by
    by_cases h0 : n = 0
    · subst h0; kernel_rfl
    · have ih := calmTone n (by omega)
      show (hearB (calmT n) ⟨((n + 1 : Nat) : Int), 0, 0⟩).f 1 = _
      unfold hearB
      split
      · show (if 1 = (saidM (calmT n) ⟨((n + 1 : Nat) : Int), 0, 0⟩).n.toNat then _ else _) = _
        rw [saidM_n, if_neg (by simp only; omega)]
        exact ih
      · exact ih
theorem calmTthere (n : Nat) (h : 1 ≤ n) : (1 : Int) ∈ thereB (calmT n) := by
  unfold thereB thereL
  refine List.mem_map.2 ⟨⟨1, 0, 0⟩, List.mem_filter.2 ⟨(mem_memsB (calmTok n)).2 (calmTone n h), rfl⟩, rfl⟩
/-- Nobody is watched: nobody is told to be dead. -/
theorem bury_calm {P : Pb} {T : Tb} {now : Int} (h : ∀ k, (P.w k).on = false) : buryP P T now = P ∧ goneL P T now = [] := by
  refine ⟨?_, ?_⟩
  · obtain ⟨s, per, tmo, qn, qs, qt, qo, qh, due, f⟩ := P
    unfold buryP buryTo
    congr 1
    funext j
    split
    · exact (bury_off (h j)).1
    · rfl
  · unfold goneL goneTo
    rw [List.filterMap_eq_nil_iff]
    exact fun k _ => (bury_off (h k)).2
theorem drawnL_some {L : List Int} (h : L ≠ []) (q : Nat) : ∃ x, drawnL L q = some x := by
  unfold drawnL
  have hl : 0 < L.length := List.length_pos_iff.2 h
  rw [List.getElem?_eq_getElem (Nat.mod_lt q hl)]
  exact ⟨_, rfl⟩
/-- A probe that waits for the time of its next question. -/
structure CalmP (P : Pb) (i : Nat) : Prop where
  s : P.s = 0
  per : P.per = 10
  tmo : P.tmo = 3
  qs : P.qs = (i : Int)
  qo : P.qo = false
  due : P.due = 10 * (i : Int)
  w : ∀ k, (P.w k).on = false
theorem calmP_new : CalmP (newPb 0 10 3) 0 := ⟨rfl, rfl, rfl, rfl, rfl, rfl, fun _ => rfl⟩
/-- The question is asked. -/
theorem calm_asks {P : Pb} {T : Tb} {i q : Nat} (h : CalmP P i) (hi : i < 60) (hT : TbOk T) (h1 : (1 : Int) ∈ thereB T) :
    ∃ x : Nat, 0 < x ∧ x < 64 ∧ (tickAny P T (10 * (i : Int)) q).o = [⟨(x : Int), 0, 0, (x : Int), (i : Int) + 1⟩] ∧ (tickAny P T (10 * (i : Int)) q).n = [] ∧ (tickAny P T (10 * (i : Int)) q).T = T ∧
      ackB (tickAny P T (10 * (i : Int)) q).P (x : Int) ((i : Int) + 1) = true ∧ CalmP (ackP (tickAny P T (10 * (i : Int)) q).P (x : Int) ((i : Int) + 1)) (i + 1) := by
  obtain ⟨e1, e2⟩ := bury_calm (T := T) (now := 10 * (i : Int)) h.w
  have hne : othersL P T ≠ [] := by
    have hm : (1 : Int) ∈ othersL P T := by
      unfold othersL
      refine List.mem_filter.2 ⟨h1, ?_⟩
      rw [h.s]
      rfl
    exact List.ne_nil_of_mem hm
  obtain ⟨x, hx⟩ := drawnL_some hne q
  have hlow := othersL_low hT (drawnL_mem hx)
  rw [h.s] at hlow
  have hw : wrap64 (P.qs + 1) = (i : Int) + 1 := by rw [h.qs]; unfold wrap64; omega
  have hA : openP (buryP P T (10 * (i : Int))) (mergeB T (goneL P T (10 * (i : Int)))) (10 * (i : Int)) q = ⟨P, T, [], []⟩ := by
    rw [e1, e2]; exact openP_shut h.qo
  have hB : nextP P T (10 * (i : Int)) q = ⟨{ P with qn := x.toNat, qs := (i : Int) + 1, qt := 10 * (i : Int), qo := true, qh := false, due := 10 * (i : Int) + P.per }, T, [⟨x, 0, 0, x, (i : Int) + 1⟩], []⟩ := by
    rw [nextP_ask h.qo (by rw [h.due]; exact Int.le_refl _)]
    unfold askP
    rw [hx]
    simp only [hw, h.s]
    rfl
  have hK : tickAny P T (10 * (i : Int)) q = ⟨{ P with qn := x.toNat, qs := (i : Int) + 1, qt := 10 * (i : Int), qo := true, qh := false, due := 10 * (i : Int) + P.per }, T, [⟨x, 0, 0, x, (i : Int) + 1⟩], []⟩ := by
    unfold tickAny
    rw [if_pos ((timeOk_iff _).2 (by omega)), tickP_eq hA hB, e2]
    rfl
  rw [hK]
  have hx0 : ((0 : Nat) : Int) = 0 := rfl
  obtain ⟨y, rfl⟩ : ∃ y : Nat, x = (y : Int) := ⟨x.toNat, by omega⟩
  have hk : ackB { P with qn := (y : Int).toNat, qs := (i : Int) + 1, qt := 10 * (i : Int), qo := true, qh := false, due := 10 * (i : Int) + P.per } (y : Int) ((i : Int) + 1) = true := by
    unfold ackB
    simp
  refine ⟨y, by omega, by omega, rfl, rfl, rfl, hk, ?_⟩
  unfold ackP
  rw [if_pos hk]
  exact ⟨h.s, h.per, h.tmo, by show (i : Int) + 1 = ((i + 1 : Nat) : Int); omega, rfl, by show 10 * (i : Int) + P.per = 10 * ((i + 1 : Nat) : Int); rw [h.per]; omega, h.w⟩
/-- Nothing is due. -/
theorem calm_waits {P : Pb} {T : Tb} {i q : Nat} (h : CalmP P (i + 1)) (hi : i < 60) : tickAny P T (10 * (i : Int) + 3) q = ⟨P, T, [], []⟩ := by
  obtain ⟨e1, e2⟩ := bury_calm (T := T) (now := 10 * (i : Int) + 3) h.w
  have hA : openP (buryP P T (10 * (i : Int) + 3)) (mergeB T (goneL P T (10 * (i : Int) + 3))) (10 * (i : Int) + 3) q = ⟨P, T, [], []⟩ := by
    rw [e1, e2]; exact openP_shut h.qo
  have hB : nextP P T (10 * (i : Int) + 3) q = ⟨P, T, [], []⟩ := nextP_no (fun hh => by have := hh.2; rw [h.due] at this; omega)
  unfold tickAny
  rw [if_pos ((timeOk_iff _).2 (by omega)), tickP_eq hA hB, e2]
  rfl

end Go.Proofs.Ytnoconampcemoaa
