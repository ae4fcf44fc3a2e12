/-
  One other that never answers, round by round.
-/
import Derived.Test.YtnoconampcemoaaO11
namespace Go.Proofs.Ytnoconampcemoaa
open Go Go.RowKit

def wOff : Nat → Wt := fun _ => zW
def wOne (n : Int) : Nat → Wt := fun j => if j = 1 then ⟨true, 0, n⟩ else zW
def dP (n qs qt due : Int) (qo qh : Bool) (w : Nat → Wt) : Pb := ⟨0, n, 1, 1, qs, qt, qo, qh, due, w⟩
def aQ2 : Tb := hearB aQ1 ⟨1, 1, 0⟩
def aQ3 : Tb := hearB aQ2 ⟨1, 0, 1⟩
def aQ4 : Tb := hearB aQ2 ⟨1, 2, 0⟩
theorem aQ1ok : TbOk aQ1 := hearB_ok (newB_ok (by decide)) (by decide) (by decide)
theorem aQ2ok : TbOk aQ2 := hearB_ok aQ1ok (by decide) (by decide)
theorem aQ3ok : TbOk aQ3 := hearB_ok aQ2ok (by decide) (by decide)
theorem aQ4ok : TbOk aQ4 := hearB_ok aQ2ok (by decide) (by decide)
theorem aQ1there : thereB aQ1 = [0, 1] := by decide
theorem aQ2there : thereB aQ2 = [0, 1] := by decide
theorem aQ3there : thereB aQ3 = [0, 1] := by decide
theorem aQ4there : thereB aQ4 = [0] := by decide
theorem others1 {P : Pb} {T : Tb} (hs : P.s = 0) (h : thereB T = [0, 1]) (q : Nat) : drawnL (othersL P T) q = some 1 := by
  unfold othersL
  rw [h, hs]
  unfold drawnL
  have : ([0, 1] : List Int).filter (fun x => !(x == ((0 : Nat) : Int))) = [1] := by decide
  rw [this]
  simp [Nat.mod_one]
theorem helpers1 {P : Pb} {T : Tb} (hs : P.s = 0) (hq : P.qn = 1) (h : thereB T = [0, 1]) : helpersL P T = [] := by
  unfold helpersL othersL
  rw [h, hs, hq]
  decide
theorem helpers0 {P : Pb} {T : Tb} (hs : P.s = 0) (h : thereB T = [0]) : helpersL P T = [] := by
  unfold helpersL othersL
  rw [h, hs]
  rfl
theorem goneTo_one {P : Pb} {T : Tb} {now : Int} (h : ∀ k, k ≠ 1 → (P.w k).on = false) : ∀ c, goneTo P T now c = if 1 < c then (goneM P T now 1).toList else []
  | 0 => by rw [if_neg (by decide)]; rfl
  | c + 1 => by
    rw [goneTo_succ, goneTo_one h c]
    by_cases h1 : c = 1
    · subst h1; rw [if_neg (by decide), if_pos (by decide)]; rfl
    · rw [(bury_off (h c h1)).2]
      by_cases h2 : 1 < c
      · rw [if_pos h2, if_pos (by omega)]; simp
      · rw [if_neg h2, if_neg (by omega)]; rfl
theorem bury_one {P : Pb} {T : Tb} {now : Int} (h : ∀ k, k ≠ 1 → (P.w k).on = false) : buryP P T now = P.setW 1 (buryW P T now 1) ∧ goneL P T now = (goneM P T now 1).toList := by
  refine ⟨?_, by unfold goneL; rw [goneTo_one h, if_pos (by decide)]⟩
  unfold buryP buryTo Pb.setW
  congr 1
  funext j
  by_cases h1 : j = 1
  · subst h1; rw [if_pos (by decide), if_pos rfl]
  · rw [if_neg h1]
    split
    · exact (bury_off (h j h1)).1
    · rfl
theorem wOne_off {n : Int} {k : Nat} (h : k ≠ 1) : (wOne n k).on = false := by unfold wOne; rw [if_neg h]
theorem die_a {n : Int} : tickAny (newPb 0 n 1) aQ1 0 0 = ⟨dP n 1 0 n true false wOff, aQ1, [⟨1, 0, 0, 1, 1⟩], []⟩ := by
  obtain ⟨e1, e2⟩ := bury_calm (P := newPb 0 n 1) (T := aQ1) (now := 0) (fun _ => rfl)
  have hA : openP (buryP (newPb 0 n 1) aQ1 0) (mergeB aQ1 (goneL (newPb 0 n 1) aQ1 0)) 0 0 = ⟨newPb 0 n 1, aQ1, [], []⟩ := by
    rw [e1, e2]; exact openP_shut rfl
  have hB : nextP (newPb 0 n 1) aQ1 0 0 = ⟨dP n 1 0 n true false wOff, aQ1, [⟨1, 0, 0, 1, 1⟩], []⟩ := by
    have hw1 : wrap64 1 = 1 := by unfold wrap64; decide
    rw [nextP_ask (P := newPb 0 n 1) (now := 0) rfl (by show (0 : Int) ≤ 0; omega)]
    unfold askP
    rw [others1 (P := newPb 0 n 1) rfl aQ1there]
    simp only [newPb, hw1, Int.zero_add]
    rfl
  unfold tickAny
  rw [if_pos (by decide), tickP_eq hA hB, e2]
  rfl
theorem die_b {n : Int} (h2 : 2 ≤ n) (h3 : n ≤ 1001) : tickAny (dP n 1 0 n true false wOff) aQ1 (n - 1) 0 = ⟨dP n 1 0 n true true wOff, aQ1, [], []⟩ := by
  obtain ⟨e1, e2⟩ := bury_calm (P := dP n 1 0 n true false wOff) (T := aQ1) (now := n - 1) (fun _ => rfl)
  have hA : openP (buryP (dP n 1 0 n true false wOff) aQ1 (n - 1)) (mergeB aQ1 (goneL (dP n 1 0 n true false wOff) aQ1 (n - 1))) (n - 1) 0 = ⟨dP n 1 0 n true true wOff, aQ1, [], []⟩ := by
    rw [e1, e2, show mergeB aQ1 [] = aQ1 from rfl]
    rw [openP_help (P := dP n 1 0 n true false wOff) rfl (by show ¬ n ≤ n - 1 - 0; omega) (by show 1 ≤ n - 1 - 0; omega) rfl]
    unfold helpP
    rw [helpers1 (P := dP n 1 0 n true false wOff) rfl rfl aQ1there]
    rfl
  have hB : nextP (dP n 1 0 n true true wOff) aQ1 (n - 1) 0 = ⟨dP n 1 0 n true true wOff, aQ1, [], []⟩ := nextP_no (fun h => by cases h.1)
  unfold tickAny
  rw [if_pos ((timeOk_iff _).2 (by omega)), tickP_eq hA hB, e2]
  rfl
theorem die_c {n : Int} (h2 : 2 ≤ n) (h3 : n ≤ 1001) : tickAny (dP n 1 0 n true true wOff) aQ1 n 0 = ⟨dP n 2 n (2 * n) true false (wOne n), aQ2, [⟨1, 0, 0, 1, 2⟩], [⟨1, 1, 0⟩]⟩ := by
  obtain ⟨e1, e2⟩ := bury_calm (P := dP n 1 0 n true true wOff) (T := aQ1) (now := n) (fun _ => rfl)
  have hn : timeOk n = true := (timeOk_iff _).2 (by omega)
  have hA : openP (buryP (dP n 1 0 n true true wOff) aQ1 n) (mergeB aQ1 (goneL (dP n 1 0 n true true wOff) aQ1 n)) n 0 = ⟨dP n 1 0 n false true (wOne n), aQ2, [], [⟨1, 1, 0⟩]⟩ := by
    rw [e1, e2]
    rw [openP_give (P := dP n 1 0 n true true wOff) rfl (by show n ≤ n - 0; omega)]
    unfold giveP
    rw [show (mergeB aQ1 []).f (dP n 1 0 n true true wOff).qn = some ⟨1, 0, 0⟩ from rfl]
    simp only []
    have hw : watchP (dP n 1 0 n true true wOff).shut (atT (hearB aQ1 ⟨1, 1, 0⟩) (dP n 1 0 n true true wOff).qn) n = dP n 1 0 n false true (wOne n) := by
      have ha : atT (hearB aQ1 ⟨1, 1, 0⟩) (dP n 1 0 n true true wOff).qn = ⟨1, 1, 0⟩ := by kernel_rfl
      rw [ha]
      unfold watchP
      rw [if_pos (by unfold watchB; simp [hn, dP, Pb.shut, wOff])]
      rfl
    show (⟨watchP (dP n 1 0 n true true wOff).shut (atT (hearB aQ1 ⟨1, 1, 0⟩) (dP n 1 0 n true true wOff).qn) n, _, _, _⟩ : Tk) = _
    rw [hw]
    rfl
  have hB : nextP (dP n 1 0 n false true (wOne n)) aQ2 n 0 = ⟨dP n 2 n (2 * n) true false (wOne n), aQ2, [⟨1, 0, 0, 1, 2⟩], []⟩ := by
    have hw1 : wrap64 (1 + 1) = 2 := by unfold wrap64; decide
    rw [nextP_ask (P := dP n 1 0 n false true (wOne n)) (now := n) rfl (by show n ≤ n; omega)]
    unfold askP
    rw [others1 (P := dP n 1 0 n false true (wOne n)) rfl aQ2there]
    simp only [dP, hw1, show n + n = 2 * n by omega]
    rfl
  unfold tickAny
  rw [if_pos hn, tickP_eq hA hB, e2]
  rfl
theorem die_d {n : Int} (h2 : 2 ≤ n) (h3 : n ≤ 1001) : (tickAny (dP n 2 n (2 * n) false false (wOne n)) aQ3 (4 * n) 0).n = [] ∧ (tickAny (dP n 2 n (2 * n) false false (wOne n)) aQ3 (4 * n) 0).T = aQ3 := by
  obtain ⟨e1, e2⟩ := bury_one (P := dP n 2 n (2 * n) false false (wOne n)) (T := aQ3) (now := 4 * n) (fun k h => wOne_off h)
  have hs : suspB (dP n 2 n (2 * n) false false (wOne n)) aQ3 1 = false := by kernel_rfl
  rw [(bury_free rfl hs).2] at e2
  have hA : openP (buryP (dP n 2 n (2 * n) false false (wOne n)) aQ3 (4 * n)) (mergeB aQ3 (goneL (dP n 2 n (2 * n) false false (wOne n)) aQ3 (4 * n))) (4 * n) 0 = ⟨(dP n 2 n (2 * n) false false (wOne n)).setW 1 zW, aQ3, [], []⟩ := by
    rw [e1, e2, (bury_free rfl hs).1]
    exact openP_shut rfl
  have hB := nextP_ask (P := (dP n 2 n (2 * n) false false (wOne n)).setW 1 zW) (T := aQ3) (now := 4 * n) (q := 0) rfl (by show 2 * n ≤ 4 * n; omega)
  unfold tickAny
  rw [if_pos ((timeOk_iff _).2 (by omega)), tickP_eq hA hB, e2]
  exact ⟨rfl, (askP_n _ _ _ _).2⟩
theorem die_e {n : Int} (h2 : 2 ≤ n) (h3 : n ≤ 1001) : tickAny (dP n 2 n (2 * n) true false (wOne n)) aQ2 (4 * n - 1) 0 = ⟨dP n 3 (4 * n - 1) (5 * n - 1) true false (wOne n), aQ2, [⟨1, 0, 0, 1, 3⟩], []⟩ := by
  obtain ⟨e1, e2⟩ := bury_one (P := dP n 2 n (2 * n) true false (wOne n)) (T := aQ2) (now := 4 * n - 1) (fun k h => wOne_off h)
  have hs : suspB (dP n 2 n (2 * n) true false (wOne n)) aQ2 1 = true := by kernel_rfl
  have hea : earlyB (dP n 2 n (2 * n) true false (wOne n)) (4 * n - 1) 1 = true := decide_eq_true (by show 4 * n - 1 - n < 3 * n; omega)
  rw [(bury_early rfl hs hea).2] at e2
  rw [(bury_early rfl hs hea).1] at e1
  have e3 : (dP n 2 n (2 * n) true false (wOne n)).setW 1 ((dP n 2 n (2 * n) true false (wOne n)).w 1) = dP n 2 n (2 * n) true false (wOne n) := by
    unfold Pb.setW dP
    congr 1
    funext j
    by_cases h : j = 1
    · subst h; rfl
    · rw [if_neg h]
  have hA : openP (buryP (dP n 2 n (2 * n) true false (wOne n)) aQ2 (4 * n - 1)) (mergeB aQ2 (goneL (dP n 2 n (2 * n) true false (wOne n)) aQ2 (4 * n - 1))) (4 * n - 1) 0 = ⟨dP n 2 n (2 * n) false false (wOne n), aQ2, [], []⟩ := by
    rw [e1, e2, e3]
    rw [openP_give (P := dP n 2 n (2 * n) true false (wOne n)) rfl (by show n ≤ 4 * n - 1 - n; omega)]
    unfold giveP
    rw [show (mergeB aQ2 (none : Option Mem).toList).f (dP n 2 n (2 * n) true false (wOne n)).qn = some ⟨1, 1, 0⟩ from by kernel_rfl]
    simp only []
    have hh : hearB aQ2 ⟨1, 1, 0⟩ = aQ2 := by unfold hearB; rw [if_neg (by decide)]
    have ht : tellM aQ2 ⟨1, 1, 0⟩ = [] := by kernel_rfl
    show (⟨watchP (dP n 2 n (2 * n) true false (wOne n)).shut (atT (hearB aQ2 ⟨1, 1, 0⟩) (dP n 2 n (2 * n) true false (wOne n)).qn) (4 * n - 1), hearB aQ2 ⟨1, 1, 0⟩, [], tellM aQ2 ⟨1, 1, 0⟩⟩ : Tk) = _
    rw [hh, ht]
    have ha : atT aQ2 (dP n 2 n (2 * n) true false (wOne n)).qn = ⟨1, 1, 0⟩ := by kernel_rfl
    rw [ha]
    unfold watchP
    rw [if_neg (by unfold watchB; simp [dP, Pb.shut, wOne])]
    rfl
  have hB : nextP (dP n 2 n (2 * n) false false (wOne n)) aQ2 (4 * n - 1) 0 = ⟨dP n 3 (4 * n - 1) (5 * n - 1) true false (wOne n), aQ2, [⟨1, 0, 0, 1, 3⟩], []⟩ := by
    have hw1 : wrap64 (2 + 1) = 3 := by unfold wrap64; decide
    rw [nextP_ask (P := dP n 2 n (2 * n) false false (wOne n)) rfl (by show 2 * n ≤ 4 * n - 1; omega)]
    unfold askP
    rw [others1 (P := dP n 2 n (2 * n) false false (wOne n)) rfl aQ2there]
    simp only [dP, hw1, show 4 * n - 1 + n = 5 * n - 1 by omega]
    rfl
  unfold tickAny
  rw [if_pos ((timeOk_iff _).2 (by omega)), tickP_eq hA hB, e2]
  rfl
theorem die_f {n : Int} (h2 : 2 ≤ n) (h3 : n ≤ 1001) : (tickAny (dP n 3 (4 * n - 1) (5 * n - 1) true false (wOne n)) aQ2 (4 * n) 0).T = aQ4 := by
  obtain ⟨e1, e2⟩ := bury_one (P := dP n 3 (4 * n - 1) (5 * n - 1) true false (wOne n)) (T := aQ2) (now := 4 * n) (fun k h => wOne_off h)
  have hs : suspB (dP n 3 (4 * n - 1) (5 * n - 1) true false (wOne n)) aQ2 1 = true := by kernel_rfl
  have hea : earlyB (dP n 3 (4 * n - 1) (5 * n - 1) true false (wOne n)) (4 * n) 1 = false := decide_eq_false (by show ¬ 4 * n - n < 3 * n; omega)
  rw [(bury_dead rfl hs hea).2] at e2
  rw [(bury_dead rfl hs hea).1] at e1
  have hA : openP (buryP (dP n 3 (4 * n - 1) (5 * n - 1) true false (wOne n)) aQ2 (4 * n)) (mergeB aQ2 (goneL (dP n 3 (4 * n - 1) (5 * n - 1) true false (wOne n)) aQ2 (4 * n))) (4 * n) 0 = ⟨((dP n 3 (4 * n - 1) (5 * n - 1) true false (wOne n)).setW 1 zW).help, aQ4, [], []⟩ := by
    rw [e1, e2]
    rw [openP_help (P := (dP n 3 (4 * n - 1) (5 * n - 1) true false (wOne n)).setW 1 zW) rfl (by show ¬ n ≤ 4 * n - (4 * n - 1); omega) (by show 1 ≤ 4 * n - (4 * n - 1); omega) rfl]
    unfold helpP
    have ht : mergeB aQ2 (some (⟨(atT aQ2 1).n, 2, (atT aQ2 1).i⟩ : Mem)).toList = aQ4 := by
      have ha : atT aQ2 1 = ⟨1, 1, 0⟩ := by kernel_rfl
      rw [ha]
      rfl
    rw [ht, helpers0 (P := (dP n 3 (4 * n - 1) (5 * n - 1) true false (wOne n)).setW 1 zW) rfl aQ4there]
    rfl
  have hB : nextP (((dP n 3 (4 * n - 1) (5 * n - 1) true false (wOne n)).setW 1 zW).help) aQ4 (4 * n) 0 = ⟨((dP n 3 (4 * n - 1) (5 * n - 1) true false (wOne n)).setW 1 zW).help, aQ4, [], []⟩ := nextP_no (fun h => by cases h.1)
  unfold tickAny
  rw [if_pos ((timeOk_iff _).2 (by omega)), tickP_eq hA hB]

end Go.Proofs.Ytnoconampcemoaa
