/-
  What two lists of alerts have beside those of given labels.
-/
import Derived.Test.YtdnpfmmkglgnjabDoorA16
import Derived.Test.YtdnpfmmkglgnjabDoorA7
namespace Go.Proofs.YtdnpfmmkglgnjabDoor
open Go.RowKit

def skP (pv : List Pr) (ok : Bool) (r : Rw) : Bool := decide (r.ps = pv) && ok
def restA (pv : List Pr) (ok : Bool) (L : List Rw) : List Al := (L.filter fun r => !skP pv ok r).map Rw.al
theorem rest_skip {pv : List Pr} {ok : Bool} {L : List Rw} {k : Nat} (hk : k < L.length) (h : skP pv ok L[k] = true) : restA pv ok (L.drop k) = restA pv ok (L.drop (k + 1)) := by
  unfold restA
  rw [List.drop_eq_getElem_cons hk, List.filter_cons_of_neg (by simp [h])]
theorem rest_take {pv : List Pr} {ok : Bool} {L : List Rw} {k : Nat} (hk : k < L.length) (h : skP pv ok L[k] = false) : restA pv ok (L.drop k) = L[k].al :: restA pv ok (L.drop (k + 1)) := by
  unfold restA
  rw [List.drop_eq_getElem_cons hk, List.filter_cons_of_pos (by simp [h])]
  rfl
theorem rest_end {pv : List Pr} {ok : Bool} {L : List Rw} {k : Nat} (hk : L.length ≤ k) : restA pv ok (L.drop k) = [] := by
  unfold restA
  rw [List.drop_eq_nil_of_le hk]
  rfl
theorem rest_al (pv : List Pr) (ok : Bool) (L : List Rw) : restA pv ok L = (L.map Rw.al).filter fun v => !(decide (v.1 = pv) && ok) := by
  unfold restA
  rw [List.filter_map]
  rfl
theorem rest_of {pv : List Pr} {ok : Bool} {L M : List Rw} (h : L.map Rw.al = M.map Rw.al) : restA pv ok L = restA pv ok M := by rw [rest_al, rest_al, h]
theorem rest_ins {x : Rw} : ∀ S : List Rw, restA x.ps true (insR x S) = restA x.ps true S
  | [] => by simp [insR, restA, skP]
  | z :: l => by
    rw [insR]
    split
    · simp [restA, skP]
    · have ih := rest_ins (x := x) l
      unfold restA at ih ⊢
      rw [List.filter_cons, List.filter_cons]
      split
      · rw [List.map_cons, List.map_cons, ih]
      · exact ih
theorem rest_put {x : Rw} {S : List Rw} (hi : ∀ r ∈ S, r.key = x.key → r.ps = x.ps) : restA x.ps true (putR x S) = restA x.ps true S := by
  unfold putR
  rw [rest_ins]
  unfold restA
  rw [List.filter_filter]
  congr 1
  refine List.filter_congr fun r hr => ?_
  by_cases e : r.key = x.key
  · simp [skP, hi r hr e, e]
  · simp [e]
/-- Pairs that may be, of one key, are the same. -/
theorem key_one {w : World} {S : List Rw} (hS : ∀ r ∈ S, RwOk w r) {ps : List Pr} (hc : checkE ps = 0) : ∀ r ∈ S, r.key = keyL ps → r.ps = ps := fun r hr e => by
  have h1 := check_fit (alE_zero (hS r hr).2).1
  have h2 := check_fit hc
  exact keyL_inj (fun p hp => by have := h1 p hp; omega) (fun p hp => by have := h2 p hp; omega) e

theorem put_le {w w' : World} {bm : Nat} {S S' : List Rw} {ps : List Pr} {st en : Int} (h64 : S.length ≤ 64) (h1 : putE S ps st en ≠ 0 → S' = S) (h2 : putE S ps st en = 0 → ∃ ad cp, S' = putR ⟨ps, startA S ps st en, en, ad, cp⟩ S ∧ ∀ q, ad = some q → w.heap.size ≤ q.block) (hm : StMap w' bm S') (hm0 : StMap w bm S) : S'.length ≤ 64 :=
  (do_sim (w4 := w) (w5 := w') (R := S) (R' := S') (show Sim S S from rfl) h64 h1 h2 h1 (fun h => let ⟨ad, cp, e, _⟩ := h2 h; ⟨ad, cp, e⟩) hm hm0).2.1
theorem put_rest {w w0 : World} {S S' : List Rw} {ps : List Pr} {st en : Int} (hS : ∀ r ∈ S, RwOk w r) (h1 : putE S ps st en ≠ 0 → S' = S) (h2 : putE S ps st en = 0 → ∃ ad cp, S' = putR ⟨ps, startA S ps st en, en, ad, cp⟩ S ∧ ∀ q, ad = some q → w0.heap.size ≤ q.block) :
    restA ps (decide (putE S ps st en = 0)) S' = restA ps (decide (putE S ps st en = 0)) S := by
  by_cases h : putE S ps st en = 0
  · obtain ⟨ad, cp, rfl, -⟩ := h2 h
    have hc : alE ps st en = 0 := by
      unfold putE at h
      split at h
      · rename_i hne; exact absurd h hne
      · rename_i hne; exact Classical.not_not.1 hne
    rw [decide_eq_true h]
    exact rest_put (x := ⟨ps, startA S ps st en, en, ad, cp⟩) (key_one hS (alE_zero hc).1)
  · rw [h1 h]

end Go.Proofs.YtdnpfmmkglgnjabDoor
