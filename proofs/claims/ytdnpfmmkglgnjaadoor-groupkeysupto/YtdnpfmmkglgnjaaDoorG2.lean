/-
  Alerts by rising keys, plainly; what byKey of package group does.
-/
import Derived.Test.YtdnpfmmkglgnjaaDoorG1
import Derived.Test.YtdnpfmmkglgnjaaDoorGStable
import Derived.Test.YtdnpfmmkglgnjaaDoorLShelf
import Derived.Shelf.Small.Strs
namespace Go.Proofs.YtdnpfmmkglgnjaaDoor
open Go.RowKit

/-! ### by rising keys -/
theorem before_iff : ∀ (a b : List UInt8), bytesBefore a b = true ↔ a < b
  | [], [] => by simp [bytesBefore]
  | [], _ :: _ => by simp [bytesBefore]
  | _ :: _, [] => by simp [bytesBefore]
  | a :: r, b :: s => by
    have ih := before_iff r s
    rw [bytesBefore, List.cons_lt_cons_iff, Bool.or_eq_true, Bool.and_eq_true, ih]
    simp
theorem key_irrefl (a : List UInt8) : ¬ a < a := fun h => by
  have := (before_iff a a).2 h
  rw [WideAt.bytes_irrefl] at this
  cases this
theorem key_trans {a b c : List UInt8} (h1 : a < b) (h2 : b < c) : a < c := (before_iff a c).1 (Go.WideShapes.bytes_trans a b c ((before_iff a b).2 h1) ((before_iff b c).2 h2))
theorem key_total {a b : List UInt8} (h : a ≠ b) : a < b ∨ b < a := by
  rcases WideAt.bytes_total a b h with h1 | h1
  · exact .inl ((before_iff a b).1 h1)
  · exact .inr ((before_iff b a).1 h1)
theorem key_asymm {a b : List UInt8} (h1 : a < b) : ¬ b < a := fun h2 => key_irrefl a (key_trans h1 h2)
theorem cmp_ltK : ∀ (x y : List UInt8), Lib.compareBytes x y < 0 ↔ x < y
  | [], [] => by simp [Lib.compareBytes]
  | [], _ :: _ => by simp [Lib.compareBytes]
  | _ :: _, [] => by simp [Lib.compareBytes]
  | a :: x, b :: y => by
    rw [Lib.compareBytes, List.cons_lt_cons_iff]
    by_cases h1 : a < b
    · simp [h1]
    · rw [if_neg h1]
      by_cases h2 : b < a
      · rw [if_pos h2]
        have : ¬ a = b := fun e => UInt8.lt_irrefl a (e ▸ h2)
        simp [h1, this]
      · rw [if_neg h2, cmp_ltK x y]
        have : a = b := UInt8.le_antisymm (UInt8.not_lt.1 h2) (UInt8.not_lt.1 h1)
        simp [this]

/-- An alert, put behind all whose keys are not above its own. -/
def insK (x : Rw) : List Rw → List Rw
  | [] => [x]
  | y :: l => if x.key < y.key then x :: y :: l else y :: insK x l
/-- Alerts by rising keys, those of one key in their order. -/
def sortR (L : List Rw) : List Rw := L.foldl (fun acc x => insK x acc) []

/-- The same, with the places at which they stood. -/
def insN (x : Rw × Nat) : List (Rw × Nat) → List (Rw × Nat)
  | [] => [x]
  | y :: l => if x.1.key < y.1.key then x :: y :: l else y :: insN x l
theorem insN_fst (x : Rw × Nat) : ∀ l, (insN x l).map Prod.fst = insK x.1 (l.map Prod.fst)
  | [] => rfl
  | y :: l => by
    rw [insN, List.map_cons, insK]
    split
    · rfl
    · rw [List.map_cons, insN_fst x l]
theorem insN_perm (x : Rw × Nat) : ∀ l, (insN x l).Perm (x :: l)
  | [] => List.Perm.refl _
  | y :: l => by
    rw [insN]
    split
    · exact List.Perm.refl _
    · exact ((insN_perm x l).cons y).trans (List.Perm.swap x y l)
theorem foldN_fst : ∀ (l acc : List (Rw × Nat)), (l.foldl (fun a x => insN x a) acc).map Prod.fst = (l.map Prod.fst).foldl (fun a x => insK x a) (acc.map Prod.fst)
  | [], _ => rfl
  | x :: l, acc => by rw [List.foldl_cons, List.map_cons, List.foldl_cons, foldN_fst l, insN_fst]
theorem foldN_perm : ∀ (l acc : List (Rw × Nat)), (l.foldl (fun a x => insN x a) acc).Perm (acc ++ l)
  | [], acc => by rw [List.append_nil]; exact List.Perm.refl _
  | x :: l, acc => by
    rw [List.foldl_cons]
    refine (foldN_perm l _).trans ?_
    refine ((insN_perm x acc).append_right l).trans ?_
    show (x :: acc ++ l).Perm (acc ++ x :: l)
    exact List.perm_middle.symm
def cfK (x y : Rw × Nat) : Int := Lib.compareBytes x.1.key y.1.key
theorem ltK (x y : Rw × Nat) : ltOf cfK x y = decide (x.1.key < y.1.key) := by
  unfold ltOf cfK
  rw [decide_eq_decide, cmp_ltK]
theorem swoK : Sort.SWO (ltOf cfK) where
  irrefl x := by rw [ltK]; exact decide_eq_false (key_irrefl _)
  trans x y z h1 h2 := by rw [ltK] at *; simp only [decide_eq_true_eq] at *; exact key_trans h1 h2
  ntrans x y z h1 h2 := by
    rw [ltK] at *
    simp only [decide_eq_false_iff_not] at *
    intro h
    by_cases e : y.1.key = x.1.key
    · rw [← e] at h; exact h2 h
    · rcases key_total e with hc | hc
      · exact h2 (key_trans hc h)
      · exact h1 hc
theorem lexK {x y : Rw × Nat} : lexL (ltOf cfK) x y ↔ x.1.key < y.1.key ∨ (x.1.key = y.1.key ∧ x.2 < y.2) := by
  unfold lexL
  rw [ltK, ltK]
  simp only [decide_eq_true_eq, decide_eq_false_iff_not]
  constructor
  · rintro (h | ⟨h1, h2, h3⟩)
    · exact .inl h
    · refine .inr ⟨?_, h3⟩
      by_cases e : x.1.key = y.1.key
      · exact e
      · rcases key_total e with hc | hc
        · exact absurd hc h1
        · exact absurd hc h2
  · rintro (h | ⟨h1, h2⟩)
    · exact .inl h
    · exact .inr ⟨by rw [h1]; exact key_irrefl _, by rw [h1]; exact key_irrefl _, h2⟩
theorem insN_lex (x : Rw × Nat) : ∀ l : List (Rw × Nat), (∀ y ∈ l, y.2 < x.2) → l.Pairwise (lexL (ltOf cfK)) → (insN x l).Pairwise (lexL (ltOf cfK))
  | [], _, _ => by simp [insN]
  | y :: l, hx, hl => by
    obtain ⟨h1, h2⟩ := List.pairwise_cons.1 hl
    rw [insN]
    split
    · rename_i hc
      refine List.pairwise_cons.2 ⟨fun z hz => ?_, hl⟩
      have hxy : lexL (ltOf cfK) x y := lexK.2 (.inl hc)
      rcases List.mem_cons.1 hz with rfl | hz
      · exact hxy
      · exact lexL_trans swoK _ _ _ hxy (h1 z hz)
    · rename_i hc
      refine List.pairwise_cons.2 ⟨fun z hz => ?_, insN_lex x l (fun z hz => hx z (List.mem_cons_of_mem _ hz)) h2⟩
      have hz' := (insN_perm x l).mem_iff.1 hz
      rcases List.mem_cons.1 hz' with rfl | hz'
      · by_cases e : y.1.key = z.1.key
        · exact lexK.2 (.inr ⟨e, hx y (List.mem_cons_self ..)⟩)
        · rcases key_total e with hd | hd
          · exact lexK.2 (.inl hd)
          · exact absurd hd hc
      · exact h1 z hz'
theorem foldN_lex : ∀ (l acc : List (Rw × Nat)), acc.Pairwise (lexL (ltOf cfK)) → (∀ y ∈ acc, ∀ x ∈ l, y.2 < x.2) → l.Pairwise (fun x y => x.2 < y.2) → (l.foldl (fun a x => insN x a) acc).Pairwise (lexL (ltOf cfK))
  | [], _, h, _, _ => h
  | x :: l, acc, h, h2, h3 => by
    obtain ⟨g1, g2⟩ := List.pairwise_cons.1 h3
    rw [List.foldl_cons]
    refine foldN_lex l _ (insN_lex x acc (fun y hy => h2 y hy x (List.mem_cons_self ..)) h) (fun y hy z hz => ?_) g2
    rcases List.mem_cons.1 ((insN_perm x acc).mem_iff.1 hy) with rfl | hy
    · exact g1 z hz
    · exact h2 y hy z (List.mem_cons_of_mem _ hz)
theorem zip_rise : ∀ (L : List Rw) (k : Nat), (L.zipIdx k).Pairwise (fun x y => x.2 < y.2)
  | [], _ => by simp
  | x :: L, k => by
    rw [List.zipIdx_cons]
    refine List.pairwise_cons.2 ⟨fun y hy => ?_, zip_rise L (k + 1)⟩
    have := List.le_snd_of_mem_zipIdx hy
    omega
/-- What is sorted so is that. -/
theorem sortR_of {L : List Rw} {N : List (Rw × Nat)} (hp : N.Perm L.zipIdx) (hs : N.Pairwise (lexL (ltOf cfK))) : N.map Prod.fst = sortR L := by
  have e : N = (L.zipIdx).foldl (fun a x => insN x a) [] := by
    refine List.Perm.eq_of_pairwise (le := fun x y => lexL (ltOf cfK) x y) ?_ hs (foldN_lex _ [] List.Pairwise.nil (by simp) (zip_rise L 0)) (hp.trans (by simpa using (foldN_perm L.zipIdx []).symm))
    intro x y _ _ h1 h2
    exfalso
    rcases lexK.1 h1 with h1 | ⟨h1, h1'⟩
    · rcases lexK.1 h2 with h2 | ⟨h2, _⟩
      · exact key_asymm h1 h2
      · rw [h2] at h1; exact key_irrefl _ h1
    · rcases lexK.1 h2 with h2 | ⟨_, h2'⟩
      · rw [h1] at h2; exact key_irrefl _ h2
      · omega
  rw [e, foldN_fst]
  have : (L.zipIdx).map Prod.fst = L := List.zipIdx_map_fst 0 L
  rw [this]
  rfl
theorem sortR_perm (L : List Rw) : (sortR L).Perm L := by
  have h := (foldN_perm L.zipIdx []).map Prod.fst
  rw [foldN_fst] at h
  have e : (L.zipIdx).map Prod.fst = L := List.zipIdx_map_fst 0 L
  simpa [e, sortR] using h

end Go.Proofs.YtdnpfmmkglgnjaaDoor
