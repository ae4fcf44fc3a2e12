/-
  The reference's sets.
-/
import Derived.Test.YthaimnmbcbhioaaDoorXTree2
namespace Go.Proofs.YthaimnmbcbhioaaDoor
open Go.RowKit

def GG (m : Nat) (T : BSet) (l : List UInt8) : Option (BSet × List UInt8) := if l.head? = some 93 then some (T, l.drop 1) else pItems m T l
/-- What is left to read, behind n items. -/
def Inv (R : Option (BSet × List UInt8)) (n : Nat) (T : BSet) (l : List UInt8) : Prop := ∃ m, l.length < m ∧ R = if n = 0 then pItems m T l else GG m T l
theorem items_none {m : Nat} {T : BSet} {l : List UInt8} (h : pByte l = none) : pItems m T l = none := by
  cases m with
  | zero => rfl
  | succ m => rw [pItems_step]; unfold pItem; rw [h]
theorem Inv.nil {R : Option (BSet × List UInt8)} {n : Nat} {T : BSet} (h : Inv R n T []) : R = none := by
  obtain ⟨m, hm, rfl⟩ := h
  have e : ∀ m, pItems m T [] = none := fun m => items_none rfl
  split
  · exact e m
  · unfold GG; rw [if_neg (by simp)]; exact e m
theorem Inv.zero {R : Option (BSet × List UInt8)} {T : BSet} {x : List UInt8} (h : Inv R 0 T (93 :: x)) : R = none := by
  obtain ⟨m, hm, rfl⟩ := h
  rw [if_pos rfl]
  exact items_none rfl
theorem Inv.close {R : Option (BSet × List UInt8)} {n : Nat} {T : BSet} {x : List UInt8} (hn : n ≠ 0) (h : Inv R n T (93 :: x)) : R = some (T, x) := by
  obtain ⟨m, hm, rfl⟩ := h
  rw [if_neg hn]; rfl
theorem Inv.none {R : Option (BSet × List UInt8)} {n : Nat} {T : BSet} {c : UInt8} {x : List UInt8} (hc : c ≠ 93) (h : Inv R n T (c :: x)) (hp : pItem T (c :: x) = .none) : R = .none := by
  obtain ⟨m, hm, rfl⟩ := h
  have e : pItems m T (c :: x) = .none := by
    cases m with
    | zero => rfl
    | succ m => rw [pItems_step, hp]
  split
  · exact e
  · unfold GG; rw [if_neg (by simpa using hc)]; exact e
theorem Inv.next {R : Option (BSet × List UInt8)} {n : Nat} {T T' : BSet} {c : UInt8} {x l' : List UInt8} (hc : c ≠ 93) (h : Inv R n T (c :: x)) (hp : pItem T (c :: x) = some (T', l')) : Inv R (n + 1) T' l' := by
  obtain ⟨m, hm, rfl⟩ := h
  have hl := pItem_len hp
  obtain ⟨m, rfl⟩ : ∃ k, m = k + 1 := ⟨m - 1, by omega⟩
  have e : pItems (m + 1) T (c :: x) = GG m T' l' := by rw [pItems_step, hp]; rfl
  refine ⟨m, by omega, ?_⟩
  rw [if_neg (Nat.succ_ne_zero n)]
  split
  · exact e
  · rw [← e]; unfold GG; rw [if_neg (by simpa using hc)]

/-- Bytes from one on, below another. -/
def rngB (T : BSet) (a k : Nat) : BSet := fun c => T c || (decide (a ≤ c.toNat) && decide (c.toNat < k))
theorem rng_start (T : BSet) (a : Nat) : rngB T a a = T := by
  funext c
  unfold rngB
  by_cases h : a ≤ c.toNat
  · simp [show ¬ c.toNat < a by omega]
  · simp [h]
theorem rng_step (T : BSet) (a : Nat) (d : UInt8) (h : a ≤ d.toNat) : setB (rngB T a d.toNat) d true = rngB T a (d.toNat + 1) := by
  funext c
  unfold setB rngB
  by_cases e : c = d
  · subst e; simp [h]
  · have : c.toNat ≠ d.toNat := fun x => e (UInt8.toNat_inj.1 x)
    rw [if_neg e]
    congr 2
    rw [decide_eq_decide]
    omega
theorem rng_end (T : BSet) (a b : UInt8) : rngB T a.toNat (b.toNat + 1) = addB T a b := by
  funext c
  unfold rngB addB
  congr 2
  rw [decide_eq_decide, UInt8.le_iff_toNat_le]
  omega
/-- The first bytes turned round. -/
def negB (T : BSet) (k : Nat) : BSet := fun c => if c.toNat < k then !T c else T c
theorem neg_start (T : BSet) : negB T 0 = T := by funext c; simp [negB]
theorem neg_get (T : BSet) (d : UInt8) : negB T d.toNat d = T d := by simp [negB]
theorem neg_step (T : BSet) (d : UInt8) : setB (negB T d.toNat) d (!T d) = negB T (d.toNat + 1) := by
  funext c
  unfold setB negB
  by_cases e : c = d
  · subst e; simp
  · have : c.toNat ≠ d.toNat := fun x => e (UInt8.toNat_inj.1 x)
    rw [if_neg e]
    by_cases h : c.toNat < d.toNat
    · rw [if_pos h, if_pos (by omega)]
    · rw [if_neg h, if_neg (by omega)]
theorem neg_end (T : BSet) : negB T 256 = notB T := by
  funext c
  have := c.toNat_lt
  unfold negB notB
  rw [if_pos (by omega)]
theorem u8_of (k : Nat) (h : k < 256) : ∃ d : UInt8, d.toNat = k := ⟨UInt8.ofNat k, by rw [UInt8.toNat_ofNat']; omega⟩

/-- What a set is told as. -/
def SE (l : List UInt8) (e : Ending) : Prop := (pSet l = none ∧ ∃ t, e = .returned (.tuple #[.agg (treeC t), .string ⟨#[]⟩, .bool false])) ∨ ∃ T s', pSet l = some (T, s'.data.toList) ∧ e = .returned (.tuple #[.agg (treeC (oneT T)), .string s', .bool true])

def strSize : Value → Nat
  | .string s => s.size
  | _ => 0
theorem TreeBlk.below {w w' : World} {b : Nat} {t : TV} (h : TreeBlk w b t) (hb : Below w.heap.size w w') : TreeBlk w' b t := h.of (hb.block b h.lt)


end Go.Proofs.YthaimnmbcbhioaaDoor
