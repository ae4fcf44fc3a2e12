/-
  Where labels go through a tree: somewhere, nowhere twice, and through routes that all take them.
-/
import Derived.Test.YthaimnmbcbhioaaDoorRWalk
import Derived.Test.YthaimnmbcbhioaaDoorRCheck
namespace Go.Proofs.YthaimnmbcbhioaaDoor
open Go.RowKit

theorem runKids_mem {g : Nat → List Nat} {co : Nat → Bool} {x : Nat} : ∀ {ks : List Nat}, x ∈ runKids g co ks → ∃ k ∈ ks, x ∈ g k
  | k :: r, h => by
    unfold runKids at h
    split at h
    · obtain ⟨q, h1, h2⟩ := runKids_mem h
      exact ⟨q, List.mem_cons_of_mem _ h1, h2⟩
    · split at h
      · rcases List.mem_append.1 h with h | h
        · exact ⟨k, by simp, h⟩
        · obtain ⟨q, h1, h2⟩ := runKids_mem h
          exact ⟨q, List.mem_cons_of_mem _ h1, h2⟩
      · exact ⟨k, by simp, h⟩
theorem kids_mem {l : List Rt} {a k : Nat} (h : k ∈ kidsP l a) : ∃ hk : k < l.length, l[k].par = (a : Int) := by
  unfold kidsP kidsTo at h
  obtain ⟨h1, h2⟩ := List.mem_filter.1 h
  have hk : k < l.length := List.mem_range.1 h1
  refine ⟨hk, ?_⟩
  simpa [hk] using h2
theorem walk_mem {tk co : Nat → Bool} {kids : Nat → List Nat} {f a x : Nat} (h : x ∈ walkP tk co kids (f + 1) a) : tk a = true ∧ (x = a ∨ ∃ k ∈ kids a, x ∈ walkP tk co kids f k) := by
  unfold walkP at h
  split at h
  · rename_i ht
    refine ⟨ht, ?_⟩
    split at h
    · exact Or.inl (List.mem_singleton.1 h)
    · exact Or.inr (runKids_mem h)
  · cases h

/-- A route that takes labels, as do all in which it stands. -/
def goodN (l : List Rt) (tk : Nat → Bool) : Nat → Nat → Prop
  | 0, _ => False
  | f + 1, y => ∃ hy : y < l.length, tk y = true ∧ (y = 0 ∨ ∃ p : Nat, l[y].par = (p : Int) ∧ goodN l tk f p)
def Good (l : List Rt) (tk : Nat → Bool) (y : Nat) : Prop := ∃ f, goodN l tk f y
theorem walk_good {l : List Rt} {tk co : Nat → Bool} : ∀ (f a x : Nat) (ha : a < l.length), (a = 0 ∨ ∃ p : Nat, l[a].par = (p : Int) ∧ Good l tk p) → x ∈ walkP tk co (kidsP l) f a → Good l tk x
  | 0, _, _, _, _, h => by cases h
  | f + 1, a, x, ha, hp, h => by
    obtain ⟨ht, hx⟩ := walk_mem h
    have hg : Good l tk a := by
      rcases hp with rfl | ⟨p, h1, q, h2⟩
      · exact ⟨1, ha, ht, Or.inl rfl⟩
      · exact ⟨q + 1, ha, ht, Or.inr ⟨p, h1, h2⟩⟩
    rcases hx with rfl | ⟨k, hk, hx⟩
    · exact hg
    · obtain ⟨hkl, hkp⟩ := kids_mem hk
      exact walk_good f k x hkl (Or.inr ⟨a, hkp, hg⟩) hx
theorem Good.out {l : List Rt} {tk : Nat → Bool} {y : Nat} (h : Good l tk y) : ∃ hy : y < l.length, tk y = true ∧ (y = 0 ∨ ∃ p : Nat, l[y].par = (p : Int) ∧ Good l tk p) := by
  obtain ⟨f, h⟩ := h
  cases f with
  | zero => exact absurd h (fun h => h)
  | succ f =>
    obtain ⟨hy, h1, h2⟩ := h
    exact ⟨hy, h1, h2.imp id fun ⟨p, h3, h4⟩ => ⟨p, h3, f, h4⟩⟩

/-- A route stands so many steps within another. -/
def descN (l : List Rt) : Nat → Nat → Nat → Prop
  | 0, a, x => x = a
  | d + 1, a, x => ∃ (hx : x < l.length) (p : Nat), l[x].par = (p : Int) ∧ descN l d a p
theorem desc_up {l : List Rt} {k a : Nat} (hk : k < l.length) (hp : l[k].par = (a : Int)) : ∀ {d x : Nat}, descN l d k x → descN l (d + 1) a x
  | 0, x, h => by
    obtain rfl : x = k := h
    exact ⟨hk, a, hp, rfl⟩
  | d + 1, x, ⟨hx, p, h1, h2⟩ => ⟨hx, p, h1, desc_up hk hp h2⟩
theorem walk_desc {l : List Rt} {tk co : Nat → Bool} : ∀ (f a x : Nat), x ∈ walkP tk co (kidsP l) f a → ∃ d, descN l d a x
  | 0, _, _, h => by cases h
  | f + 1, a, x, h => by
    rcases (walk_mem h).2 with rfl | ⟨k, hk, hx⟩
    · exact ⟨0, rfl⟩
    · obtain ⟨hkl, hkp⟩ := kids_mem hk
      obtain ⟨d, hd⟩ := walk_desc f k x hx
      exact ⟨d + 1, desc_up hkl hkp hd⟩
theorem desc_sub {l : List Rt} {a b : Nat} : ∀ {d e x : Nat}, descN l d a x → descN l (d + e) b x → descN l e b a
  | 0, e, x, h, k => by
    obtain rfl : x = a := h
    rw [Nat.zero_add] at k
    exact k
  | d + 1, e, x, ⟨hx, p, h1, h2⟩, k => by
    rw [show d + 1 + e = (d + e) + 1 by omega] at k
    obtain ⟨_, q, k1, k2⟩ := k
    obtain rfl : p = q := by rw [h1] at k1; exact Int.ofNat.inj k1
    exact desc_sub h2 k2
theorem tree_par {l : List Rt} (ht : TreeOk l) {x p : Nat} (hx : x < l.length) (h : l[x].par = (p : Int)) : p < x := by
  by_cases h0 : x = 0
  · subst h0
    obtain ⟨⟨_, h1, -⟩, -⟩ := ht
    rw [h1] at h
    omega
  · have := (ht.2 x hx (by omega)).2
    omega
theorem desc_le {l : List Rt} (ht : TreeOk l) {a : Nat} : ∀ {d x : Nat}, descN l d a x → a ≤ x
  | 0, x, h => by have : x = a := h; omega
  | d + 1, x, ⟨hx, p, h1, h2⟩ => by have := desc_le ht h2; have := tree_par ht hx h1; omega
theorem kids_apart {l : List Rt} (ht : TreeOk l) {a k q x d e : Nat} (hk : k ∈ kidsP l a) (hq : q ∈ kidsP l a) (h1 : descN l d k x) (h2 : descN l e q x) : k = q := by
  obtain ⟨hkl, hkp⟩ := kids_mem hk
  obtain ⟨hql, hqp⟩ := kids_mem hq
  have key : ∀ {k q : Nat} (hkl : k < l.length) (hql : q < l.length) {d e : Nat}, l[k].par = (a : Int) → l[q].par = (a : Int) → descN l d k x → descN l (d + e) q x → k = q := fun {k q} hkl hql {d e} hkp hqp h1 h2 => by
    have h3 := desc_sub h1 h2
    cases e with
    | zero => exact h3
    | succ e =>
      obtain ⟨_, p, h4, h5⟩ := h3
      obtain rfl : a = p := by rw [hkp] at h4; exact Int.ofNat.inj h4
      have := desc_le ht h5
      have := tree_par ht hql hqp
      omega
  by_cases hde : d ≤ e
  · exact key hkl hql hkp hqp h1 (by rw [show d + (e - d) = e by omega]; exact h2)
  · exact (key hql hkl hqp hkp h2 (by rw [show e + (d - e) = d by omega]; exact h1)).symm
theorem runKids_nodup {g : Nat → List Nat} {co : Nat → Bool} : ∀ {ks : List Nat}, ks.Nodup → (∀ k ∈ ks, (g k).Nodup) → (∀ k ∈ ks, ∀ q ∈ ks, ∀ x, x ∈ g k → x ∈ g q → k = q) → (runKids g co ks).Nodup
  | [], _, _, _ => List.nodup_nil
  | k :: r, h1, h2, h3 => by
    obtain ⟨hk, hr⟩ := List.nodup_cons.1 h1
    have ih := runKids_nodup (g := g) (co := co) hr (fun q hq => h2 q (List.mem_cons_of_mem _ hq)) (fun p hp q hq => h3 p (List.mem_cons_of_mem _ hp) q (List.mem_cons_of_mem _ hq))
    unfold runKids
    split
    · exact ih
    · split
      · refine List.nodup_append.2 ⟨h2 k (by simp), ih, fun x hx y hy e => ?_⟩
        subst e
        obtain ⟨q, hq, hxq⟩ := runKids_mem hy
        have := h3 k (by simp) q (List.mem_cons_of_mem _ hq) x hx hxq
        subst this
        exact hk hq
      · exact h2 k (by simp)
theorem walk_nodup {l : List Rt} (ht : TreeOk l) {tk co : Nat → Bool} : ∀ (f a : Nat), (walkP tk co (kidsP l) f a).Nodup
  | 0, _ => List.nodup_nil
  | f + 1, a => by
    unfold walkP
    split
    · split
      · exact List.nodup_cons.2 ⟨by simp, List.nodup_nil⟩
      · refine runKids_nodup ?_ (fun k _ => walk_nodup ht f k) fun k hk q hq x h1 h2 => ?_
        · unfold kidsP kidsTo
          exact List.nodup_range.filter _
        · obtain ⟨d, hd⟩ := walk_desc f k x h1
          obtain ⟨e, he⟩ := walk_desc f q x h2
          exact kids_apart ht hk hq hd he
    · exact List.nodup_nil
theorem walkL_few (l : List Rt) (tk : Nat → Bool) : (walkL l tk).length ≤ (l.length + 1) * l.length := by
  unfold walkL
  split
  · simp
  · exact walk_few l tk (coP l) (l.length + 1) 0 (by omega)
/-- What is told of labels through a tree. -/
theorem walkL_tree {l : List Rt} (ht : TreeOk l) {ps : List Pr} {tk : Nat → Bool} (hk : TkOk l ps tk) : 0 < (walkL l tk).length ∧ (∀ x ∈ walkL l tk, Good l tk x) ∧ ∀ i j (hi : i < (walkL l tk).length) (hj : j < (walkL l tk).length), i < j → (walkL l tk)[i] ≠ (walkL l tk)[j] := by
  obtain ⟨h0, -, h2⟩ := ht.1
  have e : walkL l tk = walkP tk (coP l) (kidsP l) (l.length + 1) 0 := by unfold walkL; rw [if_neg (by omega)]
  have htk : tk 0 = true := (hk 0 h0).2 fun m hm => by
    rw [List.eq_nil_of_length_eq_zero h2] at hm
    cases hm
  refine ⟨?_, fun x hx => ?_, ?_⟩
  · rw [e]
    unfold walkP
    rw [if_pos htk]
    split
    · simp
    · rename_i h
      exact List.length_pos_iff.2 h
  · rw [e] at hx
    exact walk_good _ 0 x h0 (Or.inl rfl) hx
  · have hn : (walkL l tk).Nodup := by rw [e]; exact walk_nodup ht _ _
    intro i j hi hj hij
    exact List.pairwise_iff_getElem.1 hn i j hi hj hij


theorem conf_tree {l : List Rt} {ls : List Rl} {pt rs : Int} (h : confE l ls pt rs = 0) : TreeOk l := by
  unfold confE at h
  split at h
  · cases h
  · exact Classical.byContradiction fun k => by
      have h2 : (10 : Int) = 0 := (if_neg fun q => k ((treeB_iff l).1 q)).symm.trans h
      cases h2

end Go.Proofs.YthaimnmbcbhioaaDoor
