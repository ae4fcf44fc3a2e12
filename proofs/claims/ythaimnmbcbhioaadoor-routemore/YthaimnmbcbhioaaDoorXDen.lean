/-
  What a tree of the reference means, in memory.
-/
import Derived.Test.YthaimnmbcbhioaaDoorXTree3
namespace Go.Proofs.YthaimnmbcbhioaaDoor
open Go.RowKit

/-- A row of trees can be read; it lies in a block of those that are named. -/
def TreesAt (w : World) (X : Nat → Prop) (a : Option Addr) (n : Nat) (ts : List TV) : Prop :=
  ts.length = n ∧ n ≤ 9223372036854775807 ∧ (n = 0 ∨ ∃ g, a = some ⟨g, 0, none⟩ ∧ X g ∧ ∀ i (hi : i < ts.length) j, j < 258 → w.cell? ⟨g, i * 258 + j, none⟩ = (treeL ts[i])[j]?)
/-- What a tree means, up to a depth; the rows of its parts lie in blocks of those that are named. -/
def Den : Nat → World → (Nat → Prop) → TV → Lang → Prop
  | 0, _, _, _, _ => False
  | d + 1, w, X, t, A => (t.k = 0 ∧ ∀ s, A s ↔ setL t.T s) ∨ ∃ (ts : List TV) (Ls : List Lang), TreesAt w X t.a t.n ts ∧ ts.length = Ls.length ∧ (∀ i (h1 : i < ts.length) (h2 : i < Ls.length), Den d w X ts[i] Ls[i]) ∧
      ((t.k = 1 ∧ ∀ s, A s ↔ (Ls.foldl catL epsL) s) ∨ (t.k = 2 ∧ ∀ s, A s ↔ (Ls.foldl altL noL) s) ∨ ∃ L, Ls = [L] ∧ ((t.k = 3 ∧ ∀ s, A s ↔ optL (PlusL L) s) ∨ (t.k = 4 ∧ ∀ s, A s ↔ PlusL L s) ∨ (t.k = 5 ∧ ∀ s, A s ↔ optL L s)))

theorem TreesAt.keep {w w' : World} {X Y : Nat → Prop} {a : Option Addr} {n : Nat} {ts : List TV} (h : TreesAt w X a n ts) (hw : ∀ b, X b → w'.heap[b]? = w.heap[b]?) (hX : ∀ b, X b → Y b) : TreesAt w' Y a n ts := by
  refine ⟨h.1, h.2.1, h.2.2.imp id ?_⟩
  rintro ⟨g, e, hg, hc⟩
  exact ⟨g, e, hX g hg, fun i hi j hj => by rw [World.cell?_of_block (w := w) (hw g hg)]; exact hc i hi j hj⟩
theorem Den.keep {w w' : World} {X Y : Nat → Prop} (hw : ∀ b, X b → w'.heap[b]? = w.heap[b]?) (hX : ∀ b, X b → Y b) : ∀ (d : Nat) (t : TV) (A : Lang), Den d w X t A → Den d w' Y t A
  | 0, _, _, h => h
  | d + 1, t, A, h => by
    rcases h with h | ⟨ts, Ls, h1, h2, h3, h4⟩
    · exact .inl h
    · exact .inr ⟨ts, Ls, h1.keep hw hX, h2, fun i a b => Den.keep hw hX d _ _ (h3 i a b), h4⟩
theorem Den.more : ∀ (d : Nat) {w : World} {X : Nat → Prop} {t : TV} {A : Lang}, Den d w X t A → Den (d + 1) w X t A
  | 0, _, _, _, _, h => by cases h
  | d + 1, _, _, _, _, h => by
    rcases h with h | ⟨ts, Ls, h1, h2, h3, h4⟩
    · exact .inl h
    · exact .inr ⟨ts, Ls, h1, h2, fun i a b => Den.more d (h3 i a b), h4⟩
theorem Den.le {d e : Nat} (hde : d ≤ e) {w : World} {X : Nat → Prop} {t : TV} {A : Lang} (h : Den d w X t A) : Den e w X t A := by
  induction hde with
  | refl => exact h
  | step _ ih => exact ih.more
theorem Den.as {w : World} {X : Nat → Prop} {t : TV} {A B : Lang} : ∀ {d : Nat}, Den d w X t A → (∀ s, A s ↔ B s) → Den d w X t B
  | 0, h, _ => h
  | d + 1, h, e => by
    have e' : ∀ {C : Lang}, (∀ s, A s ↔ C s) → ∀ s, B s ↔ C s := fun hc s => (e s).symm.trans (hc s)
    rcases h with ⟨h1, h2⟩ | ⟨ts, Ls, h1, h2, h3, h4⟩
    · exact .inl ⟨h1, e' h2⟩
    · refine .inr ⟨ts, Ls, h1, h2, h3, ?_⟩
      rcases h4 with ⟨a, b⟩ | ⟨a, b⟩ | ⟨L, h5, ⟨a, b⟩ | ⟨a, b⟩ | ⟨a, b⟩⟩
      · exact .inl ⟨a, e' b⟩
      · exact .inr (.inl ⟨a, e' b⟩)
      · exact .inr (.inr ⟨L, h5, .inl ⟨a, e' b⟩⟩)
      · exact .inr (.inr ⟨L, h5, .inr (.inl ⟨a, e' b⟩)⟩)
      · exact .inr (.inr ⟨L, h5, .inr (.inr ⟨a, e' b⟩)⟩)
theorem Den.set (w : World) (X : Nat → Prop) (T : BSet) : Den 1 w X (oneT T) (setL T) := .inl ⟨rfl, fun _ => Iff.rfl⟩

end Go.Proofs.YthaimnmbcbhioaaDoor
