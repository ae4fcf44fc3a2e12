/-
  Patterns, plainly: what a text that is like one is, and the places that take its bytes one behind the other. How a pattern is read, plainly: the text that is left, and what is like what was read. What a reader of a pattern is in memory, and what its small calls do. Words of 64 bits as choices among places: the lowest one, and what is left without it; and what a text leads to, byte by byte.
-/
import Derived.Test.YtmanjegdgjeeiaaGreatDoorRows
import Derived.WalkKit
import Derived.WalkSpells
import Derived.WalkLawsBesides
import Derived.BigQuiet
import Derived.Deep.QuietTactic
import Derived.Lib.Hide
import Derived.OwnWalk
import Derived.Lib.TrailingZeros
namespace Go.Proofs.YtmanjegdgjeeiaaGreatDoor

abbrev Lang := List UInt8 → Prop

def noL : Lang := fun _ => False
def epsL : Lang := fun s => s = []
def setL (T : UInt8 → Bool) : Lang := fun s => ∃ c, s = [c] ∧ T c = true
def catL (A B : Lang) : Lang := fun s => ∃ u v, s = u ++ v ∧ A u ∧ B v
def altL (A B : Lang) : Lang := fun s => A s ∨ B s
def optL (A : Lang) : Lang := fun s => s = [] ∨ A s
def PlusL (A : Lang) : Lang := fun s => ∃ us : List (List UInt8), us ≠ [] ∧ s = us.flatten ∧ ∀ u ∈ us, A u

theorem PlusL.one {A : Lang} {s : List UInt8} (h : A s) : PlusL A s := ⟨[s], by simp, by simp, fun u hu => by simp at hu; exact hu ▸ h⟩
theorem PlusL.more {A : Lang} {u v : List UInt8} (h : A u) (hv : PlusL A v) : PlusL A (u ++ v) := by
  obtain ⟨us, h1, rfl, h3⟩ := hv
  refine ⟨u :: us, by simp, by simp, fun x hx => ?_⟩
  rcases List.mem_cons.1 hx with rfl | hx
  · exact h
  · exact h3 x hx
theorem PlusL.ind {A : Lang} {motive : (s : List UInt8) → PlusL A s → Prop} (one : ∀ {s : List UInt8} (h : A s), motive s (PlusL.one h)) (more : ∀ {u v : List UInt8} (h : A u) (hv : PlusL A v), motive v hv → motive (u ++ v) (PlusL.more h hv)) {s : List UInt8} (h : PlusL A s) : motive s h := by
  obtain ⟨us, h1, rfl, h3⟩ := h
  induction us with
  | nil => exact absurd rfl h1
  | cons u us ih =>
    by_cases he : us = []
    · subst he
      have := one (s := u) (h3 u (by simp))
      simp only [List.flatten_cons, List.flatten_nil, List.append_nil]
      exact this
    · exact more (h3 u (by simp)) ⟨us, he, rfl, fun x hx => h3 x (by simp [hx])⟩ (ih he fun x hx => h3 x (by simp [hx]))

theorem PlusL.mono {A B : Lang} (h : ∀ s, A s → B s) {s : List UInt8} (hs : PlusL A s) : PlusL B s := by
  induction hs using PlusL.ind with
  | one h1 => exact .one (h _ h1)
  | more h1 _ ih => exact .more (h _ h1) ih
theorem PlusL.congr {A B : Lang} (h : ∀ s, A s ↔ B s) (s : List UInt8) : PlusL A s ↔ PlusL B s := ⟨PlusL.mono fun s => (h s).1, PlusL.mono fun s => (h s).2⟩
theorem PlusL.app {A : Lang} {u v : List UInt8} (hu : PlusL A u) (hv : PlusL A v) : PlusL A (u ++ v) := by
  induction hu using PlusL.ind with
  | one h1 => exact .more h1 hv
  | more h1 _ ih => rw [List.append_assoc]; exact .more h1 ih
theorem PlusL.nil {A : Lang} : PlusL A [] ↔ A [] := by
  refine ⟨fun h => ?_, .one⟩
  obtain ⟨us, h1, h2, h3⟩ := h
  cases us with
  | nil => exact absurd rfl h1
  | cons u us =>
    rw [List.flatten_cons] at h2
    obtain ⟨h4, -⟩ := List.append_eq_nil_iff.1 h2.symm
    exact h4 ▸ h3 u (by simp)

/-- Which bytes four words stand for: each byte is a bit. -/
def hasW (W : Nat → Nat) (c : UInt8) : Bool := (W (c.toNat / 64)).testBit (c.toNat % 64)

/-- A place: the bytes that it takes, as bits of four words; the places that may take the byte behind. -/
structure Pl where
  W : Nat → Nat
  nx : Nat

def Pl.has (p : Pl) (c : UInt8) : Bool := hasW p.W c

/-- A piece: the places of the first byte, and of the last one; may it be nothing? -/
structure Pc where
  first : Nat
  last : Nat
  empty : Bool

/-- From a place that takes the first byte to one that takes the last one. -/
def Run (pl : List Pl) : Nat → List UInt8 → Nat → Prop
  | _, [], _ => False
  | i, [c], j => i = j ∧ ∃ p, pl[i]? = some p ∧ p.has c = true
  | i, c :: d :: s, j => ∃ p k, pl[i]? = some p ∧ p.has c = true ∧ p.nx.testBit k = true ∧ Run pl k (d :: s) j

theorem Run.ne {pl : List Pl} {i j : Nat} {s : List UInt8} (h : Run pl i s j) : s ≠ [] := by
  rintro rfl
  exact h
theorem Run.one {pl : List Pl} {i : Nat} {p : Pl} {c : UInt8} (h1 : pl[i]? = some p) (h2 : p.has c = true) : Run pl i [c] i := ⟨rfl, p, h1, h2⟩
theorem Run.cons {pl : List Pl} {i k j : Nat} {p : Pl} {c : UInt8} {s : List UInt8} (h1 : pl[i]? = some p) (h2 : p.has c = true) (h3 : p.nx.testBit k = true) (h4 : Run pl k s j) : Run pl i (c :: s) j := by
  cases s with
  | nil => exact absurd rfl h4.ne
  | cons d s => exact ⟨p, k, h1, h2, h3, h4⟩
theorem Run.ind {pl : List Pl} {motive : (i : Nat) → (s : List UInt8) → (j : Nat) → Run pl i s j → Prop} (one : ∀ {i : Nat} {p : Pl} {c : UInt8} (h1 : pl[i]? = some p) (h2 : p.has c = true), motive i [c] i (Run.one h1 h2))
    (cons : ∀ {i k j : Nat} {p : Pl} {c : UInt8} {s : List UInt8} (h1 : pl[i]? = some p) (h2 : p.has c = true) (h3 : p.nx.testBit k = true) (h4 : Run pl k s j), motive k s j h4 → motive i (c :: s) j (Run.cons h1 h2 h3 h4)) {i : Nat} {s : List UInt8} {j : Nat} (h : Run pl i s j) : motive i s j h := by
  induction s generalizing i with
  | nil => exact absurd rfl h.ne
  | cons c s ih =>
    cases s with
    | nil =>
      obtain ⟨rfl, p, h1, h2⟩ := h
      exact one h1 h2
    | cons d s =>
      obtain ⟨p, k, h1, h2, h3, h4⟩ := h
      exact cons h1 h2 h3 h4 (ih h4)

def Acc (pl : List Pl) (P : Pc) (s : List UInt8) : Prop := (s = [] ∧ P.empty = true) ∨ ∃ i j, P.first.testBit i = true ∧ P.last.testBit j = true ∧ Run pl i s j

theorem Acc.nil {pl : List Pl} {P : Pc} : Acc pl P [] ↔ P.empty = true :=
  ⟨fun h => by
    rcases h with h | ⟨i, j, -, -, h⟩
    · exact h.2
    · exact absurd rfl h.ne, fun h => .inl ⟨rfl, h⟩⟩

/-- One byte more at the end. -/
theorem Run.snoc {pl : List Pl} {i : Nat} {s : List UInt8} {c : UInt8} {j : Nat} (hs : s ≠ []) : Run pl i (s ++ [c]) j ↔ ∃ k p q, Run pl i s k ∧ pl[k]? = some p ∧ p.nx.testBit j = true ∧ pl[j]? = some q ∧ q.has c = true := by
  constructor
  · intro h
    generalize hu : s ++ [c] = u at h
    induction h using Run.ind generalizing s with
    | one h1 h2 =>
      cases s with
      | nil => exact absurd rfl hs
      | cons a r => simp at hu
    | @cons i k j p d u h1 h2 h3 h4 ih =>
      cases s with
      | nil => exact absurd rfl hs
      | cons a r =>
        simp only [List.cons_append, List.cons.injEq] at hu
        obtain ⟨rfl, hu⟩ := hu
        cases r with
        | nil =>
          simp only [List.nil_append] at hu
          subst hu
          obtain ⟨rfl, q, g1, g2⟩ := h4
          exact ⟨i, p, _, .one h1 h2, h1, h3, g1, g2⟩
        | cons b r =>
          obtain ⟨k', p', q', g1, g2, g3, g4, g5⟩ := ih (by simp) hu
          exact ⟨k', p', q', .cons h1 h2 h3 g1, g2, g3, g4, g5⟩
  · rintro ⟨k, p, q, h, h1, h2, h3, h4⟩
    induction h using Run.ind with
    | one g1 g2 =>
      obtain rfl := Option.some.inj (g1.symm.trans h1)
      exact .cons g1 g2 h2 (.one h3 h4)
    | cons g1 g2 g3 g4 ih => exact .cons g1 g2 g3 (ih g4.ne h1)

/-- Where the places within a range stand as they were, so does what runs there. -/
theorem Run.within {pl pl' : List Pl} {lo hi : Nat} (he : ∀ i, lo ≤ i → i < hi → pl'[i]? = pl[i]?) (hn : ∀ i p, lo ≤ i → i < hi → pl[i]? = some p → ∀ j, p.nx.testBit j = true → lo ≤ j ∧ j < hi) {i j : Nat} {s : List UInt8} (h : Run pl i s j) (h1 : lo ≤ i) (h2 : i < hi) : Run pl' i s j := by
  induction h using Run.ind with
  | one g1 g2 => exact .one ((he _ h1 h2).trans g1) g2
  | cons g1 g2 g3 g4 ih =>
    obtain ⟨k1, k2⟩ := hn _ _ h1 h2 g1 _ g3
    exact .cons ((he _ h1 h2).trans g1) g2 g3 (ih k1 k2)

structure Frag (pl : List Pl) (lo hi : Nat) (P : Pc) (A : Lang) : Prop where
  le : lo ≤ hi
  len : hi ≤ pl.length
  first : ∀ i, P.first.testBit i = true → lo ≤ i ∧ i < hi
  last : ∀ i, P.last.testBit i = true → lo ≤ i ∧ i < hi
  next : ∀ i p, lo ≤ i → i < hi → pl[i]? = some p → ∀ j, p.nx.testBit j = true → lo ≤ j ∧ j < hi
  lang : ∀ s, Acc pl P s ↔ A s

theorem Frag.as {pl : List Pl} {lo hi : Nat} {P : Pc} {A B : Lang} (h : Frag pl lo hi P A) (e : ∀ s, A s ↔ B s) : Frag pl lo hi P B := ⟨h.le, h.len, h.first, h.last, h.next, fun s => (h.lang s).trans (e s)⟩

theorem Frag.mono {pl pl' : List Pl} {lo hi : Nat} {P : Pc} {A : Lang} (h : Frag pl lo hi P A) (hl : hi ≤ pl'.length) (he : ∀ i, lo ≤ i → i < hi → pl'[i]? = pl[i]?) : Frag pl' lo hi P A := by
  have hn' : ∀ i p, lo ≤ i → i < hi → pl'[i]? = some p → ∀ j, p.nx.testBit j = true → lo ≤ j ∧ j < hi := fun i p h1 h2 h3 => h.next i p h1 h2 ((he i h1 h2).symm.trans h3)
  refine ⟨h.le, hl, h.first, h.last, hn', fun s => Iff.trans ?_ (h.lang s)⟩
  constructor
  · rintro (h1 | ⟨i, j, h1, h2, h3⟩)
    · exact .inl h1
    · obtain ⟨g1, g2⟩ := h.first i h1
      exact .inr ⟨i, j, h1, h2, Run.within (fun i a b => (he i a b).symm) hn' h3 g1 g2⟩
  · rintro (h1 | ⟨i, j, h1, h2, h3⟩)
    · exact .inl h1
    · obtain ⟨g1, g2⟩ := h.first i h1
      exact .inr ⟨i, j, h1, h2, Run.within he h.next h3 g1 g2⟩

theorem Frag.eps (pl : List Pl) (lo : Nat) (h : lo ≤ pl.length) : Frag pl lo lo ⟨0, 0, true⟩ epsL :=
  ⟨Nat.le_refl _, h, fun i h => by simp at h, fun i h => by simp at h, fun i p h1 h2 => by omega, fun s => by
    constructor
    · rintro (h1 | ⟨i, j, h1, -, -⟩)
      · exact h1.1
      · simp at h1
    · intro h; exact .inl ⟨h, rfl⟩⟩

theorem testBit_pow (n i : Nat) : (2 ^ n).testBit i = decide (n = i) := by
  rw [Nat.testBit_two_pow]

theorem Frag.place (pl : List Pl) (p : Pl) (T : UInt8 → Bool) (hn : p.nx = 0) (hT : ∀ c, p.has c = T c) : Frag (pl ++ [p]) pl.length (pl.length + 1) ⟨2 ^ pl.length, 2 ^ pl.length, false⟩ (setL T) := by
  have hp : (pl ++ [p])[pl.length]? = some p := by simp
  refine ⟨by omega, by simp, fun i h => ?_, fun i h => ?_, fun i q h1 h2 h3 j hj => ?_, fun s => ?_⟩
  · rw [testBit_pow] at h; have := of_decide_eq_true h; omega
  · rw [testBit_pow] at h; have := of_decide_eq_true h; omega
  · obtain rfl : i = pl.length := by omega
    obtain rfl := Option.some.inj (hp.symm.trans h3)
    rw [hn] at hj
    simp at hj
  · constructor
    · rintro (h1 | ⟨i, j, h1, h2, h3⟩)
      · simp at h1
      · rw [testBit_pow] at h1
        obtain rfl := of_decide_eq_true h1
        cases s with
        | nil => exact absurd rfl h3.ne
        | cons c s =>
          cases s with
          | nil =>
            obtain ⟨-, q, g1, g2⟩ := h3
            obtain rfl := Option.some.inj (hp.symm.trans g1)
            exact ⟨_, rfl, by rw [← hT]; exact g2⟩
          | cons d s =>
            obtain ⟨q, k, g1, g2, g3, g4⟩ := h3
            obtain rfl := Option.some.inj (hp.symm.trans g1)
            rw [hn] at g3
            simp at g3
    · rintro ⟨c, rfl, hc⟩
      exact .inr ⟨pl.length, pl.length, by simp, by simp, .one hp (by rw [hT]; exact hc)⟩

/-- Some places follow on others. -/
def linkL (pl : List Pl) (fr to : Nat) : List Pl := pl.mapIdx fun i p => if fr.testBit i = true then { p with nx := p.nx ||| to } else p

theorem linkL_len (pl : List Pl) (fr to : Nat) : (linkL pl fr to).length = pl.length := by simp [linkL]
theorem linkL_get (pl : List Pl) (fr to : Nat) (i : Nat) : (linkL pl fr to)[i]? = (pl[i]?).map fun p => if fr.testBit i = true then { p with nx := p.nx ||| to } else p := by simp [linkL]
theorem linkL_no (pl : List Pl) (fr to : Nat) (i : Nat) (h : fr.testBit i = false) : (linkL pl fr to)[i]? = pl[i]? := by
  rw [linkL_get, h]; simp

/-- A step of the linked places: an elder one, or a new one. -/
theorem linkL_step {pl : List Pl} {fr to i : Nat} {q : Pl} (h : (linkL pl fr to)[i]? = some q) : ∃ p, pl[i]? = some p ∧ (∀ c, q.has c = p.has c) ∧ ∀ k, q.nx.testBit k = true ↔ p.nx.testBit k = true ∨ (fr.testBit i = true ∧ to.testBit k = true) := by
  rw [linkL_get, Option.map_eq_some_iff] at h
  obtain ⟨p, hp, rfl⟩ := h
  refine ⟨p, hp, fun c => ?_, fun k => ?_⟩
  · split <;> rfl
  · split
    · rename_i hf
      rw [Nat.testBit_or]
      simp [hf]
    · rename_i hf
      simp [hf]
theorem linkL_of {pl : List Pl} (fr to : Nat) {i : Nat} {p : Pl} (h : pl[i]? = some p) : ∃ q, (linkL pl fr to)[i]? = some q ∧ (∀ c, q.has c = p.has c) ∧ ∀ k, q.nx.testBit k = true ↔ p.nx.testBit k = true ∨ (fr.testBit i = true ∧ to.testBit k = true) := by
  obtain ⟨q, hq⟩ : ∃ q, (linkL pl fr to)[i]? = some q := by rw [linkL_get, h]; exact ⟨_, rfl⟩
  obtain ⟨p', hp', h1, h2⟩ := linkL_step hq
  obtain rfl := Option.some.inj (h.symm.trans hp')
  exact ⟨q, hq, h1, h2⟩
theorem Run.linked {pl : List Pl} (fr to : Nat) {i j : Nat} {s : List UInt8} (h : Run pl i s j) : Run (linkL pl fr to) i s j := by
  induction h using Run.ind with
  | one g1 g2 => obtain ⟨q, h1, h2, h3⟩ := linkL_of fr to g1; exact .one h1 (by rw [h2]; exact g2)
  | cons g1 g2 g3 g4 ih => obtain ⟨q, h1, h2, h3⟩ := linkL_of fr to g1; exact .cons h1 (by rw [h2]; exact g2) ((h3 _).2 (.inl g3)) ih
/-- Two runs, over a new link. -/
theorem Run.over {pl : List Pl} {fr to : Nat} {i j k m : Nat} {s t : List UInt8} (h1 : Run (linkL pl fr to) i s j) (hj : fr.testBit j = true) (hk : to.testBit k = true) (h2 : Run (linkL pl fr to) k t m) : Run (linkL pl fr to) i (s ++ t) m := by
  induction h1 using Run.ind with
  | one g1 g2 => obtain ⟨p, e1, e2, e3⟩ := linkL_step g1; exact .cons g1 g2 ((e3 _).2 (.inr ⟨hj, hk⟩)) h2
  | cons g1 g2 g3 g4 ih => exact .cons g1 g2 g3 (ih hj)

def joinP (a b : Pc) : Pc := ⟨if a.empty then a.first ||| b.first else a.first, if b.empty then b.last ||| a.last else b.last, a.empty && b.empty⟩
def eitherP (a b : Pc) : Pc := ⟨a.first ||| b.first, a.last ||| b.last, a.empty || b.empty⟩
def maybeP (a : Pc) : Pc := { a with empty := true }

theorem joinP_first (a b : Pc) (i : Nat) : (joinP a b).first.testBit i = true ↔ a.first.testBit i = true ∨ (a.empty = true ∧ b.first.testBit i = true) := by
  unfold joinP
  cases h : a.empty <;> simp [Nat.testBit_or]
theorem joinP_last (a b : Pc) (i : Nat) : (joinP a b).last.testBit i = true ↔ b.last.testBit i = true ∨ (b.empty = true ∧ a.last.testBit i = true) := by
  unfold joinP
  cases h : b.empty <;> simp [Nat.testBit_or]

/-- A run that begins in the first range, over links from there to the second one. -/
theorem Run.split {pl : List Pl} {lo mid hi : Nat} {a b : Pc} {A B : Lang} (ha : Frag pl lo mid a A) (hb : Frag pl mid hi b B) {i j : Nat} {s : List UInt8} (h : Run (linkL pl a.last b.first) i s j) :
    (mid ≤ i → i < hi → Run pl i s j ∧ mid ≤ j ∧ j < hi) ∧ (lo ≤ i → i < mid → (Run pl i s j ∧ lo ≤ j ∧ j < mid) ∨ ∃ u v k m, s = u ++ v ∧ Run pl i u k ∧ a.last.testBit k = true ∧ b.first.testBit m = true ∧ Run pl m v j ∧ mid ≤ j ∧ j < hi) := by
  induction h using Run.ind with
  | one g1 g2 =>
    obtain ⟨p, e1, e2, e3⟩ := linkL_step g1
    rw [e2] at g2
    exact ⟨fun h1 h2 => ⟨.one e1 g2, h1, h2⟩, fun h1 h2 => .inl ⟨.one e1 g2, h1, h2⟩⟩
  | @cons i k j q c s g1 g2 g3 g4 ih =>
    obtain ⟨p, e1, e2, e3⟩ := linkL_step g1
    rw [e2] at g2
    refine ⟨fun h1 h2 => ?_, fun h1 h2 => ?_⟩
    · rcases (e3 k).1 g3 with h3 | ⟨h3, -⟩
      · obtain ⟨k1, k2⟩ := hb.next _ _ h1 h2 e1 _ h3
        obtain ⟨r1, r2⟩ := ih.1 k1 k2
        exact ⟨.cons e1 g2 h3 r1, r2⟩
      · have := (ha.last _ h3).2; omega
    · rcases (e3 k).1 g3 with h3 | ⟨h3, h4⟩
      · obtain ⟨k1, k2⟩ := ha.next _ _ h1 h2 e1 _ h3
        rcases ih.2 k1 k2 with ⟨r1, r2⟩ | ⟨u, v, k', m, rfl, r1, r2, r3, r4, r5⟩
        · exact .inl ⟨.cons e1 g2 h3 r1, r2⟩
        · exact .inr ⟨c :: u, v, k', m, rfl, .cons e1 g2 h3 r1, r2, r3, r4, r5⟩
      · obtain ⟨k1, k2⟩ := hb.first _ h4
        obtain ⟨r1, r2⟩ := ih.1 k1 k2
        exact .inr ⟨[c], s, i, k, rfl, .one e1 g2, h3, h4, r1, r2⟩

theorem Frag.join {pl : List Pl} {lo mid hi : Nat} {a b : Pc} {A B : Lang} (ha : Frag pl lo mid a A) (hb : Frag pl mid hi b B) : Frag (linkL pl a.last b.first) lo hi (joinP a b) (catL A B) := by
  have hl1 := ha.le
  have hl2 := hb.le
  refine ⟨by omega, by rw [linkL_len]; exact hb.len, fun i h => ?_, fun i h => ?_, fun i q h1 h2 h3 j hj => ?_, fun s => ?_⟩
  · rcases (joinP_first a b i).1 h with h | ⟨-, h⟩
    · have := ha.first i h; omega
    · have := hb.first i h; omega
  · rcases (joinP_last a b i).1 h with h | ⟨-, h⟩
    · have := hb.last i h; omega
    · have := ha.last i h; omega
  · obtain ⟨p, e1, e2, e3⟩ := linkL_step h3
    rcases (e3 j).1 hj with h | ⟨-, h⟩
    · rcases Nat.lt_or_ge i mid with hm | hm
      · have := ha.next i p h1 hm e1 j h; omega
      · have := hb.next i p hm h2 e1 j h; omega
    · have := hb.first j h; omega
  · constructor
    · rintro (⟨rfl, h⟩ | ⟨i, j, h1, h2, h3⟩)
      · simp only [joinP, Bool.and_eq_true] at h
        exact ⟨[], [], rfl, (ha.lang _).1 (.inl ⟨rfl, h.1⟩), (hb.lang _).1 (.inl ⟨rfl, h.2⟩)⟩
      · have hs := Run.split ha hb h3
        rcases (joinP_first a b i).1 h1 with h1 | ⟨he, h1⟩
        · obtain ⟨k1, k2⟩ := ha.first i h1
          rcases hs.2 k1 k2 with ⟨r1, r2, r3⟩ | ⟨u, v, k, m, rfl, r1, r2, r3, r4, r5, r6⟩
          · rcases (joinP_last a b j).1 h2 with h2 | ⟨he, h2⟩
            · have := hb.last j h2; omega
            · exact ⟨s, [], by simp, (ha.lang _).1 (.inr ⟨i, j, h1, h2, r1⟩), (hb.lang _).1 (.inl ⟨rfl, he⟩)⟩
          · rcases (joinP_last a b j).1 h2 with h2 | ⟨he, h2⟩
            · exact ⟨u, v, rfl, (ha.lang _).1 (.inr ⟨i, k, h1, r2, r1⟩), (hb.lang _).1 (.inr ⟨m, j, r3, h2, r4⟩)⟩
            · have := ha.last j h2; omega
        · obtain ⟨k1, k2⟩ := hb.first i h1
          obtain ⟨r1, r2, r3⟩ := hs.1 k1 k2
          rcases (joinP_last a b j).1 h2 with h2 | ⟨_, h2⟩
          · exact ⟨[], s, rfl, (ha.lang _).1 (.inl ⟨rfl, he⟩), (hb.lang _).1 (.inr ⟨i, j, h1, h2, r1⟩)⟩
          · have := ha.last j h2; omega
    · rintro ⟨u, v, rfl, hu, hv⟩
      rcases (ha.lang _).2 hu with ⟨rfl, h1⟩ | ⟨i, j, h1, h2, h3⟩
      · rcases (hb.lang _).2 hv with ⟨rfl, g1⟩ | ⟨k, m, g1, g2, g3⟩
        · exact .inl ⟨rfl, by simp [joinP, h1, g1]⟩
        · exact .inr ⟨k, m, (joinP_first a b k).2 (.inr ⟨h1, g1⟩), (joinP_last a b m).2 (.inl g2), g3.linked _ _⟩
      · rcases (hb.lang _).2 hv with ⟨rfl, g1⟩ | ⟨k, m, g1, g2, g3⟩
        · rw [List.append_nil]
          exact .inr ⟨i, j, (joinP_first a b i).2 (.inl h1), (joinP_last a b j).2 (.inr ⟨g1, h2⟩), h3.linked _ _⟩
        · exact .inr ⟨i, m, (joinP_first a b i).2 (.inl h1), (joinP_last a b m).2 (.inl g2), (h3.linked _ _).over h2 g1 (g3.linked _ _)⟩

theorem Run.rounds {pl : List Pl} {lo hi : Nat} {a : Pc} {A : Lang} (ha : Frag pl lo hi a A) {i j : Nat} {s : List UInt8} (h : Run (linkL pl a.last a.first) i s j) (hj : a.last.testBit j = true) :
    (∃ j', a.last.testBit j' = true ∧ Run pl i s j') ∨ ∃ u v k, s = u ++ v ∧ a.last.testBit k = true ∧ Run pl i u k ∧ PlusL A v := by
  induction h using Run.ind with
  | one g1 g2 =>
    obtain ⟨p, e1, e2, e3⟩ := linkL_step g1
    rw [e2] at g2
    exact .inl ⟨_, hj, .one e1 g2⟩
  | @cons i k j q c s g1 g2 g3 g4 ih =>
    obtain ⟨p, e1, e2, e3⟩ := linkL_step g1
    rw [e2] at g2
    rcases (e3 k).1 g3 with h3 | ⟨h3, h4⟩
    · rcases ih hj with ⟨j', r1, r2⟩ | ⟨u, v, k', rfl, r1, r2, r3⟩
      · exact .inl ⟨j', r1, .cons e1 g2 h3 r2⟩
      · exact .inr ⟨c :: u, v, k', rfl, r1, .cons e1 g2 h3 r2, r3⟩
    · refine .inr ⟨[c], s, i, rfl, h3, .one e1 g2, ?_⟩
      rcases ih hj with ⟨j', r1, r2⟩ | ⟨u, v, k', rfl, r1, r2, r3⟩
      · exact .one ((ha.lang _).1 (.inr ⟨k, j', h4, r1, r2⟩))
      · exact .more ((ha.lang _).1 (.inr ⟨k, k', h4, r1, r2⟩)) r3

theorem Frag.repeat {pl : List Pl} {lo hi : Nat} {a : Pc} {A : Lang} (ha : Frag pl lo hi a A) : Frag (linkL pl a.last a.first) lo hi a (PlusL A) := by
  refine ⟨ha.le, by rw [linkL_len]; exact ha.len, ha.first, ha.last, fun i q h1 h2 h3 j hj => ?_, fun s => ?_⟩
  · obtain ⟨p, e1, e2, e3⟩ := linkL_step h3
    rcases (e3 j).1 hj with h | ⟨-, h⟩
    · exact ha.next i p h1 h2 e1 j h
    · exact ha.first j h
  · constructor
    · rintro (⟨rfl, h⟩ | ⟨i, j, h1, h2, h3⟩)
      · exact .one ((ha.lang _).1 (.inl ⟨rfl, h⟩))
      · rcases Run.rounds ha h3 h2 with ⟨j', r1, r2⟩ | ⟨u, v, k, rfl, r1, r2, r3⟩
        · exact .one ((ha.lang _).1 (.inr ⟨i, j', h1, r1, r2⟩))
        · exact .more ((ha.lang _).1 (.inr ⟨i, k, h1, r1, r2⟩)) r3
    · intro h
      induction h using PlusL.ind with
      | one h1 =>
        rcases (ha.lang _).2 h1 with h | ⟨i, j, h1, h2, h3⟩
        · exact .inl h
        · exact .inr ⟨i, j, h1, h2, h3.linked _ _⟩
      | more h1 _ ih =>
        rcases (ha.lang _).2 h1 with ⟨rfl, h⟩ | ⟨i, j, h1, h2, h3⟩
        · exact ih
        · rcases ih with ⟨rfl, h⟩ | ⟨k, m, g1, g2, g3⟩
          · rw [List.append_nil]
            exact .inr ⟨i, j, h1, h2, h3.linked _ _⟩
          · exact .inr ⟨i, m, h1, g2, (h3.linked _ _).over h2 g1 g3⟩

theorem Frag.maybe {pl : List Pl} {lo hi : Nat} {a : Pc} {A : Lang} (ha : Frag pl lo hi a A) : Frag pl lo hi (maybeP a) (optL A) := by
  refine ⟨ha.le, ha.len, ha.first, ha.last, ha.next, fun s => ?_⟩
  constructor
  · rintro (⟨rfl, h⟩ | h)
    · exact .inl rfl
    · exact .inr ((ha.lang _).1 (.inr h))
  · rintro (rfl | h)
    · exact .inl ⟨rfl, rfl⟩
    · rcases (ha.lang _).2 h with ⟨rfl, h⟩ | h
      · exact .inl ⟨rfl, rfl⟩
      · exact .inr h

theorem Frag.either {pl : List Pl} {lo mid hi : Nat} {a b : Pc} {A B : Lang} (ha : Frag pl lo mid a A) (hb : Frag pl mid hi b B) : Frag pl lo hi (eitherP a b) (altL A B) := by
  have hl1 := ha.le
  have hl2 := hb.le
  have hbit : ∀ x y i : Nat, (x ||| y).testBit i = true ↔ x.testBit i = true ∨ y.testBit i = true := fun x y i => by rw [Nat.testBit_or]; simp
  refine ⟨by omega, hb.len, fun i h => ?_, fun i h => ?_, fun i p h1 h2 h3 j hj => ?_, fun s => ?_⟩
  · rcases (hbit _ _ _).1 h with h | h
    · have := ha.first i h; omega
    · have := hb.first i h; omega
  · rcases (hbit _ _ _).1 h with h | h
    · have := ha.last i h; omega
    · have := hb.last i h; omega
  · rcases Nat.lt_or_ge i mid with hm | hm
    · have := ha.next i p h1 hm h3 j hj; omega
    · have := hb.next i p hm h2 h3 j hj; omega
  · have hin : ∀ {lo hi : Nat} {P : Pc} {C : Lang}, Frag pl lo hi P C → ∀ {i j s}, Run pl i s j → lo ≤ i → i < hi → lo ≤ j ∧ j < hi := by
      intro lo hi P C hF i j s h
      induction h using Run.ind with
      | one _ _ => intro h1 h2; exact ⟨h1, h2⟩
      | cons g1 _ g3 _ ih => intro h1 h2; obtain ⟨k1, k2⟩ := hF.next _ _ h1 h2 g1 _ g3; exact ih k1 k2
    constructor
    · rintro (⟨rfl, h⟩ | ⟨i, j, h1, h2, h3⟩)
      · simp only [eitherP, Bool.or_eq_true] at h
        rcases h with h | h
        · exact .inl ((ha.lang _).1 (.inl ⟨rfl, h⟩))
        · exact .inr ((hb.lang _).1 (.inl ⟨rfl, h⟩))
      · rcases (hbit _ _ _).1 h1 with h1 | h1
        · obtain ⟨k1, k2⟩ := ha.first i h1
          have := hin ha h3 k1 k2
          rcases (hbit _ _ _).1 h2 with h2 | h2
          · exact .inl ((ha.lang _).1 (.inr ⟨i, j, h1, h2, h3⟩))
          · have := hb.last j h2; omega
        · obtain ⟨k1, k2⟩ := hb.first i h1
          have := hin hb h3 k1 k2
          rcases (hbit _ _ _).1 h2 with h2 | h2
          · have := ha.last j h2; omega
          · exact .inr ((hb.lang _).1 (.inr ⟨i, j, h1, h2, h3⟩))
    · rintro (h | h)
      · rcases (ha.lang _).2 h with ⟨rfl, he⟩ | ⟨i, j, h1, h2, h3⟩
        · exact .inl ⟨rfl, by simp [eitherP, he]⟩
        · exact .inr ⟨i, j, (hbit _ _ _).2 (.inl h1), (hbit _ _ _).2 (.inl h2), h3⟩
      · rcases (hb.lang _).2 h with ⟨rfl, he⟩ | ⟨i, j, h1, h2, h3⟩
        · exact .inl ⟨rfl, by simp [eitherP, he]⟩
        · exact .inr ⟨i, j, (hbit _ _ _).2 (.inr h1), (hbit _ _ _).2 (.inr h2), h3⟩

end Go.Proofs.YtmanjegdgjeeiaaGreatDoor
namespace Go.Proofs.YtmanjegdgjeeiaaGreatDoor

/-- The special bytes. -/
def specs : List UInt8 := [40, 41, 91, 93, 124, 42, 43, 63, 46, 92]
def isSpec (c : UInt8) : Bool := specs.contains c

abbrev BSet := UInt8 → Bool
def noneB : BSet := fun _ => false
def addB (T : BSet) (a b : UInt8) : BSet := fun c => T c || (decide (a ≤ c) && decide (c ≤ b))
def notB (T : BSet) : BSet := fun c => !T c

/-- A byte of an item. -/
def pByte (l : List UInt8) : Option (UInt8 × List UInt8) :=
  match l with
  | [] => none
  | c :: l => if c = 93 then none else if c = 92 then (match l with | [] => none | d :: l' => some (d, l')) else some (c, l)

/-- Is a - there that has an item's second byte behind it? -/
def rangeB (l : List UInt8) : Bool :=
  match l with
  | c :: d :: _ => c == 45 && d != 93
  | _ => false

def pItem (T : BSet) (l : List UInt8) : Option (BSet × List UInt8) :=
  match pByte l with
  | none => none
  | some (a, l1) => if rangeB l1 = true then (match pByte (l1.drop 1) with | none => none | some (b, l2) => if b < a then none else some (addB T a b, l2)) else some (addB T a a, l1)

def pItems : Nat → BSet → List UInt8 → Option (BSet × List UInt8)
  | 0, _, _ => none
  | n + 1, T, l => match pItem T l with
    | none => none
    | some (T', l') => if l'.head? = some 93 then some (T', l'.drop 1) else pItems n T' l'

def pSet (l : List UInt8) : Option (BSet × List UInt8) :=
  if l.head? = some 94 then (match pItems l.length noneB (l.drop 1) with | none => none | some (T, l') => some (notB T, l')) else pItems (l.length + 1) noneB l

def pSuf (A : Lang) : List UInt8 → Lang × List UInt8
  | [] => (A, [])
  | c :: l => if c = 42 then pSuf (optL (PlusL A)) l else if c = 43 then pSuf (PlusL A) l else if c = 63 then pSuf (optL A) l else (A, c :: l)

def pAtom (inner : List UInt8 → Option (Lang × List UInt8)) (l : List UInt8) : Option (Lang × List UInt8) :=
  match l with
  | [] => none
  | c :: l => if c = 40 then (match inner l with | none => none | some (A, l') => if l'.head? = some 41 then some (A, l'.drop 1) else none)
    else if c = 91 then (match pSet l with | none => none | some (T, l') => some (setL T, l'))
    else if c = 46 then some (setL (notB noneB), l)
    else if c = 92 then (match l with | [] => none | d :: l' => some (setL (addB noneB d d), l'))
    else if isSpec c = true then none
    else some (setL (addB noneB c c), l)

def pPart (inner : List UInt8 → Option (Lang × List UInt8)) (l : List UInt8) : Option (Lang × List UInt8) :=
  match pAtom inner l with
  | none => none
  | some (A, l') => some (pSuf A l')

/-- Does a row end here? -/
def rowEnd (l : List UInt8) : Bool :=
  match l with
  | [] => true
  | c :: _ => c == 124 || c == 41

def pLoop : Nat → Lang → Lang → List UInt8 → Option (Lang × List UInt8)
  | 0, _, _, _ => none
  | n + 1, R, r, l =>
    if rowEnd l = true then (if l.head? = some 124 then pLoop n (altL R r) epsL (l.drop 1) else some (altL R r, l))
    else match pPart (pLoop n noL epsL) l with
      | none => none
      | some (A, l') => pLoop n R (catL r A) l'

def pParse (l : List UInt8) : Option Lang :=
  match pLoop (l.length + 1) noL epsL l with
  | none => none
  | some (A, l') => if l' = [] then some A else none

/- What is left is less. -/
theorem pByte_len {l l' : List UInt8} {c : UInt8} (h : pByte l = some (c, l')) : l'.length < l.length := by
  unfold pByte at h
  split at h
  · cases h
  · split at h
    · cases h
    · split at h
      · split at h
        · cases h
        · injection h with h; injection h with h1 h2; subst h2; simp only [List.length_cons]; omega
      · injection h with h; injection h with h1 h2; subst h2; simp
theorem pItem_len {T T' : BSet} {l l' : List UInt8} (h : pItem T l = some (T', l')) : l'.length < l.length := by
  unfold pItem at h
  split at h
  · cases h
  · rename_i a l1 h1
    have g1 := pByte_len h1
    split at h
    · split at h
      · cases h
      · rename_i b l2 h2
        have g2 := pByte_len h2
        split at h
        · cases h
        · injection h with h; injection h with h3 h4; subst h4
          simp only [List.length_drop] at g2
          omega
    · injection h with h; injection h with h3 h4; subst h4; exact g1
theorem pItems_len {n : Nat} {T T' : BSet} {l l' : List UInt8} (h : pItems n T l = some (T', l')) : l'.length < l.length := by
  induction n generalizing T l with
  | zero => cases h
  | succ n ih =>
    unfold pItems at h
    split at h
    · cases h
    · rename_i T1 l1 h1
      have g1 := pItem_len h1
      split at h
      · injection h with h; injection h with h3 h4; subst h4
        simp only [List.length_drop]
        omega
      · have := ih h; omega
theorem pSet_len {T : BSet} {l l' : List UInt8} (h : pSet l = some (T, l')) : l'.length < l.length := by
  unfold pSet at h
  split at h
  · split at h
    · cases h
    · rename_i T1 l1 h1
      have g1 := pItems_len h1
      injection h with h; injection h with h3 h4; subst h4
      simp only [List.length_drop] at g1
      omega
  · exact pItems_len h
theorem pSuf_len (A : Lang) (l : List UInt8) : (pSuf A l).2.length ≤ l.length := by
  induction l generalizing A with
  | nil => exact Nat.le_refl _
  | cons c l ih =>
    unfold pSuf
    split
    · have := ih (optL (PlusL A)); simp only [List.length_cons]; omega
    · split
      · have := ih (PlusL A); simp only [List.length_cons]; omega
      · split
        · have := ih (optL A); simp only [List.length_cons]; omega
        · exact Nat.le_refl _
theorem pAtom_len {inner : List UInt8 → Option (Lang × List UInt8)} (hi : ∀ l A l', inner l = some (A, l') → l'.length ≤ l.length) {l l' : List UInt8} {A : Lang} (h : pAtom inner l = some (A, l')) : l'.length < l.length := by
  unfold pAtom at h
  split at h
  · cases h
  · rename_i c l
    split at h
    · split at h
      · cases h
      · rename_i A1 l1 h1
        have := hi _ _ _ h1
        split at h
        · injection h with h; injection h with h3 h4; subst h4
          simp only [List.length_drop, List.length_cons]
          omega
        · cases h
    · split at h
      · split at h
        · cases h
        · rename_i T l1 h1
          have := pSet_len h1
          injection h with h; injection h with h3 h4; subst h4
          simp only [List.length_cons]
          omega
      · split at h
        · injection h with h; injection h with h3 h4; subst h4; simp
        · split at h
          · split at h
            · cases h
            · injection h with h; injection h with h3 h4; subst h4; simp only [List.length_cons]; omega
          · split at h
            · cases h
            · injection h with h; injection h with h3 h4; subst h4; simp
theorem pPart_len {inner : List UInt8 → Option (Lang × List UInt8)} (hi : ∀ l A l', inner l = some (A, l') → l'.length ≤ l.length) {l l' : List UInt8} {A : Lang} (h : pPart inner l = some (A, l')) : l'.length < l.length := by
  unfold pPart at h
  split at h
  · cases h
  · rename_i A1 l1 h1
    have g1 := pAtom_len hi h1
    have g2 := pSuf_len A1 l1
    injection h with h
    rw [h] at g2
    simp only at g2
    omega
theorem pLoop_len {n : Nat} {R r A : Lang} {l l' : List UInt8} (h : pLoop n R r l = some (A, l')) : l'.length ≤ l.length := by
  induction n generalizing R r l A l' with
  | zero => cases h
  | succ n ih =>
    unfold pLoop at h
    split at h
    · split at h
      · have := ih h; simp only [List.length_drop] at this; omega
      · injection h with h; injection h with h3 h4; subst h4; exact Nat.le_refl _
    · split at h
      · cases h
      · rename_i A1 l1 h1
        have g1 := pPart_len (fun l A l' hh => ih hh) h1
        have := ih h
        omega

/- The steps of a row, and of rows. -/
theorem pLoop_part {n : Nat} {R r A : Lang} {l l' : List UInt8} (he : rowEnd l = false) (h : pPart (pLoop n noL epsL) l = some (A, l')) : pLoop (n + 1) R r l = pLoop n R (catL r A) l' := by
  rw [pLoop, he, h]; rfl
theorem pLoop_part_no {n : Nat} {R r : Lang} {l : List UInt8} (he : rowEnd l = false) (h : pPart (pLoop n noL epsL) l = none) : pLoop (n + 1) R r l = none := by
  rw [pLoop, he, h]; rfl
theorem pLoop_bar {n : Nat} {R r : Lang} (l : List UInt8) : pLoop (n + 1) R r (124 :: l) = pLoop n (altL R r) epsL l := by
  rw [pLoop]; rfl
theorem pLoop_end {n : Nat} {R r : Lang} {l : List UInt8} (he : rowEnd l = true) (hb : l.head? ≠ some 124) : pLoop (n + 1) R r l = some (altL R r, l) := by
  rw [pLoop, if_pos he, if_neg hb]

end Go.Proofs.YtmanjegdgjeeiaaGreatDoor
namespace Go.Proofs.YtmanjegdgjeeiaaGreatDoor
open Go.RowKit

/-- The panic that gives a pattern up. -/
abbrev gaveUp : Ending := .panicked [{ v := .iface 36 (.int .i64 9), recovered := false }]

theorem giveUp_any (w : World) : Calls Tryz.prog 155 #[] w fun e w' => e = gaveUp ∧ w' = w := by
  go_enter Tryz.func155, Tryz.ntmps155
  go_wp2
  exact ⟨rfl, rfl, rfl⟩

/-- The reader's block: its pattern, and how much of it is read. -/
def XdBlk (w : World) (rb xb : Nat) (s : ByteArray) (k : Nat) : Prop :=
  w.heap[rb]? = some (.cells #[.pointer (some ⟨xb, 0, none⟩), .string s, .int .i64 (k : Int)] 207 (0, 0))

theorem XdBlk.cell0 {w : World} {rb xb : Nat} {s : ByteArray} {k : Nat} (h : XdBlk w rb xb s k) : w.cell? ⟨rb, 0, none⟩ = some (.pointer (some ⟨xb, 0, none⟩)) := by
  unfold XdBlk at h; simp [World.cell?, h]
theorem XdBlk.cell1 {w : World} {rb xb : Nat} {s : ByteArray} {k : Nat} (h : XdBlk w rb xb s k) : w.cell? ⟨rb, 1, none⟩ = some (.string s) := by
  unfold XdBlk at h; simp [World.cell?, h]
theorem XdBlk.cell2 {w : World} {rb xb : Nat} {s : ByteArray} {k : Nat} (h : XdBlk w rb xb s k) : w.cell? ⟨rb, 2, none⟩ = some (.int .i64 (k : Int)) := by
  unfold XdBlk at h; simp [World.cell?, h]
theorem XdBlk.frozen {w : World} {rb xb : Nat} {s : ByteArray} {k : Nat} (h : XdBlk w rb xb s k) (i : Nat) : w.frozen? ⟨rb, i, none⟩ = false := by
  unfold XdBlk at h; simp [World.frozen?, h]
theorem XdBlk.lt {w : World} {rb xb : Nat} {s : ByteArray} {k : Nat} (h : XdBlk w rb xb s k) : rb < w.heap.size := (Array.getElem?_eq_some_iff.1 h).1
theorem XdBlk.set2 {w : World} {rb xb : Nat} {s : ByteArray} {k : Nat} (h : XdBlk w rb xb s k) (k' : Nat) : XdBlk (w.setCell ⟨rb, 2, none⟩ (.int .i64 (k' : Int))) rb xb s k' := by
  unfold XdBlk at h ⊢; simp [World.setCell, Array.getElem?_modify, h]

/-- What is left of a pattern, of which k bytes are read. -/
structure Left (s : ByteArray) (k : Nat) (l : List UInt8) : Prop where
  le : s.size ≤ 64
  eq : k + l.length = s.size
  drop : s.data.toList.drop k = l

theorem Left.nil {s : ByteArray} {k : Nat} (h : Left s k []) : k = s.size := by have := h.eq; simpa using this
theorem Left.lt {s : ByteArray} {k : Nat} {c : UInt8} {l : List UInt8} (h : Left s k (c :: l)) : k < s.size := by have := h.eq; simp at this; omega
theorem Left.get {s : ByteArray} {k : Nat} {c : UInt8} {l : List UInt8} (h : Left s k (c :: l)) : s[k]'h.lt = c := by
  have h1 : s.data.toList[k]? = some c := by
    have := h.drop
    rw [← List.head?_drop, this]; rfl
  have h2 : k < s.data.toList.length := by simpa using h.lt
  rw [List.getElem?_eq_getElem h2, Option.some.injEq] at h1
  exact h1
theorem Left.next {s : ByteArray} {k : Nat} {c : UInt8} {l : List UInt8} (h : Left s k (c :: l)) : Left s (k + 1) l := by
  refine ⟨h.le, by have := h.eq; simp at this; omega, ?_⟩
  rw [← List.drop_drop, h.drop]; rfl


theorem xgrown_setCell (w : World) (rb i : Nat) (v : Value) : w.grownBy (w.setCell ⟨rb, i, none⟩ v) (some rb) :=
  ⟨rfl, rfl, rfl, by simp [World.setCell], fun k _ hk => Below.heap_setCell _ _ _ _ (by intro e; exact hk (by rw [e]))⟩
theorem xgrown_trans {a b c : World} {r : Option Nat} (h : a.grownBy b r) (k : b.grownBy c r) : a.grownBy c r :=
  ⟨k.os.trans h.os, k.tape.trans h.tape, k.output.trans h.output, Nat.le_trans h.size k.size, fun i hi hr => (k.block i (Nat.lt_of_lt_of_le hi h.size) hr).trans (h.block i hi hr)⟩
theorem xgrown_of_below {w w' : World} {r : Option Nat} (h : Below w.heap.size w w') : w.grownBy w' r := ⟨h.os, h.tape, h.output, h.size, fun k hk _ => h.block k hk⟩
theorem grown_like {w a b : World} {r : Option Nat} (h : w.grownBy a r) (ho : b.os = a.os) (ht : b.tape = a.tape) (hu : b.output = a.output) (hh : b.heap = a.heap) : w.grownBy b r :=
  ⟨ho.trans h.os, ht.trans h.tape, hu.trans h.output, by rw [hh]; exact h.size, fun k h1 h2 => by rw [hh]; exact h.block k h1 h2⟩
theorem XdBlk.below {w w' : World} {rb xb : Nat} {s : ByteArray} {k : Nat} (h : XdBlk w rb xb s k) (hb : Below w.heap.size w w') : XdBlk w' rb xb s k := (hb.block rb h.lt).trans h
theorem below_drawn (w : World) (n : Nat) : Below w.heap.size w (w.drewN n) := ⟨rfl, rfl, rfl, Nat.le_refl _, fun _ _ => rfl⟩

set_option maxHeartbeats 400000 in
theorem take_no (rb xb : Nat) (s : ByteArray) (k : Nat) (w : World) (h : XdBlk w rb xb s k) (hl : Left s k []) :
    Calls Tryz.prog 187 #[.pointer (some ⟨rb, 0, none⟩)] w fun e w' => e = gaveUp ∧ Below w.heap.size w w' := by
  have c1 := h.cell1
  have c2 := h.cell2
  obtain rfl := hl.nil
  clear h hl
  go_enter Tryz.func187, Tryz.ntmps187
  go_wp2
  go_quiet (fail)
  go_wp2_with (go_at_call 155; refine (giveUp_any _).mono ?_; rintro e w' ⟨rfl, rfl⟩)
  exact ⟨rfl, rfl, below_drawn _ _⟩

set_option maxHeartbeats 400000 in
theorem xtake_ok (rb xb : Nat) (s : ByteArray) (k : Nat) (c : UInt8) (l : List UInt8) (w : World) (h : XdBlk w rb xb s k) (hl : Left s k (c :: l)) :
    Calls Tryz.prog 187 #[.pointer (some ⟨rb, 0, none⟩)] w fun e w' => e = .returned (.int .u8 c.toNat) ∧ XdBlk w' rb xb s (k + 1) ∧ w.grownBy w' (some rb) := by
  have c1 := h.cell1
  have c2 := h.cell2
  have f2 := h.frozen 2
  have hlt := hl.lt
  have hle := hl.le
  have hk : (k : Int) < (s.size : Int) := by omega
  have hne : ((k : Int) == (s.size : Int)) = false := by simp; omega
  have hg := hl.get
  have hs := h.set2 (k + 1)
  rw [← hg]
  clear hg
  go_enter Tryz.func187, Tryz.ntmps187
  go_wp2
  go_quiet (fail)
  go_wp2
  go_quiet (fail)
  go_wp2
  go_ret
  exact ⟨rfl, hs, grown_like (xgrown_setCell w rb 2 _) rfl rfl rfl rfl⟩

/-- Is a byte the next one? -/
def seesB (l : List UInt8) (b : UInt8) : Bool := match l with | [] => false | c :: _ => c == b

set_option maxHeartbeats 400000 in
theorem sees_any (rb xb : Nat) (s : ByteArray) (k : Nat) (l : List UInt8) (b : UInt8) (w : World) (h : XdBlk w rb xb s k) (hl : Left s k l) :
    Calls Tryz.prog 179 #[.pointer (some ⟨rb, 0, none⟩), .int .u8 b.toNat] w fun e w' => e = .returned (.bool (seesB l b)) ∧ ∃ n, w' = w.drewN n := by
  have c1 := h.cell1
  have c2 := h.cell2
  cases l with
  | nil =>
    obtain rfl := hl.nil
    clear h hl
    go_enter Tryz.func179, Tryz.ntmps179
    go_wp2
    go_quiet (fail)
    go_wp2
    go_ret
    exact ⟨rfl, _, rfl⟩
  | cons c l =>
    have hlt := hl.lt
    have hle := hl.le
    have hk : (k : Int) < (s.size : Int) := by omega
    have hg := hl.get
    have hb : (((s[k].toNat : Nat) : Int) == ((b.toNat : Nat) : Int)) = seesB (c :: l) b := by
      rw [hg]
      show _ = (c == b)
      rw [Bool.eq_iff_iff]
      simp only [beq_iff_eq, Int.natCast_inj]
      exact UInt8.toNat_inj
    have HB := Lib.hid hb
    clear hb hg h hl
    go_enter Tryz.func179, Tryz.ntmps179
    go_wp2
    go_quiet (fail)
    go_wp2
    go_ret
    exact ⟨by rw [← HB.out]; rfl, _, rfl⟩

set_option maxHeartbeats 400000 in
theorem skip_no (rb xb : Nat) (s : ByteArray) (k : Nat) (l : List UInt8) (b : UInt8) (w : World) (h : XdBlk w rb xb s k) (hl : Left s k l) (hs : seesB l b = false) :
    Calls Tryz.prog 170 #[.pointer (some ⟨rb, 0, none⟩), .int .u8 b.toNat] w fun e w' => e = .returned (.bool false) ∧ ∃ n, w' = w.drewN n := by
  have HS := Lib.hid (sees_any rb xb s k l b w h hl)
  rw [hs] at HS
  clear hs h hl
  go_enter Tryz.func170, Tryz.ntmps170
  go_wp2_with (go_at_call 179; refine HS.out.mono ?_; rintro e w' ⟨rfl, n, rfl⟩)
  go_ret
  exact ⟨rfl, n, rfl⟩

set_option maxHeartbeats 400000 in
theorem skip_ok (rb xb : Nat) (s : ByteArray) (k : Nat) (l : List UInt8) (b : UInt8) (w : World) (h : XdBlk w rb xb s k) (hl : Left s k (b :: l)) :
    Calls Tryz.prog 170 #[.pointer (some ⟨rb, 0, none⟩), .int .u8 b.toNat] w fun e w' => e = .returned (.bool true) ∧ XdBlk w' rb xb s (k + 1) ∧ w.grownBy w' (some rb) := by
  have HS := Lib.hid (sees_any rb xb s k (b :: l) b w h hl)
  rw [show seesB (b :: l) b = true by simp [seesB]] at HS
  have c2 := h.cell2
  have f2 := h.frozen 2
  have hs := h.set2 (k + 1)
  have hlt := hl.lt
  have hle := hl.le
  clear h hl
  go_enter Tryz.func170, Tryz.ntmps170
  go_wp2_with (go_at_call 179; refine HS.out.mono ?_; rintro e w' ⟨rfl, n, rfl⟩)
  go_ret
  exact ⟨rfl, hs, grown_like (xgrown_setCell w rb 2 _) rfl rfl rfl rfl⟩

theorem index_str (s : ByteArray) (i : Nat) (z : Int) (hz : z = (i : Int)) (h : i < s.size) (w : World) : (Instr.index 9 (.string s) (.int .i64 z)).run Tryz.prog w = .ok (.int .u8 ((s[i].toNat : Nat) : Int)) w := by
  subst hz
  rw [run_index_string w 9 s .i64 _ Tryz.underlying9, dif_pos ⟨by omega, by omega⟩]
  rfl

set_option maxHeartbeats 400000 in
theorem seesRange_any (rb xb : Nat) (s : ByteArray) (k : Nat) (l : List UInt8) (w : World) (h : XdBlk w rb xb s k) (hl : Left s k l) :
    Calls Tryz.prog 197 #[.pointer (some ⟨rb, 0, none⟩)] w fun e w' => e = .returned (.bool (rangeB l)) ∧ ∃ n, w' = w.drewN n := by
  have c1 := h.cell1
  have c2 := h.cell2
  have HS := Lib.hid (fun n : Nat => sees_any rb xb s k l 45 (w.drewN n) h hl)
  have hle := hl.le
  have heq := hl.eq
  match l, hl, HS, heq with
  | [], hl, HS, heq =>
    simp only [show seesB [] 45 = false from rfl] at HS
    rw [show rangeB [] = false from rfl]
    clear h hl heq
    go_enter Tryz.func197, Tryz.ntmps197
    go_wp2
    go_quiet ((go_at_call 179; exact Calls.quiet_of (HS.out _)))
    go_wp2
    go_ret
    exact ⟨rfl, _, rfl⟩
  | [c], hl, HS, heq =>
    rw [show rangeB [c] = false from rfl]
    simp only [List.length_singleton] at heq
    have hk : decide ((k : Int) + 1 < (s.size : Int)) = false := decide_eq_false (by omega)
    clear h hl heq
    by_cases hc : c = 45
    · subst hc
      simp only [show seesB [45] 45 = true from rfl] at HS
      go_enter Tryz.func197, Tryz.ntmps197
      go_wp2
      go_quiet ((go_at_call 179; exact Calls.quiet_of (HS.out _)))
      go_wp2
      go_ret
      exact ⟨rfl, _, rfl⟩
    · have hc2 : seesB [c] 45 = false := by simpa [seesB] using hc
      simp only [hc2] at HS
      clear hc hc2
      go_enter Tryz.func197, Tryz.ntmps197
      go_wp2
      go_quiet ((go_at_call 179; exact Calls.quiet_of (HS.out _)))
      go_wp2
      go_ret
      exact ⟨rfl, _, rfl⟩
  | c :: d :: l, hl, HS, heq =>
    have hlt2 := hl.next.lt
    have hg := hl.next.get
    have hk : (k : Int) + 1 < (s.size : Int) := by omega
    have hd := decide_eq_true hk
    have hw : IntKind.i64.wrap ((k : Int) + 1) = (k : Int) + 1 := by rw [IntKind.wrap_i64]; omega
    clear heq
    by_cases hc : c = 45
    · subst hc
      have hb : (((s[k + 1].toNat : Nat) : Int) != 93) = rangeB (45 :: d :: l) := by
        rw [hg]
        show _ = ((45 : UInt8) == 45 && d != 93)
        simp only [beq_self_eq_true, Bool.true_and]
        rw [Bool.eq_iff_iff]
        simp only [bne_iff_ne, ne_eq]
        rw [show (93 : Int) = ((93 : UInt8).toNat : Int) from rfl, Int.natCast_inj, UInt8.toNat_inj]
      have HB := Lib.hid hb
      have hix := fun w => index_str s (k + 1) ((k : Int) + 1) (by omega) hlt2 w
      simp only [show seesB (45 :: d :: l) 45 = true from rfl] at HS
      clear h hl hb hg
      go_enter Tryz.func197, Tryz.ntmps197
      go_wp2
      go_quiet ((go_at_call 179; exact Calls.quiet_of (HS.out _)))
      go_wp2
      go_ret
      exact ⟨by rw [← HB.out]; rfl, _, rfl⟩
    · have hc2 : seesB (c :: d :: l) 45 = false := by simpa [seesB] using hc
      have hr : rangeB (c :: d :: l) = false := by simp [rangeB, hc]
      rw [hr]
      simp only [hc2] at HS
      clear hc hc2 hr h hl hg
      go_enter Tryz.func197, Tryz.ntmps197
      go_wp2
      go_quiet ((go_at_call 179; exact Calls.quiet_of (HS.out _)))
      go_wp2
      go_ret
      exact ⟨rfl, _, rfl⟩

set_option maxHeartbeats 400000 in
theorem setByte_no (rb xb : Nat) (s : ByteArray) (k : Nat) (l : List UInt8) (w : World) (h : XdBlk w rb xb s k) (hl : Left s k l) (hp : pByte l = none) :
    Calls Tryz.prog 196 #[.pointer (some ⟨rb, 0, none⟩)] w fun e w' => e = gaveUp ∧ w.grownBy w' (some rb) := by
  match l, hl with
  | [], hl =>
    have HT := Lib.hid (take_no rb xb s k w h hl)
    clear h hl hp
    go_enter Tryz.func196, Tryz.ntmps196
    go_wp2_with (go_at_call 187; refine HT.out.mono ?_; rintro e w' ⟨rfl, hb⟩)
    exact ⟨rfl, rfl, xgrown_of_below hb⟩
  | c :: l, hl =>
    have HT := Lib.hid (xtake_ok rb xb s k c l w h hl)
    by_cases h1 : c = 93
    · subst h1
      clear h hl hp
      go_enter Tryz.func196, Tryz.ntmps196
      go_wp2_with (first | (go_at_call 187; refine HT.out.mono ?_; rintro e w' ⟨rfl, hr, hg⟩) | (go_at_call 155; refine (giveUp_any _).mono ?_; rintro e w2 ⟨rfl, rfl⟩))
      exact ⟨rfl, rfl, hg⟩
    · by_cases h2 : c = 92
      · subst h2
        cases l with
        | nil =>
          have hl2 := hl.next
          clear h hl hp
          go_enter Tryz.func196, Tryz.ntmps196
          go_wp2_with (first | (go_at_call 187; refine HT.out.mono ?_; rintro e w' ⟨rfl, hr, hg⟩; refine Hid.out ?_))
          refine Lib.hid ?_
          go_wp2_with (first | (go_at_call 187; refine (take_no rb xb s (k + 1) w' hr hl2).mono ?_; rintro e w2 ⟨rfl, hb⟩))
          exact ⟨rfl, rfl, xgrown_trans hg (xgrown_of_below hb)⟩
        | cons d l => simp [pByte] at hp
      · simp [pByte, h1, h2] at hp

theorem u8_ne {c d : UInt8} (h : c ≠ d) : (((c.toNat : Nat) : Int) == ((d.toNat : Nat) : Int)) = false := by
  rw [Bool.eq_false_iff]
  intro e
  rw [beq_iff_eq, Int.natCast_inj, UInt8.toNat_inj] at e
  exact h e

set_option maxHeartbeats 400000 in
theorem setByte_ok (rb xb : Nat) (s : ByteArray) (k : Nat) (l : List UInt8) (c : UInt8) (l' : List UInt8) (w : World) (h : XdBlk w rb xb s k) (hl : Left s k l) (hp : pByte l = some (c, l')) :
    Calls Tryz.prog 196 #[.pointer (some ⟨rb, 0, none⟩)] w fun e w' => e = .returned (.int .u8 c.toNat) ∧ ∃ k', XdBlk w' rb xb s k' ∧ Left s k' l' ∧ w.grownBy w' (some rb) := by
  match l, hl with
  | [], hl => simp [pByte] at hp
  | a :: l, hl =>
    have HT := Lib.hid (xtake_ok rb xb s k a l w h hl)
    by_cases h1 : a = 93
    · simp [pByte, h1] at hp
    · by_cases h2 : a = 92
      · subst h2
        cases l with
        | nil => simp [pByte] at hp
        | cons d l =>
          simp [pByte] at hp
          obtain ⟨rfl, rfl⟩ := hp
          have hl2 := hl.next
          clear h hl
          go_enter Tryz.func196, Tryz.ntmps196
          go_wp2_with (first | (go_at_call 187; refine HT.out.mono ?_; rintro e w' ⟨rfl, hr, hg⟩; refine Hid.out ?_))
          refine Lib.hid ?_
          go_wp2_with (first | (go_at_call 187; refine (xtake_ok rb xb s (k + 1) d l w' hr hl2).mono ?_; rintro e w2 ⟨rfl, hr2, hg2⟩))
          go_ret
          exact ⟨rfl, _, hr2, hl2.next, xgrown_trans hg hg2⟩
      · simp only [pByte, h1, h2, if_false, Option.some.injEq, Prod.mk.injEq] at hp
        obtain ⟨rfl, rfl⟩ := hp
        have hl2 := hl.next
        have n1 := u8_ne h1
        have n2 := u8_ne h2
        simp only [show ((93 : UInt8).toNat : Int) = 93 from rfl] at n1
        simp only [show ((92 : UInt8).toNat : Int) = 92 from rfl] at n2
        clear h hl h1 h2
        go_enter Tryz.func196, Tryz.ntmps196
        go_wp2_with (first | (go_at_call 187; refine HT.out.mono ?_; rintro e w' ⟨rfl, hr, hg⟩))
        go_ret
        exact ⟨rfl, _, hr, hl2, hg⟩

end Go.Proofs.YtmanjegdgjeeiaaGreatDoor
namespace Go.Proofs.YtmanjegdgjeeiaaGreatDoor

theorem ctz_bits (x : Nat) (h0 : x ≠ 0) (h : x < 18446744073709551616) : Lib.ctz 64 x < 64 ∧ x.testBit (Lib.ctz 64 x) = true ∧ x &&& (x - 1) < x ∧ ∀ j, (x &&& (x - 1)).testBit j = true ↔ x.testBit j = true ∧ j ≠ Lib.ctz 64 x := by
  obtain ⟨m, hm, hk⟩ := Lib.ctzFrom_spec 64 x (by omega) (by omega)
  have e : Lib.ctz 64 x = Lib.ctzFrom 64 x := by unfold Lib.ctz; rw [if_neg h0]
  rw [e]
  generalize Lib.ctzFrom 64 x = k at hm hk
  have h1 : ∀ j, x.testBit j = if j < k then false else (2 * m + 1).testBit (j - k) := fun j => by
    have := Nat.testBit_two_pow_mul_add (2 * m + 1) (b := 0) (i := k) (Nat.two_pow_pos k) j
    rw [Nat.add_zero, ← hm] at this
    simpa using this
  have h2 : ∀ j, (x - 1).testBit j = if j < k then true else (2 * m).testBit (j - k) := fun j => by
    have hp := Nat.two_pow_pos k
    have e1 : x - 1 = 2 ^ k * (2 * m) + (2 ^ k - 1) := by rw [hm, Nat.mul_add, Nat.mul_one]; omega
    have := Nat.testBit_two_pow_mul_add (2 * m) (b := 2 ^ k - 1) (i := k) (by omega) j
    rw [← e1, Nat.testBit_two_pow_sub_one] at this
    rw [this]
    split
    · simp [*]
    · rfl
  have b0 : (2 * m + 1).testBit 0 = true := by simp [Nat.testBit_zero]
  have b1 : (2 * m).testBit 0 = false := by simp [Nat.testBit_zero]
  have b2 : ∀ i, (2 * m + 1).testBit (i + 1) = m.testBit i := fun i => by rw [Nat.testBit_add_one]; congr 1; omega
  have b3 : ∀ i, (2 * m).testBit (i + 1) = m.testBit i := fun i => by rw [Nat.testBit_add_one]; congr 1; omega
  refine ⟨hk, ?_, ?_, fun j => ?_⟩
  · rw [h1, if_neg (by omega), Nat.sub_self]; exact b0
  · have := @Nat.and_le_right x (x - 1); omega
  · rw [Nat.testBit_and, h1, h2]
    rcases Nat.lt_trichotomy j k with hj | hj | hj
    · simp [hj]
    · subst hj
      simp
    · obtain ⟨i, rfl⟩ : ∃ i, j = k + (i + 1) := ⟨j - k - 1, by omega⟩
      rw [if_neg (by omega), if_neg (by omega), show k + (i + 1) - k = i + 1 by omega, b2, b3]
      simp

theorem bit_lt {x i : Nat} (h : ∀ j, x.testBit j = true → j < i) : x < 2 ^ i := Nat.lt_pow_two_of_testBit x fun j hj => by
  cases hb : x.testBit j with
  | false => rfl
  | true => have := h j hb; omega
theorem bit_of_lt {x i j : Nat} (h : x < 2 ^ i) (hb : x.testBit j = true) : j < i := by
  rcases Nat.lt_or_ge j i with h1 | h1
  · exact h1
  · rw [Nat.testBit_lt_two_pow (Nat.lt_of_lt_of_le h (Nat.pow_le_pow_right (by omega) h1))] at hb
    cases hb
theorem or_bit (x y i : Nat) : (x ||| y).testBit i = true ↔ x.testBit i = true ∨ y.testBit i = true := by rw [Nat.testBit_or]; simp

/-- The places that have taken a text's last byte. -/
def Here (pl : List Pl) (P : Pc) (s : List UInt8) (m : Nat) : Prop := ∀ j, m.testBit j = true ↔ ∃ i, P.first.testBit i = true ∧ Run pl i s j
/-- The places that may take the byte behind a text. -/
def Next (pl : List Pl) (P : Pc) (s : List UInt8) (m : Nat) : Prop := ∀ j, m.testBit j = true ↔ (s = [] ∧ P.first.testBit j = true) ∨ ∃ i k p, P.first.testBit i = true ∧ Run pl i s k ∧ pl[k]? = some p ∧ p.nx.testBit j = true

theorem Next.start (pl : List Pl) (P : Pc) : Next pl P [] P.first := fun j => by
  constructor
  · intro h; exact .inl ⟨rfl, h⟩
  · rintro (h | ⟨i, k, p, -, h, -⟩)
    · exact h.2
    · exact absurd rfl h.ne

/-- What step tells of some places and a byte. -/
def Stepped (pl : List Pl) (m : Nat) (c : UInt8) (h x : Nat) : Prop :=
  (∀ j, h.testBit j = true ↔ m.testBit j = true ∧ ∃ p, pl[j]? = some p ∧ p.has c = true) ∧ ∀ k, x.testBit k = true ↔ ∃ j p, h.testBit j = true ∧ pl[j]? = some p ∧ p.nx.testBit k = true

theorem Stepped.go {pl : List Pl} {P : Pc} {s : List UInt8} {m h x : Nat} {c : UInt8} (hn : Next pl P s m) (hs : Stepped pl m c h x) : Here pl P (s ++ [c]) h ∧ Next pl P (s ++ [c]) x := by
  have hh : Here pl P (s ++ [c]) h := fun j => by
    rw [hs.1 j, hn j]
    constructor
    · rintro ⟨⟨rfl, h1⟩ | ⟨i, k, p, h1, h2, h3, h4⟩, q, h5, h6⟩
      · exact ⟨j, h1, .one h5 h6⟩
      · exact ⟨i, h1, (Run.snoc h2.ne).2 ⟨k, p, q, h2, h3, h4, h5, h6⟩⟩
    · rintro ⟨i, h1, h2⟩
      by_cases he : s = []
      · subst he
        obtain ⟨rfl, q, g1, g2⟩ := h2
        exact ⟨.inl ⟨rfl, h1⟩, _, g1, g2⟩
      · obtain ⟨k, p, q, g1, g2, g3, g4, g5⟩ := (Run.snoc he).1 h2
        exact ⟨.inr ⟨i, k, p, h1, g1, g2, g3⟩, q, g4, g5⟩
  refine ⟨hh, fun k => ?_⟩
  rw [hs.2 k]
  constructor
  · rintro ⟨j, p, h1, h2, h3⟩
    obtain ⟨i, g1, g2⟩ := (hh j).1 h1
    exact .inr ⟨i, j, p, g1, g2, h2, h3⟩
  · rintro (⟨h1, -⟩ | ⟨i, j, p, h1, h2, h3, h4⟩)
    · simp at h1
    · exact ⟨j, p, (hh j).2 ⟨i, h1, h2⟩, h3, h4⟩

theorem Here.acc {pl : List Pl} {P : Pc} {s : List UInt8} {m : Nat} (hs : s ≠ []) (h : Here pl P s m) : m &&& P.last ≠ 0 ↔ Acc pl P s := by
  have e : m &&& P.last ≠ 0 ↔ ∃ j, (m &&& P.last).testBit j = true := by
    constructor
    · intro h0
      exact Nat.exists_testBit_of_ne_zero h0
    · rintro ⟨j, hj⟩ h0
      rw [h0] at hj
      simp at hj
  rw [e]
  constructor
  · rintro ⟨j, hj⟩
    rw [Nat.testBit_and, Bool.and_eq_true] at hj
    obtain ⟨i, h1, h2⟩ := (h j).1 hj.1
    exact .inr ⟨i, j, h1, hj.2, h2⟩
  · rintro (⟨h1, -⟩ | ⟨i, j, h1, h2, h3⟩)
    · exact absurd h1 hs
    · exact ⟨j, by rw [Nat.testBit_and, Bool.and_eq_true]; exact ⟨(h j).2 ⟨i, h1, h3⟩, h2⟩⟩

theorem Run.pre {pl : List Pl} {i j : Nat} {u v : List UInt8} (hu : u ≠ []) (h : Run pl i (u ++ v) j) : ∃ k, Run pl i u k := by
  generalize hs : u ++ v = s at h
  induction h using Run.ind generalizing u with
  | one g1 g2 =>
    cases u with
    | nil => exact absurd rfl hu
    | cons a r =>
      simp only [List.cons_append, List.cons.injEq] at hs
      obtain ⟨rfl, h2⟩ := hs
      obtain ⟨rfl, rfl⟩ := List.append_eq_nil_iff.1 h2
      exact ⟨_, .one g1 g2⟩
  | cons g1 g2 g3 g4 ih =>
    cases u with
    | nil => exact absurd rfl hu
    | cons a r =>
      simp only [List.cons_append, List.cons.injEq] at hs
      obtain ⟨rfl, h2⟩ := hs
      by_cases hr : r = []
      · subst hr; exact ⟨_, .one g1 g2⟩
      · obtain ⟨k, hk⟩ := ih hr h2
        exact ⟨k, .cons g1 g2 g3 hk⟩
/-- Where none has taken the byte the whole text is not like it. -/
theorem Here.stuck {pl : List Pl} {P : Pc} {u : List UInt8} (hu : u ≠ []) (h : Here pl P u 0) (v : List UInt8) : ¬ Acc pl P (u ++ v) := by
  rintro (⟨h1, -⟩ | ⟨i, j, h1, h2, h3⟩)
  · exact hu (List.append_eq_nil_iff.1 h1).1
  · obtain ⟨k, hk⟩ := h3.pre hu
    have := (h k).2 ⟨i, h1, hk⟩
    simp at this

end Go.Proofs.YtmanjegdgjeeiaaGreatDoor
