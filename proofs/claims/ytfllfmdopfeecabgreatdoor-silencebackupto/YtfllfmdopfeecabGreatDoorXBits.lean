/-
  Words of 64 bits as choices among places: the lowest one, and what is left without it; and what a text leads to, byte by byte.
-/
import Derived.Test.YtfllfmdopfeecabGreatDoorXLang
import Derived.Lib.TrailingZeros
namespace Go.Proofs.YtfllfmdopfeecabGreatDoor

theorem ctz_bits (x : Nat) (h0 : x ≠ 0) (h : x < 18446744073709551616) : Lib.ctz 64 x < 64 ∧ x.testBit (Lib.ctz 64 x) = true ∧ x &&& (x - 1) < x ∧ ∀ j, (x &&& (x - 1)).testBit j = true ↔ x.testBit j = true ∧ j ≠ Lib.ctz 64 x := by
  obtain ⟨m, hm, hk⟩ := Lib.ctzFrom_spec 64 x (by omega) (by omega)
  have e : Lib.ctz 64 x = Lib.ctzFrom 64 x := by unfold Lib.ctz; rw [if_neg h0]
  rw [e]
  generalize Lib.ctzFrom 64 x = k at hm hk
  have h1 : ∀ j, x.testBit j = if j < k then false else (2 * m + 1).testBit (j - k) := fun j => by
    have := Nat.testBit_two_pow_mul_add (2 * m + 1) (b := 0) (i := k) (Nat.two_pow_pos k) j
    rw [Nat.add_zero, ← hm] at this
    simpa using this
  have h2 : ∀ j, (x - 1).testBit j = if j < k then true else (2 * m).testBit (j - k) := fun j => by
    have hp := Nat.two_pow_pos k
    have e1 : x - 1 = 2 ^ k * (2 * m) + (2 ^ k - 1) := by rw [hm, Nat.mul_add, Nat.mul_one]; omega
    have := Nat.testBit_two_pow_mul_add (2 * m) (b := 2 ^ k - 1) (i := k) (by omega) j
    rw [← e1, Nat.testBit_two_pow_sub_one] at this
    rw [this]
    split
    · simp [*]
    · rfl
  have b0 : (2 * m + 1).testBit 0 = true := by simp [Nat.testBit_zero]
  have b1 : (2 * m).testBit 0 = false := by simp [Nat.testBit_zero]
  have b2 : ∀ i, (2 * m + 1).testBit (i + 1) = m.testBit i := fun i => by rw [Nat.testBit_add_one]; congr 1; omega
  have b3 : ∀ i, (2 * m).testBit (i + 1) = m.testBit i := fun i => by rw [Nat.testBit_add_one]; congr 1; omega
  refine ⟨hk, ?_, ?_, fun j => ?_⟩
  · rw [h1, if_neg (by omega), Nat.sub_self]; exact b0
  · have := @Nat.and_le_right x (x - 1); omega
  · rw [Nat.testBit_and, h1, h2]
    rcases Nat.lt_trichotomy j k with hj | hj | hj
    · simp [hj]
    · subst hj
      simp
    · obtain ⟨i, rfl⟩ : ∃ i, j = k + (i + 1) := ⟨j - k - 1, by omega⟩
      rw [if_neg (by omega), if_neg (by omega), show k + (i + 1) - k = i + 1 by omega, b2, b3]
      simp

theorem bit_lt {x i : Nat} (h : ∀ j, x.testBit j = true → j < i) : x < 2 ^ i := Nat.lt_pow_two_of_testBit x fun j hj => by
  cases hb : x.testBit j with
  | false => rfl
  | true => have := h j hb; omega
theorem bit_of_lt {x i j : Nat} (h : x < 2 ^ i) (hb : x.testBit j = true) : j < i := by
  rcases Nat.lt_or_ge j i with h1 | h1
  · exact h1
  · rw [Nat.testBit_lt_two_pow (Nat.lt_of_lt_of_le h (Nat.pow_le_pow_right (by omega) h1))] at hb
    cases hb
theorem or_bit (x y i : Nat) : (x ||| y).testBit i = true ↔ x.testBit i = true ∨ y.testBit i = true := by rw [Nat.testBit_or]; simp

/-- The places that have taken a text's last byte. -/
def Here (pl : List Pl) (P : Pc) (s : List UInt8) (m : Nat) : Prop := ∀ j, m.testBit j = true ↔ ∃ i, P.first.testBit i = true ∧ Run pl i s j
/-- The places that may take the byte behind a text. -/
def Next (pl : List Pl) (P : Pc) (s : List UInt8) (m : Nat) : Prop := ∀ j, m.testBit j = true ↔ (s = [] ∧ P.first.testBit j = true) ∨ ∃ i k p, P.first.testBit i = true ∧ Run pl i s k ∧ pl[k]? = some p ∧ p.nx.testBit j = true

theorem Next.start (pl : List Pl) (P : Pc) : Next pl P [] P.first := fun j => by
  constructor
  · intro h; exact .inl ⟨rfl, h⟩
  · rintro (h | ⟨i, k, p, -, h, -⟩)
    · exact h.2
    · exact absurd rfl h.ne

/-- What step tells of some places and a byte. -/
def Stepped (pl : List Pl) (m : Nat) (c : UInt8) (h x : Nat) : Prop :=
  (∀ j, h.testBit j = true ↔ m.testBit j = true ∧ ∃ p, pl[j]? = some p ∧ p.has c = true) ∧ ∀ k, x.testBit k = true ↔ ∃ j p, h.testBit j = true ∧ pl[j]? = some p ∧ p.nx.testBit k = true

theorem Stepped.go {pl : List Pl} {P : Pc} {s : List UInt8} {m h x : Nat} {c : UInt8} (hn : Next pl P s m) (hs : Stepped pl m c h x) : Here pl P (s ++ [c]) h ∧ Next pl P (s ++ [c]) x := by
  have hh : Here pl P (s ++ [c]) h := fun j => by
    rw [hs.1 j, hn j]
    constructor
    · rintro ⟨⟨rfl, h1⟩ | ⟨i, k, p, h1, h2, h3, h4⟩, q, h5, h6⟩
      · exact ⟨j, h1, .one h5 h6⟩
      · exact ⟨i, h1, (Run.snoc h2.ne).2 ⟨k, p, q, h2, h3, h4, h5, h6⟩⟩
    · rintro ⟨i, h1, h2⟩
      by_cases he : s = []
      · subst he
        obtain ⟨rfl, q, g1, g2⟩ := h2
        exact ⟨.inl ⟨rfl, h1⟩, _, g1, g2⟩
      · obtain ⟨k, p, q, g1, g2, g3, g4, g5⟩ := (Run.snoc he).1 h2
        exact ⟨.inr ⟨i, k, p, h1, g1, g2, g3⟩, q, g4, g5⟩
  refine ⟨hh, fun k => ?_⟩
  rw [hs.2 k]
  constructor
  · rintro ⟨j, p, h1, h2, h3⟩
    obtain ⟨i, g1, g2⟩ := (hh j).1 h1
    exact .inr ⟨i, j, p, g1, g2, h2, h3⟩
  · rintro (⟨h1, -⟩ | ⟨i, j, p, h1, h2, h3, h4⟩)
    · simp at h1
    · exact ⟨j, p, (hh j).2 ⟨i, h1, h2⟩, h3, h4⟩

theorem Here.acc {pl : List Pl} {P : Pc} {s : List UInt8} {m : Nat} (hs : s ≠ []) (h : Here pl P s m) : m &&& P.last ≠ 0 ↔ Acc pl P s := by
  have e : m &&& P.last ≠ 0 ↔ ∃ j, (m &&& P.last).testBit j = true := by
    constructor
    · intro h0
      exact Nat.exists_testBit_of_ne_zero h0
    · rintro ⟨j, hj⟩ h0
      rw [h0] at hj
      simp at hj
  rw [e]
  constructor
  · rintro ⟨j, hj⟩
    rw [Nat.testBit_and, Bool.and_eq_true] at hj
    obtain ⟨i, h1, h2⟩ := (h j).1 hj.1
    exact .inr ⟨i, j, h1, hj.2, h2⟩
  · rintro (⟨h1, -⟩ | ⟨i, j, h1, h2, h3⟩)
    · exact absurd h1 hs
    · exact ⟨j, by rw [Nat.testBit_and, Bool.and_eq_true]; exact ⟨(h j).2 ⟨i, h1, h3⟩, h2⟩⟩

theorem Run.pre {pl : List Pl} {i j : Nat} {u v : List UInt8} (hu : u ≠ []) (h : Run pl i (u ++ v) j) : ∃ k, Run pl i u k := by
  generalize hs : u ++ v = s at h
  induction h using Run.ind generalizing u with
  | one g1 g2 =>
    cases u with
    | nil => exact absurd rfl hu
    | cons a r =>
      simp only [List.cons_append, List.cons.injEq] at hs
      obtain ⟨rfl, h2⟩ := hs
      obtain ⟨rfl, rfl⟩ := List.append_eq_nil_iff.1 h2
      exact ⟨_, .one g1 g2⟩
  | cons g1 g2 g3 g4 ih =>
    cases u with
    | nil => exact absurd rfl hu
    | cons a r =>
      simp only [List.cons_append, List.cons.injEq] at hs
      obtain ⟨rfl, h2⟩ := hs
      by_cases hr : r = []
      · subst hr; exact ⟨_, .one g1 g2⟩
      · obtain ⟨k, hk⟩ := ih hr h2
        exact ⟨k, .cons g1 g2 g3 hk⟩
/-- Where none has taken the byte the whole text is not like it. -/
theorem Here.stuck {pl : List Pl} {P : Pc} {u : List UInt8} (hu : u ≠ []) (h : Here pl P u 0) (v : List UInt8) : ¬ Acc pl P (u ++ v) := by
  rintro (⟨h1, -⟩ | ⟨i, j, h1, h2, h3⟩)
  · exact hu (List.append_eq_nil_iff.1 h1).1
  · obtain ⟨k, hk⟩ := h3.pre hu
    have := (h k).2 ⟨i, h1, hk⟩
    simp at this

end Go.Proofs.YtfllfmdopfeecabGreatDoor
