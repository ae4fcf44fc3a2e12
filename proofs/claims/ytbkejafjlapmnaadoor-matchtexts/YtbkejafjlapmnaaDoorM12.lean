/-
  Which matcher a text is read as: the one that may be and has that text, a pattern first.
-/
import Derived.Test.YtbkejafjlapmnaaDoorM11
namespace Go.Proofs.YtbkejafjlapmnaaDoor
open Go.RowKit Go.Shelf

/-- A text is read as this matcher. -/
def First (s : ByteArray) (m : Mt) : Prop := mErr m = 0 ∧ textM m = s ∧ (m.2.1 = 0 → ∀ m' : Mt, mErr m' = 0 → textM m' = s → m'.2.1 = 0)
/-- It is read as none. -/
def NoFirst (s : ByteArray) : Prop := ∀ m : Mt, mErr m = 0 → textM m ≠ s
/-- What a Read tells, n being the number of the error of a text that is none. -/
def ReadsAs (s : ByteArray) (e : Ending) : Prop :=
  (∃ m, First s m ∧ e = .returned (.tuple #[.agg #[.string m.1, .int .u8 (m.2.1 : Int), .string m.2.2], .int .i64 0])) ∨
  (NoFirst s ∧ e = .returned (.tuple #[.agg #[.string ⟨#[]⟩, .int .u8 0, .string ⟨#[]⟩], .int .i64 4]))

theorem rdOk_of {s : ByteArray} {m : Mt} (h : mErr m = 0) (ht : textM m = s) : Lib.indexAny s.data.toList eqBang.data.toList = (m.1.size : Int) ∧ rdOk s m.1.size m.2.1 ∧ rdM s m.1.size m.2.1 = m := by
  obtain ⟨h1, h2, -, -⟩ := mErr_zero h
  subst ht
  obtain ⟨h3, h4⟩ := rd_back m
  exact ⟨text_index h1 h2, ⟨h4, by rw [h3]; exact h⟩, h3⟩

/-- Of two signs that a text begins with, one is = and the other =~. -/
theorem sign_two {s : ByteArray} {k o p : Nat} (ho : o ≤ 3) (hp : p ≤ 3) (h1 : rdOk s k o) (h2 : rdOk s k p) : o = p ∨ (o = 0 ∧ p = 2) ∨ (o = 2 ∧ p = 0) := by
  obtain ⟨r1, e1⟩ := (cutB_iff _ _).1 h1.1
  obtain ⟨r2, e2⟩ := (cutB_iff _ _).1 h2.1
  rw [e1] at e2
  rcases (by omega : o = 0 ∨ o = 1 ∨ o = 2 ∨ o = 3) with rfl | rfl | rfl | rfl <;> rcases (by omega : p = 0 ∨ p = 1 ∨ p = 2 ∨ p = 3) with rfl | rfl | rfl | rfl <;> first | exact Or.inl rfl | exact Or.inr (Or.inl ⟨rfl, rfl⟩) | exact Or.inr (Or.inr ⟨rfl, rfl⟩) | (exfalso; revert e2; simp [signL])

theorem First.one {s : ByteArray} {m m' : Mt} (h : First s m) (h' : First s m') : m = m' := by
  obtain ⟨a1, a2, a3⟩ := h
  obtain ⟨b1, b2, b3⟩ := h'
  obtain ⟨i1, r1, e1⟩ := rdOk_of a1 a2
  obtain ⟨i2, r2, e2⟩ := rdOk_of b1 b2
  have hk : m.1.size = m'.1.size := by rw [i1] at i2; exact Int.ofNat.inj i2
  rw [hk] at r1 e1
  have ho : m.2.1 = m'.2.1 := by
    rcases sign_two (mErr_zero a1).2.1 (mErr_zero b1).2.1 r1 r2 with h | ⟨h, k⟩ | ⟨h, k⟩
    · exact h
    · have := a3 h m' b1 b2; omega
    · have := b3 k m a1 a2; omega
  exact e1.symm.trans ((congrArg (rdM s m'.1.size) ho).trans e2)

theorem opAt_of (o : Nat) (h : o ≤ 3) : ∃ j, j < 4 ∧ opAt j = o ∧ (o = 2 → j = 0) := by
  rcases (by omega : o = 0 ∨ o = 1 ∨ o = 2 ∨ o = 3) with rfl | rfl | rfl | rfl
  · exact ⟨2, by decide, rfl, by decide⟩
  · exact ⟨3, by decide, rfl, by decide⟩
  · exact ⟨0, by decide, rfl, by decide⟩
  · exact ⟨1, by decide, rfl, by decide⟩

theorem tells_reads {s : ByteArray} {k : Nat} {e : Ending} (hk : Lib.indexAny s.data.toList eqBang.data.toList = k) (h : RdTells s k e) : ReadsAs s e := by
  rcases h with ⟨i, hi, hn, hy, rfl⟩ | ⟨hn, rfl⟩
  · refine Or.inl ⟨rdM s k (opAt i), ⟨hy.2, rd_text hy.1, fun h0 m' h1 h2 => ?_⟩, rfl⟩
    obtain ⟨j1, j2, -⟩ := rdOk_of h1 h2
    have hkm : m'.1.size = k := by rw [hk] at j1; exact (Int.ofNat.inj j1).symm
    rw [hkm] at j2
    have h0' : opAt i = 0 := h0
    have hi2 : i = 2 := by
      rcases (by omega : i = 0 ∨ i = 1 ∨ i = 2 ∨ i = 3) with rfl | rfl | rfl | rfl
      · cases h0'
      · cases h0'
      · rfl
      · cases h0'
    rcases sign_two (by rw [h0']; omega) (mErr_zero h1).2.1 hy j2 with h | ⟨-, h⟩ | ⟨h, -⟩
    · omega
    · have := hn 0 (by omega)
      exact absurd (by rw [h] at j2; exact j2) this
    · omega
  · refine Or.inr ⟨fun m h1 h2 => ?_, rfl⟩
    obtain ⟨j1, j2, -⟩ := rdOk_of h1 h2
    have hkm : m.1.size = k := by rw [hk] at j1; exact (Int.ofNat.inj j1).symm
    rw [hkm] at j2
    obtain ⟨j, hj, ho, -⟩ := opAt_of m.2.1 (mErr_zero h1).2.1
    exact hn j hj (by rw [ho]; exact j2)

theorem indexAny_lt (c : List UInt8) : ∀ l : List UInt8, Lib.indexAny l c < (l.length : Int) ∨ Lib.indexAny l c = -1
  | [] => Or.inr rfl
  | b :: l => by
    have ih := indexAny_lt c l
    unfold Lib.indexAny
    split
    · left; rw [List.length_cons]; omega
    · split
      · exact Or.inr rfl
      · rename_i h
        rcases ih with ih | ih
        · left; rw [List.length_cons]; omega
        · rw [ih] at h; simp at h

/-- Read of package match, at whatever text. -/
theorem mRead_reads (s : ByteArray) (w : World) (htab : TabW w) (hs : s.size < 4294967281) :
    Calls Tryd.prog 10 #[.string s] w fun e w' => ReadsAs s e ∧ Below w.heap.size w w' := by
  rcases indexAny_lt eqBang.data.toList s.data.toList with h | h
  · by_cases h0 : 0 ≤ Lib.indexAny s.data.toList eqBang.data.toList
    · obtain ⟨k, hk⟩ := Int.eq_ofNat_of_zero_le h0
      have hks : k < s.size := by rw [hk, ← Lib.size_eq] at h; omega
      exact (mRead_any s w htab hs k hk hks).mono fun e w' ⟨h1, h2⟩ => ⟨tells_reads hk h1, h2⟩
    · have h1 := Lib.indexAny_ge eqBang.data.toList s.data.toList
      have h2 : Lib.indexAny s.data.toList eqBang.data.toList = -1 := by omega
      exact (mRead_none s w hs h2).mono fun e w' ⟨h3, h4⟩ => ⟨Or.inr ⟨fun m a b => by have := (rdOk_of a b).1; omega, h3⟩, h4⟩
  · exact (mRead_none s w hs h).mono fun e w' ⟨h3, h4⟩ => ⟨Or.inr ⟨fun m a b => by have := (rdOk_of a b).1; omega, h3⟩, h4⟩

/-- A matcher that may be is read from its text, as one of that name and text. -/
theorem first_back {m : Mt} (h : mErr m = 0) : ∃ m', First (textM m) m' ∧ m'.1 = m.1 := by
  by_cases hx : ∃ m' : Mt, mErr m' = 0 ∧ textM m' = textM m ∧ m'.2.1 ≠ 0
  · obtain ⟨m', h1, h2, h3⟩ := hx
    refine ⟨m', ⟨h1, h2, fun h => absurd h h3⟩, ?_⟩
    obtain ⟨i1, -, e1⟩ := rdOk_of h1 h2
    obtain ⟨i2, -, e2⟩ := rdOk_of h rfl
    have hk : m'.1.size = m.1.size := by rw [i1] at i2; exact Int.ofNat.inj i2
    have g1 : m'.1 = (textM m).extract 0 m'.1.size := (congrArg (fun x : Mt => x.1) e1).symm
    have g2 : m.1 = (textM m).extract 0 m.1.size := (congrArg (fun x : Mt => x.1) e2).symm
    exact g1.trans ((congrArg ((textM m).extract 0) hk).trans g2.symm)
  · exact ⟨m, ⟨h, rfl, fun _ m' h1 h2 => Classical.byContradiction fun h3 => hx ⟨m', h1, h2, h3⟩⟩, rfl⟩

end Go.Proofs.YtbkejafjlapmnaaDoor
