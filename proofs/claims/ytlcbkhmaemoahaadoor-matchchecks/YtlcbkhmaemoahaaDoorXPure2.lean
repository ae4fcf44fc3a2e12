/-
  Quotations and plain sets, as patterns.
-/
import Derived.Test.YtlcbkhmaemoahaaDoorXPure
import Derived.Test.YtlcbkhmaemoahaaDoorXQuote
namespace Go.Proofs.YtlcbkhmaemoahaaDoor

theorem addB_one (c d : UInt8) : addB noneB c c d = true ↔ d = c := by
  unfold addB noneB
  simp only [Bool.false_or, Bool.and_eq_true, decide_eq_true_eq]
  exact ⟨fun h => UInt8.le_antisymm h.2 h.1, fun h => by subst h; exact ⟨UInt8.le_refl _, UInt8.le_refl _⟩⟩
theorem setL_one (c : UInt8) (t : List UInt8) : setL (addB noneB c c) t ↔ t = [c] := by
  constructor
  · rintro ⟨d, rfl, h⟩
    rw [(addB_one c d).1 h]
  · rintro rfl
    exact ⟨c, rfl, (addB_one c c).2 rfl⟩
theorem spec_false {c : UInt8} (h : isSpec c = false) : c ≠ 40 ∧ c ≠ 91 ∧ c ≠ 46 ∧ c ≠ 92 ∧ c ≠ 124 ∧ c ≠ 41 ∧ c ≠ 42 ∧ c ≠ 43 ∧ c ≠ 63 := by
  refine ⟨?_, ?_, ?_, ?_, ?_, ?_, ?_, ?_, ?_⟩ <;> (rintro rfl; revert h; decide)

theorem plain_quote (s : List UInt8) : plainHead (quoteL s) := by
  cases s with
  | nil => exact ⟨by simp [quoteL], by simp [quoteL], by simp [quoteL]⟩
  | cons c s =>
    have e : quoteL (c :: s) = quoteC c ++ quoteL s := rfl
    rw [e]
    unfold quoteC
    cases h : isSpec c with
    | true => exact ⟨by simp, by simp, by simp⟩
    | false =>
      obtain ⟨-, -, -, -, -, -, h1, h2, h3⟩ := spec_false h
      exact ⟨by simp [h1], by simp [h2], by simp [h3]⟩
theorem part_quote (c : UInt8) (x : List UInt8) (hx : plainHead x) : rowEnd (quoteC c ++ x) = false ∧ pP (quoteC c ++ x) = some (setL (addB noneB c c), x) := by
  unfold quoteC
  cases h : isSpec c with
  | true =>
    refine ⟨rfl, ?_⟩
    show (match pAtom (pL noL epsL) (92 :: c :: x) with | none => none | some (A, l') => some (pSuf A l')) = _
    rw [show pAtom (pL noL epsL) (92 :: c :: x) = some (setL (addB noneB c c), x) from rfl]
    simp only
    rw [pSuf_stop _ x hx]
  | false =>
    obtain ⟨h1, h2, h3, h4, h5, h6, -, -, -⟩ := spec_false h
    refine ⟨by simp [rowEnd, h5, h6], ?_⟩
    have ha : pAtom (pL noL epsL) (c :: x) = some (setL (addB noneB c c), x) := by simp [pAtom, h1, h2, h3, h4, h]
    show (match pAtom (pL noL epsL) (c :: x) with | none => none | some (A, l') => some (pSuf A l')) = _
    rw [ha]
    simp only
    rw [pSuf_stop _ x hx]

theorem pL_quote (s : List UInt8) : ∀ r : Lang, ∃ C : Lang, pL noL r (quoteL s) = some (C, []) ∧ ∀ t, C t ↔ ∃ u, r u ∧ t = u ++ s := by
  induction s with
  | nil =>
    intro r
    refine ⟨_, pL_end noL r [] (.inl rfl), fun t => ?_⟩
    constructor
    · intro h; exact ⟨t, h.elim (fun h => h.elim) id, by simp⟩
    · rintro ⟨u, h, rfl⟩; exact .inr (by simpa using h)
  | cons c s ih =>
    intro r
    obtain ⟨h1, h2⟩ := part_quote c (quoteL s) (plain_quote s)
    obtain ⟨C, h3, h4⟩ := ih (catL r (setL (addB noneB c c)))
    refine ⟨C, (pL_part h1 h2).trans h3, fun t => (h4 t).trans ?_⟩
    constructor
    · rintro ⟨u, ⟨a, b, rfl, ha, hb⟩, rfl⟩
      rw [(setL_one c b).1 hb]
      exact ⟨a, ha, by simp⟩
    · rintro ⟨u, hu, rfl⟩
      exact ⟨u ++ [c], ⟨u, [c], rfl, hu, (setL_one c [c]).2 rfl⟩, by simp⟩
/-- Just a text itself is like its quotation. -/
theorem parse_quote (s : List UInt8) : ∃ C, pParse (quoteL s) = some C ∧ ∀ t, C t ↔ t = s := by
  obtain ⟨C, h1, h2⟩ := pL_quote s epsL
  refine ⟨C, parse_some.2 h1, fun t => (h2 t).trans ?_⟩
  constructor
  · rintro ⟨u, hu, rfl⟩
    rw [show u = [] from hu]
    rfl
  · rintro rfl
    exact ⟨[], rfl, rfl⟩

/- Sets of letters. -/
def Letter (c : UInt8) : Prop := 97 ≤ c.toNat ∧ c.toNat ≤ 122
theorem Letter.ne {c d : UInt8} (h : Letter c) (hd : d.toNat < 97) : c ≠ d := fun e => by subst e; have := h.1; omega
theorem item_letter {c : UInt8} (h : Letter c) (T : BSet) (x : List UInt8) (hx : x.head? ≠ some 45) : pItem T (c :: x) = some (addB T c c, x) := by
  have h1 : c ≠ 93 := h.ne (by decide)
  have h2 : c ≠ 92 := h.ne (by decide)
  have hb : pByte (c :: x) = some (c, x) := by simp [pByte, h1, h2]
  have hr : rangeB x = false := by
    match x with
    | [] => rfl
    | [d] => rfl
    | d :: e :: x =>
      have : d ≠ 45 := by simpa using hx
      simp [rangeB, this]
  unfold pItem
  rw [hb]
  simp [hr]
theorem items_letters (p : List UInt8) : ∀ (T : BSet) (n : Nat) (x : List UInt8), p ≠ [] → (∀ c ∈ p, Letter c) → p.length ≤ n → ∃ T', pItems n T (p ++ 93 :: x) = some (T', x) ∧ ∀ c, T' c = true ↔ T c = true ∨ c ∈ p := by
  induction p with
  | nil => intro T n x h; exact absurd rfl h
  | cons c p ih =>
    intro T n x _ hl hn
    obtain ⟨n, rfl⟩ : ∃ m, n = m + 1 := ⟨n - 1, by simp at hn; omega⟩
    have hc : ∀ d, addB T c c d = true ↔ T d = true ∨ d = c := fun d => by
      have := addB_one c d
      unfold addB noneB at this
      unfold addB
      rw [Bool.or_eq_true]
      rw [Bool.false_or] at this
      rw [this]
    have hi := item_letter (hl c (by simp)) T (p ++ 93 :: x) (by
      cases p with
      | nil => simp
      | cons d p =>
        have := (hl d (by simp)).ne (d := 45) (by decide)
        simpa using this)
    by_cases hp : p = []
    · subst hp
      refine ⟨addB T c c, ?_, fun d => by rw [hc]; simp⟩
      show (match pItem T (c :: ([] ++ 93 :: x)) with | none => none | some (T', l') => if l'.head? = some 93 then some (T', l'.drop 1) else pItems n T' l') = _
      rw [hi]
      rfl
    · obtain ⟨T', h1, h2⟩ := ih (addB T c c) n x hp (fun d hd => hl d (by simp [hd])) (by simp at hn; omega)
      refine ⟨T', ?_, fun d => by rw [h2, hc]; simp [or_assoc]⟩
      show (match pItem T (c :: (p ++ 93 :: x)) with | none => none | some (T', l') => if l'.head? = some 93 then some (T', l'.drop 1) else pItems n T' l') = _
      rw [hi]
      simp only
      rw [if_neg, h1]
      cases p with
      | nil => exact absurd rfl hp
      | cons d p =>
        have := (hl d (by simp)).ne (d := 93) (by decide)
        simpa using this
theorem parse_atom {l : List UInt8} {T : BSet} (hr : rowEnd l = false) (h : pAtom (pL noL epsL) l = some (setL T, [])) : ∃ C, pParse l = some C ∧ ∀ t, C t ↔ setL T t := by
  have hp : pP l = some (setL T, []) := by
    unfold pP pPart
    rw [h]
    rfl
  refine ⟨altL noL (catL epsL (setL T)), parse_some.2 ((pL_part hr hp).trans (pL_end _ _ [] (.inl rfl))), fun t => ?_⟩
  unfold altL
  rw [catL_eps]
  exact ⟨fun h => h.elim (fun h => h.elim) id, .inr⟩
/-- A set of letters, and the turned one. -/
theorem parse_letters {p : List UInt8} (hp : p ≠ []) (hl : ∀ c ∈ p, Letter c) : (∃ C, pParse (91 :: (p ++ [93])) = some C ∧ ∀ t, C t ↔ ∃ c, t = [c] ∧ c ∈ p) ∧ ∃ C, pParse (91 :: 94 :: (p ++ [93])) = some C ∧ ∀ t, C t ↔ ∃ c, t = [c] ∧ c ∉ p := by
  constructor
  · obtain ⟨T', h1, h2⟩ := items_letters p noneB ((p ++ [93]).length + 1) [] hp hl (by simp; omega)
    have hs : pSet (p ++ [93]) = some (T', []) := by
      unfold pSet
      rw [if_neg, h1]
      cases p with
      | nil => exact absurd rfl hp
      | cons d p =>
        have := (hl d (by simp)).ne (d := 94) (by decide)
        simpa using this
    obtain ⟨C, h3, h4⟩ := parse_atom (l := 91 :: (p ++ [93])) (T := T') rfl (by
      show (match pSet (p ++ [93]) with | none => none | some (T, l') => some (setL T, l')) = _
      rw [hs])
    refine ⟨C, h3, fun t => (h4 t).trans ?_⟩
    constructor
    · rintro ⟨c, rfl, hc⟩; exact ⟨c, rfl, ((h2 c).1 hc).elim (fun h => by cases h) id⟩
    · rintro ⟨c, rfl, hc⟩; exact ⟨c, rfl, (h2 c).2 (.inr hc)⟩
  · obtain ⟨T', h1, h2⟩ := items_letters p noneB ((94 :: (p ++ [93])).length) [] hp hl (by simp; omega)
    have hs : pSet (94 :: (p ++ [93])) = some (notB T', []) := by
      unfold pSet
      rw [if_pos (show (94 :: (p ++ [93])).head? = some 94 from rfl)]
      simp only [List.drop_succ_cons, List.drop_zero]
      rw [h1]
    obtain ⟨C, h3, h4⟩ := parse_atom (l := 91 :: 94 :: (p ++ [93])) (T := notB T') rfl (by
      show (match pSet (94 :: (p ++ [93])) with | none => none | some (T, l') => some (setL T, l')) = _
      rw [hs])
    refine ⟨C, h3, fun t => (h4 t).trans ?_⟩
    have hn : ∀ c, notB T' c = true ↔ c ∉ p := fun c => by
      unfold notB
      rw [Bool.not_eq_true', Bool.eq_false_iff, ne_eq, h2 c]
      exact ⟨fun h hc => h (.inr hc), fun h hc => hc.elim (fun h => by cases h) h⟩
    constructor
    · rintro ⟨c, rfl, hc⟩; exact ⟨c, rfl, (hn c).1 hc⟩
    · rintro ⟨c, rfl, hc⟩; exact ⟨c, rfl, (hn c).2 hc⟩

end Go.Proofs.YtlcbkhmaemoahaaDoor
