/-
  Places of a text, plainly: from which place a text that is like a pattern may lead to which.
-/
import Derived.Test.YtlcbkhmaemoahaaDoorXLang
namespace Go.Proofs.YtlcbkhmaemoahaaDoor

/-- From a place to a place. -/
def Leads (A : Lang) (S : List UInt8) (i j : Nat) : Prop := i ≤ j ∧ j ≤ S.length ∧ A ((S.drop i).take (j - i))
/-- A place is there. -/
def At (l : List Bool) (j : Nat) : Prop := l[j]? = some true
theorem At.lt {l : List Bool} {j : Nat} (h : At l j) : j < l.length := (List.getElem?_eq_some_iff.1 h).1
/-- The places to which those lead. -/
def Outs (A : Lang) (S : List UInt8) (la lb : List Bool) : Prop := lb.length = la.length ∧ ∀ j, At lb j ↔ ∃ i, At la i ∧ Leads A S i j

theorem Leads.congr {A B : Lang} (h : ∀ s, A s ↔ B s) (S : List UInt8) (i j : Nat) : Leads A S i j ↔ Leads B S i j := by unfold Leads; rw [h]
theorem Outs.as {A B : Lang} {S : List UInt8} {la lb : List Bool} (h : Outs A S la lb) (e : ∀ s, A s ↔ B s) : Outs B S la lb := ⟨h.1, fun j => (h.2 j).trans (by simp only [Leads.congr e])⟩
theorem seg_cut (S : List UInt8) {i j k : Nat} (h1 : i ≤ j) (h2 : j ≤ k) : (S.drop i).take (k - i) = (S.drop i).take (j - i) ++ (S.drop j).take (k - j) := by
  have e : k - i = (j - i) + (k - j) := by omega
  rw [e, List.take_add, List.drop_drop]
  congr 3
  omega
theorem leads_eps (S : List UInt8) (i j : Nat) (hi : i ≤ S.length) : Leads epsL S i j ↔ i = j := by
  unfold Leads epsL
  constructor
  · rintro ⟨h1, h2, h3⟩
    have := congrArg List.length h3
    simp at this
    omega
  · rintro rfl
    simp [hi]
theorem leads_no (S : List UInt8) (i j : Nat) : ¬ Leads noL S i j := fun h => h.2.2
theorem leads_alt (A B : Lang) (S : List UInt8) (i j : Nat) : Leads (altL A B) S i j ↔ Leads A S i j ∨ Leads B S i j := by
  unfold Leads altL
  constructor
  · rintro ⟨h1, h2, h3 | h3⟩
    · exact .inl ⟨h1, h2, h3⟩
    · exact .inr ⟨h1, h2, h3⟩
  · rintro (⟨h1, h2, h3⟩ | ⟨h1, h2, h3⟩)
    · exact ⟨h1, h2, .inl h3⟩
    · exact ⟨h1, h2, .inr h3⟩
theorem leads_cat (A B : Lang) (S : List UInt8) (i k : Nat) : Leads (catL A B) S i k ↔ ∃ j, Leads A S i j ∧ Leads B S j k := by
  constructor
  · rintro ⟨h1, h2, u, v, h3, hA, hB⟩
    have hl := congrArg List.length h3
    simp only [List.length_take, List.length_drop, List.length_append] at hl
    have hj : i + u.length ≤ k := by omega
    have hc := seg_cut S (Nat.le_add_right i u.length) hj
    rw [h3, Nat.add_sub_cancel_left] at hc
    have hlu : ((S.drop i).take u.length).length = u.length := by rw [List.length_take, List.length_drop]; omega
    obtain ⟨e1, e2⟩ := List.append_inj hc hlu.symm
    exact ⟨i + u.length, ⟨Nat.le_add_right _ _, by omega, by rw [Nat.add_sub_cancel_left, ← e1]; exact hA⟩, hj, h2, by rw [← e2]; exact hB⟩
  · rintro ⟨j, ⟨h1, h2, hA⟩, h3, h4, hB⟩
    exact ⟨by omega, h4, _, _, seg_cut S h1 h3, hA, hB⟩
theorem leads_opt (A : Lang) (S : List UInt8) (i j : Nat) (hi : i ≤ S.length) : Leads (optL A) S i j ↔ i = j ∨ Leads A S i j := by
  have : ∀ s, optL A s ↔ altL epsL A s := fun s => Iff.rfl
  rw [Leads.congr this, leads_alt, leads_eps S i j hi]
theorem plus_first (A : Lang) (s : List UInt8) : PlusL A s ↔ A s ∨ catL A (PlusL A) s := by
  constructor
  · rintro ⟨us, h1, rfl, h3⟩
    cases us with
    | nil => exact absurd rfl h1
    | cons u us =>
      by_cases he : us = []
      · subst he; left; simpa using h3 u (by simp)
      · exact .inr ⟨u, us.flatten, by simp, h3 u (by simp), us, he, rfl, fun x hx => h3 x (by simp [hx])⟩
  · rintro (h | ⟨u, v, rfl, hu, hv⟩)
    · exact .one h
    · exact .more hu hv
theorem leads_plus (A : Lang) (S : List UInt8) (i j : Nat) : Leads (PlusL A) S i j ↔ Leads A S i j ∨ ∃ k, Leads A S i k ∧ Leads (PlusL A) S k j := by
  rw [Leads.congr (plus_first A), show (fun s => A s ∨ catL A (PlusL A) s) = altL A (catL A (PlusL A)) from rfl, leads_alt, leads_cat]
/-- What is closed under steps is closed under many. -/
theorem plus_closed {A : Lang} {S : List UInt8} {p : Nat → Prop} (hc : ∀ i j, p i → Leads A S i j → p j) {i j : Nat} (hi : p i) (h : Leads (PlusL A) S i j) : p j := by
  obtain ⟨h1, h2, us, h3, h4, h5⟩ := h
  clear h3
  induction us generalizing i with
  | nil =>
    have := congrArg List.length h4
    simp at this
    obtain rfl : i = j := by omega
    exact hi
  | cons u us ih =>
    rw [List.flatten_cons] at h4
    have hl := congrArg List.length h4
    simp only [List.length_take, List.length_drop, List.length_append] at hl
    have hj : i + u.length ≤ j := by omega
    have hcut := seg_cut S (Nat.le_add_right i u.length) hj
    rw [h4, Nat.add_sub_cancel_left] at hcut
    have hlu : ((S.drop i).take u.length).length = u.length := by rw [List.length_take, List.length_drop]; omega
    obtain ⟨e1, e2⟩ := List.append_inj hcut hlu.symm
    refine ih (i := i + u.length) ?_ hj e2.symm (fun x hx => h5 x (by simp [hx]))
    refine hc i _ hi ⟨Nat.le_add_right _ _, by omega, ?_⟩
    rw [Nat.add_sub_cancel_left, ← e1]
    exact h5 u (by simp)
theorem leads_plus_app {A : Lang} {S : List UInt8} {i j k : Nat} (h : Leads (PlusL A) S i j) (h2 : Leads A S j k) : Leads (PlusL A) S i k := by
  refine ⟨by have := h.1; have := h2.1; omega, h2.2.1, ?_⟩
  rw [seg_cut S h.1 h2.1]
  exact h.2.2.app (.one h2.2.2)

/-! Lists of places. -/
theorem at_or {la lb : List Bool} (hl : lb.length = la.length) (j : Nat) : At (List.zipWith (· || ·) la lb) j ↔ At la j ∨ At lb j := by
  unfold At
  rw [List.getElem?_zipWith]
  by_cases h : j < la.length
  · have h2 : j < lb.length := by omega
    rw [List.getElem?_eq_getElem h, List.getElem?_eq_getElem h2]
    cases la[j] <;> cases lb[j] <;> simp
  · rw [List.getElem?_eq_none (by omega : la.length ≤ j), List.getElem?_eq_none (by omega : lb.length ≤ j)]
    simp
theorem or_len {la lb : List Bool} (hl : lb.length = la.length) : (List.zipWith (· || ·) la lb).length = la.length := by simp [hl]
theorem or_more : ∀ (la lb : List Bool), lb.length = la.length → List.zipWith (· || ·) la lb ≠ la → la.count true < (List.zipWith (· || ·) la lb).count true
  | [], _, _, h => absurd rfl h
  | a :: la, b :: lb, hl, h => by
    have hle : ∀ (xs ys : List Bool), ys.length = xs.length → xs.count true ≤ (List.zipWith (· || ·) xs ys).count true := by
      intro xs
      induction xs with
      | nil => intro ys _; simp
      | cons x xs ih =>
        intro ys hy
        cases ys with
        | nil => cases hy
        | cons y ys =>
          have := ih ys (by simpa using hy)
          simp only [List.zipWith_cons_cons, List.count_cons]
          cases x <;> cases y <;> simp <;> omega
    simp only [List.zipWith_cons_cons, List.count_cons]
    by_cases ht : List.zipWith (· || ·) la lb = la
    · rw [ht]
      cases a <;> cases b <;> simp_all
    · have := or_more la lb (by simpa using hl) ht
      cases a <;> cases b <;> simp <;> omega
theorem all_true {l : List Bool} (h : l.length ≤ l.count true) {j : Nat} (hj : j < l.length) : At l j := by
  have : l.count true = l.length := Nat.le_antisymm List.count_le_length h
  have h2 := List.count_eq_length.1 this
  unfold At
  rw [List.getElem?_eq_getElem hj]
  simp only [Option.some.injEq]
  exact (h2 _ (List.getElem_mem hj)).symm

/-! A set: the byte at a place. -/
theorem leads_set (T : UInt8 → Bool) (S : List UInt8) (i j : Nat) : Leads (setL T) S i j ↔ j = i + 1 ∧ ∃ h : i < S.length, T S[i] = true := by
  constructor
  · rintro ⟨h1, h2, c, h3, h4⟩
    have hl := congrArg List.length h3
    simp only [List.length_take, List.length_drop, List.length_singleton] at hl
    have hi : i < S.length := by omega
    refine ⟨by omega, hi, ?_⟩
    rw [List.drop_eq_getElem_cons hi, show j - i = 1 by omega, List.take_succ_cons, List.take_zero] at h3
    injection h3 with h3
    rw [h3]
    exact h4
  · rintro ⟨rfl, hi, h⟩
    refine ⟨by omega, by omega, S[i], ?_, h⟩
    rw [List.drop_eq_getElem_cons hi, show i + 1 - i = 1 by omega, List.take_succ_cons, List.take_zero]
def hopL (T : UInt8 → Bool) (S : List UInt8) (la : List Bool) (k : Nat) : List Bool := (List.range la.length).map fun j => decide (0 < j ∧ j ≤ k) && (la.getD (j - 1) false && T (S.getD (j - 1) 0))
theorem hopL_len (T : UInt8 → Bool) (S : List UInt8) (la : List Bool) (k : Nat) : (hopL T S la k).length = la.length := by simp [hopL]
theorem hopL_zero (T : UInt8 → Bool) (S : List UInt8) (la : List Bool) : hopL T S la 0 = List.replicate la.length false := by
  unfold hopL
  refine List.ext_getElem (by simp) fun i h1 h2 => ?_
  simp
  omega
theorem hopL_hit {T : UInt8 → Bool} {S : List UInt8} {la : List Bool} {k : Nat} (h : (la.getD k false && T (S.getD k 0)) = true) : (hopL T S la k).set (k + 1) true = hopL T S la (k + 1) := by
  refine List.ext_getElem (by simp [hopL]) fun i h1 h2 => ?_
  rw [List.getElem_set]
  by_cases e : k + 1 = i
  · subst e
    simp only [hopL, List.getElem_map, List.getElem_range, if_pos, Nat.add_sub_cancel, h]
    simp
  · rw [if_neg e]
    simp only [hopL, List.getElem_map, List.getElem_range]
    congr 1
    simp only [decide_eq_decide]
    omega
theorem hopL_miss {T : UInt8 → Bool} {S : List UInt8} {la : List Bool} {k : Nat} (h : (la.getD k false && T (S.getD k 0)) = false) : hopL T S la k = hopL T S la (k + 1) := by
  refine List.ext_getElem (by simp [hopL]) fun i h1 h2 => ?_
  simp only [hopL, List.getElem_map, List.getElem_range]
  by_cases e : i = k + 1
  · subst e
    rw [Nat.add_sub_cancel, h]
    simp
  · congr 1
    simp only [decide_eq_decide]
    omega
theorem outs_set (T : UInt8 → Bool) (S : List UInt8) (la : List Bool) (hl : la.length = S.length + 1) : Outs (setL T) S la (hopL T S la S.length) := by
  refine ⟨hopL_len _ _ _ _, fun j => ?_⟩
  simp only [leads_set]
  constructor
  · intro h
    have hj := h.lt
    rw [hopL_len] at hj
    unfold At hopL at h
    rw [List.getElem?_map, List.getElem?_range hj] at h
    simp only [Option.map_some, Option.some.injEq, Bool.and_eq_true, decide_eq_true_eq] at h
    obtain ⟨⟨h1, h2⟩, h3, h4⟩ := h
    have hi : j - 1 < S.length := by omega
    refine ⟨j - 1, ?_, by omega, hi, ?_⟩
    · unfold At
      rw [List.getElem?_eq_getElem (by omega)]
      simp only [List.getD, List.getElem?_eq_getElem (show j - 1 < la.length by omega), Option.getD_some] at h3
      rw [h3]
    · simp only [List.getD, List.getElem?_eq_getElem hi, Option.getD_some] at h4
      exact h4
  · rintro ⟨i, h1, rfl, hi, h2⟩
    unfold At hopL
    rw [List.getElem?_map, List.getElem?_range (by omega)]
    simp only [Option.map_some, Option.some.injEq, Bool.and_eq_true, decide_eq_true_eq, Nat.add_sub_cancel]
    refine ⟨⟨by omega, by omega⟩, ?_, ?_⟩
    · unfold At at h1
      simp [List.getD, h1]
    · simp [List.getD, hi, h2]

/-! How the places of the parts make those of the whole. -/
section
variable {A B L A' : Lang} {S : List UInt8} {la lb lc l0 out : List Bool}
theorem outs_eps (hl : la.length = S.length + 1) : Outs epsL S la la := ⟨rfl, fun j => by
  constructor
  · intro h; exact ⟨j, h, (leads_eps S j j (by have := h.lt; omega)).2 rfl⟩
  · rintro ⟨i, h, k⟩
    rw [← (leads_eps S i j (by have := h.lt; omega)).1 k]
    exact h⟩
theorem outs_cat (h1 : Outs A S la lb) (h2 : Outs B S lb lc) : Outs (catL A B) S la lc := ⟨h2.1.trans h1.1, fun j => by
  rw [h2.2 j]
  constructor
  · rintro ⟨k, hk, hB⟩
    obtain ⟨i, hi, hA⟩ := (h1.2 k).1 hk
    exact ⟨i, hi, (leads_cat A B S i j).2 ⟨k, hA, hB⟩⟩
  · rintro ⟨i, hi, h⟩
    obtain ⟨k, hA, hB⟩ := (leads_cat A B S i j).1 h
    exact ⟨k, (h1.2 k).2 ⟨i, hi, hA⟩, hB⟩⟩
theorem outs_no : Outs noL S la (List.replicate la.length false) := ⟨by simp, fun j => by
  constructor
  · intro h
    unfold At at h
    rw [List.getElem?_replicate] at h
    split at h <;> simp at h
  · rintro ⟨i, -, h⟩
    exact absurd h (leads_no S i j)⟩
theorem outs_alt (h1 : Outs A S la lb) (h2 : Outs B S la lc) : Outs (altL A B) S la (List.zipWith (· || ·) lb lc) := ⟨by rw [or_len (by rw [h1.1, h2.1]), h1.1], fun j => by
  rw [at_or (by rw [h1.1, h2.1]), h1.2, h2.2]
  simp only [leads_alt]
  constructor
  · rintro (⟨i, h, k⟩ | ⟨i, h, k⟩)
    · exact ⟨i, h, .inl k⟩
    · exact ⟨i, h, .inr k⟩
  · rintro ⟨i, h, k | k⟩
    · exact .inl ⟨i, h, k⟩
    · exact .inr ⟨i, h, k⟩⟩
theorem outs_opt (hl : la.length = S.length + 1) (h : Outs A S la lb) : Outs (optL A) S la (List.zipWith (· || ·) la lb) := (outs_alt (outs_eps hl) h).as fun _ => Iff.rfl

/-- A pattern that may go on. -/
def Goes (A' L : Lang) (S : List UInt8) : Prop := ∀ i j k, i ≤ S.length → Leads A' S i j → Leads L S j k → Leads A' S i k
theorem goes_plus : Goes (PlusL L) L S := fun _ _ _ _ h1 h2 => leads_plus_app h1 h2
theorem goes_star : Goes (optL (PlusL L)) L S := fun i j k hi h1 h2 => by
  rw [leads_opt _ _ _ _ hi] at h1 ⊢
  rcases h1 with rfl | h1
  · exact .inr ((leads_plus L S i k).2 (.inl h2))
  · exact .inr (leads_plus_app h1 h2)
/-- Places that grow. -/
structure Grown (A' : Lang) (S : List UInt8) (la l0 out : List Bool) (k : Nat) : Prop where
  len : out.length = la.length
  all : ∀ j, At l0 j → At out j
  led : ∀ j, At out j → ∃ i, At la i ∧ Leads A' S i j
  cnt : k ≤ out.count true
theorem Grown.step {k : Nat} (hg : Goes A' L S) (hl : la.length = S.length + 1) (h : Grown A' S la l0 out k) (ho : Outs L S out lb) (hne : List.zipWith (· || ·) out lb ≠ out) : Grown A' S la l0 (List.zipWith (· || ·) out lb) (k + 1) := by
  refine ⟨(or_len ho.1).trans h.len, fun j hj => (at_or ho.1 j).2 (.inl (h.all j hj)), fun j hj => ?_, ?_⟩
  · rcases (at_or ho.1 j).1 hj with hj | hj
    · exact h.led j hj
    · obtain ⟨i, hi, h2⟩ := (ho.2 j).1 hj
      obtain ⟨i0, h3, h4⟩ := h.led i hi
      exact ⟨i0, h3, hg i0 i j (by have := h3.lt; omega) h4 h2⟩
  · have := or_more out lb ho.1 hne
    have := h.cnt
    omega
theorem closed_same (ho : Outs L S out lb) (he : List.zipWith (· || ·) out lb = out) : ∀ i j, At out i → Leads L S i j → At out j := fun i j hi h => by
  rw [← he]
  exact (at_or ho.1 j).2 (.inr ((ho.2 j).2 ⟨i, hi, h⟩))
theorem Grown.closed {k : Nat} (hl : la.length = S.length + 1) (h : Grown A' S la l0 out k) (hk : la.length ≤ k) : ∀ i j, At out i → Leads L S i j → At out j := fun i j _ h2 => by
  have h1 := h.cnt
  have h3 := h.len
  exact all_true (by omega) (by have := h2.2.1; omega)
theorem Grown.star {k : Nat} (hl : la.length = S.length + 1) (h : Grown (optL (PlusL L)) S la la out k) (hc : ∀ i j, At out i → Leads L S i j → At out j) : Outs (optL (PlusL L)) S la out := ⟨h.len, fun j => ⟨h.led j, fun ⟨i, hi, h2⟩ => by
  rcases (leads_opt _ _ _ _ (by have := hi.lt; omega)).1 h2 with rfl | h2
  · exact h.all i hi
  · exact plus_closed hc (h.all i hi) h2⟩⟩
theorem Grown.plus {k : Nat} (h0 : Outs L S la l0) (h : Grown (PlusL L) S la l0 out k) (hc : ∀ i j, At out i → Leads L S i j → At out j) : Outs (PlusL L) S la out := ⟨h.len, fun j => ⟨h.led j, fun ⟨i, hi, h2⟩ => by
  rcases (leads_plus _ _ _ _).1 h2 with h2 | ⟨k, h3, h4⟩
  · exact h.all j ((h0.2 j).2 ⟨i, hi, h2⟩)
  · exact plus_closed hc (h.all k ((h0.2 k).2 ⟨i, hi, h3⟩)) h4⟩⟩
theorem grown_star (hl : la.length = S.length + 1) : Grown (optL (PlusL L)) S la la la 0 := ⟨rfl, fun _ h => h, fun j hj => ⟨j, hj, (leads_opt _ _ _ _ (by have := hj.lt; omega)).2 (.inl rfl)⟩, Nat.zero_le _⟩
theorem grown_plus (h0 : Outs L S la l0) : Grown (PlusL L) S la l0 l0 0 := ⟨h0.1, fun _ h => h, fun j hj => by
  obtain ⟨i, hi, h⟩ := (h0.2 j).1 hj
  exact ⟨i, hi, (leads_plus _ _ _ _).2 (.inl h)⟩, Nat.zero_le _⟩
end

end Go.Proofs.YtlcbkhmaemoahaaDoor
