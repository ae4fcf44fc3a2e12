/-
  A key that is read, plainly: keys of unlike pairs are unlike; what the rounds of Read keep.
-/
import Derived.Test.YtdnpfmmkglgnjabDoorPlain
import Derived.Test.YtdnpfmmkglgnjabDoorRd5
import Derived.Test.YtdnpfmmkglgnjabDoorLKey
namespace Go.Proofs.YtdnpfmmkglgnjabDoor
open Go.RowKit

theorem bytes_of {x y : ByteArray} (h : x.data.toList = y.data.toList) : x = y := Go.WideShapes.bytes_inj h

theorem putText_len' (s : List UInt8) (h : s.length ≤ 140737488351232) : (putText s).length ≤ s.length + 22 := by
  have := itoa_len20 s.length (by omega) (by omega)
  simp [putText]; omega

/-- The bytes of a key behind its first one. -/
def tailK (ps : List Pr) : List UInt8 := (partsK ps).flatten ++ [101]
theorem keyL_tail (ps : List Pr) : keyL ps = 108 :: tailK ps := by simp [keyL, putList, tailK]
theorem tailK_nil : tailK [] = [101] := rfl
theorem tailK_cons (p : Pr) (ps : List Pr) : tailK (p :: ps) = putText p.1.data.toList ++ (putText p.2.data.toList ++ tailK ps) := by
  simp [tailK, partsK]
theorem partsK_snoc (ps : List Pr) (p : Pr) : (partsK (ps ++ [p])).flatten = (partsK ps).flatten ++ (putText p.1.data.toList ++ putText p.2.data.toList) := by
  simp [partsK]

theorem putText_head (s r : List UInt8) : ∃ x l, putText s ++ r = x :: l ∧ 48 ≤ x.toNat ∧ x.toNat ≤ 57 := by
  unfold putText
  have hi : Lib.itoa (s.length : Int) = Lib.decDigits s.length := by unfold Lib.itoa; rw [if_neg (by omega), Int.toNat_natCast]
  rw [hi]
  have hd := dec_digits s.length
  have hn := dec_ne s.length
  cases hx : Lib.decDigits s.length with
  | nil => exact absurd hx hn
  | cons x d =>
    rw [hx] at hd
    have := hd x (List.mem_cons_self ..)
    exact ⟨x, _, rfl, this.1, this.2⟩
theorem moreB_text (s r : List UInt8) : moreB (putText s ++ r) = true := by
  obtain ⟨x, l, e, h1, h2⟩ := putText_head s r
  rw [e]
  unfold moreB
  simp
  omega
theorem moreB_tail (p : Pr) (ps : List Pr) : moreB (tailK (p :: ps)) = true := by rw [tailK_cons]; exact moreB_text _ _
theorem moreB_end : moreB (tailK []) = false := rfl

theorem putText_split {s t x y : List UInt8} (hs : s.length ≤ 1000000000) (ht : t.length ≤ 1000000000) (h : putText s ++ x = putText t ++ y) : s = t ∧ x = y := by
  have h1 := read_putText s hs 1000000000 (by omega) x
  have h2 := read_putText t ht 1000000000 (by omega) y
  rw [h, h2] at h1
  simp only [Prod.mk.injEq, true_and] at h1
  exact ⟨h1.2.symm, h1.1.symm⟩

/-- Pairs of which no text is too long. -/
def Fit (ps : List Pr) : Prop := ∀ p ∈ ps, p.1.size ≤ 1000000000 ∧ p.2.size ≤ 1000000000
theorem tailK_inj : ∀ (ps qs : List Pr), Fit ps → Fit qs → tailK ps = tailK qs → ps = qs
  | [], [], _, _, _ => rfl
  | [], q :: qs, _, _, h => by
    have := moreB_tail q qs
    rw [← h, moreB_end] at this
    cases this
  | p :: ps, [], _, _, h => by
    have := moreB_tail p ps
    rw [h, moreB_end] at this
    cases this
  | p :: ps, q :: qs, hp, hq, h => by
    rw [tailK_cons, tailK_cons] at h
    have hp1 := hp p (List.mem_cons_self ..)
    have hq1 := hq q (List.mem_cons_self ..)
    obtain ⟨e1, h⟩ := putText_split hp1.1 hq1.1 h
    obtain ⟨e2, h⟩ := putText_split hp1.2 hq1.2 h
    have ih := tailK_inj ps qs (fun x hx => hp x (List.mem_cons_of_mem _ hx)) (fun x hx => hq x (List.mem_cons_of_mem _ hx)) h
    rw [ih, show p = q from Prod.ext (bytes_of e1) (bytes_of e2)]
theorem keyL_inj {ps qs : List Pr} (hp : Fit ps) (hq : Fit qs) (h : keyL ps = keyL qs) : ps = qs := by
  rw [keyL_tail, keyL_tail, List.cons.injEq] at h
  exact tailK_inj ps qs hp hq h.2

/-- Pairs that may be are short. -/
theorem check_fit {ps : List Pr} (h : checkE ps = 0) : ∀ p ∈ ps, p.1.size ≤ 16 ∧ p.2.size ≤ 64 := fun p hp => by
  have h0 : partsE ps = 0 := by
    unfold checkE at h
    split at h
    · rename_i hne; exact absurd h hne
    · rename_i hne; exact Classical.not_not.1 hne
  unfold partsE at h0
  split at h0
  · omega
  · split at h0
    · omega
    · rename_i hL
      split at h0
      · omega
      · rename_i hB
        refine ⟨?_, ?_⟩
        · by_cases hn : NameOk p.1
          · exact hn.1.2
          · exact absurd ⟨p, hp, .inl hn⟩ hB
        · by_cases hl : LongV p
          · exact absurd ⟨p, hp, hl⟩ hL
          · unfold LongV at hl; omega
theorem check_fits {ps : List Pr} (h : checkE ps = 0) : Fit ps := fun p hp => by have := check_fit h p hp; omega

theorem rdText_left {l r s : List UInt8} {e most : Int} (h : rdText most l = (r, e, s)) (he : e ≠ 0) : r = [] := by
  cases l with
  | nil => simp [rdText] at h; exact h.1
  | cons x l =>
    simp only [rdText] at h
    split at h
    · simp at h; exact h.1
    · split at h
      · split at h <;> (simp at h; exact h.1)
      · split at h
        · simp at h; exact h.1
        · split at h
          · simp at h; exact h.1
          · split at h
            · simp at h; exact h.1
            · split at h
              · simp at h; exact h.1
              · simp only [Prod.mk.injEq] at h; exact absurd h.2.1.symm he
/-- A text that is read leaves less. -/
theorem rdText_less {l r s : List UInt8} {e most : Int} (h : rdText most l = (r, e, s)) (hl : 0 < l.length) : r.length < l.length := by
  by_cases he : e = 0
  · subst he
    rw [rdText_laid h]
    simp [putText]
    omega
  · rw [rdText_left h he]
    exact hl
theorem rdText_le {l r s : List UInt8} {e most : Int} (h : rdText most l = (r, e, s)) : r.length ≤ l.length := by
  by_cases hl : 0 < l.length
  · exact Nat.le_of_lt (rdText_less h hl)
  · obtain rfl := List.eq_nil_of_length_eq_zero (show l.length = 0 by omega)
    simp [rdText] at h
    rw [← h.1]
    exact Nat.le_refl _
theorem moreB_pos {l : List UInt8} (h : moreB l = true) : 0 < l.length := by
  cases l with
  | nil => cases h
  | cons x l => simp

/-- What the rounds of Read keep: what is left, the error, the pairs so far. -/
structure Inv (key l : List UInt8) (e : Int) (ps : List Pr) : Prop where
  laid : e = 0 → key = 108 :: ((partsK ps).flatten ++ l)
  next : ∀ qs, key = keyL qs → checkE qs = 0 → e = 0 ∧ ∃ rs, qs = ps ++ rs ∧ l = tailK rs
  many : ps.length ≤ key.length + (if e = 0 then 0 else 1)

theorem inv_open (key : List UInt8) : Inv key (rdByte 108 key).1 (rdByte 108 key).2 [] := by
  refine ⟨fun h => ?_, fun qs hk _ => ?_, Nat.zero_le _⟩
  · cases key with
    | nil => simp [rdByte] at h
    | cons x l =>
      by_cases hx : x = 108
      · subst hx; simp [rdByte, partsK]
      · simp [rdByte, hx] at h
  · rw [hk, keyL_tail]
    exact ⟨rfl, qs, rfl, rfl⟩

theorem flat_len : ∀ ps : List Pr, ps.length ≤ (partsK ps).flatten.length
  | [] => Nat.zero_le _
  | p :: ps => by
    have := flat_len ps
    have e : (partsK (p :: ps)).flatten = putText p.1.data.toList ++ (putText p.2.data.toList ++ (partsK ps).flatten) := by simp [partsK]
    rw [e]
    simp only [List.length_append, List.length_cons, putText]
    omega

/-- A round: a name and a value. -/
theorem inv_round {key l l1 l2 s1 s2 : List UInt8} {e1 e2 : Int} {ps : List Pr} (h : Inv key l 0 ps) (hm : moreB l = true) (h1 : rdText 16 l = (l1, e1, s1)) (he1 : e1 = 0) (h2 : rdText 64 l1 = (l2, e2, s2)) :
    Inv key l2 e2 (ps ++ [(⟨s1.toArray⟩, ⟨s2.toArray⟩)]) := by
  subst he1
  have hl1 := rdText_laid h1
  have hlaid := h.laid rfl
  have hlen := flat_len ps
  refine ⟨fun he => ?_, fun qs hk hc => ?_, ?_⟩
  · subst he
    have hl2 := rdText_laid h2
    rw [hlaid, partsK_snoc, hl1, hl2]
    simp
  · obtain ⟨-, rs, rfl, hl⟩ := h.next qs hk hc
    cases rs with
    | nil => rw [hl, moreB_end] at hm; cases hm
    | cons q rs =>
      have hq := check_fit hc q (by simp)
      rw [tailK_cons] at hl
      have r1 := read_putText q.1.data.toList (show q.1.size ≤ _ by omega) 16 (show ((q.1.size : Nat) : Int) ≤ 16 by omega) (putText q.2.data.toList ++ tailK rs)
      rw [← hl, h1] at r1
      simp only [Prod.mk.injEq, true_and] at r1
      obtain ⟨rfl, rfl⟩ := r1
      have r2 := read_putText q.2.data.toList (show q.2.size ≤ _ by omega) 64 (show ((q.2.size : Nat) : Int) ≤ 64 by omega) (tailK rs)
      rw [h2] at r2
      simp only [Prod.mk.injEq] at r2
      obtain ⟨rfl, rfl, rfl⟩ := r2
      exact ⟨rfl, rs, by simp, rfl⟩
  · have hk : key.length = 1 + ((partsK ps).flatten.length + l.length) := by rw [hlaid]; simp; omega
    simp only [List.length_append, List.length_singleton]
    omega

theorem inv_bad {key l l1 s1 : List UInt8} {e1 : Int} {ps : List Pr} (h : Inv key l 0 ps) (hm : moreB l = true) (h1 : rdText 16 l = (l1, e1, s1)) (he1 : e1 ≠ 0) : Inv key l1 e1 (ps ++ [(⟨s1.toArray⟩, ⟨#[]⟩)]) := by
  refine ⟨fun he => absurd he he1, fun qs hk hc => ?_, ?_⟩
  · obtain ⟨-, rs, rfl, hl⟩ := h.next qs hk hc
    cases rs with
    | nil => rw [hl, moreB_end] at hm; cases hm
    | cons q rs =>
      have hq := check_fit hc q (by simp)
      rw [tailK_cons] at hl
      have r1 := read_putText q.1.data.toList (show q.1.size ≤ _ by omega) 16 (show ((q.1.size : Nat) : Int) ≤ 16 by omega) (putText q.2.data.toList ++ tailK rs)
      rw [← hl, h1] at r1
      simp only [Prod.mk.injEq] at r1
      exact absurd r1.2.1 he1
  · have := h.many
    rw [if_neg he1]
    simp only [if_pos, List.length_append, List.length_singleton] at this ⊢
    omega

/-- The end: the key of pairs that may be, or of none. -/
theorem inv_yes {key l : List UInt8} {ps : List Pr} (h : Inv key (101 :: l) 0 ps) (hl : l = []) : key = keyL ps := by
  subst hl
  rw [h.laid rfl]
  simp [keyL, putList]
theorem inv_err {key l : List UInt8} {e : Int} {ps : List Pr} (h : Inv key l e ps) (he : e ≠ 0) : ∀ qs, checkE qs = 0 → key ≠ keyL qs := fun qs hc hk => he (h.next qs hk hc).1
theorem inv_cut {key : List UInt8} {ps : List Pr} (h : Inv key [] 0 ps) : ∀ qs, checkE qs = 0 → key ≠ keyL qs := fun qs hc hk => by
  obtain ⟨-, rs, -, hl⟩ := h.next qs hk hc
  simp [tailK] at hl
theorem inv_last {key l : List UInt8} {ps : List Pr} (h : Inv key (101 :: l) 0 ps) : ∀ qs, checkE qs = 0 → key = keyL qs → qs = ps ∧ l = [] := fun qs hc hk => by
  obtain ⟨-, rs, rfl, hl⟩ := h.next qs hk hc
  cases rs with
  | nil => exact ⟨by simp, by simpa [tailK, partsK] using hl⟩
  | cons q rs =>
    have := moreB_tail q rs
    rw [← hl] at this
    simp [moreB] at this

end Go.Proofs.YtdnpfmmkglgnjabDoor
