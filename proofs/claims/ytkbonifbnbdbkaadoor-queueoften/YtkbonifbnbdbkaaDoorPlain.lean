/-
  Numbers, texts and lists as bytes, without a program: what is laid is read again, and what is read was laid so.
-/
import Derived.Test.YtkbonifbnbdbkaaDoorPut2
import Derived.Lib.ParseIntBCases
namespace Go.Proofs.YtkbonifbnbdbkaaDoor
open Go.RowKit

theorem parseUintM_append (M : Nat) : ∀ (l r : List UInt8) (acc a : Nat), Lib.parseUintM M acc l = .ok a → Lib.parseUintM M acc (l ++ r) = Lib.parseUintM M a r
  | [], r, acc, a, h => by
    simp only [Lib.parseUintM] at h
    injection h with h
    rw [h]; rfl
  | c :: l, r, acc, a, h => by
    simp only [Lib.parseUintM, List.cons_append] at h ⊢
    split at h
    · rename_i hc
      rw [if_pos hc]
      split at h
      · cases h
      · rename_i h1
        rw [if_neg h1]
        split at h
        · cases h
        · rename_i h2
          rw [if_neg h2]
          exact parseUintM_append M l r _ a h
    · cases h

theorem digit_toNat {u : Nat} (h : u < 10) : (UInt8.ofNat (48 + u)).toNat = 48 + u := by
  rw [UInt8.toNat_ofNat']; omega

theorem parse_dec (M : Nat) (hM : M ≤ 18446744073709551615) : ∀ (u : Nat), u ≤ M → Lib.parseUintM M 0 (Lib.decDigits u) = .ok u := by
  intro u
  induction u using Nat.strongRecOn with
  | _ u ih =>
    intro hu
    rw [Lib.decDigits]
    by_cases h : u < 10
    · rw [dif_pos h]
      simp only [Lib.parseUintM, digit_toNat h]
      rw [if_pos (by omega), if_neg (by omega), if_neg (by omega)]
      congr 1; omega
    · rw [dif_neg h, parseUintM_append M _ _ 0 (u / 10) (ih (u / 10) (by omega) (by omega))]
      simp only [Lib.parseUintM, digit_toNat (show u % 10 < 10 by omega)]
      rw [if_pos (by omega), if_neg (by omega), if_neg (by omega)]
      congr 1; omega

theorem dec_digits : ∀ (u : Nat), ∀ c ∈ Lib.decDigits u, 48 ≤ c.toNat ∧ c.toNat ≤ 57 := by
  intro u
  induction u using Nat.strongRecOn with
  | _ u ih =>
    intro c hc
    rw [Lib.decDigits] at hc
    by_cases h : u < 10
    · rw [dif_pos h] at hc
      simp only [List.mem_singleton] at hc
      subst hc
      rw [digit_toNat h]; omega
    · rw [dif_neg h, List.mem_append] at hc
      rcases hc with hc | hc
      · exact ih (u / 10) (by omega) c hc
      · simp only [List.mem_singleton] at hc
        subst hc
        rw [digit_toNat (show u % 10 < 10 by omega)]; omega

theorem dec_ne (u : Nat) : Lib.decDigits u ≠ [] := by
  intro h
  have h1 := Lib.decDigits_length u
  have h2 := Lib.nDigits_pos u
  rw [h] at h1
  simp at h1
  omega

theorem nDigits_le19 (u : Nat) (h : u < 10000000000000000000) : Lib.nDigits u ≤ 19 := by
  rcases Nat.lt_or_ge 19 (Lib.nDigits u) with h1 | h1
  · exfalso
    have : ∀ (k v : Nat), k ≤ Lib.nDigits v → 1 ≤ k → 10 ^ (k - 1) ≤ v ∨ k = 1 := by
      intro k
      induction k with
      | zero => intro v _ h; omega
      | succ k ih =>
        intro v hv _
        rcases Nat.eq_zero_or_pos k with rfl | hk
        · exact .inr rfl
        · by_cases hv10 : v < 10
          · rw [Lib.nDigits_small hv10] at hv; omega
          · rw [Lib.nDigits_big hv10] at hv
            left
            rcases ih (v / 10) (by omega) hk with h | h
            · obtain ⟨j, rfl⟩ : ∃ j, k = j + 1 := ⟨k - 1, by omega⟩
              simp only [Nat.add_sub_cancel] at h ⊢
              rw [Nat.pow_succ]; omega
            · subst h; simp; omega
    rcases this 20 u (by omega) (by omega) with h2 | h2
    · have e : 10 ^ (20 - 1) = 10000000000000000000 := by decide
      omega
    · omega
  · exact h1

theorem itoa_len20 (n : Int) (h0 : -9223372036854775808 ≤ n) (h1 : n ≤ 9223372036854775807) : (Lib.itoa n).length ≤ 20 := by
  unfold Lib.itoa
  split
  · rw [List.length_cons, Lib.decDigits_length]
    have := nDigits_le19 n.natAbs (by omega)
    omega
  · rw [Lib.decDigits_length]
    have := nDigits_le19 n.toNat (by omega)
    omega

theorem itoa_bytes (n : Int) : ∀ c ∈ Lib.itoa n, c.toNat = 45 ∨ (48 ≤ c.toNat ∧ c.toNat ≤ 57) := by
  intro c hc
  unfold Lib.itoa at hc
  split at hc
  · rcases List.mem_cons.1 hc with rfl | hc
    · exact .inl rfl
    · exact .inr (dec_digits _ c hc)
  · exact .inr (dec_digits _ c hc)

/-- The digits of a number are those of that number. -/
theorem numOf_itoa (n : Int) (h0 : -9223372036854775808 ≤ n) (h1 : n ≤ 9223372036854775807) : numOf (Lib.itoa n) = some n := by
  have e64 : 2 ^ 64 - 1 = 18446744073709551615 := by decide
  have e63 : 2 ^ (64 - 1) = 9223372036854775808 := by decide
  have hp : Lib.parseIntB 64 (Lib.itoa n) = .ok n := by
    unfold Lib.itoa
    by_cases hn : n < 0
    · rw [if_pos hn, Lib.parseIntB_minus]
      unfold Lib.parseUintB
      rw [if_neg (dec_ne _), parse_dec _ (by omega) n.natAbs (by omega)]
      simp only [Lib.signedC]
      rw [if_neg (by omega)]
      congr 1; omega
    · rw [if_neg hn]
      have hd := dec_digits n.toNat
      have hpu : Lib.parseUintB 64 (Lib.decDigits n.toNat) = .ok n.toNat := by
        unfold Lib.parseUintB
        rw [if_neg (dec_ne _), parse_dec _ (by omega) n.toNat (by omega)]
      cases hq : Lib.decDigits n.toNat with
      | nil => exact absurd hq (dec_ne _)
      | cons c r =>
        rw [hq] at hd hpu
        have hc := hd c (List.mem_cons_self ..)
        rw [Lib.parseIntB_plain 64 c r (by omega) (by omega), hpu]
        simp only [Lib.signlessC]
        rw [if_neg (by omega)]
        congr 1; omega
  unfold numOf
  rw [hp]
  simp

/-- The first of a byte behind bytes that are none of it. -/
theorem index_behind : ∀ (d r : List UInt8) (c : UInt8) (m : Nat), (∀ x ∈ d, x ≠ c) → d.length ≤ m → Lib.indexByte ((d ++ c :: r).take (m + 1)) c = d.length
  | [], r, c, m, _, _ => by simp [Lib.indexByte]
  | x :: d, r, c, m, hd, hm => by
    simp only [List.length_cons] at hm
    obtain ⟨k, rfl⟩ : ∃ k, m = k + 1 := ⟨m - 1, by omega⟩
    have ih := index_behind d r c k (fun y hy => hd y (List.mem_cons_of_mem _ hy)) (by omega)
    rw [List.cons_append, List.take_succ_cons]
    unfold Lib.indexByte
    have hx : (x == c) = false := by simpa using hd x (List.mem_cons_self ..)
    rw [hx, ih]
    have : ((d.length : Int) == -1) = false := by rw [beq_eq_false_iff_ne]; omega
    simp [this]

theorem itoa_free (n : Int) (c : UInt8) (hc : c.toNat = 101 ∨ c.toNat = 58) : ∀ x ∈ Lib.itoa n, x ≠ c := by
  intro x hx e
  subst e
  have := itoa_bytes n x hx
  omega


/-- What is laid for a text is read as it was. -/
theorem read_putText (s : List UInt8) (hs : s.length ≤ 1000000000) (most : Int) (hm : (s.length : Int) ≤ most) (r : List UInt8) : rdText most (putText s ++ r) = (r, 0, s) := by
  have hlen : (Lib.itoa s.length).length ≤ 10 := by
    rw [show Lib.itoa (s.length : Int) = Lib.decDigits s.length by unfold Lib.itoa; rw [if_neg (by omega), Int.toNat_natCast], Lib.decDigits_length]
    rcases Nat.lt_or_ge (Lib.nDigits s.length) 11 with h | h
    · omega
    · exfalso
      have : ∀ (k v : Nat), k ≤ Lib.nDigits v → 1 ≤ k → 10 ^ (k - 1) ≤ v ∨ k = 1 := by
        intro k
        induction k with
        | zero => intro v _ h; omega
        | succ k ih =>
          intro v hv _
          rcases Nat.eq_zero_or_pos k with rfl | hk
          · exact .inr rfl
          · by_cases hv10 : v < 10
            · rw [Lib.nDigits_small hv10] at hv; omega
            · rw [Lib.nDigits_big hv10] at hv
              left
              rcases ih (v / 10) (by omega) hk with h | h
              · obtain ⟨j, rfl⟩ : ∃ j, k = j + 1 := ⟨k - 1, by omega⟩
                simp only [Nat.add_sub_cancel] at h ⊢
                rw [Nat.pow_succ]; omega
              · subst h; simp; omega
      rcases this 11 s.length h (by omega) with h2 | h2
      · have e : 10 ^ (11 - 1) = 10000000000 := by decide
        omega
      · omega
  have e : putText s ++ r = Lib.itoa s.length ++ 58 :: (s ++ r) := by simp [putText]
  have hi : Lib.indexByte ((Lib.itoa s.length ++ 58 :: (s ++ r)).take 11) 58 = (Lib.itoa s.length).length := index_behind _ (s ++ r) 58 10 (itoa_free s.length 58 (.inr rfl)) hlen
  have hn := numOf_itoa s.length (by omega) (by omega)
  rw [e]
  generalize hd : Lib.itoa (s.length : Int) = d at *
  cases d with
  | nil => exact absurd (by unfold Lib.itoa at hd; rw [if_neg (by omega)] at hd; exact hd) (dec_ne _)
  | cons c d =>
    have hc : 48 ≤ c.toNat ∧ c.toNat ≤ 57 := by
      have hd2 : Lib.decDigits s.length = c :: d := by rw [← hd]; unfold Lib.itoa; rw [if_neg (by omega), Int.toNat_natCast]
      exact dec_digits s.length c (by rw [hd2]; exact List.mem_cons_self ..)
    rw [List.cons_append] at hi ⊢
    simp only [rdText]
    rw [if_neg (by omega), hi, if_neg (by omega), Int.toNat_natCast, ← List.cons_append, List.take_left, hn]
    simp only
    rw [if_neg (by omega), if_neg (by omega)]
    have ed : ((c :: d) ++ 58 :: (s ++ r)).drop ((c :: d).length + 1) = s ++ r := by
      rw [← List.drop_drop, List.drop_left]; rfl
    rw [ed, if_neg (by simp; omega), Int.toNat_natCast, List.drop_left, List.take_left]



/-- What is read as a text was laid so. -/
theorem rdText_laid {l r s : List UInt8} {most : Int} (h : rdText most l = (r, 0, s)) : l = putText s ++ r := by
  cases l with
  | nil => simp [rdText] at h
  | cons x l =>
    simp only [rdText] at h
    split at h
    · simp at h
    · rename_i hx
      split at h
      · split at h <;> simp at h
      · rename_i hi
        obtain ⟨k, hk⟩ : ∃ k : Nat, Lib.indexByte ((x :: l).take 11) 58 = k := ⟨(Lib.indexByte ((x :: l).take 11) 58).toNat, by have := Lib.indexByte_ge ((x :: l).take 11) 58; omega⟩
        rw [hk, Int.toNat_natCast] at h
        obtain ⟨hkl, _, hk1⟩ := hit_facts (m := 10) hk
        cases hn : numOf ((x :: l).take k) with
        | none => rw [hn] at h; simp at h
        | some n =>
          rw [hn] at h
          simp only at h
          split at h
          · simp at h
          · split at h
            · simp at h
            · split at h
              · simp at h
              · rename_i h1 h2 h3
                simp only [Prod.mk.injEq, true_and] at h
                obtain ⟨rfl, rfl⟩ := h
                have h0 := numOf_digit (by omega) hn
                obtain ⟨_, hd⟩ := numOf_some hn
                have e : (x :: l) = (x :: l).take k ++ 58 :: (x :: l).drop (k + 1) := by
                  have e2 : (x :: l).drop k = 58 :: (x :: l).drop (k + 1) := by
                    rw [List.drop_eq_getElem_cons hkl]
                    congr 1
                    rw [List.getElem?_eq_getElem hkl] at hk1
                    exact Option.some.inj hk1
                  rw [← e2, List.take_append_drop]
                generalize hq : (x :: l).drop (k + 1) = q at *
                have hl : ((q.take n.toNat).length : Int) = n := by rw [List.length_take]; omega
                unfold putText
                rw [hl, hd]
                simp only [List.append_assoc, List.cons_append, List.take_append_drop]
                exact e

theorem rdText_err {l r s : List UInt8} {e most : Int} (h : rdText most l = (r, e, s)) (he : e ≠ 0) : s = [] := by
  cases l with
  | nil => simp [rdText] at h; exact h.2.2
  | cons x l =>
    simp only [rdText] at h
    split at h
    · simp at h; exact h.2.2
    · split at h
      · split at h <;> (simp at h; exact h.2.2)
      · split at h
        · simp at h; exact h.2.2
        · split at h
          · simp at h; exact h.2.2
          · split at h
            · simp at h; exact h.2.2
            · split at h
              · simp at h; exact h.2.2
              · simp only [Prod.mk.injEq] at h; exact absurd h.2.1.symm he


end Go.Proofs.YtkbonifbnbdbkaaDoor
