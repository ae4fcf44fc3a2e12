/-
  Numbers, texts and lists as bytes, without a program: what is laid is read again, and what is read was laid so. What Open, Close and Text of a reader make of what is left, each in one contract. A slice of slices of bytes that a call grows. Labels, plainly: what a name is, which error pairs have, and that names in order make one list. What the small calls of package label do: isDigit, isLetter, Name, checkParts, rise, Check. Pairs lie at an address, two cells each. Pairs in memory; what checkParts, rise and Check do.
-/
import Derived.Test.YtmanjegdgjeeiaaGreatDoorKW04
import Derived.Lib.ParseIntBCases
import Derived.Maps.AppendAt
import Derived.Lib.SlBytesConst
import Derived.Shelf.Bytes.SlSmallAll
import Derived.WalkKit
import Derived.Test.YtmanjegdgjeeiaaGreatDoorRows
import Derived.WalkSpells
import Derived.WalkLawsBesides
import Derived.Lib.Hide
import Derived.OwnWalk
import Derived.Deep.QuietTactic
namespace Go.Proofs.YtmanjegdgjeeiaaGreatDoor
open Go.RowKit

theorem parseUintM_append (M : Nat) : ∀ (l r : List UInt8) (acc a : Nat), Lib.parseUintM M acc l = .ok a → Lib.parseUintM M acc (l ++ r) = Lib.parseUintM M a r
  | [], r, acc, a, h => by
    simp only [Lib.parseUintM] at h
    injection h with h
    rw [h]; rfl
  | c :: l, r, acc, a, h => by
    simp only [Lib.parseUintM, List.cons_append] at h ⊢
    split at h
    · rename_i hc
      rw [if_pos hc]
      split at h
      · cases h
      · rename_i h1
        rw [if_neg h1]
        split at h
        · cases h
        · rename_i h2
          rw [if_neg h2]
          exact parseUintM_append M l r _ a h
    · cases h

theorem digit_toNat {u : Nat} (h : u < 10) : (UInt8.ofNat (48 + u)).toNat = 48 + u := by
  rw [UInt8.toNat_ofNat']; omega

theorem parse_dec (M : Nat) (hM : M ≤ 18446744073709551615) : ∀ (u : Nat), u ≤ M → Lib.parseUintM M 0 (Lib.decDigits u) = .ok u := by
  intro u
  induction u using Nat.strongRecOn with
  | _ u ih =>
    intro hu
    rw [Lib.decDigits]
    by_cases h : u < 10
    · rw [dif_pos h]
      simp only [Lib.parseUintM, digit_toNat h]
      rw [if_pos (by omega), if_neg (by omega), if_neg (by omega)]
      congr 1; omega
    · rw [dif_neg h, parseUintM_append M _ _ 0 (u / 10) (ih (u / 10) (by omega) (by omega))]
      simp only [Lib.parseUintM, digit_toNat (show u % 10 < 10 by omega)]
      rw [if_pos (by omega), if_neg (by omega), if_neg (by omega)]
      congr 1; omega

theorem dec_digits : ∀ (u : Nat), ∀ c ∈ Lib.decDigits u, 48 ≤ c.toNat ∧ c.toNat ≤ 57 := by
  intro u
  induction u using Nat.strongRecOn with
  | _ u ih =>
    intro c hc
    rw [Lib.decDigits] at hc
    by_cases h : u < 10
    · rw [dif_pos h] at hc
      simp only [List.mem_singleton] at hc
      subst hc
      rw [digit_toNat h]; omega
    · rw [dif_neg h, List.mem_append] at hc
      rcases hc with hc | hc
      · exact ih (u / 10) (by omega) c hc
      · simp only [List.mem_singleton] at hc
        subst hc
        rw [digit_toNat (show u % 10 < 10 by omega)]; omega

theorem dec_ne (u : Nat) : Lib.decDigits u ≠ [] := by
  intro h
  have h1 := Lib.decDigits_length u
  have h2 := Lib.nDigits_pos u
  rw [h] at h1
  simp at h1
  omega

theorem nDigits_le19 (u : Nat) (h : u < 10000000000000000000) : Lib.nDigits u ≤ 19 := by
  rcases Nat.lt_or_ge 19 (Lib.nDigits u) with h1 | h1
  · exfalso
    have : ∀ (k v : Nat), k ≤ Lib.nDigits v → 1 ≤ k → 10 ^ (k - 1) ≤ v ∨ k = 1 := by
      intro k
      induction k with
      | zero => intro v _ h; omega
      | succ k ih =>
        intro v hv _
        rcases Nat.eq_zero_or_pos k with rfl | hk
        · exact .inr rfl
        · by_cases hv10 : v < 10
          · rw [Lib.nDigits_small hv10] at hv; omega
          · rw [Lib.nDigits_big hv10] at hv
            left
            rcases ih (v / 10) (by omega) hk with h | h
            · obtain ⟨j, rfl⟩ : ∃ j, k = j + 1 := ⟨k - 1, by omega⟩
              simp only [Nat.add_sub_cancel] at h ⊢
              rw [Nat.pow_succ]; omega
            · subst h; simp; omega
    rcases this 20 u (by omega) (by omega) with h2 | h2
    · have e : 10 ^ (20 - 1) = 10000000000000000000 := by decide
      omega
    · omega
  · exact h1

theorem itoa_len20 (n : Int) (h0 : -9223372036854775808 ≤ n) (h1 : n ≤ 9223372036854775807) : (Lib.itoa n).length ≤ 20 := by
  unfold Lib.itoa
  split
  · rw [List.length_cons, Lib.decDigits_length]
    have := nDigits_le19 n.natAbs (by omega)
    omega
  · rw [Lib.decDigits_length]
    have := nDigits_le19 n.toNat (by omega)
    omega

theorem itoa_bytes (n : Int) : ∀ c ∈ Lib.itoa n, c.toNat = 45 ∨ (48 ≤ c.toNat ∧ c.toNat ≤ 57) := by
  intro c hc
  unfold Lib.itoa at hc
  split at hc
  · rcases List.mem_cons.1 hc with rfl | hc
    · exact .inl rfl
    · exact .inr (dec_digits _ c hc)
  · exact .inr (dec_digits _ c hc)

/-- The digits of a number are those of that number. -/
theorem numOf_itoa (n : Int) (h0 : -9223372036854775808 ≤ n) (h1 : n ≤ 9223372036854775807) : numOf (Lib.itoa n) = some n := by
  have e64 : 2 ^ 64 - 1 = 18446744073709551615 := by decide
  have e63 : 2 ^ (64 - 1) = 9223372036854775808 := by decide
  have hp : Lib.parseIntB 64 (Lib.itoa n) = .ok n := by
    unfold Lib.itoa
    by_cases hn : n < 0
    · rw [if_pos hn, Lib.parseIntB_minus]
      unfold Lib.parseUintB
      rw [if_neg (dec_ne _), parse_dec _ (by omega) n.natAbs (by omega)]
      simp only [Lib.signedC]
      rw [if_neg (by omega)]
      congr 1; omega
    · rw [if_neg hn]
      have hd := dec_digits n.toNat
      have hpu : Lib.parseUintB 64 (Lib.decDigits n.toNat) = .ok n.toNat := by
        unfold Lib.parseUintB
        rw [if_neg (dec_ne _), parse_dec _ (by omega) n.toNat (by omega)]
      cases hq : Lib.decDigits n.toNat with
      | nil => exact absurd hq (dec_ne _)
      | cons c r =>
        rw [hq] at hd hpu
        have hc := hd c (List.mem_cons_self ..)
        rw [Lib.parseIntB_plain 64 c r (by omega) (by omega), hpu]
        simp only [Lib.signlessC]
        rw [if_neg (by omega)]
        congr 1; omega
  unfold numOf
  rw [hp]
  simp

/-- The first of a byte behind bytes that are none of it. -/
theorem index_behind : ∀ (d r : List UInt8) (c : UInt8) (m : Nat), (∀ x ∈ d, x ≠ c) → d.length ≤ m → Lib.indexByte ((d ++ c :: r).take (m + 1)) c = d.length
  | [], r, c, m, _, _ => by simp [Lib.indexByte]
  | x :: d, r, c, m, hd, hm => by
    simp only [List.length_cons] at hm
    obtain ⟨k, rfl⟩ : ∃ k, m = k + 1 := ⟨m - 1, by omega⟩
    have ih := index_behind d r c k (fun y hy => hd y (List.mem_cons_of_mem _ hy)) (by omega)
    rw [List.cons_append, List.take_succ_cons]
    unfold Lib.indexByte
    have hx : (x == c) = false := by simpa using hd x (List.mem_cons_self ..)
    rw [hx, ih]
    have : ((d.length : Int) == -1) = false := by rw [beq_eq_false_iff_ne]; omega
    simp [this]

theorem itoa_free (n : Int) (c : UInt8) (hc : c.toNat = 101 ∨ c.toNat = 58) : ∀ x ∈ Lib.itoa n, x ≠ c := by
  intro x hx e
  subst e
  have := itoa_bytes n x hx
  omega

/-- What is laid for a number is read as it was. -/
theorem read_putInt (n : Int) (h0 : -9223372036854775808 ≤ n) (h1 : n ≤ 9223372036854775807) (r : List UInt8) : rdInt (putInt n ++ r) = (r, 0, n) := by
  have hi : Lib.indexByte ((Lib.itoa n ++ 101 :: r).take 21) 101 = (Lib.itoa n).length := index_behind _ r 101 20 (itoa_free n 101 (.inl rfl)) (itoa_len20 n h0 h1)
  have e : putInt n ++ r = 105 :: (Lib.itoa n ++ 101 :: r) := by simp [putInt]
  rw [e]
  simp only [rdInt]
  rw [if_neg (by simp), hi, if_neg (by omega), Int.toNat_natCast, List.take_left, numOf_itoa n h0 h1]
  simp

/-- What is laid for a text is read as it was. -/
theorem read_putText (s : List UInt8) (hs : s.length ≤ 1000000000) (most : Int) (hm : (s.length : Int) ≤ most) (r : List UInt8) : rdText most (putText s ++ r) = (r, 0, s) := by
  have hlen : (Lib.itoa s.length).length ≤ 10 := by
    rw [show Lib.itoa (s.length : Int) = Lib.decDigits s.length by unfold Lib.itoa; rw [if_neg (by omega), Int.toNat_natCast], Lib.decDigits_length]
    rcases Nat.lt_or_ge (Lib.nDigits s.length) 11 with h | h
    · omega
    · exfalso
      have : ∀ (k v : Nat), k ≤ Lib.nDigits v → 1 ≤ k → 10 ^ (k - 1) ≤ v ∨ k = 1 := by
        intro k
        induction k with
        | zero => intro v _ h; omega
        | succ k ih =>
          intro v hv _
          rcases Nat.eq_zero_or_pos k with rfl | hk
          · exact .inr rfl
          · by_cases hv10 : v < 10
            · rw [Lib.nDigits_small hv10] at hv; omega
            · rw [Lib.nDigits_big hv10] at hv
              left
              rcases ih (v / 10) (by omega) hk with h | h
              · obtain ⟨j, rfl⟩ : ∃ j, k = j + 1 := ⟨k - 1, by omega⟩
                simp only [Nat.add_sub_cancel] at h ⊢
                rw [Nat.pow_succ]; omega
              · subst h; simp; omega
      rcases this 11 s.length h (by omega) with h2 | h2
      · have e : 10 ^ (11 - 1) = 10000000000 := by decide
        omega
      · omega
  have e : putText s ++ r = Lib.itoa s.length ++ 58 :: (s ++ r) := by simp [putText]
  have hi : Lib.indexByte ((Lib.itoa s.length ++ 58 :: (s ++ r)).take 11) 58 = (Lib.itoa s.length).length := index_behind _ (s ++ r) 58 10 (itoa_free s.length 58 (.inr rfl)) hlen
  have hn := numOf_itoa s.length (by omega) (by omega)
  rw [e]
  generalize hd : Lib.itoa (s.length : Int) = d at *
  cases d with
  | nil => exact absurd (by unfold Lib.itoa at hd; rw [if_neg (by omega)] at hd; exact hd) (dec_ne _)
  | cons c d =>
    have hc : 48 ≤ c.toNat ∧ c.toNat ≤ 57 := by
      have hd2 : Lib.decDigits s.length = c :: d := by rw [← hd]; unfold Lib.itoa; rw [if_neg (by omega), Int.toNat_natCast]
      exact dec_digits s.length c (by rw [hd2]; exact List.mem_cons_self ..)
    rw [List.cons_append] at hi ⊢
    simp only [rdText]
    rw [if_neg (by omega), hi, if_neg (by omega), Int.toNat_natCast, ← List.cons_append, List.take_left, hn]
    simp only
    rw [if_neg (by omega), if_neg (by omega)]
    have ed : ((c :: d) ++ 58 :: (s ++ r)).drop ((c :: d).length + 1) = s ++ r := by
      rw [← List.drop_drop, List.drop_left]; rfl
    rw [ed, if_neg (by simp; omega), Int.toNat_natCast, List.drop_left, List.take_left]

/-- What is read as a number was laid so. -/
theorem rdInt_laid {l r : List UInt8} {n : Int} (h : rdInt l = (r, 0, n)) : l = putInt n ++ r := by
  cases l with
  | nil => simp [rdInt] at h
  | cons x l =>
    simp only [rdInt] at h
    split at h
    · simp at h
    · rename_i hx
      simp only [ne_eq, Decidable.not_not] at hx
      subst hx
      split at h
      · split at h <;> simp at h
      · rename_i hi
        obtain ⟨k, hk⟩ : ∃ k : Nat, Lib.indexByte (l.take 21) 101 = k := ⟨(Lib.indexByte (l.take 21) 101).toNat, by have := Lib.indexByte_ge (l.take 21) 101; omega⟩
        rw [hk, Int.toNat_natCast] at h
        obtain ⟨hkl, _, hk1⟩ := hit_facts (m := 20) hk
        cases hn : numOf (l.take k) with
        | none => rw [hn] at h; simp at h
        | some n' =>
          rw [hn] at h
          simp only [Prod.mk.injEq, true_and] at h
          obtain ⟨rfl, rfl⟩ := h
          obtain ⟨_, hd⟩ := numOf_some hn
          have e : l = l.take k ++ 101 :: l.drop (k + 1) := by
            have e2 : l.drop k = 101 :: l.drop (k + 1) := by
              rw [List.drop_eq_getElem_cons hkl]
              congr 1
              rw [List.getElem?_eq_getElem hkl] at hk1
              exact Option.some.inj hk1
            rw [← e2, List.take_append_drop]
          unfold putInt
          rw [hd]
          simp only [List.cons_append, List.append_assoc, List.nil_append]
          rw [← e]

theorem rdInt_err {l r : List UInt8} {e n : Int} (h : rdInt l = (r, e, n)) (he : e ≠ 0) : n = 0 := by
  cases l with
  | nil => simp [rdInt] at h; omega
  | cons x l =>
    simp only [rdInt] at h
    split at h
    · simp at h; omega
    · split at h
      · split at h <;> simp at h <;> omega
      · split at h
        · simp at h; omega
        · simp at h; omega

/-- What is read as a text was laid so. -/
theorem rdText_laid {l r s : List UInt8} {most : Int} (h : rdText most l = (r, 0, s)) : l = putText s ++ r := by
  cases l with
  | nil => simp [rdText] at h
  | cons x l =>
    simp only [rdText] at h
    split at h
    · simp at h
    · rename_i hx
      split at h
      · split at h <;> simp at h
      · rename_i hi
        obtain ⟨k, hk⟩ : ∃ k : Nat, Lib.indexByte ((x :: l).take 11) 58 = k := ⟨(Lib.indexByte ((x :: l).take 11) 58).toNat, by have := Lib.indexByte_ge ((x :: l).take 11) 58; omega⟩
        rw [hk, Int.toNat_natCast] at h
        obtain ⟨hkl, _, hk1⟩ := hit_facts (m := 10) hk
        cases hn : numOf ((x :: l).take k) with
        | none => rw [hn] at h; simp at h
        | some n =>
          rw [hn] at h
          simp only at h
          split at h
          · simp at h
          · split at h
            · simp at h
            · split at h
              · simp at h
              · rename_i h1 h2 h3
                simp only [Prod.mk.injEq, true_and] at h
                obtain ⟨rfl, rfl⟩ := h
                have h0 := numOf_digit (by omega) hn
                obtain ⟨_, hd⟩ := numOf_some hn
                have e : (x :: l) = (x :: l).take k ++ 58 :: (x :: l).drop (k + 1) := by
                  have e2 : (x :: l).drop k = 58 :: (x :: l).drop (k + 1) := by
                    rw [List.drop_eq_getElem_cons hkl]
                    congr 1
                    rw [List.getElem?_eq_getElem hkl] at hk1
                    exact Option.some.inj hk1
                  rw [← e2, List.take_append_drop]
                generalize hq : (x :: l).drop (k + 1) = q at *
                have hl : ((q.take n.toNat).length : Int) = n := by rw [List.length_take]; omega
                unfold putText
                rw [hl, hd]
                simp only [List.append_assoc, List.cons_append, List.take_append_drop]
                exact e

theorem rdText_err {l r s : List UInt8} {e most : Int} (h : rdText most l = (r, e, s)) (he : e ≠ 0) : s = [] := by
  cases l with
  | nil => simp [rdText] at h; exact h.2.2
  | cons x l =>
    simp only [rdText] at h
    split at h
    · simp at h; exact h.2.2
    · split at h
      · split at h <;> (simp at h; exact h.2.2)
      · split at h
        · simp at h; exact h.2.2
        · split at h
          · simp at h; exact h.2.2
          · split at h
            · simp at h; exact h.2.2
            · split at h
              · simp at h; exact h.2.2
              · simp only [Prod.mk.injEq] at h; exact absurd h.2.1.symm he

/-- No bytes are a number and a text. -/
theorem not_both {l r r' s : List UInt8} {n most : Int} (h : rdInt l = (r, 0, n)) (h' : rdText most l = (r', 0, s)) : False := by
  have e1 := rdInt_laid h
  cases l with
  | nil => simp [rdInt] at h
  | cons x l =>
    simp only [putInt, List.cons_append, List.cons.injEq] at e1
    obtain ⟨rfl, _⟩ := e1
    simp [rdText] at h'

end Go.Proofs.YtmanjegdgjeeiaaGreatDoor
namespace Go.Proofs.YtmanjegdgjeeiaaGreatDoor
open Go.RowKit

/-- What Open, or Close, makes of what is left, where there was no error. -/
def rdByte (ch : UInt8) : List UInt8 → List UInt8 × Int
  | [] => ([], 3)
  | x :: l => if x = ch then (l, 0) else ([], 4)

theorem ne_byte {x ch : UInt8} {n : Nat} (hn : ch.toNat = n) (h : ¬ x = ch) : ((x.toNat : Int) != n) = true := by
  have : x.toNat ≠ ch.toNat := fun e => h (UInt8.toNat_inj.1 e)
  simp
  omega

theorem Open_any (rb : Nat) (a : Option Addr) (c : Nat) (l : List UInt8) (w : World) (h : Rd w rb a c l 0) :
    Calls Tryz.prog 49 #[.pointer (some ⟨rb, 0, none⟩)] w fun r w' => r = .returned (.tuple #[]) ∧ (∃ a c, Rd w' rb a c (rdByte 108 l).1 (rdByte 108 l).2) ∧ w.grownBy w' (some rb) := by
  cases l with
  | nil => exact (Open_cut rb a c w h).mono fun r w' ⟨h1, h2, h3⟩ => ⟨h1, ⟨_, _, h2⟩, h3⟩
  | cons x l =>
    by_cases hx : x = 108
    · subst hx
      have e : rdByte 108 (108 :: l) = (l, 0) := by simp [rdByte]
      rw [e]
      exact (Open_ok rb a c l w h).mono fun r w' ⟨h1, ⟨p, h2⟩, h3⟩ => ⟨h1, ⟨_, _, h2⟩, h3⟩
    · have e : rdByte 108 (x :: l) = ([], 4) := if_neg hx
      rw [e]
      exact (Open_other rb a c x l w h (ne_byte rfl hx)).mono fun r w' ⟨h1, h2, h3⟩ => ⟨h1, ⟨_, _, h2⟩, h3⟩

theorem Close_any (rb : Nat) (a : Option Addr) (c : Nat) (l : List UInt8) (w : World) (h : Rd w rb a c l 0) :
    Calls Tryz.prog 53 #[.pointer (some ⟨rb, 0, none⟩)] w fun r w' => r = .returned (.tuple #[]) ∧ (∃ a c, Rd w' rb a c (rdByte 101 l).1 (rdByte 101 l).2) ∧ w.grownBy w' (some rb) := by
  cases l with
  | nil => exact (Close_cut rb a c w h).mono fun r w' ⟨h1, h2, h3⟩ => ⟨h1, ⟨_, _, h2⟩, h3⟩
  | cons x l =>
    by_cases hx : x = 101
    · subst hx
      have e : rdByte 101 (101 :: l) = (l, 0) := by simp [rdByte]
      rw [e]
      exact (Close_ok rb a c l w h).mono fun r w' ⟨h1, ⟨p, h2⟩, h3⟩ => ⟨h1, ⟨_, _, h2⟩, h3⟩
    · have e : rdByte 101 (x :: l) = ([], 4) := if_neg hx
      rw [e]
      exact (Close_other rb a c x l w h (ne_byte rfl hx)).mono fun r w' ⟨h1, h2, h3⟩ => ⟨h1, ⟨_, _, h2⟩, h3⟩

theorem rText_eq (rb : Nat) (a : Option Addr) (c : Nat) (l : List UInt8) (most : Int) (B : Nat) (w : World) (h : Rd w rb a c l 0) (hB : B ≤ rb) (hv : VarsOk B w) {l1 s1 : List UInt8} {e1 : Int} (hT : rdText most l = (l1, e1, s1)) :
    Calls Tryz.prog 51 #[.pointer (some ⟨rb, 0, none⟩), .int .i64 most] w fun r w' => r = .returned (.string ⟨s1.toArray⟩) ∧ (∃ a c, Rd w' rb a c l1 e1) ∧ w.grownBy w' (some rb) := by
  have := rText_any rb a c l most B w h hB hv
  rw [hT] at this
  exact this

/-- How many bytes are left, as memory tells it. -/
def leftN (rb : Nat) (w : World) : Nat := match w.cell? ⟨rb, 0, none⟩ with | some (.slice _ n _) => n | _ => 0
theorem Rd.leftN {w : World} {rb : Nat} {a : Option Addr} {c : Nat} {l : List UInt8} {e : Int} (h : Rd w rb a c l e) : leftN rb w = l.length := by
  unfold Go.Proofs.YtmanjegdgjeeiaaGreatDoor.leftN
  rw [h.blk.cell0]

/-- A row of the call's own, above the reader, has turned: the reader stands. -/
theorem Rd.above {w w' : World} {rb : Nat} {a : Option Addr} {c : Nat} {l : List UInt8} {e : Int} {r : Option Nat} (h : Rd w rb a c l e) (hg : w.grownBy w' r) (hr : ∀ k, r = some k → rb < k) : Rd w' rb a c l e := by
  refine h.mono hg (fun e => ?_) (fun p hp e => ?_)
  · exact absurd (hr rb e.symm) (Nat.lt_irrefl _)
  · have h1 := hr p.block e.symm
    have h2 := h.away p hp
    omega

end Go.Proofs.YtmanjegdgjeeiaaGreatDoor
namespace Go.Proofs.YtmanjegdgjeeiaaGreatDoor
open Go.RowKit

theorem infoBytes : (Tryz.prog.info? 86).map (fun i => (i.zero, i.size, i.bytes)) = some (some (.slice none 0 0), 1, 24) := by kernel_rfl

/-- A row of the call's own whose elements are slices of bytes, none of which lies in the row's own block. -/
structure RowOf (w : World) (B : Nat) (v : Value) (vs : List Value) (ls : List (List UInt8)) : Prop where
  own : w.ownsRow B 86 1 v vs.length vs
  len : vs.length = ls.length
  src : ∀ j (hj : j < vs.length), SrcAt w vs[j] (ls[j]'(by omega))
  apart : ∀ j (_ : j < vs.length) q n c, vs[j] = .slice (some q) n c → some q.block ≠ v.ownBlock
  lt : ∀ j (_ : j < vs.length) q n c, vs[j] = .slice (some q) n c → q.block < w.heap.size

theorem RowOf.nil (w : World) (B : Nat) : RowOf w B (.slice none 0 0) [] [] :=
  ⟨World.ownsRow_nil _ _ _ _, rfl, fun _ hj => absurd hj (Nat.not_lt_zero _), fun _ hj => absurd hj (Nat.not_lt_zero _), fun _ hj => absurd hj (Nat.not_lt_zero _)⟩

theorem RowOf.below {w w' : World} {B : Nat} {v : Value} {vs : List Value} {ls : List (List UInt8)} (h : RowOf w B v vs ls) (hb : Below w.heap.size w w') : RowOf w' B v vs ls :=
  ⟨h.own.kept (grownBy_of_below (r := none) hb) (by cases hv : v.ownBlock <;> simp), h.len, fun j hj => (h.src j hj).below hb (Nat.le_refl _), h.apart, fun j hj q n c e => Nat.lt_of_lt_of_le (h.lt j hj q n c e) hb.size⟩

theorem own_block_lt {w : World} {B : Nat} {v : Value} {l : List UInt8} (h : Own w B v l) : ∀ q n c, v = .slice (some q) n c → B ≤ q.block ∧ q.block < w.heap.size := by
  rintro q n c rfl
  exact World.ownsRow.lt h q.block rfl

/-- One part more. -/
theorem RowOf.step {w w1 w2 : World} {B : Nat} {v v' x : Value} {vs : List Value} {ls : List (List UInt8)} {l : List UInt8} {o : Obj} (h : RowOf w B v vs ls) (hb : Below w.heap.size w w1) (hx : Own w1 w.heap.size x l)
    (hown : w2.ownsRow B 86 1 v' (vs.length + 1) (vs ++ [x])) (hg : (w1.alloc o).grownBy w2 v.ownBlock) (hat : v'.ownBlock = v.ownBlock ∨ v'.ownBlock = some (w1.heap.size + 1)) : RowOf w2 B v' (vs ++ [x]) (ls ++ [l]) := by
  have hb1 : Below w1.heap.size w1 (w1.alloc o) := (Below.refl _ _).alloc (Nat.le_refl _) _
  have h1 := (h.below hb).below hb1
  have hvlt : ∀ k, v.ownBlock = some k → k < w.heap.size := fun k hk => (h.own.lt k hk).2
  have hxs := hx.src.below hb1 (Nat.le_refl _)
  refine ⟨by simpa using hown, by simp [h.len], fun j hj => ?_, fun j hj q n c e => ?_, fun j hj q n c e => ?_⟩
  · by_cases hj1 : j < vs.length
    · simp only [List.getElem_append_left hj1, List.getElem_append_left (show j < ls.length by have := h.len; omega)]
      exact (h1.src j hj1).grown hg (h1.apart j hj1)
    · have hj2 : j = vs.length := by simp at hj; omega
      subst hj2
      simp only [List.getElem_append_right (Nat.le_refl _), Nat.sub_self, List.getElem_singleton, List.getElem_append_right (show ls.length ≤ vs.length by have := h.len; omega), show vs.length - ls.length = 0 by have := h.len; omega]
      refine hxs.grown hg fun q n c e e2 => ?_
      have h2 := own_block_lt hx q n c e
      have h3 := hvlt q.block e2.symm
      omega
  · by_cases hj1 : j < vs.length
    · rw [List.getElem_append_left hj1] at e
      rcases hat with hat | hat
      · rw [hat]; exact h.apart j hj1 q n c e
      · rw [hat]
        intro e2
        simp only [Option.some.injEq] at e2
        have h2 := h.lt j hj1 q n c e
        have h3 := hb.size
        omega
    · have hj2 : j = vs.length := by simp at hj; omega
      subst hj2
      simp only [List.getElem_append_right (Nat.le_refl _), Nat.sub_self, List.getElem_singleton] at e
      have h2 := own_block_lt hx q n c e
      rcases hat with hat | hat
      · rw [hat]; intro e2; have h3 := hvlt q.block e2.symm; omega
      · rw [hat]; intro e2; simp only [Option.some.injEq] at e2; omega
  · have hs := hg.size
    simp only [World.size_alloc] at hs
    have hs1 := hb.size
    by_cases hj1 : j < vs.length
    · rw [List.getElem_append_left hj1] at e
      have h2 := h.lt j hj1 q n c e
      omega
    · have hj2 : j = vs.length := by simp at hj; omega
      subst hj2
      simp only [List.getElem_append_right (Nat.le_refl _), Nat.sub_self, List.getElem_singleton] at e
      have h2 := own_block_lt hx q n c e
      omega

/-- Several parts more. -/
theorem RowOf.steps {w w1 w2 : World} {B : Nat} {v v' : Value} {vs xs : List Value} {ls ms : List (List UInt8)} {o : Obj} (h : RowOf w B v vs ls) (hb : Below w.heap.size w w1) (hxl : xs.length = ms.length)
    (hx : ∀ j (hj : j < xs.length), SrcAt w1 xs[j] (ms[j]'(by omega))) (hlt : ∀ x ∈ xs, ∀ q n c, x = .slice (some q) n c → w.heap.size ≤ q.block ∧ q.block < w1.heap.size)
    (hown : w2.ownsRow B 86 1 v' (vs.length + xs.length) (vs ++ xs)) (hg : (w1.alloc o).grownBy w2 v.ownBlock) (hat : v'.ownBlock = v.ownBlock ∨ v'.ownBlock = some (w1.heap.size + 1)) : RowOf w2 B v' (vs ++ xs) (ls ++ ms) := by
  have hb1 : Below w1.heap.size w1 (w1.alloc o) := (Below.refl _ _).alloc (Nat.le_refl _) _
  have h1 := (h.below hb).below hb1
  have hvlt : ∀ k, v.ownBlock = some k → k < w.heap.size := fun k hk => (h.own.lt k hk).2
  have hl := h.len
  refine ⟨by simpa using hown, by simp [h.len, hxl], fun j hj => ?_, fun j hj q n c e => ?_, fun j hj q n c e => ?_⟩
  · by_cases hj1 : j < vs.length
    · simp only [List.getElem_append_left hj1, List.getElem_append_left (show j < ls.length by omega)]
      exact (h1.src j hj1).grown hg (h1.apart j hj1)
    · have hj2 : j - vs.length < xs.length := by simp at hj; omega
      have e1 : (vs ++ xs)[j] = xs[j - vs.length] := List.getElem_append_right (by omega)
      have e2 : (ls ++ ms)[j]'(by simp; omega) = ms[j - vs.length]'(by omega) := by
        rw [List.getElem_append_right (by omega)]
        simp [hl]
      rw [e1, e2]
      refine ((hx (j - vs.length) hj2).below hb1 (Nat.le_refl _)).grown hg fun q n c e e2 => ?_
      have h2 := hlt _ (List.getElem_mem hj2) q n c e
      have h3 := hvlt q.block e2.symm
      omega
  · by_cases hj1 : j < vs.length
    · rw [List.getElem_append_left hj1] at e
      rcases hat with hat | hat
      · rw [hat]; exact h.apart j hj1 q n c e
      · rw [hat]
        intro e2
        simp only [Option.some.injEq] at e2
        have h2 := h.lt j hj1 q n c e
        have h3 := hb.size
        omega
    · have hj2 : j - vs.length < xs.length := by simp at hj; omega
      rw [List.getElem_append_right (by omega)] at e
      have h2 := hlt _ (List.getElem_mem hj2) q n c e
      rcases hat with hat | hat
      · rw [hat]; intro e2; have h3 := hvlt q.block e2.symm; omega
      · rw [hat]; intro e2; simp only [Option.some.injEq] at e2; omega
  · have hs := hg.size
    simp only [World.size_alloc] at hs
    have hs1 := hb.size
    by_cases hj1 : j < vs.length
    · rw [List.getElem_append_left hj1] at e
      have h2 := h.lt j hj1 q n c e
      omega
    · have hj2 : j - vs.length < xs.length := by simp at hj; omega
      rw [List.getElem_append_right (by omega)] at e
      have h2 := hlt _ (List.getElem_mem hj2) q n c e
      omega

/-- The parts, as List reads them. -/
theorem RowOf.parts {w : World} {B : Nat} {a : Option Addr} {n c : Nat} {vs : List Value} {ls : List (List UInt8)} (h : RowOf w B (.slice a n c) vs ls) : n = ls.length ∧ PartsAt w a ls := by
  rcases h.own.2 with ⟨e, h0⟩ | ⟨g, cap, cur, e, -, -, -, -, -, -⟩
  · simp only [Value.slice.injEq] at e
    obtain ⟨rfl, rfl, rfl⟩ := e
    have := h.len
    exact ⟨by omega, fun h => by omega⟩
  · simp only [Value.slice.injEq] at e
    obtain ⟨rfl, rfl, rfl⟩ := e
    refine ⟨h.len, fun _ => ⟨g, 0, rfl, fun i hi => ?_⟩⟩
    have hi2 : i < vs.length := by have := h.len; omega
    refine ⟨vs[i], ?_, h.src i hi2⟩
    have := h.own.cells (g := g) rfl i vs[i] (by simp [hi2])
    rwa [Go.WideShapes.add_plain] at this

/-- Numbers that came in. -/
def IntsAt (w : World) (a : Option Addr) (zs : List Int) : Prop := ∀ i (hi : i < zs.length), ∃ b o, a = some ⟨b, o, none⟩ ∧ w.cell? ⟨b, o + i, none⟩ = some (.int .i64 zs[i])
theorem IntsAt.below {w w' : World} {a : Option Addr} {zs : List Int} {B : Nat} (h : IntsAt w a zs) (hb : Below B w w') (hB : w.heap.size ≤ B) : IntsAt w' a zs := fun i hi => by
  obtain ⟨b, o, rfl, hc⟩ := h i hi
  exact ⟨b, o, rfl, by rw [hb.cell (p := ⟨b, o + i, none⟩) (Nat.lt_of_lt_of_le (World.block_lt_of_cell? w _ hc) hB)]; exact hc⟩

theorem own_string {w : World} {B : Nat} {v : Value} {l : List UInt8} (h : Own w B v l) : (convert 86 9 v).run Tryz.prog w = .ok (.string ⟨l.toArray⟩) w := by
  rcases h.src with ⟨rfl, rfl⟩ | ⟨q, c, rfl, hc⟩
  · exact run_convert_bytes_zero w 86 5 Tryz.underlying86 Tryz.underlying5 none 0 9 Tryz.underlying9
  · exact run_convert_bytes_back (P := Tryz.prog) w 86 9 5 q c l Tryz.underlying86 Tryz.underlying5 Tryz.underlying9 hc

/-- The table of powers stands, whatever is laid above B. -/
def TabOk (B : Nat) (w : World) : Prop := Lib.TabBelow Tryz.prog B w "internal/strconv.uint64pow10" .u64 Lib.pow10Tab
theorem TabOk.on {B : Nat} {w w' : World} (h : TabOk B w) (hb : Below B w w') : TabOk B w' := fun w2 h2 => h w2 (hb.trans h2)
theorem VarsOk.tabOk {B : Nat} {w : World} (h : VarsOk B w) : TabOk B w := h.tab
theorem Text_tabv (s : ByteArray) (hs : s.size ≤ 140737488351232) (B : Nat) (w : World) (hB : B ≤ w.heap.size) (hv : TabOk B w) :
    Calls Tryz.prog 43 #[.string s] w fun e w' => ∃ a k c, e = .returned (.slice a k c) ∧ Own w' w.heap.size (.slice a k c) (putText s.data.toList) ∧ Below w.heap.size w w' :=
  (Text_tab s hs B w hB hv).mono fun e w' ⟨v, he, ho, hb⟩ => by obtain ⟨a, k, c, rfl⟩ := ho.form; exact ⟨a, k, c, he, ho, hb⟩

end Go.Proofs.YtmanjegdgjeeiaaGreatDoor
namespace Go.Proofs.YtmanjegdgjeeiaaGreatDoor

/-- A pair: its name and its value. -/
abbrev Pr := ByteArray × ByteArray
/-- The bytes of a name. -/
abbrev nm (p : Pr) : List UInt8 := p.1.toList

abbrev LetterN (n : Nat) : Prop := n = 95 ∨ (97 ≤ n ∧ n ≤ 122)
abbrev DigitN (n : Nat) : Prop := 48 ≤ n ∧ n ≤ 57

/-- The byte at a place of a text. -/
def byteN (s : ByteArray) (i : Nat) : Nat := if h : i < s.size then s[i].toNat else 0
theorem byteN_of {s : ByteArray} {i : Nat} (h : i < s.size) : byteN s i = s[i].toNat := dif_pos h

abbrev NameOk (s : ByteArray) : Prop := (1 ≤ s.size ∧ s.size ≤ 16) ∧ ¬ DigitN (byteN s 0) ∧ ∀ i, i < s.size → LetterN (byteN s i) ∨ DigitN (byteN s i)

abbrev LongV (p : Pr) : Prop := 64 < p.2.size
abbrev BadP (p : Pr) : Prop := ¬ NameOk p.1 ∨ p.2.size = 0

/-- Which error pairs have, but for their order. -/
def partsE (ps : List Pr) : Int := if 8 < ps.length then 5 else if ∃ p ∈ ps, LongV p then 5 else if ∃ p ∈ ps, BadP p then 6 else 0

/-- Names rise. -/
abbrev Rise (ps : List Pr) : Prop := ps.Pairwise fun a b => nm a < nm b

/-- Check's answer. -/
def checkE (ps : List Pr) : Int := if partsE ps ≠ 0 then partsE ps else if Rise ps then 0 else 4

/-- No name is there twice. -/
abbrev Once (ps : List Pr) : Prop := (ps.map nm).Nodup

/-- Sort's error. -/
def sortE (ps : List Pr) : Int := if partsE ps ≠ 0 then partsE ps else if Once ps then 0 else 7

theorem nm_trans {a b c : List UInt8} (h : a < b) (k : b < c) : a < c := List.lt_trans h k
theorem nm_irrefl (a : List UInt8) : ¬ a < a := List.lt_irrefl a
theorem nm_tri {a b : List UInt8} (h : ¬ a < b) (hn : ¬ b < a) : a = b := List.le_antisymm (by simpa using hn) (by simpa using h)

theorem less_eq : ∀ (x y : List UInt8), Op.bytesLess x y = decide (x < y)
  | _, [] => by simp [Op.bytesLess]
  | [], _ :: _ => by simp [Op.bytesLess]
  | a :: x, b :: y => by
    rw [Op.bytesLess, less_eq x y]
    simp only [List.cons_lt_cons_iff, Bool.decide_or, Bool.decide_and]
    rfl

/-- Neighbours tell all. -/
theorem rise_of_next : ∀ (ps : List Pr), (∀ i (h : i + 1 < ps.length), nm ps[i] < nm ps[i + 1]) → Rise ps
  | [], _ => List.Pairwise.nil
  | [a], _ => List.pairwise_singleton _ a
  | a :: b :: r, h => by
    have hr : Rise (b :: r) := rise_of_next (b :: r) fun i hi => h (i + 1) (Nat.succ_lt_succ hi)
    have hab : nm a < nm b := by simpa using h 0 (by simp)
    refine List.Pairwise.cons (fun x hx => ?_) hr
    rcases List.mem_cons.1 hx with rfl | hx
    · exact hab
    · exact nm_trans hab ((List.pairwise_cons.1 hr).1 x hx)
theorem rise_next {ps : List Pr} (h : Rise ps) (i : Nat) (hi : i + 1 < ps.length) : nm ps[i] < nm ps[i + 1] := List.pairwise_iff_getElem.1 h i (i + 1) (by omega) hi (by omega)
theorem rise_once {ps : List Pr} (h : Rise ps) : Once ps := by
  unfold Once List.Nodup
  rw [List.pairwise_map]
  exact List.Pairwise.imp (fun {a b} (hab : nm a < nm b) (e : nm a = nm b) => nm_irrefl (nm b) (e ▸ hab)) h

/-- Rising lists of the same pairs are one. -/
theorem rise_eq : ∀ {xs ys : List Pr}, xs.Perm ys → Rise xs → Rise ys → xs = ys
  | [], ys, hp, _, _ => by rw [List.nil_perm.1 hp]
  | x :: xs, [], hp, _, _ => by simp at hp
  | x :: xs, y :: ys, hp, hx, hy => by
    obtain ⟨hx1, hx2⟩ := List.pairwise_cons.1 hx
    obtain ⟨hy1, hy2⟩ := List.pairwise_cons.1 hy
    have hxy : x = y := by
      have hxm : x ∈ y :: ys := hp.subset (List.mem_cons_self ..)
      have hym : y ∈ x :: xs := hp.symm.subset (List.mem_cons_self ..)
      rcases List.mem_cons.1 hxm with h | h
      · exact h
      · rcases List.mem_cons.1 hym with k | k
        · exact k.symm
        · exact absurd (nm_trans (hy1 x h) (hx1 y k)) (nm_irrefl _)
    subst hxy
    rw [rise_eq (List.perm_cons x |>.1 hp) hx2 hy2]

theorem once_perm {xs ys : List Pr} (h : xs.Perm ys) : Once xs ↔ Once ys := (h.map nm).nodup_iff
theorem any_perm {xs ys : List Pr} (h : xs.Perm ys) (q : Pr → Prop) : (∃ p ∈ xs, q p) ↔ ∃ p ∈ ys, q p :=
  ⟨fun ⟨p, hp, hq⟩ => ⟨p, h.mem_iff.1 hp, hq⟩, fun ⟨p, hp, hq⟩ => ⟨p, h.mem_iff.2 hp, hq⟩⟩
theorem partsE_perm {xs ys : List Pr} (h : xs.Perm ys) : partsE xs = partsE ys := by
  unfold partsE
  rw [h.length_eq]
  simp only [any_perm h]
theorem sortE_perm {xs ys : List Pr} (h : xs.Perm ys) : sortE xs = sortE ys := by
  unfold sortE
  rw [partsE_perm h]
  simp only [once_perm h]

/-- What does not fall and has no name twice rises. -/
theorem rise_of_up {ps : List Pr} (h : ps.Pairwise fun a b => ¬ nm b < nm a) (ho : Once ps) : Rise ps := by
  unfold Once List.Nodup at ho
  rw [List.pairwise_map] at ho
  refine (List.Pairwise.and h ho).imp fun {a b} hab => ?_
  by_cases hlt : nm a < nm b
  · exact hlt
  · exact absurd (nm_tri hlt hab.1) hab.2

/-- The first pair of a name. -/
def getV (ps : List Pr) (n : List UInt8) : ByteArray := match ps.find? fun p => nm p == n with | some p => p.2 | none => ⟨#[]⟩

theorem getV_of_once {ps : List Pr} (h : Once ps) {p : Pr} (hp : p ∈ ps) : getV ps (nm p) = p.2 := by
  unfold getV
  induction ps with
  | nil => cases hp
  | cons a r ih =>
    rw [List.find?_cons]
    unfold Once at h
    rw [List.map_cons, List.nodup_cons] at h
    rcases List.mem_cons.1 hp with rfl | hr
    · simp
    · have hne : nm a ≠ nm p := fun e => h.1 (e ▸ List.mem_map_of_mem hr)
      simp only [beq_eq_false_iff_ne.2 hne]
      exact ih h.2 hr

end Go.Proofs.YtmanjegdgjeeiaaGreatDoor
namespace Go.Proofs.YtmanjegdgjeeiaaGreatDoor
open Go.RowKit

set_option maxHeartbeats 400000 in
theorem isDigit_any (n : Nat) (w : World) : Calls Tryz.prog 108 #[.int .u8 n] w fun e w' => e = .returned (.bool (decide (DigitN n))) ∧ w' = w := by
  unfold DigitN
  by_cases h1 : 48 ≤ n
  · have h1' : (48 : Int) ≤ n := by omega
    by_cases h2 : n ≤ 57
    · have h2' : (n : Int) ≤ 57 := by omega
      go_enter Tryz.func108, Tryz.ntmps108
      go_wp2
      go_ret
      simp_all
    · have h2' : ¬ (n : Int) ≤ 57 := by omega
      go_enter Tryz.func108, Tryz.ntmps108
      go_wp2
      go_ret
      simp_all
  · have h1' : ¬ (48 : Int) ≤ n := by omega
    go_enter Tryz.func108, Tryz.ntmps108
    go_wp2
    go_ret
    simp_all

set_option maxHeartbeats 400000 in
theorem isLetter_any (n : Nat) (w : World) : Calls Tryz.prog 109 #[.int .u8 n] w fun e w' => e = .returned (.bool (decide (LetterN n))) ∧ w' = w := by
  unfold LetterN
  by_cases h0 : n = 95
  · subst h0
    go_enter Tryz.func109, Tryz.ntmps109
    go_wp2
    go_ret
    simp
  · have h0' : ¬ (n : Int) = 95 := by omega
    by_cases h1 : 97 ≤ n
    · have h1' : (97 : Int) ≤ n := by omega
      by_cases h2 : n ≤ 122
      · have h2' : (n : Int) ≤ 122 := by omega
        go_enter Tryz.func109, Tryz.ntmps109
        go_wp2
        go_ret
        simp_all
      · have h2' : ¬ (n : Int) ≤ 122 := by omega
        go_enter Tryz.func109, Tryz.ntmps109
        go_wp2
        go_ret
        simp_all
    · have h1' : ¬ (97 : Int) ≤ n := by omega
      go_enter Tryz.func109, Tryz.ntmps109
      go_wp2
      go_ret
      simp_all

theorem upto_succ {p : Nat → Prop} {k : Nat} (h : ∀ j, j < k → p j) (hk : p k) (j : Nat) (hj : j < k + 1) : p j := by
  rcases Nat.lt_succ_iff_lt_or_eq.1 hj with h1 | rfl
  · exact h j h1
  · exact hk

set_option maxHeartbeats 400000 in
theorem Name_any (s : ByteArray) (w : World) : Calls Tryz.prog 76 #[.string s] w fun e w' => e = .returned (.bool (decide (NameOk s))) ∧ w' = w := by
  by_cases h1 : s.size < 1
  · have hno : decide (NameOk s) = false := decide_eq_false fun h => by have := h.1; omega
    rw [hno]
    clear hno
    have h1' : (s.size : Int) < 1 := by omega
    go_enter Tryz.func76, Tryz.ntmps76
    go_wp2
    go_ret
    exact ⟨rfl, rfl⟩
  by_cases h2 : 16 < s.size
  · have hno : decide (NameOk s) = false := decide_eq_false fun h => by have := h.1; omega
    rw [hno]
    clear hno
    have h1' : ¬ (s.size : Int) < 1 := by omega
    have h2' : (16 : Int) < (s.size : Int) := by omega
    go_enter Tryz.func76, Tryz.ntmps76
    go_wp2
    go_ret
    exact ⟨rfl, rfl⟩
  have h1' : ¬ (s.size : Int) < 1 := by omega
  have h2' : ¬ (16 : Int) < (s.size : Int) := by omega
  by_cases h3 : DigitN (byteN s 0)
  · have hno : decide (NameOk s) = false := decide_eq_false fun h => h.2.1 h3
    rw [hno]
    clear hno
    rw [byteN_of (by omega)] at h3
    have h3' := decide_eq_true h3
    clear h3
    go_enter Tryz.func76, Tryz.ntmps76
    go_wp2_with (go_at_call 108; refine (isDigit_any _ _).mono ?_; rintro e w ⟨rfl, rfl⟩)
    go_ret
    exact ⟨rfl, rfl⟩
  · have h3' : decide (DigitN (byteN s 0)) = false := decide_eq_false h3
    have hok : decide (NameOk s) = decide (∀ i, i < s.size → LetterN (byteN s i) ∨ DigitN (byteN s i)) := by
      rw [decide_eq_decide]
      exact ⟨fun h => h.2.2, fun h => ⟨⟨by omega, by omega⟩, h3, h⟩⟩
    rw [hok]
    clear hok
    rw [byteN_of (by omega)] at h3'
    go_enter Tryz.func76, Tryz.ntmps76
    go_wp2_with (go_at_call 108; refine (isDigit_any _ _).mono ?_; rintro e w ⟨rfl, rfl⟩)
    go_loop [19] (fun i => ∃ k : Nat, k ≤ s.size ∧ i = .int .i64 k ∧ ∀ j, j < k → LetterN (byteN s j) ∨ DigitN (byteN s j)) (fun i => s.size - (intOf i).toNat)
    case atStart => exact ⟨0, Nat.zero_le _, rfl, fun j hj => absurd hj (Nat.not_lt_zero _)⟩
    case round =>
      obtain ⟨k, hk, rfl, hall⟩ := hrel
      by_cases hlt : k < s.size
      · have hkl : (k : Int) < (s.size : Int) := by omega
        by_cases hL : LetterN s[k].toNat
        · have hL' := decide_eq_true hL
          go_wp2_with (go_at_call 109; refine (isLetter_any _ _).mono ?_; rintro e w ⟨rfl, rfl⟩)
          go_round
          case rel => exact ⟨k + 1, by omega, by go_num, upto_succ hall (by rw [byteN_of hlt]; exact .inl hL)⟩
          case measure => simp [intOf]; omega
        · have hL' := decide_eq_false hL
          by_cases hD : DigitN s[k].toNat
          · have hD' := decide_eq_true hD
            go_wp2_with (first | (go_at_call 109; refine (isLetter_any _ _).mono ?_; rintro e w ⟨rfl, rfl⟩) | (go_at_call 108; refine (isDigit_any _ _).mono ?_; rintro e w ⟨rfl, rfl⟩))
            go_round
            case rel => exact ⟨k + 1, by omega, by go_num, upto_succ hall (by rw [byteN_of hlt]; exact .inr hD)⟩
            case measure => simp [intOf]; omega
          · have hD' := decide_eq_false hD
            have hno : decide (∀ i, i < s.size → LetterN (byteN s i) ∨ DigitN (byteN s i)) = false := decide_eq_false fun h => by
              have := h k hlt
              rw [byteN_of hlt] at this
              exact this.elim hL hD
            have HN := Lib.hid hno
            clear hno
            go_wp2_with (first | (go_at_call 109; refine (isLetter_any _ _).mono ?_; rintro e w ⟨rfl, rfl⟩) | (go_at_call 108; refine (isDigit_any _ _).mono ?_; rintro e w ⟨rfl, rfl⟩))
            go_ret
            exact ⟨by rw [HN.out]; rfl, rfl⟩
      · obtain rfl : k = s.size := by omega
        have HN := Lib.hid (decide_eq_true hall)
        go_wp2
        go_ret
        exact ⟨by rw [HN.out]; rfl, rfl⟩

end Go.Proofs.YtmanjegdgjeeiaaGreatDoor
namespace Go.Proofs.YtmanjegdgjeeiaaGreatDoor
open Go.RowKit
theorem below_drewN {B : Nat} {a w : World} (h : Below B a w) (n : Nat) : Below B a (w.drewN n) := h.trans ⟨rfl, rfl, rfl, Nat.le_refl _, fun _ _ => rfl⟩

/-- Pairs lie at an address; where there are none, anywhere. -/
def PairsAt (w : World) (a : Option Addr) (ps : List Pr) : Prop :=
  0 < ps.length → ∃ b o, a = some ⟨b, o, none⟩ ∧ ∀ i (hi : i < ps.length), w.cell? ⟨b, o + i * 2, none⟩ = some (.string ps[i].1) ∧ w.cell? ⟨b, o + i * 2 + 1, none⟩ = some (.string ps[i].2)

theorem PairsAt.below {w w' : World} {a : Option Addr} {ps : List Pr} {B : Nat} (h : PairsAt w a ps) (hb : Below B w w') (hB : w.heap.size ≤ B) : PairsAt w' a ps := fun hn => by
  obtain ⟨b, o, rfl, hc⟩ := h hn
  refine ⟨b, o, rfl, fun i hi => ?_⟩
  obtain ⟨h1, h2⟩ := hc i hi
  exact ⟨by rw [hb.cell (Nat.lt_of_lt_of_le (World.block_lt_of_cell? w _ h1) hB)]; exact h1, by rw [hb.cell (Nat.lt_of_lt_of_le (World.block_lt_of_cell? w _ h2) hB)]; exact h2⟩

theorem str_empty (s : ByteArray) : s.toList.isEmpty = (s.size == 0) := by
  rw [ByteArray.toList_eq]
  obtain ⟨⟨l⟩⟩ := s
  cases l <;> simp [ByteArray.size]

theorem partsE_val (ps : List Pr) (h8 : ¬ 8 < ps.length) (hL : ∀ i (hi : i < ps.length), ¬ LongV ps[i]) : partsE ps = if ∃ p ∈ ps, BadP p then 6 else 0 := by
  unfold partsE
  rw [if_neg h8, if_neg]
  rintro ⟨p, hp, hl⟩
  obtain ⟨i, hi, rfl⟩ := List.getElem_of_mem hp
  exact hL i hi hl

theorem rise_not {ps : List Pr} (i : Nat) (hi : i + 1 < ps.length) (h : ¬ nm ps[i] < nm ps[i + 1]) : ¬ Rise ps := fun hr => h (rise_next hr i hi)

theorem partsE_zero {ps : List Pr} (h : partsE ps = 0) : ps.length ≤ 8 := by
  unfold partsE at h
  split at h
  · omega
  · omega

end Go.Proofs.YtmanjegdgjeeiaaGreatDoor
