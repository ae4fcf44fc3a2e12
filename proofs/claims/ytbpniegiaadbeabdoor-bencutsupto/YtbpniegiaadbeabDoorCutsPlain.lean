/-
  A number, or a text, that is cut off: the bytes end ahead of it.
-/
import Derived.Test.YtbpniegiaadbeabDoorPlain
namespace Go.Proofs.YtbpniegiaadbeabDoor
open Go.RowKit

theorem index_none : ∀ (d : List UInt8) (c : UInt8), (∀ x ∈ d, x ≠ c) → Lib.indexByte d c = -1
  | [], _, _ => rfl
  | x :: d, c, h => by
    have ih := index_none d c (fun y hy => h y (List.mem_cons_of_mem _ hy))
    unfold Lib.indexByte
    have hx : (x == c) = false := by simpa using h x (List.mem_cons_self ..)
    rw [hx, ih]
    rfl

theorem cut_int (n : Int) (h0 : -9223372036854775808 ≤ n) (h1 : n ≤ 9223372036854775807) (i : Nat) (hi : i < (putInt n).length) : rdInt ((putInt n).take i) = ([], 3, 0) := by
  cases i with
  | zero => rfl
  | succ i =>
    have hl := itoa_len20 n h0 h1
    have hi2 : i ≤ (Lib.itoa n).length := by simp [putInt] at hi; omega
    have e : (putInt n).take (i + 1) = 105 :: (Lib.itoa n).take i := by
      simp only [putInt, List.cons_append, List.take_succ_cons]
      rw [List.take_append_of_le_length hi2]
    rw [e]
    simp only [rdInt]
    have hnone : Lib.indexByte (((Lib.itoa n).take i).take 21) 101 = -1 := index_none _ 101 (fun x hx => itoa_free n 101 (.inl rfl) x (List.mem_of_mem_take (List.mem_of_mem_take hx)))
    rw [if_neg (by simp), if_pos hnone, if_neg (by simp; omega)]

theorem itoa_len10 (s : List UInt8) (hs : s.length ≤ 1000000000) : (Lib.itoa s.length).length ≤ 10 := by
  have h := read_putText s hs s.length (Int.le_refl _) []
  rcases Nat.lt_or_ge 10 (Lib.itoa s.length).length with h1 | h1
  · exfalso
    -- a row of more than ten bytes is no number of a text
    have hi : Lib.indexByte ((putText s ++ []).take 11) 58 = -1 := by
      refine index_none _ 58 (fun x hx => ?_)
      have hx2 : x ∈ Lib.itoa (s.length : Int) := by
        rw [List.append_nil, putText, List.take_append_of_le_length (by omega)] at hx
        exact List.mem_of_mem_take hx
      exact itoa_free _ 58 (.inr rfl) x hx2
    cases hq : putText s ++ [] with
    | nil => simp [putText] at hq
    | cons c d =>
      rw [hq] at h hi
      simp only [rdText] at h
      split at h
      · simp at h
      · split at h <;> simp at h
  · exact h1

theorem cut_text (s : List UInt8) (hs : s.length ≤ 1000000000) (j : Nat) (hj : j < (putText s).length) : rdText s.length ((putText s).take j) = ([], 3, []) := by
  have hlen := itoa_len10 s hs
  have hit : Lib.itoa (s.length : Int) = Lib.decDigits s.length := by unfold Lib.itoa; rw [if_neg (by omega), Int.toNat_natCast]
  have hdig : ∀ c ∈ Lib.itoa (s.length : Int), 48 ≤ c.toNat ∧ c.toNat ≤ 57 := by rw [hit]; exact dec_digits _
  have hfree := itoa_free s.length 58 (.inr rfl)
  have hn := numOf_itoa s.length (by omega) (by omega)
  have hne : Lib.itoa (s.length : Int) ≠ [] := by rw [hit]; exact dec_ne _
  have hplen : (putText s).length = (Lib.itoa (s.length : Int)).length + 1 + s.length := by simp [putText]; omega
  rw [hplen] at hj
  unfold putText
  generalize Lib.itoa (s.length : Int) = d at *
  cases d with
  | nil => exact absurd rfl hne
  | cons c d =>
    have hc := hdig c (List.mem_cons_self ..)
    rcases Nat.lt_or_ge (c :: d).length j with h1 | h1
    · -- the colon is there; the text ends early
      obtain ⟨m, rfl⟩ : ∃ m, j = (c :: d).length + 1 + m := ⟨j - ((c :: d).length + 1), by omega⟩
      have e : ((c :: d) ++ 58 :: s).take ((c :: d).length + 1 + m) = (c :: d) ++ 58 :: s.take m := by
        rw [Nat.add_assoc, List.take_length_add_append, Nat.add_comm 1 m, List.take_succ_cons]
      rw [e]
      have hi : Lib.indexByte (((c :: d) ++ 58 :: s.take m).take 11) 58 = (c :: d).length := index_behind _ _ 58 10 hfree hlen
      rw [List.cons_append] at hi ⊢
      simp only [rdText]
      rw [if_neg (by omega), hi, if_neg (by omega), Int.toNat_natCast, ← List.cons_append, List.take_left, hn]
      simp only
      have ed : ((c :: d) ++ 58 :: s.take m).drop ((c :: d).length + 1) = s.take m := by
        rw [← List.drop_drop, List.drop_left]; rfl
      rw [if_neg (by omega), if_neg (by omega), ed, if_pos (by rw [List.length_take]; omega)]
    · -- digits alone
      rw [List.take_append_of_le_length h1]
      cases j with
      | zero => rfl
      | succ j =>
        have hnone : Lib.indexByte (((c :: d).take (j + 1)).take 11) 58 = -1 := index_none _ 58 (fun x hx => hfree x (List.mem_of_mem_take (List.mem_of_mem_take hx)))
        rw [List.take_succ_cons] at hnone ⊢
        simp only [rdText]
        rw [if_neg (by omega), if_pos hnone, if_neg (by simp only [List.length_take, List.length_cons] at hlen ⊢; omega)]

end Go.Proofs.YtbpniegiaadbeabDoor
