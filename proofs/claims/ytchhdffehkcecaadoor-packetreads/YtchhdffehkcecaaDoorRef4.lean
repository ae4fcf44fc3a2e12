/-
  The number whose digits these are, as the reference tells it.
-/
import Derived.Test.YtchhdffehkcecaaDoorRef3
namespace Go.Proofs.YtchhdffehkcecaaDoor
open Go.RowKit

/-- What digits stand for. -/
def valD (d : List UInt8) : Nat := d.foldl (fun a c => 10 * a + (c.toNat - 48)) 0
def AllD (d : List UInt8) : Prop := ∀ c ∈ d, 48 ≤ c.toNat ∧ c.toNat ≤ 57
theorem valD_snoc (d : List UInt8) (c : UInt8) : valD (d ++ [c]) = 10 * valD d + (c.toNat - 48) := by simp [valD]
theorem valD_take {d : List UInt8} {k : Nat} (hk : k < d.length) : valD (d.take (k + 1)) = 10 * valD (d.take k) + (d[k].toNat - 48) := by
  rw [List.take_succ_eq_append_getElem hk, valD_snoc]
theorem allD_take {d : List UInt8} {k : Nat} (hk : k < d.length) (h : AllD (d.take k)) (hc : 48 ≤ d[k].toNat ∧ d[k].toNat ≤ 57) : AllD (d.take (k + 1)) := by
  rw [List.take_succ_eq_append_getElem hk]
  intro c hm
  rcases List.mem_append.1 hm with hm | hm
  · exact h c hm
  · simp only [List.mem_singleton] at hm
    subst hm
    exact hc
theorem valD_lt {d : List UInt8} (h : AllD d) : ∀ k, k ≤ d.length → valD (d.take k) < 10 ^ k
  | 0, _ => by simp [valD]
  | k + 1, hk => by
    have ih := valD_lt h k (by omega)
    have hc := h d[k] (List.getElem_mem _)
    rw [valD_take (by omega), Nat.pow_succ]
    omega
theorem valD_bound {d : List UInt8} {k : Nat} (h : AllD (d.take k)) (hk : k ≤ d.length) (h18 : k ≤ 18) : valD (d.take k) ≤ 999999999999999999 := by
  have h1 := valD_lt h k (by simp; omega)
  rw [List.take_take, Nat.min_self] at h1
  have h2 : 10 ^ k ≤ 10 ^ 18 := Nat.pow_le_pow_right (by omega) h18
  have h3 : 10 ^ 18 = 1000000000000000000 := by decide
  omega
theorem valD_bound19 {d : List UInt8} {k : Nat} (h : AllD (d.take k)) (hk : k ≤ d.length) (h19 : k ≤ 19) : valD (d.take k) ≤ 9999999999999999999 := by
  have h1 := valD_lt h k (by simp; omega)
  rw [List.take_take, Nat.min_self] at h1
  have h2 : 10 ^ k ≤ 10 ^ 19 := Nat.pow_le_pow_right (by omega) h19
  have h3 : 10 ^ 19 = 10000000000000000000 := by decide
  omega
theorem valD_dec (u : Nat) : valD (Lib.decDigits u) = u := by
  induction u using Nat.strongRecOn with
  | _ u ih =>
    rw [Lib.decDigits]
    split
    · rename_i h
      simp only [valD, List.foldl_cons, List.foldl_nil]
      rw [digit_toNat h]
      omega
    · rename_i h
      rw [valD_snoc, ih (u / 10) (by omega), digit_toNat (by omega)]
      omega

theorem numOf_range {d : List UInt8} {n : Int} (h : numOf d = some n) : -9223372036854775808 ≤ n ∧ n ≤ 9223372036854775807 := by
  obtain ⟨hp, -⟩ := numOf_some h
  have hb := Lib.parseIntB_bounds (B := 64) hp
  have e : ((2 ^ (64 - 1) : Nat) : Int) = 9223372036854775808 := by decide
  rw [e] at hb
  omega

theorem itoa_neg {n : Int} (h : n < 0) : Lib.itoa n = 45 :: Lib.decDigits n.natAbs := by unfold Lib.itoa; rw [if_pos h]
theorem itoa_pos {n : Int} (h : ¬ n < 0) : Lib.itoa n = Lib.decDigits n.toNat := by unfold Lib.itoa; rw [if_neg h]

/-- The number below 64 bits with a sign. -/
theorem wrap_val {v : Nat} (h : v ≤ 9999999999999999999) : ∃ x : Int, IntKind.i64.wrap (v : Int) = x ∧ -9223372036854775808 ≤ x ∧ x ≤ 9223372036854775807 ∧ (v ≤ 9223372036854775807 → x = v) ∧ (v = 9223372036854775808 → x = -9223372036854775808) := by
  refine ⟨_, rfl, ?_⟩
  rw [IntKind.wrap_i64]
  omega
theorem wrap_neg {x : Int} (h0 : -9223372036854775808 ≤ x) (h1 : x ≤ 9223372036854775807) : ∃ y : Int, IntKind.i64.wrap (-x) = y ∧ -9223372036854775808 ≤ y ∧ y ≤ 9223372036854775807 ∧ (x = -9223372036854775808 → y = x) ∧ (x ≠ -9223372036854775808 → y = -x) := by
  refine ⟨_, rfl, ?_⟩
  rw [IntKind.wrap_i64]
  omega

theorem str_l (l : List UInt8) : (⟨l.toArray⟩ : ByteArray).data.toList = l := by simp
theorem extract_tail (s : ByteArray) : (s.extract 1 s.size).data.toList = s.data.toList.tail := by
  have h : s.data.toList.tail.length = s.size - 1 := by rw [List.length_tail]; rfl
  simp only [ByteArray.data_extract, Array.toList_extract, List.extract_eq_take_drop, List.drop_one]
  rw [← h, List.take_length]
theorem extract_one (x : UInt8) (l : List UInt8) : (⟨(x :: l).toArray⟩ : ByteArray).extract 1 (⟨(x :: l).toArray⟩ : ByteArray).size = ⟨l.toArray⟩ := by
  apply Go.WideShapes.bytes_inj
  exact (extract_tail _).trans (by simp)
theorem get_str (l : List UInt8) (k : Nat) (_h : k < (⟨l.toArray⟩ : ByteArray).size) (h2 : k < l.length) : (⟨l.toArray⟩ : ByteArray)[k] = l[k] := by
  show l.toArray[k] = l[k]
  simp
theorem size_str (l : List UInt8) : (⟨l.toArray⟩ : ByteArray).size = l.length := by show l.toArray.size = _; simp

end Go.Proofs.YtchhdffehkcecaaDoor
