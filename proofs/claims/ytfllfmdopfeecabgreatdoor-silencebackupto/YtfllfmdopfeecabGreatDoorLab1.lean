/-
  What the small calls of package label do: isDigit, isLetter, Name, checkParts, rise, Check. Pairs lie at an address, two cells each.
-/
import Derived.Test.YtfllfmdopfeecabGreatDoorRows
import Derived.Test.YtfllfmdopfeecabGreatDoorLPlain
import Derived.WalkKit
import Derived.WalkSpells
import Derived.WalkLawsBesides
import Derived.Lib.Hide
import Derived.OwnWalk
namespace Go.Proofs.YtfllfmdopfeecabGreatDoor
open Go.RowKit

set_option maxHeartbeats 400000 in
theorem isDigit_any (n : Nat) (w : World) : Calls Tryz.prog 59 #[.int .u8 n] w fun e w' => e = .returned (.bool (decide (DigitN n))) ∧ w' = w := by
  unfold DigitN
  by_cases h1 : 48 ≤ n
  · have h1' : (48 : Int) ≤ n := by omega
    by_cases h2 : n ≤ 57
    · have h2' : (n : Int) ≤ 57 := by omega
      go_enter Tryz.func59, Tryz.ntmps59
      go_wp2
      go_ret
      simp_all
    · have h2' : ¬ (n : Int) ≤ 57 := by omega
      go_enter Tryz.func59, Tryz.ntmps59
      go_wp2
      go_ret
      simp_all
  · have h1' : ¬ (48 : Int) ≤ n := by omega
    go_enter Tryz.func59, Tryz.ntmps59
    go_wp2
    go_ret
    simp_all

set_option maxHeartbeats 400000 in
theorem isLetter_any (n : Nat) (w : World) : Calls Tryz.prog 60 #[.int .u8 n] w fun e w' => e = .returned (.bool (decide (LetterN n))) ∧ w' = w := by
  unfold LetterN
  by_cases h0 : n = 95
  · subst h0
    go_enter Tryz.func60, Tryz.ntmps60
    go_wp2
    go_ret
    simp
  · have h0' : ¬ (n : Int) = 95 := by omega
    by_cases h1 : 97 ≤ n
    · have h1' : (97 : Int) ≤ n := by omega
      by_cases h2 : n ≤ 122
      · have h2' : (n : Int) ≤ 122 := by omega
        go_enter Tryz.func60, Tryz.ntmps60
        go_wp2
        go_ret
        simp_all
      · have h2' : ¬ (n : Int) ≤ 122 := by omega
        go_enter Tryz.func60, Tryz.ntmps60
        go_wp2
        go_ret
        simp_all
    · have h1' : ¬ (97 : Int) ≤ n := by omega
      go_enter Tryz.func60, Tryz.ntmps60
      go_wp2
      go_ret
      simp_all

theorem upto_succ {p : Nat → Prop} {k : Nat} (h : ∀ j, j < k → p j) (hk : p k) (j : Nat) (hj : j < k + 1) : p j := by
  rcases Nat.lt_succ_iff_lt_or_eq.1 hj with h1 | rfl
  · exact h j h1
  · exact hk

set_option maxHeartbeats 400000 in
theorem Name_any (s : ByteArray) (w : World) : Calls Tryz.prog 39 #[.string s] w fun e w' => e = .returned (.bool (decide (NameOk s))) ∧ w' = w := by
  by_cases h1 : s.size < 1
  · have hno : decide (NameOk s) = false := decide_eq_false fun h => by have := h.1; omega
    rw [hno]
    clear hno
    have h1' : (s.size : Int) < 1 := by omega
    go_enter Tryz.func39, Tryz.ntmps39
    go_wp2
    go_ret
    exact ⟨rfl, rfl⟩
  by_cases h2 : 16 < s.size
  · have hno : decide (NameOk s) = false := decide_eq_false fun h => by have := h.1; omega
    rw [hno]
    clear hno
    have h1' : ¬ (s.size : Int) < 1 := by omega
    have h2' : (16 : Int) < (s.size : Int) := by omega
    go_enter Tryz.func39, Tryz.ntmps39
    go_wp2
    go_ret
    exact ⟨rfl, rfl⟩
  have h1' : ¬ (s.size : Int) < 1 := by omega
  have h2' : ¬ (16 : Int) < (s.size : Int) := by omega
  by_cases h3 : DigitN (byteN s 0)
  · have hno : decide (NameOk s) = false := decide_eq_false fun h => h.2.1 h3
    rw [hno]
    clear hno
    rw [byteN_of (by omega)] at h3
    have h3' := decide_eq_true h3
    clear h3
    go_enter Tryz.func39, Tryz.ntmps39
    go_wp2_with (go_at_call 59; refine (isDigit_any _ _).mono ?_; rintro e w ⟨rfl, rfl⟩)
    go_ret
    exact ⟨rfl, rfl⟩
  · have h3' : decide (DigitN (byteN s 0)) = false := decide_eq_false h3
    have hok : decide (NameOk s) = decide (∀ i, i < s.size → LetterN (byteN s i) ∨ DigitN (byteN s i)) := by
      rw [decide_eq_decide]
      exact ⟨fun h => h.2.2, fun h => ⟨⟨by omega, by omega⟩, h3, h⟩⟩
    rw [hok]
    clear hok
    rw [byteN_of (by omega)] at h3'
    go_enter Tryz.func39, Tryz.ntmps39
    go_wp2_with (go_at_call 59; refine (isDigit_any _ _).mono ?_; rintro e w ⟨rfl, rfl⟩)
    go_loop [19] (fun i => ∃ k : Nat, k ≤ s.size ∧ i = .int .i64 k ∧ ∀ j, j < k → LetterN (byteN s j) ∨ DigitN (byteN s j)) (fun i => s.size - (intOf i).toNat)
    case atStart => exact ⟨0, Nat.zero_le _, rfl, fun j hj => absurd hj (Nat.not_lt_zero _)⟩
    case round =>
      obtain ⟨k, hk, rfl, hall⟩ := hrel
      by_cases hlt : k < s.size
      · have hkl : (k : Int) < (s.size : Int) := by omega
        by_cases hL : LetterN s[k].toNat
        · have hL' := decide_eq_true hL
          go_wp2_with (go_at_call 60; refine (isLetter_any _ _).mono ?_; rintro e w ⟨rfl, rfl⟩)
          go_round
          case rel => exact ⟨k + 1, by omega, by go_num, upto_succ hall (by rw [byteN_of hlt]; exact .inl hL)⟩
          case measure => simp [intOf]; omega
        · have hL' := decide_eq_false hL
          by_cases hD : DigitN s[k].toNat
          · have hD' := decide_eq_true hD
            go_wp2_with (first | (go_at_call 60; refine (isLetter_any _ _).mono ?_; rintro e w ⟨rfl, rfl⟩) | (go_at_call 59; refine (isDigit_any _ _).mono ?_; rintro e w ⟨rfl, rfl⟩))
            go_round
            case rel => exact ⟨k + 1, by omega, by go_num, upto_succ hall (by rw [byteN_of hlt]; exact .inr hD)⟩
            case measure => simp [intOf]; omega
          · have hD' := decide_eq_false hD
            have hno : decide (∀ i, i < s.size → LetterN (byteN s i) ∨ DigitN (byteN s i)) = false := decide_eq_false fun h => by
              have := h k hlt
              rw [byteN_of hlt] at this
              exact this.elim hL hD
            have HN := Lib.hid hno
            clear hno
            go_wp2_with (first | (go_at_call 60; refine (isLetter_any _ _).mono ?_; rintro e w ⟨rfl, rfl⟩) | (go_at_call 59; refine (isDigit_any _ _).mono ?_; rintro e w ⟨rfl, rfl⟩))
            go_ret
            exact ⟨by rw [HN.out]; rfl, rfl⟩
      · obtain rfl : k = s.size := by omega
        have HN := Lib.hid (decide_eq_true hall)
        go_wp2
        go_ret
        exact ⟨by rw [HN.out]; rfl, rfl⟩

end Go.Proofs.YtfllfmdopfeecabGreatDoor
