/-
  What the reference's Name, parts and Check do: the same answers.
-/
import Derived.Test.YthaimnmbcbhioaaDoorLab2
namespace Go.Proofs.YthaimnmbcbhioaaDoor
open Go.RowKit

/-- A byte may stand at a place of a name. -/
def Fits (s : ByteArray) (i : Nat) : Prop := LetterN (byteN s i) ∨ (i ≠ 0 ∧ DigitN (byteN s i))

theorem name_fits (s : ByteArray) : NameOk s ↔ (1 ≤ s.size ∧ s.size ≤ 16) ∧ ∀ i, i < s.size → Fits s i := by
  unfold NameOk Fits
  constructor
  · rintro ⟨h, h0, hall⟩
    refine ⟨h, fun i hi => ?_⟩
    rcases hall i hi with hl | hd
    · exact .inl hl
    · exact .inr ⟨fun e => h0 (e ▸ hd), hd⟩
  · rintro ⟨h, hall⟩
    refine ⟨h, fun hd => ?_, fun i hi => (hall i hi).imp id (·.2)⟩
    rcases hall 0 (by omega) with hl | ⟨h0, _⟩
    · unfold LetterN DigitN at *; omega
    · exact h0 rfl

set_option maxHeartbeats 2000000 in
theorem refName_any (s : ByteArray) (w : World) (hs : s.size ≤ 9223372036854775807) : Calls Tryd.prog 73 #[.string s] w fun e w' => e = .returned (.bool (decide (NameOk s))) ∧ w' = w := by
  obtain ⟨B0, hB0⟩ : ∃ B0, B0 = decide (NameOk s) := ⟨_, rfl⟩
  rw [← hB0]
  have HB := Lib.hid hB0
  clear hB0
  go_enter Tryd.func73, Tryd.ntmps73
  go_wp2
  go_loop [3] (fun i => ∃ k : Nat, k ≤ s.size ∧ i = .int .i64 k ∧ ∀ j, j < k → Fits s j) (fun i => s.size - (intOf i).toNat)
  case atStart => exact ⟨0, Nat.zero_le _, rfl, fun j hj => absurd hj (Nat.not_lt_zero _)⟩
  case round =>
    obtain ⟨k, hk, rfl, hall⟩ := hrel
    by_cases hlt : k < s.size
    · have hkl : (k : Int) < (s.size : Int) := by omega
      by_cases hF : Fits s k
      · have HF := Lib.hid (upto_succ hall hF)
        clear hall
        unfold Fits LetterN DigitN at hF
        rw [byteN_of hlt] at hF
        rcases hF with (hF | hF) | hF
        · have f0 : ¬ (97 : Int) ≤ (s[k].toNat : Int) := by omega
          have f1 : ((s[k].toNat : Int) == 95) = true := beq_iff_eq.2 (by omega)
          clear hF
          go_wp2
          go_round
          case rel => exact ⟨k + 1, by omega, by go_num, HF.out⟩
          case measure => simp [intOf]; omega
        · have f0 : (97 : Int) ≤ (s[k].toNat : Int) := by omega
          have f1 : (s[k].toNat : Int) ≤ 122 := by omega
          clear hF
          go_wp2
          go_round
          case rel => exact ⟨k + 1, by omega, by go_num, HF.out⟩
          case measure => simp [intOf]; omega
        · have f0 : ¬ (97 : Int) ≤ (s[k].toNat : Int) := by omega
          have f1 : ((s[k].toNat : Int) == 95) = false := beq_eq_false_iff_ne.2 (by omega)
          have f2 : ((k : Int) == 0) = false := beq_eq_false_iff_ne.2 (by omega)
          have g2 : ¬ k = 0 := by omega
          have f3 : ¬ (s[k].toNat : Int) < 48 := by omega
          have f4 : ¬ 57 < (s[k].toNat : Int) := by omega
          clear hF
          go_wp2
          go_round
          case rel => exact ⟨k + 1, by omega, by go_num, HF.out⟩
          case measure => simp [intOf]; omega
      · have HN := Lib.hid (HB.out.trans (decide_eq_false fun h : NameOk s => hF (((name_fits s).1 h).2 k hlt)))
        clear hall
        unfold Fits LetterN DigitN at hF
        rw [byteN_of hlt] at hF
        have hcs : (122 < s[k].toNat ∧ k = 0) ∨ (122 < s[k].toNat ∧ k ≠ 0) ∨ (s[k].toNat < 97 ∧ s[k].toNat ≠ 95 ∧ k = 0) ∨ (s[k].toNat < 97 ∧ s[k].toNat ≠ 95 ∧ k ≠ 0 ∧ s[k].toNat < 48) ∨ (s[k].toNat < 97 ∧ s[k].toNat ≠ 95 ∧ k ≠ 0 ∧ 57 < s[k].toNat) := by omega
        clear hF
        rcases hcs with hF | hF | hF | hF | hF
        · have f0 : (97 : Int) ≤ (s[k].toNat : Int) := by omega
          have f1 : ¬ (s[k].toNat : Int) ≤ 122 := by omega
          have f2 : ((s[k].toNat : Int) == 95) = false := beq_eq_false_iff_ne.2 (by omega)
          obtain rfl : k = 0 := by omega
          clear hF
          go_wp2
          go_ret
          exact ⟨by rw [HN.out]; rfl, rfl⟩
        · have f0 : (97 : Int) ≤ (s[k].toNat : Int) := by omega
          have f1 : ¬ (s[k].toNat : Int) ≤ 122 := by omega
          have f2 : ((s[k].toNat : Int) == 95) = false := beq_eq_false_iff_ne.2 (by omega)
          have f3 : ((k : Int) == 0) = false := beq_eq_false_iff_ne.2 (by omega)
          have g3 : ¬ k = 0 := by omega
          have f4 : ¬ (s[k].toNat : Int) < 48 := by omega
          have f5 : 57 < (s[k].toNat : Int) := by omega
          clear hF
          go_wp2
          go_ret
          exact ⟨by rw [HN.out]; rfl, rfl⟩
        · have f0 : ¬ (97 : Int) ≤ (s[k].toNat : Int) := by omega
          have f1 : ((s[k].toNat : Int) == 95) = false := beq_eq_false_iff_ne.2 (by omega)
          obtain rfl : k = 0 := by omega
          clear hF
          go_wp2
          go_ret
          exact ⟨by rw [HN.out]; rfl, rfl⟩
        · have f0 : ¬ (97 : Int) ≤ (s[k].toNat : Int) := by omega
          have f1 : ((s[k].toNat : Int) == 95) = false := beq_eq_false_iff_ne.2 (by omega)
          have f2 : ((k : Int) == 0) = false := beq_eq_false_iff_ne.2 (by omega)
          have g2 : ¬ k = 0 := by omega
          have f3 : (s[k].toNat : Int) < 48 := by omega
          clear hF
          go_wp2
          go_ret
          exact ⟨by rw [HN.out]; rfl, rfl⟩
        · have f0 : ¬ (97 : Int) ≤ (s[k].toNat : Int) := by omega
          have f1 : ((s[k].toNat : Int) == 95) = false := beq_eq_false_iff_ne.2 (by omega)
          have f2 : ((k : Int) == 0) = false := beq_eq_false_iff_ne.2 (by omega)
          have g2 : ¬ k = 0 := by omega
          have f3 : ¬ (s[k].toNat : Int) < 48 := by omega
          have f4 : 57 < (s[k].toNat : Int) := by omega
          clear hF
          go_wp2
          go_ret
          exact ⟨by rw [HN.out]; rfl, rfl⟩
    · obtain rfl : k = s.size := by omega
      have HN : Hid (B0 = decide (1 ≤ s.size ∧ s.size ≤ 16)) := Lib.hid (HB.out.trans (decide_eq_decide.2 ⟨fun h => h.1, fun h => (name_fits s).2 ⟨h, hall⟩⟩))
      clear hall
      by_cases h1 : 1 ≤ s.size
      · have h1' : (1 : Int) ≤ (s.size : Int) := by omega
        by_cases h2 : s.size ≤ 16
        · have h2' : (s.size : Int) ≤ 16 := by omega
          rw [decide_eq_true (p := 1 ≤ s.size ∧ s.size ≤ 16) ⟨h1, h2⟩] at HN
          go_wp2
          go_ret
          exact ⟨by rw [HN.out]; rfl, rfl⟩
        · have h2' : ¬ (s.size : Int) ≤ 16 := by omega
          rw [decide_eq_false (p := 1 ≤ s.size ∧ s.size ≤ 16) fun h => h2 h.2] at HN
          go_wp2
          go_ret
          exact ⟨by rw [HN.out]; rfl, rfl⟩
      · have h1' : ¬ (1 : Int) ≤ (s.size : Int) := by omega
        rw [decide_eq_false (p := 1 ≤ s.size ∧ s.size ≤ 16) fun h => h1 h.1] at HN
        go_wp2
        go_ret
        exact ⟨by rw [HN.out]; rfl, rfl⟩

theorem partsE_le (ps : List Pr) : 0 ≤ partsE ps ∧ partsE ps ≤ 6 := by
  unfold partsE
  split
  · omega
  · split
    · omega
    · split <;> omega

end Go.Proofs.YthaimnmbcbhioaaDoor
