/-
  What Get does: the value of the first pair of a name.
-/
import Derived.Test.YtfllfmdopfeecabGreatDoorLab2
namespace Go.Proofs.YtfllfmdopfeecabGreatDoor
open Go.RowKit

/-- None of the first k pairs has this name. -/
theorem getV_skip (ps : List Pr) (n : List UInt8) (k : Nat) (hk : k ≤ ps.length) (h : ∀ j, j < k → ∀ hj : j < ps.length, nm ps[j] ≠ n) : getV ps n = getV (ps.drop k) n := by
  induction k with
  | zero => simp
  | succ k ih =>
    rw [ih (by omega) (fun j hj => h j (by omega)), List.drop_eq_getElem_cons (by omega : k < ps.length)]
    unfold getV
    rw [List.find?_cons]
    have := h k (by omega) (by omega)
    simp only [beq_eq_false_iff_ne.2 this]
theorem getV_hit (ps : List Pr) (n : List UInt8) (k : Nat) (hk : k < ps.length) (h : ∀ j, j < k → ∀ hj : j < ps.length, nm ps[j] ≠ n) (he : nm ps[k] = n) : getV ps n = ps[k].2 := by
  rw [getV_skip ps n k (by omega) h, List.drop_eq_getElem_cons hk]
  unfold getV
  rw [List.find?_cons]
  simp only [beq_iff_eq.2 he]

set_option maxHeartbeats 1000000 in
theorem Get_any (a : Option Addr) (c : Nat) (ps : List Pr) (s : ByteArray) (w : World) (h : PairsAt w a ps) (hn : ps.length ≤ 9223372036854775807) (n : Nat) (hnl : n = ps.length) :
    Calls Tryz.prog 79 #[.slice a n c, .string s] w fun e w' => e = .returned (.string (getV ps s.toList)) ∧ Below w.heap.size w w' := by
  subst hnl
  go_enter Tryz.func79, Tryz.ntmps79
  go_wp2
  go_loopw [9] (fun i wr => ∃ k : Nat, k ≤ ps.length ∧ i = .int .i64 k ∧ Below w.heap.size w wr ∧ ∀ j, j < k → ∀ hj : j < ps.length, nm ps[j] ≠ s.toList) (fun i _ => ps.length - (intOf i).toNat)
  case atStart => exact ⟨0, Nat.zero_le _, rfl, Below.refl _ _, fun j hj => absurd hj (Nat.not_lt_zero _)⟩
  case round =>
    obtain ⟨k, hk, rfl, hb, hall⟩ := hrel
    by_cases hlt : k < ps.length
    · have hkl : (k : Int) < (ps.length : Int) := by omega
      obtain ⟨b, o, rfl, hc⟩ := h (by omega)
      obtain ⟨hc1, hc2⟩ := hc k hlt
      rw [← hb.cell (p := ⟨b, o + k * 2, none⟩) (World.block_lt_of_cell? w _ hc1)] at hc1
      rw [← hb.cell (p := ⟨b, o + k * 2 + 1, none⟩) (World.block_lt_of_cell? w _ hc2)] at hc2
      have hs := hb.size
      clear hc h
      by_cases hE : nm ps[k] = s.toList
      · have hE' : (ps[k].1.toList == s.toList) = true := beq_iff_eq.2 hE
        have HV := Lib.hid (getV_hit ps s.toList k hlt hall hE)
        clear hall hE
        go_wp2
        go_ret
        exact ⟨by rw [HV.out]; rfl, hb.alloc hs _⟩
      · have hE' : (ps[k].1.toList == s.toList) = false := beq_eq_false_iff_ne.2 hE
        have HA := Lib.hid (upto_succ hall fun _ => hE)
        clear hall hE
        go_wp2
        go_roundw
        case rel => exact ⟨k + 1, by omega, by go_num, hb.alloc hs _, HA.out⟩
        case measure => simp [intOf]; omega
    · obtain rfl : k = ps.length := by omega
      have HV : Hid (getV ps s.toList = ⟨#[]⟩) := by
        rw [getV_skip ps s.toList ps.length (Nat.le_refl _) hall, List.drop_length]
        exact rfl
      clear hall
      go_wp2
      go_ret
      exact ⟨by rw [HV.out]; rfl, hb⟩

end Go.Proofs.YtfllfmdopfeecabGreatDoor
