/-
  What the reference's Name, parts and Check do: the same answers.
-/
import Derived.Test.YtdnpfmmkglgnjabDoorLab2
namespace Go.Proofs.YtdnpfmmkglgnjabDoor
open Go.RowKit

/-- A byte may stand at a place of a name. -/
def Fits (s : ByteArray) (i : Nat) : Prop := LetterN (byteN s i) ∨ (i ≠ 0 ∧ DigitN (byteN s i))

theorem name_fits (s : ByteArray) : NameOk s ↔ (1 ≤ s.size ∧ s.size ≤ 16) ∧ ∀ i, i < s.size → Fits s i := by
  unfold NameOk Fits
  constructor
  · rintro ⟨h, h0, hall⟩
    refine ⟨h, fun i hi => ?_⟩
    rcases hall i hi with hl | hd
    · exact .inl hl
    · exact .inr ⟨fun e => h0 (e ▸ hd), hd⟩
  · rintro ⟨h, hall⟩
    refine ⟨h, fun hd => ?_, fun i hi => (hall i hi).imp id (·.2)⟩
    rcases hall 0 (by omega) with hl | ⟨h0, _⟩
    · unfold LetterN DigitN at *; omega
    · exact h0 rfl

set_option maxHeartbeats 2000000 in
theorem refName_any (s : ByteArray) (w : World) (hs : s.size ≤ 9223372036854775807) : Calls Tryd.prog 52 #[.string s] w fun e w' => e = .returned (.bool (decide (NameOk s))) ∧ w' = w := by
  obtain ⟨B0, hB0⟩ : ∃ B0, B0 = decide (NameOk s) := ⟨_, rfl⟩
  rw [← hB0]
  have HB := Lib.hid hB0
  clear hB0
  go_enter Tryd.func52, Tryd.ntmps52
  go_wp2
  go_loop [3] (fun i => ∃ k : Nat, k ≤ s.size ∧ i = .int .i64 k ∧ ∀ j, j < k → Fits s j) (fun i => s.size - (intOf i).toNat)
  case atStart => exact ⟨0, Nat.zero_le _, rfl, fun j hj => absurd hj (Nat.not_lt_zero _)⟩
  case round =>
    obtain ⟨k, hk, rfl, hall⟩ := hrel
    by_cases hlt : k < s.size
    · have hkl : (k : Int) < (s.size : Int) := by omega
      by_cases hF : Fits s k
      · have HF := Lib.hid (upto_succ hall hF)
        clear hall
        unfold Fits LetterN DigitN at hF
        rw [byteN_of hlt] at hF
        rcases hF with (hF | hF) | hF
        · have f0 : ¬ (97 : Int) ≤ (s[k].toNat : Int) := by omega
          have f1 : ((s[k].toNat : Int) == 95) = true := beq_iff_eq.2 (by omega)
          clear hF
          go_wp2
          go_round
          case rel => exact ⟨k + 1, by omega, by go_num, HF.out⟩
          case measure => simp [intOf]; omega
        · have f0 : (97 : Int) ≤ (s[k].toNat : Int) := by omega
          have f1 : (s[k].toNat : Int) ≤ 122 := by omega
          clear hF
          go_wp2
          go_round
          case rel => exact ⟨k + 1, by omega, by go_num, HF.out⟩
          case measure => simp [intOf]; omega
        · have f0 : ¬ (97 : Int) ≤ (s[k].toNat : Int) := by omega
          have f1 : ((s[k].toNat : Int) == 95) = false := beq_eq_false_iff_ne.2 (by omega)
          have f2 : ((k : Int) == 0) = false := beq_eq_false_iff_ne.2 (by omega)
          have g2 : ¬ k = 0 := by omega
          have f3 : ¬ (s[k].toNat : Int) < 48 := by omega
          have f4 : ¬ 57 < (s[k].toNat : Int) := by omega
          clear hF
          go_wp2
          go_round
          case rel => exact ⟨k + 1, by omega, by go_num, HF.out⟩
          case measure => simp [intOf]; omega
      · have HN := Lib.hid (HB.out.trans (decide_eq_false fun h : NameOk s => hF (((name_fits s).1 h).2 k hlt)))
        clear hall
        unfold Fits LetterN DigitN at hF
        rw [byteN_of hlt] at hF
        have hcs : (122 < s[k].toNat ∧ k = 0) ∨ (122 < s[k].toNat ∧ k ≠ 0) ∨ (s[k].toNat < 97 ∧ s[k].toNat ≠ 95 ∧ k = 0) ∨ (s[k].toNat < 97 ∧ s[k].toNat ≠ 95 ∧ k ≠ 0 ∧ s[k].toNat < 48) ∨ (s[k].toNat < 97 ∧ s[k].toNat ≠ 95 ∧ k ≠ 0 ∧ 57 < s[k].toNat) := by omega
        clear hF
        rcases hcs with hF | hF | hF | hF | hF
        · have f0 : (97 : Int) ≤ (s[k].toNat : Int) := by omega
          have f1 : ¬ (s[k].toNat : Int) ≤ 122 := by omega
          have f2 : ((s[k].toNat : Int) == 95) = false := beq_eq_false_iff_ne.2 (by omega)
          obtain rfl : k = 0 := by omega
          clear hF
          go_wp2
          go_ret
          exact ⟨by rw [HN.out]; rfl, rfl⟩
        · have f0 : (97 : Int) ≤ (s[k].toNat : Int) := by omega
          have f1 : ¬ (s[k].toNat : Int) ≤ 122 := by omega
          have f2 : ((s[k].toNat : Int) == 95) = false := beq_eq_false_iff_ne.2 (by omega)
          have f3 : ((k : Int) == 0) = false := beq_eq_false_iff_ne.2 (by omega)
          have g3 : ¬ k = 0 := by omega
          have f4 : ¬ (s[k].toNat : Int) < 48 := by omega
          have f5 : 57 < (s[k].toNat : Int) := by omega
          clear hF
          go_wp2
          go_ret
          exact ⟨by rw [HN.out]; rfl, rfl⟩
        · have f0 : ¬ (97 : Int) ≤ (s[k].toNat : Int) := by omega
          have f1 : ((s[k].toNat : Int) == 95) = false := beq_eq_false_iff_ne.2 (by omega)
          obtain rfl : k = 0 := by omega
          clear hF
          go_wp2
          go_ret
          exact ⟨by rw [HN.out]; rfl, rfl⟩
        · have f0 : ¬ (97 : Int) ≤ (s[k].toNat : Int) := by omega
          have f1 : ((s[k].toNat : Int) == 95) = false := beq_eq_false_iff_ne.2 (by omega)
          have f2 : ((k : Int) == 0) = false := beq_eq_false_iff_ne.2 (by omega)
          have g2 : ¬ k = 0 := by omega
          have f3 : (s[k].toNat : Int) < 48 := by omega
          clear hF
          go_wp2
          go_ret
          exact ⟨by rw [HN.out]; rfl, rfl⟩
        · have f0 : ¬ (97 : Int) ≤ (s[k].toNat : Int) := by omega
          have f1 : ((s[k].toNat : Int) == 95) = false := beq_eq_false_iff_ne.2 (by omega)
          have f2 : ((k : Int) == 0) = false := beq_eq_false_iff_ne.2 (by omega)
          have g2 : ¬ k = 0 := by omega
          have f3 : ¬ (s[k].toNat : Int) < 48 := by omega
          have f4 : 57 < (s[k].toNat : Int) := by omega
          clear hF
          go_wp2
          go_ret
          exact ⟨by rw [HN.out]; rfl, rfl⟩
    · obtain rfl : k = s.size := by omega
      have HN : Hid (B0 = decide (1 ≤ s.size ∧ s.size ≤ 16)) := Lib.hid (HB.out.trans (decide_eq_decide.2 ⟨fun h => h.1, fun h => (name_fits s).2 ⟨h, hall⟩⟩))
      clear hall
      by_cases h1 : 1 ≤ s.size
      · have h1' : (1 : Int) ≤ (s.size : Int) := by omega
        by_cases h2 : s.size ≤ 16
        · have h2' : (s.size : Int) ≤ 16 := by omega
          rw [decide_eq_true (p := 1 ≤ s.size ∧ s.size ≤ 16) ⟨h1, h2⟩] at HN
          go_wp2
          go_ret
          exact ⟨by rw [HN.out]; rfl, rfl⟩
        · have h2' : ¬ (s.size : Int) ≤ 16 := by omega
          rw [decide_eq_false (p := 1 ≤ s.size ∧ s.size ≤ 16) fun h => h2 h.2] at HN
          go_wp2
          go_ret
          exact ⟨by rw [HN.out]; rfl, rfl⟩
      · have h1' : ¬ (1 : Int) ≤ (s.size : Int) := by omega
        rw [decide_eq_false (p := 1 ≤ s.size ∧ s.size ≤ 16) fun h => h1 h.1] at HN
        go_wp2
        go_ret
        exact ⟨by rw [HN.out]; rfl, rfl⟩

set_option maxHeartbeats 1000000 in
theorem refparts_any (a : Option Addr) (c : Nat) (ps : List Pr) (w : World) (h : PairsAt w a ps) (hn : ∀ p ∈ ps, p.1.size ≤ 9223372036854775807) :
    Calls Tryd.prog 45 #[.slice a ps.length c] w fun e w' => e = .returned (.int .i64 (partsE ps)) ∧ w' = w := by
  by_cases h8 : 8 < ps.length
  · have hE : partsE ps = 5 := if_pos h8
    rw [hE]
    clear hE h
    have h8' : (8 : Int) < (ps.length : Int) := by omega
    go_enter Tryd.func45, Tryd.ntmps45
    go_wp2
    go_ret
    exact ⟨rfl, rfl⟩
  have h8' : ¬ (8 : Int) < (ps.length : Int) := by omega
  go_enter Tryd.func45, Tryd.ntmps45
  go_wp2
  go_loop [3] (fun i => ∃ k : Nat, k ≤ ps.length ∧ i = .int .i64 k ∧ ∀ j, j < k → ∀ hj : j < ps.length, ¬ LongV ps[j]) (fun i => ps.length - (intOf i).toNat)
  case atStart => exact ⟨0, Nat.zero_le _, rfl, fun j hj => absurd hj (Nat.not_lt_zero _)⟩
  case round =>
    obtain ⟨k, hk, rfl, hall⟩ := hrel
    by_cases hlt : k < ps.length
    · have hkl : (k : Int) < (ps.length : Int) := by omega
      obtain ⟨b, o, rfl, hc⟩ := h (by omega)
      obtain ⟨hc1, hc2⟩ := hc k hlt
      by_cases hV : LongV ps[k]
      · have hV' : (64 : Int) < (ps[k].2.size : Int) := by unfold LongV at hV; omega
        have hE : partsE ps = 5 := by
          unfold partsE
          rw [if_neg h8, if_pos ⟨ps[k], List.getElem_mem hlt, hV⟩]
        have HE := Lib.hid hE
        clear hE hc
        go_wp2
        go_ret
        exact ⟨by rw [HE.out]; rfl, rfl⟩
      · have hV' : ¬ (64 : Int) < (ps[k].2.size : Int) := by unfold LongV at hV; omega
        clear hc
        go_wp2
        go_round
        case rel => exact ⟨k + 1, by omega, by go_num, upto_succ hall fun _ => hV⟩
        case measure => simp [intOf]; omega
    · obtain rfl : k = ps.length := by omega
      have hE := Lib.hid (partsE_val ps h8 fun i hi => hall i hi hi)
      clear hall
      go_wp2
      go_loop [4] (fun i => ∃ k : Nat, k ≤ ps.length ∧ i = .int .i64 k ∧ ∀ j, j < k → ∀ hj : j < ps.length, ¬ BadP ps[j]) (fun i => ps.length - (intOf i).toNat)
      case atStart => exact ⟨0, Nat.zero_le _, rfl, fun j hj => absurd hj (Nat.not_lt_zero _)⟩
      case round =>
        obtain ⟨k, hk, rfl, hall⟩ := hrel
        by_cases hlt : k < ps.length
        · have hkl : (k : Int) < (ps.length : Int) := by omega
          obtain ⟨b, o, rfl, hc⟩ := h (by omega)
          obtain ⟨hc1, hc2⟩ := hc k hlt
          have hsz := hn ps[k] (List.getElem_mem hlt)
          clear hc
          by_cases hN : NameOk ps[k].1
          · have hN' := decide_eq_true hN
            by_cases hV : ps[k].2.size = 0
            · have hV' : ps[k].2.toList.isEmpty = true := by rw [str_empty, hV]; rfl
              have HE : Hid (partsE ps = 6) := by rw [hE.out, if_pos ⟨ps[k], List.getElem_mem hlt, .inr hV⟩]; exact rfl
              go_wp2_with (go_at_call 52; refine (refName_any _ _ hsz).mono ?_; rintro e w ⟨rfl, rfl⟩)
              go_ret
              exact ⟨by rw [HE.out]; rfl, rfl⟩
            · have hV' : ps[k].2.toList.isEmpty = false := by rw [str_empty]; simpa using hV
              go_wp2_with (go_at_call 52; refine (refName_any _ _ hsz).mono ?_; rintro e w ⟨rfl, rfl⟩)
              go_round
              case rel => exact ⟨k + 1, by omega, by go_num, upto_succ hall fun _ hB => hB.elim (fun h => h hN) hV⟩
              case measure => simp [intOf]; omega
          · have hN' := decide_eq_false hN
            have HE : Hid (partsE ps = 6) := by rw [hE.out, if_pos ⟨ps[k], List.getElem_mem hlt, .inl hN⟩]; exact rfl
            go_wp2_with (go_at_call 52; refine (refName_any _ _ hsz).mono ?_; rintro e w ⟨rfl, rfl⟩)
            go_ret
            exact ⟨by rw [HE.out]; rfl, rfl⟩
        · obtain rfl : k = ps.length := by omega
          have HE : Hid (partsE ps = 0) := by
            rw [hE.out, if_neg]
            · exact rfl
            · rintro ⟨p, hp, hl⟩
              obtain ⟨i, hi, rfl⟩ := List.getElem_of_mem hp
              exact hall i hi hi hl
          go_wp2
          go_ret
          exact ⟨by rw [HE.out]; rfl, rfl⟩

theorem partsE_le (ps : List Pr) : 0 ≤ partsE ps ∧ partsE ps ≤ 6 := by
  unfold partsE
  split
  · omega
  · split
    · omega
    · split <;> omega

set_option maxHeartbeats 1000000 in
theorem refCheck_any (a : Option Addr) (c : Nat) (ps : List Pr) (w : World) (h : PairsAt w a ps) (hn : ∀ p ∈ ps, p.1.size ≤ 9223372036854775807) :
    Calls Tryd.prog 36 #[.slice a ps.length c] w fun e w' => e = .returned (.int .i64 (checkE ps)) ∧ Below w.heap.size w w' := by
  have HC := Lib.hid (refparts_any a c ps w h hn)
  by_cases h0 : partsE ps = 0
  · have hl8 := partsE_zero h0
    have HE : Hid (checkE ps = if Rise ps then 0 else 4) := by unfold checkE; rw [h0, if_neg (by simp)]; exact rfl
    rw [h0] at HC
    clear h0
    go_enter Tryd.func36, Tryd.ntmps36
    go_wp2_with (go_at_call 45; refine HC.out.mono ?_; rintro e w1 ⟨rfl, rfl⟩)
    go_loopw [4] (fun i wr => ∃ k : Nat, 1 ≤ k ∧ (k ≤ ps.length ∨ k = 1) ∧ i = .int .i64 k ∧ Below w1.heap.size w1 wr ∧ ∀ j, j + 1 < k → ∀ hj : j + 1 < ps.length, nm ps[j] < nm ps[j + 1]) (fun i _ => ps.length - (intOf i).toNat)
    case atStart => exact ⟨1, Nat.le_refl _, .inr rfl, rfl, Below.refl _ _, fun j hj => absurd hj (by omega)⟩
    case round =>
      obtain ⟨k, hk1, hk, rfl, hb, hall⟩ := hrel
      by_cases hlt : k < ps.length
      · have hkl : (k : Int) < (ps.length : Int) := by omega
        obtain ⟨b, o, rfl, hc⟩ := h (by omega)
        obtain ⟨hc1, -⟩ := hc (k - 1) (by omega)
        obtain ⟨hc2, -⟩ := hc k (by omega)
        rw [← hb.cell (p := ⟨b, o + (k - 1) * 2, none⟩) (World.block_lt_of_cell? w1 _ hc1)] at hc1
        rw [← hb.cell (p := ⟨b, o + k * 2, none⟩) (World.block_lt_of_cell? w1 _ hc2)] at hc2
        have hlt' : k - 1 < ps.length := by omega
        have hL := less_eq ps[k - 1].1.toList ps[k].1.toList
        have hw : IntKind.i64.wrap ((k : Int) - 1) = ((k - 1 : Nat) : Int) := by rw [IntKind.wrap_i64]; omega
        clear h hc
        by_cases hR : nm ps[k - 1] < nm ps[k]
        · rw [decide_eq_true hR] at hL
          have HR : ∀ j, j + 1 < k + 1 → ∀ hj : j + 1 < ps.length, nm ps[j] < nm ps[j + 1] := fun i hi hj => by
            by_cases h : i + 1 < k
            · exact hall i h hj
            · obtain rfl : k = i + 1 := by omega
              simpa using hR
          clear hall
          go_wp2
          go_quiet (fail)
          go_wp2
          go_roundw
          case rel => exact ⟨k + 1, by omega, .inl (by omega), by go_num, below_drewN hb _, HR⟩
          case measure => simp [intOf]; omega
        · rw [decide_eq_false hR] at hL
          rw [if_neg (rise_not (ps := ps) (k - 1) (by rw [Nat.sub_add_cancel hk1]; exact hlt) (by simpa only [Nat.sub_add_cancel hk1] using hR))] at HE
          go_wp2
          go_quiet (fail)
          go_wp2
          go_ret
          exact ⟨by rw [HE.out]; rfl, below_drewN hb _⟩
      · have hkl : ¬ (k : Int) < (ps.length : Int) := by omega
        rw [if_pos (rise_of_next ps fun i hi => hall i (by omega) hi)] at HE
        go_wp2
        go_ret
        exact ⟨by rw [HE.out]; rfl, hb⟩
  · have HE : Hid (checkE ps = partsE ps) := by unfold checkE; rw [if_pos h0]; exact rfl
    generalize partsE ps = E at *
    have h0' : (E == 0) = false := by simpa using h0
    go_enter Tryd.func36, Tryd.ntmps36
    go_wp2_with (go_at_call 45; refine HC.out.mono ?_; rintro e w1 ⟨rfl, rfl⟩)
    go_loop [4] (fun i => i = .int .i64 1) (fun _ => 0)
    case atStart => rfl
    case round =>
      obtain rfl := hrel
      by_cases hlt : 1 < ps.length
      · have hkl : (1 : Int) < (ps.length : Int) := by omega
        go_wp2
        go_ret
        exact ⟨by rw [HE.out]; rfl, Below.refl _ _⟩
      · have hkl : ¬ (1 : Int) < (ps.length : Int) := by omega
        go_wp2
        go_ret
        exact ⟨by rw [HE.out]; rfl, Below.refl _ _⟩

end Go.Proofs.YtdnpfmmkglgnjabDoor
