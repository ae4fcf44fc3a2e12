/-
  Pairs in memory; what checkParts, rise and Check do.
-/
import Derived.Test.YtdnpfmmkglgnjabDoorLab1
import Derived.Deep.QuietTactic
namespace Go.Proofs.YtdnpfmmkglgnjabDoor
open Go.RowKit
theorem below_drewN {B : Nat} {a w : World} (h : Below B a w) (n : Nat) : Below B a (w.drewN n) := h.trans ⟨rfl, rfl, rfl, Nat.le_refl _, fun _ _ => rfl⟩

/-- Pairs lie at an address; where there are none, anywhere. -/
def PairsAt (w : World) (a : Option Addr) (ps : List Pr) : Prop :=
  0 < ps.length → ∃ b o, a = some ⟨b, o, none⟩ ∧ ∀ i (hi : i < ps.length), w.cell? ⟨b, o + i * 2, none⟩ = some (.string ps[i].1) ∧ w.cell? ⟨b, o + i * 2 + 1, none⟩ = some (.string ps[i].2)

theorem PairsAt.below {w w' : World} {a : Option Addr} {ps : List Pr} {B : Nat} (h : PairsAt w a ps) (hb : Below B w w') (hB : w.heap.size ≤ B) : PairsAt w' a ps := fun hn => by
  obtain ⟨b, o, rfl, hc⟩ := h hn
  refine ⟨b, o, rfl, fun i hi => ?_⟩
  obtain ⟨h1, h2⟩ := hc i hi
  exact ⟨by rw [hb.cell (Nat.lt_of_lt_of_le (World.block_lt_of_cell? w _ h1) hB)]; exact h1, by rw [hb.cell (Nat.lt_of_lt_of_le (World.block_lt_of_cell? w _ h2) hB)]; exact h2⟩

theorem str_empty (s : ByteArray) : s.toList.isEmpty = (s.size == 0) := by
  rw [ByteArray.toList_eq]
  obtain ⟨⟨l⟩⟩ := s
  cases l <;> simp [ByteArray.size]

theorem partsE_val (ps : List Pr) (h8 : ¬ 8 < ps.length) (hL : ∀ i (hi : i < ps.length), ¬ LongV ps[i]) : partsE ps = if ∃ p ∈ ps, BadP p then 6 else 0 := by
  unfold partsE
  rw [if_neg h8, if_neg]
  rintro ⟨p, hp, hl⟩
  obtain ⟨i, hi, rfl⟩ := List.getElem_of_mem hp
  exact hL i hi hl

set_option maxHeartbeats 1000000 in
theorem checkParts_any (a : Option Addr) (c : Nat) (ps : List Pr) (w : World) (h : PairsAt w a ps) :
    Calls Tryd.prog 42 #[.slice a ps.length c] w fun e w' => e = .returned (.int .i64 (partsE ps)) ∧ Below w.heap.size w w' := by
  by_cases h8 : 8 < ps.length
  · have hE : partsE ps = 5 := if_pos h8
    rw [hE]
    clear hE h
    have h8' : (8 : Int) < (ps.length : Int) := by omega
    go_enter Tryd.func42, Tryd.ntmps42
    go_wp2
    go_ret
    exact ⟨rfl, Below.refl _ _⟩
  have h8' : ¬ (8 : Int) < (ps.length : Int) := by omega
  go_enter Tryd.func42, Tryd.ntmps42
  go_wp2
  go_loopw [12] (fun i wr => ∃ k : Nat, k ≤ ps.length ∧ i = .int .i64 k ∧ Below w.heap.size w wr ∧ ∀ j, j < k → ∀ hj : j < ps.length, ¬ LongV ps[j]) (fun i _ => ps.length - (intOf i).toNat)
  case atStart => exact ⟨0, Nat.zero_le _, rfl, Below.refl _ _, fun j hj => absurd hj (Nat.not_lt_zero _)⟩
  case round =>
    obtain ⟨k, hk, rfl, hb, hall⟩ := hrel
    by_cases hlt : k < ps.length
    · have hkl : (k : Int) < (ps.length : Int) := by omega
      obtain ⟨b, o, rfl, hc⟩ := h (by omega)
      obtain ⟨hc1, hc2⟩ := hc k hlt
      rw [← hb.cell (p := ⟨b, o + k * 2, none⟩) (World.block_lt_of_cell? w _ hc1)] at hc1
      rw [← hb.cell (p := ⟨b, o + k * 2 + 1, none⟩) (World.block_lt_of_cell? w _ hc2)] at hc2
      have hs := hb.size
      by_cases hV : LongV ps[k]
      · have hV' : (64 : Int) < (ps[k].2.size : Int) := by unfold LongV at hV; omega
        have hE : partsE ps = 5 := by
          unfold partsE
          rw [if_neg h8, if_pos ⟨ps[k], List.getElem_mem hlt, hV⟩]
        have HE := Lib.hid hE
        clear hE
        go_wp2
        go_ret
        exact ⟨by rw [HE.out]; rfl, hb.alloc hs _⟩
      · have hV' : ¬ (64 : Int) < (ps[k].2.size : Int) := by unfold LongV at hV; omega
        go_wp2
        go_roundw
        case rel => exact ⟨k + 1, by omega, by go_num, hb.alloc hs _, upto_succ hall fun _ => hV⟩
        case measure => simp [intOf]; omega
    · obtain rfl : k = ps.length := by omega
      have hE := Lib.hid (partsE_val ps h8 fun i hi => hall i hi hi)
      clear hall
      go_wp2
      go_loopw [23] (fun i wr => ∃ k : Nat, k ≤ ps.length ∧ i = .int .i64 k ∧ Below w.heap.size w wr ∧ ∀ j, j < k → ∀ hj : j < ps.length, ¬ BadP ps[j]) (fun i _ => ps.length - (intOf i).toNat)
      case atStart => exact ⟨0, Nat.zero_le _, rfl, hb, fun j hj => absurd hj (Nat.not_lt_zero _)⟩
      case round =>
        obtain ⟨k, hk, rfl, hb, hall⟩ := hrel
        by_cases hlt : k < ps.length
        · have hkl : (k : Int) < (ps.length : Int) := by omega
          obtain ⟨b, o, rfl, hc⟩ := h (by omega)
          obtain ⟨hc1, hc2⟩ := hc k hlt
          rw [← hb.cell (p := ⟨b, o + k * 2, none⟩) (World.block_lt_of_cell? w _ hc1)] at hc1
          rw [← hb.cell (p := ⟨b, o + k * 2 + 1, none⟩) (World.block_lt_of_cell? w _ hc2)] at hc2
          have hs := hb.size
          by_cases hN : NameOk ps[k].1
          · have hN' := decide_eq_true hN
            by_cases hV : ps[k].2.size = 0
            · have hV' : ps[k].2.toList.isEmpty = true := by rw [str_empty, hV]; rfl
              have HE : Hid (partsE ps = 6) := by rw [hE.out, if_pos ⟨ps[k], List.getElem_mem hlt, .inr hV⟩]; exact rfl
              go_wp2_with (go_at_call 50; refine (Name_any _ _).mono ?_; rintro e wr ⟨rfl, rfl⟩)
              go_ret
              exact ⟨by rw [HE.out]; rfl, hb.alloc hs _⟩
            · have hV' : ps[k].2.toList.isEmpty = false := by rw [str_empty]; simpa using hV
              go_wp2_with (go_at_call 50; refine (Name_any _ _).mono ?_; rintro e wr ⟨rfl, rfl⟩)
              go_roundw
              case rel => exact ⟨k + 1, by omega, by go_num, hb.alloc hs _, upto_succ hall fun _ hB => hB.elim (fun h => h hN) hV⟩
              case measure => simp [intOf]; omega
          · have hN' := decide_eq_false hN
            have HE : Hid (partsE ps = 6) := by rw [hE.out, if_pos ⟨ps[k], List.getElem_mem hlt, .inl hN⟩]; exact rfl
            go_wp2_with (go_at_call 50; refine (Name_any _ _).mono ?_; rintro e wr ⟨rfl, rfl⟩)
            go_ret
            exact ⟨by rw [HE.out]; rfl, hb.alloc hs _⟩
        · obtain rfl : k = ps.length := by omega
          have HE : Hid (partsE ps = 0) := by
            rw [hE.out, if_neg]
            · exact rfl
            · rintro ⟨p, hp, hl⟩
              obtain ⟨i, hi, rfl⟩ := List.getElem_of_mem hp
              exact hall i hi hi hl
          go_wp2
          go_ret
          exact ⟨by rw [HE.out]; rfl, hb⟩

theorem rise_not {ps : List Pr} (i : Nat) (hi : i + 1 < ps.length) (h : ¬ nm ps[i] < nm ps[i + 1]) : ¬ Rise ps := fun hr => h (rise_next hr i hi)

set_option maxHeartbeats 1000000 in
theorem rise_any (a : Option Addr) (c : Nat) (ps : List Pr) (w : World) (h : PairsAt w a ps) (hn : ps.length ≤ 140737488355328) :
    Calls Tryd.prog 43 #[.slice a ps.length c] w fun e w' => e = .returned (.bool (decide (Rise ps))) ∧ Below w.heap.size w w' := by
  go_enter Tryd.func43, Tryd.ntmps43
  go_wp2
  go_loopw [3] (fun i wr => ∃ k : Nat, 1 ≤ k ∧ (k ≤ ps.length ∨ k = 1) ∧ i = .int .i64 k ∧ Below w.heap.size w wr ∧ ∀ j, j + 1 < k → ∀ hj : j + 1 < ps.length, nm ps[j] < nm ps[j + 1]) (fun i _ => ps.length - (intOf i).toNat)
  case atStart => exact ⟨1, Nat.le_refl _, .inr rfl, rfl, Below.refl _ _, fun j hj => absurd hj (by omega)⟩
  case round =>
    obtain ⟨k, hk1, hk, rfl, hb, hall⟩ := hrel
    by_cases hlt : k < ps.length
    · have hkl : (k : Int) < (ps.length : Int) := by omega
      obtain ⟨b, o, rfl, hc⟩ := h (by omega)
      obtain ⟨hc1, -⟩ := hc (k - 1) (by omega)
      obtain ⟨hc2, -⟩ := hc k (by omega)
      rw [← hb.cell (p := ⟨b, o + (k - 1) * 2, none⟩) (World.block_lt_of_cell? w _ hc1)] at hc1
      rw [← hb.cell (p := ⟨b, o + k * 2, none⟩) (World.block_lt_of_cell? w _ hc2)] at hc2
      have hlt' : k - 1 < ps.length := by omega
      have hL := less_eq ps[k - 1].1.toList ps[k].1.toList
      have hw : IntKind.i64.wrap ((k : Int) - 1) = ((k - 1 : Nat) : Int) := by rw [IntKind.wrap_i64]; omega
      clear h hc
      by_cases hR : nm ps[k - 1] < nm ps[k]
      · rw [decide_eq_true hR] at hL
        have HR : ∀ j, j + 1 < k + 1 → ∀ hj : j + 1 < ps.length, nm ps[j] < nm ps[j + 1] := fun i hi hj => by
          by_cases h : i + 1 < k
          · exact hall i h hj
          · obtain rfl : k = i + 1 := by omega
            simpa using hR
        clear hall
        go_wp2
        go_quiet (fail)
        go_wp2
        go_roundw
        case rel => exact ⟨k + 1, by omega, .inl (by omega), by go_num, below_drewN hb _, HR⟩
        case measure => simp [intOf]; omega
      · rw [decide_eq_false hR] at hL
        have HN := Lib.hid (decide_eq_false (rise_not (ps := ps) (k - 1) (by rw [Nat.sub_add_cancel hk1]; exact hlt) (by simpa only [Nat.sub_add_cancel hk1] using hR)))
        go_wp2
        go_quiet (fail)
        go_wp2
        go_ret
        exact ⟨by rw [HN.out]; rfl, below_drewN hb _⟩
    · have hkl : ¬ (k : Int) < (ps.length : Int) := by omega
      have HN := Lib.hid (decide_eq_true (rise_of_next ps fun i hi => hall i (by omega) hi))
      go_wp2
      go_ret
      exact ⟨by rw [HN.out]; rfl, hb⟩

theorem partsE_zero {ps : List Pr} (h : partsE ps = 0) : ps.length ≤ 8 := by
  unfold partsE at h
  split at h
  · omega
  · omega

set_option maxHeartbeats 1000000 in
theorem Check_any (a : Option Addr) (c : Nat) (ps : List Pr) (w : World) (h : PairsAt w a ps) :
    Calls Tryd.prog 32 #[.slice a ps.length c] w fun e w' => e = .returned (.int .i64 (checkE ps)) ∧ Below w.heap.size w w' := by
  unfold checkE
  have HC := Lib.hid (checkParts_any a c ps w h)
  generalize hE : partsE ps = E at HC ⊢
  have HE := Lib.hid hE
  clear hE
  by_cases h0 : E = 0
  · subst h0
    have hn := partsE_zero HE.out
    rw [if_neg (by simp)]
    by_cases hR : Rise ps
    · rw [if_pos hR]
      have hR' := decide_eq_true hR
      go_enter Tryd.func32, Tryd.ntmps32
      go_wp2_with (go_at_call 42; refine HC.out.mono ?_; rintro e w1 ⟨rfl, hb1⟩; refine Hid.out ?_)
      refine Lib.hid ?_
      have hp1 := h.below hb1 (Nat.le_refl _)
      have hs1 := hb1.size
      go_wp2_with (go_at_call 43; refine (rise_any a c ps _ hp1 (by omega)).mono ?_; rintro e w2 ⟨rfl, hb2⟩; refine Hid.out ?_)
      refine Lib.hid ?_
      go_wp2
      go_ret
      exact ⟨rfl, hb1.trans (hb2.mono hs1)⟩
    · rw [if_neg hR]
      have hR' := decide_eq_false hR
      go_enter Tryd.func32, Tryd.ntmps32
      go_wp2_with (go_at_call 42; refine HC.out.mono ?_; rintro e w1 ⟨rfl, hb1⟩; refine Hid.out ?_)
      refine Lib.hid ?_
      have hp1 := h.below hb1 (Nat.le_refl _)
      have hs1 := hb1.size
      go_wp2_with (go_at_call 43; refine (rise_any a c ps _ hp1 (by omega)).mono ?_; rintro e w2 ⟨rfl, hb2⟩; refine Hid.out ?_)
      refine Lib.hid ?_
      go_wp2
      go_ret
      exact ⟨rfl, hb1.trans (hb2.mono hs1)⟩
  · rw [if_pos h0]
    have h0' : (E != 0) = true := by simpa using h0
    go_enter Tryd.func32, Tryd.ntmps32
    go_wp2_with (go_at_call 42; refine HC.out.mono ?_; rintro e w1 ⟨rfl, hb1⟩; refine Hid.out ?_)
    refine Lib.hid ?_
    go_wp2
    go_ret
    exact ⟨rfl, hb1⟩

end Go.Proofs.YtdnpfmmkglgnjabDoor
