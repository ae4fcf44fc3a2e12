/-
  Pairs in memory; what checkParts, rise and Check do.
-/
import Derived.Test.YtfllfmdopfeecabGreatDoorLab1
import Derived.Deep.QuietTactic
namespace Go.Proofs.YtfllfmdopfeecabGreatDoor
open Go.RowKit
theorem below_drewN {B : Nat} {a w : World} (h : Below B a w) (n : Nat) : Below B a (w.drewN n) := h.trans ⟨rfl, rfl, rfl, Nat.le_refl _, fun _ _ => rfl⟩

/-- Pairs lie at an address; where there are none, anywhere. -/
def PairsAt (w : World) (a : Option Addr) (ps : List Pr) : Prop :=
  0 < ps.length → ∃ b o, a = some ⟨b, o, none⟩ ∧ ∀ i (hi : i < ps.length), w.cell? ⟨b, o + i * 2, none⟩ = some (.string ps[i].1) ∧ w.cell? ⟨b, o + i * 2 + 1, none⟩ = some (.string ps[i].2)

theorem PairsAt.below {w w' : World} {a : Option Addr} {ps : List Pr} {B : Nat} (h : PairsAt w a ps) (hb : Below B w w') (hB : w.heap.size ≤ B) : PairsAt w' a ps := fun hn => by
  obtain ⟨b, o, rfl, hc⟩ := h hn
  refine ⟨b, o, rfl, fun i hi => ?_⟩
  obtain ⟨h1, h2⟩ := hc i hi
  exact ⟨by rw [hb.cell (Nat.lt_of_lt_of_le (World.block_lt_of_cell? w _ h1) hB)]; exact h1, by rw [hb.cell (Nat.lt_of_lt_of_le (World.block_lt_of_cell? w _ h2) hB)]; exact h2⟩

theorem str_empty (s : ByteArray) : s.toList.isEmpty = (s.size == 0) := by
  rw [ByteArray.toList_eq]
  obtain ⟨⟨l⟩⟩ := s
  cases l <;> simp [ByteArray.size]

theorem partsE_val (ps : List Pr) (h8 : ¬ 8 < ps.length) (hL : ∀ i (hi : i < ps.length), ¬ LongV ps[i]) : partsE ps = if ∃ p ∈ ps, BadP p then 6 else 0 := by
  unfold partsE
  rw [if_neg h8, if_neg]
  rintro ⟨p, hp, hl⟩
  obtain ⟨i, hi, rfl⟩ := List.getElem_of_mem hp
  exact hL i hi hl

theorem rise_not {ps : List Pr} (i : Nat) (hi : i + 1 < ps.length) (h : ¬ nm ps[i] < nm ps[i + 1]) : ¬ Rise ps := fun hr => h (rise_next hr i hi)

theorem partsE_zero {ps : List Pr} (h : partsE ps = 0) : ps.length ≤ 8 := by
  unfold partsE at h
  split at h
  · omega
  · omega

end Go.Proofs.YtfllfmdopfeecabGreatDoor
