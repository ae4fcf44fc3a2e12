/-
  What Text of package match tells; whether labels are light; the closed case of every statement of layer 4. The closed case of every statement of layer 4: it answers true, whatever else lies in memory.
-/
import Derived.Test.YtfllfmdopfeecabGreatDoorM2
namespace Go.Proofs.YtfllfmdopfeecabGreatDoor
open Go.RowKit

/-- What stands between a matcher's name and its value. -/
def signL (o : Nat) : ByteArray := if o = 0 then ⟨#[61]⟩ else if o = 1 then ⟨#[33, 61]⟩ else if o = 2 then ⟨#[61, 126]⟩ else if o = 3 then ⟨#[33, 126]⟩ else ⟨#[]⟩
def textM (m : Mt) : ByteArray := m.1 ++ signL m.2.1 ++ m.2.2

/-- Labels are few and their values short. -/
abbrev LightP (m : Nat) (ps : List Pr) : Prop := m ≤ 40 ∧ ps.length ≤ 40 ∧ ∀ p ∈ ps, p.2.size ≤ 200

set_option maxHeartbeats 1000000 in
theorem nLight_any (b a : Option Addr) (m d c : Nat) (ps : List Pr) (w : World) (h : PairsAt w a ps) (hm : m ≤ 9223372036854775807) (hn : ps.length ≤ 9223372036854775807) :
    Calls Tryz.prog 13 #[.slice b m d, .slice a ps.length c] w fun e w' => e = .returned (.bool (decide (LightP m ps))) ∧ Below w.heap.size w w' := by
  by_cases h1 : m ≤ 40
  · have h1' : ¬ (40 : Int) < (m : Int) := by omega
    by_cases h2 : ps.length ≤ 40
    · have h2' : ¬ (40 : Int) < (ps.length : Int) := by omega
      go_enter Tryz.func13, Tryz.ntmps13
      go_wp2
      go_loopw [5] (fun i wr => ∃ k : Nat, k ≤ ps.length ∧ i = .int .i64 k ∧ Below w.heap.size w wr ∧ ∀ j, j < k → ∀ hj : j < ps.length, ps[j].2.size ≤ 200) (fun i _ => ps.length - (intOf i).toNat)
      case atStart => exact ⟨0, Nat.zero_le _, rfl, Below.refl _ _, fun j hj => absurd hj (Nat.not_lt_zero _)⟩
      case round =>
        obtain ⟨k, hk, rfl, hb, hall⟩ := hrel
        by_cases hlt : k < ps.length
        · have hkl : (k : Int) < (ps.length : Int) := by omega
          obtain ⟨b, o, rfl, hc⟩ := h (by omega)
          obtain ⟨hc1, hc2⟩ := hc k hlt
          rw [← hb.cell (p := ⟨b, o + k * 2 + 1, none⟩) (World.block_lt_of_cell? w _ hc2)] at hc2
          clear hc h hc1
          by_cases h3 : ps[k].2.size ≤ 200
          · have h3' : ¬ (200 : Int) < (ps[k].2.size : Int) := by omega
            have HA := Lib.hid (upto_succ hall fun _ => h3)
            clear hall h3
            go_wp2
            go_roundw
            case rel => exact ⟨k + 1, by omega, by go_num, hb, HA.out⟩
            case measure => simp [intOf]; omega
          · have h3' : (200 : Int) < (ps[k].2.size : Int) := by omega
            have HF : Hid (decide (LightP m ps) = false) := Lib.hid (decide_eq_false fun hL => h3 (hL.2.2 _ (List.getElem_mem hlt)))
            clear hall h3
            go_wp2
            go_ret
            exact ⟨by first | (rw [HF.out]; rfl) | rfl, hb⟩
        · obtain rfl : k = ps.length := by omega
          have HF : Hid (decide (LightP m ps) = true) := Lib.hid (decide_eq_true ⟨h1, h2, fun p hp => by
            obtain ⟨i, hi, rfl⟩ := List.getElem_of_mem hp
            exact hall i hi hi⟩)
          clear hall
          go_wp2
          go_ret
          exact ⟨by first | (rw [HF.out]; rfl) | rfl, hb⟩
    · have h2' : (40 : Int) < (ps.length : Int) := by omega
      have HF : Hid (decide (LightP m ps) = false) := Lib.hid (decide_eq_false fun hL => h2 hL.2.1)
      go_enter Tryz.func13, Tryz.ntmps13
      go_wp2
      go_ret
      exact ⟨by first | (rw [HF.out]; rfl) | rfl, Below.refl _ _⟩
  · have h1' : (40 : Int) < (m : Int) := by omega
    have HF : Hid (decide (LightP m ps) = false) := Lib.hid (decide_eq_false fun hL => h1 hL.1)
    go_enter Tryz.func13, Tryz.ntmps13
    go_wp2
    go_ret
    exact ⟨by first | (rw [HF.out]; rfl) | rfl, Below.refl _ _⟩


def awkA : Lang := altL (altL noL (catL epsL (setL (addB noneB 49 49)))) (catL epsL (setL (addB noneB 50 50)))
theorem ak1 : pParse [49, 124, 50] = some awkA := by rfl
theorem ak1_yes : awkA [49] := .inl (.inr ⟨[], [49], rfl, rfl, 49, rfl, by decide⟩)
def awkB : Lang := altL noL (catL epsL (setL (notB noneB)))
theorem ak2 : pParse [46] = some awkB := by rfl
theorem ak2_yes : awkB [49] := .inr ⟨[], [49], rfl, rfl, 49, rfl, by decide⟩
theorem ak3 : errE [40] = 9 := by rfl
def psA : List Pr := [(⟨#[97]⟩, ⟨#[49]⟩)]
theorem gv1 : getV psA (ByteArray.mk #[97]).toList = ⟨#[49]⟩ := by unfold getV psA nm; simp [ByteArray.toList_eq]
theorem gv2 : getV psA (ByteArray.mk #[98]).toList = ⟨#[]⟩ := by unfold getV psA nm; simp [ByteArray.toList_eq]
theorem nameA : NameOk ⟨#[97]⟩ := by decide
theorem nameB : NameOk ⟨#[98]⟩ := by decide
theorem mk1 : mAsk psA (⟨#[97]⟩, 2, ⟨#[49, 124, 50]⟩) := by
  refine ⟨?_, .inr (.inr (.inl ⟨rfl, awkA, ak1, ?_⟩))⟩
  · unfold mErr
    rw [if_neg (Classical.not_not.2 nameA)]
    exact errE_of (by decide) ak1
  · simp only [gv1]
    exact ak1_yes
theorem mk2 : mAsk psA (⟨#[98]⟩, 1, ⟨#[49]⟩) := by
  refine ⟨?_, .inr (.inl ⟨rfl, ?_⟩)⟩
  · unfold mErr
    rw [if_neg (Classical.not_not.2 nameB)]
    rfl
  · rw [gv2, ByteArray.toList_eq, ByteArray.toList_eq]
    decide
theorem mk3 : ¬ mAsk psA (⟨#[97]⟩, 3, ⟨#[46]⟩) := by
  rintro ⟨-, ⟨h, -⟩ | ⟨h, -⟩ | ⟨h, -⟩ | ⟨-, h⟩⟩
  · cases h
  · cases h
  · cases h
  · simp only [gv1] at h
    exact h ⟨awkB, ak2, ak2_yes⟩
theorem mk4 : mErr (⟨#[97]⟩, 2, ⟨#[40]⟩) = 9 := by
  unfold mErr
  rw [if_neg (Classical.not_not.2 nameA)]
  exact ak3

theorem mk5 : textM (⟨#[97]⟩, 3, ⟨#[120]⟩) = ⟨#[97, 33, 126, 120]⟩ := by rfl
theorem tells_yes {A : Prop} {e : Ending} (h : Tells A e) (hA : A) : e = .returned (.bool true) := by
  obtain ⟨b, h1, h2⟩ := h
  rw [h1, h2.2 hA]
theorem tells_no {A : Prop} {e : Ending} (h : Tells A e) (hA : ¬ A) : e = .returned (.bool false) := by
  obtain ⟨b, h1, h2⟩ := h
  rw [h1, Bool.eq_false_iff.2 fun k => hA (h2.1 k)]

end Go.Proofs.YtfllfmdopfeecabGreatDoor
