/-
  What Text of package match tells; whether labels are light; the closed case of every statement of layer 4.
-/
import Derived.Test.YtbkejafjlapmnaaDoorM2
namespace Go.Proofs.YtbkejafjlapmnaaDoor
open Go.RowKit

/-- What stands between a matcher's name and its value. -/
def signL (o : Nat) : ByteArray := if o = 0 then ⟨#[61]⟩ else if o = 1 then ⟨#[33, 61]⟩ else if o = 2 then ⟨#[61, 126]⟩ else if o = 3 then ⟨#[33, 126]⟩ else ⟨#[]⟩
def textM (m : Mt) : ByteArray := m.1 ++ signL m.2.1 ++ m.2.2

set_option maxHeartbeats 1000000 in
theorem msign_any (o : Nat) (w : World) : Calls Tryd.prog 33 #[.int .u8 (o : Int)] w fun e w' => e = .returned (.string (signL o)) ∧ w' = w := by
  by_cases h : o < 4
  · rcases (by omega : o = 0 ∨ o = 1 ∨ o = 2 ∨ o = 3) with rfl | rfl | rfl | rfl
    all_goals
      clear h
      go_enter Tryd.func33, Tryd.ntmps33
      go_wp2
      go_ret
      exact ⟨rfl, rfl⟩
  · have HS : Hid (signL o = ⟨#[]⟩) := Lib.hid (by unfold signL; rw [if_neg (by omega), if_neg (by omega), if_neg (by omega), if_neg (by omega)])
    have h0 : ((o : Int) == 0) = false := by rw [beq_eq_false_iff_ne]; omega
    have h1 : ((o : Int) == 1) = false := by rw [beq_eq_false_iff_ne]; omega
    have h2 : ((o : Int) == 2) = false := by rw [beq_eq_false_iff_ne]; omega
    have h3 : ((o : Int) == 3) = false := by rw [beq_eq_false_iff_ne]; omega
    go_enter Tryd.func33, Tryd.ntmps33
    go_wp2
    go_ret
    exact ⟨by rw [HS.out]; rfl, rfl⟩

set_option maxHeartbeats 1000000 in
theorem mText_any (n : ByteArray) (o : Nat) (v : ByteArray) (w : World) (hsz : n.size + v.size + 2 ≤ 9223372036854775807) :
    Calls Tryd.prog 12 #[.agg #[.string n, .int .u8 (o : Int), .string v]] w fun e w' => e = .returned (.string (textM (n, o, v))) ∧ Below w.heap.size w w' := by
  have HS := Lib.hid (fun u => msign_any o u)
  have hl : (signL o).size ≤ 2 := by unfold signL; split <;> (try split) <;> (try split) <;> (try split) <;> decide
  unfold textM
  simp only
  generalize signL o = g at *
  go_enter Tryd.func12, Tryd.ntmps12
  go_wp2_with fail
  go_quiet ((go_at_call 33; exact Calls.quiet_of_same (HS.out _)))
  go_wp2
  go_ret
  exact ⟨rfl, below_drewN ((Below.refl _ _).alloc (Nat.le_refl _) _) _⟩

/-- Labels are few and their values short. -/
abbrev LightP (m : Nat) (ps : List Pr) : Prop := m ≤ 40 ∧ ps.length ≤ 40 ∧ ∀ p ∈ ps, p.2.size ≤ 200

set_option maxHeartbeats 1000000 in
theorem nLight_any (b a : Option Addr) (m d c : Nat) (ps : List Pr) (w : World) (h : PairsAt w a ps) (hm : m ≤ 9223372036854775807) (hn : ps.length ≤ 9223372036854775807) :
    Calls Tryd.prog 14 #[.slice b m d, .slice a ps.length c] w fun e w' => e = .returned (.bool (decide (LightP m ps))) ∧ Below w.heap.size w w' := by
  by_cases h1 : m ≤ 40
  · have h1' : ¬ (40 : Int) < (m : Int) := by omega
    by_cases h2 : ps.length ≤ 40
    · have h2' : ¬ (40 : Int) < (ps.length : Int) := by omega
      go_enter Tryd.func14, Tryd.ntmps14
      go_wp2
      go_loopw [5] (fun i wr => ∃ k : Nat, k ≤ ps.length ∧ i = .int .i64 k ∧ Below w.heap.size w wr ∧ ∀ j, j < k → ∀ hj : j < ps.length, ps[j].2.size ≤ 200) (fun i _ => ps.length - (intOf i).toNat)
      case atStart => exact ⟨0, Nat.zero_le _, rfl, Below.refl _ _, fun j hj => absurd hj (Nat.not_lt_zero _)⟩
      case round =>
        obtain ⟨k, hk, rfl, hb, hall⟩ := hrel
        by_cases hlt : k < ps.length
        · have hkl : (k : Int) < (ps.length : Int) := by omega
          obtain ⟨b, o, rfl, hc⟩ := h (by omega)
          obtain ⟨hc1, hc2⟩ := hc k hlt
          rw [← hb.cell (p := ⟨b, o + k * 2 + 1, none⟩) (World.block_lt_of_cell? w _ hc2)] at hc2
          clear hc h hc1
          by_cases h3 : ps[k].2.size ≤ 200
          · have h3' : ¬ (200 : Int) < (ps[k].2.size : Int) := by omega
            have HA := Lib.hid (upto_succ hall fun _ => h3)
            clear hall h3
            go_wp2
            go_roundw
            case rel => exact ⟨k + 1, by omega, by go_num, hb, HA.out⟩
            case measure => simp [intOf]; omega
          · have h3' : (200 : Int) < (ps[k].2.size : Int) := by omega
            have HF : Hid (decide (LightP m ps) = false) := Lib.hid (decide_eq_false fun hL => h3 (hL.2.2 _ (List.getElem_mem hlt)))
            clear hall h3
            go_wp2
            go_ret
            exact ⟨by first | (rw [HF.out]; rfl) | rfl, hb⟩
        · obtain rfl : k = ps.length := by omega
          have HF : Hid (decide (LightP m ps) = true) := Lib.hid (decide_eq_true ⟨h1, h2, fun p hp => by
            obtain ⟨i, hi, rfl⟩ := List.getElem_of_mem hp
            exact hall i hi hi⟩)
          clear hall
          go_wp2
          go_ret
          exact ⟨by first | (rw [HF.out]; rfl) | rfl, hb⟩
    · have h2' : (40 : Int) < (ps.length : Int) := by omega
      have HF : Hid (decide (LightP m ps) = false) := Lib.hid (decide_eq_false fun hL => h2 hL.2.1)
      go_enter Tryd.func14, Tryd.ntmps14
      go_wp2
      go_ret
      exact ⟨by first | (rw [HF.out]; rfl) | rfl, Below.refl _ _⟩
  · have h1' : (40 : Int) < (m : Int) := by omega
    have HF : Hid (decide (LightP m ps) = false) := Lib.hid (decide_eq_false fun hL => h1 hL.1)
    go_enter Tryd.func14, Tryd.ntmps14
    go_wp2
    go_ret
    exact ⟨by first | (rw [HF.out]; rfl) | rfl, Below.refl _ _⟩

end Go.Proofs.YtbkejafjlapmnaaDoor
