/-
  What Check and One of package match do, at whatever matcher and labels.
-/
import Derived.Test.YtbkejafjlapmnaaDoorMPlain
namespace Go.Proofs.YtbkejafjlapmnaaDoor
open Go.RowKit

/-- A matcher as a value. -/
def encM (m : Mt) : List Value := [.string m.1, .int .u8 (m.2.1 : Int), .string m.2.2]

set_option maxHeartbeats 1000000 in
theorem mCheck_any (n : ByteArray) (o : Nat) (v : ByteArray) (w : World) (htab : TabW w) :
    Calls Tryd.prog 15 #[.agg #[.string n, .int .u8 (o : Int), .string v]] w fun e w' => e = .returned (.int .i64 (mErr (n, o, v))) ∧ Below w.heap.size w w' := by
  have HN := Lib.hid (fun u => Name_any n u)
  have htl := htab.lt
  unfold mErr
  by_cases h1 : NameOk n
  · rw [decide_eq_true h1] at HN
    rw [if_neg (Classical.not_not.2 h1)]
    clear h1
    by_cases h2 : 3 < o
    · rw [if_pos h2]
      have h2' : (3 : Int) < (o : Int) := by omega
      clear h2
      go_enter Tryd.func15, Tryd.ntmps15
      go_wp2_with (go_at_call 36; refine (HN.out _).mono ?_; rintro e w1 ⟨rfl, rfl⟩)
      go_ret
      exact ⟨rfl, (Below.refl _ _).alloc (Nat.le_refl _) _⟩
    · rw [if_neg h2]
      have h2' : ¬ (3 : Int) < (o : Int) := by omega
      by_cases h3 : 64 < v.size
      · rw [if_pos h3]
        have h3' : (64 : Int) < (v.size : Int) := by omega
        clear h2 h3
        go_enter Tryd.func15, Tryd.ntmps15
        go_wp2_with (go_at_call 36; refine (HN.out _).mono ?_; rintro e w1 ⟨rfl, rfl⟩)
        go_ret
        exact ⟨rfl, (Below.refl _ _).alloc (Nat.le_refl _) _⟩
      · rw [if_neg h3]
        have h3' : ¬ (64 : Int) < (v.size : Int) := by omega
        by_cases h4 : 2 ≤ o
        · rw [if_pos h4]
          have hT := Lib.hid (fun (o : Obj) => htab.on ((Below.refl w.heap.size w).alloc (Nat.le_refl _) o) htl)
          by_cases h5 : errE v.data.toList = 0
          · rw [h5]
            obtain ⟨h6, A, hA⟩ := errE_zero h5
            have HC := Lib.hid (fun u (hu : TabW u) => comp_good v u (by omega) hu A hA)
            clear h5 hA
            rcases (by omega : o = 2 ∨ o = 3) with rfl | rfl
            all_goals
              clear h4 h3 h2
              go_enter Tryd.func15, Tryd.ntmps15
              go_wp2_with (first | (go_at_call 36; refine (HN.out _).mono ?_; rintro e w1 ⟨rfl, rfl⟩) | (go_at_call 37; refine (HC.out _ (hT.out _)).mono ?_; rintro e w1 ⟨xb, rfl, hp, hb1⟩))
              go_ret
              exact ⟨rfl, ((Below.refl _ _).alloc (Nat.le_refl _) _).trans (hb1.mono (by simp))⟩
          · have HC := Lib.hid (fun u (hu : TabW u) => comp_err v u hu h5)
            generalize errE v.data.toList = E at *
            clear h5
            rcases (by omega : o = 2 ∨ o = 3) with rfl | rfl
            all_goals
              clear h4 h3 h2
              go_enter Tryd.func15, Tryd.ntmps15
              go_wp2_with (first | (go_at_call 36; refine (HN.out _).mono ?_; rintro e w1 ⟨rfl, rfl⟩) | (go_at_call 37; refine (HC.out _ (hT.out _)).mono ?_; rintro e w1 ⟨rfl, hb1⟩))
              go_ret
              exact ⟨rfl, ((Below.refl _ _).alloc (Nat.le_refl _) _).trans (hb1.mono (by simp))⟩
        · rw [if_neg h4]
          rcases (by omega : o = 0 ∨ o = 1) with rfl | rfl
          all_goals
            clear h4 h3 h2
            go_enter Tryd.func15, Tryd.ntmps15
            go_wp2_with (go_at_call 36; refine (HN.out _).mono ?_; rintro e w1 ⟨rfl, rfl⟩)
            go_ret
            exact ⟨rfl, (Below.refl _ _).alloc (Nat.le_refl _) _⟩
  · rw [decide_eq_false h1] at HN
    rw [if_pos h1]
    clear h1
    go_enter Tryd.func15, Tryd.ntmps15
    go_wp2_with (go_at_call 36; refine (HN.out _).mono ?_; rintro e w1 ⟨rfl, rfl⟩)
    go_ret
    exact ⟨rfl, (Below.refl _ _).alloc (Nat.le_refl _) _⟩

end Go.Proofs.YtbkejafjlapmnaaDoor
