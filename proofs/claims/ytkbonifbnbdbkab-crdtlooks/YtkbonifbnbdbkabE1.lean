/-
  What the small calls of package entry do: numbers and texts compared, the first that differs.
-/
import Derived.Test.YtkbonifbnbdbkabRows
import Derived.Test.YtkbonifbnbdbkabLShelf
import Derived.Lib.Hide
import Derived.WalkKit
import Derived.WalkSpells
import Derived.WalkLawsBesides
import Derived.Lib.Slices
import Derived.Lib.AppendStr
import Derived.OwnWalk
import Derived.BigCall
namespace Go.Proofs.Ytkbonifbnbdbkab
open Go.RowKit

theorem cellE {w : World} {b j : Nat} {cs : Array Value} {t : TypeId} {fr : Nat × Nat} (h : w.heap[b]? = some (.cells cs t fr)) : w.cell? ⟨b, j, none⟩ = cs[j]? := by simp [World.cell?, h]
theorem newE (w : World) (o : Obj) : (w.alloc o).heap[w.heap.size]? = some o := by
  show (w.heap.push o)[w.heap.size]? = some o
  exact Array.getElem?_push_size
theorem ltE {w : World} {b : Nat} {o : Obj} (h : w.heap[b]? = some o) : b < w.heap.size := (Array.getElem?_eq_some_iff.1 h).1

/-- Numbers compared. -/
def cmpIE (x y : Int) : Int := if x < y then -1 else if y < x then 1 else 0

set_option maxHeartbeats 400000 in
theorem isNaNE_any (x : Int) (w : World) : Calls Try.prog 44 #[.int .i64 x] w fun e w' => e = .returned (.bool false) ∧ w' = w := by
  go_enter Try.func44, Try.ntmps44
  go_wp2
  go_ret
  exact ⟨by simp, rfl⟩
set_option maxHeartbeats 400000 in
theorem isNaNUE_any (x : Int) (w : World) : Calls Try.prog 45 #[.int .u16 x] w fun e w' => e = .returned (.bool false) ∧ w' = w := by
  go_enter Try.func45, Try.ntmps45
  go_wp2
  go_ret
  exact ⟨by simp, rfl⟩
set_option maxHeartbeats 1000000 in
set_option maxRecDepth 20000 in
theorem cmpIntE_any (x y : Int) (w : World) : Calls Try.prog 39 #[.int .i64 x, .int .i64 y] w fun e w' => e = .returned (.int .i64 (cmpIE x y)) ∧ w' = w := by
  have H1 := Lib.hid (isNaNE_any x w)
  have H2 := Lib.hid (isNaNE_any y w)
  by_cases h1 : x < y
  · have HE : Hid (cmpIE x y = -1) := Lib.hid (by unfold cmpIE; rw [if_pos h1])
    go_enter Try.func39, Try.ntmps39
    go_wp2_with (first | (go_at_call 44; refine H1.out.mono ?_; rintro e w1 ⟨rfl, rfl⟩) | (go_at_call 44; refine H2.out.mono ?_; rintro e w1 ⟨rfl, rfl⟩))
    go_ret
    exact ⟨by rw [HE.out]; rfl, rfl⟩
  · by_cases h2 : y < x
    · have HE : Hid (cmpIE x y = 1) := Lib.hid (by unfold cmpIE; rw [if_neg h1, if_pos h2])
      go_enter Try.func39, Try.ntmps39
      go_wp2_with (first | (go_at_call 44; refine H1.out.mono ?_; rintro e w1 ⟨rfl, rfl⟩) | (go_at_call 44; refine H2.out.mono ?_; rintro e w1 ⟨rfl, rfl⟩))
      go_ret
      exact ⟨by rw [HE.out]; rfl, rfl⟩
    · have HE : Hid (cmpIE x y = 0) := Lib.hid (by unfold cmpIE; rw [if_neg h1, if_neg h2])
      go_enter Try.func39, Try.ntmps39
      go_wp2_with (first | (go_at_call 44; refine H1.out.mono ?_; rintro e w1 ⟨rfl, rfl⟩) | (go_at_call 44; refine H2.out.mono ?_; rintro e w1 ⟨rfl, rfl⟩))
      go_ret
      exact ⟨by rw [HE.out]; rfl, rfl⟩
set_option maxHeartbeats 1000000 in
set_option maxRecDepth 20000 in
theorem cmpUE_any (x y : Int) (w : World) : Calls Try.prog 40 #[.int .u16 x, .int .u16 y] w fun e w' => e = .returned (.int .i64 (cmpIE x y)) ∧ w' = w := by
  have H1 := Lib.hid (isNaNUE_any x w)
  have H2 := Lib.hid (isNaNUE_any y w)
  by_cases h1 : x < y
  · have HE : Hid (cmpIE x y = -1) := Lib.hid (by unfold cmpIE; rw [if_pos h1])
    go_enter Try.func40, Try.ntmps40
    go_wp2_with (first | (go_at_call 45; refine H1.out.mono ?_; rintro e w1 ⟨rfl, rfl⟩) | (go_at_call 45; refine H2.out.mono ?_; rintro e w1 ⟨rfl, rfl⟩))
    go_ret
    exact ⟨by rw [HE.out]; rfl, rfl⟩
  · by_cases h2 : y < x
    · have HE : Hid (cmpIE x y = 1) := Lib.hid (by unfold cmpIE; rw [if_neg h1, if_pos h2])
      go_enter Try.func40, Try.ntmps40
      go_wp2_with (first | (go_at_call 45; refine H1.out.mono ?_; rintro e w1 ⟨rfl, rfl⟩) | (go_at_call 45; refine H2.out.mono ?_; rintro e w1 ⟨rfl, rfl⟩))
      go_ret
      exact ⟨by rw [HE.out]; rfl, rfl⟩
    · have HE : Hid (cmpIE x y = 0) := Lib.hid (by unfold cmpIE; rw [if_neg h1, if_neg h2])
      go_enter Try.func40, Try.ntmps40
      go_wp2_with (first | (go_at_call 45; refine H1.out.mono ?_; rintro e w1 ⟨rfl, rfl⟩) | (go_at_call 45; refine H2.out.mono ?_; rintro e w1 ⟨rfl, rfl⟩))
      go_ret
      exact ⟨by rw [HE.out]; rfl, rfl⟩

/-- Whether the first number that is not 0 is above 0. -/
def firstP : List Int → Bool
  | [] => false
  | x :: l => if x = 0 then firstP l else decide (0 < x)

set_option maxHeartbeats 2000000 in
theorem eFirst_any (g : Nat) (l : List Int) (w : World) (hc : ∀ i (hi : i < l.length), w.cell? ⟨g, i, none⟩ = some (.int .i64 l[i])) (hn : l.length ≤ 1000) (n : Nat) (hnl : n = l.length) : Calls Try.prog 38 #[.slice (some ⟨g, 0, none⟩) n n] w fun e w' => e = .returned (.bool (firstP l)) ∧ w' = w := by
  have HC := Lib.hid hc
  have HN := Lib.hid hnl
  have hn1 : n ≤ 1000 := by omega
  clear hc hn hnl
  go_enter Try.func38, Try.ntmps38
  go_wp2
  go_loop [7] (fun i => ∃ k : Nat, k ≤ n ∧ i = .int .i64 k ∧ Hid (firstP l = firstP (l.drop k))) (fun i => n - (intOf i).toNat)
  case atStart => exact ⟨0, by omega, rfl, Lib.hid rfl⟩
  case round =>
    obtain ⟨k, hk, rfl, HK⟩ := hrel
    by_cases hlt : k < n
    · have hk1 : (k : Int) < (n : Int) := by omega
      have hl : k < l.length := by have := HN.out; omega
      have hx := HC.out k hl
      have ed : l.drop k = l[k] :: l.drop (k + 1) := List.drop_eq_getElem_cons hl
      by_cases h0 : l[k] = 0
      · have HK2 : Hid (firstP l = firstP (l.drop (k + 1))) := Lib.hid (by rw [HK.out, ed, firstP, if_pos h0])
        rw [h0] at hx
        clear ed h0 hl
        go_wp2
        go_round
        case rel => exact ⟨k + 1, by omega, by go_num, HK2⟩
        case measure => simp [intOf]; omega
      · have HK2 : Hid (firstP l = decide (0 < l[k])) := Lib.hid (by rw [HK.out, ed, firstP, if_neg h0])
        have hb : (l[k] != 0) = true := by simpa using h0
        generalize l[k] = x at *
        clear ed hl
        go_wp2
        go_ret
        exact ⟨by rw [HK2.out]; rfl, rfl⟩
    · have hk1 : ¬ (k : Int) < (n : Int) := by omega
      have HK2 : Hid (firstP l = false) := Lib.hid (by rw [HK.out, List.drop_of_length_le (by have := HN.out; omega)]; rfl)
      go_wp2
      go_ret
      exact ⟨by rw [HK2.out]; rfl, rfl⟩

end Go.Proofs.Ytkbonifbnbdbkab
