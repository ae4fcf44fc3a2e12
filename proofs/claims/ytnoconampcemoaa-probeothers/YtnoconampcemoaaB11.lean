/-
  What May and Above of the reference tell.
-/
import Derived.Test.YtnoconampcemoaaB10
namespace Go.Proofs.Ytnoconampcemoaa
open Go Go.RowKit

set_option maxRecDepth 20000 in
set_option maxHeartbeats 1000000 in
theorem brMay_any (m : Mem) (w : World) : Calls Try.prog 43 #[.agg #[.int .u16 m.n, .int .u8 m.s, .int .i64 m.i]] w fun e w' => e = .returned (.bool (mayM m)) ∧ Below w.heap.size w w' := by
  have HQ := Lib.hid ((Below.refl w.heap.size w).alloc (Nat.le_refl _) (.cells #[.int .u16 m.n, .int .u8 m.s, .int .i64 m.i] 43))
  obtain ⟨n, s, i⟩ := m
  unfold mayM
  dsimp only at HQ ⊢
  by_cases h0 : n < 64
  case neg =>
    go_enter Try.func43, Try.ntmps43
    go_wp2
    go_ret
    exact ⟨by first | (simp; done) | (simp; omega), HQ.out⟩
  by_cases h1 : s ≤ 2
  case neg =>
    go_enter Try.func43, Try.ntmps43
    go_wp2
    go_ret
    exact ⟨by first | (simp; done) | (simp; omega), HQ.out⟩
  by_cases h2 : 0 ≤ i
  case neg =>
    go_enter Try.func43, Try.ntmps43
    go_wp2
    go_ret
    exact ⟨by first | (simp; done) | (simp; omega), HQ.out⟩
  by_cases h3 : i ≤ 1073741824
  · go_enter Try.func43, Try.ntmps43
    go_wp2
    go_ret
    exact ⟨by first | (simp; done) | (simp; omega), HQ.out⟩
  · go_enter Try.func43, Try.ntmps43
    go_wp2
    go_ret
    exact ⟨by first | (simp; done) | (simp; omega), HQ.out⟩
set_option maxRecDepth 20000 in
set_option maxHeartbeats 1000000 in
theorem brAbove_any (x y : Mem) (w : World) : Calls Try.prog 44 #[.agg #[.int .u16 x.n, .int .u8 x.s, .int .i64 x.i], .agg #[.int .u16 y.n, .int .u8 y.s, .int .i64 y.i]] w fun e w' => e = .returned (.bool (aboveM x y)) ∧ Below w.heap.size w w' := by
  have HQ := Lib.hid (((Below.refl w.heap.size w).alloc (Nat.le_refl _) (.cells #[.int .u16 x.n, .int .u8 x.s, .int .i64 x.i] 43)).alloc (by simp) (.cells #[.int .u16 y.n, .int .u8 y.s, .int .i64 y.i] 43))
  obtain ⟨xn, xs, xi⟩ := x
  obtain ⟨yn, ys, yi⟩ := y
  unfold aboveM
  dsimp only at HQ ⊢
  by_cases h0 : yi < xi
  · go_enter Try.func44, Try.ntmps44
    go_wp2
    go_ret
    exact ⟨by first | (simp; done) | (simp; omega), HQ.out⟩
  by_cases h1 : xi = yi
  · subst h1
    go_enter Try.func44, Try.ntmps44
    go_wp2
    go_ret
    exact ⟨by first | (simp; done) | (simp; omega), HQ.out⟩
  · have h2 : (xi == yi) = false := by simpa using h1
    clear h1
    go_enter Try.func44, Try.ntmps44
    go_wp2
    go_ret
    exact ⟨by first | (simp; done) | (simp; omega), HQ.out⟩

end Go.Proofs.Ytnoconampcemoaa
