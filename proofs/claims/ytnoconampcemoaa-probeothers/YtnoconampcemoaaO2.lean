/-
  New, Ack, Asked, Fork, Watch of package probe.
-/
import Derived.Test.YtnoconampcemoaaO1
namespace Go.Proofs.Ytnoconampcemoaa
open Go Go.RowKit

theorem pbisTime_any (now : Int) (w : World) : Calls Try.prog 33 #[.int .i64 now] w fun e w' => e = .returned (.bool (timeOk now)) ∧ w' = w := by
  unfold timeOk
  by_cases h0 : 0 ≤ now
  · by_cases h1 : now ≤ 1099511627776
    · go_enter Try.func33, Try.ntmps33
      go_wp2
      go_ret
      exact ⟨by first | (simp; done) | (simp; omega), rfl⟩
    · go_enter Try.func33, Try.ntmps33
      go_wp2
      go_ret
      exact ⟨by first | (simp; done) | (simp; omega), rfl⟩
  · go_enter Try.func33, Try.ntmps33
    go_wp2
    go_ret
    exact ⟨by first | (simp; done) | (simp; omega), rfl⟩
theorem pbmaySpan_any (x : Int) (w : World) : Calls Try.prog 41 #[.int .i64 x] w fun e w' => e = .returned (.bool (spanOk x)) ∧ w' = w := by
  unfold spanOk
  by_cases h0 : 1 ≤ x
  · by_cases h1 : x ≤ 1099511627776
    · go_enter Try.func41, Try.ntmps41
      go_wp2
      go_ret
      exact ⟨by first | (simp; done) | (simp; omega), rfl⟩
    · go_enter Try.func41, Try.ntmps41
      go_wp2
      go_ret
      exact ⟨by first | (simp; done) | (simp; omega), rfl⟩
  · go_enter Try.func41, Try.ntmps41
    go_wp2
    go_ret
    exact ⟨by first | (simp; done) | (simp; omega), rfl⟩
/-- What New answers. -/
def newE16 (s : Nat) (per tmo : Int) : Int := if 64 ≤ s then 2 else if spanOk per && spanOk tmo then 0 else 13
set_option maxRecDepth 20000 in
set_option maxHeartbeats 1000000 in
theorem pbNew_no (s : Nat) (per tmo : Int) (w : World) (c : Int) (hc : newE16 s per tmo = c) (h0 : c ≠ 0) : Calls Try.prog 21 #[.int .u16 (s : Int), .int .i64 per, .int .i64 tmo] w fun e w' => e = .returned (.tuple #[.pointer none, .int .i64 c]) ∧ w' = w := by
  unfold newE16 at hc
  have H1 := Lib.hid (pbmaySpan_any per w)
  have H2 := Lib.hid (pbmaySpan_any tmo w)
  by_cases hs : 64 ≤ s
  · rw [if_pos hs] at hc
    subst hc
    have hs2 : (64 : Int) ≤ (s : Int) := by omega
    go_enter Try.func21, Try.ntmps21
    go_wp2
    go_ret2
    exact ⟨rfl, rfl⟩
  · rw [if_neg hs] at hc
    have hs2 : ¬ (64 : Int) ≤ (s : Int) := by omega
    have he : (spanOk per && spanOk tmo) = false := by
      cases h : (spanOk per && spanOk tmo)
      · rfl
      · rw [h] at hc; exact absurd hc.symm h0
    rw [he] at hc
    obtain rfl : 13 = c := hc
    clear hs h0
    cases h1 : spanOk per with
    | false =>
      rw [h1] at H1
      clear he h1
      go_enter Try.func21, Try.ntmps21
      go_wp2_with (go_at_call 41; refine H1.out.mono ?_; rintro e w1 ⟨rfl, rfl⟩)
      go_ret2
      exact ⟨rfl, rfl⟩
    | true =>
      rw [h1, Bool.true_and] at he
      rw [h1] at H1
      rw [he] at H2
      clear he h1
      go_enter Try.func21, Try.ntmps21
      go_wp2_with (first | (go_at_call_of 41 per; refine H1.out.mono ?_; rintro e w1 ⟨rfl, rfl⟩) | (go_at_call_of 41 tmo; refine H2.out.mono ?_; rintro e w1 ⟨rfl, rfl⟩))
      go_ret2
      exact ⟨rfl, rfl⟩
set_option maxRecDepth 20000 in
set_option maxHeartbeats 1000000 in
theorem pbNew_ok (s : Nat) (per tmo : Int) (w : World) (hs : s < 64) (hp : spanOk per = true) (ht : spanOk tmo = true) : Calls Try.prog 21 #[.int .u16 (s : Int), .int .i64 per, .int .i64 tmo] w fun e w' =>
    e = .returned (.tuple #[.pointer (some ⟨w.heap.size, 0, none⟩), .int .i64 0]) ∧ PbBlk w' w.heap.size (newPb s per tmo) ∧ Below w.heap.size w w' := by
  have H1 := Lib.hid (pbmaySpan_any per w)
  have H2 := Lib.hid (pbmaySpan_any tmo w)
  rw [hp] at H1
  rw [ht] at H2
  have hs2 : ¬ (64 : Int) ≤ (s : Int) := by omega
  have kz := zero_pb
  have kn := pbC_size 0 0 0
  have hset := pbC_make s per tmo
  have HB : Hid (PbBlk (w.alloc (.cells (pbC s per tmo) 95)) w.heap.size (newPb s per tmo)) := Lib.hid ⟨_, newE w _, pbC_cells s per tmo⟩
  have HW := Lib.hid ((Below.refl w.heap.size w).alloc (Nat.le_refl _) (.cells (pbC s per tmo) 95))
  clear hs hp ht
  go_enter Try.func21, Try.ntmps21
  go_wp2_with (first | (go_at_call_of 41 per; refine H1.out.mono ?_; rintro e w1 ⟨rfl, rfl⟩) | (go_at_call_of 41 tmo; refine H2.out.mono ?_; rintro e w1 ⟨rfl, rfl⟩))
  go_ret2
  exact ⟨rfl, HB.out, HW.out⟩
theorem pbAck_nil (n s : Int) (w : World) : Calls Try.prog 18 #[.pointer none, .int .u16 n, .int .i64 s] w fun e w' => e = .returned (.bool false) ∧ w' = w := by
  go_enter Try.func18, Try.ntmps18
  go_wp2
  go_ret
  exact ⟨rfl, rfl⟩
set_option maxRecDepth 20000 in
set_option maxHeartbeats 1000000 in
theorem pbAck_any (b : Nat) (P : Pb) (n s : Int) (w : World) (hP : PbBlk w b P) : Calls Try.prog 18 #[.pointer (some ⟨b, 0, none⟩), .int .u16 n, .int .i64 s] w fun e w' =>
    e = .returned (.bool (ackB P n s)) ∧ PbBlk w' b (ackP P n s) ∧ w.grownBy w' (some b) := by
  obtain ⟨c0, c1, c2, c3, c4, c5, c6, c7, c8⟩ := hP.at
  have f6 := hP.f 6
  obtain ⟨r, hr⟩ : ∃ r, ackB P n s = r := ⟨_, rfl⟩
  have HP : Hid (r = false → PbBlk w b (ackP P n s)) := Lib.hid (fun h => by unfold ackP; rw [hr, if_neg (by simp [h])]; exact hP)
  have HQ : Hid (r = true → PbBlk (w.setCell ⟨b, 6, none⟩ (.bool false)) b (ackP P n s)) := Lib.hid (fun h => by unfold ackP; rw [hr, if_pos h]; exact hP.setOpen false)
  have HG := Lib.hid (grownBy_setCell w b 6 (.bool false))
  rw [hr]
  unfold ackB at hr
  generalize ackP P n s = P' at *
  clear hP
  cases h0 : P.qo with
  | false =>
    rw [h0] at hr c6
    obtain rfl : false = r := hr
    clear h0
    go_enter Try.func18, Try.ntmps18
    go_wp2
    go_ret
    exact ⟨rfl, HP.out (by trivial), grownBy_refl _ _⟩
  | true =>
    rw [h0, Bool.true_and] at hr
    rw [h0] at c6
    clear h0
    generalize (P.qn : Int) = q at *
    cases h1 : (q == n) with
    | false =>
      rw [h1] at hr
      obtain rfl : false = r := hr
      go_enter Try.func18, Try.ntmps18
      go_wp2
      go_ret
      exact ⟨rfl, HP.out (by trivial), grownBy_refl _ _⟩
    | true =>
      rw [h1, Bool.true_and] at hr
      obtain rfl := eq_of_beq h1
      clear h1
      generalize P.qs = z at *
      cases h2 : (z == s) with
      | false =>
        rw [h2] at hr
        obtain rfl : false = r := hr
        go_enter Try.func18, Try.ntmps18
        go_wp2
        go_ret
        exact ⟨rfl, HP.out (by trivial), grownBy_refl _ _⟩
      | true =>
        rw [h2] at hr
        obtain rfl : true = r := hr
        obtain rfl := eq_of_beq h2
        clear h2
        go_enter Try.func18, Try.ntmps18
        go_wp2
        go_ret
        exact ⟨rfl, HQ.out (by trivial), HG.out⟩
def askedR (P : Pb) : Int × Int × Bool := if P.qo = true then ((P.qn : Int), P.qs, true) else (0, 0, false)
theorem pbAsked_nil (w : World) : Calls Try.prog 17 #[.pointer none] w fun e w' => e = .returned (.tuple #[.int .u16 0, .int .i64 0, .bool false]) ∧ w' = w := by
  go_enter Try.func17, Try.ntmps17
  go_wp2
  exact bodyPost_ret (results_tmp3 rfl _ _ _) rfl ⟨rfl, rfl⟩
set_option maxRecDepth 20000 in
set_option maxHeartbeats 1000000 in
theorem pbAsked_any (b : Nat) (P : Pb) (w : World) (hP : PbBlk w b P) (q z : Int) (r : Bool) (hr : askedR P = (q, z, r)) : Calls Try.prog 17 #[.pointer (some ⟨b, 0, none⟩)] w fun e w' =>
    e = .returned (.tuple #[.int .u16 q, .int .i64 z, .bool r]) ∧ Below w.heap.size w w' := by
  obtain ⟨c0, c1, c2, c3, c4, c5, c6, c7, c8⟩ := hP.at
  unfold askedR at hr
  clear hP
  cases h0 : P.qo with
  | false =>
    rw [h0] at hr c6
    obtain ⟨rfl, rfl, rfl⟩ : q = 0 ∧ z = 0 ∧ r = false := by simpa [eq_comm] using hr
    clear h0 hr
    go_enter Try.func17, Try.ntmps17
    go_wp2
    exact bodyPost_ret (results_tmp3 rfl _ _ _) rfl ⟨rfl, Below.refl _ _⟩
  | true =>
    rw [h0] at hr c6
    simp only [if_true, Prod.mk.injEq] at hr
    obtain ⟨rfl, rfl, rfl⟩ := hr
    clear h0
    go_enter Try.func17, Try.ntmps17
    go_wp2_with fail
    go_quiet (fail)
    go_wp2
    exact bodyPost_ret (results_tmp3 rfl _ _ _) rfl ⟨rfl, rfl, rfl, rfl, Nat.le_refl _, fun _ _ => rfl⟩

end Go.Proofs.Ytnoconampcemoaa
