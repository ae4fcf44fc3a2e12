/-
  What Text of a reader of package ben does, in the words of a list of bytes.
-/
import Derived.Test.YtchhdffehkcecaaDoorRd3
namespace Go.Proofs.YtchhdffehkcecaaDoor
open Go.RowKit

set_option maxHeartbeats 400000 in
theorem rText_nil (most : Int) (w : World) : Calls Tryd.prog 71 #[.pointer none, .int .i64 most] w fun r w' => r = .returned (.string ⟨#[]⟩) ∧ w' = w := by
  go_enter Tryd.func71, Tryd.ntmps71
  go_wp2_with (go_at_call 75; refine (first_nil _).mono ?_; rintro r w' ⟨rfl, rfl⟩)
  go_ret
  exact ⟨rfl, rfl⟩
set_option maxHeartbeats 400000 in
theorem rText_err (rb : Nat) (a : Option Addr) (c : Nat) (l : List UInt8) (e most : Int) (w : World) (h : Rd w rb a c l e) (he : (e != 0) = true) :
    Calls Tryd.prog 71 #[.pointer (some ⟨rb, 0, none⟩), .int .i64 most] w fun r w' => r = .returned (.string ⟨#[]⟩) ∧ w' = w := by
  go_enter Tryd.func71, Tryd.ntmps71
  go_wp2_with (go_at_call 75; refine (first_err rb a c l e _ h he).mono ?_; rintro r w' ⟨rfl, rfl⟩)
  go_ret
  exact ⟨rfl, rfl⟩
set_option maxHeartbeats 400000 in
theorem rText_end (rb : Nat) (a : Option Addr) (c : Nat) (most : Int) (w : World) (h : Rd w rb a c [] 0) :
    Calls Tryd.prog 71 #[.pointer (some ⟨rb, 0, none⟩), .int .i64 most] w fun r w' => r = .returned (.string ⟨#[]⟩) ∧ Rd w' rb none 0 [] 3 ∧ w.grownBy w' (some rb) := by
  go_enter Tryd.func71, Tryd.ntmps71
  go_wp2_with (go_at_call 75; refine (first_cut rb a c _ h).mono ?_; rintro r w' ⟨rfl, hr, hg⟩)
  go_ret
  exact ⟨rfl, hr, hg⟩
set_option maxHeartbeats 400000 in
theorem rText_low (rb : Nat) (a : Option Addr) (c : Nat) (x : UInt8) (l : List UInt8) (most : Int) (w : World) (h : Rd w rb a c (x :: l) 0) (hx : (x.toNat : Int) < 48) :
    Calls Tryd.prog 71 #[.pointer (some ⟨rb, 0, none⟩), .int .i64 most] w fun r w' => r = .returned (.string ⟨#[]⟩) ∧ Rd w' rb none 0 [] 4 ∧ w.grownBy w' (some rb) := by
  go_enter Tryd.func71, Tryd.ntmps71
  go_wp2_with (first | (go_at_call 75; refine (first_ok rb a c x l _ h).mono ?_; rintro r w' ⟨rfl, rfl⟩) | (go_at_call 76; refine (fail_any rb a _ c 0 4 _ h.blk).mono ?_; rintro r w' ⟨rfl, hb, hg⟩))
  go_ret
  exact ⟨rfl, Rd.failed hb, hg⟩
set_option maxHeartbeats 400000 in
theorem rText_high (rb : Nat) (a : Option Addr) (c : Nat) (x : UInt8) (l : List UInt8) (most : Int) (w : World) (h : Rd w rb a c (x :: l) 0) (h0 : ¬ (x.toNat : Int) < 48) (hx : 57 < (x.toNat : Int)) :
    Calls Tryd.prog 71 #[.pointer (some ⟨rb, 0, none⟩), .int .i64 most] w fun r w' => r = .returned (.string ⟨#[]⟩) ∧ Rd w' rb none 0 [] 4 ∧ w.grownBy w' (some rb) := by
  go_enter Tryd.func71, Tryd.ntmps71
  go_wp2_with (first | (go_at_call 75; refine (first_ok rb a c x l _ h).mono ?_; rintro r w' ⟨rfl, rfl⟩) | (go_at_call 76; refine (fail_any rb a _ c 0 4 _ h.blk).mono ?_; rintro r w' ⟨rfl, hb, hg⟩))
  go_ret
  exact ⟨rfl, Rd.failed hb, hg⟩

set_option maxHeartbeats 400000 in
theorem rText_rowlong (rb : Nat) (p : Addr) (c : Nat) (x : UInt8) (l : List UInt8) (most : Int) (w : World) (h : Rd w rb (some p) c (x :: l) 0) (hx0 : ¬ (x.toNat : Int) < 48) (hx1 : ¬ 57 < (x.toNat : Int)) (hidx : Lib.indexByte ((x :: l).take 11) 58 = -1) (hlong : 10 < (x :: l).length) :
    Calls Tryd.prog 71 #[.pointer (some ⟨rb, 0, none⟩), .int .i64 most] w fun r w' => r = .returned (.string ⟨#[]⟩) ∧ Rd w' rb none 0 [] 4 ∧ w.grownBy w' (some rb) := by
  have HI := Lib.hid hidx
  have HL := Lib.hid hlong
  clear hidx hlong
  go_enter Tryd.func71, Tryd.ntmps71
  go_wp2_with (first | (go_at_call 75; refine (first_ok rb (some p) c x l _ h).mono ?_; rintro r w' ⟨rfl, rfl⟩) | (go_at_call 68; refine (number_long rb p c (x :: l) 10 58 _ h (by omega) HI.out HL.out).mono ?_; rintro r w' ⟨rfl, hr, hg⟩))
  go_ret
  exact ⟨rfl, hr, hg⟩
set_option maxHeartbeats 400000 in
theorem rText_rowcut (rb : Nat) (p : Addr) (c : Nat) (x : UInt8) (l : List UInt8) (most : Int) (w : World) (h : Rd w rb (some p) c (x :: l) 0) (hx0 : ¬ (x.toNat : Int) < 48) (hx1 : ¬ 57 < (x.toNat : Int)) (hidx : Lib.indexByte ((x :: l).take 11) 58 = -1) (hshort : (x :: l).length ≤ 10) :
    Calls Tryd.prog 71 #[.pointer (some ⟨rb, 0, none⟩), .int .i64 most] w fun r w' => r = .returned (.string ⟨#[]⟩) ∧ Rd w' rb none 0 [] 3 ∧ w.grownBy w' (some rb) := by
  have HI := Lib.hid hidx
  have HL := Lib.hid hshort
  clear hidx hshort
  go_enter Tryd.func71, Tryd.ntmps71
  go_wp2_with (first | (go_at_call 75; refine (first_ok rb (some p) c x l _ h).mono ?_; rintro r w' ⟨rfl, rfl⟩) | (go_at_call 68; refine (number_cut rb p c (x :: l) 10 58 _ h (by omega) HI.out HL.out).mono ?_; rintro r w' ⟨rfl, hr, hg⟩))
  go_ret
  exact ⟨rfl, hr, hg⟩
set_option maxHeartbeats 400000 in
theorem rText_bad (rb : Nat) (p : Addr) (c : Nat) (x : UInt8) (l : List UInt8) (most : Int) (w : World) (h : Rd w rb (some p) c (x :: l) 0) (hx0 : ¬ (x.toNat : Int) < 48) (hx1 : ¬ 57 < (x.toNat : Int)) (B : Nat) (hB : B ≤ rb) (hv : VarsOk B w) (k : Nat) (hidx : Hid (Lib.indexByte ((x :: l).take 11) 58 = k)) (hn : Hid (numOf ((x :: l).take k) = none)) :
    Calls Tryd.prog 71 #[.pointer (some ⟨rb, 0, none⟩), .int .i64 most] w fun r w' => r = .returned (.string ⟨#[]⟩) ∧ Rd w' rb none 0 [] 4 ∧ w.grownBy w' (some rb) := by
  go_enter Tryd.func71, Tryd.ntmps71
  go_wp2_with (first | (go_at_call 75; refine (first_ok rb (some p) c x l _ h).mono ?_; rintro r w' ⟨rfl, rfl⟩) | (go_at_call 68; refine (number_bad rb p c (x :: l) 10 58 k B _ h (by omega) hidx.out hB hv hn.out).mono ?_; rintro r w' ⟨rfl, hr, hg⟩))
  go_ret
  exact ⟨rfl, hr, hg⟩
set_option maxHeartbeats 400000 in
theorem rText_great (rb : Nat) (p : Addr) (c : Nat) (x : UInt8) (l : List UInt8) (most : Int) (w : World) (h : Rd w rb (some p) c (x :: l) 0) (hx0 : ¬ (x.toNat : Int) < 48) (hx1 : ¬ 57 < (x.toNat : Int)) (B : Nat) (hB : B ≤ rb) (hv : VarsOk B w) (k : Nat) (hidx : Hid (Lib.indexByte ((x :: l).take 11) 58 = k)) (n : Int) (hn : Hid (numOf ((x :: l).take k) = some n)) (hg : 1000000000 < n) :
    Calls Tryd.prog 71 #[.pointer (some ⟨rb, 0, none⟩), .int .i64 most] w fun r w' => r = .returned (.string ⟨#[]⟩) ∧ Rd w' rb none 0 [] 4 ∧ w.grownBy w' (some rb) := by
  go_enter Tryd.func71, Tryd.ntmps71
  go_wp2_with (first | (go_at_call 75; refine (first_ok rb (some p) c x l _ h).mono ?_; rintro r w' ⟨rfl, rfl⟩) | (go_at_call 68; refine (number_ok rb p c (x :: l) 10 58 k B _ h (by omega) hidx.out hB hv n hn.out).mono ?_; rintro r w1 ⟨rfl, ⟨p1, hr1⟩, hg1⟩; refine Hid.out ?_))
  refine Lib.hid ?_
  go_wp2_with (go_at_call 76; refine (fail_any rb _ _ _ 0 4 _ hr1.blk).mono ?_; rintro r w2 ⟨rfl, hb2, hg2⟩)
  go_ret
  exact ⟨rfl, Rd.failed hb2, grownBy_trans hg1 hg2⟩
set_option maxHeartbeats 400000 in
theorem rText_most (rb : Nat) (p : Addr) (c : Nat) (x : UInt8) (l : List UInt8) (most : Int) (w : World) (h : Rd w rb (some p) c (x :: l) 0) (hx0 : ¬ (x.toNat : Int) < 48) (hx1 : ¬ 57 < (x.toNat : Int)) (B : Nat) (hB : B ≤ rb) (hv : VarsOk B w) (k : Nat) (hidx : Hid (Lib.indexByte ((x :: l).take 11) 58 = k)) (n : Int) (hn : Hid (numOf ((x :: l).take k) = some n)) (hg : ¬ 1000000000 < n) (hm : most < n) :
    Calls Tryd.prog 71 #[.pointer (some ⟨rb, 0, none⟩), .int .i64 most] w fun r w' => r = .returned (.string ⟨#[]⟩) ∧ Rd w' rb none 0 [] 5 ∧ w.grownBy w' (some rb) := by
  go_enter Tryd.func71, Tryd.ntmps71
  go_wp2_with (first | (go_at_call 75; refine (first_ok rb (some p) c x l _ h).mono ?_; rintro r w' ⟨rfl, rfl⟩) | (go_at_call 68; refine (number_ok rb p c (x :: l) 10 58 k B _ h (by omega) hidx.out hB hv n hn.out).mono ?_; rintro r w1 ⟨rfl, ⟨p1, hr1⟩, hg1⟩; refine Hid.out ?_))
  refine Lib.hid ?_
  go_wp2_with (go_at_call 76; refine (fail_any rb _ _ _ 0 5 _ hr1.blk).mono ?_; rintro r w2 ⟨rfl, hb2, hg2⟩)
  go_ret
  exact ⟨rfl, Rd.failed hb2, grownBy_trans hg1 hg2⟩
set_option maxHeartbeats 400000 in
theorem rText_short (rb : Nat) (p : Addr) (c : Nat) (x : UInt8) (l : List UInt8) (most : Int) (w : World) (h : Rd w rb (some p) c (x :: l) 0) (hx0 : ¬ (x.toNat : Int) < 48) (hx1 : ¬ 57 < (x.toNat : Int)) (B : Nat) (hB : B ≤ rb) (hv : VarsOk B w) (k : Nat) (hidx : Hid (Lib.indexByte ((x :: l).take 11) 58 = k)) (n : Int) (hn : Hid (numOf ((x :: l).take k) = some n)) (hg : ¬ 1000000000 < n) (hm : ¬ most < n) (q : List UInt8) (hq : Hid (q = (x :: l).drop (k + 1))) (hs : (q.length : Int) < n) :
    Calls Tryd.prog 71 #[.pointer (some ⟨rb, 0, none⟩), .int .i64 most] w fun r w' => r = .returned (.string ⟨#[]⟩) ∧ Rd w' rb none 0 [] 3 ∧ w.grownBy w' (some rb) := by
  go_enter Tryd.func71, Tryd.ntmps71
  go_wp2_with (first | (go_at_call 75; refine (first_ok rb (some p) c x l _ h).mono ?_; rintro r w' ⟨rfl, rfl⟩) | (go_at_call 68; refine (number_ok rb p c (x :: l) 10 58 k B _ h (by omega) hidx.out hB hv n hn.out).mono ?_; rintro r w1 ⟨rfl, ⟨p1, hr1⟩, hg1⟩; refine Hid.out ?_))
  refine Lib.hid ?_
  rw [← hq.out] at hr1
  have c1 := hr1.blk.cell0
  go_wp2_with (go_at_call 76; refine (fail_any rb _ _ _ 0 3 _ hr1.blk).mono ?_; rintro r w2 ⟨rfl, hb2, hg2⟩)
  go_ret
  exact ⟨rfl, Rd.failed hb2, grownBy_trans hg1 hg2⟩
set_option maxHeartbeats 400000 in
set_option maxRecDepth 100000 in
theorem rText_ok (rb : Nat) (p : Addr) (c : Nat) (x : UInt8) (l : List UInt8) (most : Int) (w : World) (h : Rd w rb (some p) c (x :: l) 0) (hx0 : ¬ (x.toNat : Int) < 48) (hx1 : ¬ 57 < (x.toNat : Int)) (B : Nat) (hB : B ≤ rb) (hv : VarsOk B w) (k : Nat) (hidx : Hid (Lib.indexByte ((x :: l).take 11) 58 = k)) (n : Int) (hn : Hid (numOf ((x :: l).take k) = some n)) (hg : ¬ 1000000000 < n) (hm : ¬ most < n) (q : List UInt8) (hq : Hid (q = (x :: l).drop (k + 1))) (j : Nat) (hj : Hid (n = j)) (hs : j ≤ q.length) :
    Calls Tryd.prog 71 #[.pointer (some ⟨rb, 0, none⟩), .int .i64 most] w fun r w' => r = .returned (.string ⟨(q.take j).toArray⟩) ∧ (∃ a c, Rd w' rb a c (q.drop j) 0) ∧ w.grownBy w' (some rb) := by
  go_enter Tryd.func71, Tryd.ntmps71
  go_wp2_with (first | (go_at_call 75; refine (first_ok rb (some p) c x l _ h).mono ?_; rintro r w' ⟨rfl, rfl⟩) | (go_at_call 68; refine (number_ok rb p c (x :: l) 10 58 k B _ h (by omega) hidx.out hB hv _ hn.out).mono ?_; rintro r w1 ⟨rfl, ⟨p1, hr1⟩, hg1⟩; refine Hid.out ?_))
  refine Lib.hid ?_
  rw [← hq.out] at hr1
  generalize c - (k + 1) = c1 at hr1
  have c0 := hr1.blk.cell0
  have f0 := hr1.blk.frozen 0
  have hle := hr1.le
  have hcv := convert_take hr1.bytes j c1 0 hs
  have e0 : w1.drewN 0 = w1 := rfl
  rw [e0] at hcv
  clear e0
  have hs1 : ∀ (w : World), (Instr.slice 30 (.slice (some p1) q.length c1) none (some (.int .i64 n)) none).run Tryd.prog w = .ok (.slice (some p1) j c1) w := by
    intro w; rw [hj.out]; exact slice_to (some p1) q.length c1 j w (by omega)
  have hnl : ¬ (q.length : Int) < n := by rw [hj.out]; omega
  have hs2 : ∃ a2, (∀ (w : World), (Instr.slice 30 (.slice (some p1) q.length c1) (some (.int .i64 n)) none none).run Tryd.prog w = .ok (.slice a2 (q.length - j) (c1 - j)) w) ∧ Hid (Rd (w1.setCell ⟨rb, 0, none⟩ (.slice a2 (q.length - j) (c1 - j))) rb a2 (c1 - j) (q.drop j) 0) :=
    ⟨_, fun w => by rw [hj.out]; exact slice_from (some p1) q.length c1 j w hs, hr1.addr j hs⟩
  obtain ⟨a3, hs2, HR⟩ := hs2
  clear hle hs hr1
  go_wp2
  go_ret
  exact ⟨rfl, ⟨_, _, HR.out⟩, grownBy_trans hg1 (grownBy_setCell _ _ _ _)⟩

/-- What Text makes of what is left: what is left then, the error, the text. -/
def rdText (most : Int) : List UInt8 → List UInt8 × Int × List UInt8
  | [] => ([], 3, [])
  | x :: l => if x.toNat < 48 ∨ 57 < x.toNat then ([], 4, []) else
    if Lib.indexByte ((x :: l).take 11) 58 = -1 then (if 10 < l.length + 1 then ([], 4, []) else ([], 3, [])) else
    match numOf ((x :: l).take (Lib.indexByte ((x :: l).take 11) 58).toNat) with
    | none => ([], 4, [])
    | some n => if 1000000000 < n then ([], 4, []) else if most < n then ([], 5, []) else
      if (((x :: l).drop ((Lib.indexByte ((x :: l).take 11) 58).toNat + 1)).length : Int) < n then ([], 3, []) else
      (((x :: l).drop ((Lib.indexByte ((x :: l).take 11) 58).toNat + 1)).drop n.toNat, 0, ((x :: l).drop ((Lib.indexByte ((x :: l).take 11) 58).toNat + 1)).take n.toNat)

/-- Digits of which the first is one are no number below 0. -/
theorem numOf_digit {x : UInt8} {l : List UInt8} {k : Nat} {n : Int} (hx : 48 ≤ x.toNat) (h : numOf ((x :: l).take k) = some n) : 0 ≤ n := by
  obtain ⟨_, hd⟩ := numOf_some h
  rcases Int.lt_or_le n 0 with hn | hn
  · unfold Lib.itoa at hd
    rw [if_pos hn] at hd
    cases k with
    | zero => simp at hd
    | succ k => simp only [List.take_succ_cons, List.cons.injEq] at hd; have := hd.1; subst this; simp at hx
  · exact hn

theorem rText_any (rb : Nat) (a : Option Addr) (c : Nat) (l : List UInt8) (most : Int) (B : Nat) (w : World) (h : Rd w rb a c l 0) (hB : B ≤ rb) (hv : VarsOk B w) :
    Calls Tryd.prog 71 #[.pointer (some ⟨rb, 0, none⟩), .int .i64 most] w fun r w' => r = .returned (.string ⟨(rdText most l).2.2.toArray⟩) ∧ (∃ a c, Rd w' rb a c (rdText most l).1 (rdText most l).2.1) ∧ w.grownBy w' (some rb) := by
  have fin : ∀ {e : Int}, Calls Tryd.prog 71 #[.pointer (some ⟨rb, 0, none⟩), .int .i64 most] w (fun r w' => r = .returned (.string ⟨#[]⟩) ∧ Rd w' rb none 0 [] e ∧ w.grownBy w' (some rb)) → rdText most l = ([], e, []) →
      Calls Tryd.prog 71 #[.pointer (some ⟨rb, 0, none⟩), .int .i64 most] w fun r w' => r = .returned (.string ⟨(rdText most l).2.2.toArray⟩) ∧ (∃ a c, Rd w' rb a c (rdText most l).1 (rdText most l).2.1) ∧ w.grownBy w' (some rb) := by
    intro e hc he
    rw [he]
    exact hc.mono fun r w' ⟨h1, h2, h3⟩ => ⟨h1, ⟨_, _, h2⟩, h3⟩
  cases l with
  | nil => exact fin (rText_end rb a c most w h) rfl
  | cons x l =>
    by_cases hx0 : (x.toNat : Int) < 48
    · exact fin (rText_low rb a c x l most w h hx0) (by simp only [rdText]; rw [if_pos (Or.inl (by omega))])
    by_cases hx1 : 57 < (x.toNat : Int)
    · exact fin (rText_high rb a c x l most w h hx0 hx1) (by simp only [rdText]; rw [if_pos (Or.inr (by omega))])
    have hx : ¬ (x.toNat < 48 ∨ 57 < x.toNat) := by omega
    obtain ⟨b, o, rfl, _⟩ := h.head
    by_cases hi : Lib.indexByte ((x :: l).take 11) 58 = -1
    · by_cases hl : 10 < (x :: l).length
      · exact fin (rText_rowlong rb ⟨b, o, none⟩ c x l most w h hx0 hx1 hi hl) (by simp only [rdText]; rw [if_neg hx, if_pos hi, if_pos (by simpa using hl)])
      · exact fin (rText_rowcut rb ⟨b, o, none⟩ c x l most w h hx0 hx1 hi (by omega)) (by simp only [rdText]; rw [if_neg hx, if_pos hi, if_neg (by simpa using hl)])
    obtain ⟨k, hk⟩ : ∃ k : Nat, Lib.indexByte ((x :: l).take 11) 58 = k := ⟨(Lib.indexByte ((x :: l).take 11) 58).toNat, by have := Lib.indexByte_ge ((x :: l).take 11) 58; omega⟩
    have hkt : (Lib.indexByte ((x :: l).take 11) 58).toNat = k := by rw [hk]; exact Int.toNat_natCast k
    have e0 : rdText most (x :: l) = match numOf ((x :: l).take k) with
        | none => (([], 4, []) : List UInt8 × Int × List UInt8)
        | some n => if 1000000000 < n then ([], 4, []) else if most < n then ([], 5, []) else
          if (((x :: l).drop (k + 1)).length : Int) < n then ([], 3, []) else
          (((x :: l).drop (k + 1)).drop n.toNat, 0, ((x :: l).drop (k + 1)).take n.toNat) := by
      simp only [rdText]; rw [if_neg hx, if_neg hi, hkt]
    cases hn : numOf ((x :: l).take k) with
    | none => exact fin (rText_bad rb ⟨b, o, none⟩ c x l most w h hx0 hx1 B hB hv k hk hn) (by rw [e0, hn])
    | some n =>
      rw [hn] at e0
      simp only at e0
      by_cases hg : 1000000000 < n
      · exact fin (rText_great rb ⟨b, o, none⟩ c x l most w h hx0 hx1 B hB hv k hk n hn hg) (by rw [e0, if_pos hg])
      rw [if_neg hg] at e0
      by_cases hm : most < n
      · exact fin (rText_most rb ⟨b, o, none⟩ c x l most w h hx0 hx1 B hB hv k hk n hn hg hm) (by rw [e0, if_pos hm])
      rw [if_neg hm] at e0
      by_cases hs : (((x :: l).drop (k + 1)).length : Int) < n
      · exact fin (rText_short rb ⟨b, o, none⟩ c x l most w h hx0 hx1 B hB hv k hk n hn hg hm _ rfl hs) (by rw [e0, if_pos hs])
      rw [if_neg hs] at e0
      have h0 := numOf_digit (by omega) hn
      rw [e0]
      exact rText_ok rb ⟨b, o, none⟩ c x l most w h hx0 hx1 B hB hv k hk n hn hg hm _ rfl n.toNat (show n = _ by omega) (by omega)

end Go.Proofs.YtchhdffehkcecaaDoor
