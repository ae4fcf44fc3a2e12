/-
  What Text of a reader of package ben does, in the words of a list of bytes. What Open, Close and Text of a reader make of what is left, each in one contract. What ben.Int, ben.Text and ben.New do: the bytes that are laid, in memory of the call's own; a reader of bytes.
-/
import Derived.Test.YtcngifkoopcmeaaGreatDoorK17
import Derived.Lib.Slices
import Derived.Lib.AppendStr
import Derived.OwnWalk
import Derived.BigCall
namespace Go.Proofs.YtcngifkoopcmeaaGreatDoor
open Go.RowKit

set_option maxHeartbeats 400000 in
theorem rText_nil (most : Int) (w : World) : Calls Tryz.prog 88 #[.pointer none, .int .i64 most] w fun r w' => r = .returned (.string ⟨#[]⟩) ∧ w' = w := by
  go_enter Tryz.func88, Tryz.ntmps88
  go_wp2_with (go_at_call 132; refine (first_nil _).mono ?_; rintro r w' ⟨rfl, rfl⟩)
  go_ret
  exact ⟨rfl, rfl⟩
set_option maxHeartbeats 400000 in
theorem rText_err (rb : Nat) (a : Option Addr) (c : Nat) (l : List UInt8) (e most : Int) (w : World) (h : Rd w rb a c l e) (he : (e != 0) = true) :
    Calls Tryz.prog 88 #[.pointer (some ⟨rb, 0, none⟩), .int .i64 most] w fun r w' => r = .returned (.string ⟨#[]⟩) ∧ w' = w := by
  go_enter Tryz.func88, Tryz.ntmps88
  go_wp2_with (go_at_call 132; refine (first_err rb a c l e _ h he).mono ?_; rintro r w' ⟨rfl, rfl⟩)
  go_ret
  exact ⟨rfl, rfl⟩
set_option maxHeartbeats 400000 in
theorem rText_end (rb : Nat) (a : Option Addr) (c : Nat) (most : Int) (w : World) (h : Rd w rb a c [] 0) :
    Calls Tryz.prog 88 #[.pointer (some ⟨rb, 0, none⟩), .int .i64 most] w fun r w' => r = .returned (.string ⟨#[]⟩) ∧ Rd w' rb none 0 [] 3 ∧ w.grownBy w' (some rb) := by
  go_enter Tryz.func88, Tryz.ntmps88
  go_wp2_with (go_at_call 132; refine (first_cut rb a c _ h).mono ?_; rintro r w' ⟨rfl, hr, hg⟩)
  go_ret
  exact ⟨rfl, hr, hg⟩
set_option maxHeartbeats 400000 in
theorem rText_low (rb : Nat) (a : Option Addr) (c : Nat) (x : UInt8) (l : List UInt8) (most : Int) (w : World) (h : Rd w rb a c (x :: l) 0) (hx : (x.toNat : Int) < 48) :
    Calls Tryz.prog 88 #[.pointer (some ⟨rb, 0, none⟩), .int .i64 most] w fun r w' => r = .returned (.string ⟨#[]⟩) ∧ Rd w' rb none 0 [] 4 ∧ w.grownBy w' (some rb) := by
  go_enter Tryz.func88, Tryz.ntmps88
  go_wp2_with (first | (go_at_call 132; refine (first_ok rb a c x l _ h).mono ?_; rintro r w' ⟨rfl, rfl⟩) | (go_at_call 133; refine (fail_any rb a _ c 0 4 _ h.blk).mono ?_; rintro r w' ⟨rfl, hb, hg⟩))
  go_ret
  exact ⟨rfl, Rd.failed hb, hg⟩
set_option maxHeartbeats 400000 in
theorem rText_high (rb : Nat) (a : Option Addr) (c : Nat) (x : UInt8) (l : List UInt8) (most : Int) (w : World) (h : Rd w rb a c (x :: l) 0) (h0 : ¬ (x.toNat : Int) < 48) (hx : 57 < (x.toNat : Int)) :
    Calls Tryz.prog 88 #[.pointer (some ⟨rb, 0, none⟩), .int .i64 most] w fun r w' => r = .returned (.string ⟨#[]⟩) ∧ Rd w' rb none 0 [] 4 ∧ w.grownBy w' (some rb) := by
  go_enter Tryz.func88, Tryz.ntmps88
  go_wp2_with (first | (go_at_call 132; refine (first_ok rb a c x l _ h).mono ?_; rintro r w' ⟨rfl, rfl⟩) | (go_at_call 133; refine (fail_any rb a _ c 0 4 _ h.blk).mono ?_; rintro r w' ⟨rfl, hb, hg⟩))
  go_ret
  exact ⟨rfl, Rd.failed hb, hg⟩

set_option maxHeartbeats 400000 in
theorem rText_rowlong (rb : Nat) (p : Addr) (c : Nat) (x : UInt8) (l : List UInt8) (most : Int) (w : World) (h : Rd w rb (some p) c (x :: l) 0) (hx0 : ¬ (x.toNat : Int) < 48) (hx1 : ¬ 57 < (x.toNat : Int)) (hidx : Lib.indexByte ((x :: l).take 11) 58 = -1) (hlong : 10 < (x :: l).length) :
    Calls Tryz.prog 88 #[.pointer (some ⟨rb, 0, none⟩), .int .i64 most] w fun r w' => r = .returned (.string ⟨#[]⟩) ∧ Rd w' rb none 0 [] 4 ∧ w.grownBy w' (some rb) := by
  have HI := Lib.hid hidx
  have HL := Lib.hid hlong
  clear hidx hlong
  go_enter Tryz.func88, Tryz.ntmps88
  go_wp2_with (first | (go_at_call 132; refine (first_ok rb (some p) c x l _ h).mono ?_; rintro r w' ⟨rfl, rfl⟩) | (go_at_call 134; refine (number_long rb p c (x :: l) 10 58 _ h (by omega) HI.out HL.out).mono ?_; rintro r w' ⟨rfl, hr, hg⟩))
  go_ret
  exact ⟨rfl, hr, hg⟩
set_option maxHeartbeats 400000 in
theorem rText_rowcut (rb : Nat) (p : Addr) (c : Nat) (x : UInt8) (l : List UInt8) (most : Int) (w : World) (h : Rd w rb (some p) c (x :: l) 0) (hx0 : ¬ (x.toNat : Int) < 48) (hx1 : ¬ 57 < (x.toNat : Int)) (hidx : Lib.indexByte ((x :: l).take 11) 58 = -1) (hshort : (x :: l).length ≤ 10) :
    Calls Tryz.prog 88 #[.pointer (some ⟨rb, 0, none⟩), .int .i64 most] w fun r w' => r = .returned (.string ⟨#[]⟩) ∧ Rd w' rb none 0 [] 3 ∧ w.grownBy w' (some rb) := by
  have HI := Lib.hid hidx
  have HL := Lib.hid hshort
  clear hidx hshort
  go_enter Tryz.func88, Tryz.ntmps88
  go_wp2_with (first | (go_at_call 132; refine (first_ok rb (some p) c x l _ h).mono ?_; rintro r w' ⟨rfl, rfl⟩) | (go_at_call 134; refine (number_cut rb p c (x :: l) 10 58 _ h (by omega) HI.out HL.out).mono ?_; rintro r w' ⟨rfl, hr, hg⟩))
  go_ret
  exact ⟨rfl, hr, hg⟩
set_option maxHeartbeats 400000 in
theorem rText_bad (rb : Nat) (p : Addr) (c : Nat) (x : UInt8) (l : List UInt8) (most : Int) (w : World) (h : Rd w rb (some p) c (x :: l) 0) (hx0 : ¬ (x.toNat : Int) < 48) (hx1 : ¬ 57 < (x.toNat : Int)) (B : Nat) (hB : B ≤ rb) (hv : VarsOk B w) (k : Nat) (hidx : Hid (Lib.indexByte ((x :: l).take 11) 58 = k)) (hn : Hid (numOf ((x :: l).take k) = none)) :
    Calls Tryz.prog 88 #[.pointer (some ⟨rb, 0, none⟩), .int .i64 most] w fun r w' => r = .returned (.string ⟨#[]⟩) ∧ Rd w' rb none 0 [] 4 ∧ w.grownBy w' (some rb) := by
  go_enter Tryz.func88, Tryz.ntmps88
  go_wp2_with (first | (go_at_call 132; refine (first_ok rb (some p) c x l _ h).mono ?_; rintro r w' ⟨rfl, rfl⟩) | (go_at_call 134; refine (number_bad rb p c (x :: l) 10 58 k B _ h (by omega) hidx.out hB hv hn.out).mono ?_; rintro r w' ⟨rfl, hr, hg⟩))
  go_ret
  exact ⟨rfl, hr, hg⟩
set_option maxHeartbeats 400000 in
theorem rText_great (rb : Nat) (p : Addr) (c : Nat) (x : UInt8) (l : List UInt8) (most : Int) (w : World) (h : Rd w rb (some p) c (x :: l) 0) (hx0 : ¬ (x.toNat : Int) < 48) (hx1 : ¬ 57 < (x.toNat : Int)) (B : Nat) (hB : B ≤ rb) (hv : VarsOk B w) (k : Nat) (hidx : Hid (Lib.indexByte ((x :: l).take 11) 58 = k)) (n : Int) (hn : Hid (numOf ((x :: l).take k) = some n)) (hg : 1000000000 < n) :
    Calls Tryz.prog 88 #[.pointer (some ⟨rb, 0, none⟩), .int .i64 most] w fun r w' => r = .returned (.string ⟨#[]⟩) ∧ Rd w' rb none 0 [] 4 ∧ w.grownBy w' (some rb) := by
  go_enter Tryz.func88, Tryz.ntmps88
  go_wp2_with (first | (go_at_call 132; refine (first_ok rb (some p) c x l _ h).mono ?_; rintro r w' ⟨rfl, rfl⟩) | (go_at_call 134; refine (number_ok rb p c (x :: l) 10 58 k B _ h (by omega) hidx.out hB hv n hn.out).mono ?_; rintro r w1 ⟨rfl, ⟨p1, hr1⟩, hg1⟩; refine Hid.out ?_))
  refine Lib.hid ?_
  go_wp2_with (go_at_call 133; refine (fail_any rb _ _ _ 0 4 _ hr1.blk).mono ?_; rintro r w2 ⟨rfl, hb2, hg2⟩)
  go_ret
  exact ⟨rfl, Rd.failed hb2, grownBy_trans hg1 hg2⟩
set_option maxHeartbeats 400000 in
theorem rText_most (rb : Nat) (p : Addr) (c : Nat) (x : UInt8) (l : List UInt8) (most : Int) (w : World) (h : Rd w rb (some p) c (x :: l) 0) (hx0 : ¬ (x.toNat : Int) < 48) (hx1 : ¬ 57 < (x.toNat : Int)) (B : Nat) (hB : B ≤ rb) (hv : VarsOk B w) (k : Nat) (hidx : Hid (Lib.indexByte ((x :: l).take 11) 58 = k)) (n : Int) (hn : Hid (numOf ((x :: l).take k) = some n)) (hg : ¬ 1000000000 < n) (hm : most < n) :
    Calls Tryz.prog 88 #[.pointer (some ⟨rb, 0, none⟩), .int .i64 most] w fun r w' => r = .returned (.string ⟨#[]⟩) ∧ Rd w' rb none 0 [] 5 ∧ w.grownBy w' (some rb) := by
  go_enter Tryz.func88, Tryz.ntmps88
  go_wp2_with (first | (go_at_call 132; refine (first_ok rb (some p) c x l _ h).mono ?_; rintro r w' ⟨rfl, rfl⟩) | (go_at_call 134; refine (number_ok rb p c (x :: l) 10 58 k B _ h (by omega) hidx.out hB hv n hn.out).mono ?_; rintro r w1 ⟨rfl, ⟨p1, hr1⟩, hg1⟩; refine Hid.out ?_))
  refine Lib.hid ?_
  go_wp2_with (go_at_call 133; refine (fail_any rb _ _ _ 0 5 _ hr1.blk).mono ?_; rintro r w2 ⟨rfl, hb2, hg2⟩)
  go_ret
  exact ⟨rfl, Rd.failed hb2, grownBy_trans hg1 hg2⟩
set_option maxHeartbeats 400000 in
theorem rText_short (rb : Nat) (p : Addr) (c : Nat) (x : UInt8) (l : List UInt8) (most : Int) (w : World) (h : Rd w rb (some p) c (x :: l) 0) (hx0 : ¬ (x.toNat : Int) < 48) (hx1 : ¬ 57 < (x.toNat : Int)) (B : Nat) (hB : B ≤ rb) (hv : VarsOk B w) (k : Nat) (hidx : Hid (Lib.indexByte ((x :: l).take 11) 58 = k)) (n : Int) (hn : Hid (numOf ((x :: l).take k) = some n)) (hg : ¬ 1000000000 < n) (hm : ¬ most < n) (q : List UInt8) (hq : Hid (q = (x :: l).drop (k + 1))) (hs : (q.length : Int) < n) :
    Calls Tryz.prog 88 #[.pointer (some ⟨rb, 0, none⟩), .int .i64 most] w fun r w' => r = .returned (.string ⟨#[]⟩) ∧ Rd w' rb none 0 [] 3 ∧ w.grownBy w' (some rb) := by
  go_enter Tryz.func88, Tryz.ntmps88
  go_wp2_with (first | (go_at_call 132; refine (first_ok rb (some p) c x l _ h).mono ?_; rintro r w' ⟨rfl, rfl⟩) | (go_at_call 134; refine (number_ok rb p c (x :: l) 10 58 k B _ h (by omega) hidx.out hB hv n hn.out).mono ?_; rintro r w1 ⟨rfl, ⟨p1, hr1⟩, hg1⟩; refine Hid.out ?_))
  refine Lib.hid ?_
  rw [← hq.out] at hr1
  have c1 := hr1.blk.cell0
  go_wp2_with (go_at_call 133; refine (fail_any rb _ _ _ 0 3 _ hr1.blk).mono ?_; rintro r w2 ⟨rfl, hb2, hg2⟩)
  go_ret
  exact ⟨rfl, Rd.failed hb2, grownBy_trans hg1 hg2⟩
set_option maxHeartbeats 400000 in
set_option maxRecDepth 100000 in
theorem rText_ok (rb : Nat) (p : Addr) (c : Nat) (x : UInt8) (l : List UInt8) (most : Int) (w : World) (h : Rd w rb (some p) c (x :: l) 0) (hx0 : ¬ (x.toNat : Int) < 48) (hx1 : ¬ 57 < (x.toNat : Int)) (B : Nat) (hB : B ≤ rb) (hv : VarsOk B w) (k : Nat) (hidx : Hid (Lib.indexByte ((x :: l).take 11) 58 = k)) (n : Int) (hn : Hid (numOf ((x :: l).take k) = some n)) (hg : ¬ 1000000000 < n) (hm : ¬ most < n) (q : List UInt8) (hq : Hid (q = (x :: l).drop (k + 1))) (j : Nat) (hj : Hid (n = j)) (hs : j ≤ q.length) :
    Calls Tryz.prog 88 #[.pointer (some ⟨rb, 0, none⟩), .int .i64 most] w fun r w' => r = .returned (.string ⟨(q.take j).toArray⟩) ∧ (∃ a c, Rd w' rb a c (q.drop j) 0) ∧ w.grownBy w' (some rb) := by
  go_enter Tryz.func88, Tryz.ntmps88
  go_wp2_with (first | (go_at_call 132; refine (first_ok rb (some p) c x l _ h).mono ?_; rintro r w' ⟨rfl, rfl⟩) | (go_at_call 134; refine (number_ok rb p c (x :: l) 10 58 k B _ h (by omega) hidx.out hB hv _ hn.out).mono ?_; rintro r w1 ⟨rfl, ⟨p1, hr1⟩, hg1⟩; refine Hid.out ?_))
  refine Lib.hid ?_
  rw [← hq.out] at hr1
  generalize c - (k + 1) = c1 at hr1
  have c0 := hr1.blk.cell0
  have f0 := hr1.blk.frozen 0
  have hle := hr1.le
  have hcv := convert_take hr1.bytes j c1 0 hs
  have e0 : w1.drewN 0 = w1 := rfl
  rw [e0] at hcv
  clear e0
  have hs1 : ∀ (w : World), (Instr.slice 111 (.slice (some p1) q.length c1) none (some (.int .i64 n)) none).run Tryz.prog w = .ok (.slice (some p1) j c1) w := by
    intro w; rw [hj.out]; exact slice_to (some p1) q.length c1 j w (by omega)
  have hnl : ¬ (q.length : Int) < n := by rw [hj.out]; omega
  have hs2 : ∃ a2, (∀ (w : World), (Instr.slice 111 (.slice (some p1) q.length c1) (some (.int .i64 n)) none none).run Tryz.prog w = .ok (.slice a2 (q.length - j) (c1 - j)) w) ∧ Hid (Rd (w1.setCell ⟨rb, 0, none⟩ (.slice a2 (q.length - j) (c1 - j))) rb a2 (c1 - j) (q.drop j) 0) :=
    ⟨_, fun w => by rw [hj.out]; exact slice_from (some p1) q.length c1 j w hs, hr1.addr j hs⟩
  obtain ⟨a3, hs2, HR⟩ := hs2
  clear hle hs hr1
  go_wp2
  go_ret
  exact ⟨rfl, ⟨_, _, HR.out⟩, grownBy_trans hg1 (grownBy_setCell _ _ _ _)⟩

/-- What Text makes of what is left: what is left then, the error, the text. -/
def rdText (most : Int) : List UInt8 → List UInt8 × Int × List UInt8
  | [] => ([], 3, [])
  | x :: l => if x.toNat < 48 ∨ 57 < x.toNat then ([], 4, []) else
    if Lib.indexByte ((x :: l).take 11) 58 = -1 then (if 10 < l.length + 1 then ([], 4, []) else ([], 3, [])) else
    match numOf ((x :: l).take (Lib.indexByte ((x :: l).take 11) 58).toNat) with
    | none => ([], 4, [])
    | some n => if 1000000000 < n then ([], 4, []) else if most < n then ([], 5, []) else
      if (((x :: l).drop ((Lib.indexByte ((x :: l).take 11) 58).toNat + 1)).length : Int) < n then ([], 3, []) else
      (((x :: l).drop ((Lib.indexByte ((x :: l).take 11) 58).toNat + 1)).drop n.toNat, 0, ((x :: l).drop ((Lib.indexByte ((x :: l).take 11) 58).toNat + 1)).take n.toNat)

/-- Digits of which the first is one are no number below 0. -/
theorem numOf_digit {x : UInt8} {l : List UInt8} {k : Nat} {n : Int} (hx : 48 ≤ x.toNat) (h : numOf ((x :: l).take k) = some n) : 0 ≤ n := by
  obtain ⟨_, hd⟩ := numOf_some h
  rcases Int.lt_or_le n 0 with hn | hn
  · unfold Lib.itoa at hd
    rw [if_pos hn] at hd
    cases k with
    | zero => simp at hd
    | succ k => simp only [List.take_succ_cons, List.cons.injEq] at hd; have := hd.1; subst this; simp at hx
  · exact hn

theorem rText_any (rb : Nat) (a : Option Addr) (c : Nat) (l : List UInt8) (most : Int) (B : Nat) (w : World) (h : Rd w rb a c l 0) (hB : B ≤ rb) (hv : VarsOk B w) :
    Calls Tryz.prog 88 #[.pointer (some ⟨rb, 0, none⟩), .int .i64 most] w fun r w' => r = .returned (.string ⟨(rdText most l).2.2.toArray⟩) ∧ (∃ a c, Rd w' rb a c (rdText most l).1 (rdText most l).2.1) ∧ w.grownBy w' (some rb) := by
  have fin : ∀ {e : Int}, Calls Tryz.prog 88 #[.pointer (some ⟨rb, 0, none⟩), .int .i64 most] w (fun r w' => r = .returned (.string ⟨#[]⟩) ∧ Rd w' rb none 0 [] e ∧ w.grownBy w' (some rb)) → rdText most l = ([], e, []) →
      Calls Tryz.prog 88 #[.pointer (some ⟨rb, 0, none⟩), .int .i64 most] w fun r w' => r = .returned (.string ⟨(rdText most l).2.2.toArray⟩) ∧ (∃ a c, Rd w' rb a c (rdText most l).1 (rdText most l).2.1) ∧ w.grownBy w' (some rb) := by
    intro e hc he
    rw [he]
    exact hc.mono fun r w' ⟨h1, h2, h3⟩ => ⟨h1, ⟨_, _, h2⟩, h3⟩
  cases l with
  | nil => exact fin (rText_end rb a c most w h) rfl
  | cons x l =>
    by_cases hx0 : (x.toNat : Int) < 48
    · exact fin (rText_low rb a c x l most w h hx0) (by simp only [rdText]; rw [if_pos (Or.inl (by omega))])
    by_cases hx1 : 57 < (x.toNat : Int)
    · exact fin (rText_high rb a c x l most w h hx0 hx1) (by simp only [rdText]; rw [if_pos (Or.inr (by omega))])
    have hx : ¬ (x.toNat < 48 ∨ 57 < x.toNat) := by omega
    obtain ⟨b, o, rfl, _⟩ := h.head
    by_cases hi : Lib.indexByte ((x :: l).take 11) 58 = -1
    · by_cases hl : 10 < (x :: l).length
      · exact fin (rText_rowlong rb ⟨b, o, none⟩ c x l most w h hx0 hx1 hi hl) (by simp only [rdText]; rw [if_neg hx, if_pos hi, if_pos (by simpa using hl)])
      · exact fin (rText_rowcut rb ⟨b, o, none⟩ c x l most w h hx0 hx1 hi (by omega)) (by simp only [rdText]; rw [if_neg hx, if_pos hi, if_neg (by simpa using hl)])
    obtain ⟨k, hk⟩ : ∃ k : Nat, Lib.indexByte ((x :: l).take 11) 58 = k := ⟨(Lib.indexByte ((x :: l).take 11) 58).toNat, by have := Lib.indexByte_ge ((x :: l).take 11) 58; omega⟩
    have hkt : (Lib.indexByte ((x :: l).take 11) 58).toNat = k := by rw [hk]; exact Int.toNat_natCast k
    have e0 : rdText most (x :: l) = match numOf ((x :: l).take k) with
        | none => (([], 4, []) : List UInt8 × Int × List UInt8)
        | some n => if 1000000000 < n then ([], 4, []) else if most < n then ([], 5, []) else
          if (((x :: l).drop (k + 1)).length : Int) < n then ([], 3, []) else
          (((x :: l).drop (k + 1)).drop n.toNat, 0, ((x :: l).drop (k + 1)).take n.toNat) := by
      simp only [rdText]; rw [if_neg hx, if_neg hi, hkt]
    cases hn : numOf ((x :: l).take k) with
    | none => exact fin (rText_bad rb ⟨b, o, none⟩ c x l most w h hx0 hx1 B hB hv k hk hn) (by rw [e0, hn])
    | some n =>
      rw [hn] at e0
      simp only at e0
      by_cases hg : 1000000000 < n
      · exact fin (rText_great rb ⟨b, o, none⟩ c x l most w h hx0 hx1 B hB hv k hk n hn hg) (by rw [e0, if_pos hg])
      rw [if_neg hg] at e0
      by_cases hm : most < n
      · exact fin (rText_most rb ⟨b, o, none⟩ c x l most w h hx0 hx1 B hB hv k hk n hn hg hm) (by rw [e0, if_pos hm])
      rw [if_neg hm] at e0
      by_cases hs : (((x :: l).drop (k + 1)).length : Int) < n
      · exact fin (rText_short rb ⟨b, o, none⟩ c x l most w h hx0 hx1 B hB hv k hk n hn hg hm _ rfl hs) (by rw [e0, if_pos hs])
      rw [if_neg hs] at e0
      have h0 := numOf_digit (by omega) hn
      rw [e0]
      exact rText_ok rb ⟨b, o, none⟩ c x l most w h hx0 hx1 B hB hv k hk n hn hg hm _ rfl n.toNat (show n = _ by omega) (by omega)

end Go.Proofs.YtcngifkoopcmeaaGreatDoor
namespace Go.Proofs.YtcngifkoopcmeaaGreatDoor
open Go.RowKit

/-- What Open, or Close, makes of what is left, where there was no error. -/
def rdByte (ch : UInt8) : List UInt8 → List UInt8 × Int
  | [] => ([], 3)
  | x :: l => if x = ch then (l, 0) else ([], 4)

theorem ne_byte {x ch : UInt8} {n : Nat} (hn : ch.toNat = n) (h : ¬ x = ch) : ((x.toNat : Int) != n) = true := by
  have : x.toNat ≠ ch.toNat := fun e => h (UInt8.toNat_inj.1 e)
  simp
  omega

theorem Open_any (rb : Nat) (a : Option Addr) (c : Nat) (l : List UInt8) (w : World) (h : Rd w rb a c l 0) :
    Calls Tryz.prog 86 #[.pointer (some ⟨rb, 0, none⟩)] w fun r w' => r = .returned (.tuple #[]) ∧ (∃ a c, Rd w' rb a c (rdByte 108 l).1 (rdByte 108 l).2) ∧ w.grownBy w' (some rb) := by
  cases l with
  | nil => exact (Open_cut rb a c w h).mono fun r w' ⟨h1, h2, h3⟩ => ⟨h1, ⟨_, _, h2⟩, h3⟩
  | cons x l =>
    by_cases hx : x = 108
    · subst hx
      have e : rdByte 108 (108 :: l) = (l, 0) := by simp [rdByte]
      rw [e]
      exact (Open_ok rb a c l w h).mono fun r w' ⟨h1, ⟨p, h2⟩, h3⟩ => ⟨h1, ⟨_, _, h2⟩, h3⟩
    · have e : rdByte 108 (x :: l) = ([], 4) := if_neg hx
      rw [e]
      exact (Open_other rb a c x l w h (ne_byte rfl hx)).mono fun r w' ⟨h1, h2, h3⟩ => ⟨h1, ⟨_, _, h2⟩, h3⟩

theorem Close_any (rb : Nat) (a : Option Addr) (c : Nat) (l : List UInt8) (w : World) (h : Rd w rb a c l 0) :
    Calls Tryz.prog 90 #[.pointer (some ⟨rb, 0, none⟩)] w fun r w' => r = .returned (.tuple #[]) ∧ (∃ a c, Rd w' rb a c (rdByte 101 l).1 (rdByte 101 l).2) ∧ w.grownBy w' (some rb) := by
  cases l with
  | nil => exact (Close_cut rb a c w h).mono fun r w' ⟨h1, h2, h3⟩ => ⟨h1, ⟨_, _, h2⟩, h3⟩
  | cons x l =>
    by_cases hx : x = 101
    · subst hx
      have e : rdByte 101 (101 :: l) = (l, 0) := by simp [rdByte]
      rw [e]
      exact (Close_ok rb a c l w h).mono fun r w' ⟨h1, ⟨p, h2⟩, h3⟩ => ⟨h1, ⟨_, _, h2⟩, h3⟩
    · have e : rdByte 101 (x :: l) = ([], 4) := if_neg hx
      rw [e]
      exact (Close_other rb a c x l w h (ne_byte rfl hx)).mono fun r w' ⟨h1, h2, h3⟩ => ⟨h1, ⟨_, _, h2⟩, h3⟩

theorem rText_eq (rb : Nat) (a : Option Addr) (c : Nat) (l : List UInt8) (most : Int) (B : Nat) (w : World) (h : Rd w rb a c l 0) (hB : B ≤ rb) (hv : VarsOk B w) {l1 s1 : List UInt8} {e1 : Int} (hT : rdText most l = (l1, e1, s1)) :
    Calls Tryz.prog 88 #[.pointer (some ⟨rb, 0, none⟩), .int .i64 most] w fun r w' => r = .returned (.string ⟨s1.toArray⟩) ∧ (∃ a c, Rd w' rb a c l1 e1) ∧ w.grownBy w' (some rb) := by
  have := rText_any rb a c l most B w h hB hv
  rw [hT] at this
  exact this

/-- How many bytes are left, as memory tells it. -/
def leftN (rb : Nat) (w : World) : Nat := match w.cell? ⟨rb, 0, none⟩ with | some (.slice _ n _) => n | _ => 0
theorem Rd.leftN {w : World} {rb : Nat} {a : Option Addr} {c : Nat} {l : List UInt8} {e : Int} (h : Rd w rb a c l e) : leftN rb w = l.length := by
  unfold Go.Proofs.YtcngifkoopcmeaaGreatDoor.leftN
  rw [h.blk.cell0]

/-- A row of the call's own, above the reader, has turned: the reader stands. -/
theorem Rd.above {w w' : World} {rb : Nat} {a : Option Addr} {c : Nat} {l : List UInt8} {e : Int} {r : Option Nat} (h : Rd w rb a c l e) (hg : w.grownBy w' r) (hr : ∀ k, r = some k → rb < k) : Rd w' rb a c l e := by
  refine h.mono hg (fun e => ?_) (fun p hp e => ?_)
  · exact absurd (hr rb e.symm) (Nat.lt_irrefl _)
  · have h1 := hr p.block e.symm
    have h2 := h.away p hp
    omega

end Go.Proofs.YtcngifkoopcmeaaGreatDoor
namespace Go.Proofs.YtcngifkoopcmeaaGreatDoor
open Go.RowKit

/-- A slice of bytes in blocks from B on. -/
def Own (w : World) (B : Nat) (v : Value) (l : List UInt8) : Prop := w.ownsRow B 5 1 v l.length (Lib.byteCells l)

theorem infoByte : (Tryz.prog.info? 5).map (fun i => (i.zero, i.size, i.bytes)) = some (some (.int .u8 0), 1, 1) := by kernel_rfl

theorem own_one (w : World) (B : Nat) (hB : B ≤ w.heap.size) (x : UInt8) : Own (w.alloc (.cells #[.int .u8 x.toNat] 5)) B (.slice (some ⟨w.heap.size, 0, none⟩) 1 1) [x] :=
  ⟨rfl, .inr ⟨w.heap.size, 1, #[.int .u8 x.toNat], rfl, hB, heap_alloc_new w _, Nat.le_refl _, by unfold maxLen; omega, rfl, rfl⟩⟩

theorem Own.of {w : World} {B n : Nat} {v : Value} {xs : List Value} {l : List UInt8} (h : w.ownsRow B 5 1 v n xs) (e : xs = Lib.byteCells l) : Own w B v l := by
  subst e
  have := h.1
  simp [Lib.byteCells] at this
  unfold Own
  rw [this]
  exact h

/-- The bytes that Int lays. -/
def putInt (n : Int) : List UInt8 := 105 :: Lib.itoa n ++ [101]
/-- The bytes that Text lays. -/
def putText (s : List UInt8) : List UInt8 := Lib.itoa s.length ++ 58 :: s

set_option maxHeartbeats 1000000 in
set_option maxRecDepth 100000 in
theorem Int_tab (n : Int) (h0 : -9223372036854775808 ≤ n) (h1 : n ≤ 9223372036854775807) (B : Nat) (w : World) (hB : B ≤ w.heap.size) (hv : Lib.TabBelow Tryz.prog B w "internal/strconv.uint64pow10" .u64 Lib.pow10Tab) :
    Calls Tryz.prog 61 #[.int .i64 n] w fun e w' => ∃ v, e = .returned v ∧ Own w' w.heap.size v (putInt n) ∧ Below w.heap.size w w' := by
  obtain ⟨i0, hi, hz0, hz1, hz2⟩ := info_parts infoByte
  have la := Lib.itoa_length_le n h0 h1
  have hv1 : Lib.TabBelow Tryz.prog B (w.alloc (.cells #[.int .u8 (105 : UInt8).toNat] 5)) "internal/strconv.uint64pow10" .u64 Lib.pow10Tab := fun w2 h2 => hv w2 (((Below.refl B w).alloc hB (.cells #[.int .u8 (105 : UInt8).toNat] 5)).trans h2)
  have ho1 : Own (w.alloc (.cells #[.int .u8 (105 : UInt8).toNat] 5)) w.heap.size (.slice (some ⟨w.heap.size, 0, none⟩) 1 1) [105] := own_one w w.heap.size (Nat.le_refl _) 105
  have hT : Lib.TabBelow Tryz.prog w.heap.size (w.alloc (.cells #[.int .u8 (105 : UInt8).toNat] 5)) "internal/strconv.uint64pow10" .u64 Lib.pow10Tab := fun w2 h2 => hv1 w2 (h2.mono hB)
  have hc := Tryz.strconv_AppendInt_10 w.heap.size 1 n h0 h1 (.slice (some ⟨w.heap.size, 0, none⟩) 1 1) _ (w.alloc (.cells #[.int .u8 (105 : UInt8).toNat] 5)) ho1 (by simp) (by omega) hT
  have HC := Lib.hid hc
  clear hc hT ho1 hv1
  go_enter Tryz.func61, Tryz.ntmps61
  go_wp2_with (go_at_call 115; refine HC.out.mono ?_; rintro e w1 ⟨v1, rfl, hown1, hnx1, -⟩; refine Hid.out ?_)
  refine Lib.hid ?_
  have hs1 := hnx1.size
  simp only [World.size_alloc] at hs1
  go_wp2_with (at_builtin; refine wpList_append_own _ rfl _ _ 111 rfl w.heap.size 5 i0 (.int .u8 0) 1 1 Tryz.underlying111 hi hz0 hz1 hz2 rfl (by decide) _ _ _ rfl (hown1.alloc _) ⟨w1.heap.size, 0, none⟩ 1 1 [Value.int .u8 101] rfl rfl (by intro j u' hj; match j, hj with | 0, hj => simp at hj; subst hj; simp [Addr.add]) (by intro u' hu'; simp at hu'; subst hu'; rfl) (by unfold maxLen; omega) (by omega) (by simp; omega) ?_)
  intro v2 w2 hown2 hgrow _
  have hnx2 : Below w.heap.size w w2 := ((((Below.refl w.heap.size w).alloc (Nat.le_refl _) _).trans hnx1).alloc (by omega) _).grown hgrow (by simp; omega) (fun k hk => (hown1.lt k hk).1)
  go_wp2
  go_ret
  exact ⟨v2, rfl, Own.of hown2 (by simp [putInt, Lib.byteCells]), hnx2⟩
theorem Int_any (n : Int) (h0 : -9223372036854775808 ≤ n) (h1 : n ≤ 9223372036854775807) (B : Nat) (w : World) (hB : B ≤ w.heap.size) (hv : VarsOk B w) :
    Calls Tryz.prog 61 #[.int .i64 n] w fun e w' => ∃ v, e = .returned v ∧ Own w' w.heap.size v (putInt n) ∧ Below w.heap.size w w' := Int_tab n h0 h1 B w hB hv.tab

set_option maxHeartbeats 1000000 in
set_option maxRecDepth 100000 in
theorem Text_tab (s : ByteArray) (hs : s.size ≤ 140737488351232) (B : Nat) (w : World) (hB : B ≤ w.heap.size) (hv : Lib.TabBelow Tryz.prog B w "internal/strconv.uint64pow10" .u64 Lib.pow10Tab) :
    Calls Tryz.prog 62 #[.string s] w fun e w' => ∃ v, e = .returned v ∧ Own w' w.heap.size v (putText s.data.toList) ∧ Below w.heap.size w w' := by
  obtain ⟨i0, hi, hz0, hz1, hz2⟩ := info_parts infoByte
  have la := Lib.itoa_length_le s.size (by omega) (by omega)
  have hT : Lib.TabBelow Tryz.prog w.heap.size w "internal/strconv.uint64pow10" .u64 Lib.pow10Tab := fun w2 h2 => hv w2 (h2.mono hB)
  have HC := Lib.hid (Tryz.strconv_AppendInt_10 w.heap.size 0 s.size (by omega) (by omega) (.slice none 0 0) [] w (World.ownsRow_nil _ _ _ _) (Nat.le_refl _) (by omega) hT)
  clear hT
  go_enter Tryz.func62, Tryz.ntmps62
  go_wp2_with (go_at_call 115; refine HC.out.mono ?_; rintro e w1 ⟨v1, rfl, hown1, hnx1, -⟩; refine Hid.out ?_)
  refine Lib.hid ?_
  rw [Nat.zero_add, List.nil_append] at hown1
  have hs1 := hnx1.size
  go_wp2_with (first | (at_builtin; refine wpList_append_own _ rfl _ _ 111 rfl w.heap.size 5 i0 (.int .u8 0) 1 1 Tryz.underlying111 hi hz0 hz1 hz2 rfl (by decide) _ _ _ rfl (hown1.alloc _) ⟨w1.heap.size, 0, none⟩ 1 1 [Value.int .u8 58] rfl rfl (by intro j u' hj; match j, hj with | 0, hj => simp at hj; subst hj; simp [Addr.add]) (by intro u' hu'; simp at hu'; subst hu'; rfl) (by unfold maxLen; omega) (by omega) (by simp; omega) ?_; refine Hid.out ?_))
  refine Lib.hid ?_
  intro v2 w2 hown2 hgrow _
  have hnx2 : Below w.heap.size w w2 := (hnx1.alloc hs1 _).grown hgrow (by simp; omega) (fun k hk => (hown1.lt k hk).1)
  have hs2 := hnx2.size
  go_wp2_with (at_builtin; refine Lib.wpList_append_own_string _ rfl _ _ 111 9 rfl w.heap.size 5 i0 Tryz.underlying111 Tryz.underlying9 hi hz0 hz1 hz2 _ _ _ rfl hown2 s rfl (by unfold maxLen; omega) (by omega) (by omega) ?_; refine Hid.out ?_)
  refine Lib.hid ?_
  intro v3 w3 hown3 hgrow3 _
  have hnx3 : Below w.heap.size w w3 := hnx2.grown hgrow3 (by omega) (fun k hk => (hown2.lt k hk).1)
  go_wp2
  go_ret
  exact ⟨v3, rfl, Own.of hown3 (by simp [putText, Lib.byteCells, Lib.strCells]), hnx3⟩
theorem Text_any (s : ByteArray) (hs : s.size ≤ 140737488351232) (B : Nat) (w : World) (hB : B ≤ w.heap.size) (hv : VarsOk B w) :
    Calls Tryz.prog 62 #[.string s] w fun e w' => ∃ v, e = .returned v ∧ Own w' w.heap.size v (putText s.data.toList) ∧ Below w.heap.size w w' := Text_tab s hs B w hB hv.tab

end Go.Proofs.YtcngifkoopcmeaaGreatDoor
