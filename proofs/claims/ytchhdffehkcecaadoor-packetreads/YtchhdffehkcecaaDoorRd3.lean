/-
  What a reader of package ben does to read a number (number), and Int: in the words of a list of bytes.
-/
import Derived.Test.YtchhdffehkcecaaDoorRd2
import Derived.Lib.ParseIntB
namespace Go.Proofs.YtchhdffehkcecaaDoor
open Go.RowKit

/-- The number whose digits these are, if there is one. -/
def numOf (d : List UInt8) : Option Int :=
  match Lib.parseIntB 64 d with
  | .ok n => if Lib.itoa n = d then some n else none
  | _ => none

theorem numOf_some {d : List UInt8} {n : Int} (h : numOf d = some n) : Lib.parseIntB 64 d = .ok n ∧ Lib.itoa n = d := by
  unfold numOf at h
  split at h
  · split at h
    · cases h; exact ⟨by assumption, by assumption⟩
    · cases h
  · cases h

set_option maxHeartbeats 400000 in
theorem number_long (rb : Nat) (p : Addr) (c : Nat) (l : List UInt8) (m : Nat) (ch : UInt8) (w : World) (h : Rd w rb (some p) c l 0) (hm : m ≤ 100) (hidx : Lib.indexByte (l.take (m + 1)) ch = -1) (hlong : m < l.length) :
    Calls Tryd.prog 68 #[.pointer (some ⟨rb, 0, none⟩), .int .i64 m, .int .u8 ch.toNat] w fun r w' => r = .returned (.tuple #[.int .i64 0, .bool false]) ∧ Rd w' rb none 0 [] 4 ∧ w.grownBy w' (some rb) := by
  have HI := Lib.hid hidx
  clear hidx
  go_enter Tryd.func68, Tryd.ntmps68
  go_wp2_with (go_at_call 77; refine (row_long rb p c l m ch _ h hm HI.out hlong).mono ?_; rintro r w' ⟨rfl, hr, hg⟩)
  go_ret2
  exact ⟨rfl, hr, hg⟩

set_option maxHeartbeats 400000 in
theorem number_cut (rb : Nat) (p : Addr) (c : Nat) (l : List UInt8) (m : Nat) (ch : UInt8) (w : World) (h : Rd w rb (some p) c l 0) (hm : m ≤ 100) (hidx : Lib.indexByte (l.take (m + 1)) ch = -1) (hshort : l.length ≤ m) :
    Calls Tryd.prog 68 #[.pointer (some ⟨rb, 0, none⟩), .int .i64 m, .int .u8 ch.toNat] w fun r w' => r = .returned (.tuple #[.int .i64 0, .bool false]) ∧ Rd w' rb none 0 [] 3 ∧ w.grownBy w' (some rb) := by
  have HI := Lib.hid hidx
  clear hidx
  go_enter Tryd.func68, Tryd.ntmps68
  go_wp2_with (go_at_call 77; refine (row_cut rb p c l m ch _ h hm HI.out hshort).mono ?_; rintro r w' ⟨rfl, hr, hg⟩)
  go_ret2
  exact ⟨rfl, hr, hg⟩

set_option maxHeartbeats 400000 in
theorem number_bad (rb : Nat) (p : Addr) (c : Nat) (l : List UInt8) (m : Nat) (ch : UInt8) (k B : Nat) (w : World) (h : Rd w rb (some p) c l 0) (hm : m ≤ 100) (hidx : Lib.indexByte (l.take (m + 1)) ch = k) (hB : B ≤ rb) (hv : VarsOk B w)
    (hn : numOf (l.take k) = none) :
    Calls Tryd.prog 68 #[.pointer (some ⟨rb, 0, none⟩), .int .i64 m, .int .u8 ch.toNat] w fun r w' => r = .returned (.tuple #[.int .i64 0, .bool false]) ∧ Rd w' rb none 0 [] 4 ∧ w.grownBy w' (some rb) := by
  obtain ⟨hk, hkm, _⟩ := hit_facts hidx
  have hBw : B ≤ w.heap.size := by have := h.blk.lt; omega
  have hl : (l.take k).length ≤ 1000 := by simp; omega
  have HI := Lib.hid hidx
  clear hidx
  by_cases hp : ∃ v, Lib.parseIntB 64 (l.take k) = .ok v
  · obtain ⟨v, hp⟩ := hp
    have hne : Lib.itoa v ≠ l.take k := by
      intro e
      unfold numOf at hn
      rw [hp] at hn
      simp [e] at hn
    have hbd := Lib.parseIntB_bounds (B := 64) hp
    have hb0 : -9223372036854775808 ≤ v ∧ v ≤ 9223372036854775807 := by have e : ((2 ^ (64 - 1) : Nat) : Int) = 9223372036854775808 := by decide
                                                                        rw [e] at hbd; omega
    have HV : Hid (-9223372036854775808 ≤ v ∧ v ≤ 9223372036854775807) := hb0
    have HP : Hid (Lib.parseIntB 64 (l.take k) = .ok v) := hp
    clear hp hn hbd hb0
    generalize hd : Lib.itoa v = d at hne
    have HD : Hid (Lib.itoa v = d) := hd
    clear hd
    go_enter Tryd.func68, Tryd.ntmps68
    go_wp2_with (go_at_call 77; refine (row_hit rb p c l m ch k _ h hm HI.out).mono ?_; rintro r w1 ⟨rfl, ⟨p1, hr1⟩, hg1⟩; refine Hid.out ?_)
    refine Lib.hid ?_
    have hv1 := hv.on (below_of_grownBy hg1 hB hBw)
    have hBw1 : B ≤ w1.heap.size := by have := hg1.size; omega
    go_wp2_with (go_at_call 78; refine (parseInt_good (l.take k) hl v _ HP.out).mono ?_; rintro r w2 ⟨rfl, hb2⟩; refine Hid.out ?_)
    refine Lib.hid ?_
    have hv2 := hv1.on (hb2.mono hBw1)
    go_wp2_with (go_at_call 79; refine (formatInt_any v HV.out.1 HV.out.2 _ B hv2).mono ?_; rintro r w3 ⟨rfl, hb3⟩; refine Hid.out ?_)
    refine Lib.hid ?_
    rw [HD.out]
    have hq : (d == l.take k) = false := by simpa using hne
    go_wp2_with (go_at_call 76; refine (fail_any rb _ _ _ 0 4 _ ((hr1.below hb2).below hb3).blk).mono ?_; rintro r w4 ⟨rfl, hb4, hg4⟩)
    go_ret2
    exact ⟨rfl, Rd.failed hb4, grownBy_trans hg1 (grownBy_trans (grownBy_of_below hb2) (grownBy_trans (grownBy_of_below hb3) hg4))⟩
  · have HP : Hid (∀ v, Lib.parseIntB 64 (l.take k) ≠ .ok v) := fun v e => hp ⟨v, e⟩
    clear hp hn
    go_enter Tryd.func68, Tryd.ntmps68
    go_wp2_with (go_at_call 77; refine (row_hit rb p c l m ch k _ h hm HI.out).mono ?_; rintro r w1 ⟨rfl, ⟨p1, hr1⟩, hg1⟩)
    go_wp2_with (go_at_call 78; refine (parseInt_bad (l.take k) hl _ B (hv.on (below_of_grownBy hg1 hB hBw)) HP.out).mono ?_; rintro r w2 ⟨n2, t2, v2, rfl, hb2⟩)
    go_wp2_with (go_at_call 76; refine (fail_any rb _ _ _ 0 4 _ (hr1.below hb2).blk).mono ?_; rintro r w3 ⟨rfl, hb3, hg3⟩)
    go_ret2
    exact ⟨rfl, Rd.failed hb3, grownBy_trans hg1 (grownBy_trans (grownBy_of_below hb2) hg3)⟩

set_option maxHeartbeats 400000 in
theorem number_ok (rb : Nat) (p : Addr) (c : Nat) (l : List UInt8) (m : Nat) (ch : UInt8) (k B : Nat) (w : World) (h : Rd w rb (some p) c l 0) (hm : m ≤ 100) (hidx : Lib.indexByte (l.take (m + 1)) ch = k) (hB : B ≤ rb) (hv : VarsOk B w)
    (n : Int) (hn : numOf (l.take k) = some n) :
    Calls Tryd.prog 68 #[.pointer (some ⟨rb, 0, none⟩), .int .i64 m, .int .u8 ch.toNat] w fun r w' => r = .returned (.tuple #[.int .i64 n, .bool true]) ∧ (∃ p, Rd w' rb (some p) (c - (k + 1)) (l.drop (k + 1)) 0) ∧ w.grownBy w' (some rb) := by
  obtain ⟨hk, hkm, _⟩ := hit_facts hidx
  have hBw : B ≤ w.heap.size := by have := h.blk.lt; omega
  have hl : (l.take k).length ≤ 1000 := by simp; omega
  have HI := Lib.hid hidx
  obtain ⟨hp, hd⟩ := numOf_some hn
  have hbd := Lib.parseIntB_bounds (B := 64) hp
  have hb0 : -9223372036854775808 ≤ n ∧ n ≤ 9223372036854775807 := by
    have e : ((2 ^ (64 - 1) : Nat) : Int) = 9223372036854775808 := by decide
    rw [e] at hbd; omega
  have HV : Hid (-9223372036854775808 ≤ n ∧ n ≤ 9223372036854775807) := hb0
  have HP : Hid (Lib.parseIntB 64 (l.take k) = .ok n) := hp
  have HD : Hid (Lib.itoa n = l.take k) := hd
  clear hp hn hbd hb0 hd hidx
  go_enter Tryd.func68, Tryd.ntmps68
  go_wp2_with (go_at_call 77; refine (row_hit rb p c l m ch k _ h hm HI.out).mono ?_; rintro r w1 ⟨rfl, ⟨p1, hr1⟩, hg1⟩; refine Hid.out ?_)
  refine Lib.hid ?_
  have hv1 := hv.on (below_of_grownBy hg1 hB hBw)
  have hBw1 : B ≤ w1.heap.size := by have := hg1.size; omega
  go_wp2_with (go_at_call 78; refine (parseInt_good (l.take k) hl n _ HP.out).mono ?_; rintro r w2 ⟨rfl, hb2⟩; refine Hid.out ?_)
  refine Lib.hid ?_
  have hv2 := hv1.on (hb2.mono hBw1)
  go_wp2_with (go_at_call 79; refine (formatInt_any n HV.out.1 HV.out.2 _ B hv2).mono ?_; rintro r w3 ⟨rfl, hb3⟩; refine Hid.out ?_)
  refine Lib.hid ?_
  rw [HD.out]
  go_wp2
  go_ret2
  exact ⟨rfl, ⟨p1, (hr1.below hb2).below hb3⟩, grownBy_trans hg1 (grownBy_trans (grownBy_of_below hb2) (grownBy_of_below hb3))⟩

/- Int -/
set_option maxHeartbeats 400000 in
theorem rInt_nil (w : World) : Calls Tryd.prog 53 #[.pointer none] w fun r w' => r = .returned (.int .i64 0) ∧ w' = w := by
  go_enter Tryd.func53, Tryd.ntmps53
  go_wp2_with (go_at_call 67; refine (take_nil _ _).mono ?_; rintro r w' ⟨rfl, rfl⟩)
  go_ret
  exact ⟨rfl, rfl⟩
set_option maxHeartbeats 400000 in
theorem rInt_err (rb : Nat) (a : Option Addr) (c : Nat) (l : List UInt8) (e : Int) (w : World) (h : Rd w rb a c l e) (he : (e != 0) = true) :
    Calls Tryd.prog 53 #[.pointer (some ⟨rb, 0, none⟩)] w fun r w' => r = .returned (.int .i64 0) ∧ w' = w := by
  go_enter Tryd.func53, Tryd.ntmps53
  go_wp2_with (go_at_call 67; refine (take_err rb a c l e _ _ h he).mono ?_; rintro r w' ⟨rfl, rfl⟩)
  go_ret
  exact ⟨rfl, rfl⟩

/-- What Int makes of what is left: what is left then, the error, the number. -/
def rdInt : List UInt8 → List UInt8 × Int × Int
  | [] => ([], 3, 0)
  | x :: l => if x ≠ 105 then ([], 4, 0) else
    if Lib.indexByte (l.take 21) 101 = -1 then (if 20 < l.length then ([], 4, 0) else ([], 3, 0)) else
    match numOf (l.take (Lib.indexByte (l.take 21) 101).toNat) with
    | some n => (l.drop ((Lib.indexByte (l.take 21) 101).toNat + 1), 0, n)
    | none => ([], 4, 0)

set_option maxHeartbeats 1000000 in
theorem rInt_any (rb : Nat) (a : Option Addr) (c : Nat) (l : List UInt8) (B : Nat) (w : World) (h : Rd w rb a c l 0) (hB : B ≤ rb) (hv : VarsOk B w) :
    Calls Tryd.prog 53 #[.pointer (some ⟨rb, 0, none⟩)] w fun r w' => r = .returned (.int .i64 (rdInt l).2.2) ∧ (∃ a c, Rd w' rb a c (rdInt l).1 (rdInt l).2.1) ∧ w.grownBy w' (some rb) := by
  have hBw : B ≤ w.heap.size := by have := h.blk.lt; omega
  cases l with
  | nil =>
    show Calls Tryd.prog 53 #[.pointer (some ⟨rb, 0, none⟩)] w fun r w' => r = .returned (.int .i64 0) ∧ (∃ a c, Rd w' rb a c [] 3) ∧ w.grownBy w' (some rb)
    go_enter Tryd.func53, Tryd.ntmps53
    go_wp2_with (go_at_call 67; refine (take_cut rb a c _ _ h).mono ?_; rintro r w' ⟨rfl, hr, hg⟩)
    go_ret
    exact ⟨rfl, ⟨_, _, hr⟩, hg⟩
  | cons x l =>
    by_cases hx : x = 105
    · subst hx
      have e0 : rdInt (105 :: l) = (if Lib.indexByte (l.take 21) 101 = -1 then (if 20 < l.length then ([], 4, 0) else ([], 3, 0)) else
          match numOf (l.take (Lib.indexByte (l.take 21) 101).toNat) with
          | some n => (l.drop ((Lib.indexByte (l.take 21) 101).toNat + 1), 0, n)
          | none => ([], 4, 0) : List UInt8 × Int × Int) := rfl
      by_cases hi : Lib.indexByte (l.take 21) 101 = -1
      · rw [e0, if_pos hi]
        by_cases hl : 20 < l.length
        · rw [if_pos hl]
          show Calls Tryd.prog 53 #[.pointer (some ⟨rb, 0, none⟩)] w fun r w' => r = .returned (.int .i64 0) ∧ (∃ a c, Rd w' rb a c [] 4) ∧ w.grownBy w' (some rb)
          have HI := Lib.hid hi
          clear hi e0
          go_enter Tryd.func53, Tryd.ntmps53
          go_wp2_with (go_at_call 67; refine (take_ok rb a c 105 l _ _ h (by decide)).mono ?_; rintro r w1 ⟨rfl, ⟨p1, hr1⟩, hg1⟩)
          go_wp2_with (go_at_call 68; refine (number_long rb p1 _ l 20 101 _ hr1 (by omega) HI.out hl).mono ?_; rintro r w2 ⟨rfl, hr2, hg2⟩)
          go_ret
          exact ⟨rfl, ⟨_, _, hr2⟩, grownBy_trans hg1 hg2⟩
        · rw [if_neg hl]
          show Calls Tryd.prog 53 #[.pointer (some ⟨rb, 0, none⟩)] w fun r w' => r = .returned (.int .i64 0) ∧ (∃ a c, Rd w' rb a c [] 3) ∧ w.grownBy w' (some rb)
          have HI := Lib.hid hi
          clear hi e0
          go_enter Tryd.func53, Tryd.ntmps53
          go_wp2_with (go_at_call 67; refine (take_ok rb a c 105 l _ _ h (by decide)).mono ?_; rintro r w1 ⟨rfl, ⟨p1, hr1⟩, hg1⟩)
          go_wp2_with (go_at_call 68; refine (number_cut rb p1 _ l 20 101 _ hr1 (by omega) HI.out (by omega)).mono ?_; rintro r w2 ⟨rfl, hr2, hg2⟩)
          go_ret
          exact ⟨rfl, ⟨_, _, hr2⟩, grownBy_trans hg1 hg2⟩
      · rw [e0, if_neg hi]
        obtain ⟨k, hk⟩ : ∃ k : Nat, Lib.indexByte (l.take 21) 101 = k := ⟨(Lib.indexByte (l.take 21) 101).toNat, by have := Lib.indexByte_ge (l.take 21) 101; omega⟩
        rw [hk, Int.toNat_natCast]
        have HI := Lib.hid hk
        clear hi e0 hk
        cases hn : numOf (l.take k) with
        | none =>
          show Calls Tryd.prog 53 #[.pointer (some ⟨rb, 0, none⟩)] w fun r w' => r = .returned (.int .i64 0) ∧ (∃ a c, Rd w' rb a c [] 4) ∧ w.grownBy w' (some rb)
          have HN := Lib.hid hn
          clear hn
          go_enter Tryd.func53, Tryd.ntmps53
          go_wp2_with (go_at_call 67; refine (take_ok rb a c 105 l _ _ h (by decide)).mono ?_; rintro r w1 ⟨rfl, ⟨p1, hr1⟩, hg1⟩)
          go_wp2_with (go_at_call 68; refine (number_bad rb p1 _ l 20 101 k B _ hr1 (by omega) HI.out hB (hv.on (below_of_grownBy hg1 hB hBw)) HN.out).mono ?_; rintro r w2 ⟨rfl, hr2, hg2⟩)
          go_ret
          exact ⟨rfl, ⟨_, _, hr2⟩, grownBy_trans hg1 hg2⟩
        | some n =>
          show Calls Tryd.prog 53 #[.pointer (some ⟨rb, 0, none⟩)] w fun r w' => r = .returned (.int .i64 n) ∧ (∃ a c, Rd w' rb a c (l.drop (k + 1)) 0) ∧ w.grownBy w' (some rb)
          have HN := Lib.hid hn
          clear hn
          go_enter Tryd.func53, Tryd.ntmps53
          go_wp2_with (go_at_call 67; refine (take_ok rb a c 105 l _ _ h (by decide)).mono ?_; rintro r w1 ⟨rfl, ⟨p1, hr1⟩, hg1⟩)
          go_wp2_with (go_at_call 68; refine (number_ok rb p1 _ l 20 101 k B _ hr1 (by omega) HI.out hB (hv.on (below_of_grownBy hg1 hB hBw)) n HN.out).mono ?_; rintro r w2 ⟨rfl, ⟨p2, hr2⟩, hg2⟩)
          go_ret
          exact ⟨rfl, ⟨_, _, hr2⟩, grownBy_trans hg1 hg2⟩
    · have e0 : rdInt (x :: l) = ([], 4, 0) := by simp [rdInt, hx]
      rw [e0]
      show Calls Tryd.prog 53 #[.pointer (some ⟨rb, 0, none⟩)] w fun r w' => r = .returned (.int .i64 0) ∧ (∃ a c, Rd w' rb a c [] 4) ∧ w.grownBy w' (some rb)
      have hxb : ((x.toNat : Int) != 105) = true := by
        have : x.toNat ≠ 105 := fun e => hx (by apply UInt8.toNat_inj.1; simpa using e)
        simp; omega
      clear hx e0
      go_enter Tryd.func53, Tryd.ntmps53
      go_wp2_with (go_at_call 67; refine (take_other rb a c x l _ _ h hxb).mono ?_; rintro r w1 ⟨rfl, hr1, hg1⟩)
      go_ret
      exact ⟨rfl, ⟨_, _, hr1⟩, hg1⟩

end Go.Proofs.YtchhdffehkcecaaDoor
