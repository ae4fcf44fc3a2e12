/-
  What a reader of package ben does to read a number (number), and Int: in the words of a list of bytes. What Text of a reader of package ben does, in the words of a list of bytes. What ben.Int, ben.Text and ben.New do: the bytes that are laid, in memory of the call's own; a reader of bytes. What ben.New and ben.List do: a reader of bytes, and the bytes of all parts in memory of the call's own.
-/
import Derived.Test.YtmanjegdgjeeiaaGreatDoorKW01
import Derived.Lib.ParseIntB
import Derived.Lib.Slices
import Derived.Lib.AppendStr
import Derived.OwnWalk
import Derived.BigCall
import Derived.Laws.AppendOwnNone
namespace Go.Proofs.YtmanjegdgjeeiaaGreatDoor
open Go.RowKit

/-- The number whose digits these are, if there is one. -/
def numOf (d : List UInt8) : Option Int :=
  match Lib.parseIntB 64 d with
  | .ok n => if Lib.itoa n = d then some n else none
  | _ => none

theorem numOf_some {d : List UInt8} {n : Int} (h : numOf d = some n) : Lib.parseIntB 64 d = .ok n ∧ Lib.itoa n = d := by
  unfold numOf at h
  split at h
  · split at h
    · cases h; exact ⟨by assumption, by assumption⟩
    · cases h
  · cases h

set_option maxHeartbeats 400000 in
theorem number_long (rb : Nat) (p : Addr) (c : Nat) (l : List UInt8) (m : Nat) (ch : UInt8) (w : World) (h : Rd w rb (some p) c l 0) (hm : m ≤ 100) (hidx : Lib.indexByte (l.take (m + 1)) ch = -1) (hlong : m < l.length) :
    Calls Tryz.prog 86 #[.pointer (some ⟨rb, 0, none⟩), .int .i64 m, .int .u8 ch.toNat] w fun r w' => r = .returned (.tuple #[.int .i64 0, .bool false]) ∧ Rd w' rb none 0 [] 4 ∧ w.grownBy w' (some rb) := by
  have HI := Lib.hid hidx
  clear hidx
  go_enter Tryz.func86, Tryz.ntmps86
  go_wp2_with (go_at_call 113; refine (row_long rb p c l m ch _ h hm HI.out hlong).mono ?_; rintro r w' ⟨rfl, hr, hg⟩)
  go_ret2
  exact ⟨rfl, hr, hg⟩

set_option maxHeartbeats 400000 in
theorem number_cut (rb : Nat) (p : Addr) (c : Nat) (l : List UInt8) (m : Nat) (ch : UInt8) (w : World) (h : Rd w rb (some p) c l 0) (hm : m ≤ 100) (hidx : Lib.indexByte (l.take (m + 1)) ch = -1) (hshort : l.length ≤ m) :
    Calls Tryz.prog 86 #[.pointer (some ⟨rb, 0, none⟩), .int .i64 m, .int .u8 ch.toNat] w fun r w' => r = .returned (.tuple #[.int .i64 0, .bool false]) ∧ Rd w' rb none 0 [] 3 ∧ w.grownBy w' (some rb) := by
  have HI := Lib.hid hidx
  clear hidx
  go_enter Tryz.func86, Tryz.ntmps86
  go_wp2_with (go_at_call 113; refine (row_cut rb p c l m ch _ h hm HI.out hshort).mono ?_; rintro r w' ⟨rfl, hr, hg⟩)
  go_ret2
  exact ⟨rfl, hr, hg⟩

set_option maxHeartbeats 400000 in
theorem number_bad (rb : Nat) (p : Addr) (c : Nat) (l : List UInt8) (m : Nat) (ch : UInt8) (k B : Nat) (w : World) (h : Rd w rb (some p) c l 0) (hm : m ≤ 100) (hidx : Lib.indexByte (l.take (m + 1)) ch = k) (hB : B ≤ rb) (hv : VarsOk B w)
    (hn : numOf (l.take k) = none) :
    Calls Tryz.prog 86 #[.pointer (some ⟨rb, 0, none⟩), .int .i64 m, .int .u8 ch.toNat] w fun r w' => r = .returned (.tuple #[.int .i64 0, .bool false]) ∧ Rd w' rb none 0 [] 4 ∧ w.grownBy w' (some rb) := by
  obtain ⟨hk, hkm, _⟩ := hit_facts hidx
  have hBw : B ≤ w.heap.size := by have := h.blk.lt; omega
  have hl : (l.take k).length ≤ 1000 := by simp; omega
  have HI := Lib.hid hidx
  clear hidx
  by_cases hp : ∃ v, Lib.parseIntB 64 (l.take k) = .ok v
  · obtain ⟨v, hp⟩ := hp
    have hne : Lib.itoa v ≠ l.take k := by
      intro e
      unfold numOf at hn
      rw [hp] at hn
      simp [e] at hn
    have hbd := Lib.parseIntB_bounds (B := 64) hp
    have hb0 : -9223372036854775808 ≤ v ∧ v ≤ 9223372036854775807 := by have e : ((2 ^ (64 - 1) : Nat) : Int) = 9223372036854775808 := by decide
                                                                        rw [e] at hbd; omega
    have HV : Hid (-9223372036854775808 ≤ v ∧ v ≤ 9223372036854775807) := hb0
    have HP : Hid (Lib.parseIntB 64 (l.take k) = .ok v) := hp
    clear hp hn hbd hb0
    generalize hd : Lib.itoa v = d at hne
    have HD : Hid (Lib.itoa v = d) := hd
    clear hd
    go_enter Tryz.func86, Tryz.ntmps86
    go_wp2_with (go_at_call 113; refine (row_hit rb p c l m ch k _ h hm HI.out).mono ?_; rintro r w1 ⟨rfl, ⟨p1, hr1⟩, hg1⟩; refine Hid.out ?_)
    refine Lib.hid ?_
    have hv1 := hv.on (below_of_grownBy hg1 hB hBw)
    have hBw1 : B ≤ w1.heap.size := by have := hg1.size; omega
    go_wp2_with (go_at_call 114; refine (parseInt_good (l.take k) hl v _ HP.out).mono ?_; rintro r w2 ⟨rfl, hb2⟩; refine Hid.out ?_)
    refine Lib.hid ?_
    have hv2 := hv1.on (hb2.mono hBw1)
    go_wp2_with (go_at_call 115; refine (formatInt_any v HV.out.1 HV.out.2 _ B hv2).mono ?_; rintro r w3 ⟨rfl, hb3⟩; refine Hid.out ?_)
    refine Lib.hid ?_
    rw [HD.out]
    have hq : (d == l.take k) = false := by simpa using hne
    go_wp2_with (go_at_call 85; refine (fail_any rb _ _ _ 0 4 _ ((hr1.below hb2).below hb3).blk).mono ?_; rintro r w4 ⟨rfl, hb4, hg4⟩)
    go_ret2
    exact ⟨rfl, Rd.failed hb4, grownBy_trans hg1 (grownBy_trans (grownBy_of_below hb2) (grownBy_trans (grownBy_of_below hb3) hg4))⟩
  · have HP : Hid (∀ v, Lib.parseIntB 64 (l.take k) ≠ .ok v) := fun v e => hp ⟨v, e⟩
    clear hp hn
    go_enter Tryz.func86, Tryz.ntmps86
    go_wp2_with (go_at_call 113; refine (row_hit rb p c l m ch k _ h hm HI.out).mono ?_; rintro r w1 ⟨rfl, ⟨p1, hr1⟩, hg1⟩)
    go_wp2_with (go_at_call 114; refine (parseInt_bad (l.take k) hl _ B (hv.on (below_of_grownBy hg1 hB hBw)) HP.out).mono ?_; rintro r w2 ⟨n2, t2, v2, rfl, hb2⟩)
    go_wp2_with (go_at_call 85; refine (fail_any rb _ _ _ 0 4 _ (hr1.below hb2).blk).mono ?_; rintro r w3 ⟨rfl, hb3, hg3⟩)
    go_ret2
    exact ⟨rfl, Rd.failed hb3, grownBy_trans hg1 (grownBy_trans (grownBy_of_below hb2) hg3)⟩

set_option maxHeartbeats 400000 in
theorem number_ok (rb : Nat) (p : Addr) (c : Nat) (l : List UInt8) (m : Nat) (ch : UInt8) (k B : Nat) (w : World) (h : Rd w rb (some p) c l 0) (hm : m ≤ 100) (hidx : Lib.indexByte (l.take (m + 1)) ch = k) (hB : B ≤ rb) (hv : VarsOk B w)
    (n : Int) (hn : numOf (l.take k) = some n) :
    Calls Tryz.prog 86 #[.pointer (some ⟨rb, 0, none⟩), .int .i64 m, .int .u8 ch.toNat] w fun r w' => r = .returned (.tuple #[.int .i64 n, .bool true]) ∧ (∃ p, Rd w' rb (some p) (c - (k + 1)) (l.drop (k + 1)) 0) ∧ w.grownBy w' (some rb) := by
  obtain ⟨hk, hkm, _⟩ := hit_facts hidx
  have hBw : B ≤ w.heap.size := by have := h.blk.lt; omega
  have hl : (l.take k).length ≤ 1000 := by simp; omega
  have HI := Lib.hid hidx
  obtain ⟨hp, hd⟩ := numOf_some hn
  have hbd := Lib.parseIntB_bounds (B := 64) hp
  have hb0 : -9223372036854775808 ≤ n ∧ n ≤ 9223372036854775807 := by
    have e : ((2 ^ (64 - 1) : Nat) : Int) = 9223372036854775808 := by decide
    rw [e] at hbd; omega
  have HV : Hid (-9223372036854775808 ≤ n ∧ n ≤ 9223372036854775807) := hb0
  have HP : Hid (Lib.parseIntB 64 (l.take k) = .ok n) := hp
  have HD : Hid (Lib.itoa n = l.take k) := hd
  clear hp hn hbd hb0 hd hidx
  go_enter Tryz.func86, Tryz.ntmps86
  go_wp2_with (go_at_call 113; refine (row_hit rb p c l m ch k _ h hm HI.out).mono ?_; rintro r w1 ⟨rfl, ⟨p1, hr1⟩, hg1⟩; refine Hid.out ?_)
  refine Lib.hid ?_
  have hv1 := hv.on (below_of_grownBy hg1 hB hBw)
  have hBw1 : B ≤ w1.heap.size := by have := hg1.size; omega
  go_wp2_with (go_at_call 114; refine (parseInt_good (l.take k) hl n _ HP.out).mono ?_; rintro r w2 ⟨rfl, hb2⟩; refine Hid.out ?_)
  refine Lib.hid ?_
  have hv2 := hv1.on (hb2.mono hBw1)
  go_wp2_with (go_at_call 115; refine (formatInt_any n HV.out.1 HV.out.2 _ B hv2).mono ?_; rintro r w3 ⟨rfl, hb3⟩; refine Hid.out ?_)
  refine Lib.hid ?_
  rw [HD.out]
  go_wp2
  go_ret2
  exact ⟨rfl, ⟨p1, (hr1.below hb2).below hb3⟩, grownBy_trans hg1 (grownBy_trans (grownBy_of_below hb2) (grownBy_of_below hb3))⟩

/- Int -/
set_option maxHeartbeats 400000 in
theorem rInt_nil (w : World) : Calls Tryz.prog 52 #[.pointer none] w fun r w' => r = .returned (.int .i64 0) ∧ w' = w := by
  go_enter Tryz.func52, Tryz.ntmps52
  go_wp2_with (go_at_call 83; refine (take_nil _ _).mono ?_; rintro r w' ⟨rfl, rfl⟩)
  go_ret
  exact ⟨rfl, rfl⟩
set_option maxHeartbeats 400000 in
theorem rInt_err (rb : Nat) (a : Option Addr) (c : Nat) (l : List UInt8) (e : Int) (w : World) (h : Rd w rb a c l e) (he : (e != 0) = true) :
    Calls Tryz.prog 52 #[.pointer (some ⟨rb, 0, none⟩)] w fun r w' => r = .returned (.int .i64 0) ∧ w' = w := by
  go_enter Tryz.func52, Tryz.ntmps52
  go_wp2_with (go_at_call 83; refine (take_err rb a c l e _ _ h he).mono ?_; rintro r w' ⟨rfl, rfl⟩)
  go_ret
  exact ⟨rfl, rfl⟩

/-- What Int makes of what is left: what is left then, the error, the number. -/
def rdInt : List UInt8 → List UInt8 × Int × Int
  | [] => ([], 3, 0)
  | x :: l => if x ≠ 105 then ([], 4, 0) else
    if Lib.indexByte (l.take 21) 101 = -1 then (if 20 < l.length then ([], 4, 0) else ([], 3, 0)) else
    match numOf (l.take (Lib.indexByte (l.take 21) 101).toNat) with
    | some n => (l.drop ((Lib.indexByte (l.take 21) 101).toNat + 1), 0, n)
    | none => ([], 4, 0)

set_option maxHeartbeats 1000000 in
theorem rInt_any (rb : Nat) (a : Option Addr) (c : Nat) (l : List UInt8) (B : Nat) (w : World) (h : Rd w rb a c l 0) (hB : B ≤ rb) (hv : VarsOk B w) :
    Calls Tryz.prog 52 #[.pointer (some ⟨rb, 0, none⟩)] w fun r w' => r = .returned (.int .i64 (rdInt l).2.2) ∧ (∃ a c, Rd w' rb a c (rdInt l).1 (rdInt l).2.1) ∧ w.grownBy w' (some rb) := by
  have hBw : B ≤ w.heap.size := by have := h.blk.lt; omega
  cases l with
  | nil =>
    show Calls Tryz.prog 52 #[.pointer (some ⟨rb, 0, none⟩)] w fun r w' => r = .returned (.int .i64 0) ∧ (∃ a c, Rd w' rb a c [] 3) ∧ w.grownBy w' (some rb)
    go_enter Tryz.func52, Tryz.ntmps52
    go_wp2_with (go_at_call 83; refine (take_cut rb a c _ _ h).mono ?_; rintro r w' ⟨rfl, hr, hg⟩)
    go_ret
    exact ⟨rfl, ⟨_, _, hr⟩, hg⟩
  | cons x l =>
    by_cases hx : x = 105
    · subst hx
      have e0 : rdInt (105 :: l) = (if Lib.indexByte (l.take 21) 101 = -1 then (if 20 < l.length then ([], 4, 0) else ([], 3, 0)) else
          match numOf (l.take (Lib.indexByte (l.take 21) 101).toNat) with
          | some n => (l.drop ((Lib.indexByte (l.take 21) 101).toNat + 1), 0, n)
          | none => ([], 4, 0) : List UInt8 × Int × Int) := rfl
      by_cases hi : Lib.indexByte (l.take 21) 101 = -1
      · rw [e0, if_pos hi]
        by_cases hl : 20 < l.length
        · rw [if_pos hl]
          show Calls Tryz.prog 52 #[.pointer (some ⟨rb, 0, none⟩)] w fun r w' => r = .returned (.int .i64 0) ∧ (∃ a c, Rd w' rb a c [] 4) ∧ w.grownBy w' (some rb)
          have HI := Lib.hid hi
          clear hi e0
          go_enter Tryz.func52, Tryz.ntmps52
          go_wp2_with (go_at_call 83; refine (take_ok rb a c 105 l _ _ h (by decide)).mono ?_; rintro r w1 ⟨rfl, ⟨p1, hr1⟩, hg1⟩)
          go_wp2_with (go_at_call 86; refine (number_long rb p1 _ l 20 101 _ hr1 (by omega) HI.out hl).mono ?_; rintro r w2 ⟨rfl, hr2, hg2⟩)
          go_ret
          exact ⟨rfl, ⟨_, _, hr2⟩, grownBy_trans hg1 hg2⟩
        · rw [if_neg hl]
          show Calls Tryz.prog 52 #[.pointer (some ⟨rb, 0, none⟩)] w fun r w' => r = .returned (.int .i64 0) ∧ (∃ a c, Rd w' rb a c [] 3) ∧ w.grownBy w' (some rb)
          have HI := Lib.hid hi
          clear hi e0
          go_enter Tryz.func52, Tryz.ntmps52
          go_wp2_with (go_at_call 83; refine (take_ok rb a c 105 l _ _ h (by decide)).mono ?_; rintro r w1 ⟨rfl, ⟨p1, hr1⟩, hg1⟩)
          go_wp2_with (go_at_call 86; refine (number_cut rb p1 _ l 20 101 _ hr1 (by omega) HI.out (by omega)).mono ?_; rintro r w2 ⟨rfl, hr2, hg2⟩)
          go_ret
          exact ⟨rfl, ⟨_, _, hr2⟩, grownBy_trans hg1 hg2⟩
      · rw [e0, if_neg hi]
        obtain ⟨k, hk⟩ : ∃ k : Nat, Lib.indexByte (l.take 21) 101 = k := ⟨(Lib.indexByte (l.take 21) 101).toNat, by have := Lib.indexByte_ge (l.take 21) 101; omega⟩
        rw [hk, Int.toNat_natCast]
        have HI := Lib.hid hk
        clear hi e0 hk
        cases hn : numOf (l.take k) with
        | none =>
          show Calls Tryz.prog 52 #[.pointer (some ⟨rb, 0, none⟩)] w fun r w' => r = .returned (.int .i64 0) ∧ (∃ a c, Rd w' rb a c [] 4) ∧ w.grownBy w' (some rb)
          have HN := Lib.hid hn
          clear hn
          go_enter Tryz.func52, Tryz.ntmps52
          go_wp2_with (go_at_call 83; refine (take_ok rb a c 105 l _ _ h (by decide)).mono ?_; rintro r w1 ⟨rfl, ⟨p1, hr1⟩, hg1⟩)
          go_wp2_with (go_at_call 86; refine (number_bad rb p1 _ l 20 101 k B _ hr1 (by omega) HI.out hB (hv.on (below_of_grownBy hg1 hB hBw)) HN.out).mono ?_; rintro r w2 ⟨rfl, hr2, hg2⟩)
          go_ret
          exact ⟨rfl, ⟨_, _, hr2⟩, grownBy_trans hg1 hg2⟩
        | some n =>
          show Calls Tryz.prog 52 #[.pointer (some ⟨rb, 0, none⟩)] w fun r w' => r = .returned (.int .i64 n) ∧ (∃ a c, Rd w' rb a c (l.drop (k + 1)) 0) ∧ w.grownBy w' (some rb)
          have HN := Lib.hid hn
          clear hn
          go_enter Tryz.func52, Tryz.ntmps52
          go_wp2_with (go_at_call 83; refine (take_ok rb a c 105 l _ _ h (by decide)).mono ?_; rintro r w1 ⟨rfl, ⟨p1, hr1⟩, hg1⟩)
          go_wp2_with (go_at_call 86; refine (number_ok rb p1 _ l 20 101 k B _ hr1 (by omega) HI.out hB (hv.on (below_of_grownBy hg1 hB hBw)) n HN.out).mono ?_; rintro r w2 ⟨rfl, ⟨p2, hr2⟩, hg2⟩)
          go_ret
          exact ⟨rfl, ⟨_, _, hr2⟩, grownBy_trans hg1 hg2⟩
    · have e0 : rdInt (x :: l) = ([], 4, 0) := by simp [rdInt, hx]
      rw [e0]
      show Calls Tryz.prog 52 #[.pointer (some ⟨rb, 0, none⟩)] w fun r w' => r = .returned (.int .i64 0) ∧ (∃ a c, Rd w' rb a c [] 4) ∧ w.grownBy w' (some rb)
      have hxb : ((x.toNat : Int) != 105) = true := by
        have : x.toNat ≠ 105 := fun e => hx (by apply UInt8.toNat_inj.1; simpa using e)
        simp; omega
      clear hx e0
      go_enter Tryz.func52, Tryz.ntmps52
      go_wp2_with (go_at_call 83; refine (take_other rb a c x l _ _ h hxb).mono ?_; rintro r w1 ⟨rfl, hr1, hg1⟩)
      go_ret
      exact ⟨rfl, ⟨_, _, hr1⟩, hg1⟩

end Go.Proofs.YtmanjegdgjeeiaaGreatDoor
namespace Go.Proofs.YtmanjegdgjeeiaaGreatDoor
open Go.RowKit

set_option maxHeartbeats 400000 in
theorem rText_nil (most : Int) (w : World) : Calls Tryz.prog 51 #[.pointer none, .int .i64 most] w fun r w' => r = .returned (.string ⟨#[]⟩) ∧ w' = w := by
  go_enter Tryz.func51, Tryz.ntmps51
  go_wp2_with (go_at_call 84; refine (first_nil _).mono ?_; rintro r w' ⟨rfl, rfl⟩)
  go_ret
  exact ⟨rfl, rfl⟩
set_option maxHeartbeats 400000 in
theorem rText_err (rb : Nat) (a : Option Addr) (c : Nat) (l : List UInt8) (e most : Int) (w : World) (h : Rd w rb a c l e) (he : (e != 0) = true) :
    Calls Tryz.prog 51 #[.pointer (some ⟨rb, 0, none⟩), .int .i64 most] w fun r w' => r = .returned (.string ⟨#[]⟩) ∧ w' = w := by
  go_enter Tryz.func51, Tryz.ntmps51
  go_wp2_with (go_at_call 84; refine (first_err rb a c l e _ h he).mono ?_; rintro r w' ⟨rfl, rfl⟩)
  go_ret
  exact ⟨rfl, rfl⟩
set_option maxHeartbeats 400000 in
theorem rText_end (rb : Nat) (a : Option Addr) (c : Nat) (most : Int) (w : World) (h : Rd w rb a c [] 0) :
    Calls Tryz.prog 51 #[.pointer (some ⟨rb, 0, none⟩), .int .i64 most] w fun r w' => r = .returned (.string ⟨#[]⟩) ∧ Rd w' rb none 0 [] 3 ∧ w.grownBy w' (some rb) := by
  go_enter Tryz.func51, Tryz.ntmps51
  go_wp2_with (go_at_call 84; refine (first_cut rb a c _ h).mono ?_; rintro r w' ⟨rfl, hr, hg⟩)
  go_ret
  exact ⟨rfl, hr, hg⟩
set_option maxHeartbeats 400000 in
theorem rText_low (rb : Nat) (a : Option Addr) (c : Nat) (x : UInt8) (l : List UInt8) (most : Int) (w : World) (h : Rd w rb a c (x :: l) 0) (hx : (x.toNat : Int) < 48) :
    Calls Tryz.prog 51 #[.pointer (some ⟨rb, 0, none⟩), .int .i64 most] w fun r w' => r = .returned (.string ⟨#[]⟩) ∧ Rd w' rb none 0 [] 4 ∧ w.grownBy w' (some rb) := by
  go_enter Tryz.func51, Tryz.ntmps51
  go_wp2_with (first | (go_at_call 84; refine (first_ok rb a c x l _ h).mono ?_; rintro r w' ⟨rfl, rfl⟩) | (go_at_call 85; refine (fail_any rb a _ c 0 4 _ h.blk).mono ?_; rintro r w' ⟨rfl, hb, hg⟩))
  go_ret
  exact ⟨rfl, Rd.failed hb, hg⟩
set_option maxHeartbeats 400000 in
theorem rText_high (rb : Nat) (a : Option Addr) (c : Nat) (x : UInt8) (l : List UInt8) (most : Int) (w : World) (h : Rd w rb a c (x :: l) 0) (h0 : ¬ (x.toNat : Int) < 48) (hx : 57 < (x.toNat : Int)) :
    Calls Tryz.prog 51 #[.pointer (some ⟨rb, 0, none⟩), .int .i64 most] w fun r w' => r = .returned (.string ⟨#[]⟩) ∧ Rd w' rb none 0 [] 4 ∧ w.grownBy w' (some rb) := by
  go_enter Tryz.func51, Tryz.ntmps51
  go_wp2_with (first | (go_at_call 84; refine (first_ok rb a c x l _ h).mono ?_; rintro r w' ⟨rfl, rfl⟩) | (go_at_call 85; refine (fail_any rb a _ c 0 4 _ h.blk).mono ?_; rintro r w' ⟨rfl, hb, hg⟩))
  go_ret
  exact ⟨rfl, Rd.failed hb, hg⟩

set_option maxHeartbeats 400000 in
theorem rText_rowlong (rb : Nat) (p : Addr) (c : Nat) (x : UInt8) (l : List UInt8) (most : Int) (w : World) (h : Rd w rb (some p) c (x :: l) 0) (hx0 : ¬ (x.toNat : Int) < 48) (hx1 : ¬ 57 < (x.toNat : Int)) (hidx : Lib.indexByte ((x :: l).take 11) 58 = -1) (hlong : 10 < (x :: l).length) :
    Calls Tryz.prog 51 #[.pointer (some ⟨rb, 0, none⟩), .int .i64 most] w fun r w' => r = .returned (.string ⟨#[]⟩) ∧ Rd w' rb none 0 [] 4 ∧ w.grownBy w' (some rb) := by
  have HI := Lib.hid hidx
  have HL := Lib.hid hlong
  clear hidx hlong
  go_enter Tryz.func51, Tryz.ntmps51
  go_wp2_with (first | (go_at_call 84; refine (first_ok rb (some p) c x l _ h).mono ?_; rintro r w' ⟨rfl, rfl⟩) | (go_at_call 86; refine (number_long rb p c (x :: l) 10 58 _ h (by omega) HI.out HL.out).mono ?_; rintro r w' ⟨rfl, hr, hg⟩))
  go_ret
  exact ⟨rfl, hr, hg⟩
set_option maxHeartbeats 400000 in
theorem rText_rowcut (rb : Nat) (p : Addr) (c : Nat) (x : UInt8) (l : List UInt8) (most : Int) (w : World) (h : Rd w rb (some p) c (x :: l) 0) (hx0 : ¬ (x.toNat : Int) < 48) (hx1 : ¬ 57 < (x.toNat : Int)) (hidx : Lib.indexByte ((x :: l).take 11) 58 = -1) (hshort : (x :: l).length ≤ 10) :
    Calls Tryz.prog 51 #[.pointer (some ⟨rb, 0, none⟩), .int .i64 most] w fun r w' => r = .returned (.string ⟨#[]⟩) ∧ Rd w' rb none 0 [] 3 ∧ w.grownBy w' (some rb) := by
  have HI := Lib.hid hidx
  have HL := Lib.hid hshort
  clear hidx hshort
  go_enter Tryz.func51, Tryz.ntmps51
  go_wp2_with (first | (go_at_call 84; refine (first_ok rb (some p) c x l _ h).mono ?_; rintro r w' ⟨rfl, rfl⟩) | (go_at_call 86; refine (number_cut rb p c (x :: l) 10 58 _ h (by omega) HI.out HL.out).mono ?_; rintro r w' ⟨rfl, hr, hg⟩))
  go_ret
  exact ⟨rfl, hr, hg⟩
set_option maxHeartbeats 400000 in
theorem rText_bad (rb : Nat) (p : Addr) (c : Nat) (x : UInt8) (l : List UInt8) (most : Int) (w : World) (h : Rd w rb (some p) c (x :: l) 0) (hx0 : ¬ (x.toNat : Int) < 48) (hx1 : ¬ 57 < (x.toNat : Int)) (B : Nat) (hB : B ≤ rb) (hv : VarsOk B w) (k : Nat) (hidx : Hid (Lib.indexByte ((x :: l).take 11) 58 = k)) (hn : Hid (numOf ((x :: l).take k) = none)) :
    Calls Tryz.prog 51 #[.pointer (some ⟨rb, 0, none⟩), .int .i64 most] w fun r w' => r = .returned (.string ⟨#[]⟩) ∧ Rd w' rb none 0 [] 4 ∧ w.grownBy w' (some rb) := by
  go_enter Tryz.func51, Tryz.ntmps51
  go_wp2_with (first | (go_at_call 84; refine (first_ok rb (some p) c x l _ h).mono ?_; rintro r w' ⟨rfl, rfl⟩) | (go_at_call 86; refine (number_bad rb p c (x :: l) 10 58 k B _ h (by omega) hidx.out hB hv hn.out).mono ?_; rintro r w' ⟨rfl, hr, hg⟩))
  go_ret
  exact ⟨rfl, hr, hg⟩
set_option maxHeartbeats 400000 in
theorem rText_great (rb : Nat) (p : Addr) (c : Nat) (x : UInt8) (l : List UInt8) (most : Int) (w : World) (h : Rd w rb (some p) c (x :: l) 0) (hx0 : ¬ (x.toNat : Int) < 48) (hx1 : ¬ 57 < (x.toNat : Int)) (B : Nat) (hB : B ≤ rb) (hv : VarsOk B w) (k : Nat) (hidx : Hid (Lib.indexByte ((x :: l).take 11) 58 = k)) (n : Int) (hn : Hid (numOf ((x :: l).take k) = some n)) (hg : 1000000000 < n) :
    Calls Tryz.prog 51 #[.pointer (some ⟨rb, 0, none⟩), .int .i64 most] w fun r w' => r = .returned (.string ⟨#[]⟩) ∧ Rd w' rb none 0 [] 4 ∧ w.grownBy w' (some rb) := by
  go_enter Tryz.func51, Tryz.ntmps51
  go_wp2_with (first | (go_at_call 84; refine (first_ok rb (some p) c x l _ h).mono ?_; rintro r w' ⟨rfl, rfl⟩) | (go_at_call 86; refine (number_ok rb p c (x :: l) 10 58 k B _ h (by omega) hidx.out hB hv n hn.out).mono ?_; rintro r w1 ⟨rfl, ⟨p1, hr1⟩, hg1⟩; refine Hid.out ?_))
  refine Lib.hid ?_
  go_wp2_with (go_at_call 85; refine (fail_any rb _ _ _ 0 4 _ hr1.blk).mono ?_; rintro r w2 ⟨rfl, hb2, hg2⟩)
  go_ret
  exact ⟨rfl, Rd.failed hb2, grownBy_trans hg1 hg2⟩
set_option maxHeartbeats 400000 in
theorem rText_most (rb : Nat) (p : Addr) (c : Nat) (x : UInt8) (l : List UInt8) (most : Int) (w : World) (h : Rd w rb (some p) c (x :: l) 0) (hx0 : ¬ (x.toNat : Int) < 48) (hx1 : ¬ 57 < (x.toNat : Int)) (B : Nat) (hB : B ≤ rb) (hv : VarsOk B w) (k : Nat) (hidx : Hid (Lib.indexByte ((x :: l).take 11) 58 = k)) (n : Int) (hn : Hid (numOf ((x :: l).take k) = some n)) (hg : ¬ 1000000000 < n) (hm : most < n) :
    Calls Tryz.prog 51 #[.pointer (some ⟨rb, 0, none⟩), .int .i64 most] w fun r w' => r = .returned (.string ⟨#[]⟩) ∧ Rd w' rb none 0 [] 5 ∧ w.grownBy w' (some rb) := by
  go_enter Tryz.func51, Tryz.ntmps51
  go_wp2_with (first | (go_at_call 84; refine (first_ok rb (some p) c x l _ h).mono ?_; rintro r w' ⟨rfl, rfl⟩) | (go_at_call 86; refine (number_ok rb p c (x :: l) 10 58 k B _ h (by omega) hidx.out hB hv n hn.out).mono ?_; rintro r w1 ⟨rfl, ⟨p1, hr1⟩, hg1⟩; refine Hid.out ?_))
  refine Lib.hid ?_
  go_wp2_with (go_at_call 85; refine (fail_any rb _ _ _ 0 5 _ hr1.blk).mono ?_; rintro r w2 ⟨rfl, hb2, hg2⟩)
  go_ret
  exact ⟨rfl, Rd.failed hb2, grownBy_trans hg1 hg2⟩
set_option maxHeartbeats 400000 in
theorem rText_short (rb : Nat) (p : Addr) (c : Nat) (x : UInt8) (l : List UInt8) (most : Int) (w : World) (h : Rd w rb (some p) c (x :: l) 0) (hx0 : ¬ (x.toNat : Int) < 48) (hx1 : ¬ 57 < (x.toNat : Int)) (B : Nat) (hB : B ≤ rb) (hv : VarsOk B w) (k : Nat) (hidx : Hid (Lib.indexByte ((x :: l).take 11) 58 = k)) (n : Int) (hn : Hid (numOf ((x :: l).take k) = some n)) (hg : ¬ 1000000000 < n) (hm : ¬ most < n) (q : List UInt8) (hq : Hid (q = (x :: l).drop (k + 1))) (hs : (q.length : Int) < n) :
    Calls Tryz.prog 51 #[.pointer (some ⟨rb, 0, none⟩), .int .i64 most] w fun r w' => r = .returned (.string ⟨#[]⟩) ∧ Rd w' rb none 0 [] 3 ∧ w.grownBy w' (some rb) := by
  go_enter Tryz.func51, Tryz.ntmps51
  go_wp2_with (first | (go_at_call 84; refine (first_ok rb (some p) c x l _ h).mono ?_; rintro r w' ⟨rfl, rfl⟩) | (go_at_call 86; refine (number_ok rb p c (x :: l) 10 58 k B _ h (by omega) hidx.out hB hv n hn.out).mono ?_; rintro r w1 ⟨rfl, ⟨p1, hr1⟩, hg1⟩; refine Hid.out ?_))
  refine Lib.hid ?_
  rw [← hq.out] at hr1
  have c1 := hr1.blk.cell0
  go_wp2_with (go_at_call 85; refine (fail_any rb _ _ _ 0 3 _ hr1.blk).mono ?_; rintro r w2 ⟨rfl, hb2, hg2⟩)
  go_ret
  exact ⟨rfl, Rd.failed hb2, grownBy_trans hg1 hg2⟩
set_option maxHeartbeats 400000 in
set_option maxRecDepth 100000 in
theorem rText_ok (rb : Nat) (p : Addr) (c : Nat) (x : UInt8) (l : List UInt8) (most : Int) (w : World) (h : Rd w rb (some p) c (x :: l) 0) (hx0 : ¬ (x.toNat : Int) < 48) (hx1 : ¬ 57 < (x.toNat : Int)) (B : Nat) (hB : B ≤ rb) (hv : VarsOk B w) (k : Nat) (hidx : Hid (Lib.indexByte ((x :: l).take 11) 58 = k)) (n : Int) (hn : Hid (numOf ((x :: l).take k) = some n)) (hg : ¬ 1000000000 < n) (hm : ¬ most < n) (q : List UInt8) (hq : Hid (q = (x :: l).drop (k + 1))) (j : Nat) (hj : Hid (n = j)) (hs : j ≤ q.length) :
    Calls Tryz.prog 51 #[.pointer (some ⟨rb, 0, none⟩), .int .i64 most] w fun r w' => r = .returned (.string ⟨(q.take j).toArray⟩) ∧ (∃ a c, Rd w' rb a c (q.drop j) 0) ∧ w.grownBy w' (some rb) := by
  go_enter Tryz.func51, Tryz.ntmps51
  go_wp2_with (first | (go_at_call 84; refine (first_ok rb (some p) c x l _ h).mono ?_; rintro r w' ⟨rfl, rfl⟩) | (go_at_call 86; refine (number_ok rb p c (x :: l) 10 58 k B _ h (by omega) hidx.out hB hv _ hn.out).mono ?_; rintro r w1 ⟨rfl, ⟨p1, hr1⟩, hg1⟩; refine Hid.out ?_))
  refine Lib.hid ?_
  rw [← hq.out] at hr1
  generalize c - (k + 1) = c1 at hr1
  have c0 := hr1.blk.cell0
  have f0 := hr1.blk.frozen 0
  have hle := hr1.le
  have hcv := convert_take hr1.bytes j c1 0 hs
  have e0 : w1.drewN 0 = w1 := rfl
  rw [e0] at hcv
  clear e0
  have hs1 : ∀ (w : World), (Instr.slice 86 (.slice (some p1) q.length c1) none (some (.int .i64 n)) none).run Tryz.prog w = .ok (.slice (some p1) j c1) w := by
    intro w; rw [hj.out]; exact slice_to (some p1) q.length c1 j w (by omega)
  have hnl : ¬ (q.length : Int) < n := by rw [hj.out]; omega
  have hs2 : ∃ a2, (∀ (w : World), (Instr.slice 86 (.slice (some p1) q.length c1) (some (.int .i64 n)) none none).run Tryz.prog w = .ok (.slice a2 (q.length - j) (c1 - j)) w) ∧ Hid (Rd (w1.setCell ⟨rb, 0, none⟩ (.slice a2 (q.length - j) (c1 - j))) rb a2 (c1 - j) (q.drop j) 0) :=
    ⟨_, fun w => by rw [hj.out]; exact slice_from (some p1) q.length c1 j w hs, hr1.addr j hs⟩
  obtain ⟨a3, hs2, HR⟩ := hs2
  clear hle hs hr1
  go_wp2
  go_ret
  exact ⟨rfl, ⟨_, _, HR.out⟩, grownBy_trans hg1 (grownBy_setCell _ _ _ _)⟩

/-- What Text makes of what is left: what is left then, the error, the text. -/
def rdText (most : Int) : List UInt8 → List UInt8 × Int × List UInt8
  | [] => ([], 3, [])
  | x :: l => if x.toNat < 48 ∨ 57 < x.toNat then ([], 4, []) else
    if Lib.indexByte ((x :: l).take 11) 58 = -1 then (if 10 < l.length + 1 then ([], 4, []) else ([], 3, [])) else
    match numOf ((x :: l).take (Lib.indexByte ((x :: l).take 11) 58).toNat) with
    | none => ([], 4, [])
    | some n => if 1000000000 < n then ([], 4, []) else if most < n then ([], 5, []) else
      if (((x :: l).drop ((Lib.indexByte ((x :: l).take 11) 58).toNat + 1)).length : Int) < n then ([], 3, []) else
      (((x :: l).drop ((Lib.indexByte ((x :: l).take 11) 58).toNat + 1)).drop n.toNat, 0, ((x :: l).drop ((Lib.indexByte ((x :: l).take 11) 58).toNat + 1)).take n.toNat)

/-- Digits of which the first is one are no number below 0. -/
theorem numOf_digit {x : UInt8} {l : List UInt8} {k : Nat} {n : Int} (hx : 48 ≤ x.toNat) (h : numOf ((x :: l).take k) = some n) : 0 ≤ n := by
  obtain ⟨_, hd⟩ := numOf_some h
  rcases Int.lt_or_le n 0 with hn | hn
  · unfold Lib.itoa at hd
    rw [if_pos hn] at hd
    cases k with
    | zero => simp at hd
    | succ k => simp only [List.take_succ_cons, List.cons.injEq] at hd; have := hd.1; subst this; simp at hx
  · exact hn

theorem rText_any (rb : Nat) (a : Option Addr) (c : Nat) (l : List UInt8) (most : Int) (B : Nat) (w : World) (h : Rd w rb a c l 0) (hB : B ≤ rb) (hv : VarsOk B w) :
    Calls Tryz.prog 51 #[.pointer (some ⟨rb, 0, none⟩), .int .i64 most] w fun r w' => r = .returned (.string ⟨(rdText most l).2.2.toArray⟩) ∧ (∃ a c, Rd w' rb a c (rdText most l).1 (rdText most l).2.1) ∧ w.grownBy w' (some rb) := by
  have fin : ∀ {e : Int}, Calls Tryz.prog 51 #[.pointer (some ⟨rb, 0, none⟩), .int .i64 most] w (fun r w' => r = .returned (.string ⟨#[]⟩) ∧ Rd w' rb none 0 [] e ∧ w.grownBy w' (some rb)) → rdText most l = ([], e, []) →
      Calls Tryz.prog 51 #[.pointer (some ⟨rb, 0, none⟩), .int .i64 most] w fun r w' => r = .returned (.string ⟨(rdText most l).2.2.toArray⟩) ∧ (∃ a c, Rd w' rb a c (rdText most l).1 (rdText most l).2.1) ∧ w.grownBy w' (some rb) := by
    intro e hc he
    rw [he]
    exact hc.mono fun r w' ⟨h1, h2, h3⟩ => ⟨h1, ⟨_, _, h2⟩, h3⟩
  cases l with
  | nil => exact fin (rText_end rb a c most w h) rfl
  | cons x l =>
    by_cases hx0 : (x.toNat : Int) < 48
    · exact fin (rText_low rb a c x l most w h hx0) (by simp only [rdText]; rw [if_pos (Or.inl (by omega))])
    by_cases hx1 : 57 < (x.toNat : Int)
    · exact fin (rText_high rb a c x l most w h hx0 hx1) (by simp only [rdText]; rw [if_pos (Or.inr (by omega))])
    have hx : ¬ (x.toNat < 48 ∨ 57 < x.toNat) := by omega
    obtain ⟨b, o, rfl, _⟩ := h.head
    by_cases hi : Lib.indexByte ((x :: l).take 11) 58 = -1
    · by_cases hl : 10 < (x :: l).length
      · exact fin (rText_rowlong rb ⟨b, o, none⟩ c x l most w h hx0 hx1 hi hl) (by simp only [rdText]; rw [if_neg hx, if_pos hi, if_pos (by simpa using hl)])
      · exact fin (rText_rowcut rb ⟨b, o, none⟩ c x l most w h hx0 hx1 hi (by omega)) (by simp only [rdText]; rw [if_neg hx, if_pos hi, if_neg (by simpa using hl)])
    obtain ⟨k, hk⟩ : ∃ k : Nat, Lib.indexByte ((x :: l).take 11) 58 = k := ⟨(Lib.indexByte ((x :: l).take 11) 58).toNat, by have := Lib.indexByte_ge ((x :: l).take 11) 58; omega⟩
    have hkt : (Lib.indexByte ((x :: l).take 11) 58).toNat = k := by rw [hk]; exact Int.toNat_natCast k
    have e0 : rdText most (x :: l) = match numOf ((x :: l).take k) with
        | none => (([], 4, []) : List UInt8 × Int × List UInt8)
        | some n => if 1000000000 < n then ([], 4, []) else if most < n then ([], 5, []) else
          if (((x :: l).drop (k + 1)).length : Int) < n then ([], 3, []) else
          (((x :: l).drop (k + 1)).drop n.toNat, 0, ((x :: l).drop (k + 1)).take n.toNat) := by
      simp only [rdText]; rw [if_neg hx, if_neg hi, hkt]
    cases hn : numOf ((x :: l).take k) with
    | none => exact fin (rText_bad rb ⟨b, o, none⟩ c x l most w h hx0 hx1 B hB hv k hk hn) (by rw [e0, hn])
    | some n =>
      rw [hn] at e0
      simp only at e0
      by_cases hg : 1000000000 < n
      · exact fin (rText_great rb ⟨b, o, none⟩ c x l most w h hx0 hx1 B hB hv k hk n hn hg) (by rw [e0, if_pos hg])
      rw [if_neg hg] at e0
      by_cases hm : most < n
      · exact fin (rText_most rb ⟨b, o, none⟩ c x l most w h hx0 hx1 B hB hv k hk n hn hg hm) (by rw [e0, if_pos hm])
      rw [if_neg hm] at e0
      by_cases hs : (((x :: l).drop (k + 1)).length : Int) < n
      · exact fin (rText_short rb ⟨b, o, none⟩ c x l most w h hx0 hx1 B hB hv k hk n hn hg hm _ rfl hs) (by rw [e0, if_pos hs])
      rw [if_neg hs] at e0
      have h0 := numOf_digit (by omega) hn
      rw [e0]
      exact rText_ok rb ⟨b, o, none⟩ c x l most w h hx0 hx1 B hB hv k hk n hn hg hm _ rfl n.toNat (show n = _ by omega) (by omega)

end Go.Proofs.YtmanjegdgjeeiaaGreatDoor
namespace Go.Proofs.YtmanjegdgjeeiaaGreatDoor
open Go.RowKit

/-- A slice of bytes in blocks from B on. -/
def Own (w : World) (B : Nat) (v : Value) (l : List UInt8) : Prop := w.ownsRow B 5 1 v l.length (Lib.byteCells l)

theorem infoByte : (Tryz.prog.info? 5).map (fun i => (i.zero, i.size, i.bytes)) = some (some (.int .u8 0), 1, 1) := by kernel_rfl

theorem own_one (w : World) (B : Nat) (hB : B ≤ w.heap.size) (x : UInt8) : Own (w.alloc (.cells #[.int .u8 x.toNat] 5)) B (.slice (some ⟨w.heap.size, 0, none⟩) 1 1) [x] :=
  ⟨rfl, .inr ⟨w.heap.size, 1, #[.int .u8 x.toNat], rfl, hB, heap_alloc_new w _, Nat.le_refl _, by unfold maxLen; omega, rfl, rfl⟩⟩

theorem Own.of {w : World} {B n : Nat} {v : Value} {xs : List Value} {l : List UInt8} (h : w.ownsRow B 5 1 v n xs) (e : xs = Lib.byteCells l) : Own w B v l := by
  subst e
  have := h.1
  simp [Lib.byteCells] at this
  unfold Own
  rw [this]
  exact h

/-- The bytes that Int lays. -/
def putInt (n : Int) : List UInt8 := 105 :: Lib.itoa n ++ [101]
/-- The bytes that Text lays. -/
def putText (s : List UInt8) : List UInt8 := Lib.itoa s.length ++ 58 :: s

set_option maxHeartbeats 1000000 in
set_option maxRecDepth 100000 in
theorem Int_tab (n : Int) (h0 : -9223372036854775808 ≤ n) (h1 : n ≤ 9223372036854775807) (B : Nat) (w : World) (hB : B ≤ w.heap.size) (hv : Lib.TabBelow Tryz.prog B w "internal/strconv.uint64pow10" .u64 Lib.pow10Tab) :
    Calls Tryz.prog 42 #[.int .i64 n] w fun e w' => ∃ v, e = .returned v ∧ Own w' w.heap.size v (putInt n) ∧ Below w.heap.size w w' := by
  obtain ⟨i0, hi, hz0, hz1, hz2⟩ := info_parts infoByte
  have la := Lib.itoa_length_le n h0 h1
  have hv1 : Lib.TabBelow Tryz.prog B (w.alloc (.cells #[.int .u8 (105 : UInt8).toNat] 5)) "internal/strconv.uint64pow10" .u64 Lib.pow10Tab := fun w2 h2 => hv w2 (((Below.refl B w).alloc hB (.cells #[.int .u8 (105 : UInt8).toNat] 5)).trans h2)
  have ho1 : Own (w.alloc (.cells #[.int .u8 (105 : UInt8).toNat] 5)) w.heap.size (.slice (some ⟨w.heap.size, 0, none⟩) 1 1) [105] := own_one w w.heap.size (Nat.le_refl _) 105
  have hT : Lib.TabBelow Tryz.prog w.heap.size (w.alloc (.cells #[.int .u8 (105 : UInt8).toNat] 5)) "internal/strconv.uint64pow10" .u64 Lib.pow10Tab := fun w2 h2 => hv1 w2 (h2.mono hB)
  have hc := Tryz.strconv_AppendInt_10 w.heap.size 1 n h0 h1 (.slice (some ⟨w.heap.size, 0, none⟩) 1 1) _ (w.alloc (.cells #[.int .u8 (105 : UInt8).toNat] 5)) ho1 (by simp) (by omega) hT
  have HC := Lib.hid hc
  clear hc hT ho1 hv1
  go_enter Tryz.func42, Tryz.ntmps42
  go_wp2_with (go_at_call 80; refine HC.out.mono ?_; rintro e w1 ⟨v1, rfl, hown1, hnx1, -⟩; refine Hid.out ?_)
  refine Lib.hid ?_
  have hs1 := hnx1.size
  simp only [World.size_alloc] at hs1
  go_wp2_with (at_builtin; refine wpList_append_own _ rfl _ _ 86 rfl w.heap.size 5 i0 (.int .u8 0) 1 1 Tryz.underlying86 hi hz0 hz1 hz2 rfl (by decide) _ _ _ rfl (hown1.alloc _) ⟨w1.heap.size, 0, none⟩ 1 1 [Value.int .u8 101] rfl rfl (by intro j u' hj; match j, hj with | 0, hj => simp at hj; subst hj; simp [Addr.add]) (by intro u' hu'; simp at hu'; subst hu'; rfl) (by unfold maxLen; omega) (by omega) (by simp; omega) ?_)
  intro v2 w2 hown2 hgrow _
  have hnx2 : Below w.heap.size w w2 := ((((Below.refl w.heap.size w).alloc (Nat.le_refl _) _).trans hnx1).alloc (by omega) _).grown hgrow (by simp; omega) (fun k hk => (hown1.lt k hk).1)
  go_wp2
  go_ret
  exact ⟨v2, rfl, Own.of hown2 (by simp [putInt, Lib.byteCells]), hnx2⟩
theorem Int_any (n : Int) (h0 : -9223372036854775808 ≤ n) (h1 : n ≤ 9223372036854775807) (B : Nat) (w : World) (hB : B ≤ w.heap.size) (hv : VarsOk B w) :
    Calls Tryz.prog 42 #[.int .i64 n] w fun e w' => ∃ v, e = .returned v ∧ Own w' w.heap.size v (putInt n) ∧ Below w.heap.size w w' := Int_tab n h0 h1 B w hB hv.tab

set_option maxHeartbeats 1000000 in
set_option maxRecDepth 100000 in
theorem Text_tab (s : ByteArray) (hs : s.size ≤ 140737488351232) (B : Nat) (w : World) (hB : B ≤ w.heap.size) (hv : Lib.TabBelow Tryz.prog B w "internal/strconv.uint64pow10" .u64 Lib.pow10Tab) :
    Calls Tryz.prog 43 #[.string s] w fun e w' => ∃ v, e = .returned v ∧ Own w' w.heap.size v (putText s.data.toList) ∧ Below w.heap.size w w' := by
  obtain ⟨i0, hi, hz0, hz1, hz2⟩ := info_parts infoByte
  have la := Lib.itoa_length_le s.size (by omega) (by omega)
  have hT : Lib.TabBelow Tryz.prog w.heap.size w "internal/strconv.uint64pow10" .u64 Lib.pow10Tab := fun w2 h2 => hv w2 (h2.mono hB)
  have HC := Lib.hid (Tryz.strconv_AppendInt_10 w.heap.size 0 s.size (by omega) (by omega) (.slice none 0 0) [] w (World.ownsRow_nil _ _ _ _) (Nat.le_refl _) (by omega) hT)
  clear hT
  go_enter Tryz.func43, Tryz.ntmps43
  go_wp2_with (go_at_call 80; refine HC.out.mono ?_; rintro e w1 ⟨v1, rfl, hown1, hnx1, -⟩; refine Hid.out ?_)
  refine Lib.hid ?_
  rw [Nat.zero_add, List.nil_append] at hown1
  have hs1 := hnx1.size
  go_wp2_with (first | (at_builtin; refine wpList_append_own _ rfl _ _ 86 rfl w.heap.size 5 i0 (.int .u8 0) 1 1 Tryz.underlying86 hi hz0 hz1 hz2 rfl (by decide) _ _ _ rfl (hown1.alloc _) ⟨w1.heap.size, 0, none⟩ 1 1 [Value.int .u8 58] rfl rfl (by intro j u' hj; match j, hj with | 0, hj => simp at hj; subst hj; simp [Addr.add]) (by intro u' hu'; simp at hu'; subst hu'; rfl) (by unfold maxLen; omega) (by omega) (by simp; omega) ?_; refine Hid.out ?_))
  refine Lib.hid ?_
  intro v2 w2 hown2 hgrow _
  have hnx2 : Below w.heap.size w w2 := (hnx1.alloc hs1 _).grown hgrow (by simp; omega) (fun k hk => (hown1.lt k hk).1)
  have hs2 := hnx2.size
  go_wp2_with (at_builtin; refine Lib.wpList_append_own_string _ rfl _ _ 86 9 rfl w.heap.size 5 i0 Tryz.underlying86 Tryz.underlying9 hi hz0 hz1 hz2 _ _ _ rfl hown2 s rfl (by unfold maxLen; omega) (by omega) (by omega) ?_; refine Hid.out ?_)
  refine Lib.hid ?_
  intro v3 w3 hown3 hgrow3 _
  have hnx3 : Below w.heap.size w w3 := hnx2.grown hgrow3 (by omega) (fun k hk => (hown2.lt k hk).1)
  go_wp2
  go_ret
  exact ⟨v3, rfl, Own.of hown3 (by simp [putText, Lib.byteCells, Lib.strCells]), hnx3⟩
theorem Text_any (s : ByteArray) (hs : s.size ≤ 140737488351232) (B : Nat) (w : World) (hB : B ≤ w.heap.size) (hv : VarsOk B w) :
    Calls Tryz.prog 43 #[.string s] w fun e w' => ∃ v, e = .returned v ∧ Own w' w.heap.size v (putText s.data.toList) ∧ Below w.heap.size w w' := Text_tab s hs B w hB hv.tab

end Go.Proofs.YtmanjegdgjeeiaaGreatDoor
namespace Go.Proofs.YtmanjegdgjeeiaaGreatDoor
open Go.RowKit

/-- A slice of bytes that is read: nil, or bytes at an address. -/
def SrcAt (w : World) (v : Value) (l : List UInt8) : Prop :=
  (v = .slice none 0 0 ∧ l = []) ∨ ∃ q c, v = .slice (some q) l.length c ∧ ∀ i (hi : i < l.length), w.cell? (q.add i) = some (.int .u8 (l[i].toNat : Int))

theorem Own.src {w : World} {B : Nat} {v : Value} {l : List UInt8} (h : Own w B v l) : SrcAt w v l := by
  rcases h.2 with ⟨rfl, h0⟩ | ⟨g, cap, cur, rfl, -, -, -, -, -, -⟩
  · exact .inl ⟨rfl, List.eq_nil_of_length_eq_zero h0⟩
  · exact .inr ⟨⟨g, 0, none⟩, cap, rfl, fun i hi => World.ownsRow.cells h (g := g) rfl i _ (by simp [Lib.byteCells, hi])⟩

theorem SrcAt.below {w w' : World} {v : Value} {l : List UInt8} {B : Nat} (h : SrcAt w v l) (hb : Below B w w') (hB : w.heap.size ≤ B) : SrcAt w' v l := by
  rcases h with h | ⟨q, c, rfl, hc⟩
  · exact .inl h
  · refine .inr ⟨q, c, rfl, fun i hi => ?_⟩
    have := hc i hi
    rw [hb.cell (Nat.lt_of_lt_of_le (World.block_lt_of_cell? w _ this) hB)]
    exact this

theorem SrcAt.grown {w w' : World} {v : Value} {l : List UInt8} {r : Option Nat} (h : SrcAt w v l) (hg : w.grownBy w' r) (hr : ∀ q n c, v = .slice (some q) n c → some q.block ≠ r) : SrcAt w' v l := by
  rcases h with h | ⟨q, c, rfl, hc⟩
  · exact .inl h
  · exact .inr ⟨q, c, rfl, fun i hi => hg.cell (hc i hi) (by rw [add_block]; exact hr q _ c rfl)⟩

set_option maxHeartbeats 400000 in
theorem New_any (v : Value) (l : List UInt8) (w : World) (h : SrcAt w v l) (hl : l.length ≤ 140737488355328) :
    Calls Tryz.prog 48 #[v] w fun e w' => ∃ rb a c, e = .returned (.pointer (some ⟨rb, 0, none⟩)) ∧ Rd w' rb a c l 0 ∧ w.heap.size ≤ rb ∧ (∀ p, a = some p → w.heap.size ≤ p.block ∧ p.block < rb) ∧ Below w.heap.size w w' := by
  rcases h with ⟨rfl, rfl⟩ | ⟨q, c, rfl, hc⟩
  · go_enter Tryz.func48, Tryz.ntmps48
    go_wp2_with (go_at_call 82; refine (Tryz.bytes_Clone_nil 0 0 _).mono ?_; rintro e w1 ⟨rfl, rfl⟩)
    go_ret
    refine ⟨_, none, 0, rfl, ⟨heap_alloc_new _ _, Nat.le_refl _, (by unfold maxLen; omega), fun h => absurd h (by simp), (fun _ h => by cases h), fun _ => rfl⟩, Nat.le_refl _, (fun _ h => by cases h), (Below.refl _ _).alloc (Nat.le_refl _) _⟩
  · have hcl := Tryz.bytes_Clone_at q l.length c (l.map fun b => (b.toNat : Int)) w (by simp) hl (fun i hi => by rw [hc i hi]; simp [List.getD, hi])
    have HC := Lib.hid hcl
    clear hcl
    go_enter Tryz.func48, Tryz.ntmps48
    go_wp2_with (go_at_call 82; refine HC.out.mono ?_; rintro e w1 ⟨v1, rfl, hown1, hne1, hnx1⟩; refine Hid.out ?_)
    refine Lib.hid ?_
    have hs1 := hnx1.size
    have ho : Own w1 w.heap.size v1 l := Own.of hown1 (by simp [Lib.byteCells])
    rcases ho.2 with ⟨rfl, -⟩ | ⟨g, cap, cur, rfl, hg0, hg1, hcap, hmax, -, -⟩
    · exact absurd rfl hne1
    · have hgl : g < w1.heap.size := (Array.getElem?_eq_some_iff.1 hg1).1
      have hcells : ∀ i (hi : i < l.length), w1.cell? ⟨g, 0 + i, none⟩ = some (.int .u8 (l.getD i 0).toNat) := fun i hi => by
        have := World.ownsRow.cells ho (g := g) rfl i (.int .u8 (l[i].toNat : Int)) (by simp [Lib.byteCells, hi])
        rw [Go.WideShapes.add_plain] at this
        rw [this]
        simp [List.getD, hi]
      clear hg1
      go_wp2
      go_ret
      refine ⟨_, some ⟨g, 0, none⟩, cap, rfl, ⟨heap_alloc_new _ _, hcap, hmax, fun _ => ⟨g, 0, rfl, fun i hi => ?_⟩, ?_, fun h => absurd rfl h⟩, hs1, ?_, hnx1.alloc hs1 _⟩
      · rw [((Below.refl w1.heap.size w1).alloc (Nat.le_refl _) _).cell (p := ⟨g, 0 + i, none⟩) hgl]
        exact hcells i hi
      · rintro p hp
        obtain rfl := Option.some.inj hp
        exact hgl
      · rintro p hp
        obtain rfl := Option.some.inj hp
        exact ⟨hg0, hgl⟩

/-- The parts of a list, in memory. -/
def PartsAt (w : World) (q : Option Addr) (ls : List (List UInt8)) : Prop :=
  0 < ls.length → ∃ b o, q = some ⟨b, o, none⟩ ∧ ∀ i (hi : i < ls.length), ∃ v, w.cell? ⟨b, o + i, none⟩ = some v ∧ SrcAt w v ls[i]

/-- The bytes that List lays. -/
def putList (ls : List (List UInt8)) : List UInt8 := 108 :: ls.flatten ++ [101]

set_option maxHeartbeats 1000000 in
set_option maxRecDepth 100000 in
theorem List_any (q : Option Addr) (c : Nat) (ls : List (List UInt8)) (w : World) (h : PartsAt w q ls) (hn : ls.length ≤ 140737488355328) (hl : ls.flatten.length ≤ 140737488355000) :
    Calls Tryz.prog 44 #[.slice q ls.length c] w fun e w' => ∃ v, e = .returned v ∧ Own w' w.heap.size v (putList ls) ∧ Below w.heap.size w w' := by
  obtain ⟨i0, hi, hz0, hz1, hz2⟩ := info_parts infoByte
  go_enter Tryz.func44, Tryz.ntmps44
  go_wp2
  go_loopw [3, 9] (fun v i wr => ∃ k : Nat, k ≤ ls.length ∧ i = .int .i64 k ∧ Own wr w.heap.size v (108 :: (ls.take k).flatten) ∧ Below w.heap.size w wr) (fun _ i _ => ls.length - (intOf i).toNat)
  case atStart => exact ⟨0, Nat.zero_le _, rfl, own_one w w.heap.size (Nat.le_refl _) 108, (Below.refl _ _).alloc (Nat.le_refl _) _⟩
  case round =>
    obtain ⟨k, hk, rfl, hown, hnx⟩ := hrel
    by_cases hlt : k < ls.length
    · obtain ⟨b, o, rfl, hc⟩ := h (by omega)
      obtain ⟨v1, hcell, hsrc⟩ := hc k hlt
      have hcell1 : wr.cell? ⟨b, o + k, none⟩ = some v1 := by rw [hnx.cell (p := ⟨b, o + k, none⟩) (World.block_lt_of_cell? w _ hcell)]; exact hcell
      have hsrc1 := hsrc.below hnx (Nat.le_refl _)
      have hfl : (108 :: (ls.take (k + 1)).flatten) = (108 :: (ls.take k).flatten) ++ ls[k] := by
        rw [List.take_succ_eq_append_getElem hlt, List.flatten_append]; simp
      have hsum : ((ls.take k).flatten ++ ls[k]).length ≤ ls.flatten.length := by
        have e : ls.flatten = (ls.take (k + 1)).flatten ++ (ls.drop (k + 1)).flatten := by rw [← List.flatten_append, List.take_append_drop]
        rw [e, List.take_succ_eq_append_getElem hlt, List.flatten_append]; simp
      have HF := Lib.hid hfl
      rw [List.length_append] at hsum
      have hs1 := hnx.size
      clear hfl hsrc hcell hc
      generalize hg : ls[k] = g at *
      have HG := Lib.hid hg
      clear hg
      generalize ht : (ls.take k).flatten = tk at *
      have HT := Lib.hid ht
      clear ht
      rcases hsrc1 with ⟨rfl, rfl⟩ | ⟨q1, c1, rfl, hq⟩
      · go_wp2_with (at_builtin; refine wpList_append_own_none rfl _ _ 86 rfl w.heap.size 5 i0 1 Tryz.underlying86 hi _ _ _ rfl hown rfl ?_)
        go_roundw
        case rel => exact ⟨k + 1, by omega, by go_num, by rw [HF.out]; simpa using hown, hnx⟩
        case measure => simp [intOf]; omega
      · have hown' : wr.ownsRow w.heap.size 5 1 _ (108 :: tk).length (Lib.byteCells (108 :: tk)) := hown
        go_wp2_with (at_builtin; refine wpList_append_own _ rfl _ _ 86 rfl w.heap.size 5 i0 (.int .u8 0) 1 1 Tryz.underlying86 hi hz0 hz1 hz2 rfl (by decide) _ _ _ rfl hown' q1 g.length c1 (Lib.byteCells g) rfl (by simp [Lib.byteCells]) (by
            intro j u' hj
            simp only [Lib.byteCells, List.getElem?_map, Option.map_eq_some_iff] at hj
            obtain ⟨y, hy, rfl⟩ := hj
            obtain ⟨hj1, rfl⟩ := List.getElem?_eq_some_iff.1 hy
            exact hq j hj1) (by intro u' hu'; simp only [Lib.byteCells, List.mem_map] at hu'; obtain ⟨y, _, rfl⟩ := hu'; rfl) (by simp only [List.length_cons]; unfold maxLen; omega) (by simp only [List.length_cons]; omega) (by omega) ?_; refine Hid.out ?_)
        refine Lib.hid ?_
        intro v2 w2 hown2 hgrow _
        have hnx2 : Below w.heap.size w w2 := hnx.grown hgrow hs1 (fun j hj => (World.ownsRow.lt hown j hj).1)
        go_wp2
        go_roundw
        case rel => exact ⟨k + 1, by omega, by go_num, Own.of hown2 (by rw [HF.out]; simp [Lib.byteCells]), hnx2⟩
        case measure => simp [intOf]; omega
    · obtain rfl : k = ls.length := by omega
      rw [List.take_length] at hown
      have hs1 := hnx.size
      generalize ht : ls.flatten = tk at *
      have HT := Lib.hid ht
      clear ht
      have hown' : wr.ownsRow w.heap.size 5 1 _ (108 :: tk).length (Lib.byteCells (108 :: tk)) := hown
      go_wp2_with (at_builtin; refine wpList_append_own _ rfl _ _ 86 rfl w.heap.size 5 i0 (.int .u8 0) 1 1 Tryz.underlying86 hi hz0 hz1 hz2 rfl (by decide) _ _ _ rfl (hown'.alloc _) ⟨wr.heap.size, 0, none⟩ 1 1 [Value.int .u8 101] rfl rfl (by intro j u' hj; match j, hj with | 0, hj => simp at hj; subst hj; simp [Addr.add]) (by intro u' hu'; simp at hu'; subst hu'; rfl) (by simp only [List.length_cons]; unfold maxLen; omega) (by simp only [List.length_cons]; omega) (by simp; omega) ?_; refine Hid.out ?_)
      refine Lib.hid ?_
      intro v2 w2 hown2 hgrow _
      have hnx2 : Below w.heap.size w w2 := (hnx.alloc hs1 _).grown hgrow (by simp; omega) (fun j hj => (World.ownsRow.lt hown j hj).1)
      go_wp2
      go_ret
      exact ⟨v2, rfl, Own.of hown2 (by rw [putList, HT.out]; simp [Lib.byteCells]), hnx2⟩

theorem Own.form {w : World} {B : Nat} {v : Value} {l : List UInt8} (h : Own w B v l) : ∃ a k c, v = .slice a k c := by
  rcases h.2 with ⟨rfl, -⟩ | ⟨g, cap, cur, rfl, -, -, -, -, -, -⟩
  · exact ⟨_, _, _, rfl⟩
  · exact ⟨_, _, _, rfl⟩

theorem Int_valT (n : Int) (h0 : -9223372036854775808 ≤ n) (h1 : n ≤ 9223372036854775807) (B : Nat) (w : World) (hB : B ≤ w.heap.size) (hv : Lib.TabBelow Tryz.prog B w "internal/strconv.uint64pow10" .u64 Lib.pow10Tab) :
    Calls Tryz.prog 42 #[.int .i64 n] w fun e w' => ∃ a k c, e = .returned (.slice a k c) ∧ Own w' w.heap.size (.slice a k c) (putInt n) ∧ Below w.heap.size w w' :=
  (Int_tab n h0 h1 B w hB hv).mono fun e w' ⟨v, he, ho, hb⟩ => by obtain ⟨a, k, c, rfl⟩ := ho.form; exact ⟨a, k, c, he, ho, hb⟩
theorem Int_val (n : Int) (h0 : -9223372036854775808 ≤ n) (h1 : n ≤ 9223372036854775807) (B : Nat) (w : World) (hB : B ≤ w.heap.size) (hv : VarsOk B w) :
    Calls Tryz.prog 42 #[.int .i64 n] w fun e w' => ∃ a k c, e = .returned (.slice a k c) ∧ Own w' w.heap.size (.slice a k c) (putInt n) ∧ Below w.heap.size w w' :=
  (Int_any n h0 h1 B w hB hv).mono fun e w' ⟨v, he, ho, hb⟩ => by obtain ⟨a, k, c, rfl⟩ := ho.form; exact ⟨a, k, c, he, ho, hb⟩
theorem Text_valT (s : ByteArray) (hs : s.size ≤ 140737488351232) (B : Nat) (w : World) (hB : B ≤ w.heap.size) (hv : Lib.TabBelow Tryz.prog B w "internal/strconv.uint64pow10" .u64 Lib.pow10Tab) :
    Calls Tryz.prog 43 #[.string s] w fun e w' => ∃ a k c, e = .returned (.slice a k c) ∧ Own w' w.heap.size (.slice a k c) (putText s.data.toList) ∧ Below w.heap.size w w' :=
  (Text_tab s hs B w hB hv).mono fun e w' ⟨v, he, ho, hb⟩ => by obtain ⟨a, k, c, rfl⟩ := ho.form; exact ⟨a, k, c, he, ho, hb⟩
theorem Text_val (s : ByteArray) (hs : s.size ≤ 140737488351232) (B : Nat) (w : World) (hB : B ≤ w.heap.size) (hv : VarsOk B w) :
    Calls Tryz.prog 43 #[.string s] w fun e w' => ∃ a k c, e = .returned (.slice a k c) ∧ Own w' w.heap.size (.slice a k c) (putText s.data.toList) ∧ Below w.heap.size w w' :=
  (Text_any s hs B w hB hv).mono fun e w' ⟨v, he, ho, hb⟩ => by obtain ⟨a, k, c, rfl⟩ := ho.form; exact ⟨a, k, c, he, ho, hb⟩
theorem List_val (q : Option Addr) (c : Nat) (ls : List (List UInt8)) (w : World) (h : PartsAt w q ls) (hn : ls.length ≤ 140737488355328) (hl : ls.flatten.length ≤ 140737488355000) (n : Nat) (hnl : n = ls.length) :
    Calls Tryz.prog 44 #[.slice q n c] w fun e w' => ∃ a k c, e = .returned (.slice a k c) ∧ Own w' w.heap.size (.slice a k c) (putList ls) ∧ Below w.heap.size w w' := by
  subst hnl
  exact (List_any q c ls w h hn hl).mono fun e w' ⟨v, he, ho, hb⟩ => by obtain ⟨a, k, c, rfl⟩ := ho.form; exact ⟨a, k, c, he, ho, hb⟩

end Go.Proofs.YtmanjegdgjeeiaaGreatDoor
