/-
  What a reader of a pattern is in memory, and what its small calls do. Words of 64 bits as choices among places: the lowest one, and what is left without it; and what a text leads to, byte by byte.
-/
import Derived.Test.YtcngifkoopcmeaaGreatDoorRows
import Derived.Test.YtcngifkoopcmeaaGreatDoorK01
import Derived.WalkKit
import Derived.WalkSpells
import Derived.WalkLawsBesides
import Derived.BigQuiet
import Derived.Deep.QuietTactic
import Derived.Lib.Hide
import Derived.OwnWalk
import Derived.Lib.TrailingZeros
namespace Go.Proofs.YtcngifkoopcmeaaGreatDoor
open Go.RowKit

/-- The panic that gives a pattern up. -/
abbrev gaveUp : Ending := .panicked [{ v := .iface 36 (.int .i64 9), recovered := false }]

theorem giveUp_any (w : World) : Calls Tryz.prog 188 #[] w fun e w' => e = gaveUp ∧ w' = w := by
  go_enter Tryz.func188, Tryz.ntmps188
  go_wp2
  exact ⟨rfl, rfl, rfl⟩

/-- The reader's block: its pattern, and how much of it is read. -/
def XdBlk (w : World) (rb xb : Nat) (s : ByteArray) (k : Nat) : Prop :=
  w.heap[rb]? = some (.cells #[.pointer (some ⟨xb, 0, none⟩), .string s, .int .i64 (k : Int)] 249 (0, 0))

theorem XdBlk.cell0 {w : World} {rb xb : Nat} {s : ByteArray} {k : Nat} (h : XdBlk w rb xb s k) : w.cell? ⟨rb, 0, none⟩ = some (.pointer (some ⟨xb, 0, none⟩)) := by
  unfold XdBlk at h; simp [World.cell?, h]
theorem XdBlk.cell1 {w : World} {rb xb : Nat} {s : ByteArray} {k : Nat} (h : XdBlk w rb xb s k) : w.cell? ⟨rb, 1, none⟩ = some (.string s) := by
  unfold XdBlk at h; simp [World.cell?, h]
theorem XdBlk.cell2 {w : World} {rb xb : Nat} {s : ByteArray} {k : Nat} (h : XdBlk w rb xb s k) : w.cell? ⟨rb, 2, none⟩ = some (.int .i64 (k : Int)) := by
  unfold XdBlk at h; simp [World.cell?, h]
theorem XdBlk.frozen {w : World} {rb xb : Nat} {s : ByteArray} {k : Nat} (h : XdBlk w rb xb s k) (i : Nat) : w.frozen? ⟨rb, i, none⟩ = false := by
  unfold XdBlk at h; simp [World.frozen?, h]
theorem XdBlk.lt {w : World} {rb xb : Nat} {s : ByteArray} {k : Nat} (h : XdBlk w rb xb s k) : rb < w.heap.size := (Array.getElem?_eq_some_iff.1 h).1
theorem XdBlk.set2 {w : World} {rb xb : Nat} {s : ByteArray} {k : Nat} (h : XdBlk w rb xb s k) (k' : Nat) : XdBlk (w.setCell ⟨rb, 2, none⟩ (.int .i64 (k' : Int))) rb xb s k' := by
  unfold XdBlk at h ⊢; simp [World.setCell, Array.getElem?_modify, h]

/-- What is left of a pattern, of which k bytes are read. -/
structure Left (s : ByteArray) (k : Nat) (l : List UInt8) : Prop where
  le : s.size ≤ 64
  eq : k + l.length = s.size
  drop : s.data.toList.drop k = l

theorem Left.nil {s : ByteArray} {k : Nat} (h : Left s k []) : k = s.size := by have := h.eq; simpa using this
theorem Left.lt {s : ByteArray} {k : Nat} {c : UInt8} {l : List UInt8} (h : Left s k (c :: l)) : k < s.size := by have := h.eq; simp at this; omega
theorem Left.get {s : ByteArray} {k : Nat} {c : UInt8} {l : List UInt8} (h : Left s k (c :: l)) : s[k]'h.lt = c := by
  have h1 : s.data.toList[k]? = some c := by
    have := h.drop
    rw [← List.head?_drop, this]; rfl
  have h2 : k < s.data.toList.length := by simpa using h.lt
  rw [List.getElem?_eq_getElem h2, Option.some.injEq] at h1
  exact h1
theorem Left.next {s : ByteArray} {k : Nat} {c : UInt8} {l : List UInt8} (h : Left s k (c :: l)) : Left s (k + 1) l := by
  refine ⟨h.le, by have := h.eq; simp at this; omega, ?_⟩
  rw [← List.drop_drop, h.drop]; rfl


theorem xgrown_setCell (w : World) (rb i : Nat) (v : Value) : w.grownBy (w.setCell ⟨rb, i, none⟩ v) (some rb) :=
  ⟨rfl, rfl, rfl, by simp [World.setCell], fun k _ hk => Below.heap_setCell _ _ _ _ (by intro e; exact hk (by rw [e]))⟩
theorem xgrown_trans {a b c : World} {r : Option Nat} (h : a.grownBy b r) (k : b.grownBy c r) : a.grownBy c r :=
  ⟨k.os.trans h.os, k.tape.trans h.tape, k.output.trans h.output, Nat.le_trans h.size k.size, fun i hi hr => (k.block i (Nat.lt_of_lt_of_le hi h.size) hr).trans (h.block i hi hr)⟩
theorem xgrown_of_below {w w' : World} {r : Option Nat} (h : Below w.heap.size w w') : w.grownBy w' r := ⟨h.os, h.tape, h.output, h.size, fun k hk _ => h.block k hk⟩
theorem grown_like {w a b : World} {r : Option Nat} (h : w.grownBy a r) (ho : b.os = a.os) (ht : b.tape = a.tape) (hu : b.output = a.output) (hh : b.heap = a.heap) : w.grownBy b r :=
  ⟨ho.trans h.os, ht.trans h.tape, hu.trans h.output, by rw [hh]; exact h.size, fun k h1 h2 => by rw [hh]; exact h.block k h1 h2⟩
theorem XdBlk.below {w w' : World} {rb xb : Nat} {s : ByteArray} {k : Nat} (h : XdBlk w rb xb s k) (hb : Below w.heap.size w w') : XdBlk w' rb xb s k := (hb.block rb h.lt).trans h
theorem below_drawn (w : World) (n : Nat) : Below w.heap.size w (w.drewN n) := ⟨rfl, rfl, rfl, Nat.le_refl _, fun _ _ => rfl⟩

set_option maxHeartbeats 400000 in
theorem take_no (rb xb : Nat) (s : ByteArray) (k : Nat) (w : World) (h : XdBlk w rb xb s k) (hl : Left s k []) :
    Calls Tryz.prog 227 #[.pointer (some ⟨rb, 0, none⟩)] w fun e w' => e = gaveUp ∧ Below w.heap.size w w' := by
  have c1 := h.cell1
  have c2 := h.cell2
  obtain rfl := hl.nil
  clear h hl
  go_enter Tryz.func227, Tryz.ntmps227
  go_wp2
  go_quiet (fail)
  go_wp2_with (go_at_call 188; refine (giveUp_any _).mono ?_; rintro e w' ⟨rfl, rfl⟩)
  exact ⟨rfl, rfl, below_drawn _ _⟩

set_option maxHeartbeats 400000 in
theorem xtake_ok (rb xb : Nat) (s : ByteArray) (k : Nat) (c : UInt8) (l : List UInt8) (w : World) (h : XdBlk w rb xb s k) (hl : Left s k (c :: l)) :
    Calls Tryz.prog 227 #[.pointer (some ⟨rb, 0, none⟩)] w fun e w' => e = .returned (.int .u8 c.toNat) ∧ XdBlk w' rb xb s (k + 1) ∧ w.grownBy w' (some rb) := by
  have c1 := h.cell1
  have c2 := h.cell2
  have f2 := h.frozen 2
  have hlt := hl.lt
  have hle := hl.le
  have hk : (k : Int) < (s.size : Int) := by omega
  have hne : ((k : Int) == (s.size : Int)) = false := by simp; omega
  have hg := hl.get
  have hs := h.set2 (k + 1)
  rw [← hg]
  clear hg
  go_enter Tryz.func227, Tryz.ntmps227
  go_wp2
  go_quiet (fail)
  go_wp2
  go_quiet (fail)
  go_wp2
  go_ret
  exact ⟨rfl, hs, grown_like (xgrown_setCell w rb 2 _) rfl rfl rfl rfl⟩

/-- Is a byte the next one? -/
def seesB (l : List UInt8) (b : UInt8) : Bool := match l with | [] => false | c :: _ => c == b

set_option maxHeartbeats 400000 in
theorem sees_any (rb xb : Nat) (s : ByteArray) (k : Nat) (l : List UInt8) (b : UInt8) (w : World) (h : XdBlk w rb xb s k) (hl : Left s k l) :
    Calls Tryz.prog 218 #[.pointer (some ⟨rb, 0, none⟩), .int .u8 b.toNat] w fun e w' => e = .returned (.bool (seesB l b)) ∧ ∃ n, w' = w.drewN n := by
  have c1 := h.cell1
  have c2 := h.cell2
  cases l with
  | nil =>
    obtain rfl := hl.nil
    clear h hl
    go_enter Tryz.func218, Tryz.ntmps218
    go_wp2
    go_quiet (fail)
    go_wp2
    go_ret
    exact ⟨rfl, _, rfl⟩
  | cons c l =>
    have hlt := hl.lt
    have hle := hl.le
    have hk : (k : Int) < (s.size : Int) := by omega
    have hg := hl.get
    have hb : (((s[k].toNat : Nat) : Int) == ((b.toNat : Nat) : Int)) = seesB (c :: l) b := by
      rw [hg]
      show _ = (c == b)
      rw [Bool.eq_iff_iff]
      simp only [beq_iff_eq, Int.natCast_inj]
      exact UInt8.toNat_inj
    have HB := Lib.hid hb
    clear hb hg h hl
    go_enter Tryz.func218, Tryz.ntmps218
    go_wp2
    go_quiet (fail)
    go_wp2
    go_ret
    exact ⟨by rw [← HB.out]; rfl, _, rfl⟩

set_option maxHeartbeats 400000 in
theorem skip_no (rb xb : Nat) (s : ByteArray) (k : Nat) (l : List UInt8) (b : UInt8) (w : World) (h : XdBlk w rb xb s k) (hl : Left s k l) (hs : seesB l b = false) :
    Calls Tryz.prog 205 #[.pointer (some ⟨rb, 0, none⟩), .int .u8 b.toNat] w fun e w' => e = .returned (.bool false) ∧ ∃ n, w' = w.drewN n := by
  have HS := Lib.hid (sees_any rb xb s k l b w h hl)
  rw [hs] at HS
  clear hs h hl
  go_enter Tryz.func205, Tryz.ntmps205
  go_wp2_with (go_at_call 218; refine HS.out.mono ?_; rintro e w' ⟨rfl, n, rfl⟩)
  go_ret
  exact ⟨rfl, n, rfl⟩

set_option maxHeartbeats 400000 in
theorem skip_ok (rb xb : Nat) (s : ByteArray) (k : Nat) (l : List UInt8) (b : UInt8) (w : World) (h : XdBlk w rb xb s k) (hl : Left s k (b :: l)) :
    Calls Tryz.prog 205 #[.pointer (some ⟨rb, 0, none⟩), .int .u8 b.toNat] w fun e w' => e = .returned (.bool true) ∧ XdBlk w' rb xb s (k + 1) ∧ w.grownBy w' (some rb) := by
  have HS := Lib.hid (sees_any rb xb s k (b :: l) b w h hl)
  rw [show seesB (b :: l) b = true by simp [seesB]] at HS
  have c2 := h.cell2
  have f2 := h.frozen 2
  have hs := h.set2 (k + 1)
  have hlt := hl.lt
  have hle := hl.le
  clear h hl
  go_enter Tryz.func205, Tryz.ntmps205
  go_wp2_with (go_at_call 218; refine HS.out.mono ?_; rintro e w' ⟨rfl, n, rfl⟩)
  go_ret
  exact ⟨rfl, hs, grown_like (xgrown_setCell w rb 2 _) rfl rfl rfl rfl⟩

theorem index_str (s : ByteArray) (i : Nat) (z : Int) (hz : z = (i : Int)) (h : i < s.size) (w : World) : (Instr.index 9 (.string s) (.int .i64 z)).run Tryz.prog w = .ok (.int .u8 ((s[i].toNat : Nat) : Int)) w := by
  subst hz
  rw [run_index_string w 9 s .i64 _ Tryz.underlying9, dif_pos ⟨by omega, by omega⟩]
  rfl

set_option maxHeartbeats 400000 in
theorem seesRange_any (rb xb : Nat) (s : ByteArray) (k : Nat) (l : List UInt8) (w : World) (h : XdBlk w rb xb s k) (hl : Left s k l) :
    Calls Tryz.prog 237 #[.pointer (some ⟨rb, 0, none⟩)] w fun e w' => e = .returned (.bool (rangeB l)) ∧ ∃ n, w' = w.drewN n := by
  have c1 := h.cell1
  have c2 := h.cell2
  have HS := Lib.hid (fun n : Nat => sees_any rb xb s k l 45 (w.drewN n) h hl)
  have hle := hl.le
  have heq := hl.eq
  match l, hl, HS, heq with
  | [], hl, HS, heq =>
    simp only [show seesB [] 45 = false from rfl] at HS
    rw [show rangeB [] = false from rfl]
    clear h hl heq
    go_enter Tryz.func237, Tryz.ntmps237
    go_wp2
    go_quiet ((go_at_call 218; exact Calls.quiet_of (HS.out _)))
    go_wp2
    go_ret
    exact ⟨rfl, _, rfl⟩
  | [c], hl, HS, heq =>
    rw [show rangeB [c] = false from rfl]
    simp only [List.length_singleton] at heq
    have hk : decide ((k : Int) + 1 < (s.size : Int)) = false := decide_eq_false (by omega)
    clear h hl heq
    by_cases hc : c = 45
    · subst hc
      simp only [show seesB [45] 45 = true from rfl] at HS
      go_enter Tryz.func237, Tryz.ntmps237
      go_wp2
      go_quiet ((go_at_call 218; exact Calls.quiet_of (HS.out _)))
      go_wp2
      go_ret
      exact ⟨rfl, _, rfl⟩
    · have hc2 : seesB [c] 45 = false := by simpa [seesB] using hc
      simp only [hc2] at HS
      clear hc hc2
      go_enter Tryz.func237, Tryz.ntmps237
      go_wp2
      go_quiet ((go_at_call 218; exact Calls.quiet_of (HS.out _)))
      go_wp2
      go_ret
      exact ⟨rfl, _, rfl⟩
  | c :: d :: l, hl, HS, heq =>
    have hlt2 := hl.next.lt
    have hg := hl.next.get
    have hk : (k : Int) + 1 < (s.size : Int) := by omega
    have hd := decide_eq_true hk
    have hw : IntKind.i64.wrap ((k : Int) + 1) = (k : Int) + 1 := by rw [IntKind.wrap_i64]; omega
    clear heq
    by_cases hc : c = 45
    · subst hc
      have hb : (((s[k + 1].toNat : Nat) : Int) != 93) = rangeB (45 :: d :: l) := by
        rw [hg]
        show _ = ((45 : UInt8) == 45 && d != 93)
        simp only [beq_self_eq_true, Bool.true_and]
        rw [Bool.eq_iff_iff]
        simp only [bne_iff_ne, ne_eq]
        rw [show (93 : Int) = ((93 : UInt8).toNat : Int) from rfl, Int.natCast_inj, UInt8.toNat_inj]
      have HB := Lib.hid hb
      have hix := fun w => index_str s (k + 1) ((k : Int) + 1) (by omega) hlt2 w
      simp only [show seesB (45 :: d :: l) 45 = true from rfl] at HS
      clear h hl hb hg
      go_enter Tryz.func237, Tryz.ntmps237
      go_wp2
      go_quiet ((go_at_call 218; exact Calls.quiet_of (HS.out _)))
      go_wp2
      go_ret
      exact ⟨by rw [← HB.out]; rfl, _, rfl⟩
    · have hc2 : seesB (c :: d :: l) 45 = false := by simpa [seesB] using hc
      have hr : rangeB (c :: d :: l) = false := by simp [rangeB, hc]
      rw [hr]
      simp only [hc2] at HS
      clear hc hc2 hr h hl hg
      go_enter Tryz.func237, Tryz.ntmps237
      go_wp2
      go_quiet ((go_at_call 218; exact Calls.quiet_of (HS.out _)))
      go_wp2
      go_ret
      exact ⟨rfl, _, rfl⟩

set_option maxHeartbeats 400000 in
theorem setByte_no (rb xb : Nat) (s : ByteArray) (k : Nat) (l : List UInt8) (w : World) (h : XdBlk w rb xb s k) (hl : Left s k l) (hp : pByte l = none) :
    Calls Tryz.prog 236 #[.pointer (some ⟨rb, 0, none⟩)] w fun e w' => e = gaveUp ∧ w.grownBy w' (some rb) := by
  match l, hl with
  | [], hl =>
    have HT := Lib.hid (take_no rb xb s k w h hl)
    clear h hl hp
    go_enter Tryz.func236, Tryz.ntmps236
    go_wp2_with (go_at_call 227; refine HT.out.mono ?_; rintro e w' ⟨rfl, hb⟩)
    exact ⟨rfl, rfl, xgrown_of_below hb⟩
  | c :: l, hl =>
    have HT := Lib.hid (xtake_ok rb xb s k c l w h hl)
    by_cases h1 : c = 93
    · subst h1
      clear h hl hp
      go_enter Tryz.func236, Tryz.ntmps236
      go_wp2_with (first | (go_at_call 227; refine HT.out.mono ?_; rintro e w' ⟨rfl, hr, hg⟩) | (go_at_call 188; refine (giveUp_any _).mono ?_; rintro e w2 ⟨rfl, rfl⟩))
      exact ⟨rfl, rfl, hg⟩
    · by_cases h2 : c = 92
      · subst h2
        cases l with
        | nil =>
          have hl2 := hl.next
          clear h hl hp
          go_enter Tryz.func236, Tryz.ntmps236
          go_wp2_with (first | (go_at_call 227; refine HT.out.mono ?_; rintro e w' ⟨rfl, hr, hg⟩; refine Hid.out ?_))
          refine Lib.hid ?_
          go_wp2_with (first | (go_at_call 227; refine (take_no rb xb s (k + 1) w' hr hl2).mono ?_; rintro e w2 ⟨rfl, hb⟩))
          exact ⟨rfl, rfl, xgrown_trans hg (xgrown_of_below hb)⟩
        | cons d l => simp [pByte] at hp
      · simp [pByte, h1, h2] at hp

theorem u8_ne {c d : UInt8} (h : c ≠ d) : (((c.toNat : Nat) : Int) == ((d.toNat : Nat) : Int)) = false := by
  rw [Bool.eq_false_iff]
  intro e
  rw [beq_iff_eq, Int.natCast_inj, UInt8.toNat_inj] at e
  exact h e

set_option maxHeartbeats 400000 in
theorem setByte_ok (rb xb : Nat) (s : ByteArray) (k : Nat) (l : List UInt8) (c : UInt8) (l' : List UInt8) (w : World) (h : XdBlk w rb xb s k) (hl : Left s k l) (hp : pByte l = some (c, l')) :
    Calls Tryz.prog 236 #[.pointer (some ⟨rb, 0, none⟩)] w fun e w' => e = .returned (.int .u8 c.toNat) ∧ ∃ k', XdBlk w' rb xb s k' ∧ Left s k' l' ∧ w.grownBy w' (some rb) := by
  match l, hl with
  | [], hl => simp [pByte] at hp
  | a :: l, hl =>
    have HT := Lib.hid (xtake_ok rb xb s k a l w h hl)
    by_cases h1 : a = 93
    · simp [pByte, h1] at hp
    · by_cases h2 : a = 92
      · subst h2
        cases l with
        | nil => simp [pByte] at hp
        | cons d l =>
          simp [pByte] at hp
          obtain ⟨rfl, rfl⟩ := hp
          have hl2 := hl.next
          clear h hl
          go_enter Tryz.func236, Tryz.ntmps236
          go_wp2_with (first | (go_at_call 227; refine HT.out.mono ?_; rintro e w' ⟨rfl, hr, hg⟩; refine Hid.out ?_))
          refine Lib.hid ?_
          go_wp2_with (first | (go_at_call 227; refine (xtake_ok rb xb s (k + 1) d l w' hr hl2).mono ?_; rintro e w2 ⟨rfl, hr2, hg2⟩))
          go_ret
          exact ⟨rfl, _, hr2, hl2.next, xgrown_trans hg hg2⟩
      · simp only [pByte, h1, h2, if_false, Option.some.injEq, Prod.mk.injEq] at hp
        obtain ⟨rfl, rfl⟩ := hp
        have hl2 := hl.next
        have n1 := u8_ne h1
        have n2 := u8_ne h2
        simp only [show ((93 : UInt8).toNat : Int) = 93 from rfl] at n1
        simp only [show ((92 : UInt8).toNat : Int) = 92 from rfl] at n2
        clear h hl h1 h2
        go_enter Tryz.func236, Tryz.ntmps236
        go_wp2_with (first | (go_at_call 227; refine HT.out.mono ?_; rintro e w' ⟨rfl, hr, hg⟩))
        go_ret
        exact ⟨rfl, _, hr, hl2, hg⟩

end Go.Proofs.YtcngifkoopcmeaaGreatDoor
namespace Go.Proofs.YtcngifkoopcmeaaGreatDoor

theorem ctz_bits (x : Nat) (h0 : x ≠ 0) (h : x < 18446744073709551616) : Lib.ctz 64 x < 64 ∧ x.testBit (Lib.ctz 64 x) = true ∧ x &&& (x - 1) < x ∧ ∀ j, (x &&& (x - 1)).testBit j = true ↔ x.testBit j = true ∧ j ≠ Lib.ctz 64 x := by
  obtain ⟨m, hm, hk⟩ := Lib.ctzFrom_spec 64 x (by omega) (by omega)
  have e : Lib.ctz 64 x = Lib.ctzFrom 64 x := by unfold Lib.ctz; rw [if_neg h0]
  rw [e]
  generalize Lib.ctzFrom 64 x = k at hm hk
  have h1 : ∀ j, x.testBit j = if j < k then false else (2 * m + 1).testBit (j - k) := fun j => by
    have := Nat.testBit_two_pow_mul_add (2 * m + 1) (b := 0) (i := k) (Nat.two_pow_pos k) j
    rw [Nat.add_zero, ← hm] at this
    simpa using this
  have h2 : ∀ j, (x - 1).testBit j = if j < k then true else (2 * m).testBit (j - k) := fun j => by
    have hp := Nat.two_pow_pos k
    have e1 : x - 1 = 2 ^ k * (2 * m) + (2 ^ k - 1) := by rw [hm, Nat.mul_add, Nat.mul_one]; omega
    have := Nat.testBit_two_pow_mul_add (2 * m) (b := 2 ^ k - 1) (i := k) (by omega) j
    rw [← e1, Nat.testBit_two_pow_sub_one] at this
    rw [this]
    split
    · simp [*]
    · rfl
  have b0 : (2 * m + 1).testBit 0 = true := by simp [Nat.testBit_zero]
  have b1 : (2 * m).testBit 0 = false := by simp [Nat.testBit_zero]
  have b2 : ∀ i, (2 * m + 1).testBit (i + 1) = m.testBit i := fun i => by rw [Nat.testBit_add_one]; congr 1; omega
  have b3 : ∀ i, (2 * m).testBit (i + 1) = m.testBit i := fun i => by rw [Nat.testBit_add_one]; congr 1; omega
  refine ⟨hk, ?_, ?_, fun j => ?_⟩
  · rw [h1, if_neg (by omega), Nat.sub_self]; exact b0
  · have := @Nat.and_le_right x (x - 1); omega
  · rw [Nat.testBit_and, h1, h2]
    rcases Nat.lt_trichotomy j k with hj | hj | hj
    · simp [hj]
    · subst hj
      simp
    · obtain ⟨i, rfl⟩ : ∃ i, j = k + (i + 1) := ⟨j - k - 1, by omega⟩
      rw [if_neg (by omega), if_neg (by omega), show k + (i + 1) - k = i + 1 by omega, b2, b3]
      simp

theorem bit_lt {x i : Nat} (h : ∀ j, x.testBit j = true → j < i) : x < 2 ^ i := Nat.lt_pow_two_of_testBit x fun j hj => by
  cases hb : x.testBit j with
  | false => rfl
  | true => have := h j hb; omega
theorem bit_of_lt {x i j : Nat} (h : x < 2 ^ i) (hb : x.testBit j = true) : j < i := by
  rcases Nat.lt_or_ge j i with h1 | h1
  · exact h1
  · rw [Nat.testBit_lt_two_pow (Nat.lt_of_lt_of_le h (Nat.pow_le_pow_right (by omega) h1))] at hb
    cases hb
theorem or_bit (x y i : Nat) : (x ||| y).testBit i = true ↔ x.testBit i = true ∨ y.testBit i = true := by rw [Nat.testBit_or]; simp

/-- The places that have taken a text's last byte. -/
def Here (pl : List Pl) (P : Pc) (s : List UInt8) (m : Nat) : Prop := ∀ j, m.testBit j = true ↔ ∃ i, P.first.testBit i = true ∧ Run pl i s j
/-- The places that may take the byte behind a text. -/
def Next (pl : List Pl) (P : Pc) (s : List UInt8) (m : Nat) : Prop := ∀ j, m.testBit j = true ↔ (s = [] ∧ P.first.testBit j = true) ∨ ∃ i k p, P.first.testBit i = true ∧ Run pl i s k ∧ pl[k]? = some p ∧ p.nx.testBit j = true

theorem Next.start (pl : List Pl) (P : Pc) : Next pl P [] P.first := fun j => by
  constructor
  · intro h; exact .inl ⟨rfl, h⟩
  · rintro (h | ⟨i, k, p, -, h, -⟩)
    · exact h.2
    · exact absurd rfl h.ne

/-- What step tells of some places and a byte. -/
def Stepped (pl : List Pl) (m : Nat) (c : UInt8) (h x : Nat) : Prop :=
  (∀ j, h.testBit j = true ↔ m.testBit j = true ∧ ∃ p, pl[j]? = some p ∧ p.has c = true) ∧ ∀ k, x.testBit k = true ↔ ∃ j p, h.testBit j = true ∧ pl[j]? = some p ∧ p.nx.testBit k = true

theorem Stepped.go {pl : List Pl} {P : Pc} {s : List UInt8} {m h x : Nat} {c : UInt8} (hn : Next pl P s m) (hs : Stepped pl m c h x) : Here pl P (s ++ [c]) h ∧ Next pl P (s ++ [c]) x := by
  have hh : Here pl P (s ++ [c]) h := fun j => by
    rw [hs.1 j, hn j]
    constructor
    · rintro ⟨⟨rfl, h1⟩ | ⟨i, k, p, h1, h2, h3, h4⟩, q, h5, h6⟩
      · exact ⟨j, h1, .one h5 h6⟩
      · exact ⟨i, h1, (Run.snoc h2.ne).2 ⟨k, p, q, h2, h3, h4, h5, h6⟩⟩
    · rintro ⟨i, h1, h2⟩
      by_cases he : s = []
      · subst he
        obtain ⟨rfl, q, g1, g2⟩ := h2
        exact ⟨.inl ⟨rfl, h1⟩, _, g1, g2⟩
      · obtain ⟨k, p, q, g1, g2, g3, g4, g5⟩ := (Run.snoc he).1 h2
        exact ⟨.inr ⟨i, k, p, h1, g1, g2, g3⟩, q, g4, g5⟩
  refine ⟨hh, fun k => ?_⟩
  rw [hs.2 k]
  constructor
  · rintro ⟨j, p, h1, h2, h3⟩
    obtain ⟨i, g1, g2⟩ := (hh j).1 h1
    exact .inr ⟨i, j, p, g1, g2, h2, h3⟩
  · rintro (⟨h1, -⟩ | ⟨i, j, p, h1, h2, h3, h4⟩)
    · simp at h1
    · exact ⟨j, p, (hh j).2 ⟨i, h1, h2⟩, h3, h4⟩

theorem Here.acc {pl : List Pl} {P : Pc} {s : List UInt8} {m : Nat} (hs : s ≠ []) (h : Here pl P s m) : m &&& P.last ≠ 0 ↔ Acc pl P s := by
  have e : m &&& P.last ≠ 0 ↔ ∃ j, (m &&& P.last).testBit j = true := by
    constructor
    · intro h0
      exact Nat.exists_testBit_of_ne_zero h0
    · rintro ⟨j, hj⟩ h0
      rw [h0] at hj
      simp at hj
  rw [e]
  constructor
  · rintro ⟨j, hj⟩
    rw [Nat.testBit_and, Bool.and_eq_true] at hj
    obtain ⟨i, h1, h2⟩ := (h j).1 hj.1
    exact .inr ⟨i, j, h1, hj.2, h2⟩
  · rintro (⟨h1, -⟩ | ⟨i, j, h1, h2, h3⟩)
    · exact absurd h1 hs
    · exact ⟨j, by rw [Nat.testBit_and, Bool.and_eq_true]; exact ⟨(h j).2 ⟨i, h1, h3⟩, h2⟩⟩

theorem Run.pre {pl : List Pl} {i j : Nat} {u v : List UInt8} (hu : u ≠ []) (h : Run pl i (u ++ v) j) : ∃ k, Run pl i u k := by
  generalize hs : u ++ v = s at h
  induction h using Run.ind generalizing u with
  | one g1 g2 =>
    cases u with
    | nil => exact absurd rfl hu
    | cons a r =>
      simp only [List.cons_append, List.cons.injEq] at hs
      obtain ⟨rfl, h2⟩ := hs
      obtain ⟨rfl, rfl⟩ := List.append_eq_nil_iff.1 h2
      exact ⟨_, .one g1 g2⟩
  | cons g1 g2 g3 g4 ih =>
    cases u with
    | nil => exact absurd rfl hu
    | cons a r =>
      simp only [List.cons_append, List.cons.injEq] at hs
      obtain ⟨rfl, h2⟩ := hs
      by_cases hr : r = []
      · subst hr; exact ⟨_, .one g1 g2⟩
      · obtain ⟨k, hk⟩ := ih hr h2
        exact ⟨k, .cons g1 g2 g3 hk⟩
/-- Where none has taken the byte the whole text is not like it. -/
theorem Here.stuck {pl : List Pl} {P : Pc} {u : List UInt8} (hu : u ≠ []) (h : Here pl P u 0) (v : List UInt8) : ¬ Acc pl P (u ++ v) := by
  rintro (⟨h1, -⟩ | ⟨i, j, h1, h2, h3⟩)
  · exact hu (List.append_eq_nil_iff.1 h1).1
  · obtain ⟨k, hk⟩ := h3.pre hu
    have := (h k).2 ⟨i, h1, hk⟩
    simp at this

end Go.Proofs.YtcngifkoopcmeaaGreatDoor
