/-
  What a reader of a pattern is in memory, and what its small calls do.
-/
import Derived.Test.YtfllfmdopfeecabGreatDoorRows
import Derived.Test.YtfllfmdopfeecabGreatDoorXParse
import Derived.WalkKit
import Derived.WalkSpells
import Derived.WalkLawsBesides
import Derived.BigQuiet
import Derived.Deep.QuietTactic
import Derived.Lib.Hide
import Derived.OwnWalk
namespace Go.Proofs.YtfllfmdopfeecabGreatDoor
open Go.RowKit

/-- The panic that gives a pattern up. -/
abbrev gaveUp : Ending := .panicked [{ v := .iface 44 (.int .i64 9), recovered := false }]

theorem giveUp_any (w : World) : Calls Tryz.prog 107 #[] w fun e w' => e = gaveUp ∧ w' = w := by
  go_enter Tryz.func107, Tryz.ntmps107
  go_wp2
  exact ⟨rfl, rfl, rfl⟩

/-- The reader's block: its pattern, and how much of it is read. -/
def XdBlk (w : World) (rb xb : Nat) (s : ByteArray) (k : Nat) : Prop :=
  w.heap[rb]? = some (.cells #[.pointer (some ⟨xb, 0, none⟩), .string s, .int .i64 (k : Int)] 155 (0, 0))

theorem XdBlk.cell0 {w : World} {rb xb : Nat} {s : ByteArray} {k : Nat} (h : XdBlk w rb xb s k) : w.cell? ⟨rb, 0, none⟩ = some (.pointer (some ⟨xb, 0, none⟩)) := by
  unfold XdBlk at h; simp [World.cell?, h]
theorem XdBlk.cell1 {w : World} {rb xb : Nat} {s : ByteArray} {k : Nat} (h : XdBlk w rb xb s k) : w.cell? ⟨rb, 1, none⟩ = some (.string s) := by
  unfold XdBlk at h; simp [World.cell?, h]
theorem XdBlk.cell2 {w : World} {rb xb : Nat} {s : ByteArray} {k : Nat} (h : XdBlk w rb xb s k) : w.cell? ⟨rb, 2, none⟩ = some (.int .i64 (k : Int)) := by
  unfold XdBlk at h; simp [World.cell?, h]
theorem XdBlk.frozen {w : World} {rb xb : Nat} {s : ByteArray} {k : Nat} (h : XdBlk w rb xb s k) (i : Nat) : w.frozen? ⟨rb, i, none⟩ = false := by
  unfold XdBlk at h; simp [World.frozen?, h]
theorem XdBlk.lt {w : World} {rb xb : Nat} {s : ByteArray} {k : Nat} (h : XdBlk w rb xb s k) : rb < w.heap.size := (Array.getElem?_eq_some_iff.1 h).1
theorem XdBlk.set2 {w : World} {rb xb : Nat} {s : ByteArray} {k : Nat} (h : XdBlk w rb xb s k) (k' : Nat) : XdBlk (w.setCell ⟨rb, 2, none⟩ (.int .i64 (k' : Int))) rb xb s k' := by
  unfold XdBlk at h ⊢; simp [World.setCell, Array.getElem?_modify, h]

/-- What is left of a pattern, of which k bytes are read. -/
structure Left (s : ByteArray) (k : Nat) (l : List UInt8) : Prop where
  le : s.size ≤ 64
  eq : k + l.length = s.size
  drop : s.data.toList.drop k = l

theorem Left.nil {s : ByteArray} {k : Nat} (h : Left s k []) : k = s.size := by have := h.eq; simpa using this
theorem Left.lt {s : ByteArray} {k : Nat} {c : UInt8} {l : List UInt8} (h : Left s k (c :: l)) : k < s.size := by have := h.eq; simp at this; omega
theorem Left.get {s : ByteArray} {k : Nat} {c : UInt8} {l : List UInt8} (h : Left s k (c :: l)) : s[k]'h.lt = c := by
  have h1 : s.data.toList[k]? = some c := by
    have := h.drop
    rw [← List.head?_drop, this]; rfl
  have h2 : k < s.data.toList.length := by simpa using h.lt
  rw [List.getElem?_eq_getElem h2, Option.some.injEq] at h1
  exact h1
theorem Left.next {s : ByteArray} {k : Nat} {c : UInt8} {l : List UInt8} (h : Left s k (c :: l)) : Left s (k + 1) l := by
  refine ⟨h.le, by have := h.eq; simp at this; omega, ?_⟩
  rw [← List.drop_drop, h.drop]; rfl


theorem xgrown_setCell (w : World) (rb i : Nat) (v : Value) : w.grownBy (w.setCell ⟨rb, i, none⟩ v) (some rb) :=
  ⟨rfl, rfl, rfl, by simp [World.setCell], fun k _ hk => Below.heap_setCell _ _ _ _ (by intro e; exact hk (by rw [e]))⟩
theorem xgrown_trans {a b c : World} {r : Option Nat} (h : a.grownBy b r) (k : b.grownBy c r) : a.grownBy c r :=
  ⟨k.os.trans h.os, k.tape.trans h.tape, k.output.trans h.output, Nat.le_trans h.size k.size, fun i hi hr => (k.block i (Nat.lt_of_lt_of_le hi h.size) hr).trans (h.block i hi hr)⟩
theorem xgrown_of_below {w w' : World} {r : Option Nat} (h : Below w.heap.size w w') : w.grownBy w' r := ⟨h.os, h.tape, h.output, h.size, fun k hk _ => h.block k hk⟩
theorem grown_like {w a b : World} {r : Option Nat} (h : w.grownBy a r) (ho : b.os = a.os) (ht : b.tape = a.tape) (hu : b.output = a.output) (hh : b.heap = a.heap) : w.grownBy b r :=
  ⟨ho.trans h.os, ht.trans h.tape, hu.trans h.output, by rw [hh]; exact h.size, fun k h1 h2 => by rw [hh]; exact h.block k h1 h2⟩
theorem XdBlk.below {w w' : World} {rb xb : Nat} {s : ByteArray} {k : Nat} (h : XdBlk w rb xb s k) (hb : Below w.heap.size w w') : XdBlk w' rb xb s k := (hb.block rb h.lt).trans h
theorem below_drawn (w : World) (n : Nat) : Below w.heap.size w (w.drewN n) := ⟨rfl, rfl, rfl, Nat.le_refl _, fun _ _ => rfl⟩

set_option maxHeartbeats 400000 in
theorem take_no (rb xb : Nat) (s : ByteArray) (k : Nat) (w : World) (h : XdBlk w rb xb s k) (hl : Left s k []) :
    Calls Tryz.prog 149 #[.pointer (some ⟨rb, 0, none⟩)] w fun e w' => e = gaveUp ∧ Below w.heap.size w w' := by
  have c1 := h.cell1
  have c2 := h.cell2
  obtain rfl := hl.nil
  clear h hl
  go_enter Tryz.func149, Tryz.ntmps149
  go_wp2
  go_quiet (fail)
  go_wp2_with (go_at_call 107; refine (giveUp_any _).mono ?_; rintro e w' ⟨rfl, rfl⟩)
  exact ⟨rfl, rfl, below_drawn _ _⟩

set_option maxHeartbeats 400000 in
theorem xtake_ok (rb xb : Nat) (s : ByteArray) (k : Nat) (c : UInt8) (l : List UInt8) (w : World) (h : XdBlk w rb xb s k) (hl : Left s k (c :: l)) :
    Calls Tryz.prog 149 #[.pointer (some ⟨rb, 0, none⟩)] w fun e w' => e = .returned (.int .u8 c.toNat) ∧ XdBlk w' rb xb s (k + 1) ∧ w.grownBy w' (some rb) := by
  have c1 := h.cell1
  have c2 := h.cell2
  have f2 := h.frozen 2
  have hlt := hl.lt
  have hle := hl.le
  have hk : (k : Int) < (s.size : Int) := by omega
  have hne : ((k : Int) == (s.size : Int)) = false := by simp; omega
  have hg := hl.get
  have hs := h.set2 (k + 1)
  rw [← hg]
  clear hg
  go_enter Tryz.func149, Tryz.ntmps149
  go_wp2
  go_quiet (fail)
  go_wp2
  go_quiet (fail)
  go_wp2
  go_ret
  exact ⟨rfl, hs, grown_like (xgrown_setCell w rb 2 _) rfl rfl rfl rfl⟩

/-- Is a byte the next one? -/
def seesB (l : List UInt8) (b : UInt8) : Bool := match l with | [] => false | c :: _ => c == b

set_option maxHeartbeats 400000 in
theorem sees_any (rb xb : Nat) (s : ByteArray) (k : Nat) (l : List UInt8) (b : UInt8) (w : World) (h : XdBlk w rb xb s k) (hl : Left s k l) :
    Calls Tryz.prog 139 #[.pointer (some ⟨rb, 0, none⟩), .int .u8 b.toNat] w fun e w' => e = .returned (.bool (seesB l b)) ∧ ∃ n, w' = w.drewN n := by
  have c1 := h.cell1
  have c2 := h.cell2
  cases l with
  | nil =>
    obtain rfl := hl.nil
    clear h hl
    go_enter Tryz.func139, Tryz.ntmps139
    go_wp2
    go_quiet (fail)
    go_wp2
    go_ret
    exact ⟨rfl, _, rfl⟩
  | cons c l =>
    have hlt := hl.lt
    have hle := hl.le
    have hk : (k : Int) < (s.size : Int) := by omega
    have hg := hl.get
    have hb : (((s[k].toNat : Nat) : Int) == ((b.toNat : Nat) : Int)) = seesB (c :: l) b := by
      rw [hg]
      show _ = (c == b)
      rw [Bool.eq_iff_iff]
      simp only [beq_iff_eq, Int.natCast_inj]
      exact UInt8.toNat_inj
    have HB := Lib.hid hb
    clear hb hg h hl
    go_enter Tryz.func139, Tryz.ntmps139
    go_wp2
    go_quiet (fail)
    go_wp2
    go_ret
    exact ⟨by rw [← HB.out]; rfl, _, rfl⟩

set_option maxHeartbeats 400000 in
theorem skip_no (rb xb : Nat) (s : ByteArray) (k : Nat) (l : List UInt8) (b : UInt8) (w : World) (h : XdBlk w rb xb s k) (hl : Left s k l) (hs : seesB l b = false) :
    Calls Tryz.prog 124 #[.pointer (some ⟨rb, 0, none⟩), .int .u8 b.toNat] w fun e w' => e = .returned (.bool false) ∧ ∃ n, w' = w.drewN n := by
  have HS := Lib.hid (sees_any rb xb s k l b w h hl)
  rw [hs] at HS
  clear hs h hl
  go_enter Tryz.func124, Tryz.ntmps124
  go_wp2_with (go_at_call 139; refine HS.out.mono ?_; rintro e w' ⟨rfl, n, rfl⟩)
  go_ret
  exact ⟨rfl, n, rfl⟩

set_option maxHeartbeats 400000 in
theorem skip_ok (rb xb : Nat) (s : ByteArray) (k : Nat) (l : List UInt8) (b : UInt8) (w : World) (h : XdBlk w rb xb s k) (hl : Left s k (b :: l)) :
    Calls Tryz.prog 124 #[.pointer (some ⟨rb, 0, none⟩), .int .u8 b.toNat] w fun e w' => e = .returned (.bool true) ∧ XdBlk w' rb xb s (k + 1) ∧ w.grownBy w' (some rb) := by
  have HS := Lib.hid (sees_any rb xb s k (b :: l) b w h hl)
  rw [show seesB (b :: l) b = true by simp [seesB]] at HS
  have c2 := h.cell2
  have f2 := h.frozen 2
  have hs := h.set2 (k + 1)
  have hlt := hl.lt
  have hle := hl.le
  clear h hl
  go_enter Tryz.func124, Tryz.ntmps124
  go_wp2_with (go_at_call 139; refine HS.out.mono ?_; rintro e w' ⟨rfl, n, rfl⟩)
  go_ret
  exact ⟨rfl, hs, grown_like (xgrown_setCell w rb 2 _) rfl rfl rfl rfl⟩

theorem index_str (s : ByteArray) (i : Nat) (z : Int) (hz : z = (i : Int)) (h : i < s.size) (w : World) : (Instr.index 9 (.string s) (.int .i64 z)).run Tryz.prog w = .ok (.int .u8 ((s[i].toNat : Nat) : Int)) w := by
  subst hz
  rw [run_index_string w 9 s .i64 _ Tryz.underlying9, dif_pos ⟨by omega, by omega⟩]
  rfl

set_option maxHeartbeats 400000 in
theorem seesRange_any (rb xb : Nat) (s : ByteArray) (k : Nat) (l : List UInt8) (w : World) (h : XdBlk w rb xb s k) (hl : Left s k l) :
    Calls Tryz.prog 159 #[.pointer (some ⟨rb, 0, none⟩)] w fun e w' => e = .returned (.bool (rangeB l)) ∧ ∃ n, w' = w.drewN n := by
  have c1 := h.cell1
  have c2 := h.cell2
  have HS := Lib.hid (fun n : Nat => sees_any rb xb s k l 45 (w.drewN n) h hl)
  have hle := hl.le
  have heq := hl.eq
  match l, hl, HS, heq with
  | [], hl, HS, heq =>
    simp only [show seesB [] 45 = false from rfl] at HS
    rw [show rangeB [] = false from rfl]
    clear h hl heq
    go_enter Tryz.func159, Tryz.ntmps159
    go_wp2
    go_quiet ((go_at_call 139; exact Calls.quiet_of (HS.out _)))
    go_wp2
    go_ret
    exact ⟨rfl, _, rfl⟩
  | [c], hl, HS, heq =>
    rw [show rangeB [c] = false from rfl]
    simp only [List.length_singleton] at heq
    have hk : decide ((k : Int) + 1 < (s.size : Int)) = false := decide_eq_false (by omega)
    clear h hl heq
    by_cases hc : c = 45
    · subst hc
      simp only [show seesB [45] 45 = true from rfl] at HS
      go_enter Tryz.func159, Tryz.ntmps159
      go_wp2
      go_quiet ((go_at_call 139; exact Calls.quiet_of (HS.out _)))
      go_wp2
      go_ret
      exact ⟨rfl, _, rfl⟩
    · have hc2 : seesB [c] 45 = false := by simpa [seesB] using hc
      simp only [hc2] at HS
      clear hc hc2
      go_enter Tryz.func159, Tryz.ntmps159
      go_wp2
      go_quiet ((go_at_call 139; exact Calls.quiet_of (HS.out _)))
      go_wp2
      go_ret
      exact ⟨rfl, _, rfl⟩
  | c :: d :: l, hl, HS, heq =>
    have hlt2 := hl.next.lt
    have hg := hl.next.get
    have hk : (k : Int) + 1 < (s.size : Int) := by omega
    have hd := decide_eq_true hk
    have hw : IntKind.i64.wrap ((k : Int) + 1) = (k : Int) + 1 := by rw [IntKind.wrap_i64]; omega
    clear heq
    by_cases hc : c = 45
    · subst hc
      have hb : (((s[k + 1].toNat : Nat) : Int) != 93) = rangeB (45 :: d :: l) := by
        rw [hg]
        show _ = ((45 : UInt8) == 45 && d != 93)
        simp only [beq_self_eq_true, Bool.true_and]
        rw [Bool.eq_iff_iff]
        simp only [bne_iff_ne, ne_eq]
        rw [show (93 : Int) = ((93 : UInt8).toNat : Int) from rfl, Int.natCast_inj, UInt8.toNat_inj]
      have HB := Lib.hid hb
      have hix := fun w => index_str s (k + 1) ((k : Int) + 1) (by omega) hlt2 w
      simp only [show seesB (45 :: d :: l) 45 = true from rfl] at HS
      clear h hl hb hg
      go_enter Tryz.func159, Tryz.ntmps159
      go_wp2
      go_quiet ((go_at_call 139; exact Calls.quiet_of (HS.out _)))
      go_wp2
      go_ret
      exact ⟨by rw [← HB.out]; rfl, _, rfl⟩
    · have hc2 : seesB (c :: d :: l) 45 = false := by simpa [seesB] using hc
      have hr : rangeB (c :: d :: l) = false := by simp [rangeB, hc]
      rw [hr]
      simp only [hc2] at HS
      clear hc hc2 hr h hl hg
      go_enter Tryz.func159, Tryz.ntmps159
      go_wp2
      go_quiet ((go_at_call 139; exact Calls.quiet_of (HS.out _)))
      go_wp2
      go_ret
      exact ⟨rfl, _, rfl⟩

set_option maxHeartbeats 400000 in
theorem setByte_no (rb xb : Nat) (s : ByteArray) (k : Nat) (l : List UInt8) (w : World) (h : XdBlk w rb xb s k) (hl : Left s k l) (hp : pByte l = none) :
    Calls Tryz.prog 158 #[.pointer (some ⟨rb, 0, none⟩)] w fun e w' => e = gaveUp ∧ w.grownBy w' (some rb) := by
  match l, hl with
  | [], hl =>
    have HT := Lib.hid (take_no rb xb s k w h hl)
    clear h hl hp
    go_enter Tryz.func158, Tryz.ntmps158
    go_wp2_with (go_at_call 149; refine HT.out.mono ?_; rintro e w' ⟨rfl, hb⟩)
    exact ⟨rfl, rfl, xgrown_of_below hb⟩
  | c :: l, hl =>
    have HT := Lib.hid (xtake_ok rb xb s k c l w h hl)
    by_cases h1 : c = 93
    · subst h1
      clear h hl hp
      go_enter Tryz.func158, Tryz.ntmps158
      go_wp2_with (first | (go_at_call 149; refine HT.out.mono ?_; rintro e w' ⟨rfl, hr, hg⟩) | (go_at_call 107; refine (giveUp_any _).mono ?_; rintro e w2 ⟨rfl, rfl⟩))
      exact ⟨rfl, rfl, hg⟩
    · by_cases h2 : c = 92
      · subst h2
        cases l with
        | nil =>
          have hl2 := hl.next
          clear h hl hp
          go_enter Tryz.func158, Tryz.ntmps158
          go_wp2_with (first | (go_at_call 149; refine HT.out.mono ?_; rintro e w' ⟨rfl, hr, hg⟩; refine Hid.out ?_))
          refine Lib.hid ?_
          go_wp2_with (first | (go_at_call 149; refine (take_no rb xb s (k + 1) w' hr hl2).mono ?_; rintro e w2 ⟨rfl, hb⟩))
          exact ⟨rfl, rfl, xgrown_trans hg (xgrown_of_below hb)⟩
        | cons d l => simp [pByte] at hp
      · simp [pByte, h1, h2] at hp

theorem u8_ne {c d : UInt8} (h : c ≠ d) : (((c.toNat : Nat) : Int) == ((d.toNat : Nat) : Int)) = false := by
  rw [Bool.eq_false_iff]
  intro e
  rw [beq_iff_eq, Int.natCast_inj, UInt8.toNat_inj] at e
  exact h e

set_option maxHeartbeats 400000 in
theorem setByte_ok (rb xb : Nat) (s : ByteArray) (k : Nat) (l : List UInt8) (c : UInt8) (l' : List UInt8) (w : World) (h : XdBlk w rb xb s k) (hl : Left s k l) (hp : pByte l = some (c, l')) :
    Calls Tryz.prog 158 #[.pointer (some ⟨rb, 0, none⟩)] w fun e w' => e = .returned (.int .u8 c.toNat) ∧ ∃ k', XdBlk w' rb xb s k' ∧ Left s k' l' ∧ w.grownBy w' (some rb) := by
  match l, hl with
  | [], hl => simp [pByte] at hp
  | a :: l, hl =>
    have HT := Lib.hid (xtake_ok rb xb s k a l w h hl)
    by_cases h1 : a = 93
    · simp [pByte, h1] at hp
    · by_cases h2 : a = 92
      · subst h2
        cases l with
        | nil => simp [pByte] at hp
        | cons d l =>
          simp [pByte] at hp
          obtain ⟨rfl, rfl⟩ := hp
          have hl2 := hl.next
          clear h hl
          go_enter Tryz.func158, Tryz.ntmps158
          go_wp2_with (first | (go_at_call 149; refine HT.out.mono ?_; rintro e w' ⟨rfl, hr, hg⟩; refine Hid.out ?_))
          refine Lib.hid ?_
          go_wp2_with (first | (go_at_call 149; refine (xtake_ok rb xb s (k + 1) d l w' hr hl2).mono ?_; rintro e w2 ⟨rfl, hr2, hg2⟩))
          go_ret
          exact ⟨rfl, _, hr2, hl2.next, xgrown_trans hg hg2⟩
      · simp only [pByte, h1, h2, if_false, Option.some.injEq, Prod.mk.injEq] at hp
        obtain ⟨rfl, rfl⟩ := hp
        have hl2 := hl.next
        have n1 := u8_ne h1
        have n2 := u8_ne h2
        simp only [show ((93 : UInt8).toNat : Int) = 93 from rfl] at n1
        simp only [show ((92 : UInt8).toNat : Int) = 92 from rfl] at n2
        clear h hl h1 h2
        go_enter Tryz.func158, Tryz.ntmps158
        go_wp2_with (first | (go_at_call 149; refine HT.out.mono ?_; rintro e w' ⟨rfl, hr, hg⟩))
        go_ret
        exact ⟨rfl, _, hr, hl2, hg⟩

end Go.Proofs.YtfllfmdopfeecabGreatDoor
