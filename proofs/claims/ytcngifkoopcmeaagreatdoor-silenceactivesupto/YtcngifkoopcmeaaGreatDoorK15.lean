/-
  What a reader of package ben is in memory, and what its small calls (fail, first, take, Open, Close, More, Left, Err) do to it.
  A reader lies in a block of its own, two cells: the bytes that are left, and the first error.
-/
import Derived.Test.YtcngifkoopcmeaaGreatDoorRows
import Derived.WalkKit
import Derived.WalkSpells
import Derived.WalkLawsBesides
namespace Go.Proofs.YtcngifkoopcmeaaGreatDoor
open Go.RowKit

/-- The reader's block. -/
def RdBlk (w : World) (rb : Nat) (a : Option Addr) (n c : Nat) (e : Int) : Prop :=
  w.heap[rb]? = some (.cells #[.slice a n c, .int .i64 e] 178 (0, 0))

theorem RdBlk.cell0 {w : World} {rb : Nat} {a : Option Addr} {n c : Nat} {e : Int} (h : RdBlk w rb a n c e) : w.cell? ⟨rb, 0, none⟩ = some (.slice a n c) := by
  unfold RdBlk at h; simp [World.cell?, h]
theorem RdBlk.cell1 {w : World} {rb : Nat} {a : Option Addr} {n c : Nat} {e : Int} (h : RdBlk w rb a n c e) : w.cell? ⟨rb, 1, none⟩ = some (.int .i64 e) := by
  unfold RdBlk at h; simp [World.cell?, h]
theorem RdBlk.frozen {w : World} {rb : Nat} {a : Option Addr} {n c : Nat} {e : Int} (h : RdBlk w rb a n c e) (i : Nat) : w.frozen? ⟨rb, i, none⟩ = false := by
  unfold RdBlk at h; simp [World.frozen?, h]
theorem RdBlk.lt {w : World} {rb : Nat} {a : Option Addr} {n c : Nat} {e : Int} (h : RdBlk w rb a n c e) : rb < w.heap.size := (Array.getElem?_eq_some_iff.1 h).1

theorem grownBy_setCell (w : World) (rb i : Nat) (v : Value) : w.grownBy (w.setCell ⟨rb, i, none⟩ v) (some rb) :=
  ⟨rfl, rfl, rfl, by simp [World.setCell], fun k _ hk => Below.heap_setCell _ _ _ _ (by intro e; exact hk (by rw [e]))⟩
theorem grownBy_refl (w : World) (r : Option Nat) : w.grownBy w r := ⟨rfl, rfl, rfl, Nat.le_refl _, fun _ _ _ => rfl⟩
theorem grownBy_trans {a b c : World} {r : Option Nat} (h : a.grownBy b r) (k : b.grownBy c r) : a.grownBy c r :=
  ⟨k.os.trans h.os, k.tape.trans h.tape, k.output.trans h.output, Nat.le_trans h.size k.size, fun i hi hr => (k.block i (Nat.lt_of_lt_of_le hi h.size) hr).trans (h.block i hi hr)⟩
theorem grownBy_of_below {w w' : World} {r : Option Nat} (h : Below w.heap.size w w') : w.grownBy w' r := ⟨h.os, h.tape, h.output, h.size, fun k hk _ => h.block k hk⟩

theorem RdBlk.set0 {w : World} {rb : Nat} {a : Option Addr} {n c : Nat} {e : Int} (h : RdBlk w rb a n c e) (a' : Option Addr) (n' c' : Nat) : RdBlk (w.setCell ⟨rb, 0, none⟩ (.slice a' n' c')) rb a' n' c' e := by
  unfold RdBlk at h ⊢; simp [World.setCell, Array.getElem?_modify, h]
theorem RdBlk.set1 {w : World} {rb : Nat} {a : Option Addr} {n c : Nat} {e : Int} (h : RdBlk w rb a n c e) (e' : Int) : RdBlk (w.setCell ⟨rb, 1, none⟩ (.int .i64 e')) rb a n c e' := by
  unfold RdBlk at h ⊢; simp [World.setCell, Array.getElem?_modify, h]

set_option maxHeartbeats 400000 in
theorem fail_any (rb : Nat) (a : Option Addr) (n c : Nat) (e0 e : Int) (w : World) (h : RdBlk w rb a n c e0) :
    Calls Tryz.prog 133 #[.pointer (some ⟨rb, 0, none⟩), .int .i64 e] w fun r w' => r = .returned (.tuple #[]) ∧ RdBlk w' rb none 0 0 e ∧ w.grownBy w' (some rb) := by
  have c0 := h.cell0
  have c1 := h.cell1
  have f0 := h.frozen 0
  have f1 := h.frozen 1
  go_enter Tryz.func133, Tryz.ntmps133
  go_wp2
  go_end0
  exact ⟨rfl, (h.set0 none 0 0).set1 e, grownBy_trans (grownBy_setCell _ _ _ _) (grownBy_setCell _ _ _ _)⟩

/-- The bytes of a list lie at an address; where there is none, anywhere. -/
def BytesAt (w : World) (a : Option Addr) (l : List UInt8) : Prop :=
  0 < l.length → ∃ b o, a = some ⟨b, o, none⟩ ∧ ∀ i, i < l.length → w.cell? ⟨b, o + i, none⟩ = some (.int .u8 (l.getD i 0).toNat)

/-- A reader: its block, the bytes that are left, the first error. -/
structure Rd (w : World) (rb : Nat) (a : Option Addr) (c : Nat) (l : List UInt8) (e : Int) : Prop where
  blk : RdBlk w rb a l.length c e
  le : l.length ≤ c
  lim : c ≤ maxLen
  bytes : BytesAt w a l
  away : ∀ p, a = some p → p.block < rb
  err : e ≠ 0 → l = []

theorem BytesAt.mono {w w' : World} {a : Option Addr} {l : List UInt8} {r : Option Nat} (h : BytesAt w a l) (hg : w.grownBy w' r) (hne : ∀ p, a = some p → some p.block ≠ r) : BytesAt w' a l := fun hn => by
  obtain ⟨b, o, rfl, hc⟩ := h hn
  exact ⟨b, o, rfl, fun i hi => hg.cell (hc i hi) (hne ⟨b, o, none⟩ rfl)⟩

/-- Another block has turned: the reader stands. -/
theorem Rd.mono {w w' : World} {rb : Nat} {a : Option Addr} {c : Nat} {l : List UInt8} {e : Int} {r : Option Nat} (h : Rd w rb a c l e) (hg : w.grownBy w' r) (hr : some rb ≠ r) (ha : ∀ p, a = some p → some p.block ≠ r) : Rd w' rb a c l e :=
  ⟨(hg.block rb h.blk.lt hr).trans h.blk, h.le, h.lim, h.bytes.mono hg ha, h.away, h.err⟩
theorem Rd.below {w w' : World} {rb : Nat} {a : Option Addr} {c : Nat} {l : List UInt8} {e : Int} (h : Rd w rb a c l e) (hb : Below w.heap.size w w') : Rd w' rb a c l e :=
  h.mono (r := none) (grownBy_of_below hb) (by simp) (by simp)

theorem Rd.failed {w : World} {rb : Nat} {e : Int} (h : RdBlk w rb none 0 0 e) : Rd w rb none 0 [] e :=
  ⟨h, Nat.le_refl _, (by unfold maxLen; omega), fun h => absurd h (by simp), (fun _ h => by cases h), fun _ => rfl⟩

theorem Rd.head {w : World} {rb : Nat} {a : Option Addr} {c : Nat} {x : UInt8} {l : List UInt8} {e : Int} (h : Rd w rb a c (x :: l) e) :
    ∃ b o, a = some ⟨b, o, none⟩ ∧ w.cell? ⟨b, o, none⟩ = some (.int .u8 x.toNat) := by
  obtain ⟨b, o, rfl, hc⟩ := h.bytes (by simp)
  exact ⟨b, o, rfl, by simpa using hc 0 (by simp)⟩

theorem add_block (q : Addr) (k : Nat) : (q.add k).block = q.block := by unfold Addr.add; split <;> rfl
/-- The address behind k bytes. -/
theorem Rd.addr {w : World} {rb : Nat} {a : Option Addr} {c : Nat} {l : List UInt8} {e : Int} (h : Rd w rb a c l e) (k : Nat) (hk : k ≤ l.length) :
    Rd (w.setCell ⟨rb, 0, none⟩ (.slice (if c = k then a else a.map (·.add (k * 1))) (l.length - k) (c - k))) rb (if c = k then a else a.map (·.add (k * 1))) (c - k) (l.drop k) e := by
  have hl : (l.drop k).length = l.length - k := by simp
  refine ⟨?_, by have := h.le; omega, by have := h.lim; omega, ?_, ?_, fun he => by rw [h.err he]; simp⟩
  · rw [hl]; exact h.blk.set0 _ _ _
  · intro hn
    obtain ⟨b, o, rfl, hc⟩ := h.bytes (by omega)
    have hck : c ≠ k := by have := h.le; omega
    refine ⟨b, o + k, by rw [if_neg hck]; simp [Addr.add], fun i hi => ?_⟩
    have hne := Nat.ne_of_lt (h.away _ rfl)
    refine (grownBy_setCell w rb 0 _).cell ?_ (by simpa using hne)
    rw [show o + k + i = o + (k + i) by omega, hc (k + i) (by omega)]
    simp [List.getD]
  · intro p hp
    split at hp
    · exact h.away p hp
    · obtain ⟨q, hq, rfl⟩ := Option.map_eq_some_iff.1 hp
      rw [add_block]
      exact h.away q hq

theorem sizeOf_u8 (w : World) : (Go.sizeOf 5).run Tryz.prog w = .ok 1 w := by kernel_rfl
theorem elem_bytes : Tryz.prog.elem 111 = 5 := by simp [Program.elem, Tryz.underlying111]
theorem slice_from (a : Option Addr) (n c k : Nat) (w : World) (hk : k ≤ n) :
    (Instr.slice 111 (.slice a n c) (some (.int .i64 (k : Int))) none none).run Tryz.prog w = .ok (.slice (if c = k then a else a.map (·.add (k * 1))) (n - k) (c - k)) w := by
  rw [run_slice_l w 111 _ _ _ (by rw [elem_bytes]; exact Tryz.underlying111) .i64 _ (by omega) (by omega), elem_bytes, sizeOf_u8]
  simp [Result.andThen, sliced]
theorem slice_to (a : Option Addr) (n c k : Nat) (w : World) (hk : k ≤ c) :
    (Instr.slice 111 (.slice a n c) none (some (.int .i64 (k : Int))) none).run Tryz.prog w = .ok (.slice a k c) w := by
  rw [run_slice_h w 111 _ _ _ (by rw [elem_bytes]; exact Tryz.underlying111) .i64 _ (by omega) (by omega), elem_bytes, sizeOf_u8]
  have e : (a.map fun x => x.add 0) = a := by cases a <;> simp [Addr.add]
  simp [Result.andThen, sliced, e]

/- first -/
set_option maxHeartbeats 400000 in
theorem first_nil (w : World) : Calls Tryz.prog 132 #[.pointer none] w fun r w' => r = .returned (.tuple #[.int .u8 0, .bool false]) ∧ w' = w := by
  go_enter Tryz.func132, Tryz.ntmps132
  go_wp2
  go_ret2
  exact ⟨rfl, rfl⟩

set_option maxHeartbeats 400000 in
theorem first_err (rb : Nat) (a : Option Addr) (c : Nat) (l : List UInt8) (e : Int) (w : World) (h : Rd w rb a c l e) (he : (e != 0) = true) :
    Calls Tryz.prog 132 #[.pointer (some ⟨rb, 0, none⟩)] w fun r w' => r = .returned (.tuple #[.int .u8 0, .bool false]) ∧ w' = w := by
  have c1 := h.blk.cell1
  clear h
  go_enter Tryz.func132, Tryz.ntmps132
  go_wp2
  go_ret2
  exact ⟨rfl, rfl⟩

set_option maxHeartbeats 400000 in
theorem first_cut (rb : Nat) (a : Option Addr) (c : Nat) (w : World) (h : Rd w rb a c [] 0) :
    Calls Tryz.prog 132 #[.pointer (some ⟨rb, 0, none⟩)] w fun r w' => r = .returned (.tuple #[.int .u8 0, .bool false]) ∧ Rd w' rb none 0 [] 3 ∧ w.grownBy w' (some rb) := by
  have c0 := h.blk.cell0
  have c1 := h.blk.cell1
  simp only [List.length_nil] at c0
  go_enter Tryz.func132, Tryz.ntmps132
  go_wp2_with (go_at_call 133; refine (fail_any rb a 0 c 0 3 _ h.blk).mono ?_; rintro r w' ⟨rfl, hb, hg⟩)
  go_ret2
  exact ⟨rfl, Rd.failed hb, hg⟩

set_option maxHeartbeats 400000 in
theorem first_ok (rb : Nat) (a : Option Addr) (c : Nat) (x : UInt8) (l : List UInt8) (w : World) (h : Rd w rb a c (x :: l) 0) :
    Calls Tryz.prog 132 #[.pointer (some ⟨rb, 0, none⟩)] w fun r w' => r = .returned (.tuple #[.int .u8 x.toNat, .bool true]) ∧ w' = w := by
  obtain ⟨b, o, rfl, hx⟩ := h.head
  have c0 := h.blk.cell0
  have c1 := h.blk.cell1
  simp only [List.length_cons] at c0
  clear h
  go_enter Tryz.func132, Tryz.ntmps132
  go_wp2
  go_ret2
  exact ⟨rfl, rfl⟩

/- take -/
set_option maxHeartbeats 400000 in
theorem take_nil (b : Int) (w : World) : Calls Tryz.prog 131 #[.pointer none, .int .u8 b] w fun r w' => r = .returned (.bool false) ∧ w' = w := by
  go_enter Tryz.func131, Tryz.ntmps131
  go_wp2_with (go_at_call 132; refine (first_nil _).mono ?_; rintro r w' ⟨rfl, rfl⟩)
  go_ret
  exact ⟨rfl, rfl⟩

set_option maxHeartbeats 400000 in
theorem take_err (rb : Nat) (a : Option Addr) (c : Nat) (l : List UInt8) (e b : Int) (w : World) (h : Rd w rb a c l e) (he : (e != 0) = true) :
    Calls Tryz.prog 131 #[.pointer (some ⟨rb, 0, none⟩), .int .u8 b] w fun r w' => r = .returned (.bool false) ∧ w' = w := by
  go_enter Tryz.func131, Tryz.ntmps131
  go_wp2_with (go_at_call 132; refine (first_err rb a c l e _ h he).mono ?_; rintro r w' ⟨rfl, rfl⟩)
  go_ret
  exact ⟨rfl, rfl⟩

set_option maxHeartbeats 400000 in
theorem take_cut (rb : Nat) (a : Option Addr) (c : Nat) (b : Int) (w : World) (h : Rd w rb a c [] 0) :
    Calls Tryz.prog 131 #[.pointer (some ⟨rb, 0, none⟩), .int .u8 b] w fun r w' => r = .returned (.bool false) ∧ Rd w' rb none 0 [] 3 ∧ w.grownBy w' (some rb) := by
  go_enter Tryz.func131, Tryz.ntmps131
  go_wp2_with (go_at_call 132; refine (first_cut rb a c _ h).mono ?_; rintro r w' ⟨rfl, hr, hg⟩)
  go_ret
  exact ⟨rfl, hr, hg⟩

set_option maxHeartbeats 400000 in
theorem take_other (rb : Nat) (a : Option Addr) (c : Nat) (x : UInt8) (l : List UInt8) (b : Int) (w : World) (h : Rd w rb a c (x :: l) 0) (hx : ((x.toNat : Int) != b) = true) :
    Calls Tryz.prog 131 #[.pointer (some ⟨rb, 0, none⟩), .int .u8 b] w fun r w' => r = .returned (.bool false) ∧ Rd w' rb none 0 [] 4 ∧ w.grownBy w' (some rb) := by
  go_enter Tryz.func131, Tryz.ntmps131
  go_wp2_with (first | (go_at_call 132; refine (first_ok rb a c x l _ h).mono ?_; rintro r w' ⟨rfl, rfl⟩) | (go_at_call 133; refine (fail_any rb a _ c 0 4 _ h.blk).mono ?_; rintro r w' ⟨rfl, hb, hg⟩))
  go_ret
  exact ⟨rfl, Rd.failed hb, hg⟩

set_option maxHeartbeats 400000 in
theorem take_ok (rb : Nat) (a : Option Addr) (c : Nat) (x : UInt8) (l : List UInt8) (b : Int) (w : World) (h : Rd w rb a c (x :: l) 0) (hx : ((x.toNat : Int) != b) = false) :
    Calls Tryz.prog 131 #[.pointer (some ⟨rb, 0, none⟩), .int .u8 b] w fun r w' => r = .returned (.bool true) ∧ (∃ p, Rd w' rb (some p) (c - 1) l 0) ∧ w.grownBy w' (some rb) := by
  have c0 := h.blk.cell0
  have f0 := h.blk.frozen 0
  have hc := h.le
  simp only [List.length_cons] at c0 hc
  have hr := h.addr 1 (by simp)
  simp only [List.length_cons, Nat.add_sub_cancel, List.drop_succ_cons, List.drop_zero] at hr
  obtain ⟨p, hp⟩ : ∃ p, some p = (if c = 1 then a else a.map (·.add (1 * 1))) := by
    obtain ⟨b, o, rfl, _⟩ := h.head
    split
    · exact ⟨_, rfl⟩
    · exact ⟨_, rfl⟩
  rw [← hp] at hr
  have hs : ∀ w, (Instr.slice 111 (.slice a (l.length + 1) c) (some (.int .i64 1)) none none).run Tryz.prog w = .ok (.slice (some p) l.length (c - 1)) w := by
    intro w
    rw [hp]
    exact slice_from a (l.length + 1) c 1 w (by omega)
  clear hp
  go_enter Tryz.func131, Tryz.ntmps131
  go_wp2_with (go_at_call 132; refine (first_ok rb a c x l _ h).mono ?_; rintro r w' ⟨rfl, rfl⟩)
  go_ret
  exact ⟨rfl, ⟨p, hr⟩, grownBy_setCell _ _ _ _⟩

/- Open, Close, More, Left, Err -/
set_option maxHeartbeats 400000 in
theorem Open_nil (w : World) : Calls Tryz.prog 86 #[.pointer none] w fun r w' => r = .returned (.tuple #[]) ∧ w' = w := by
  go_enter Tryz.func86, Tryz.ntmps86
  go_wp2_with (go_at_call 131; refine (take_nil _ _).mono ?_; rintro r w' ⟨rfl, rfl⟩)
  go_end0
  exact ⟨rfl, rfl⟩
set_option maxHeartbeats 400000 in
theorem Open_err (rb : Nat) (a : Option Addr) (c : Nat) (l : List UInt8) (e : Int) (w : World) (h : Rd w rb a c l e) (he : (e != 0) = true) :
    Calls Tryz.prog 86 #[.pointer (some ⟨rb, 0, none⟩)] w fun r w' => r = .returned (.tuple #[]) ∧ w' = w := by
  go_enter Tryz.func86, Tryz.ntmps86
  go_wp2_with (go_at_call 131; refine (take_err rb a c l e _ _ h he).mono ?_; rintro r w' ⟨rfl, rfl⟩)
  go_end0
  exact ⟨rfl, rfl⟩
set_option maxHeartbeats 400000 in
theorem Open_cut (rb : Nat) (a : Option Addr) (c : Nat) (w : World) (h : Rd w rb a c [] 0) :
    Calls Tryz.prog 86 #[.pointer (some ⟨rb, 0, none⟩)] w fun r w' => r = .returned (.tuple #[]) ∧ Rd w' rb none 0 [] 3 ∧ w.grownBy w' (some rb) := by
  go_enter Tryz.func86, Tryz.ntmps86
  go_wp2_with (go_at_call 131; refine (take_cut rb a c _ _ h).mono ?_; rintro r w' ⟨rfl, hr, hg⟩)
  go_end0
  exact ⟨rfl, hr, hg⟩
set_option maxHeartbeats 400000 in
theorem Open_other (rb : Nat) (a : Option Addr) (c : Nat) (x : UInt8) (l : List UInt8) (w : World) (h : Rd w rb a c (x :: l) 0) (hx : ((x.toNat : Int) != 108) = true) :
    Calls Tryz.prog 86 #[.pointer (some ⟨rb, 0, none⟩)] w fun r w' => r = .returned (.tuple #[]) ∧ Rd w' rb none 0 [] 4 ∧ w.grownBy w' (some rb) := by
  go_enter Tryz.func86, Tryz.ntmps86
  go_wp2_with (go_at_call 131; refine (take_other rb a c x l _ _ h hx).mono ?_; rintro r w' ⟨rfl, hr, hg⟩)
  go_end0
  exact ⟨rfl, hr, hg⟩
set_option maxHeartbeats 400000 in
theorem Open_ok (rb : Nat) (a : Option Addr) (c : Nat) (l : List UInt8) (w : World) (h : Rd w rb a c (108 :: l) 0) :
    Calls Tryz.prog 86 #[.pointer (some ⟨rb, 0, none⟩)] w fun r w' => r = .returned (.tuple #[]) ∧ (∃ p, Rd w' rb (some p) (c - 1) l 0) ∧ w.grownBy w' (some rb) := by
  go_enter Tryz.func86, Tryz.ntmps86
  go_wp2_with (go_at_call 131; refine (take_ok rb a c 108 l _ _ h (by decide)).mono ?_; rintro r w' ⟨rfl, hr, hg⟩)
  go_end0
  exact ⟨rfl, hr, hg⟩
set_option maxHeartbeats 400000 in
theorem Close_nil (w : World) : Calls Tryz.prog 90 #[.pointer none] w fun r w' => r = .returned (.tuple #[]) ∧ w' = w := by
  go_enter Tryz.func90, Tryz.ntmps90
  go_wp2_with (go_at_call 131; refine (take_nil _ _).mono ?_; rintro r w' ⟨rfl, rfl⟩)
  go_end0
  exact ⟨rfl, rfl⟩
set_option maxHeartbeats 400000 in
theorem Close_err (rb : Nat) (a : Option Addr) (c : Nat) (l : List UInt8) (e : Int) (w : World) (h : Rd w rb a c l e) (he : (e != 0) = true) :
    Calls Tryz.prog 90 #[.pointer (some ⟨rb, 0, none⟩)] w fun r w' => r = .returned (.tuple #[]) ∧ w' = w := by
  go_enter Tryz.func90, Tryz.ntmps90
  go_wp2_with (go_at_call 131; refine (take_err rb a c l e _ _ h he).mono ?_; rintro r w' ⟨rfl, rfl⟩)
  go_end0
  exact ⟨rfl, rfl⟩
set_option maxHeartbeats 400000 in
theorem Close_cut (rb : Nat) (a : Option Addr) (c : Nat) (w : World) (h : Rd w rb a c [] 0) :
    Calls Tryz.prog 90 #[.pointer (some ⟨rb, 0, none⟩)] w fun r w' => r = .returned (.tuple #[]) ∧ Rd w' rb none 0 [] 3 ∧ w.grownBy w' (some rb) := by
  go_enter Tryz.func90, Tryz.ntmps90
  go_wp2_with (go_at_call 131; refine (take_cut rb a c _ _ h).mono ?_; rintro r w' ⟨rfl, hr, hg⟩)
  go_end0
  exact ⟨rfl, hr, hg⟩
set_option maxHeartbeats 400000 in
theorem Close_other (rb : Nat) (a : Option Addr) (c : Nat) (x : UInt8) (l : List UInt8) (w : World) (h : Rd w rb a c (x :: l) 0) (hx : ((x.toNat : Int) != 101) = true) :
    Calls Tryz.prog 90 #[.pointer (some ⟨rb, 0, none⟩)] w fun r w' => r = .returned (.tuple #[]) ∧ Rd w' rb none 0 [] 4 ∧ w.grownBy w' (some rb) := by
  go_enter Tryz.func90, Tryz.ntmps90
  go_wp2_with (go_at_call 131; refine (take_other rb a c x l _ _ h hx).mono ?_; rintro r w' ⟨rfl, hr, hg⟩)
  go_end0
  exact ⟨rfl, hr, hg⟩
set_option maxHeartbeats 400000 in
theorem Close_ok (rb : Nat) (a : Option Addr) (c : Nat) (l : List UInt8) (w : World) (h : Rd w rb a c (101 :: l) 0) :
    Calls Tryz.prog 90 #[.pointer (some ⟨rb, 0, none⟩)] w fun r w' => r = .returned (.tuple #[]) ∧ (∃ p, Rd w' rb (some p) (c - 1) l 0) ∧ w.grownBy w' (some rb) := by
  go_enter Tryz.func90, Tryz.ntmps90
  go_wp2_with (go_at_call 131; refine (take_ok rb a c 101 l _ _ h (by decide)).mono ?_; rintro r w' ⟨rfl, hr, hg⟩)
  go_end0
  exact ⟨rfl, hr, hg⟩

/-- Whether a list goes on. -/
def moreB : List UInt8 → Bool
  | [] => false
  | x :: _ => (x.toNat : Int) != 101
set_option maxHeartbeats 400000 in
theorem More_nil (w : World) : Calls Tryz.prog 87 #[.pointer none] w fun r w' => r = .returned (.bool false) ∧ w' = w := by
  go_enter Tryz.func87, Tryz.ntmps87
  go_wp2
  go_ret
  exact ⟨rfl, rfl⟩
set_option maxHeartbeats 400000 in
theorem More_any (rb : Nat) (a : Option Addr) (c : Nat) (l : List UInt8) (e : Int) (w : World) (h : Rd w rb a c l e) :
    Calls Tryz.prog 87 #[.pointer (some ⟨rb, 0, none⟩)] w fun r w' => r = .returned (.bool (moreB l)) ∧ w' = w := by
  have c0 := h.blk.cell0
  cases l with
  | nil =>
    simp only [List.length_nil] at c0
    clear h
    go_enter Tryz.func87, Tryz.ntmps87
    go_wp2
    go_ret
    exact ⟨rfl, rfl⟩
  | cons x l =>
    obtain ⟨b, o, rfl, hx⟩ := h.head
    simp only [List.length_cons] at c0
    clear h
    go_enter Tryz.func87, Tryz.ntmps87
    go_wp2
    go_ret
    exact ⟨rfl, rfl⟩
set_option maxHeartbeats 400000 in
theorem Left_nil (w : World) : Calls Tryz.prog 92 #[.pointer none] w fun r w' => r = .returned (.int .i64 0) ∧ w' = w := by
  go_enter Tryz.func92, Tryz.ntmps92
  go_wp2
  go_ret
  exact ⟨rfl, rfl⟩
set_option maxHeartbeats 400000 in
theorem Left_any (rb : Nat) (a : Option Addr) (c : Nat) (l : List UInt8) (e : Int) (w : World) (h : Rd w rb a c l e) :
    Calls Tryz.prog 92 #[.pointer (some ⟨rb, 0, none⟩)] w fun r w' => r = .returned (.int .i64 l.length) ∧ w' = w := by
  have c0 := h.blk.cell0
  clear h
  go_enter Tryz.func92, Tryz.ntmps92
  go_wp2
  go_ret
  exact ⟨rfl, rfl⟩
set_option maxHeartbeats 400000 in
theorem Err_nil (w : World) : Calls Tryz.prog 91 #[.pointer none] w fun r w' => r = .returned (.int .i64 1) ∧ w' = w := by
  go_enter Tryz.func91, Tryz.ntmps91
  go_wp2
  go_ret
  exact ⟨rfl, rfl⟩
set_option maxHeartbeats 400000 in
theorem Err_any (rb : Nat) (a : Option Addr) (c : Nat) (l : List UInt8) (e : Int) (w : World) (h : Rd w rb a c l e) :
    Calls Tryz.prog 91 #[.pointer (some ⟨rb, 0, none⟩)] w fun r w' => r = .returned (.int .i64 e) ∧ w' = w := by
  have c1 := h.blk.cell1
  clear h
  go_enter Tryz.func91, Tryz.ntmps91
  go_wp2
  go_ret
  exact ⟨rfl, rfl⟩

end Go.Proofs.YtcngifkoopcmeaaGreatDoor
