/-
  Cells of a block; an operation of a region that is taken first. What a reader of package ben is in memory, and what its small calls (fail, first, take, Open, Close, More, Left, Err) do to it.
  A reader lies in a block of its own, two cells: the bytes that are left, and the first error. DERIVED: THE SHELF's CONTRACTS AT THIS DUMP, IN PLAIN WORDS (tools/lay-plain.mjs out of 'YtmanjegdgjeeiaaGreatDoorShelfRaw.lean', which tools/lay-shelf.mjs wrote): THE SAME DECLARATIONS UNDER THE SAME NAMES: 'import', 'namespace', 'open', 'def', 'theorem' AND NOTHING ELSE: no command of the shelf's: FOR A HAND-IN. Each laying: the table of numbers ('.._ren') and one theorem, a field a fact of the dump's own or the kernel's comparison; each contract: ONE APPLICATION. New, and what a reader of package ben does to read a row of digits (row), a number (number) and Int.
-/
import Derived.Test.YtmanjegdgjeeiaaGreatDoorRows
import Derived.Lib.Hide
import Derived.WalkKit
import Derived.WalkSpells
import Derived.WalkLawsBesides
import Derived.Lib.Slices
import Derived.Lib.AppendStr
import Derived.OwnWalk
import Derived.BigCall
import Derived.Deep.RegionHeld3
import Derived.Laws.StructEq
import Derived.Shelf.Small.Bits
import Derived.Shelf.Small.Strs
import Derived.Shelf.Strconv.Itoa0
import Derived.Shelf.Strconv.Itoa1
import Derived.Shelf.LaysM
import Derived.Shelf.Strconv.Itoa2
import Derived.Shelf.Strconv.Itoa3
import Derived.Shelf.Strconv.Itoa4
import Derived.Shelf.Strconv.ParseIntEmpty
import Derived.Shelf.Strconv.Clone
import Derived.Shelf.Strconv.SyntaxError
import Derived.Shelf.LaysC
import Derived.Shelf.Strconv.ToError
import Derived.Shelf.Strconv.Lower
import Derived.Shelf.Strconv.ParseUint10
import Derived.Shelf.Strconv.ParseUint10Empty
import Derived.Shelf.Strconv.ParseUint10Any
import Derived.Shelf.Strconv.ParseInt10
import Derived.Shelf.Strconv.RangeError
import Derived.Shelf.Strconv.ToErrorRange
import Derived.Shelf.Strconv.ParseUintEmpty
import Derived.Shelf.Strconv.ParseUint10b64
import Derived.Shelf.Strconv.ParseUint10b32
import Derived.Shelf.Strconv.ParseUint10b16
import Derived.Shelf.Strconv.ParseUint10b8
import Derived.Shelf.Strconv.ParseUint10At
import Derived.Shelf.Strconv.ParseInt10At64
import Derived.Shelf.Strconv.ParseInt10At32
import Derived.Shelf.Strconv.ParseInt10At16
import Derived.Shelf.Strconv.ParseInt10At8
import Derived.Shelf.Strconv.ParseInt10All
import Derived.Shelf.Strconv.ParseIntPublic10
import Derived.Shelf.Strconv.ErrVarParseInt
import Derived.Shelf.Strings.Search1
import Derived.Shelf.Strconv.AppendUint10
import Derived.Shelf.Strconv.AppendInt10
import Derived.Shelf.Strconv.AppendIntPublic10
import Derived.Shelf.Slices.Turned
import Derived.Ground.Names2Prog
import Derived.Shelf.Slices.SearchI
import Derived.Shelf.Bytes.SlIndexAt
import Derived.Ground.SlbCloneProg
import Derived.Shelf.Bytes.SlClone
import Derived.Shelf.Bytes.IndexByte
import Derived.Test.YtmanjegdgjeeiaaGreatDoorProg
import Derived.Lib.Bytes
import Derived.Lib.IndexLaws
import Derived.Lib.ItoaLen
import Derived.Lib.AppendIntMem
import Derived.Lib.AtoiErrMem
import Derived.WalkSmall
import Derived.Laws.IdiomStrings
import Derived.Deep.QuietTactic
import Derived.BigQuiet
namespace Go.Proofs.YtmanjegdgjeeiaaGreatDoor
open Go.RowKit

theorem cellE {w : World} {b j : Nat} {cs : Array Value} {t : TypeId} {fr : Nat × Nat} (h : w.heap[b]? = some (.cells cs t fr)) : w.cell? ⟨b, j, none⟩ = cs[j]? := by simp [World.cell?, h]
theorem newE (w : World) (o : Obj) : (w.alloc o).heap[w.heap.size]? = some o := by
  show (w.heap.push o)[w.heap.size]? = some o
  exact Array.getElem?_push_size
theorem ltE {w : World} {b : Nat} {o : Obj} (h : w.heap[b]? = some o) : b < w.heap.size := (Array.getElem?_eq_some_iff.1 h).1

/-- One operation is taken first, its slot said. -/
theorem wpAnyH_takeE {P : Program} {ops : Array Oper} {Q : Exit → Act → World → Prop} {md : Region.Mode} {S : World → Prop} {i : Nat} (dst : Option Nat) {oi : Oper} {v : Value} {fuel : Nat} {listed : Array Bool} {a : Act} {w : World} (hi : ops[i]? = some oi) (hd : oi.dst = dst)
    (hs : Region.noSelect ops = true) (hf : Region.free md ops listed i = true) (hr : (Region.ready md ops listed).contains i = true)
    (hQ : ∀ c a w, Q (.panic c) (a.put dst v) w → Q (.panic c) a w) (hy : YieldsIf P ops S oi v a) (hS : S w)
    (h : wpAnyH P md ops Q S fuel (listed.setIfInBounds i true) (a.put dst v) w) : wpAnyH P md ops Q S (fuel + 1) listed a w := by
  subst hd
  exact wpAnyH_take hi hs hf hr hQ hy hS h

theorem grownBy_setCell (w : World) (rb i : Nat) (v : Value) : w.grownBy (w.setCell ⟨rb, i, none⟩ v) (some rb) :=
  ⟨rfl, rfl, rfl, by simp [World.setCell], fun k _ hk => Below.heap_setCell _ _ _ _ (by intro e; exact hk (by rw [e]))⟩
theorem grownBy_refl (w : World) (r : Option Nat) : w.grownBy w r := ⟨rfl, rfl, rfl, Nat.le_refl _, fun _ _ _ => rfl⟩
theorem grownBy_trans {a b c : World} {r : Option Nat} (h : a.grownBy b r) (k : b.grownBy c r) : a.grownBy c r :=
  ⟨k.os.trans h.os, k.tape.trans h.tape, k.output.trans h.output, Nat.le_trans h.size k.size, fun i hi hr => (k.block i (Nat.lt_of_lt_of_le hi h.size) hr).trans (h.block i hi hr)⟩
theorem grownBy_of_below {w w' : World} {r : Option Nat} (h : Below w.heap.size w w') : w.grownBy w' r := ⟨h.os, h.tape, h.output, h.size, fun k hk _ => h.block k hk⟩

theorem grownBy_drewN (w : World) (n : Nat) (r : Option Nat) : w.grownBy (w.drewN n) r := ⟨rfl, rfl, rfl, Nat.le_refl _, fun _ _ _ => rfl⟩
theorem below_of_grownBy {B rb : Nat} {w w' : World} (h : w.grownBy w' (some rb)) (hr : B ≤ rb) (hB : B ≤ w.heap.size) : Below B w w' :=
  (Below.refl B w).grown h hB (fun k hk => by cases hk; exact hr)

end Go.Proofs.YtmanjegdgjeeiaaGreatDoor
namespace Go.Proofs.YtmanjegdgjeeiaaGreatDoor
open Go.RowKit

/-- The reader's block. -/
def RdBlk (w : World) (rb : Nat) (a : Option Addr) (n c : Nat) (e : Int) : Prop :=
  w.heap[rb]? = some (.cells #[.slice a n c, .int .i64 e] 124 (0, 0))

theorem RdBlk.cell0 {w : World} {rb : Nat} {a : Option Addr} {n c : Nat} {e : Int} (h : RdBlk w rb a n c e) : w.cell? ⟨rb, 0, none⟩ = some (.slice a n c) := by
  unfold RdBlk at h; simp [World.cell?, h]
theorem RdBlk.cell1 {w : World} {rb : Nat} {a : Option Addr} {n c : Nat} {e : Int} (h : RdBlk w rb a n c e) : w.cell? ⟨rb, 1, none⟩ = some (.int .i64 e) := by
  unfold RdBlk at h; simp [World.cell?, h]
theorem RdBlk.frozen {w : World} {rb : Nat} {a : Option Addr} {n c : Nat} {e : Int} (h : RdBlk w rb a n c e) (i : Nat) : w.frozen? ⟨rb, i, none⟩ = false := by
  unfold RdBlk at h; simp [World.frozen?, h]
theorem RdBlk.lt {w : World} {rb : Nat} {a : Option Addr} {n c : Nat} {e : Int} (h : RdBlk w rb a n c e) : rb < w.heap.size := (Array.getElem?_eq_some_iff.1 h).1

theorem RdBlk.set0 {w : World} {rb : Nat} {a : Option Addr} {n c : Nat} {e : Int} (h : RdBlk w rb a n c e) (a' : Option Addr) (n' c' : Nat) : RdBlk (w.setCell ⟨rb, 0, none⟩ (.slice a' n' c')) rb a' n' c' e := by
  unfold RdBlk at h ⊢; simp [World.setCell, Array.getElem?_modify, h]
theorem RdBlk.set1 {w : World} {rb : Nat} {a : Option Addr} {n c : Nat} {e : Int} (h : RdBlk w rb a n c e) (e' : Int) : RdBlk (w.setCell ⟨rb, 1, none⟩ (.int .i64 e')) rb a n c e' := by
  unfold RdBlk at h ⊢; simp [World.setCell, Array.getElem?_modify, h]

set_option maxHeartbeats 400000 in
theorem fail_any (rb : Nat) (a : Option Addr) (n c : Nat) (e0 e : Int) (w : World) (h : RdBlk w rb a n c e0) :
    Calls Tryz.prog 85 #[.pointer (some ⟨rb, 0, none⟩), .int .i64 e] w fun r w' => r = .returned (.tuple #[]) ∧ RdBlk w' rb none 0 0 e ∧ w.grownBy w' (some rb) := by
  have c0 := h.cell0
  have c1 := h.cell1
  have f0 := h.frozen 0
  have f1 := h.frozen 1
  go_enter Tryz.func85, Tryz.ntmps85
  go_wp2
  go_end0
  exact ⟨rfl, (h.set0 none 0 0).set1 e, grownBy_trans (grownBy_setCell _ _ _ _) (grownBy_setCell _ _ _ _)⟩

/-- The bytes of a list lie at an address; where there is none, anywhere. -/
def BytesAt (w : World) (a : Option Addr) (l : List UInt8) : Prop :=
  0 < l.length → ∃ b o, a = some ⟨b, o, none⟩ ∧ ∀ i, i < l.length → w.cell? ⟨b, o + i, none⟩ = some (.int .u8 (l.getD i 0).toNat)

/-- A reader: its block, the bytes that are left, the first error. -/
structure Rd (w : World) (rb : Nat) (a : Option Addr) (c : Nat) (l : List UInt8) (e : Int) : Prop where
  blk : RdBlk w rb a l.length c e
  le : l.length ≤ c
  lim : c ≤ maxLen
  bytes : BytesAt w a l
  away : ∀ p, a = some p → p.block < rb
  err : e ≠ 0 → l = []

theorem BytesAt.mono {w w' : World} {a : Option Addr} {l : List UInt8} {r : Option Nat} (h : BytesAt w a l) (hg : w.grownBy w' r) (hne : ∀ p, a = some p → some p.block ≠ r) : BytesAt w' a l := fun hn => by
  obtain ⟨b, o, rfl, hc⟩ := h hn
  exact ⟨b, o, rfl, fun i hi => hg.cell (hc i hi) (hne ⟨b, o, none⟩ rfl)⟩

/-- Another block has turned: the reader stands. -/
theorem Rd.mono {w w' : World} {rb : Nat} {a : Option Addr} {c : Nat} {l : List UInt8} {e : Int} {r : Option Nat} (h : Rd w rb a c l e) (hg : w.grownBy w' r) (hr : some rb ≠ r) (ha : ∀ p, a = some p → some p.block ≠ r) : Rd w' rb a c l e :=
  ⟨(hg.block rb h.blk.lt hr).trans h.blk, h.le, h.lim, h.bytes.mono hg ha, h.away, h.err⟩
theorem Rd.below {w w' : World} {rb : Nat} {a : Option Addr} {c : Nat} {l : List UInt8} {e : Int} (h : Rd w rb a c l e) (hb : Below w.heap.size w w') : Rd w' rb a c l e :=
  h.mono (r := none) (grownBy_of_below hb) (by simp) (by simp)

theorem Rd.failed {w : World} {rb : Nat} {e : Int} (h : RdBlk w rb none 0 0 e) : Rd w rb none 0 [] e :=
  ⟨h, Nat.le_refl _, (by unfold maxLen; omega), fun h => absurd h (by simp), (fun _ h => by cases h), fun _ => rfl⟩

theorem Rd.head {w : World} {rb : Nat} {a : Option Addr} {c : Nat} {x : UInt8} {l : List UInt8} {e : Int} (h : Rd w rb a c (x :: l) e) :
    ∃ b o, a = some ⟨b, o, none⟩ ∧ w.cell? ⟨b, o, none⟩ = some (.int .u8 x.toNat) := by
  obtain ⟨b, o, rfl, hc⟩ := h.bytes (by simp)
  exact ⟨b, o, rfl, by simpa using hc 0 (by simp)⟩

theorem add_block (q : Addr) (k : Nat) : (q.add k).block = q.block := by unfold Addr.add; split <;> rfl
/-- The address behind k bytes. -/
theorem Rd.addr {w : World} {rb : Nat} {a : Option Addr} {c : Nat} {l : List UInt8} {e : Int} (h : Rd w rb a c l e) (k : Nat) (hk : k ≤ l.length) :
    Rd (w.setCell ⟨rb, 0, none⟩ (.slice (if c = k then a else a.map (·.add (k * 1))) (l.length - k) (c - k))) rb (if c = k then a else a.map (·.add (k * 1))) (c - k) (l.drop k) e := by
  have hl : (l.drop k).length = l.length - k := by simp
  refine ⟨?_, by have := h.le; omega, by have := h.lim; omega, ?_, ?_, fun he => by rw [h.err he]; simp⟩
  · rw [hl]; exact h.blk.set0 _ _ _
  · intro hn
    obtain ⟨b, o, rfl, hc⟩ := h.bytes (by omega)
    have hck : c ≠ k := by have := h.le; omega
    refine ⟨b, o + k, by rw [if_neg hck]; simp [Addr.add], fun i hi => ?_⟩
    have hne := Nat.ne_of_lt (h.away _ rfl)
    refine (grownBy_setCell w rb 0 _).cell ?_ (by simpa using hne)
    rw [show o + k + i = o + (k + i) by omega, hc (k + i) (by omega)]
    simp [List.getD]
  · intro p hp
    split at hp
    · exact h.away p hp
    · obtain ⟨q, hq, rfl⟩ := Option.map_eq_some_iff.1 hp
      rw [add_block]
      exact h.away q hq

theorem sizeOf_u8 (w : World) : (Go.sizeOf 5).run Tryz.prog w = .ok 1 w := by kernel_rfl
theorem elem_bytes : Tryz.prog.elem 86 = 5 := by simp [Program.elem, Tryz.underlying86]
theorem slice_from (a : Option Addr) (n c k : Nat) (w : World) (hk : k ≤ n) :
    (Instr.slice 86 (.slice a n c) (some (.int .i64 (k : Int))) none none).run Tryz.prog w = .ok (.slice (if c = k then a else a.map (·.add (k * 1))) (n - k) (c - k)) w := by
  rw [run_slice_l w 86 _ _ _ (by rw [elem_bytes]; exact Tryz.underlying86) .i64 _ (by omega) (by omega), elem_bytes, sizeOf_u8]
  simp [Result.andThen, sliced]
theorem slice_to (a : Option Addr) (n c k : Nat) (w : World) (hk : k ≤ c) :
    (Instr.slice 86 (.slice a n c) none (some (.int .i64 (k : Int))) none).run Tryz.prog w = .ok (.slice a k c) w := by
  rw [run_slice_h w 86 _ _ _ (by rw [elem_bytes]; exact Tryz.underlying86) .i64 _ (by omega) (by omega), elem_bytes, sizeOf_u8]
  have e : (a.map fun x => x.add 0) = a := by cases a <;> simp [Addr.add]
  simp [Result.andThen, sliced, e]

/- first -/
set_option maxHeartbeats 400000 in
theorem first_nil (w : World) : Calls Tryz.prog 84 #[.pointer none] w fun r w' => r = .returned (.tuple #[.int .u8 0, .bool false]) ∧ w' = w := by
  go_enter Tryz.func84, Tryz.ntmps84
  go_wp2
  go_ret2
  exact ⟨rfl, rfl⟩

set_option maxHeartbeats 400000 in
theorem first_err (rb : Nat) (a : Option Addr) (c : Nat) (l : List UInt8) (e : Int) (w : World) (h : Rd w rb a c l e) (he : (e != 0) = true) :
    Calls Tryz.prog 84 #[.pointer (some ⟨rb, 0, none⟩)] w fun r w' => r = .returned (.tuple #[.int .u8 0, .bool false]) ∧ w' = w := by
  have c1 := h.blk.cell1
  clear h
  go_enter Tryz.func84, Tryz.ntmps84
  go_wp2
  go_ret2
  exact ⟨rfl, rfl⟩

set_option maxHeartbeats 400000 in
theorem first_cut (rb : Nat) (a : Option Addr) (c : Nat) (w : World) (h : Rd w rb a c [] 0) :
    Calls Tryz.prog 84 #[.pointer (some ⟨rb, 0, none⟩)] w fun r w' => r = .returned (.tuple #[.int .u8 0, .bool false]) ∧ Rd w' rb none 0 [] 3 ∧ w.grownBy w' (some rb) := by
  have c0 := h.blk.cell0
  have c1 := h.blk.cell1
  simp only [List.length_nil] at c0
  go_enter Tryz.func84, Tryz.ntmps84
  go_wp2_with (go_at_call 85; refine (fail_any rb a 0 c 0 3 _ h.blk).mono ?_; rintro r w' ⟨rfl, hb, hg⟩)
  go_ret2
  exact ⟨rfl, Rd.failed hb, hg⟩

set_option maxHeartbeats 400000 in
theorem first_ok (rb : Nat) (a : Option Addr) (c : Nat) (x : UInt8) (l : List UInt8) (w : World) (h : Rd w rb a c (x :: l) 0) :
    Calls Tryz.prog 84 #[.pointer (some ⟨rb, 0, none⟩)] w fun r w' => r = .returned (.tuple #[.int .u8 x.toNat, .bool true]) ∧ w' = w := by
  obtain ⟨b, o, rfl, hx⟩ := h.head
  have c0 := h.blk.cell0
  have c1 := h.blk.cell1
  simp only [List.length_cons] at c0
  clear h
  go_enter Tryz.func84, Tryz.ntmps84
  go_wp2
  go_ret2
  exact ⟨rfl, rfl⟩

/- take -/
set_option maxHeartbeats 400000 in
theorem take_nil (b : Int) (w : World) : Calls Tryz.prog 83 #[.pointer none, .int .u8 b] w fun r w' => r = .returned (.bool false) ∧ w' = w := by
  go_enter Tryz.func83, Tryz.ntmps83
  go_wp2_with (go_at_call 84; refine (first_nil _).mono ?_; rintro r w' ⟨rfl, rfl⟩)
  go_ret
  exact ⟨rfl, rfl⟩

set_option maxHeartbeats 400000 in
theorem take_err (rb : Nat) (a : Option Addr) (c : Nat) (l : List UInt8) (e b : Int) (w : World) (h : Rd w rb a c l e) (he : (e != 0) = true) :
    Calls Tryz.prog 83 #[.pointer (some ⟨rb, 0, none⟩), .int .u8 b] w fun r w' => r = .returned (.bool false) ∧ w' = w := by
  go_enter Tryz.func83, Tryz.ntmps83
  go_wp2_with (go_at_call 84; refine (first_err rb a c l e _ h he).mono ?_; rintro r w' ⟨rfl, rfl⟩)
  go_ret
  exact ⟨rfl, rfl⟩

set_option maxHeartbeats 400000 in
theorem take_cut (rb : Nat) (a : Option Addr) (c : Nat) (b : Int) (w : World) (h : Rd w rb a c [] 0) :
    Calls Tryz.prog 83 #[.pointer (some ⟨rb, 0, none⟩), .int .u8 b] w fun r w' => r = .returned (.bool false) ∧ Rd w' rb none 0 [] 3 ∧ w.grownBy w' (some rb) := by
  go_enter Tryz.func83, Tryz.ntmps83
  go_wp2_with (go_at_call 84; refine (first_cut rb a c _ h).mono ?_; rintro r w' ⟨rfl, hr, hg⟩)
  go_ret
  exact ⟨rfl, hr, hg⟩

set_option maxHeartbeats 400000 in
theorem take_other (rb : Nat) (a : Option Addr) (c : Nat) (x : UInt8) (l : List UInt8) (b : Int) (w : World) (h : Rd w rb a c (x :: l) 0) (hx : ((x.toNat : Int) != b) = true) :
    Calls Tryz.prog 83 #[.pointer (some ⟨rb, 0, none⟩), .int .u8 b] w fun r w' => r = .returned (.bool false) ∧ Rd w' rb none 0 [] 4 ∧ w.grownBy w' (some rb) := by
  go_enter Tryz.func83, Tryz.ntmps83
  go_wp2_with (first | (go_at_call 84; refine (first_ok rb a c x l _ h).mono ?_; rintro r w' ⟨rfl, rfl⟩) | (go_at_call 85; refine (fail_any rb a _ c 0 4 _ h.blk).mono ?_; rintro r w' ⟨rfl, hb, hg⟩))
  go_ret
  exact ⟨rfl, Rd.failed hb, hg⟩

set_option maxHeartbeats 400000 in
theorem take_ok (rb : Nat) (a : Option Addr) (c : Nat) (x : UInt8) (l : List UInt8) (b : Int) (w : World) (h : Rd w rb a c (x :: l) 0) (hx : ((x.toNat : Int) != b) = false) :
    Calls Tryz.prog 83 #[.pointer (some ⟨rb, 0, none⟩), .int .u8 b] w fun r w' => r = .returned (.bool true) ∧ (∃ p, Rd w' rb (some p) (c - 1) l 0) ∧ w.grownBy w' (some rb) := by
  have c0 := h.blk.cell0
  have f0 := h.blk.frozen 0
  have hc := h.le
  simp only [List.length_cons] at c0 hc
  have hr := h.addr 1 (by simp)
  simp only [List.length_cons, Nat.add_sub_cancel, List.drop_succ_cons, List.drop_zero] at hr
  obtain ⟨p, hp⟩ : ∃ p, some p = (if c = 1 then a else a.map (·.add (1 * 1))) := by
    obtain ⟨b, o, rfl, _⟩ := h.head
    split
    · exact ⟨_, rfl⟩
    · exact ⟨_, rfl⟩
  rw [← hp] at hr
  have hs : ∀ w, (Instr.slice 86 (.slice a (l.length + 1) c) (some (.int .i64 1)) none none).run Tryz.prog w = .ok (.slice (some p) l.length (c - 1)) w := by
    intro w
    rw [hp]
    exact slice_from a (l.length + 1) c 1 w (by omega)
  clear hp
  go_enter Tryz.func83, Tryz.ntmps83
  go_wp2_with (go_at_call 84; refine (first_ok rb a c x l _ h).mono ?_; rintro r w' ⟨rfl, rfl⟩)
  go_ret
  exact ⟨rfl, ⟨p, hr⟩, grownBy_setCell _ _ _ _⟩

/- Open, Close, More, Left, Err -/
set_option maxHeartbeats 400000 in
theorem Open_nil (w : World) : Calls Tryz.prog 49 #[.pointer none] w fun r w' => r = .returned (.tuple #[]) ∧ w' = w := by
  go_enter Tryz.func49, Tryz.ntmps49
  go_wp2_with (go_at_call 83; refine (take_nil _ _).mono ?_; rintro r w' ⟨rfl, rfl⟩)
  go_end0
  exact ⟨rfl, rfl⟩
set_option maxHeartbeats 400000 in
theorem Open_err (rb : Nat) (a : Option Addr) (c : Nat) (l : List UInt8) (e : Int) (w : World) (h : Rd w rb a c l e) (he : (e != 0) = true) :
    Calls Tryz.prog 49 #[.pointer (some ⟨rb, 0, none⟩)] w fun r w' => r = .returned (.tuple #[]) ∧ w' = w := by
  go_enter Tryz.func49, Tryz.ntmps49
  go_wp2_with (go_at_call 83; refine (take_err rb a c l e _ _ h he).mono ?_; rintro r w' ⟨rfl, rfl⟩)
  go_end0
  exact ⟨rfl, rfl⟩
set_option maxHeartbeats 400000 in
theorem Open_cut (rb : Nat) (a : Option Addr) (c : Nat) (w : World) (h : Rd w rb a c [] 0) :
    Calls Tryz.prog 49 #[.pointer (some ⟨rb, 0, none⟩)] w fun r w' => r = .returned (.tuple #[]) ∧ Rd w' rb none 0 [] 3 ∧ w.grownBy w' (some rb) := by
  go_enter Tryz.func49, Tryz.ntmps49
  go_wp2_with (go_at_call 83; refine (take_cut rb a c _ _ h).mono ?_; rintro r w' ⟨rfl, hr, hg⟩)
  go_end0
  exact ⟨rfl, hr, hg⟩
set_option maxHeartbeats 400000 in
theorem Open_other (rb : Nat) (a : Option Addr) (c : Nat) (x : UInt8) (l : List UInt8) (w : World) (h : Rd w rb a c (x :: l) 0) (hx : ((x.toNat : Int) != 108) = true) :
    Calls Tryz.prog 49 #[.pointer (some ⟨rb, 0, none⟩)] w fun r w' => r = .returned (.tuple #[]) ∧ Rd w' rb none 0 [] 4 ∧ w.grownBy w' (some rb) := by
  go_enter Tryz.func49, Tryz.ntmps49
  go_wp2_with (go_at_call 83; refine (take_other rb a c x l _ _ h hx).mono ?_; rintro r w' ⟨rfl, hr, hg⟩)
  go_end0
  exact ⟨rfl, hr, hg⟩
set_option maxHeartbeats 400000 in
theorem Open_ok (rb : Nat) (a : Option Addr) (c : Nat) (l : List UInt8) (w : World) (h : Rd w rb a c (108 :: l) 0) :
    Calls Tryz.prog 49 #[.pointer (some ⟨rb, 0, none⟩)] w fun r w' => r = .returned (.tuple #[]) ∧ (∃ p, Rd w' rb (some p) (c - 1) l 0) ∧ w.grownBy w' (some rb) := by
  go_enter Tryz.func49, Tryz.ntmps49
  go_wp2_with (go_at_call 83; refine (take_ok rb a c 108 l _ _ h (by decide)).mono ?_; rintro r w' ⟨rfl, hr, hg⟩)
  go_end0
  exact ⟨rfl, hr, hg⟩
set_option maxHeartbeats 400000 in
theorem Close_nil (w : World) : Calls Tryz.prog 53 #[.pointer none] w fun r w' => r = .returned (.tuple #[]) ∧ w' = w := by
  go_enter Tryz.func53, Tryz.ntmps53
  go_wp2_with (go_at_call 83; refine (take_nil _ _).mono ?_; rintro r w' ⟨rfl, rfl⟩)
  go_end0
  exact ⟨rfl, rfl⟩
set_option maxHeartbeats 400000 in
theorem Close_err (rb : Nat) (a : Option Addr) (c : Nat) (l : List UInt8) (e : Int) (w : World) (h : Rd w rb a c l e) (he : (e != 0) = true) :
    Calls Tryz.prog 53 #[.pointer (some ⟨rb, 0, none⟩)] w fun r w' => r = .returned (.tuple #[]) ∧ w' = w := by
  go_enter Tryz.func53, Tryz.ntmps53
  go_wp2_with (go_at_call 83; refine (take_err rb a c l e _ _ h he).mono ?_; rintro r w' ⟨rfl, rfl⟩)
  go_end0
  exact ⟨rfl, rfl⟩
set_option maxHeartbeats 400000 in
theorem Close_cut (rb : Nat) (a : Option Addr) (c : Nat) (w : World) (h : Rd w rb a c [] 0) :
    Calls Tryz.prog 53 #[.pointer (some ⟨rb, 0, none⟩)] w fun r w' => r = .returned (.tuple #[]) ∧ Rd w' rb none 0 [] 3 ∧ w.grownBy w' (some rb) := by
  go_enter Tryz.func53, Tryz.ntmps53
  go_wp2_with (go_at_call 83; refine (take_cut rb a c _ _ h).mono ?_; rintro r w' ⟨rfl, hr, hg⟩)
  go_end0
  exact ⟨rfl, hr, hg⟩
set_option maxHeartbeats 400000 in
theorem Close_other (rb : Nat) (a : Option Addr) (c : Nat) (x : UInt8) (l : List UInt8) (w : World) (h : Rd w rb a c (x :: l) 0) (hx : ((x.toNat : Int) != 101) = true) :
    Calls Tryz.prog 53 #[.pointer (some ⟨rb, 0, none⟩)] w fun r w' => r = .returned (.tuple #[]) ∧ Rd w' rb none 0 [] 4 ∧ w.grownBy w' (some rb) := by
  go_enter Tryz.func53, Tryz.ntmps53
  go_wp2_with (go_at_call 83; refine (take_other rb a c x l _ _ h hx).mono ?_; rintro r w' ⟨rfl, hr, hg⟩)
  go_end0
  exact ⟨rfl, hr, hg⟩
set_option maxHeartbeats 400000 in
theorem Close_ok (rb : Nat) (a : Option Addr) (c : Nat) (l : List UInt8) (w : World) (h : Rd w rb a c (101 :: l) 0) :
    Calls Tryz.prog 53 #[.pointer (some ⟨rb, 0, none⟩)] w fun r w' => r = .returned (.tuple #[]) ∧ (∃ p, Rd w' rb (some p) (c - 1) l 0) ∧ w.grownBy w' (some rb) := by
  go_enter Tryz.func53, Tryz.ntmps53
  go_wp2_with (go_at_call 83; refine (take_ok rb a c 101 l _ _ h (by decide)).mono ?_; rintro r w' ⟨rfl, hr, hg⟩)
  go_end0
  exact ⟨rfl, hr, hg⟩

/-- Whether a list goes on. -/
def moreB : List UInt8 → Bool
  | [] => false
  | x :: _ => (x.toNat : Int) != 101
set_option maxHeartbeats 400000 in
theorem More_nil (w : World) : Calls Tryz.prog 50 #[.pointer none] w fun r w' => r = .returned (.bool false) ∧ w' = w := by
  go_enter Tryz.func50, Tryz.ntmps50
  go_wp2
  go_ret
  exact ⟨rfl, rfl⟩
set_option maxHeartbeats 400000 in
theorem More_any (rb : Nat) (a : Option Addr) (c : Nat) (l : List UInt8) (e : Int) (w : World) (h : Rd w rb a c l e) :
    Calls Tryz.prog 50 #[.pointer (some ⟨rb, 0, none⟩)] w fun r w' => r = .returned (.bool (moreB l)) ∧ w' = w := by
  have c0 := h.blk.cell0
  cases l with
  | nil =>
    simp only [List.length_nil] at c0
    clear h
    go_enter Tryz.func50, Tryz.ntmps50
    go_wp2
    go_ret
    exact ⟨rfl, rfl⟩
  | cons x l =>
    obtain ⟨b, o, rfl, hx⟩ := h.head
    simp only [List.length_cons] at c0
    clear h
    go_enter Tryz.func50, Tryz.ntmps50
    go_wp2
    go_ret
    exact ⟨rfl, rfl⟩
set_option maxHeartbeats 400000 in
theorem Left_nil (w : World) : Calls Tryz.prog 55 #[.pointer none] w fun r w' => r = .returned (.int .i64 0) ∧ w' = w := by
  go_enter Tryz.func55, Tryz.ntmps55
  go_wp2
  go_ret
  exact ⟨rfl, rfl⟩
set_option maxHeartbeats 400000 in
theorem Left_any (rb : Nat) (a : Option Addr) (c : Nat) (l : List UInt8) (e : Int) (w : World) (h : Rd w rb a c l e) :
    Calls Tryz.prog 55 #[.pointer (some ⟨rb, 0, none⟩)] w fun r w' => r = .returned (.int .i64 l.length) ∧ w' = w := by
  have c0 := h.blk.cell0
  clear h
  go_enter Tryz.func55, Tryz.ntmps55
  go_wp2
  go_ret
  exact ⟨rfl, rfl⟩
set_option maxHeartbeats 400000 in
theorem Err_nil (w : World) : Calls Tryz.prog 54 #[.pointer none] w fun r w' => r = .returned (.int .i64 1) ∧ w' = w := by
  go_enter Tryz.func54, Tryz.ntmps54
  go_wp2
  go_ret
  exact ⟨rfl, rfl⟩
set_option maxHeartbeats 400000 in
theorem Err_any (rb : Nat) (a : Option Addr) (c : Nat) (l : List UInt8) (e : Int) (w : World) (h : Rd w rb a c l e) :
    Calls Tryz.prog 54 #[.pointer (some ⟨rb, 0, none⟩)] w fun r w' => r = .returned (.int .i64 e) ∧ w' = w := by
  have c1 := h.blk.cell1
  clear h
  go_enter Tryz.func54, Tryz.ntmps54
  go_wp2
  go_ret
  exact ⟨rfl, rfl⟩

end Go.Proofs.YtmanjegdgjeeiaaGreatDoor
namespace Go.Proofs
open Go.Shelf
def Tryz.laysM173_ren : Go.Shelf.Ren := ⟨fun | 173 => 115 | 246 => 132 | 283 => 140 | 284 => 141 | 285 => 142 | 286 => 143 | 129 => 97 | 317 => 158 | 318 => 159 | 319 => 160 | 320 => 161 | 337 => 172 | 338 => 156 | n => n, fun | 2 => 2 | 3 => 3 | 9 => 9 | 4 => 4 | 171 => 192 | 0 => 0 | 53 => 142 | 37 => 86 | 5 => 5 | 173 => 194 | 212 => 215 | 51 => 140 | 20 => 20 | 213 => 216 | 46 => 106 | 232 => 235 | 233 => 226 | n => n, fun | 17 => 1 | 18 => 5 | 19 => 4 | n => n⟩
theorem Tryz.laysM173 : Go.Proofs.LaysM.n173 Tryz.prog Tryz.laysM173_ren := {
  mixed := by kernel_rfl
  f129 := Tryz.func97.trans (congrArg some (by kernel_rfl))
  f173 := Tryz.func115.trans (congrArg some (by kernel_rfl))
  f246 := Tryz.func132.trans (congrArg some (by kernel_rfl))
  f283 := Tryz.func140.trans (congrArg some (by kernel_rfl))
  f284 := Tryz.func141.trans (congrArg some (by kernel_rfl))
  f285 := Tryz.func142.trans (congrArg some (by kernel_rfl))
  f286 := Tryz.func143.trans (congrArg some (by kernel_rfl))
  f317 := Tryz.func158.trans (congrArg some (by kernel_rfl))
  f318 := Tryz.func159.trans (congrArg some (by kernel_rfl))
  f319 := Tryz.func160.trans (congrArg some (by kernel_rfl))
  f320 := Tryz.func161.trans (congrArg some (by kernel_rfl))
  f337 := Tryz.func172.trans (congrArg some (by kernel_rfl))
  f338 := Tryz.func156.trans (congrArg some (by kernel_rfl))
  t0 := Tryz.underlying0
  a0 := Tryz.isAgg0
  z0 := Tryz.sizeOf0
  v0 := Tryz.zeroValue0
  t2 := Tryz.underlying2
  a2 := Tryz.isAgg2
  z2 := Tryz.sizeOf2
  v2 := Tryz.zeroValue2
  t3 := Tryz.underlying3
  a3 := Tryz.isAgg3
  z3 := Tryz.sizeOf3
  v3 := Tryz.zeroValue3
  t4 := Tryz.underlying4
  a4 := Tryz.isAgg4
  z4 := Tryz.sizeOf4
  v4 := Tryz.zeroValue4
  t5 := Tryz.underlying5
  a5 := Tryz.isAgg5
  z5 := Tryz.sizeOf5
  v5 := Tryz.zeroValue5
  t9 := Tryz.underlying9
  a9 := Tryz.isAgg9
  z9 := Tryz.sizeOf9
  v9 := Tryz.zeroValue9
  t20 := Tryz.underlying20
  a20 := Tryz.isAgg20
  z20 := Tryz.sizeOf20
  v20 := Tryz.zeroValue20
  t37 := Tryz.underlying86
  a37 := Tryz.isAgg86
  z37 := Tryz.sizeOf86
  v37 := Tryz.zeroValue86
  t46 := Tryz.underlying106
  a46 := Tryz.isAgg106
  z46 := Tryz.sizeOf106
  v46 := Tryz.zeroValue106
  t51 := Tryz.underlying140
  a51 := Tryz.isAgg140
  z51 := Tryz.sizeOf140
  v51 := Tryz.zeroValue140
  t53 := Tryz.underlying142
  a53 := Tryz.isAgg142
  z53 := Tryz.sizeOf142
  v53 := Tryz.zeroValue142
  t171 := Tryz.underlying192
  a171 := Tryz.isAgg192
  z171 := Tryz.sizeOf192
  v171 := Tryz.zeroValue192
  t173 := Tryz.underlying194
  a173 := Tryz.isAgg194
  z173 := Tryz.sizeOf194
  v173 := Tryz.zeroValue194
  t212 := Tryz.underlying215
  a212 := Tryz.isAgg215
  z212 := Tryz.sizeOf215
  v212 := Tryz.zeroValue215
  t213 := Tryz.underlying216
  a213 := Tryz.isAgg216
  z213 := Tryz.sizeOf216
  t232 := Tryz.underlying235
  a232 := Tryz.isAgg235
  z232 := Tryz.sizeOf235
  v232 := Tryz.zeroValue235
  t233 := Tryz.underlying226
  a233 := Tryz.isAgg226
  z233 := Tryz.sizeOf226
  v233 := Tryz.zeroValue226
  g17 := by kernel_rfl
  g18 := by kernel_rfl
  g19 := by kernel_rfl
  i0 := by kernel_rfl
  i2 := by kernel_rfl
  i3 := by kernel_rfl
  i4 := by kernel_rfl
  i5 := by kernel_rfl
  i9 := by kernel_rfl
  i20 := by kernel_rfl
  i37 := by kernel_rfl
  i46 := by kernel_rfl
  i51 := by kernel_rfl
  i53 := by kernel_rfl
  i171 := by kernel_rfl
  i173 := by kernel_rfl
  i212 := by kernel_rfl
  i232 := by kernel_rfl
  i233 := by kernel_rfl
  m17 := by kernel_rfl
  m18 := by kernel_rfl
  m19 := by kernel_rfl }
open Go.RowKit Go.Sort Go.Lib in
/-- strconv.FormatInt: "FormatInt returns the string representation of i in the given base": AT BASE 10: i's decimal numeral, for every int64. (LAID: no walk: one application.) -/
theorem Tryz.strconv_FormatInt_10 (n : Int) (h0 : -9223372036854775808 ≤ n) (h1 : n ≤ 9223372036854775807) (w : World) (htab : Lib.TabIs Tryz.prog w "internal/strconv.uint64pow10" .u64 Lib.pow10Tab) :
    Calls Tryz.prog 115 #[.int .i64 n, .int .i64 10] w fun e w' => e = .returned (.string ⟨(Lib.itoa n).toArray⟩) ∧ ∃ k os, w' = grow (w.drewN k) os := Any.strconv_FormatInt_10 Tryz.laysM173 n h0 h1 w htab
def Tryz.laysC174_ren : Go.Shelf.Ren := ⟨fun | 174 => 114 | 247 => 130 | 245 => 131 | 287 => 145 | 279 => 146 | 280 => 147 | 281 => 148 | 282 => 149 | 321 => 162 | 322 => 163 | 316 => 164 | 171 => 166 | 205 => 165 | 243 => 173 | 246 => 132 | 283 => 140 | 284 => 141 | 285 => 142 | 286 => 143 | 129 => 97 | 317 => 158 | 318 => 159 | 319 => 160 | 320 => 161 | 337 => 172 | 338 => 156 | n => n, fun | 9 => 9 | 3 => 3 | 2 => 2 | 75 => 155 | 85 => 156 | 4 => 4 | 167 => 196 | 5 => 5 | 53 => 142 | 175 => 197 | 46 => 106 | 168 => 199 | 37 => 86 | 0 => 0 | 210 => 220 | 21 => 21 | 127 => 228 | 145 => 231 | 143 => 229 | 171 => 192 | 173 => 194 | 212 => 215 | 51 => 140 | 20 => 20 | 213 => 216 | 232 => 235 | 233 => 226 | 80 => 246 | n => n, fun | 15 => 2 | 16 => 3 | 17 => 1 | 18 => 5 | 19 => 4 | n => n⟩
theorem Tryz.laysC174 : Go.Proofs.LaysC.n174 Tryz.prog Tryz.laysC174_ren := {
  mixed := by kernel_rfl
  f129 := Tryz.func97.trans (congrArg some (by kernel_rfl))
  f171 := Tryz.func166.trans (congrArg some (by kernel_rfl))
  f174 := Tryz.func114.trans (congrArg some (by kernel_rfl))
  f205 := Tryz.func165.trans (congrArg some (by kernel_rfl))
  f243 := Tryz.func173.trans (congrArg some (by kernel_rfl))
  f245 := Tryz.func131.trans (congrArg some (by kernel_rfl))
  f246 := Tryz.func132.trans (congrArg some (by kernel_rfl))
  f247 := Tryz.func130.trans (congrArg some (by kernel_rfl))
  f279 := Tryz.func146.trans (congrArg some (by kernel_rfl))
  f280 := Tryz.func147.trans (congrArg some (by kernel_rfl))
  f281 := Tryz.func148.trans (congrArg some (by kernel_rfl))
  f282 := Tryz.func149.trans (congrArg some (by kernel_rfl))
  f283 := Tryz.func140.trans (congrArg some (by kernel_rfl))
  f284 := Tryz.func141.trans (congrArg some (by kernel_rfl))
  f285 := Tryz.func142.trans (congrArg some (by kernel_rfl))
  f286 := Tryz.func143.trans (congrArg some (by kernel_rfl))
  f287 := Tryz.func145.trans (congrArg some (by kernel_rfl))
  f316 := Tryz.func164.trans (congrArg some (by kernel_rfl))
  f317 := Tryz.func158.trans (congrArg some (by kernel_rfl))
  f318 := Tryz.func159.trans (congrArg some (by kernel_rfl))
  f319 := Tryz.func160.trans (congrArg some (by kernel_rfl))
  f320 := Tryz.func161.trans (congrArg some (by kernel_rfl))
  f321 := Tryz.func162.trans (congrArg some (by kernel_rfl))
  f322 := Tryz.func163.trans (congrArg some (by kernel_rfl))
  f337 := Tryz.func172.trans (congrArg some (by kernel_rfl))
  f338 := Tryz.func156.trans (congrArg some (by kernel_rfl))
  t0 := Tryz.underlying0
  a0 := Tryz.isAgg0
  z0 := Tryz.sizeOf0
  v0 := Tryz.zeroValue0
  t2 := Tryz.underlying2
  a2 := Tryz.isAgg2
  z2 := Tryz.sizeOf2
  v2 := Tryz.zeroValue2
  t3 := Tryz.underlying3
  a3 := Tryz.isAgg3
  z3 := Tryz.sizeOf3
  v3 := Tryz.zeroValue3
  t4 := Tryz.underlying4
  a4 := Tryz.isAgg4
  z4 := Tryz.sizeOf4
  v4 := Tryz.zeroValue4
  t5 := Tryz.underlying5
  a5 := Tryz.isAgg5
  z5 := Tryz.sizeOf5
  v5 := Tryz.zeroValue5
  t9 := Tryz.underlying9
  a9 := Tryz.isAgg9
  z9 := Tryz.sizeOf9
  v9 := Tryz.zeroValue9
  t20 := Tryz.underlying20
  a20 := Tryz.isAgg20
  z20 := Tryz.sizeOf20
  v20 := Tryz.zeroValue20
  t21 := Tryz.underlying21
  a21 := Tryz.isAgg21
  z21 := Tryz.sizeOf21
  v21 := Tryz.zeroValue21
  t37 := Tryz.underlying86
  a37 := Tryz.isAgg86
  z37 := Tryz.sizeOf86
  v37 := Tryz.zeroValue86
  t46 := Tryz.underlying106
  a46 := Tryz.isAgg106
  z46 := Tryz.sizeOf106
  v46 := Tryz.zeroValue106
  t51 := Tryz.underlying140
  a51 := Tryz.isAgg140
  z51 := Tryz.sizeOf140
  v51 := Tryz.zeroValue140
  t53 := Tryz.underlying142
  a53 := Tryz.isAgg142
  z53 := Tryz.sizeOf142
  v53 := Tryz.zeroValue142
  t75 := Tryz.underlying155
  a75 := Tryz.isAgg155
  z75 := Tryz.sizeOf155
  v75 := Tryz.zeroValue155
  t85 := Tryz.underlying156
  a85 := Tryz.isAgg156
  z85 := Tryz.sizeOf156
  v85 := Tryz.zeroValue156
  t127 := Tryz.underlying228
  a127 := Tryz.isAgg228
  z127 := Tryz.sizeOf228
  v127 := Tryz.zeroValue228
  t143 := Tryz.underlying229
  a143 := Tryz.isAgg229
  z143 := Tryz.sizeOf229
  v143 := Tryz.zeroValue229
  t145 := Tryz.underlying231
  a145 := Tryz.isAgg231
  z145 := Tryz.sizeOf231
  v145 := Tryz.zeroValue231
  t167 := Tryz.underlying196
  a167 := Tryz.isAgg196
  z167 := Tryz.sizeOf196
  v167 := Tryz.zeroValue196
  t168 := Tryz.underlying199
  a168 := Tryz.isAgg199
  z168 := Tryz.sizeOf199
  v168 := Tryz.zeroValue199
  t171 := Tryz.underlying192
  a171 := Tryz.isAgg192
  z171 := Tryz.sizeOf192
  v171 := Tryz.zeroValue192
  t173 := Tryz.underlying194
  a173 := Tryz.isAgg194
  z173 := Tryz.sizeOf194
  v173 := Tryz.zeroValue194
  t175 := Tryz.underlying197
  a175 := Tryz.isAgg197
  z175 := Tryz.sizeOf197
  v175 := Tryz.zeroValue197
  t210 := Tryz.underlying220
  a210 := Tryz.isAgg220
  z210 := Tryz.sizeOf220
  v210 := Tryz.zeroValue220
  t212 := Tryz.underlying215
  a212 := Tryz.isAgg215
  z212 := Tryz.sizeOf215
  v212 := Tryz.zeroValue215
  t213 := Tryz.underlying216
  a213 := Tryz.isAgg216
  z213 := Tryz.sizeOf216
  t232 := Tryz.underlying235
  a232 := Tryz.isAgg235
  z232 := Tryz.sizeOf235
  v232 := Tryz.zeroValue235
  t233 := Tryz.underlying226
  a233 := Tryz.isAgg226
  z233 := Tryz.sizeOf226
  v233 := Tryz.zeroValue226
  g15 := by kernel_rfl
  g16 := by kernel_rfl
  g17 := by kernel_rfl
  g18 := by kernel_rfl
  g19 := by kernel_rfl
  t80 := Tryz.underlying246
  a80 := Tryz.isAgg246
  z80 := Tryz.sizeOf246
  v80 := Tryz.zeroValue246
  i0 := by kernel_rfl
  i2 := by kernel_rfl
  i3 := by kernel_rfl
  i4 := by kernel_rfl
  i5 := by kernel_rfl
  i9 := by kernel_rfl
  i20 := by kernel_rfl
  i21 := by kernel_rfl
  i37 := by kernel_rfl
  i46 := by kernel_rfl
  i51 := by kernel_rfl
  i53 := by kernel_rfl
  i75 := by kernel_rfl
  i80 := by kernel_rfl
  i85 := by kernel_rfl
  i127 := by kernel_rfl
  i143 := by kernel_rfl
  i145 := by kernel_rfl
  i167 := by kernel_rfl
  i168 := by kernel_rfl
  i171 := by kernel_rfl
  i173 := by kernel_rfl
  i175 := by kernel_rfl
  i210 := by kernel_rfl
  i212 := by kernel_rfl
  i232 := by kernel_rfl
  i233 := by kernel_rfl
  m15 := by kernel_rfl
  m16 := by kernel_rfl
  m17 := by kernel_rfl
  m18 := by kernel_rfl
  m19 := by kernel_rfl
  c0 := by kernel_rfl
  c2 := by kernel_rfl
  c3 := by kernel_rfl
  c4 := by kernel_rfl
  c5 := by kernel_rfl
  c9 := by kernel_rfl
  c20 := by kernel_rfl
  c21 := by kernel_rfl
  c37 := by kernel_rfl
  c46 := by kernel_rfl
  c51 := by kernel_rfl
  c53 := by kernel_rfl
  c75 := by kernel_rfl
  c80 := by kernel_rfl
  c85 := by kernel_rfl
  c127 := by kernel_rfl
  c143 := by kernel_rfl
  c145 := by kernel_rfl
  c167 := by kernel_rfl
  c168 := by kernel_rfl
  c171 := by kernel_rfl
  c173 := by kernel_rfl
  c175 := by kernel_rfl
  c210 := by kernel_rfl
  c212 := by kernel_rfl
  c213 := by kernel_rfl
  c232 := by kernel_rfl
  c233 := by kernel_rfl }
open Go.RowKit in
/-- strconv.ParseInt(s, 10, 64), AT EVERY STRING THAT SPELLS AN int64 ('Lib.parseIntB 64 s.data.toList = .ok v'): v, AND NO ERROR. (LAID: no walk: one application.) -/
theorem Tryz.strconv_ParseInt_10_at64_ok (s : ByteArray) (hmax : s.size ≤ 9223372036854775806) (v : Int) (h : Lib.parseIntB 64 s.data.toList = .ok v) (w : World) :
    Calls Tryz.prog 114 #[.string s, .int .i64 10, .int .i64 64] w fun e w' => e = .returned (.tuple #[.int .i64 v, .nilIface]) ∧ (w' = w ∨ ∃ t, w' = Lib.bytesWorld w 5 t) := Any.strconv_ParseInt_10_at64_ok Tryz.laysC174 s hmax v h w
open Go.RowKit in
theorem Tryz.strconv_ParseInt_10_at64_range_var (s : ByteArray) (hlim : s.size ≤ 281474976710656) (h : Lib.parseIntB 64 s.data.toList = .range) (tp : TypeId) (p : Value) (w : World) (hvar : w.var? Tryz.prog "strconv.ErrRange" = some #[.iface tp p]) :
    Calls Tryz.prog 114 #[.string s, .int .i64 10, .int .i64 64] w fun e w' => ∃ N, e = .returned (.tuple #[.int .i64 (Lib.intSat 64 s.data.toList), .iface 199 (.pointer (some ⟨N, 0, none⟩))]) ∧ w.heap.size ≤ N ∧ w'.heap[N]? = some (.cells #[.string ⟨#[80, 97, 114, 115, 101, 73, 110, 116]⟩, .string s, .iface tp p] 220 (0, 0)) ∧ Below w.heap.size w w' := Any.strconv_ParseInt_10_at64_range_var Tryz.laysC174 s hlim h tp p w hvar
def Tryz.laysM176_ren : Go.Shelf.Ren := ⟨fun | 176 => 80 | 249 => 112 | 288 => 128 | 283 => 140 | 284 => 141 | 285 => 142 | 286 => 143 | 129 => 97 | 317 => 158 | 318 => 159 | 319 => 160 | 320 => 161 | 337 => 172 | 338 => 156 | n => n, fun | 37 => 86 | 2 => 2 | 3 => 3 | 53 => 142 | 4 => 4 | 9 => 9 | 171 => 192 | 0 => 0 | 173 => 194 | 212 => 215 | 51 => 140 | 5 => 5 | 20 => 20 | 213 => 216 | 46 => 106 | 232 => 235 | 233 => 226 | n => n, fun | 17 => 1 | 18 => 5 | 19 => 4 | n => n⟩
theorem Tryz.laysM176 : Go.Proofs.LaysM.n176 Tryz.prog Tryz.laysM176_ren := {
  mixed := by kernel_rfl
  f129 := Tryz.func97.trans (congrArg some (by kernel_rfl))
  f176 := Tryz.func80.trans (congrArg some (by kernel_rfl))
  f249 := Tryz.func112.trans (congrArg some (by kernel_rfl))
  f283 := Tryz.func140.trans (congrArg some (by kernel_rfl))
  f284 := Tryz.func141.trans (congrArg some (by kernel_rfl))
  f285 := Tryz.func142.trans (congrArg some (by kernel_rfl))
  f286 := Tryz.func143.trans (congrArg some (by kernel_rfl))
  f288 := Tryz.func128.trans (congrArg some (by kernel_rfl))
  f317 := Tryz.func158.trans (congrArg some (by kernel_rfl))
  f318 := Tryz.func159.trans (congrArg some (by kernel_rfl))
  f319 := Tryz.func160.trans (congrArg some (by kernel_rfl))
  f320 := Tryz.func161.trans (congrArg some (by kernel_rfl))
  f337 := Tryz.func172.trans (congrArg some (by kernel_rfl))
  f338 := Tryz.func156.trans (congrArg some (by kernel_rfl))
  t0 := Tryz.underlying0
  a0 := Tryz.isAgg0
  z0 := Tryz.sizeOf0
  v0 := Tryz.zeroValue0
  t2 := Tryz.underlying2
  a2 := Tryz.isAgg2
  z2 := Tryz.sizeOf2
  v2 := Tryz.zeroValue2
  t3 := Tryz.underlying3
  a3 := Tryz.isAgg3
  z3 := Tryz.sizeOf3
  v3 := Tryz.zeroValue3
  t4 := Tryz.underlying4
  a4 := Tryz.isAgg4
  z4 := Tryz.sizeOf4
  v4 := Tryz.zeroValue4
  t5 := Tryz.underlying5
  a5 := Tryz.isAgg5
  z5 := Tryz.sizeOf5
  v5 := Tryz.zeroValue5
  t9 := Tryz.underlying9
  a9 := Tryz.isAgg9
  z9 := Tryz.sizeOf9
  v9 := Tryz.zeroValue9
  t20 := Tryz.underlying20
  a20 := Tryz.isAgg20
  z20 := Tryz.sizeOf20
  v20 := Tryz.zeroValue20
  t37 := Tryz.underlying86
  a37 := Tryz.isAgg86
  z37 := Tryz.sizeOf86
  v37 := Tryz.zeroValue86
  t46 := Tryz.underlying106
  a46 := Tryz.isAgg106
  z46 := Tryz.sizeOf106
  v46 := Tryz.zeroValue106
  t51 := Tryz.underlying140
  a51 := Tryz.isAgg140
  z51 := Tryz.sizeOf140
  v51 := Tryz.zeroValue140
  t53 := Tryz.underlying142
  a53 := Tryz.isAgg142
  z53 := Tryz.sizeOf142
  v53 := Tryz.zeroValue142
  t171 := Tryz.underlying192
  a171 := Tryz.isAgg192
  z171 := Tryz.sizeOf192
  v171 := Tryz.zeroValue192
  t173 := Tryz.underlying194
  a173 := Tryz.isAgg194
  z173 := Tryz.sizeOf194
  v173 := Tryz.zeroValue194
  t212 := Tryz.underlying215
  a212 := Tryz.isAgg215
  z212 := Tryz.sizeOf215
  v212 := Tryz.zeroValue215
  t213 := Tryz.underlying216
  a213 := Tryz.isAgg216
  z213 := Tryz.sizeOf216
  t232 := Tryz.underlying235
  a232 := Tryz.isAgg235
  z232 := Tryz.sizeOf235
  v232 := Tryz.zeroValue235
  t233 := Tryz.underlying226
  a233 := Tryz.isAgg226
  z233 := Tryz.sizeOf226
  v233 := Tryz.zeroValue226
  g17 := by kernel_rfl
  g18 := by kernel_rfl
  g19 := by kernel_rfl
  i0 := by kernel_rfl
  i2 := by kernel_rfl
  i3 := by kernel_rfl
  i4 := by kernel_rfl
  i5 := by kernel_rfl
  i9 := by kernel_rfl
  i20 := by kernel_rfl
  i37 := by kernel_rfl
  i46 := by kernel_rfl
  i51 := by kernel_rfl
  i53 := by kernel_rfl
  i171 := by kernel_rfl
  i173 := by kernel_rfl
  i212 := by kernel_rfl
  i232 := by kernel_rfl
  i233 := by kernel_rfl
  m17 := by kernel_rfl
  m18 := by kernel_rfl
  m19 := by kernel_rfl }
open Go.RowKit Go.Sort Go.Lib in
/-- strconv.AppendInt: "AppendInt appends the string form of the integer i, as generated by FormatInt, to dst and returns the extended buffer.": AT BASE 10: WHAT COMES BACK OWNS dst's CELLS AND, BEHIND THEM, i's DECIMAL NUMERAL ('Lib.itoa i': at most 20 bytes), for every int64. Below the call's own blocks nothing has turned. (LAID: no walk: one application.) -/
theorem Tryz.strconv_AppendInt_10 (B n : Nat) (i : Int) (h0 : -9223372036854775808 ≤ i) (h1 : i ≤ 9223372036854775807) (sv : Value) (xs : List Value) (w : World) (hown : w.ownsRow B 5 1 sv n xs) (hBw : B ≤ w.heap.size) (hlim : n + 21 ≤ 140737488355328) (htab : Lib.TabBelow Tryz.prog B w "internal/strconv.uint64pow10" .u64 Lib.pow10Tab) :
    Calls Tryz.prog 80 #[sv, .int .i64 i, .int .i64 10] w fun e w' => ∃ v', e = .returned v' ∧ w'.ownsRow B 5 1 v' (n + (Lib.itoa i).length) (xs ++ Lib.byteCells (Lib.itoa i)) ∧ Below B w w' ∧ Lib.OthersKept 5 none w w' := Any.strconv_AppendInt_10 Tryz.laysM176 B n i h0 h1 sv xs w hown hBw hlim htab
def Tryz.lays187_ren : Go.Shelf.Ren := ⟨fun | 187 => 129 | 255 => 144 | n => n, fun | 37 => 86 | 5 => 5 | 3 => 3 | n => n, fun | n => n⟩
theorem Tryz.lays187 : Go.Proofs.Lays.n187 Tryz.prog Tryz.lays187_ren := {
  mixed := by kernel_rfl
  f187 := Tryz.func129.trans (congrArg some (by kernel_rfl))
  f255 := Tryz.func144.trans (congrArg some (by kernel_rfl))
  t3 := Tryz.underlying3
  a3 := Tryz.isAgg3
  z3 := Tryz.sizeOf3
  v3 := Tryz.zeroValue3
  t5 := Tryz.underlying5
  a5 := Tryz.isAgg5
  z5 := Tryz.sizeOf5
  v5 := Tryz.zeroValue5
  t37 := Tryz.underlying86
  a37 := Tryz.isAgg86
  z37 := Tryz.sizeOf86
  v37 := Tryz.zeroValue86 }
open Go.RowKit Go.Lib in
/-- bytes.IndexByte, b at whatever address: "IndexByte returns the index of the first instance of c in b, or -1 if c is not present in b." (LAID: no walk: one application.) -/
theorem Tryz.bytes_IndexByte_at (a : Addr) (n c : Nat) (xs : List Int) (cv : Int) (w : World) (hx : xs.length = n) (hc : ∀ i, i < n → w.cell? (a.add i) = some (.int .u8 (xs.getD i 0))) :
    Calls Tryz.prog 129 #[.slice (some a) n c, .int .u8 cv] w fun e w' => e = .returned (.int .i64 (Lib.indexByte (Lib.bytesOf xs) cv.toNat.toUInt8)) ∧ w' = w := Any.bytes_IndexByte_at Tryz.lays187 a n c xs cv w hx hc
def Tryz.laysSlK4_ren : Go.Shelf.Ren := ⟨fun | 4 => 82 | n => n, fun | 22 => 86 | 4 => 4 | 5 => 5 | n => n, fun | n => n⟩
theorem Tryz.laysSlK4 : Go.Proofs.SlLaysK.n4 Tryz.prog Tryz.laysSlK4_ren := {
  mixed := by kernel_rfl
  f4 := Tryz.func82.trans (congrArg some (by kernel_rfl))
  t4 := Tryz.underlying4
  a4 := Tryz.isAgg4
  z4 := Tryz.sizeOf4
  v4 := Tryz.zeroValue4
  t22 := Tryz.underlying86
  a22 := Tryz.isAgg86
  z22 := Tryz.sizeOf86
  v22 := Tryz.zeroValue86
  t5 := Tryz.underlying5
  i5 := by kernel_rfl }
open Go.RowKit Go.Lib in
/-- bytes.Clone: "Clone returns a copy of b[:len(b)]. The result may have additional unused capacity.": OF A SLICE THAT IS NOT nil IT RETURNS A SLICE THAT IS NOT nil, OF THE SAME BYTES, IN MEMORY OF THE CALL's OWN: in the how-to's words (6f): 'w'.ownsRow B e 1 v' n cells' · 'Below B w w'', B the heap's size at the call. b AT WHATEVER ADDRESS, its cells as 'open_ints' hands them ('a.add i'; the numbers 'xs'). No byte: no cell is asked for. (LAID: no walk: one application.) -/
theorem Tryz.bytes_Clone_at (a : Addr) (n c : Nat) (xs : List Int) (w : World) (hx : xs.length = n) (hbig : n ≤ 140737488355328) (hc : ∀ i, i < n → w.cell? (a.add i) = some (.int .u8 (xs.getD i 0))) :
    Calls Tryz.prog 82 #[.slice (some a) n c] w fun e w' => ∃ v', e = .returned v' ∧ w'.ownsRow w.heap.size 5 1 v' n (xs.map (Value.int .u8)) ∧ v' ≠ .slice none 0 0 ∧ Below w.heap.size w w' := Any.bytes_Clone_at Tryz.laysSlK4 a n c xs w hx hbig hc
open Go.RowKit Go.Lib in
/-- "Clone(nil) returns nil.": the world is as it was. (LAID: no walk: one application.) -/
theorem Tryz.bytes_Clone_nil (n c : Nat) (w : World) :
    Calls Tryz.prog 82 #[.slice none n c] w fun e w' => e = .returned (.slice none 0 0) ∧ w' = w := Any.bytes_Clone_nil Tryz.laysSlK4 n c w
/-- bytes.IndexByte AT nil: -1. (LAID: no walk: one application.) -/
theorem Tryz.bytes_IndexByte_nil (cv : Int) (w : World) :
    Calls Tryz.prog 129 #[.slice none 0 0, .int .u8 cv] w fun e w' => e = .returned (.int .i64 (-1)) ∧ w' = w := Any.bytes_IndexByte_nil Tryz.lays187 cv w
end Go.Proofs
namespace Go.Proofs.YtmanjegdgjeeiaaGreatDoor
open Go.RowKit

theorem Rd.drewN {w : World} {rb : Nat} {a : Option Addr} {c : Nat} {l : List UInt8} {e : Int} (h : Rd w rb a c l e) (n : Nat) : Rd (w.drewN n) rb a c l e :=
  h.mono (r := none) (grownBy_drewN w n none) (by simp) (by simp)

theorem BytesAt.cells {w : World} {p : Addr} {l : List UInt8} (h : BytesAt w (some p) l) : ∀ i (hi : i < l.length), w.cell? (p.add i) = some (.int .u8 (l[i].toNat : Int)) := by
  intro i hi
  obtain ⟨b, o, hp, hc⟩ := h (by omega)
  obtain rfl := Option.some.inj hp
  rw [Go.WideShapes.add_plain, hc i hi]
  simp [List.getD, hi]

theorem bytesOf_nums (l : List UInt8) : Lib.bytesOf (l.map fun b => (b.toNat : Int)) = l := by
  unfold Lib.bytesOf
  rw [List.map_map]
  conv => rhs; rw [← List.map_id l]
  refine List.map_congr_left fun b _ => ?_
  simp

/-- bytes.IndexByte of the first n bytes that are left. -/
theorem indexByte_at (p : Addr) (n c : Nat) (l : List UInt8) (ch : UInt8) (w : World) (hn : n ≤ l.length) (h : BytesAt w (some p) l) :
    Calls Tryz.prog 129 #[.slice (some p) n c, .int .u8 ch.toNat] w fun e w' => e = .returned (.int .i64 (Lib.indexByte (l.take n) ch)) ∧ w' = w := by
  have hc := h.cells
  have := Tryz.bytes_IndexByte_at p n c ((l.take n).map fun b => (b.toNat : Int)) ch.toNat w (by simp; omega) (fun i hi => by
    rw [hc i (by omega)]
    simp [List.getD, hi, show i < l.length by omega])
  rw [bytesOf_nums] at this
  simpa using this

theorem take_min (l : List UInt8) (m : Nat) : l.take (min l.length (m + 1)) = l.take (m + 1) := by
  rw [List.take_eq_take_iff]; omega

theorem hit_facts {l : List UInt8} {m : Nat} {ch : UInt8} {k : Nat} (hidx : Lib.indexByte (l.take (m + 1)) ch = k) : k < l.length ∧ k ≤ m ∧ l[k]? = some ch := by
  obtain ⟨h1, _⟩ := Lib.indexByte_some hidx
  have h2 := (List.getElem?_eq_some_iff.1 h1).1
  simp only [List.length_take] at h2
  refine ⟨by omega, by omega, ?_⟩
  rw [List.getElem?_take] at h1
  split at h1
  · exact h1
  · cases h1

/-- string(b[:k]) of what is left. -/
theorem convert_take {w : World} {p : Addr} {l : List UInt8} (h : BytesAt w (some p) l) (k c nq : Nat) (hk : k ≤ l.length) :
    (convert 86 9 (.slice (some p) k c)).run Tryz.prog (w.drewN nq) = .ok (.string ⟨(l.take k).toArray⟩) (w.drewN nq) := by
  have hl : (l.take k).length = k := by simp; omega
  have := run_convert_bytes_back (P := Tryz.prog) (w.drewN nq) 86 9 5 p c (l.take k) Tryz.underlying86 Tryz.underlying5 Tryz.underlying9 (fun j hj => by
    rw [List.length_take] at hj
    rw [List.getElem_take]
    exact h.cells j (by omega))
  rw [hl] at this
  exact this

set_option maxHeartbeats 400000 in
theorem row_hit (rb : Nat) (p : Addr) (c : Nat) (l : List UInt8) (m : Nat) (ch : UInt8) (k : Nat) (w : World) (h : Rd w rb (some p) c l 0) (hm : m ≤ 100) (hidx : Lib.indexByte (l.take (m + 1)) ch = k) :
    Calls Tryz.prog 113 #[.pointer (some ⟨rb, 0, none⟩), .int .i64 m, .int .u8 ch.toNat] w fun r w' => r = .returned (.tuple #[.string ⟨(l.take k).toArray⟩, .bool true]) ∧ (∃ p, Rd w' rb (some p) (c - (k + 1)) (l.drop (k + 1)) 0) ∧ w.grownBy w' (some rb) := by
  have c0 := h.blk.cell0
  have f0 := h.blk.frozen 0
  have hle := h.le
  have hlim := h.lim
  unfold maxLen at hlim
  obtain ⟨hk, hkm, _⟩ := hit_facts hidx
  have hib : ∀ nq, Calls Tryz.prog 129 #[.slice (some p) (min (l.length : Int) ((m : Int) + 1)).toNat c, .int .u8 ch.toNat] (w.drewN nq) fun e w' => e = .returned (.int .i64 (k : Int)) ∧ w' = w.drewN nq := by
    intro nq
    have e1 : (min (l.length : Int) ((m : Int) + 1)).toNat = min l.length (m + 1) := by omega
    have := indexByte_at p (min l.length (m + 1)) c l ch (w.drewN nq) (by omega) (h.drewN nq).bytes
    rw [take_min, hidx] at this
    rw [e1]
    exact this
  have hcv := fun nq => convert_take h.bytes k c nq (by omega)
  have hs1 := fun (w : World) => slice_to (some p) l.length c k w (by omega)
  have hr := h.addr (k + 1) (by omega)
  obtain ⟨p', hp⟩ : ∃ p', some p' = (if c = k + 1 then some p else (some p).map (·.add ((k + 1) * 1))) := by split <;> exact ⟨_, rfl⟩
  rw [← hp] at hr
  have hs2 : ∀ w, (Instr.slice 86 (.slice (some p) l.length c) (some (.int .i64 ((k : Int) + 1))) none none).run Tryz.prog w = .ok (.slice (some p') (l.length - (k + 1)) (c - (k + 1))) w := by
    intro w
    rw [hp]
    exact slice_from (some p) l.length c (k + 1) w (by omega)
  clear hp hidx
  have HR := Lib.hid hr
  clear hr
  have HI := Lib.hid hib
  clear hib
  go_enter Tryz.func113, Tryz.ntmps113
  go_wp2
  go_quiet ((go_at_call 129; exact Calls.quiet_of_same (HI.out _)))
  go_wp2
  go_ret2
  refine ⟨rfl, ⟨p', ?_⟩, ?_⟩
  · exact HR.out.drewN _
  · exact grownBy_trans (grownBy_setCell _ _ _ _) (grownBy_drewN _ _ _)

set_option maxHeartbeats 400000 in
theorem row_long (rb : Nat) (p : Addr) (c : Nat) (l : List UInt8) (m : Nat) (ch : UInt8) (w : World) (h : Rd w rb (some p) c l 0) (hm : m ≤ 100) (hidx : Lib.indexByte (l.take (m + 1)) ch = -1) (hlong : m < l.length) :
    Calls Tryz.prog 113 #[.pointer (some ⟨rb, 0, none⟩), .int .i64 m, .int .u8 ch.toNat] w fun r w' => r = .returned (.tuple #[.string ⟨#[]⟩, .bool false]) ∧ Rd w' rb none 0 [] 4 ∧ w.grownBy w' (some rb) := by
  have c0 := h.blk.cell0
  have hle := h.le
  have hlim := h.lim
  unfold maxLen at hlim
  have hib : ∀ nq, Calls Tryz.prog 129 #[.slice (some p) (min (l.length : Int) ((m : Int) + 1)).toNat c, .int .u8 ch.toNat] (w.drewN nq) fun e w' => e = .returned (.int .i64 (-1)) ∧ w' = w.drewN nq := by
    intro nq
    have e1 : (min (l.length : Int) ((m : Int) + 1)).toNat = min l.length (m + 1) := by omega
    have := indexByte_at p (min l.length (m + 1)) c l ch (w.drewN nq) (by omega) (h.drewN nq).bytes
    rw [take_min, hidx] at this
    rw [e1]
    exact this
  clear hidx
  have HI := Lib.hid hib
  clear hib
  go_enter Tryz.func113, Tryz.ntmps113
  go_wp2
  go_quiet ((go_at_call 129; exact Calls.quiet_of_same (HI.out _)))
  go_wp2_with (go_at_call 85; refine (fail_any rb (some p) _ c 0 4 _ (h.drewN _).blk).mono ?_; rintro r w' ⟨rfl, hb, hg⟩)
  go_ret2
  exact ⟨rfl, Rd.failed hb, grownBy_trans (grownBy_drewN _ _ _) hg⟩

set_option maxHeartbeats 400000 in
theorem row_cut (rb : Nat) (p : Addr) (c : Nat) (l : List UInt8) (m : Nat) (ch : UInt8) (w : World) (h : Rd w rb (some p) c l 0) (hm : m ≤ 100) (hidx : Lib.indexByte (l.take (m + 1)) ch = -1) (hshort : l.length ≤ m) :
    Calls Tryz.prog 113 #[.pointer (some ⟨rb, 0, none⟩), .int .i64 m, .int .u8 ch.toNat] w fun r w' => r = .returned (.tuple #[.string ⟨#[]⟩, .bool false]) ∧ Rd w' rb none 0 [] 3 ∧ w.grownBy w' (some rb) := by
  have c0 := h.blk.cell0
  have hle := h.le
  have hlim := h.lim
  unfold maxLen at hlim
  have hib : ∀ nq, Calls Tryz.prog 129 #[.slice (some p) (min (l.length : Int) ((m : Int) + 1)).toNat c, .int .u8 ch.toNat] (w.drewN nq) fun e w' => e = .returned (.int .i64 (-1)) ∧ w' = w.drewN nq := by
    intro nq
    have e1 : (min (l.length : Int) ((m : Int) + 1)).toNat = min l.length (m + 1) := by omega
    have := indexByte_at p (min l.length (m + 1)) c l ch (w.drewN nq) (by omega) (h.drewN nq).bytes
    rw [take_min, hidx] at this
    rw [e1]
    exact this
  clear hidx
  have HI := Lib.hid hib
  clear hib
  go_enter Tryz.func113, Tryz.ntmps113
  go_wp2
  go_quiet ((go_at_call 129; exact Calls.quiet_of_same (HI.out _)))
  go_wp2_with (go_at_call 85; refine (fail_any rb (some p) _ c 0 3 _ (h.drewN _).blk).mono ?_; rintro r w' ⟨rfl, hb, hg⟩)
  go_ret2
  exact ⟨rfl, Rd.failed hb, grownBy_trans (grownBy_drewN _ _ _) hg⟩

/-- What the library's variables hold, now and whatever is done at blocks from B on. -/
def VarsOk (B : Nat) (w : World) : Prop := ∀ w', Below B w w' →
  Lib.TabIs Tryz.prog w' "internal/strconv.uint64pow10" .u64 Lib.pow10Tab ∧ (∃ tp p, w'.var? Tryz.prog "strconv.ErrSyntax" = some #[.iface tp p]) ∧ (∃ tp p, w'.var? Tryz.prog "strconv.ErrRange" = some #[.iface tp p])
theorem VarsOk.on {B : Nat} {w w' : World} (h : VarsOk B w) (hb : Below B w w') : VarsOk B w' := fun w2 h2 => h w2 (hb.trans h2)
theorem VarsOk.here {B : Nat} {w : World} (h : VarsOk B w) : Lib.TabIs Tryz.prog w "internal/strconv.uint64pow10" .u64 Lib.pow10Tab ∧ (∃ tp p, w.var? Tryz.prog "strconv.ErrSyntax" = some #[.iface tp p]) ∧ (∃ tp p, w.var? Tryz.prog "strconv.ErrRange" = some #[.iface tp p]) := h w (Below.refl _ _)
theorem VarsOk.tab {B : Nat} {w : World} (h : VarsOk B w) : Lib.TabBelow Tryz.prog B w "internal/strconv.uint64pow10" .u64 Lib.pow10Tab := fun w2 h2 => (h w2 h2).1
theorem parseInt_bad (d : List UInt8) (hl : d.length ≤ 1000) (w : World) (B : Nat) (hv : VarsOk B w) (h : ∀ v, Lib.parseIntB 64 d ≠ .ok v) :
    Calls Tryz.prog 114 #[.string ⟨d.toArray⟩, .int .i64 10, .int .i64 64] w fun e w' => ∃ n t v, e = .returned (.tuple #[.int .i64 n, .iface t v]) ∧ Below w.heap.size w w' := by
  obtain ⟨_, ⟨ts, ps, hs⟩, ⟨tr, pr, hr⟩⟩ := hv.here
  have hz : (⟨d.toArray⟩ : ByteArray).size ≤ 281474976710656 := by show d.toArray.size ≤ _; simp; omega
  rcases hp : Lib.parseIntB 64 d with v | _ | _
  · exact absurd hp (h v)
  · refine (Any.strconv_ParseInt_10_at64_syntax_var Tryz.laysC174 ⟨d.toArray⟩ hz (by simpa using hp) ts ps w hs).mono ?_
    rintro e w' ⟨N, he, _, _, hb⟩
    exact ⟨_, _, _, he, hb⟩
  · refine (Any.strconv_ParseInt_10_at64_range_var Tryz.laysC174 ⟨d.toArray⟩ hz (by simpa using hp) tr pr w hr).mono ?_
    rintro e w' ⟨N, he, _, _, hb⟩
    exact ⟨_, _, _, he, hb⟩

theorem parseInt_good (d : List UInt8) (hl : d.length ≤ 1000) (n : Int) (w : World) (h : Lib.parseIntB 64 d = .ok n) :
    Calls Tryz.prog 114 #[.string ⟨d.toArray⟩, .int .i64 10, .int .i64 64] w fun e w' => e = .returned (.tuple #[.int .i64 n, .nilIface]) ∧ Below w.heap.size w w' := by
  refine (Tryz.strconv_ParseInt_10_at64_ok ⟨d.toArray⟩ (by show d.toArray.size ≤ _; simp; omega) n (by simpa using h) w).mono ?_
  rintro e w' ⟨he, rfl | ⟨t, rfl⟩⟩
  · exact ⟨he, Below.refl _ _⟩
  · exact ⟨he, Lib.bytesWorld_below _ _ _⟩

theorem formatInt_any (n : Int) (h0 : -9223372036854775808 ≤ n) (h1 : n ≤ 9223372036854775807) (w : World) (B : Nat) (hv : VarsOk B w) :
    Calls Tryz.prog 115 #[.int .i64 n, .int .i64 10] w fun e w' => e = .returned (.string ⟨(Lib.itoa n).toArray⟩) ∧ Below w.heap.size w w' := by
  refine (Tryz.strconv_FormatInt_10 n h0 h1 w hv.here.1).mono ?_
  rintro e w' ⟨he, k, os, rfl⟩
  exact ⟨he, Lib.below_grow _ _ (Nat.le_refl _) _ _⟩

end Go.Proofs.YtmanjegdgjeeiaaGreatDoor
