/-
  DERIVED: THE SHELF's CONTRACTS AT THIS DUMP, IN PLAIN WORDS (tools/lay-plain.mjs out of 'YtcngifkoopcmeaaGreatDoorLShelfRaw.lean', which tools/lay-shelf.mjs wrote): THE SAME DECLARATIONS UNDER THE SAME NAMES: 'import', 'namespace', 'open', 'def', 'theorem' AND NOTHING ELSE: no command of the shelf's: FOR A HAND-IN. Each laying: the table of numbers ('.._ren') and one theorem, a field a fact of the dump's own or the kernel's comparison; each contract: ONE APPLICATION. What the small calls of package entry do: numbers and texts compared, the first that differs. Entries, and what Above, Later, Check and Counts of package entry tell of them. What Check of package entry tells, and the reference's Check, Above and Later; whether two entries are one.
-/
import Derived.Shelf.Small.Strs
import Derived.Ground.NamesProg
import Derived.Shelf.Small.Bits
import Derived.Shelf.Slices.Turned
import Derived.Shelf.SlicesE.Clone
import Derived.Shelf.SlGeneric
import Derived.Ground.SlgnProg
import Derived.Shelf.SlicesQ.Equal
import Derived.Ground.SlgqProg
import Derived.Test.YtcngifkoopcmeaaGreatDoorProg
import Derived.Test.YtcngifkoopcmeaaGreatDoorK19
import Derived.Test.YtcngifkoopcmeaaGreatDoorRows
import Derived.Lib.Hide
import Derived.WalkKit
import Derived.WalkSpells
import Derived.WalkLawsBesides
import Derived.Lib.Slices
import Derived.Lib.AppendStr
import Derived.OwnWalk
import Derived.BigCall
import Derived.Deep.RegionHeld3
import Derived.Laws.StructEq
namespace Go.Proofs
open Go.Shelf
def Tryz.lCompare_ren : Go.Shelf.Ren := ⟨fun | 106 => 47 | 213 => 101 | 265 => 146 | n => n, fun | 9 => 9 | 3 => 3 | n => n, fun | n => n⟩
theorem Tryz.lCompare : Go.Proofs.Lays.n106 Tryz.prog Tryz.lCompare_ren := {
  mixed := by kernel_rfl
  f106 := Tryz.func47.trans (congrArg some (by kernel_rfl))
  f213 := Tryz.func101.trans (congrArg some (by kernel_rfl))
  f265 := Tryz.func146.trans (congrArg some (by kernel_rfl))
  t3 := Tryz.underlying3
  a3 := Tryz.isAgg3
  z3 := Tryz.sizeOf3
  v3 := Tryz.zeroValue3
  t9 := Tryz.underlying9
  a9 := Tryz.isAgg9
  z9 := Tryz.sizeOf9
  v9 := Tryz.zeroValue9 }
def Tryz.lBitsLen_ren : Go.Shelf.Ren := ⟨fun | 125 => 99 | 128 => 144 | 129 => 145 | n => n, fun | 46 => 152 | 3 => 3 | 51 => 192 | 53 => 194 | 4 => 4 | 5 => 5 | 9 => 9 | n => n, fun | n => n⟩
theorem Tryz.lBitsLen : Go.Proofs.Lays.n125 Tryz.prog Tryz.lBitsLen_ren := {
  mixed := by kernel_rfl
  f125 := Tryz.func99.trans (congrArg some (by kernel_rfl))
  f128 := Tryz.func144.trans (congrArg some (by kernel_rfl))
  f129 := Tryz.func145.trans (congrArg some (by kernel_rfl))
  t3 := Tryz.underlying3
  a3 := Tryz.isAgg3
  z3 := Tryz.sizeOf3
  v3 := Tryz.zeroValue3
  t4 := Tryz.underlying4
  a4 := Tryz.isAgg4
  z4 := Tryz.sizeOf4
  v4 := Tryz.zeroValue4
  t5 := Tryz.underlying5
  a5 := Tryz.isAgg5
  z5 := Tryz.sizeOf5
  v5 := Tryz.zeroValue5
  t9 := Tryz.underlying9
  a9 := Tryz.isAgg9
  z9 := Tryz.sizeOf9
  v9 := Tryz.zeroValue9
  t46 := Tryz.underlying152
  a46 := Tryz.isAgg152
  z46 := Tryz.sizeOf152
  v46 := Tryz.zeroValue152
  t51 := Tryz.underlying192
  a51 := Tryz.isAgg192
  z51 := Tryz.sizeOf192
  v51 := Tryz.zeroValue192
  t53 := Tryz.underlying194
  a53 := Tryz.isAgg194
  z53 := Tryz.sizeOf194
  v53 := Tryz.zeroValue194 }
def Tryz.lContains_ren : Go.Shelf.Ren := ⟨fun | 110 => 65 | 109 => 116 | n => n, fun | 31 => 49 | 9 => 9 | 4 => 4 | 3 => 3 | 0 => 0 | n => n, fun | n => n⟩
theorem Tryz.lContains : Go.Proofs.Lays.n110 Tryz.prog Tryz.lContains_ren := {
  mixed := by kernel_rfl
  f109 := Tryz.func116.trans (congrArg some (by kernel_rfl))
  f110 := Tryz.func65.trans (congrArg some (by kernel_rfl))
  t0 := Tryz.underlying0
  a0 := Tryz.isAgg0
  z0 := Tryz.sizeOf0
  v0 := Tryz.zeroValue0
  t3 := Tryz.underlying3
  a3 := Tryz.isAgg3
  z3 := Tryz.sizeOf3
  v3 := Tryz.zeroValue3
  t4 := Tryz.underlying4
  a4 := Tryz.isAgg4
  z4 := Tryz.sizeOf4
  v4 := Tryz.zeroValue4
  t9 := Tryz.underlying9
  a9 := Tryz.isAgg9
  z9 := Tryz.sizeOf9
  v9 := Tryz.zeroValue9
  t31 := Tryz.underlying49
  a31 := Tryz.isAgg49
  z31 := Tryz.sizeOf49
  v31 := Tryz.zeroValue49 }
def Tryz.lClone_ren : Go.Shelf.Ren := ⟨fun | 41 => 97 | n => n, fun | 22 => 40 | 23 => 83 | 4 => 4 | n => n, fun | n => n⟩
theorem Tryz.lClone : Go.Proofs.SlLaysE0.n41 Tryz.prog Tryz.lClone_ren := {
  mixed := by kernel_rfl
  f41 := ⟨Tryz.f97.name, by decide, Tryz.func97.trans (congrArg some (by kernel_rfl))⟩
  t4 := Tryz.underlying4
  a4 := Tryz.isAgg4
  z4 := Tryz.sizeOf4
  v4 := Tryz.zeroValue4
  t22 := Tryz.underlying40
  a22 := Tryz.isAgg40
  z22 := Tryz.sizeOf40
  v22 := Tryz.zeroValue40 }
def Tryz.lEqual_ren : Go.Shelf.Ren := ⟨fun | 8 => 64 | n => n, fun | 22 => 40 | 24 => 83 | 4 => 4 | 3 => 3 | 0 => 0 | n => n, fun | n => n⟩
theorem Tryz.lEqual : Go.Proofs.SlLaysQ.n8 Tryz.prog Tryz.lEqual_ren := {
  mixed := by kernel_rfl
  f8 := ⟨Tryz.f64.name, by decide, Tryz.func64.trans (congrArg some (by kernel_rfl))⟩
  t0 := Tryz.underlying0
  a0 := Tryz.isAgg0
  z0 := Tryz.sizeOf0
  v0 := Tryz.zeroValue0
  t3 := Tryz.underlying3
  a3 := Tryz.isAgg3
  z3 := Tryz.sizeOf3
  v3 := Tryz.zeroValue3
  t4 := Tryz.underlying4
  a4 := Tryz.isAgg4
  z4 := Tryz.sizeOf4
  v4 := Tryz.zeroValue4
  t22 := Tryz.underlying40
  a22 := Tryz.isAgg40
  z22 := Tryz.sizeOf40
  v22 := Tryz.zeroValue40 }
end Go.Proofs
namespace Go.Proofs.YtcngifkoopcmeaaGreatDoor
open Go.RowKit

theorem cellE {w : World} {b j : Nat} {cs : Array Value} {t : TypeId} {fr : Nat × Nat} (h : w.heap[b]? = some (.cells cs t fr)) : w.cell? ⟨b, j, none⟩ = cs[j]? := by simp [World.cell?, h]
theorem newE (w : World) (o : Obj) : (w.alloc o).heap[w.heap.size]? = some o := by
  show (w.heap.push o)[w.heap.size]? = some o
  exact Array.getElem?_push_size
theorem ltE {w : World} {b : Nat} {o : Obj} (h : w.heap[b]? = some o) : b < w.heap.size := (Array.getElem?_eq_some_iff.1 h).1

/-- Numbers compared. -/
def cmpIE (x y : Int) : Int := if x < y then -1 else if y < x then 1 else 0

set_option maxHeartbeats 400000 in
theorem isNaNE_any (x : Int) (w : World) : Calls Tryz.prog 100 #[.int .i64 x] w fun e w' => e = .returned (.bool false) ∧ w' = w := by
  go_enter Tryz.func100, Tryz.ntmps100
  go_wp2
  go_ret
  exact ⟨by simp, rfl⟩
set_option maxHeartbeats 1000000 in
set_option maxRecDepth 20000 in
theorem cmpIntE_any (x y : Int) (w : World) : Calls Tryz.prog 46 #[.int .i64 x, .int .i64 y] w fun e w' => e = .returned (.int .i64 (cmpIE x y)) ∧ w' = w := by
  have H1 := Lib.hid (isNaNE_any x w)
  have H2 := Lib.hid (isNaNE_any y w)
  by_cases h1 : x < y
  · have HE : Hid (cmpIE x y = -1) := Lib.hid (by unfold cmpIE; rw [if_pos h1])
    go_enter Tryz.func46, Tryz.ntmps46
    go_wp2_with (first | (go_at_call 100; refine H1.out.mono ?_; rintro e w1 ⟨rfl, rfl⟩) | (go_at_call 100; refine H2.out.mono ?_; rintro e w1 ⟨rfl, rfl⟩))
    go_ret
    exact ⟨by rw [HE.out]; rfl, rfl⟩
  · by_cases h2 : y < x
    · have HE : Hid (cmpIE x y = 1) := Lib.hid (by unfold cmpIE; rw [if_neg h1, if_pos h2])
      go_enter Tryz.func46, Tryz.ntmps46
      go_wp2_with (first | (go_at_call 100; refine H1.out.mono ?_; rintro e w1 ⟨rfl, rfl⟩) | (go_at_call 100; refine H2.out.mono ?_; rintro e w1 ⟨rfl, rfl⟩))
      go_ret
      exact ⟨by rw [HE.out]; rfl, rfl⟩
    · have HE : Hid (cmpIE x y = 0) := Lib.hid (by unfold cmpIE; rw [if_neg h1, if_neg h2])
      go_enter Tryz.func46, Tryz.ntmps46
      go_wp2_with (first | (go_at_call 100; refine H1.out.mono ?_; rintro e w1 ⟨rfl, rfl⟩) | (go_at_call 100; refine H2.out.mono ?_; rintro e w1 ⟨rfl, rfl⟩))
      go_ret
      exact ⟨by rw [HE.out]; rfl, rfl⟩
/-- Whether the first number that is not 0 is above 0. -/
def firstP : List Int → Bool
  | [] => false
  | x :: l => if x = 0 then firstP l else decide (0 < x)

end Go.Proofs.YtcngifkoopcmeaaGreatDoor
namespace Go.Proofs.YtcngifkoopcmeaaGreatDoor
open Go.RowKit

/-- One operation is taken first, its slot said. -/
theorem wpAnyH_takeE {P : Program} {ops : Array Oper} {Q : Exit → Act → World → Prop} {md : Region.Mode} {S : World → Prop} {i : Nat} (dst : Option Nat) {oi : Oper} {v : Value} {fuel : Nat} {listed : Array Bool} {a : Act} {w : World} (hi : ops[i]? = some oi) (hd : oi.dst = dst)
    (hs : Region.noSelect ops = true) (hf : Region.free md ops listed i = true) (hr : (Region.ready md ops listed).contains i = true)
    (hQ : ∀ c a w, Q (.panic c) (a.put dst v) w → Q (.panic c) a w) (hy : YieldsIf P ops S oi v a) (hS : S w)
    (h : wpAnyH P md ops Q S fuel (listed.setIfInBounds i true) (a.put dst v) w) : wpAnyH P md ops Q S (fuel + 1) listed a w := by
  subst hd
  exact wpAnyH_take hi hs hf hr hQ hy hS h

/-- An entry. -/
structure Ent where
  k : ByteArray
  t : Int
  o : Int
  v : ByteArray
  u : Int
/-- The cells of an entry. -/
abbrev Ent.cells (x : Ent) : Array Value := #[.string x.k, .int .i64 x.t, .int .u16 x.o, .string x.v, .int .i64 x.u]
def Ent.val (x : Ent) : Value := .agg #[.string x.k, .int .i64 x.t, .int .u16 x.o, .string x.v, .int .i64 x.u]
def zeroE : Ent := ⟨⟨#[]⟩, 0, 0, ⟨#[]⟩, 0⟩
/-- A block of one entry. -/
def EBlk (w : World) (B : Nat) (x : Ent) : Prop := w.heap[B]? = some (.cells #[.string x.k, .int .i64 x.t, .int .u16 x.o, .string x.v, .int .i64 x.u] 60 (0, 0))
theorem EBlk.lt {w : World} {B : Nat} {x : Ent} (h : EBlk w B x) : B < w.heap.size := ltE h
theorem EBlk.below {w w' : World} {B N : Nat} {x : Ent} (h : EBlk w B x) (hb : Below N w w') (hN : B < N) : EBlk w' B x := (hb.block B hN).trans h
theorem EBlk.on {w w' : World} {B : Nat} {x : Ent} (h : EBlk w B x) (hb : Below w.heap.size w w') : EBlk w' B x := h.below hb h.lt
theorem EBlk.drew {w : World} {B : Nat} {x : Ent} (h : EBlk w B x) : EBlk w.drew B x := h
theorem EBlk.new (w : World) (x : Ent) : EBlk (w.alloc (.cells #[.string x.k, .int .i64 x.t, .int .u16 x.o, .string x.v, .int .i64 x.u] 60)) w.heap.size x := newE w _
theorem EBlk.c0 {w : World} {B : Nat} {x : Ent} (h : EBlk w B x) : w.cell? ⟨B, 0, none⟩ = some (.string x.k) := cellE h
theorem EBlk.c1 {w : World} {B : Nat} {x : Ent} (h : EBlk w B x) : w.cell? ⟨B, 1, none⟩ = some (.int .i64 x.t) := cellE h
theorem EBlk.c2 {w : World} {B : Nat} {x : Ent} (h : EBlk w B x) : w.cell? ⟨B, 2, none⟩ = some (.int .u16 x.o) := cellE h
theorem EBlk.c3 {w : World} {B : Nat} {x : Ent} (h : EBlk w B x) : w.cell? ⟨B, 3, none⟩ = some (.string x.v) := cellE h
theorem EBlk.c4 {w : World} {B : Nat} {x : Ent} (h : EBlk w B x) : w.cell? ⟨B, 4, none⟩ = some (.int .i64 x.u) := cellE h
theorem EBlk.f {w : World} {B : Nat} {x : Ent} (h : EBlk w B x) (j : Nat) : w.frozen? ⟨B, j, none⟩ = false := by
  unfold EBlk at h
  simp [World.frozen?, h]
theorem EBlk.other {w : World} {B : Nat} {x : Ent} (h : EBlk w B x) {p : Addr} (hp : B ≠ p.block) (v : Value) : EBlk (w.setCell p v) B x := (Below.heap_setCell w p v B hp).trans h
/-- A block stored into, cell by cell. -/
def stE (w : World) (B : Nat) (y : Ent) : World := ((((w.setCell ⟨B, 0, none⟩ (.string y.k)).setCell ⟨B, 1, none⟩ (.int .i64 y.t)).setCell ⟨B, 2, none⟩ (.int .u16 y.o)).setCell ⟨B, 3, none⟩ (.string y.v)).setCell ⟨B, 4, none⟩ (.int .i64 y.u)
theorem EBlk.store {w : World} {B : Nat} {x : Ent} (h : EBlk w B x) (y : Ent) : EBlk (stE w B y) B y := by
  unfold EBlk at h ⊢
  unfold stE
  simp [World.setCell, Array.getElem?_modify, h]
theorem stE_below {a w : World} {N B : Nat} (h : Below N a w) (hB : N ≤ B) (y : Ent) : Below N a (stE w B y) :=
  ((((h.setCell (p := ⟨B, 0, none⟩) hB _).setCell (p := ⟨B, 1, none⟩) hB _).setCell (p := ⟨B, 2, none⟩) hB _).setCell (p := ⟨B, 3, none⟩) hB _).setCell (p := ⟨B, 4, none⟩) hB _

/-- Which of two entries is above. -/
def aboveE (x y : Ent) : Bool := firstP [cmpIE x.t y.t, cmpIE x.o y.o, Lib.compareBytes x.v.data.toList y.v.data.toList, cmpIE x.u y.u]
def laterE (x y : Ent) : Ent := if aboveE x y then x else y

end Go.Proofs.YtcngifkoopcmeaaGreatDoor
namespace Go.Proofs.YtcngifkoopcmeaaGreatDoor
open Go.RowKit

/-- Why an entry may not be (0: it may). -/
def checkEn (x : Ent) : Int := if x.k.size = 0 ∨ 1024 < x.k.size ∨ 8192 < x.v.size then 5 else if x.t < 0 ∨ 1099511627776 < x.t ∨ x.u < x.t ∨ 1099511627776 < x.u then 13 else 0
theorem esize_zero (k : ByteArray) : k.size = 0 ↔ k = ⟨#[]⟩ := by
  obtain ⟨⟨l⟩⟩ := k
  constructor
  · intro h
    have : l.length = 0 := h
    rw [List.length_eq_zero_iff.1 this]
  · intro h
    have : l = [] := by injection h with h; injection h
    rw [this]; rfl
theorem toList_nil (k : ByteArray) : (k.toList = []) ↔ k.size = 0 := by
  rw [ByteArray.toList_eq, List.eq_nil_iff_length_eq_zero]
  exact Iff.rfl

/-! Entries compared, plainly. -/
theorem lessE : ∀ (x y : List UInt8), Op.bytesLess x y = decide (x < y)
  | _, [] => by simp [Op.bytesLess]
  | [], _ :: _ => by simp [Op.bytesLess]
  | a :: x, b :: y => by
    rw [Op.bytesLess, lessE x y]
    simp only [List.cons_lt_cons_iff, Bool.decide_or, Bool.decide_and]
    rfl
theorem triE {a b : List UInt8} (h : ¬ a < b) (hn : ¬ b < a) : a = b := List.le_antisymm (by simpa using hn) (by simpa using h)
theorem comp_zeroE : ∀ (x y : List UInt8), Lib.compareBytes x y = 0 ↔ x = y
  | [], [] => by simp [Lib.compareBytes]
  | [], _ :: _ => by simp [Lib.compareBytes]
  | _ :: _, [] => by simp [Lib.compareBytes]
  | a :: x, b :: y => by
    rw [Lib.compareBytes, List.cons.injEq]
    have ih := comp_zeroE x y
    by_cases h1 : a < b
    · have : a ≠ b := fun e => UInt8.lt_irrefl b (e ▸ h1)
      simp [h1, this]
    · by_cases h2 : b < a
      · have : a ≠ b := fun e => UInt8.lt_irrefl b (e ▸ h2)
        simp [h1, h2, this]
      · have : a = b := UInt8.le_antisymm (UInt8.not_lt.1 h2) (UInt8.not_lt.1 h1)
        simp [this, ih]
theorem comp_posE : ∀ (x y : List UInt8), 0 < Lib.compareBytes x y ↔ y < x
  | [], [] => by simp [Lib.compareBytes]
  | [], _ :: _ => by simp [Lib.compareBytes]
  | _ :: _, [] => by simp [Lib.compareBytes]
  | a :: x, b :: y => by
    rw [Lib.compareBytes, List.cons_lt_cons_iff]
    have ih := comp_posE x y
    by_cases h1 : a < b
    · have h2 : ¬ b < a := fun h => UInt8.lt_irrefl b (UInt8.lt_trans h h1)
      have h3 : b ≠ a := fun e => UInt8.lt_irrefl b (e ▸ h1)
      simp [h1, h2, h3]
    · by_cases h2 : b < a
      · simp [h1, h2]
      · have : a = b := UInt8.le_antisymm (UInt8.not_lt.1 h2) (UInt8.not_lt.1 h1)
        simp [this, ih]
theorem cmpIE_zero (x y : Int) : cmpIE x y = 0 ↔ x = y := by unfold cmpIE; split <;> (try split) <;> omega
theorem cmpIE_pos (x y : Int) : 0 < cmpIE x y ↔ y < x := by unfold cmpIE; split <;> (try split) <;> omega
def Ent.vl (x : Ent) : List UInt8 := x.v.data.toList
/-- Above, in the document's words. -/
def AboveP (x y : Ent) : Prop := y.t < x.t ∨ (x.t = y.t ∧ (y.o < x.o ∨ (x.o = y.o ∧ (y.vl < x.vl ∨ (x.vl = y.vl ∧ y.u < x.u)))))
theorem above_iff (x y : Ent) : aboveE x y = true ↔ AboveP x y := by
  change firstP [cmpIE x.t y.t, cmpIE x.o y.o, Lib.compareBytes x.vl y.vl, cmpIE x.u y.u] = true ↔ _
  unfold AboveP
  generalize x.vl = vx
  generalize y.vl = vy
  simp only [firstP, cmpIE_zero, comp_zeroE]
  by_cases h1 : x.t = y.t
  · rw [if_pos h1]
    have : ¬ y.t < x.t := by omega
    by_cases h2 : x.o = y.o
    · rw [if_pos h2]
      have : ¬ y.o < x.o := by omega
      by_cases h3 : vx = vy
      · subst h3
        rw [if_pos rfl]
        have h4 : ¬ vx < vx := List.lt_irrefl _
        by_cases h5 : x.u = y.u
        · rw [if_pos h5]; simp [*]
        · rw [if_neg h5, decide_eq_true_eq, cmpIE_pos]; simp [*]
      · rw [if_neg h3, decide_eq_true_eq, comp_posE]; simp [*]
    · rw [if_neg h2, decide_eq_true_eq, cmpIE_pos]; simp [*]
  · rw [if_neg h1, decide_eq_true_eq, cmpIE_pos]; simp [*]
theorem above_irrefl (x : Ent) : aboveE x x = false := by
  rw [Bool.eq_false_iff]
  intro h
  rcases (above_iff x x).1 h with h | ⟨-, h | ⟨-, h | ⟨-, h⟩⟩⟩
  · omega
  · omega
  · exact List.lt_irrefl _ h
  · omega
theorem above_asymm {x y : Ent} (h : aboveE x y = true) : aboveE y x = false := by
  rw [Bool.eq_false_iff]
  intro k
  rw [above_iff] at h k
  unfold AboveP at h k
  rcases h with h | ⟨e1, h | ⟨e2, h | ⟨e3, h⟩⟩⟩ <;> rcases k with k | ⟨f1, k | ⟨f2, k | ⟨f3, k⟩⟩⟩ <;> first | omega | exact List.lt_irrefl _ (List.lt_trans h k) | exact List.lt_irrefl _ (e3 ▸ k) | exact List.lt_irrefl _ (f3 ▸ h)
theorem above_trans {x y z : Ent} (h : aboveE x y = true) (k : aboveE y z = true) : aboveE x z = true := by
  rw [above_iff] at h k ⊢
  unfold AboveP at h k ⊢
  rcases h with h | ⟨e1, h | ⟨e2, h | ⟨e3, h⟩⟩⟩ <;> rcases k with k | ⟨f1, k | ⟨f2, k | ⟨f3, k⟩⟩⟩
  all_goals first | (left; omega) | (right; refine ⟨by omega, ?_⟩; first | (left; omega) | (right; refine ⟨by omega, ?_⟩; first | (left; exact List.lt_trans k h) | (left; exact f3 ▸ h) | (left; exact e3 ▸ k) | (right; exact ⟨e3.trans f3, by omega⟩)))
theorem ent_ext {x y : Ent} (h0 : x.k = y.k) (h1 : x.t = y.t) (h2 : x.o = y.o) (h3 : x.v = y.v) (h4 : x.u = y.u) : x = y := by
  obtain ⟨kx, tx, ox, vx, ux⟩ := x
  obtain ⟨ky, ty, oy, vy, uy⟩ := y
  dsimp only at h0 h1 h2 h3 h4
  subst h0 h1 h2 h3 h4; rfl
theorem bytes_ext {a b : ByteArray} (h : a.data.toList = b.data.toList) : a = b := by
  obtain ⟨⟨x⟩⟩ := a
  obtain ⟨⟨y⟩⟩ := b
  have : x = y := h
  rw [this]
theorem above_tri {x y : Ent} (h0 : x.k = y.k) (h : aboveE x y = false) (k : aboveE y x = false) : x = y := by
  rw [Bool.eq_false_iff, Ne, above_iff] at h k
  unfold AboveP at h k
  have t1 : x.t = y.t := by
    by_cases a : y.t < x.t
    · exact absurd (.inl a) h
    · by_cases b : x.t < y.t
      · exact absurd (.inl b) k
      · omega
  have t2 : x.o = y.o := by
    by_cases a : y.o < x.o
    · exact absurd (.inr ⟨t1, .inl a⟩) h
    · by_cases b : x.o < y.o
      · exact absurd (.inr ⟨t1.symm, .inl b⟩) k
      · omega
  have t3 : x.vl = y.vl := triE (fun b => k (.inr ⟨t1.symm, .inr ⟨t2.symm, .inl b⟩⟩)) (fun a => h (.inr ⟨t1, .inr ⟨t2, .inl a⟩⟩))
  have t4 : x.u = y.u := by
    by_cases a : y.u < x.u
    · exact absurd (.inr ⟨t1, .inr ⟨t2, .inr ⟨t3, a⟩⟩⟩) h
    · by_cases b : x.u < y.u
      · exact absurd (.inr ⟨t1.symm, .inr ⟨t2.symm, .inr ⟨t3.symm, b⟩⟩⟩) k
      · omega
  exact ent_ext h0 t1 t2 (bytes_ext (show x.v.data.toList = y.v.data.toList from t3)) t4

/-- Whether two entries are one. -/
def eqEn (x y : Ent) : Bool := x.k.toList == y.k.toList && (x.t == y.t && (x.o == y.o && (x.v.toList == y.v.toList && x.u == y.u)))
theorem eqEn_iff (x y : Ent) : eqEn x y = true ↔ x = y := by
  unfold eqEn
  rw [Bool.and_eq_true, Bool.and_eq_true, Bool.and_eq_true, Bool.and_eq_true, beq_iff_eq, beq_iff_eq, beq_iff_eq, beq_iff_eq, beq_iff_eq]
  constructor
  · rintro ⟨h0, h1, h2, h3, h4⟩
    rw [ByteArray.toList_eq, ByteArray.toList_eq] at h0 h3
    exact ent_ext (bytes_ext h0) h1 h2 (bytes_ext h3) h4
  · rintro rfl; exact ⟨rfl, rfl, rfl, rfl, rfl⟩
theorem eqEn_refl (x : Ent) : eqEn x x = true := (eqEn_iff x x).2 rfl
theorem eqEn_no {x y : Ent} (h : x ≠ y) : eqEn x y = false := by
  rw [Bool.eq_false_iff]; exact fun e => h ((eqEn_iff x y).1 e)
set_option maxRecDepth 20000 in
theorem run_eqE (x y : Ent) (w : World) : (binOp .eql 60 (.agg #[.string x.k, .int .i64 x.t, .int .u16 x.o, .string x.v, .int .i64 x.u]) (.agg #[.string y.k, .int .i64 y.t, .int .u16 y.o, .string y.v, .int .i64 y.u])).run Tryz.prog w = .ok (.bool (eqEn x y)) w := by
  unfold eqEn
  cases h0 : x.k.toList == y.k.toList <;> cases h1 : x.t == y.t <;> cases h2 : x.o == y.o <;> cases h3 : x.v.toList == y.v.toList <;> go_simp <;> (by_cases hu : x.u = y.u <;> simp [hu])
set_option maxRecDepth 20000 in
theorem run_neE (x y : Ent) (w : World) : (binOp .neq 60 (.agg #[.string x.k, .int .i64 x.t, .int .u16 x.o, .string x.v, .int .i64 x.u]) (.agg #[.string y.k, .int .i64 y.t, .int .u16 y.o, .string y.v, .int .i64 y.u])).run Tryz.prog w = .ok (.bool (!eqEn x y)) w := by
  unfold eqEn
  cases h0 : x.k.toList == y.k.toList <;> cases h1 : x.t == y.t <;> cases h2 : x.o == y.o <;> cases h3 : x.v.toList == y.v.toList <;> go_simp <;> (by_cases hu : x.u = y.u <;> simp [hu])

end Go.Proofs.YtcngifkoopcmeaaGreatDoor
