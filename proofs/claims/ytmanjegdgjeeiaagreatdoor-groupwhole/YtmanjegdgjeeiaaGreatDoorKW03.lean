/-
  Sets of bytes, as four words: what has, add and others do. An item, and a set, as the program reads them. The library's lowest bit, and whether a byte is special. What the row's list of package-level variables gives the walks, and a start that meets it; how much the arguments hold in the second form. What the row's list of package-level variables gives the walks of GroupWhole and GroupOrder: the table of bits and ben's.
-/
import Derived.Test.YtmanjegdgjeeiaaGreatDoorKW02
import Derived.Laws.BitsAllLaws
import Derived.Deep.LoopGhost
import Derived.Laws.Externs
import Derived.ProofKit
import Derived.OpenShut
import Derived.LaidMore
import Derived.LaidHandle
import Derived.Stop.LaidErr
import Derived.Stop.Joined
import Derived.Lib.LaidTab
import Derived.MakeChecks
import Derived.Deep.SlicePairs
import Derived.SizedLaws
import Derived.Test.YtmanjegdgjeeiaaGreatDoorKW01
namespace Go.Proofs.YtmanjegdgjeeiaaGreatDoor
open Go.RowKit

/-- Four words lie at an address. -/
def WordsAt (w : World) (b o : Nat) (W : Nat → Nat) : Prop := ∀ i, i < 4 → w.cell? ⟨b, o + i, none⟩ = some (.int .u64 (W i : Int))

theorem has_bit (x k : Nat) (hx : x < 18446744073709551616) : (bits BinOp.and IntKind.u64 ((x : Int) / 2 ^ k) 1 != 0) = x.testBit k := by
  have e : ((x : Int) / 2 ^ k) = ((x / 2 ^ k : Nat) : Int) := by simp
  have hlt : x / 2 ^ k < 18446744073709551616 := Nat.lt_of_le_of_lt (Nat.div_le_self _ _) hx
  rw [e, show (1 : Int) = ((1 : Nat) : Int) from rfl, u64_and_nat _ _ hlt (by omega), Nat.and_one_is_mod, Nat.testBit_eq_decide_div_mod_eq]
  rw [Bool.eq_iff_iff]
  simp only [bne_iff_ne, ne_eq, decide_eq_true_eq]
  omega

set_option maxHeartbeats 400000 in
theorem has_any (b o : Nat) (W : Nat → Nat) (c : UInt8) (w : World) (h : WordsAt w b o W) (hW : ∀ i, i < 4 → W i < 18446744073709551616) :
    Calls Tryz.prog 157 #[.pointer (some ⟨b, o, none⟩), .int .u8 c.toNat] w fun e w' => e = .returned (.bool (hasW W c)) ∧ w' = w := by
  have hc : (c.toNat : Int) < 256 := by have := c.toNat_lt; omega
  have hd : c.toNat / 64 < 4 := by omega
  have c1 := h (c.toNat / 64) hd
  have hw := hW _ hd
  clear h hW
  go_enter Tryz.func157, Tryz.ntmps157
  go_wp2
  go_ret
  exact ⟨by rw [has_bit _ _ hw]; rfl, rfl⟩

/-- Four words of the call's own, in a block of four cells. -/
def SetBlk (w : World) (sb : Nat) (W : Nat → Nat) : Prop := w.heap[sb]? = some (.cells #[.int .u64 (W 0 : Int), .int .u64 (W 1 : Int), .int .u64 (W 2 : Int), .int .u64 (W 3 : Int)] 210 (0, 0))
def updW (W : Nat → Nat) (k x : Nat) : Nat → Nat := fun i => if i = k then x else W i

theorem SetBlk.cell {w : World} {sb : Nat} {W : Nat → Nat} (h : SetBlk w sb W) (i : Nat) (hi : i < 4) : w.cell? ⟨sb, i, none⟩ = some (.int .u64 (W i : Int)) := by
  unfold SetBlk at h
  match i, hi with
  | 0, _ => simp [World.cell?, h]
  | 1, _ => simp [World.cell?, h]
  | 2, _ => simp [World.cell?, h]
  | 3, _ => simp [World.cell?, h]
theorem SetBlk.frozen {w : World} {sb : Nat} {W : Nat → Nat} (h : SetBlk w sb W) (i : Nat) : w.frozen? ⟨sb, i, none⟩ = false := by
  unfold SetBlk at h; simp [World.frozen?, h]
theorem SetBlk.lt {w : World} {sb : Nat} {W : Nat → Nat} (h : SetBlk w sb W) : sb < w.heap.size := (Array.getElem?_eq_some_iff.1 h).1
theorem SetBlk.set {w : World} {sb : Nat} {W : Nat → Nat} (h : SetBlk w sb W) (k x : Nat) (hk : k < 4) : SetBlk (w.setCell ⟨sb, k, none⟩ (.int .u64 (x : Int))) sb (updW W k x) := by
  unfold SetBlk at h ⊢
  match k, hk with
  | 0, _ => simp [World.setCell, Array.getElem?_modify, h, updW]
  | 1, _ => simp [World.setCell, Array.getElem?_modify, h, updW]
  | 2, _ => simp [World.setCell, Array.getElem?_modify, h, updW]
  | 3, _ => simp [World.setCell, Array.getElem?_modify, h, updW]
theorem SetBlk.kept {w w' : World} {sb : Nat} {W : Nat → Nat} {r : Option Nat} (h : SetBlk w sb W) (hg : w.grownBy w' r) (hr : some sb ≠ r) : SetBlk w' sb W := (hg.block sb h.lt hr).trans h

/-- One byte more. -/
theorem hasW_upd (W : Nat → Nat) (n : Nat) (c : UInt8) : hasW (updW W (n / 64) (W (n / 64) ||| 2 ^ (n % 64))) c = (hasW W c || decide (c.toNat = n)) := by
  unfold hasW updW
  by_cases h1 : c.toNat / 64 = n / 64
  · rw [if_pos h1, Nat.testBit_or, Nat.testBit_two_pow, h1]
    congr 1
    rw [decide_eq_decide]
    omega
  · rw [if_neg h1]
    have : c.toNat ≠ n := fun e => h1 (by rw [e])
    simp [this]
theorem or_lt {x y : Nat} (hx : x < 18446744073709551616) (hy : y < 18446744073709551616) : x ||| y < 18446744073709551616 := Nat.or_lt_two_pow (n := 64) hx hy
theorem pow_lt64 {k : Nat} (h : k < 64) : 2 ^ k < 18446744073709551616 := Nat.pow_lt_pow_right (a := 2) (n := 64) (by omega) h

theorem wrap_pow {k : Nat} (h : k < 64) : IntKind.u64.wrap ((2 : Int) ^ k) = ((2 ^ k : Nat) : Int) := by
  have h1 := pow_lt64 h
  have e : ((2 : Int) ^ k) = ((2 ^ k : Nat) : Int) := by simp
  rw [e, IntKind.wrap_u64]
  generalize 2 ^ k = z at h1
  omega
theorem or_shl (x k : Nat) (hx : x < 18446744073709551616) (hk : k < 64) : bits BinOp.or IntKind.u64 (x : Int) (IntKind.u64.wrap ((2 : Int) ^ k)) = ((x ||| 2 ^ k : Nat) : Int) := by
  rw [wrap_pow hk, u64_or_nat _ _ hx (pow_lt64 hk)]

set_option maxHeartbeats 1000000 in
theorem add_any (sb : Nat) (W : Nat → Nat) (a b : UInt8) (w : World) (h : SetBlk w sb W) (hW : ∀ i, i < 4 → W i < 18446744073709551616) :
    Calls Tryz.prog 193 #[.pointer (some ⟨sb, 0, none⟩), .int .u8 a.toNat, .int .u8 b.toNat] w fun e w' => e = .returned (.tuple #[]) ∧ ∃ W', SetBlk w' sb W' ∧ (∀ i, i < 4 → W' i < 18446744073709551616) ∧ (∀ c, hasW W' c = addB (hasW W) a b c) ∧ w.grownBy w' (some sb) := by
  have ha : (a.toNat : Int) < 256 := by have := a.toNat_lt; omega
  have hb : (b.toNat : Int) < 256 := by have := b.toNat_lt; omega
  go_enter Tryz.func193, Tryz.ntmps193
  go_wp2
  go_loopw [6] (fun i w1 => ∃ (n : Nat) (W1 : Nat → Nat), i = .int .i64 n ∧ a.toNat ≤ n ∧ n ≤ 256 ∧ SetBlk w1 sb W1 ∧ (∀ i, i < 4 → W1 i < 18446744073709551616) ∧ (∀ c, hasW W1 c = (hasW W c || (decide (a.toNat ≤ c.toNat) && decide (c.toNat < n)))) ∧ w.grownBy w1 (some sb) ∧ (n ≤ b.toNat + 1 ∨ n = a.toNat)) (fun i _ => 256 - (intOf i).toNat)
  case atStart => exact ⟨a.toNat, W, rfl, Nat.le_refl _, by omega, h, hW, fun c => by
    have : (decide (a.toNat ≤ c.toNat) && decide (c.toNat < a.toNat)) = false := by simp
    rw [this, Bool.or_false], World.grownBy.refl _ _, .inr rfl⟩
  case round =>
    obtain ⟨n, W1, rfl, hn1, hn2, hs, hw1, hh, hg, hn3⟩ := hrel
    by_cases hlt : n ≤ b.toNat
    · have hnb : (n : Int) ≤ (b.toNat : Int) := by omega
      have hn4 : (n : Int) < 256 := by omega
      have hd : n / 64 < 4 := by omega
      have c1 := hs.cell (n / 64) hd
      have f1 := hs.frozen (n / 64)
      have hor := Lib.hid (or_shl (W1 (n / 64)) (n % 64) (hw1 _ hd) (by omega))
      go_wp2
      go_region
      go_wp2
      rw [hor.out]
      refine ⟨⟨n + 1, updW W1 (n / 64) (W1 (n / 64) ||| 2 ^ (n % 64)), by go_num, by omega, by omega, hs.set _ _ hd, fun i hi => ?_, fun c => ?_, grown_like (xgrown_trans hg (xgrown_setCell wr sb _ _)) rfl rfl rfl rfl, .inl (by omega)⟩, by simp [intOf]; omega⟩
      · unfold updW
        split
        · exact or_lt (hw1 _ hd) (pow_lt64 (by omega))
        · exact hw1 i hi
      · rw [hasW_upd, hh, Bool.or_assoc]
        congr 1
        rw [Bool.eq_iff_iff]
        simp only [Bool.or_eq_true, Bool.and_eq_true, decide_eq_true_eq]
        omega
    · have hnb : ¬ (n : Int) ≤ (b.toNat : Int) := by omega
      go_wp2
      go_end0
      refine ⟨rfl, W1, hs, hw1, fun c => ?_, hg⟩
      rw [hh]
      unfold addB
      congr 1
      rw [Bool.eq_iff_iff]
      simp only [Bool.and_eq_true, decide_eq_true_eq, UInt8.le_iff_toNat_le]
      omega

def notW (W : Nat → Nat) : Nat → Nat := fun i => 18446744073709551615 - W i
theorem hasW_not (W : Nat → Nat) (hW : ∀ i, i < 4 → W i < 18446744073709551616) (c : UInt8) : hasW (notW W) c = notB (hasW W) c := by
  unfold hasW notW notB
  have hc := c.toNat_lt
  have h1 := hW (c.toNat / 64) (by omega)
  have := Nat.testBit_two_pow_sub_succ (n := 64) h1 (c.toNat % 64)
  rw [show 18446744073709551615 - W (c.toNat / 64) = 2 ^ 64 - (W (c.toNat / 64) + 1) by omega, this]
  have h2 : c.toNat % 64 < 64 := by omega
  simp [h2]

theorem heap_new (w : World) (o : Obj) : (w.alloc o).heap[w.heap.size]? = some o := by
  show (w.heap.push o)[w.heap.size]? = some o
  exact Array.getElem?_push_size
theorem set_made (w : World) (W : Nat → Nat) : SetBlk (w.alloc (.cells #[.int .u64 (W 0 : Int), .int .u64 (W 1 : Int), .int .u64 (W 2 : Int), .int .u64 (W 3 : Int)] 210)) w.heap.size W := heap_new _ _
theorem SetBlk.below {w w' : World} {sb : Nat} {W : Nat → Nat} (h : SetBlk w sb W) (hb : Below w.heap.size w w') : SetBlk w' sb W := (hb.block sb h.lt).trans h
theorem SetBlk.as {w : World} {sb : Nat} {W W' : Nat → Nat} (h : SetBlk w sb W) (e : ∀ i, i < 4 → W i = W' i) : SetBlk w sb W' := by
  unfold SetBlk at h ⊢
  rw [h, e 0 (by omega), e 1 (by omega), e 2 (by omega), e 3 (by omega)]
theorem xor_not (x : Nat) (hx : x < 18446744073709551616) : bits BinOp.xor IntKind.u64 (if IntKind.u64.signed = true then -1 else IntKind.u64.max) (x : Int) = ((18446744073709551615 - x : Nat) : Int) := by
  have e : (if IntKind.u64.signed = true then -1 else IntKind.u64.max) = ((18446744073709551615 : Nat) : Int) := by decide
  rw [e, u64_xor_nat _ _ (by omega) hx]
  congr 1
  apply Nat.eq_of_testBit_eq
  intro i
  rw [Nat.testBit_xor, show 18446744073709551615 = 2 ^ 64 - 1 by omega, Nat.testBit_two_pow_sub_one, show 2 ^ 64 - 1 - x = 2 ^ 64 - (x + 1) by omega, Nat.testBit_two_pow_sub_succ (n := 64) hx]
  by_cases hi : i < 64
  · simp [hi]
  · have : x.testBit i = false := Nat.testBit_lt_two_pow (Nat.lt_of_lt_of_le hx (show 2 ^ 64 ≤ 2 ^ i from Nat.pow_le_pow_right (by omega) (by omega)))
    simp [hi, this]

set_option maxHeartbeats 1000000 in
theorem others_any (W : Nat → Nat) (w : World) (hW : ∀ i, i < 4 → W i < 18446744073709551616) :
    Calls Tryz.prog 191 #[.agg #[.int .u64 (W 0 : Int), .int .u64 (W 1 : Int), .int .u64 (W 2 : Int), .int .u64 (W 3 : Int)]] w fun e w' => e = .returned (.agg #[.int .u64 (notW W 0 : Int), .int .u64 (notW W 1 : Int), .int .u64 (notW W 2 : Int), .int .u64 (notW W 3 : Int)]) ∧ Below w.heap.size w w' := by
  go_enter Tryz.func191, Tryz.ntmps191
  go_wp2
  go_loopw [4] (fun i w1 => ∃ k : Nat, k ≤ 4 ∧ i = .int .i64 k ∧ SetBlk w1 w.heap.size (fun j => if j < k then notW W j else W j) ∧ SetBlk w1 (w.heap.size + 1) (fun _ => 0) ∧ Below w.heap.size w w1) (fun i _ => 4 - (intOf i).toNat)
  case atStart =>
    refine ⟨0, by omega, rfl, SetBlk.as ((set_made w W).below ((Below.refl _ _).alloc (Nat.le_refl _) _)) (fun i _ => by rw [if_neg (by omega)]), ?_, ((Below.refl _ _).alloc (Nat.le_refl _) _).alloc (by simp) _⟩
    have := heap_new (w.alloc (.cells #[.int .u64 (W 0 : Int), .int .u64 (W 1 : Int), .int .u64 (W 2 : Int), .int .u64 (W 3 : Int)] 210)) (.cells #[.int .u64 0, .int .u64 0, .int .u64 0, .int .u64 0] 210)
    rw [World.size_alloc] at this
    exact this
  case round =>
    obtain ⟨k, hk, rfl, hs, hr, hb⟩ := hrel
    by_cases hlt : k < 4
    · have hl : (k : Int) < 4 := by omega
      have c1 := hs.cell k hlt
      rw [if_neg (by omega)] at c1
      have f1 := hs.frozen k
      have HX := Lib.hid (xor_not (W k) (hW k hlt))
      go_wp2
      rw [HX.out]
      refine ⟨⟨k + 1, by omega, by go_num, (hs.set k _ hlt).as fun i hi => ?_, hr.kept (xgrown_setCell wr _ _ _) (by simp), hb.setCell (Nat.le_refl _) _⟩, by simp [intOf]; omega⟩
      unfold updW notW
      split
      · rename_i h; subst h; rw [if_pos (by omega)]
      · split
        · exact if_pos (by omega)
        · exact if_neg (by omega)
    · obtain rfl : k = 4 := by omega
      have c0 := hs.cell 0 (by omega)
      have c1 := hs.cell 1 (by omega)
      have c2 := hs.cell 2 (by omega)
      have c3 := hs.cell 3 (by omega)
      rw [if_pos (by omega)] at c0 c1 c2 c3
      have f0 := hr.frozen 0
      have f1 := hr.frozen 1
      have f2 := hr.frozen 2
      have f3 := hr.frozen 3
      have d0 := hr.cell 0 (by omega)
      have d1 := hr.cell 1 (by omega)
      have d2 := hr.cell 2 (by omega)
      have d3 := hr.cell 3 (by omega)
      go_wp2
      refine bodyPost_ret (v := .agg #[.int .u64 (notW W 0 : Int), .int .u64 (notW W 1 : Int), .int .u64 (notW W 2 : Int), .int .u64 (notW W 3 : Int)]) (by simp [results, Tryz.results191, go_sem, d0, d1, d2, d3]) rfl ⟨rfl, ?_⟩
      exact (((hb.setCell (by simp) _).setCell (by simp) _).setCell (by simp) _).setCell (by simp) _

end Go.Proofs.YtmanjegdgjeeiaaGreatDoor
namespace Go.Proofs.YtmanjegdgjeeiaaGreatDoor
open Go.RowKit

/-- Some blocks may have turned, and new ones may be there: nothing else. -/
structure Chg (S : Nat → Prop) (w w' : World) : Prop where
  os : w'.os = w.os
  tape : w'.tape = w.tape
  output : w'.output = w.output
  size : w.heap.size ≤ w'.heap.size
  block : ∀ k, k < w.heap.size → ¬ S k → w'.heap[k]? = w.heap[k]?

theorem Chg.refl (S : Nat → Prop) (w : World) : Chg S w w := ⟨rfl, rfl, rfl, Nat.le_refl _, fun _ _ _ => rfl⟩
theorem Chg.trans {S : Nat → Prop} {a b c : World} (h : Chg S a b) (k : Chg S b c) : Chg S a c :=
  ⟨k.os.trans h.os, k.tape.trans h.tape, k.output.trans h.output, Nat.le_trans h.size k.size, fun i hi hs => (k.block i (Nat.lt_of_lt_of_le hi h.size) hs).trans (h.block i hi hs)⟩
theorem Chg.mono {S S' : Nat → Prop} {a b : World} (h : Chg S a b) (hs : ∀ k, k < a.heap.size → S k → S' k) : Chg S' a b := ⟨h.os, h.tape, h.output, h.size, fun i hi hn => h.block i hi fun h1 => hn (hs i hi h1)⟩
theorem Chg.of_grown {w w' : World} {r : Nat} (h : w.grownBy w' (some r)) : Chg (· = r) w w' := ⟨h.os, h.tape, h.output, h.size, fun i hi hn => h.block i hi (by simpa using hn)⟩
theorem Chg.of_below {S : Nat → Prop} {w w' : World} (h : Below w.heap.size w w') : Chg S w w' := ⟨h.os, h.tape, h.output, h.size, fun i hi _ => h.block i hi⟩
theorem Chg.grown {w w' : World} {r : Nat} (h : Chg (· = r) w w') : w.grownBy w' (some r) := ⟨h.os, h.tape, h.output, h.size, fun i hi hn => h.block i hi (by simpa using hn)⟩
theorem Chg.below {S : Nat → Prop} {w w' : World} {B : Nat} (h : Chg S w w') (hs : ∀ k, k < w.heap.size → S k → B ≤ k) (hB : B ≤ w.heap.size) : Below B w w' := ⟨h.os, h.tape, h.output, h.size, fun i hi => h.block i (Nat.lt_of_lt_of_le hi hB) fun h1 => by have := hs i (Nat.lt_of_lt_of_le hi hB) h1; omega⟩

theorem Chg.drew {S : Nat → Prop} {w w' : World} (h : Chg S w w') : Chg S w w'.drew := ⟨h.os, h.tape, h.output, h.size, h.block⟩
theorem Chg.drewN {S : Nat → Prop} {w w' : World} (h : Chg S w w') (n : Nat) : Chg S w (w'.drewN n) := ⟨h.os, h.tape, h.output, h.size, h.block⟩
theorem Chg.from {S : Nat → Prop} {w w' : World} {n : Nat} (h : Chg S (w.drewN n) w') : Chg S w w' := ⟨h.os, h.tape, h.output, h.size, h.block⟩
theorem Chg.fromD {S : Nat → Prop} {w w' : World} (h : Chg S w.drew w') : Chg S w w' := ⟨h.os, h.tape, h.output, h.size, h.block⟩
theorem XdBlk.chg {S : Nat → Prop} {w w' : World} {rb xb : Nat} {s : ByteArray} {k : Nat} (h : XdBlk w rb xb s k) (hc : Chg S w w') (hn : ¬ S rb) : XdBlk w' rb xb s k := (hc.block rb h.lt hn).trans h
theorem SetBlk.chg {S : Nat → Prop} {w w' : World} {sb : Nat} {W : Nat → Nat} (h : SetBlk w sb W) (hc : Chg S w w') (hn : ¬ S sb) : SetBlk w' sb W := (hc.block sb h.lt hn).trans h

theorem u8_gt {a b : UInt8} (h : b < a) : ((b.toNat : Nat) : Int) < ((a.toNat : Nat) : Int) := by rw [UInt8.lt_iff_toNat_lt] at h; omega
theorem u8_le {a b : UInt8} (h : ¬ b < a) : ¬ ((b.toNat : Nat) : Int) < ((a.toNat : Nat) : Int) := by rw [UInt8.lt_iff_toNat_lt] at h; omega

theorem range_form {l : List UInt8} (h : rangeB l = true) : ∃ c r, l = c :: r := by
  match l with
  | [] => cases h
  | c :: r => exact ⟨c, r, rfl⟩

set_option maxHeartbeats 1000000 in
theorem item_no (rb xb : Nat) (s : ByteArray) (k : Nat) (l : List UInt8) (sb : Nat) (T : BSet) (w : World) (h : XdBlk w rb xb s k) (hl : Left s k l) (hp : pItem T l = none) :
    Calls Tryz.prog 194 #[.pointer (some ⟨rb, 0, none⟩), .pointer (some ⟨sb, 0, none⟩)] w fun e w' => e = gaveUp ∧ w.grownBy w' (some rb) := by
  unfold pItem at hp
  split at hp
  · rename_i h1
    have HB := Lib.hid (setByte_no rb xb s k l w h hl h1)
    clear h hl h1 hp
    go_enter Tryz.func194, Tryz.ntmps194
    go_wp2_with (go_at_call 196; refine HB.out.mono ?_; rintro e w1 ⟨rfl, hg⟩)
    exact ⟨rfl, rfl, hg⟩
  · rename_i a l1 h1
    have HB := Lib.hid (setByte_ok rb xb s k l a l1 w h hl h1)
    clear h hl h1
    split at hp
    · rename_i hr
      have HR := Lib.hid hr
      obtain ⟨d, r, rfl⟩ := range_form hr
      clear hr
      have HP := Lib.hid hp
      clear hp
      simp only [List.drop_succ_cons, List.drop_zero] at HP
      go_enter Tryz.func194, Tryz.ntmps194
      go_wp2_with (go_at_call 196; refine HB.out.mono ?_; rintro e w1 ⟨rfl, k1, hr1, hl1, hg1⟩; refine Hid.out ?_)
      refine Lib.hid ?_
      have HS := seesRange_any rb xb s k1 _ w1 hr1 hl1
      rw [HR.out] at HS
      go_wp2_with (go_at_call 197; refine HS.mono ?_; rintro e w2 ⟨rfl, n, rfl⟩; refine Hid.out ?_)
      refine Lib.hid ?_
      clear HS
      have c2 : (w1.drewN n).cell? ⟨rb, 2, none⟩ = _ := hr1.cell2
      have f2 : (w1.drewN n).frozen? ⟨rb, 2, none⟩ = _ := hr1.frozen 2
      have hk1 := hl1.eq
      have hle := hl1.le
      have hkb : (k1 : Int) ≤ 64 := by omega
      have hr2 : XdBlk ((w1.drewN n).setCell ⟨rb, 2, none⟩ (.int .i64 ((k1 : Int) + 1))) rb xb s (k1 + 1) := hr1.set2 (k1 + 1)
      have hg2 : w.grownBy ((w1.drewN n).setCell ⟨rb, 2, none⟩ (.int .i64 ((k1 : Int) + 1))) (some rb) := grown_like (xgrown_trans hg1 (xgrown_setCell w1 rb 2 _)) rfl rfl rfl rfl
      have hl2 := hl1.next
      clear hk1
      go_wp2_with (go_at_call 196; refine Hid.out ?_)
      refine Lib.hid ?_
      generalize (w1.drewN n).setCell ⟨rb, 2, none⟩ (.int .i64 ((k1 : Int) + 1)) = w2 at hr2 hg2 ⊢
      clear c2 f2 hr1 hg1
      have hp := HP.out
      split at hp
      · rename_i h2
        refine (setByte_no rb xb s (k1 + 1) r w2 hr2 hl2 h2).mono ?_
        rintro e w3 ⟨rfl, hg3⟩
        clear hp h2 HP HR
        go_wp2
        exact ⟨rfl, rfl, xgrown_trans hg2 hg3⟩
      · rename_i b l2 h2
        refine (setByte_ok rb xb s (k1 + 1) r b l2 w2 hr2 hl2 h2).mono ?_
        rintro e w3 ⟨rfl, k3, hr3, hl3, hg3⟩
        split at hp
        · rename_i hlt
          have hgt := u8_gt hlt
          clear hp h2 HP HR hlt
          go_wp2_with (go_at_call 155; refine (giveUp_any _).mono ?_; rintro e w4 ⟨rfl, rfl⟩)
          exact ⟨rfl, rfl, xgrown_trans hg2 hg3⟩
        · cases hp
    · cases hp

set_option maxHeartbeats 1000000 in
theorem item_ok (rb xb : Nat) (s : ByteArray) (k : Nat) (l : List UInt8) (sb : Nat) (W : Nat → Nat) (T : BSet) (l' : List UInt8) (w : World) (h : XdBlk w rb xb s k) (hl : Left s k l) (hs : SetBlk w sb W) (hW : ∀ i, i < 4 → W i < 18446744073709551616) (hne : rb ≠ sb) (hp : pItem (hasW W) l = some (T, l')) :
    Calls Tryz.prog 194 #[.pointer (some ⟨rb, 0, none⟩), .pointer (some ⟨sb, 0, none⟩)] w fun e w' => e = .returned (.tuple #[]) ∧ ∃ k' W', XdBlk w' rb xb s k' ∧ Left s k' l' ∧ SetBlk w' sb W' ∧ (∀ i, i < 4 → W' i < 18446744073709551616) ∧ hasW W' = T ∧ Chg (fun b => b = rb ∨ b = sb) w w' := by
  unfold pItem at hp
  split at hp
  · cases hp
  · rename_i a l1 h1
    have HB := Lib.hid (setByte_ok rb xb s k l a l1 w h hl h1)
    clear h hl h1
    have hrs : ∀ {u : World}, w.grownBy u (some rb) → SetBlk u sb W := fun hg => hs.kept hg (by simpa using Ne.symm hne)
    split at hp
    · rename_i hr
      have HR := Lib.hid hr
      obtain ⟨d, r, rfl⟩ := range_form hr
      clear hr
      have HP := Lib.hid hp
      clear hp
      simp only [List.drop_succ_cons, List.drop_zero] at HP
      go_enter Tryz.func194, Tryz.ntmps194
      go_wp2_with (go_at_call 196; refine HB.out.mono ?_; rintro e w1 ⟨rfl, k1, hr1, hl1, hg1⟩; refine Hid.out ?_)
      refine Lib.hid ?_
      have HS := seesRange_any rb xb s k1 _ w1 hr1 hl1
      rw [HR.out] at HS
      go_wp2_with (go_at_call 197; refine HS.mono ?_; rintro e w2 ⟨rfl, n, rfl⟩; refine Hid.out ?_)
      refine Lib.hid ?_
      clear HS
      have c2 : (w1.drewN n).cell? ⟨rb, 2, none⟩ = _ := hr1.cell2
      have f2 : (w1.drewN n).frozen? ⟨rb, 2, none⟩ = _ := hr1.frozen 2
      have hk1 := hl1.eq
      have hle := hl1.le
      have hkb : (k1 : Int) ≤ 64 := by omega
      have hr2 : XdBlk ((w1.drewN n).setCell ⟨rb, 2, none⟩ (.int .i64 ((k1 : Int) + 1))) rb xb s (k1 + 1) := hr1.set2 (k1 + 1)
      have hg2 : w.grownBy ((w1.drewN n).setCell ⟨rb, 2, none⟩ (.int .i64 ((k1 : Int) + 1))) (some rb) := grown_like (xgrown_trans hg1 (xgrown_setCell w1 rb 2 _)) rfl rfl rfl rfl
      have hl2 := hl1.next
      clear hk1
      go_wp2_with (go_at_call 196; refine Hid.out ?_)
      refine Lib.hid ?_
      generalize (w1.drewN n).setCell ⟨rb, 2, none⟩ (.int .i64 ((k1 : Int) + 1)) = w2 at hr2 hg2 ⊢
      clear c2 f2 hr1 hg1
      have hp := HP.out
      split at hp
      · cases hp
      · rename_i b l2 h2
        refine (setByte_ok rb xb s (k1 + 1) r b l2 w2 hr2 hl2 h2).mono ?_
        rintro e w3 ⟨rfl, k3, hr3, hl3, hg3⟩
        split at hp
        · cases hp
        · rename_i hlt
          have hgt := u8_le hlt
          injection hp with hp
          injection hp with e1 e2
          subst e1 e2
          clear h2 HP HR hlt
          have hg4 := xgrown_trans hg2 hg3
          have hs3 := hrs hg4
          go_wp2_with (go_at_call 193; refine (add_any sb W a b _ hs3 hW).mono ?_; rintro e w4 ⟨rfl, W', hs4, hw4, hh, hg5⟩)
          go_end0
          exact ⟨rfl, k3, W', hr3.chg (Chg.of_grown hg5) hne, hl3, hs4, hw4, funext hh, ((Chg.of_grown hg4).mono fun _ _ => .inl).trans ((Chg.of_grown hg5).mono fun _ _ => .inr)⟩
    · rename_i hr
      injection hp with hp
      injection hp with e1 e2
      subst e1 e2
      have HR := Lib.hid (Bool.eq_false_iff.2 hr)
      clear hr
      go_enter Tryz.func194, Tryz.ntmps194
      go_wp2_with (go_at_call 196; refine HB.out.mono ?_; rintro e w1 ⟨rfl, k1, hr1, hl1, hg1⟩; refine Hid.out ?_)
      refine Lib.hid ?_
      have HS := seesRange_any rb xb s k1 _ w1 hr1 hl1
      rw [HR.out] at HS
      have hs3 := hrs hg1
      go_wp2_with (go_at_call 197; refine HS.mono ?_; rintro e w2 ⟨rfl, n, rfl⟩; refine Hid.out ?_)
      refine Lib.hid ?_
      go_wp2_with (go_at_call 193; refine (add_any sb W a a (w1.drewN n) hs3 hW).mono ?_; rintro e w4 ⟨rfl, W', hs4, hw4, hh, hg5⟩)
      go_end0
      have hg6 : w1.grownBy w4 (some sb) := ⟨hg5.os, hg5.tape, hg5.output, hg5.size, hg5.block⟩
      exact ⟨rfl, k1, W', hr1.chg (Chg.of_grown hg6) hne, hl1, hs4, hw4, funext hh, ((Chg.of_grown hg1).mono fun _ _ => .inl).trans ((Chg.of_grown hg6).mono fun _ _ => .inr)⟩

/-- The items of a set, up to its end: as many rounds as it takes. -/
theorem pItems_step {n : Nat} {T : BSet} {l : List UInt8} : pItems (n + 1) T l = match pItem T l with | none => none | some (T', l') => if l'.head? = some 93 then some (T', l'.drop 1) else pItems n T' l' := rfl

theorem sees_head {l : List UInt8} {b : UInt8} : seesB l b = true ↔ l.head? = some b := by
  cases l with
  | nil => simp [seesB]
  | cons c l => simp [seesB]

theorem grown_from {w a : World} {n : Nat} {r : Option Nat} (h : (w.drewN n).grownBy a r) : w.grownBy a r := ⟨h.os, h.tape, h.output, h.size, h.block⟩
/-- What lies above the heap's end is no one's. -/
theorem gw4 {w a b : World} {rb sb : Nat} (h : w.grownBy a (some rb)) (hc : Chg (fun k => k = rb ∨ k = sb) a b) (hs : w.heap.size ≤ sb) : w.grownBy b (some rb) :=
  ⟨hc.os.trans h.os, hc.tape.trans h.tape, hc.output.trans h.output, Nat.le_trans h.size hc.size, fun k hk hr => (hc.block k (Nat.lt_of_lt_of_le hk h.size) (by
    rintro (e | e)
    · exact hr (by rw [e])
    · omega)).trans (h.block k hk hr)⟩
theorem hasW_zero : hasW (fun _ => 0) = noneB := by
  funext c
  simp [hasW, noneB]

theorem two_sets {w : World} {rb xb : Nat} {s : ByteArray} {k : Nat} (h : XdBlk w rb xb s k) :
    Below w.heap.size w ((w.alloc (.cells #[.int .u64 0, .int .u64 0, .int .u64 0, .int .u64 0] 210)).alloc (.cells #[.int .u64 0, .int .u64 0, .int .u64 0, .int .u64 0] 210)) ∧
    XdBlk ((w.alloc (.cells #[.int .u64 0, .int .u64 0, .int .u64 0, .int .u64 0] 210)).alloc (.cells #[.int .u64 0, .int .u64 0, .int .u64 0, .int .u64 0] 210)) rb xb s k ∧
    SetBlk ((w.alloc (.cells #[.int .u64 0, .int .u64 0, .int .u64 0, .int .u64 0] 210)).alloc (.cells #[.int .u64 0, .int .u64 0, .int .u64 0, .int .u64 0] 210)) (w.heap.size + 1) (fun _ => 0) ∧
    SetBlk ((w.alloc (.cells #[.int .u64 0, .int .u64 0, .int .u64 0, .int .u64 0] 210)).alloc (.cells #[.int .u64 0, .int .u64 0, .int .u64 0, .int .u64 0] 210)) w.heap.size (fun _ => 0) := by
  have hb : Below w.heap.size w ((w.alloc (.cells #[.int .u64 0, .int .u64 0, .int .u64 0, .int .u64 0] 210)).alloc (.cells #[.int .u64 0, .int .u64 0, .int .u64 0, .int .u64 0] 210)) := ((Below.refl _ _).alloc (Nat.le_refl _) _).alloc (by simp) _
  refine ⟨hb, h.below hb, ?_, (set_made w (fun _ => 0)).below ((Below.refl _ _).alloc (Nat.le_refl _) _)⟩
  have := set_made (w.alloc (.cells #[.int .u64 0, .int .u64 0, .int .u64 0, .int .u64 0] 210)) (fun _ => 0)
  rw [World.size_alloc] at this
  exact this
theorem sets4 {w a : World} {rb sb : Nat} {v0 v1 v2 v3 : Value} (h : w.grownBy a (some rb)) (hs : w.heap.size ≤ sb) :
    w.grownBy ((((a.setCell ⟨sb, 0, none⟩ v0).setCell ⟨sb, 1, none⟩ v1).setCell ⟨sb, 2, none⟩ v2).setCell ⟨sb, 3, none⟩ v3) (some rb) := by
  have hb : Below w.heap.size a ((((a.setCell ⟨sb, 0, none⟩ v0).setCell ⟨sb, 1, none⟩ v1).setCell ⟨sb, 2, none⟩ v2).setCell ⟨sb, 3, none⟩ v3) := ((((Below.refl _ a).setCell hs _).setCell hs _).setCell hs _).setCell hs _
  exact ⟨hb.os.trans h.os, hb.tape.trans h.tape, hb.output.trans h.output, Nat.le_trans h.size hb.size, fun k hk hr => (hb.block k hk).trans (h.block k hk hr)⟩
theorem rd4 {a : World} {rb xb sb : Nat} {s : ByteArray} {k : Nat} {v0 v1 v2 v3 : Value} (h : XdBlk a rb xb s k) (hn : rb < sb) :
    XdBlk ((((a.setCell ⟨sb, 0, none⟩ v0).setCell ⟨sb, 1, none⟩ v1).setCell ⟨sb, 2, none⟩ v2).setCell ⟨sb, 3, none⟩ v3) rb xb s k := by
  have hb : Below sb a ((((a.setCell ⟨sb, 0, none⟩ v0).setCell ⟨sb, 1, none⟩ v1).setCell ⟨sb, 2, none⟩ v2).setCell ⟨sb, 3, none⟩ v3) := ((((Below.refl sb a).setCell (p := ⟨sb, 0, none⟩) (Nat.le_refl sb) _).setCell (p := ⟨sb, 1, none⟩) (Nat.le_refl sb) _).setCell (p := ⟨sb, 2, none⟩) (Nat.le_refl sb) _).setCell (p := ⟨sb, 3, none⟩) (Nat.le_refl sb) _
  exact (hb.block rb hn).trans h

set_option maxHeartbeats 4000000 in
theorem set_any (rb xb : Nat) (s : ByteArray) (k : Nat) (l : List UInt8) (w : World) (h : XdBlk w rb xb s k) (hl : Left s k l) :
    Calls Tryz.prog 190 #[.pointer (some ⟨rb, 0, none⟩)] w fun e w' => w.grownBy w' (some rb) ∧ ((pSet l = none ∧ e = gaveUp) ∨ ∃ T l' W k', pSet l = some (T, l') ∧ e = .returned (.agg #[.int .u64 (W 0 : Int), .int .u64 (W 1 : Int), .int .u64 (W 2 : Int), .int .u64 (W 3 : Int)]) ∧ hasW W = T ∧ (∀ i, i < 4 → W i < 18446744073709551616) ∧ XdBlk w' rb xb s k' ∧ Left s k' l') := by
  have hlt := h.lt
  have hW0 := hasW_zero
  go_enter Tryz.func190, Tryz.ntmps190
  go_wp2_with (go_at_call 170; refine Hid.out ?_)
  refine Lib.hid ?_
  obtain ⟨hb2, hr2, hs2, ht2⟩ := two_sets h
  generalize (w.alloc (.cells #[.int .u64 0, .int .u64 0, .int .u64 0, .int .u64 0] 210)).alloc (.cells #[.int .u64 0, .int .u64 0, .int .u64 0, .int .u64 0] 210) = w2 at hb2 hr2 hs2 ht2 ⊢
  by_cases hh : l.head? = some 94
  · obtain ⟨l0, hl0⟩ : ∃ r, l = 94 :: r := by
      cases l with
      | nil => cases hh
      | cons c r => exact ⟨r, by simpa using hh⟩
    rw [hl0] at hl
    refine (skip_ok rb xb s k l0 94 w2 hr2 hl).mono ?_
    rintro e w3 ⟨rfl, hr3, hg3⟩
    have hl3 := hl.next
    have hs3 := hs2.kept hg3 (by simp; omega)
    have ht3 := ht2.kept hg3 (by simp; omega)
    have hgw := xgrown_trans (xgrown_of_below hb2) hg3
    have HP : Hid (pSet l = match pItems (l0.length + 1) noneB l0 with | none => none | some (T, l') => some (notB T, l')) := Lib.hid (by rw [hl0]; rfl)
    clear hl0
    clear hr2 hl hs2 ht2 hb2 hg3 hh h
    generalize hk3 : k + 1 = k3 at hr3 hl3
    clear hk3

    have hpi : Hid (pSet l = match pItems (l0.length + 1) noneB l0 with | none => none | some (T, l') => some (notB T, l')) := Lib.hid (by rw [HP.out])
    cases hi1 : pItem noneB l0 with
    | none =>
      have HI := Lib.hid (item_no rb xb s k3 l0 (w.heap.size + 1) noneB w3 hr3 hl3 hi1)
      have HE : Hid (pSet l = none) := Lib.hid (by rw [hpi.out, pItems_step, hi1])
      clear hi1 hpi HP
      go_wp2_with (go_at_call 194; refine HI.out.mono ?_; rintro e w4 ⟨rfl, hg4⟩)
      exact ⟨rfl, xgrown_trans hgw hg4, .inl ⟨HE.out, rfl⟩⟩
    | some q =>
      obtain ⟨T1, l1⟩ := q
      rw [← hW0] at hi1
      have HI := Lib.hid (item_ok rb xb s k3 l0 (w.heap.size + 1) (fun _ => 0) T1 l1 w3 hr3 hl3 hs3 (fun _ _ => by omega) (by omega) hi1)
      have hlen := pItem_len hi1
      rw [hW0] at hi1
      have HE : Hid (pItems (l0.length + 1) noneB l0 = if l1.head? = some 93 then some (T1, l1.drop 1) else pItems l0.length T1 l1) := Lib.hid (by rw [pItems_step, hi1])
      clear hi1 HP
      go_wp2_with (go_at_call 194; refine HI.out.mono ?_; rintro e w4 ⟨rfl, k4, W4, hr4, hl4, hs4, hw4, hh4, hc4⟩; refine Hid.out ?_)
      refine Lib.hid ?_
      have ht4 : SetBlk w4 w.heap.size (fun _ => 0) := ht3.chg hc4 (by omega)
      have hgw4 : w.grownBy w4 (some rb) := gw4 hgw hc4 (by omega)
      clear hr3 hl3 hs3 ht3 hgw hc4 HI
      go_wp2_with fail
      go_loopg [9] l1.length (fun g _ wr => ∃ T' l' W' k' n, g = l'.length ∧ l'.length < n ∧ Hid (pItems (l0.length + 1) noneB l0 = if l'.head? = some 93 then some (T', l'.drop 1) else pItems n T' l') ∧ XdBlk wr rb xb s k' ∧ Left s k' l' ∧ SetBlk wr (w.heap.size + 1) W' ∧ SetBlk wr w.heap.size (fun _ => 0) ∧ (∀ i, i < 4 → W' i < 18446744073709551616) ∧ Hid (hasW W' = T') ∧ w.grownBy wr (some rb))
      case atStart => exact ⟨T1, l1, W4, k4, l0.length, rfl, hlen, HE, hr4, hl4, hs4, ht4, hw4, Lib.hid hh4, hgw4⟩
      case round =>
        clear hr4 hl4 hs4 ht4 hw4 hh4 hgw4 HE hlen
        obtain ⟨T', l', W', k', n, rfl, hln, HE, hr5, hl5, hs5, ht5, hw5, hh5, hg5⟩ := hrel
        by_cases hhd : l'.head? = some 93
        · obtain ⟨r, rfl⟩ : ∃ r, l' = 93 :: r := by
            cases l' with
            | nil => cases hhd
            | cons c r => exact ⟨r, by simpa using hhd⟩
          have HS := Lib.hid (skip_ok rb xb s k' r 93 wr hr5 hl5)
          have HF : Hid (pSet l = some (notB T', r)) := Lib.hid (by rw [hpi.out, HE.out, if_pos hhd]; rfl)
          have hl6 := hl5.next
          clear hhd hpi HE hl5
          have hlt5 := hs5.lt
          go_wp2_with (go_at_call 170; refine HS.out.mono ?_; rintro e w6 ⟨rfl, hr6, hg6⟩; refine Hid.out ?_)
          refine Lib.hid ?_
          have hs6 := hs5.kept hg6 (by simp; omega)
          have ht6 := ht5.kept hg6 (by simp; omega)
          have hg7 := xgrown_trans hg5 hg6
          have c0 := hs6.cell 0 (by omega)
          have c1 := hs6.cell 1 (by omega)
          have c2 := hs6.cell 2 (by omega)
          have c3 := hs6.cell 3 (by omega)
          go_wp2_with (go_at_call 191; refine (others_any W' _ hw5).mono ?_; rintro e w8 ⟨rfl, hb8⟩; refine Hid.out ?_)
          refine Lib.hid ?_
          have ht8 := ht6.below hb8
          have hr8 := hr6.below hb8
          have hg8 := xgrown_trans hg7 (xgrown_of_below hb8)
          clear c0 c1 c2 c3
          have f0 := ht8.frozen 0
          have f1 := ht8.frozen 1
          have f2 := ht8.frozen 2
          have f3 := ht8.frozen 3
          have d0 := ht8.cell 0 (by omega)
          have d1 := ht8.cell 1 (by omega)
          have d2 := ht8.cell 2 (by omega)
          have d3 := ht8.cell 3 (by omega)
          go_wp2
          refine bodyPost_ret (v := .agg #[.int .u64 (notW W' 0 : Int), .int .u64 (notW W' 1 : Int), .int .u64 (notW W' 2 : Int), .int .u64 (notW W' 3 : Int)]) (by simp [results, Tryz.results190, go_sem, d0, d1, d2, d3]) rfl ⟨sets4 hg8 (Nat.le_refl _), .inr ⟨_, r, notW W', k' + 1, HF.out, rfl, ?_, ?_, ?_, hl6⟩⟩
          · funext c
            rw [hasW_not W' hw5, hh5.out]
          · intro i hi
            unfold notW
            omega
          · exact rd4 hr8 (by omega)
        · have hsn : seesB l' 93 = false := Bool.eq_false_iff.2 fun e => hhd (sees_head.1 e)
          have HS := Lib.hid (skip_no rb xb s k' l' 93 wr hr5 hl5 hsn)
          have HE2 : Hid (pItems (l0.length + 1) noneB l0 = pItems n T' l') := Lib.hid (by rw [HE.out, if_neg hhd])
          obtain ⟨n, rfl⟩ : ∃ m, n = m + 1 := ⟨n - 1, by omega⟩
          clear hhd hsn HE
          go_wp2_with (go_at_call 170; refine HS.out.mono ?_; rintro e w6 ⟨rfl, nd, rfl⟩; refine Hid.out ?_)
          refine Lib.hid ?_
          cases hi2 : pItem T' l' with
          | none =>
            have HI := Lib.hid (item_no rb xb s k' l' (w.heap.size + 1) T' (wr.drewN nd) hr5 hl5 hi2)
            have HF : Hid (pSet l = none) := Lib.hid (by rw [hpi.out, HE2.out, pItems_step, hi2])
            clear hi2 hpi HE2
            go_wp2_with (go_at_call 194; refine HI.out.mono ?_; rintro e w7 ⟨rfl, hg7⟩)
            exact ⟨rfl, xgrown_trans hg5 (grown_from hg7), .inl ⟨HF.out, rfl⟩⟩
          | some q =>
            obtain ⟨T2, l2⟩ := q
            have hlen2 := pItem_len hi2
            have HE3 : Hid (pItems (l0.length + 1) noneB l0 = if l2.head? = some 93 then some (T2, l2.drop 1) else pItems n T2 l2) := Lib.hid (by rw [HE2.out, pItems_step, hi2])
            rw [← hh5.out] at hi2
            have HI := Lib.hid (item_ok rb xb s k' l' (w.heap.size + 1) W' T2 l2 (wr.drewN nd) hr5 hl5 hs5 hw5 (by omega) hi2)
            clear hi2 HE2
            go_wp2_with (go_at_call 194; refine HI.out.mono ?_; rintro e w7 ⟨rfl, k7, W7, hr7, hl7, hs7, hw7, hh7, hc7⟩)
            go_roundg l2.length
            case measure => exact hlen2
            case rel =>
              have hc8 : Chg (fun b => b = rb ∨ b = w.heap.size + 1) wr w7 := ⟨hc7.os, hc7.tape, hc7.output, hc7.size, hc7.block⟩
              exact ⟨T2, l2, W7, k7, n, rfl, by omega, HE3, hr7, hl7, hs7, ht5.chg hc8 (by omega), hw7, Lib.hid hh7, gw4 hg5 hc8 (by omega)⟩
  · have hsn : seesB l 94 = false := Bool.eq_false_iff.2 fun e => hh (sees_head.1 e)
    refine (skip_no rb xb s k l 94 w2 hr2 hl hsn).mono ?_
    rintro e w3' ⟨rfl, nd, rfl⟩
    obtain ⟨w3, hw3⟩ : ∃ w3, w3 = w2.drewN nd := ⟨_, rfl⟩
    have hr3 : XdBlk w3 rb xb s k := by rw [hw3]; exact hr2
    have hs3 : SetBlk w3 (w.heap.size + 1) (fun _ => 0) := by rw [hw3]; exact hs2
    have ht3 : SetBlk w3 w.heap.size (fun _ => 0) := by rw [hw3]; exact ht2
    have hgw : w.grownBy w3 (some rb) := by rw [hw3]; exact grown_like (xgrown_of_below hb2) rfl rfl rfl rfl
    rw [← hw3]
    have HP : Hid (pSet l = match pItems (l.length + 1) noneB l with | none => none | some (T, l') => some (T, l')) := Lib.hid (by
      unfold pSet
      rw [if_neg hh]
      cases pItems (l.length + 1) noneB l with
      | none => rfl
      | some q => rfl)
    clear hr2 hs2 ht2 hb2 hw3 hh hsn h
    have hl3 := hl
    clear hl
    obtain ⟨l0, hl0⟩ : ∃ l0, l0 = l := ⟨_, rfl⟩
    obtain ⟨k3, rfl⟩ : ∃ k3, k3 = k := ⟨_, rfl⟩
    rw [← hl0] at hl3
    have HP : Hid (pSet l = match pItems (l0.length + 1) noneB l0 with | none => none | some (T, l') => some (T, l')) := by rw [hl0]; exact HP
    clear hl0

    have hpi : Hid (pSet l = match pItems (l0.length + 1) noneB l0 with | none => none | some (T, l') => some (T, l')) := Lib.hid (by rw [HP.out])
    cases hi1 : pItem noneB l0 with
    | none =>
      have HI := Lib.hid (item_no rb xb s k3 l0 (w.heap.size + 1) noneB w3 hr3 hl3 hi1)
      have HE : Hid (pSet l = none) := Lib.hid (by rw [hpi.out, pItems_step, hi1])
      clear hi1 hpi HP
      go_wp2_with (go_at_call 194; refine HI.out.mono ?_; rintro e w4 ⟨rfl, hg4⟩)
      exact ⟨rfl, xgrown_trans hgw hg4, .inl ⟨HE.out, rfl⟩⟩
    | some q =>
      obtain ⟨T1, l1⟩ := q
      rw [← hW0] at hi1
      have HI := Lib.hid (item_ok rb xb s k3 l0 (w.heap.size + 1) (fun _ => 0) T1 l1 w3 hr3 hl3 hs3 (fun _ _ => by omega) (by omega) hi1)
      have hlen := pItem_len hi1
      rw [hW0] at hi1
      have HE : Hid (pItems (l0.length + 1) noneB l0 = if l1.head? = some 93 then some (T1, l1.drop 1) else pItems l0.length T1 l1) := Lib.hid (by rw [pItems_step, hi1])
      clear hi1 HP
      go_wp2_with (go_at_call 194; refine HI.out.mono ?_; rintro e w4 ⟨rfl, k4, W4, hr4, hl4, hs4, hw4, hh4, hc4⟩; refine Hid.out ?_)
      refine Lib.hid ?_
      have ht4 : SetBlk w4 w.heap.size (fun _ => 0) := ht3.chg hc4 (by omega)
      have hgw4 : w.grownBy w4 (some rb) := gw4 hgw hc4 (by omega)
      clear hr3 hl3 hs3 ht3 hgw hc4 HI
      go_wp2_with fail
      go_loopg [9] l1.length (fun g _ wr => ∃ T' l' W' k' n, g = l'.length ∧ l'.length < n ∧ Hid (pItems (l0.length + 1) noneB l0 = if l'.head? = some 93 then some (T', l'.drop 1) else pItems n T' l') ∧ XdBlk wr rb xb s k' ∧ Left s k' l' ∧ SetBlk wr (w.heap.size + 1) W' ∧ SetBlk wr w.heap.size (fun _ => 0) ∧ (∀ i, i < 4 → W' i < 18446744073709551616) ∧ Hid (hasW W' = T') ∧ w.grownBy wr (some rb))
      case atStart => exact ⟨T1, l1, W4, k4, l0.length, rfl, hlen, HE, hr4, hl4, hs4, ht4, hw4, Lib.hid hh4, hgw4⟩
      case round =>
        clear hr4 hl4 hs4 ht4 hw4 hh4 hgw4 HE hlen
        obtain ⟨T', l', W', k', n, rfl, hln, HE, hr5, hl5, hs5, ht5, hw5, hh5, hg5⟩ := hrel
        by_cases hhd : l'.head? = some 93
        · obtain ⟨r, rfl⟩ : ∃ r, l' = 93 :: r := by
            cases l' with
            | nil => cases hhd
            | cons c r => exact ⟨r, by simpa using hhd⟩
          have HS := Lib.hid (skip_ok rb xb s k' r 93 wr hr5 hl5)
          have HF : Hid (pSet l = some (T', r)) := Lib.hid (by rw [hpi.out, HE.out, if_pos hhd]; rfl)
          have hl6 := hl5.next
          clear hhd hpi HE hl5
          have hlt5 := hs5.lt
          go_wp2_with (go_at_call 170; refine HS.out.mono ?_; rintro e w6 ⟨rfl, hr6, hg6⟩; refine Hid.out ?_)
          refine Lib.hid ?_
          have hs6 := hs5.kept hg6 (by simp; omega)
          have ht6 := ht5.kept hg6 (by simp; omega)
          have hg7 := xgrown_trans hg5 hg6
          have c0 := hs6.cell 0 (by omega)
          have c1 := hs6.cell 1 (by omega)
          have c2 := hs6.cell 2 (by omega)
          have c3 := hs6.cell 3 (by omega)
          have f0 := ht6.frozen 0
          have f1 := ht6.frozen 1
          have f2 := ht6.frozen 2
          have f3 := ht6.frozen 3
          have d0 := ht6.cell 0 (by omega)
          have d1 := ht6.cell 1 (by omega)
          have d2 := ht6.cell 2 (by omega)
          have d3 := ht6.cell 3 (by omega)
          go_wp2
          refine bodyPost_ret (v := .agg #[.int .u64 (W' 0 : Int), .int .u64 (W' 1 : Int), .int .u64 (W' 2 : Int), .int .u64 (W' 3 : Int)]) (by simp [results, Tryz.results190, go_sem, d0, d1, d2, d3]) rfl ⟨sets4 hg7 (Nat.le_refl _), .inr ⟨_, r, W', k' + 1, HF.out, rfl, hh5.out, hw5, ?_, hl6⟩⟩
          exact rd4 hr6 (by omega)
        · have hsn : seesB l' 93 = false := Bool.eq_false_iff.2 fun e => hhd (sees_head.1 e)
          have HS := Lib.hid (skip_no rb xb s k' l' 93 wr hr5 hl5 hsn)
          have HE2 : Hid (pItems (l0.length + 1) noneB l0 = pItems n T' l') := Lib.hid (by rw [HE.out, if_neg hhd])
          obtain ⟨n, rfl⟩ : ∃ m, n = m + 1 := ⟨n - 1, by omega⟩
          clear hhd hsn HE
          go_wp2_with (go_at_call 170; refine HS.out.mono ?_; rintro e w6 ⟨rfl, nd, rfl⟩; refine Hid.out ?_)
          refine Lib.hid ?_
          cases hi2 : pItem T' l' with
          | none =>
            have HI := Lib.hid (item_no rb xb s k' l' (w.heap.size + 1) T' (wr.drewN nd) hr5 hl5 hi2)
            have HF : Hid (pSet l = none) := Lib.hid (by rw [hpi.out, HE2.out, pItems_step, hi2])
            clear hi2 hpi HE2
            go_wp2_with (go_at_call 194; refine HI.out.mono ?_; rintro e w7 ⟨rfl, hg7⟩)
            exact ⟨rfl, xgrown_trans hg5 (grown_from hg7), .inl ⟨HF.out, rfl⟩⟩
          | some q =>
            obtain ⟨T2, l2⟩ := q
            have hlen2 := pItem_len hi2
            have HE3 : Hid (pItems (l0.length + 1) noneB l0 = if l2.head? = some 93 then some (T2, l2.drop 1) else pItems n T2 l2) := Lib.hid (by rw [HE2.out, pItems_step, hi2])
            rw [← hh5.out] at hi2
            have HI := Lib.hid (item_ok rb xb s k' l' (w.heap.size + 1) W' T2 l2 (wr.drewN nd) hr5 hl5 hs5 hw5 (by omega) hi2)
            clear hi2 HE2
            go_wp2_with (go_at_call 194; refine HI.out.mono ?_; rintro e w7 ⟨rfl, k7, W7, hr7, hl7, hs7, hw7, hh7, hc7⟩)
            go_roundg l2.length
            case measure => exact hlen2
            case rel =>
              have hc8 : Chg (fun b => b = rb ∨ b = w.heap.size + 1) wr w7 := ⟨hc7.os, hc7.tape, hc7.output, hc7.size, hc7.block⟩
              exact ⟨T2, l2, W7, k7, n, rfl, by omega, HE3, hr7, hl7, hs7, ht5.chg hc8 (by omega), hw7, Lib.hid hh7, gw4 hg5 hc8 (by omega)⟩

theorem set_no (rb xb : Nat) (s : ByteArray) (k : Nat) (l : List UInt8) (w : World) (h : XdBlk w rb xb s k) (hl : Left s k l) (hp : pSet l = none) :
    Calls Tryz.prog 190 #[.pointer (some ⟨rb, 0, none⟩)] w fun e w' => e = gaveUp ∧ w.grownBy w' (some rb) :=
  (set_any rb xb s k l w h hl).mono fun e w' ⟨hg, ho⟩ => by
    rcases ho with ⟨-, he⟩ | ⟨T, l', W, k', h1, -⟩
    · exact ⟨he, hg⟩
    · rw [hp] at h1; cases h1
theorem set_ok (rb xb : Nat) (s : ByteArray) (k : Nat) (l : List UInt8) (T : BSet) (l' : List UInt8) (w : World) (h : XdBlk w rb xb s k) (hl : Left s k l) (hp : pSet l = some (T, l')) :
    Calls Tryz.prog 190 #[.pointer (some ⟨rb, 0, none⟩)] w fun e w' => ∃ W, e = .returned (.agg #[.int .u64 (W 0 : Int), .int .u64 (W 1 : Int), .int .u64 (W 2 : Int), .int .u64 (W 3 : Int)]) ∧ hasW W = T ∧ (∀ i, i < 4 → W i < 18446744073709551616) ∧ w.grownBy w' (some rb) ∧ ∃ k', XdBlk w' rb xb s k' ∧ Left s k' l' :=
  (set_any rb xb s k l w h hl).mono fun e w' ⟨hg, ho⟩ => by
    rcases ho with ⟨h1, -⟩ | ⟨T', l1, W, k', h1, h2, h3, h4, h5, h6⟩
    · rw [hp] at h1; cases h1
    · rw [hp] at h1
      injection h1 with h1
      injection h1 with e1 e2
      subst e1 e2
      exact ⟨W, h2, h3, h4, hg, k', h5, h6⟩

end Go.Proofs.YtmanjegdgjeeiaaGreatDoor
namespace Go.Proofs.YtmanjegdgjeeiaaGreatDoor
open Go.RowKit

theorem cell_heap' {w : World} {b j : Nat} {cs : Array Value} {t : TypeId} {fr : Nat × Nat} (h : w.heap[b]? = some (.cells cs t fr)) : w.cell? ⟨b, j, none⟩ = cs[j]? := by simp [World.cell?, h]

/-- The table of the lowest bit. -/
def TabW (w : World) : Prop := ∀ j, j < 64 → w.cell? ⟨4, j, none⟩ = some (.int .u8 ((Lib.deBruijn64tab.getD j 0 : Nat) : Int))
theorem TabW.lt {w : World} (h : TabW w) : 4 < w.heap.size := World.block_lt_of_cell? w _ (h 0 (by omega))
theorem TabW.on {w w' : World} {B : Nat} (h : TabW w) (hb : Below B w w') (hB : 4 < B) : TabW w' := fun j hj => (hb.cell (p := ⟨4, j, none⟩) hB).trans (h j hj)
theorem TabW.chg {S : Nat → Prop} {w w' : World} (h : TabW w) (hc : Chg S w w') (hn : ¬ S 4) : TabW w' := fun j hj => (World.cell?_of_block (a := ⟨4, j, none⟩) (hc.block 4 h.lt hn)).trans (h j hj)

theorem tz_key (x : Nat) (hx : x < 18446744073709551616) (h0 : x ≠ 0) :
    IntKind.u64.wrap (bits BinOp.and IntKind.u64 (x : Int) (IntKind.u64.wrap (-(x : Int))) * 285870213051353865) / 288230376151711744 = ((2 ^ Lib.ctz 64 x * 285870213051353865 % 18446744073709551616 / 288230376151711744 : Nat) : Int) := by
  have e1 : IntKind.u64.wrap (-(x : Int)) = ((18446744073709551616 - x : Nat) : Int) := by rw [IntKind.wrap_u64]; omega
  have h1 := (Lib.lowest_bit 64 x h0 hx).1
  rw [e1, u64_and_nat x _ hx (by omega), show 18446744073709551616 - x = 2 ^ 64 - x from rfl, h1, IntKind.wrap_u64]
  generalize 2 ^ Lib.ctz 64 x = z
  omega

set_option maxHeartbeats 1000000 in
theorem tz_core (x k idx : Nat) (w : World) (hne : ((x : Int) == 0) = false)
    (key : IntKind.u64.wrap (bits BinOp.and IntKind.u64 (x : Int) (IntKind.u64.wrap (-(x : Int))) * 285870213051353865) / 288230376151711744 = (idx : Int))
    (hi : idx < 64) (hk : k < 64) (c1 : w.cell? ⟨4, idx, none⟩ = some (.int .u8 (k : Int))) :
    Calls Tryz.prog 156 #[.int .u64 x] w fun e w' => e = .returned (.int .i64 (k : Nat)) ∧ w' = w := by
  go_enter Tryz.func156, Tryz.ntmps156
  go_wp2_with (simp only [key])
  go_ret
  exact ⟨rfl, rfl⟩
theorem tz_any (x : Nat) (hx : x < 18446744073709551616) (h0 : x ≠ 0) (w : World) (ht : TabW w) :
    Calls Tryz.prog 156 #[.int .u64 x] w fun e w' => e = .returned (.int .i64 (Lib.ctz 64 x : Nat)) ∧ w' = w := by
  have hk := (ctz_bits x h0 hx).1
  obtain ⟨hi, htab⟩ := Lib.deBruijn64_at _ hk
  have c1 := ht _ hi
  rw [htab] at c1
  exact tz_core x _ _ w (by simp; omega) (tz_key x hx h0) hi hk c1

theorem spec_idx (c : UInt8) : decide (0 ≤ firstIdx ⟨#[40, 41, 91, 93, 124, 42, 43, 63, 46, 92]⟩ c) = isSpec c := by
  have h : ∀ n, n < 256 → decide (0 ≤ firstIdx ⟨#[40, 41, 91, 93, 124, 42, 43, 63, 46, 92]⟩ (UInt8.ofNat n)) = isSpec (UInt8.ofNat n) := by decide +kernel
  have := h c.toNat c.toNat_lt
  rwa [UInt8.ofNat_toNat] at this

set_option maxRecDepth 20000 in
set_option maxHeartbeats 1000000 in
theorem isSpecial_any (c : UInt8) (w : World) : Calls Tryz.prog 192 #[.int .u8 c.toNat] w fun e w' => e = .returned (.bool (isSpec c)) ∧ w' = w := by
  have hs := Lib.hid (spec_idx c)
  go_enter Tryz.func192, Tryz.ntmps192
  go_wp2
  rw [run_callFunc_extern Tryz.func199 (by kernel_rfl) (by kernel_rfl) (by kernel_rfl) (e := Extern.BytealgIndexByte.indexByte) (by kernel_rfl), run_indexByte_string]
  simp only [Result.andThen]
  rw [Oper.upon_value]
  go_wp2
  go_ret
  refine ⟨?_, rfl⟩
  rw [← hs.out]
  simp

end Go.Proofs.YtmanjegdgjeeiaaGreatDoor
namespace Go.Proofs.YtmanjegdgjeeiaaGreatDoor
open Go.ChangeShapes Go.WideShapes Go.ChangeAt Go.RowKit

theorem own : ownKnob Tryz.prog.godebug = none := by kernel_rfl
theorem laidOut : laidOutB Tryz.prog = true := by kernel_rfl
theorem gTab : Tryz.prog.globalNamed "math/bits.deBruijn64tab" = some 4 := by kernel_rfl
theorem gTabT : (Tryz.prog.globals[4]?).map (·.type) = some 226 := by kernel_rfl
theorem cellsTab : Tryz.prog.cellsOf 226 = 64 := by kernel_rfl
theorem cellsU8 : Tryz.prog.cellsOf 5 = 1 := by kernel_rfl

/-- The list that every row of this seat bears. -/
def laidL : List (String × DataW Unit) := [("math/bits.deBruijn64tab", Rows.laid_math_bits_deBruijn64tab)]

theorem tab_of_laid {W : World} (h : laidMetH Tryz.prog laidL W) : TabW W := by
  rw [Go.MakeChecks.laidMetH_plain _ _ _ (by kernel_rfl)] at h
  have htab : Lib.TabIs Tryz.prog W "math/bits.deBruijn64tab" .u8 (Lib.deBruijn64tab.map fun (n : Nat) => (n : Int)) :=
    Lib.tabIs_of_head gTab gTabT Tryz.underlying226 Tryz.underlying5 cellsU8 cellsTab h
  intro j hj
  unfold Lib.TabIs World.var? at htab
  simp only [gTab, Option.bind_some] at htab
  split at htab
  · rename_i cs t fr hb
    injection htab with htab
    subst htab
    rw [cell_heap' hb]
    have hl : j < Lib.deBruijn64tab.length := hj
    simp [List.getD, hl]
  · cases htab

theorem door_met (os : Os) (args : Array Value) : laidMet Tryz.prog laidL ((World.doorLaid Tryz.prog 62 os).forCall (fun _ _ => 0) ⟨#[], args, []⟩).memory :=
  laidMet_of_run' 8 (by kernel_rfl) (by kernel_rfl)

theorem bulk_pos {H : Type} (d : DataW H) : 1 ≤ Rows.uptoBulk d := by
  cases d with
  | lit l => cases l <;> simp [Rows.uptoBulk]
  | _ => simp [Rows.uptoBulk]
theorem bulk_mem {H : Type} {d : DataW H} : ∀ {ds : List (DataW H)}, d ∈ ds → Rows.uptoBulk d ≤ Rows.uptoBulkAll ds
  | x :: ds, h => by
    simp only [Rows.uptoBulkAll]
    rcases List.mem_cons.1 h with rfl | h
    · omega
    · have := bulk_mem h; omega
theorem small_bound {H : Type} {ds : List (DataW H)} (h : Rows.uptoSmall H ds = true) : Rows.uptoBulkAll ds ≤ 1048576 := of_decide_eq_true h
theorem string_bound {H : Type} {ds : List (DataW H)} {bs : List UInt8} (h : Rows.uptoBulkAll ds ≤ 1048576) (hm : DataW.lit (.string bs) ∈ ds) : bs.length ≤ 1048576 := by
  have h1 := bulk_mem hm
  simp only [Rows.uptoBulk] at h1
  omega

end Go.Proofs.YtmanjegdgjeeiaaGreatDoor
namespace Go.Proofs.YtmanjegdgjeeiaaGreatDoor
open Go.ChangeShapes Go.WideShapes Go.ChangeAt Go.RowKit

theorem cellsStr5 : Tryz.prog.cellsOf 9 = 1 := by kernel_rfl
theorem gPow5 : Tryz.prog.globalNamed "internal/strconv.uint64pow10" = some 1 := by kernel_rfl
theorem gPowT5 : (Tryz.prog.globals[1]?).map (·.type) = some 215 := by kernel_rfl
theorem gSyn5 : Tryz.prog.globalNamed "strconv.ErrSyntax" = some 2 := by kernel_rfl
theorem gSynT5 : (Tryz.prog.globals[2]?).map (·.type) = some 155 := by kernel_rfl
theorem gRan5 : Tryz.prog.globalNamed "strconv.ErrRange" = some 3 := by kernel_rfl
theorem gRanT5 : (Tryz.prog.globals[3]?).map (·.type) = some 155 := by kernel_rfl
theorem cellsPow5 : Tryz.prog.cellsOf 215 = 20 := by kernel_rfl
theorem cellsU645 : Tryz.prog.cellsOf 142 = 1 := by kernel_rfl
theorem cellsErr5 : Tryz.prog.cellsOf 231 = 1 := by kernel_rfl
theorem star5 : "*errors.errorString" = "*" ++ "errors.errorString" := by decide
theorem rowErr5 (u : TypeId) (h : Tryz.prog.typeName? 3 u = some "*errors.errorString") : u = 229 :=
  typeName_ptr_named (nm := "errors.errorString") (by rw [← star5]; kernel_rfl) (by kernel_rfl) (by decide) u (by rw [← star5]; exact h)
/-- The list that every row of this seat bears. -/
def laid5 : List (String × DataW Unit) := [("math/bits.deBruijn32tab", Rows.laid_math_bits_deBruijn32tab), ("math/bits.deBruijn64tab", Rows.laid_math_bits_deBruijn64tab), ("internal/strconv.uint64pow10", Rows.laid_internal_strconv_uint64pow10), ("strconv.ErrRange", Rows.laid_strconv_ErrRange), ("strconv.ErrSyntax", Rows.laid_strconv_ErrSyntax)]
theorem lt_of_var5 {W : World} {n : String} {g : Nat} {cs : Array Value} (hg : Tryz.prog.globalNamed n = some g) (h : W.var? Tryz.prog n = some cs) : g < W.heap.size := by
  unfold World.var? at h
  simp only [hg, Option.bind_some] at h
  split at h
  · rename_i hb; exact (Array.getElem?_eq_some_iff.1 hb).1
  · cases h
theorem vars_of_laid5 {W : World} (h : laidMetH Tryz.prog laid5 W) : VarsOk W.heap.size W := by
  rw [Go.MakeChecks.laidMetH_plain _ _ _ (by kernel_rfl)] at h
  have h3 := h.tail.tail
  have htab : Lib.TabIs Tryz.prog W "internal/strconv.uint64pow10" .u64 Lib.pow10Tab :=
    Lib.tabIs_of_head gPow5 gPowT5 Tryz.underlying215 Tryz.underlying142 cellsU645 cellsPow5 h3
  obtain ⟨a0, s0, hv0, -, -, -⟩ := laid_sentinel h3.tail gRan5 gRanT5 Tryz.underlying155 rowErr5 Tryz.underlying229 Tryz.underlying231 rfl rfl Tryz.underlying9 cellsErr5 cellsStr5
  obtain ⟨a1, s1, hv1, -, -, -⟩ := laid_sentinel h3.tail.tail gSyn5 gSynT5 Tryz.underlying155 rowErr5 Tryz.underlying229 Tryz.underlying231 rfl rfl Tryz.underlying9 cellsErr5 cellsStr5
  intro w' hb
  exact ⟨Lib.tabBelow_of_tabIs htab w' hb, ⟨_, _, var?_below hb gSyn5 (lt_of_var5 gSyn5 hv1) hv1⟩, ⟨_, _, var?_below hb gRan5 (lt_of_var5 gRan5 hv0) hv0⟩⟩
theorem tab_of_laid5 {W : World} (h : laidMetH Tryz.prog laid5 W) : TabW W := by
  rw [Go.MakeChecks.laidMetH_plain _ _ _ (by kernel_rfl)] at h
  have htab : Lib.TabIs Tryz.prog W "math/bits.deBruijn64tab" .u8 (Lib.deBruijn64tab.map fun (n : Nat) => (n : Int)) :=
    Lib.tabIs_of_head gTab gTabT Tryz.underlying226 Tryz.underlying5 cellsU8 cellsTab h.tail
  intro j hj
  unfold Lib.TabIs World.var? at htab
  simp only [gTab, Option.bind_some] at htab
  split at htab
  · rename_i cs t fr hb
    injection htab with htab
    subst htab
    rw [cell_heap' hb]
    have hl : j < Lib.deBruijn64tab.length := hj
    simp [List.getD, hl]
  · cases htab
theorem door_met5 (os : Os) (args : Array Value) : laidMet Tryz.prog laid5 ((World.doorLaid Tryz.prog 62 os).forCall (fun _ _ => 0) ⟨#[], args, []⟩).memory :=
  laidMet_of_run' 8 (by kernel_rfl) (by kernel_rfl)

end Go.Proofs.YtmanjegdgjeeiaaGreatDoor
