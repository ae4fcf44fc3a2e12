/-
  Sets of bytes, as four words: what has, add and others do.
-/
import Derived.Test.YtcngifkoopcmeaaGreatDoorK02
import Derived.Laws.BitsAllLaws
namespace Go.Proofs.YtcngifkoopcmeaaGreatDoor
open Go.RowKit

/-- Four words lie at an address. -/
def WordsAt (w : World) (b o : Nat) (W : Nat → Nat) : Prop := ∀ i, i < 4 → w.cell? ⟨b, o + i, none⟩ = some (.int .u64 (W i : Int))

theorem has_bit (x k : Nat) (hx : x < 18446744073709551616) : (bits BinOp.and IntKind.u64 ((x : Int) / 2 ^ k) 1 != 0) = x.testBit k := by
  have e : ((x : Int) / 2 ^ k) = ((x / 2 ^ k : Nat) : Int) := by simp
  have hlt : x / 2 ^ k < 18446744073709551616 := Nat.lt_of_le_of_lt (Nat.div_le_self _ _) hx
  rw [e, show (1 : Int) = ((1 : Nat) : Int) from rfl, u64_and_nat _ _ hlt (by omega), Nat.and_one_is_mod, Nat.testBit_eq_decide_div_mod_eq]
  rw [Bool.eq_iff_iff]
  simp only [bne_iff_ne, ne_eq, decide_eq_true_eq]
  omega

set_option maxHeartbeats 400000 in
theorem has_any (b o : Nat) (W : Nat → Nat) (c : UInt8) (w : World) (h : WordsAt w b o W) (hW : ∀ i, i < 4 → W i < 18446744073709551616) :
    Calls Tryz.prog 199 #[.pointer (some ⟨b, o, none⟩), .int .u8 c.toNat] w fun e w' => e = .returned (.bool (hasW W c)) ∧ w' = w := by
  have hc : (c.toNat : Int) < 256 := by have := c.toNat_lt; omega
  have hd : c.toNat / 64 < 4 := by omega
  have c1 := h (c.toNat / 64) hd
  have hw := hW _ hd
  clear h hW
  go_enter Tryz.func199, Tryz.ntmps199
  go_wp2
  go_ret
  exact ⟨by rw [has_bit _ _ hw]; rfl, rfl⟩

/-- Four words of the call's own, in a block of four cells. -/
def SetBlk (w : World) (sb : Nat) (W : Nat → Nat) : Prop := w.heap[sb]? = some (.cells #[.int .u64 (W 0 : Int), .int .u64 (W 1 : Int), .int .u64 (W 2 : Int), .int .u64 (W 3 : Int)] 260 (0, 0))
def updW (W : Nat → Nat) (k x : Nat) : Nat → Nat := fun i => if i = k then x else W i

theorem SetBlk.cell {w : World} {sb : Nat} {W : Nat → Nat} (h : SetBlk w sb W) (i : Nat) (hi : i < 4) : w.cell? ⟨sb, i, none⟩ = some (.int .u64 (W i : Int)) := by
  unfold SetBlk at h
  match i, hi with
  | 0, _ => simp [World.cell?, h]
  | 1, _ => simp [World.cell?, h]
  | 2, _ => simp [World.cell?, h]
  | 3, _ => simp [World.cell?, h]
theorem SetBlk.frozen {w : World} {sb : Nat} {W : Nat → Nat} (h : SetBlk w sb W) (i : Nat) : w.frozen? ⟨sb, i, none⟩ = false := by
  unfold SetBlk at h; simp [World.frozen?, h]
theorem SetBlk.lt {w : World} {sb : Nat} {W : Nat → Nat} (h : SetBlk w sb W) : sb < w.heap.size := (Array.getElem?_eq_some_iff.1 h).1
theorem SetBlk.set {w : World} {sb : Nat} {W : Nat → Nat} (h : SetBlk w sb W) (k x : Nat) (hk : k < 4) : SetBlk (w.setCell ⟨sb, k, none⟩ (.int .u64 (x : Int))) sb (updW W k x) := by
  unfold SetBlk at h ⊢
  match k, hk with
  | 0, _ => simp [World.setCell, Array.getElem?_modify, h, updW]
  | 1, _ => simp [World.setCell, Array.getElem?_modify, h, updW]
  | 2, _ => simp [World.setCell, Array.getElem?_modify, h, updW]
  | 3, _ => simp [World.setCell, Array.getElem?_modify, h, updW]
theorem SetBlk.kept {w w' : World} {sb : Nat} {W : Nat → Nat} {r : Option Nat} (h : SetBlk w sb W) (hg : w.grownBy w' r) (hr : some sb ≠ r) : SetBlk w' sb W := (hg.block sb h.lt hr).trans h

/-- One byte more. -/
theorem hasW_upd (W : Nat → Nat) (n : Nat) (c : UInt8) : hasW (updW W (n / 64) (W (n / 64) ||| 2 ^ (n % 64))) c = (hasW W c || decide (c.toNat = n)) := by
  unfold hasW updW
  by_cases h1 : c.toNat / 64 = n / 64
  · rw [if_pos h1, Nat.testBit_or, Nat.testBit_two_pow, h1]
    congr 1
    rw [decide_eq_decide]
    omega
  · rw [if_neg h1]
    have : c.toNat ≠ n := fun e => h1 (by rw [e])
    simp [this]
theorem or_lt {x y : Nat} (hx : x < 18446744073709551616) (hy : y < 18446744073709551616) : x ||| y < 18446744073709551616 := Nat.or_lt_two_pow (n := 64) hx hy
theorem pow_lt64 {k : Nat} (h : k < 64) : 2 ^ k < 18446744073709551616 := Nat.pow_lt_pow_right (a := 2) (n := 64) (by omega) h

theorem wrap_pow {k : Nat} (h : k < 64) : IntKind.u64.wrap ((2 : Int) ^ k) = ((2 ^ k : Nat) : Int) := by
  have h1 := pow_lt64 h
  have e : ((2 : Int) ^ k) = ((2 ^ k : Nat) : Int) := by simp
  rw [e, IntKind.wrap_u64]
  generalize 2 ^ k = z at h1
  omega
theorem or_shl (x k : Nat) (hx : x < 18446744073709551616) (hk : k < 64) : bits BinOp.or IntKind.u64 (x : Int) (IntKind.u64.wrap ((2 : Int) ^ k)) = ((x ||| 2 ^ k : Nat) : Int) := by
  rw [wrap_pow hk, u64_or_nat _ _ hx (pow_lt64 hk)]

set_option maxHeartbeats 1000000 in
theorem add_any (sb : Nat) (W : Nat → Nat) (a b : UInt8) (w : World) (h : SetBlk w sb W) (hW : ∀ i, i < 4 → W i < 18446744073709551616) :
    Calls Tryz.prog 233 #[.pointer (some ⟨sb, 0, none⟩), .int .u8 a.toNat, .int .u8 b.toNat] w fun e w' => e = .returned (.tuple #[]) ∧ ∃ W', SetBlk w' sb W' ∧ (∀ i, i < 4 → W' i < 18446744073709551616) ∧ (∀ c, hasW W' c = addB (hasW W) a b c) ∧ w.grownBy w' (some sb) := by
  have ha : (a.toNat : Int) < 256 := by have := a.toNat_lt; omega
  have hb : (b.toNat : Int) < 256 := by have := b.toNat_lt; omega
  go_enter Tryz.func233, Tryz.ntmps233
  go_wp2
  go_loopw [6] (fun i w1 => ∃ (n : Nat) (W1 : Nat → Nat), i = .int .i64 n ∧ a.toNat ≤ n ∧ n ≤ 256 ∧ SetBlk w1 sb W1 ∧ (∀ i, i < 4 → W1 i < 18446744073709551616) ∧ (∀ c, hasW W1 c = (hasW W c || (decide (a.toNat ≤ c.toNat) && decide (c.toNat < n)))) ∧ w.grownBy w1 (some sb) ∧ (n ≤ b.toNat + 1 ∨ n = a.toNat)) (fun i _ => 256 - (intOf i).toNat)
  case atStart => exact ⟨a.toNat, W, rfl, Nat.le_refl _, by omega, h, hW, fun c => by
    have : (decide (a.toNat ≤ c.toNat) && decide (c.toNat < a.toNat)) = false := by simp
    rw [this, Bool.or_false], World.grownBy.refl _ _, .inr rfl⟩
  case round =>
    obtain ⟨n, W1, rfl, hn1, hn2, hs, hw1, hh, hg, hn3⟩ := hrel
    by_cases hlt : n ≤ b.toNat
    · have hnb : (n : Int) ≤ (b.toNat : Int) := by omega
      have hn4 : (n : Int) < 256 := by omega
      have hd : n / 64 < 4 := by omega
      have c1 := hs.cell (n / 64) hd
      have f1 := hs.frozen (n / 64)
      have hor := Lib.hid (or_shl (W1 (n / 64)) (n % 64) (hw1 _ hd) (by omega))
      go_wp2
      go_region
      go_wp2
      rw [hor.out]
      refine ⟨⟨n + 1, updW W1 (n / 64) (W1 (n / 64) ||| 2 ^ (n % 64)), by go_num, by omega, by omega, hs.set _ _ hd, fun i hi => ?_, fun c => ?_, grown_like (xgrown_trans hg (xgrown_setCell wr sb _ _)) rfl rfl rfl rfl, .inl (by omega)⟩, by simp [intOf]; omega⟩
      · unfold updW
        split
        · exact or_lt (hw1 _ hd) (pow_lt64 (by omega))
        · exact hw1 i hi
      · rw [hasW_upd, hh, Bool.or_assoc]
        congr 1
        rw [Bool.eq_iff_iff]
        simp only [Bool.or_eq_true, Bool.and_eq_true, decide_eq_true_eq]
        omega
    · have hnb : ¬ (n : Int) ≤ (b.toNat : Int) := by omega
      go_wp2
      go_end0
      refine ⟨rfl, W1, hs, hw1, fun c => ?_, hg⟩
      rw [hh]
      unfold addB
      congr 1
      rw [Bool.eq_iff_iff]
      simp only [Bool.and_eq_true, decide_eq_true_eq, UInt8.le_iff_toNat_le]
      omega

def notW (W : Nat → Nat) : Nat → Nat := fun i => 18446744073709551615 - W i
theorem hasW_not (W : Nat → Nat) (hW : ∀ i, i < 4 → W i < 18446744073709551616) (c : UInt8) : hasW (notW W) c = notB (hasW W) c := by
  unfold hasW notW notB
  have hc := c.toNat_lt
  have h1 := hW (c.toNat / 64) (by omega)
  have := Nat.testBit_two_pow_sub_succ (n := 64) h1 (c.toNat % 64)
  rw [show 18446744073709551615 - W (c.toNat / 64) = 2 ^ 64 - (W (c.toNat / 64) + 1) by omega, this]
  have h2 : c.toNat % 64 < 64 := by omega
  simp [h2]

theorem heap_new (w : World) (o : Obj) : (w.alloc o).heap[w.heap.size]? = some o := by
  show (w.heap.push o)[w.heap.size]? = some o
  exact Array.getElem?_push_size
theorem set_made (w : World) (W : Nat → Nat) : SetBlk (w.alloc (.cells #[.int .u64 (W 0 : Int), .int .u64 (W 1 : Int), .int .u64 (W 2 : Int), .int .u64 (W 3 : Int)] 260)) w.heap.size W := heap_new _ _
theorem SetBlk.below {w w' : World} {sb : Nat} {W : Nat → Nat} (h : SetBlk w sb W) (hb : Below w.heap.size w w') : SetBlk w' sb W := (hb.block sb h.lt).trans h
theorem SetBlk.as {w : World} {sb : Nat} {W W' : Nat → Nat} (h : SetBlk w sb W) (e : ∀ i, i < 4 → W i = W' i) : SetBlk w sb W' := by
  unfold SetBlk at h ⊢
  rw [h, e 0 (by omega), e 1 (by omega), e 2 (by omega), e 3 (by omega)]
theorem xor_not (x : Nat) (hx : x < 18446744073709551616) : bits BinOp.xor IntKind.u64 (if IntKind.u64.signed = true then -1 else IntKind.u64.max) (x : Int) = ((18446744073709551615 - x : Nat) : Int) := by
  have e : (if IntKind.u64.signed = true then -1 else IntKind.u64.max) = ((18446744073709551615 : Nat) : Int) := by decide
  rw [e, u64_xor_nat _ _ (by omega) hx]
  congr 1
  apply Nat.eq_of_testBit_eq
  intro i
  rw [Nat.testBit_xor, show 18446744073709551615 = 2 ^ 64 - 1 by omega, Nat.testBit_two_pow_sub_one, show 2 ^ 64 - 1 - x = 2 ^ 64 - (x + 1) by omega, Nat.testBit_two_pow_sub_succ (n := 64) hx]
  by_cases hi : i < 64
  · simp [hi]
  · have : x.testBit i = false := Nat.testBit_lt_two_pow (Nat.lt_of_lt_of_le hx (show 2 ^ 64 ≤ 2 ^ i from Nat.pow_le_pow_right (by omega) (by omega)))
    simp [hi, this]

set_option maxHeartbeats 1000000 in
theorem others_any (W : Nat → Nat) (w : World) (hW : ∀ i, i < 4 → W i < 18446744073709551616) :
    Calls Tryz.prog 231 #[.agg #[.int .u64 (W 0 : Int), .int .u64 (W 1 : Int), .int .u64 (W 2 : Int), .int .u64 (W 3 : Int)]] w fun e w' => e = .returned (.agg #[.int .u64 (notW W 0 : Int), .int .u64 (notW W 1 : Int), .int .u64 (notW W 2 : Int), .int .u64 (notW W 3 : Int)]) ∧ Below w.heap.size w w' := by
  go_enter Tryz.func231, Tryz.ntmps231
  go_wp2
  go_loopw [4] (fun i w1 => ∃ k : Nat, k ≤ 4 ∧ i = .int .i64 k ∧ SetBlk w1 w.heap.size (fun j => if j < k then notW W j else W j) ∧ SetBlk w1 (w.heap.size + 1) (fun _ => 0) ∧ Below w.heap.size w w1) (fun i _ => 4 - (intOf i).toNat)
  case atStart =>
    refine ⟨0, by omega, rfl, SetBlk.as ((set_made w W).below ((Below.refl _ _).alloc (Nat.le_refl _) _)) (fun i _ => by rw [if_neg (by omega)]), ?_, ((Below.refl _ _).alloc (Nat.le_refl _) _).alloc (by simp) _⟩
    have := heap_new (w.alloc (.cells #[.int .u64 (W 0 : Int), .int .u64 (W 1 : Int), .int .u64 (W 2 : Int), .int .u64 (W 3 : Int)] 260)) (.cells #[.int .u64 0, .int .u64 0, .int .u64 0, .int .u64 0] 260)
    rw [World.size_alloc] at this
    exact this
  case round =>
    obtain ⟨k, hk, rfl, hs, hr, hb⟩ := hrel
    by_cases hlt : k < 4
    · have hl : (k : Int) < 4 := by omega
      have c1 := hs.cell k hlt
      rw [if_neg (by omega)] at c1
      have f1 := hs.frozen k
      have HX := Lib.hid (xor_not (W k) (hW k hlt))
      go_wp2
      rw [HX.out]
      refine ⟨⟨k + 1, by omega, by go_num, (hs.set k _ hlt).as fun i hi => ?_, hr.kept (xgrown_setCell wr _ _ _) (by simp), hb.setCell (Nat.le_refl _) _⟩, by simp [intOf]; omega⟩
      unfold updW notW
      split
      · rename_i h; subst h; rw [if_pos (by omega)]
      · split
        · exact if_pos (by omega)
        · exact if_neg (by omega)
    · obtain rfl : k = 4 := by omega
      have c0 := hs.cell 0 (by omega)
      have c1 := hs.cell 1 (by omega)
      have c2 := hs.cell 2 (by omega)
      have c3 := hs.cell 3 (by omega)
      rw [if_pos (by omega)] at c0 c1 c2 c3
      have f0 := hr.frozen 0
      have f1 := hr.frozen 1
      have f2 := hr.frozen 2
      have f3 := hr.frozen 3
      have d0 := hr.cell 0 (by omega)
      have d1 := hr.cell 1 (by omega)
      have d2 := hr.cell 2 (by omega)
      have d3 := hr.cell 3 (by omega)
      go_wp2
      refine bodyPost_ret (v := .agg #[.int .u64 (notW W 0 : Int), .int .u64 (notW W 1 : Int), .int .u64 (notW W 2 : Int), .int .u64 (notW W 3 : Int)]) (by simp [results, Tryz.results231, go_sem, d0, d1, d2, d3]) rfl ⟨rfl, ?_⟩
      exact (((hb.setCell (by simp) _).setCell (by simp) _).setCell (by simp) _).setCell (by simp) _

end Go.Proofs.YtcngifkoopcmeaaGreatDoor
