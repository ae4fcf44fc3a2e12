/-
  The library's lowest bit, and whether a byte is special.
-/
import Derived.Test.YtfllfmdopfeecabGreatDoorXItem
import Derived.Laws.Externs
namespace Go.Proofs.YtfllfmdopfeecabGreatDoor
open Go.RowKit

theorem cell_heap' {w : World} {b j : Nat} {cs : Array Value} {t : TypeId} {fr : Nat × Nat} (h : w.heap[b]? = some (.cells cs t fr)) : w.cell? ⟨b, j, none⟩ = cs[j]? := by simp [World.cell?, h]

/-- The table of the lowest bit. -/
def TabW (w : World) : Prop := ∀ j, j < 64 → w.cell? ⟨4, j, none⟩ = some (.int .u8 ((Lib.deBruijn64tab.getD j 0 : Nat) : Int))
theorem TabW.lt {w : World} (h : TabW w) : 4 < w.heap.size := World.block_lt_of_cell? w _ (h 0 (by omega))
theorem TabW.on {w w' : World} {B : Nat} (h : TabW w) (hb : Below B w w') (hB : 4 < B) : TabW w' := fun j hj => (hb.cell (p := ⟨4, j, none⟩) hB).trans (h j hj)
theorem TabW.chg {S : Nat → Prop} {w w' : World} (h : TabW w) (hc : Chg S w w') (hn : ¬ S 4) : TabW w' := fun j hj => (World.cell?_of_block (a := ⟨4, j, none⟩) (hc.block 4 h.lt hn)).trans (h j hj)

theorem tz_key (x : Nat) (hx : x < 18446744073709551616) (h0 : x ≠ 0) :
    IntKind.u64.wrap (bits BinOp.and IntKind.u64 (x : Int) (IntKind.u64.wrap (-(x : Int))) * 285870213051353865) / 288230376151711744 = ((2 ^ Lib.ctz 64 x * 285870213051353865 % 18446744073709551616 / 288230376151711744 : Nat) : Int) := by
  have e1 : IntKind.u64.wrap (-(x : Int)) = ((18446744073709551616 - x : Nat) : Int) := by rw [IntKind.wrap_u64]; omega
  have h1 := (Lib.lowest_bit 64 x h0 hx).1
  rw [e1, u64_and_nat x _ hx (by omega), show 18446744073709551616 - x = 2 ^ 64 - x from rfl, h1, IntKind.wrap_u64]
  generalize 2 ^ Lib.ctz 64 x = z
  omega

set_option maxHeartbeats 1000000 in
theorem tz_core (x k idx : Nat) (w : World) (hne : ((x : Int) == 0) = false)
    (key : IntKind.u64.wrap (bits BinOp.and IntKind.u64 (x : Int) (IntKind.u64.wrap (-(x : Int))) * 285870213051353865) / 288230376151711744 = (idx : Int))
    (hi : idx < 64) (hk : k < 64) (c1 : w.cell? ⟨4, idx, none⟩ = some (.int .u8 (k : Int))) :
    Calls Tryz.prog 118 #[.int .u64 x] w fun e w' => e = .returned (.int .i64 (k : Nat)) ∧ w' = w := by
  go_enter Tryz.func118, Tryz.ntmps118
  go_wp2_with (simp only [key])
  go_ret
  exact ⟨rfl, rfl⟩
theorem tz_any (x : Nat) (hx : x < 18446744073709551616) (h0 : x ≠ 0) (w : World) (ht : TabW w) :
    Calls Tryz.prog 118 #[.int .u64 x] w fun e w' => e = .returned (.int .i64 (Lib.ctz 64 x : Nat)) ∧ w' = w := by
  have hk := (ctz_bits x h0 hx).1
  obtain ⟨hi, htab⟩ := Lib.deBruijn64_at _ hk
  have c1 := ht _ hi
  rw [htab] at c1
  exact tz_core x _ _ w (by simp; omega) (tz_key x hx h0) hi hk c1

theorem spec_idx (c : UInt8) : decide (0 ≤ firstIdx ⟨#[40, 41, 91, 93, 124, 42, 43, 63, 46, 92]⟩ c) = isSpec c := by
  have h : ∀ n, n < 256 → decide (0 ≤ firstIdx ⟨#[40, 41, 91, 93, 124, 42, 43, 63, 46, 92]⟩ (UInt8.ofNat n)) = isSpec (UInt8.ofNat n) := by decide +kernel
  have := h c.toNat c.toNat_lt
  rwa [UInt8.ofNat_toNat] at this

set_option maxRecDepth 20000 in
set_option maxHeartbeats 1000000 in
theorem isSpecial_any (c : UInt8) (w : World) : Calls Tryz.prog 154 #[.int .u8 c.toNat] w fun e w' => e = .returned (.bool (isSpec c)) ∧ w' = w := by
  have hs := Lib.hid (spec_idx c)
  go_enter Tryz.func154, Tryz.ntmps154
  go_wp2
  rw [run_callFunc_extern Tryz.func161 (by kernel_rfl) (by kernel_rfl) (by kernel_rfl) (e := Extern.BytealgIndexByte.indexByte) (by kernel_rfl), run_indexByte_string]
  simp only [Result.andThen]
  rw [Oper.upon_value]
  go_wp2
  go_ret
  refine ⟨?_, rfl⟩
  rw [← hs.out]
  simp

end Go.Proofs.YtfllfmdopfeecabGreatDoor
