/-
  What ben.Int, ben.Text and ben.New do: the bytes that are laid, in memory of the call's own; a reader of bytes.
-/
import Derived.Test.YtkbonifbnbdbkaaDoorRd4
import Derived.Lib.Slices
import Derived.Lib.AppendStr
import Derived.OwnWalk
import Derived.BigCall
namespace Go.Proofs.YtkbonifbnbdbkaaDoor
open Go.RowKit

/-- A slice of bytes in blocks from B on. -/
def Own (w : World) (B : Nat) (v : Value) (l : List UInt8) : Prop := w.ownsRow B 5 1 v l.length (Lib.byteCells l)

theorem infoByte : (Tryd.prog.info? 5).map (fun i => (i.zero, i.size, i.bytes)) = some (some (.int .u8 0), 1, 1) := by kernel_rfl

theorem own_one (w : World) (B : Nat) (hB : B ≤ w.heap.size) (x : UInt8) : Own (w.alloc (.cells #[.int .u8 x.toNat] 5)) B (.slice (some ⟨w.heap.size, 0, none⟩) 1 1) [x] :=
  ⟨rfl, .inr ⟨w.heap.size, 1, #[.int .u8 x.toNat], rfl, hB, heap_alloc_new w _, Nat.le_refl _, by unfold maxLen; omega, rfl, rfl⟩⟩

theorem Own.of {w : World} {B n : Nat} {v : Value} {xs : List Value} {l : List UInt8} (h : w.ownsRow B 5 1 v n xs) (e : xs = Lib.byteCells l) : Own w B v l := by
  subst e
  have := h.1
  simp [Lib.byteCells] at this
  unfold Own
  rw [this]
  exact h

/-- The bytes that Int lays. -/
def putInt (n : Int) : List UInt8 := 105 :: Lib.itoa n ++ [101]
/-- The bytes that Text lays. -/
def putText (s : List UInt8) : List UInt8 := Lib.itoa s.length ++ 58 :: s

set_option maxHeartbeats 1000000 in
set_option maxRecDepth 100000 in
theorem Int_tab (n : Int) (h0 : -9223372036854775808 ≤ n) (h1 : n ≤ 9223372036854775807) (B : Nat) (w : World) (hB : B ≤ w.heap.size) (hv : Lib.TabBelow Tryd.prog B w "internal/strconv.uint64pow10" .u64 Lib.pow10Tab) :
    Calls Tryd.prog 47 #[.int .i64 n] w fun e w' => ∃ v, e = .returned v ∧ Own w' w.heap.size v (putInt n) ∧ Below w.heap.size w w' := by
  obtain ⟨i0, hi, hz0, hz1, hz2⟩ := info_parts infoByte
  have la := Lib.itoa_length_le n h0 h1
  have hv1 : Lib.TabBelow Tryd.prog B (w.alloc (.cells #[.int .u8 (105 : UInt8).toNat] 5)) "internal/strconv.uint64pow10" .u64 Lib.pow10Tab := fun w2 h2 => hv w2 (((Below.refl B w).alloc hB (.cells #[.int .u8 (105 : UInt8).toNat] 5)).trans h2)
  have ho1 : Own (w.alloc (.cells #[.int .u8 (105 : UInt8).toNat] 5)) w.heap.size (.slice (some ⟨w.heap.size, 0, none⟩) 1 1) [105] := own_one w w.heap.size (Nat.le_refl _) 105
  have hT : Lib.TabBelow Tryd.prog w.heap.size (w.alloc (.cells #[.int .u8 (105 : UInt8).toNat] 5)) "internal/strconv.uint64pow10" .u64 Lib.pow10Tab := fun w2 h2 => hv1 w2 (h2.mono hB)
  have hc := Tryd.strconv_AppendInt_10 w.heap.size 1 n h0 h1 (.slice (some ⟨w.heap.size, 0, none⟩) 1 1) _ (w.alloc (.cells #[.int .u8 (105 : UInt8).toNat] 5)) ho1 (by simp) (by omega) hT
  have HC := Lib.hid hc
  clear hc hT ho1 hv1
  go_enter Tryd.func47, Tryd.ntmps47
  go_wp2_with (go_at_call 59; refine HC.out.mono ?_; rintro e w1 ⟨v1, rfl, hown1, hnx1, -⟩; refine Hid.out ?_)
  refine Lib.hid ?_
  have hs1 := hnx1.size
  simp only [World.size_alloc] at hs1
  go_wp2_with (at_builtin; refine wpList_append_own _ rfl _ _ 29 rfl w.heap.size 5 i0 (.int .u8 0) 1 1 Tryd.underlying29 hi hz0 hz1 hz2 rfl (by decide) _ _ _ rfl (hown1.alloc _) ⟨w1.heap.size, 0, none⟩ 1 1 [Value.int .u8 101] rfl rfl (by intro j u' hj; match j, hj with | 0, hj => simp at hj; subst hj; simp [Addr.add]) (by intro u' hu'; simp at hu'; subst hu'; rfl) (by unfold maxLen; omega) (by omega) (by simp; omega) ?_)
  intro v2 w2 hown2 hgrow _
  have hnx2 : Below w.heap.size w w2 := ((((Below.refl w.heap.size w).alloc (Nat.le_refl _) _).trans hnx1).alloc (by omega) _).grown hgrow (by simp; omega) (fun k hk => (hown1.lt k hk).1)
  go_wp2
  go_ret
  exact ⟨v2, rfl, Own.of hown2 (by simp [putInt, Lib.byteCells]), hnx2⟩
theorem Int_any (n : Int) (h0 : -9223372036854775808 ≤ n) (h1 : n ≤ 9223372036854775807) (B : Nat) (w : World) (hB : B ≤ w.heap.size) (hv : VarsOk B w) :
    Calls Tryd.prog 47 #[.int .i64 n] w fun e w' => ∃ v, e = .returned v ∧ Own w' w.heap.size v (putInt n) ∧ Below w.heap.size w w' := Int_tab n h0 h1 B w hB hv.tab

set_option maxHeartbeats 1000000 in
set_option maxRecDepth 100000 in
theorem Text_tab (s : ByteArray) (hs : s.size ≤ 140737488351232) (B : Nat) (w : World) (hB : B ≤ w.heap.size) (hv : Lib.TabBelow Tryd.prog B w "internal/strconv.uint64pow10" .u64 Lib.pow10Tab) :
    Calls Tryd.prog 46 #[.string s] w fun e w' => ∃ v, e = .returned v ∧ Own w' w.heap.size v (putText s.data.toList) ∧ Below w.heap.size w w' := by
  obtain ⟨i0, hi, hz0, hz1, hz2⟩ := info_parts infoByte
  have la := Lib.itoa_length_le s.size (by omega) (by omega)
  have hT : Lib.TabBelow Tryd.prog w.heap.size w "internal/strconv.uint64pow10" .u64 Lib.pow10Tab := fun w2 h2 => hv w2 (h2.mono hB)
  have HC := Lib.hid (Tryd.strconv_AppendInt_10 w.heap.size 0 s.size (by omega) (by omega) (.slice none 0 0) [] w (World.ownsRow_nil _ _ _ _) (Nat.le_refl _) (by omega) hT)
  clear hT
  go_enter Tryd.func46, Tryd.ntmps46
  go_wp2_with (go_at_call 59; refine HC.out.mono ?_; rintro e w1 ⟨v1, rfl, hown1, hnx1, -⟩; refine Hid.out ?_)
  refine Lib.hid ?_
  rw [Nat.zero_add, List.nil_append] at hown1
  have hs1 := hnx1.size
  go_wp2_with (first | (at_builtin; refine wpList_append_own _ rfl _ _ 29 rfl w.heap.size 5 i0 (.int .u8 0) 1 1 Tryd.underlying29 hi hz0 hz1 hz2 rfl (by decide) _ _ _ rfl (hown1.alloc _) ⟨w1.heap.size, 0, none⟩ 1 1 [Value.int .u8 58] rfl rfl (by intro j u' hj; match j, hj with | 0, hj => simp at hj; subst hj; simp [Addr.add]) (by intro u' hu'; simp at hu'; subst hu'; rfl) (by unfold maxLen; omega) (by omega) (by simp; omega) ?_; refine Hid.out ?_))
  refine Lib.hid ?_
  intro v2 w2 hown2 hgrow _
  have hnx2 : Below w.heap.size w w2 := (hnx1.alloc hs1 _).grown hgrow (by simp; omega) (fun k hk => (hown1.lt k hk).1)
  have hs2 := hnx2.size
  go_wp2_with (at_builtin; refine Lib.wpList_append_own_string _ rfl _ _ 29 9 rfl w.heap.size 5 i0 Tryd.underlying29 Tryd.underlying9 hi hz0 hz1 hz2 _ _ _ rfl hown2 s rfl (by unfold maxLen; omega) (by omega) (by omega) ?_; refine Hid.out ?_)
  refine Lib.hid ?_
  intro v3 w3 hown3 hgrow3 _
  have hnx3 : Below w.heap.size w w3 := hnx2.grown hgrow3 (by omega) (fun k hk => (hown2.lt k hk).1)
  go_wp2
  go_ret
  exact ⟨v3, rfl, Own.of hown3 (by simp [putText, Lib.byteCells, Lib.strCells]), hnx3⟩
theorem Text_any (s : ByteArray) (hs : s.size ≤ 140737488351232) (B : Nat) (w : World) (hB : B ≤ w.heap.size) (hv : VarsOk B w) :
    Calls Tryd.prog 46 #[.string s] w fun e w' => ∃ v, e = .returned v ∧ Own w' w.heap.size v (putText s.data.toList) ∧ Below w.heap.size w w' := Text_tab s hs B w hB hv.tab

end Go.Proofs.YtkbonifbnbdbkaaDoor
