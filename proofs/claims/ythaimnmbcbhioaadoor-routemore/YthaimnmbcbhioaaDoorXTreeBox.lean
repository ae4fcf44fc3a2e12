/-
  The reference's atoms that are sets.
-/
import Derived.Test.YthaimnmbcbhioaaDoorXTreePar
import Derived.Test.YthaimnmbcbhioaaDoorXTreeSet
namespace Go.Proofs.YthaimnmbcbhioaaDoor
open Go.RowKit

theorem eset_no (s : ByteArray) (w : World) (hs : s.size ≤ 9223372036854775807) (h : pSet s.data.toList = none) : Calls Tryd.prog 91 #[.string s] w fun e w' => (∃ t, e = .returned (.tuple #[.agg (treeC t), .string ⟨#[]⟩, .bool false])) ∧ Below w.heap.size w w' :=
  (set_ref s w hs).mono fun e w' ⟨hE, hb⟩ => by
    rcases hE with ⟨-, h2⟩ | ⟨T, s', h1, -⟩
    · exact ⟨h2, hb⟩
    · rw [h] at h1; cases h1
theorem eset_yes (s : ByteArray) (w : World) (hs : s.size ≤ 9223372036854775807) (T : BSet) (s2 : ByteArray) (h : pSet s.data.toList = some (T, s2.data.toList)) : Calls Tryd.prog 91 #[.string s] w fun e w' => e = .returned (.tuple #[.agg (treeC (oneT T)), .string s2, .bool true]) ∧ Below w.heap.size w w' :=
  (set_ref s w hs).mono fun e w' ⟨hE, hb⟩ => by
    rcases hE with ⟨h1, -⟩ | ⟨T', s', h1, h2⟩
    · rw [h] at h1; cases h1
    · rw [h] at h1
      injection h1 with h1
      injection h1 with e1 e2
      obtain rfl : s2 = s' := by
        cases s2; cases s'
        congr 1
        exact Array.toList_inj.1 e2
      subst e1
      exact ⟨h2, hb⟩

set_option maxRecDepth 20000 in
set_option maxHeartbeats 4000000 in
theorem eatom_set_no (s : ByteArray) (w : World) (hs : s.size ≤ 9223372036854775807) (h0 : 0 < s.size) (n91 : s[0] = 91) (h : pSet (s.extract 1 s.size).data.toList = none) :
    Calls Tryd.prog 85 #[.string s] w fun e w' => (∃ t, e = .returned (.tuple #[.agg (treeC t), .string ⟨#[]⟩, .bool false])) ∧ Below w.heap.size w w' := by
  have HC := Lib.hid (fun u => eset_no (s.extract 1 s.size) u (by rw [ByteArray.size_extract]; omega) h)
  have kz := zero_tree
  have hp : (0 : Int) < (s.size : Int) := by omega
  have hp1 : (1 : Int) ≤ (s.size : Int) := by omega
  have n40 : s[0] ≠ 40 := by rw [n91]; decide
  have q40 : ((s[0].toNat : Int) == 40) = false := beq_no (n := 40) (by decide) n40
  have q91 : ((s[0].toNat : Int) == 91) = true := beq_yes (n := 91) (by decide) n91
  clear n40 n91
  have kn := treeC_size
  have tA := TreeBlk.new w (noT 0)
  have hbA := (Below.refl w.heap.size w).alloc (Nat.le_refl _) (.cells (treeC (noT 0)) 102)
  go_enter Tryd.func85, Tryd.ntmps85
  go_wp2_with (go_at_call 91; refine (HC.out _).mono ?_; rintro e w1 ⟨⟨t, rfl⟩, q1⟩; refine Hid.out ?_)
  refine Lib.hid ?_
  have t1 := tA.below q1
  have hb1 := hbA.trans (q1.mono hbA.size)
  have ks := t1.storeCells (t)
  have t3 := t1.row (t)
  have hb3 := below_setRow hb1 w.heap.size (Nat.le_refl _) (treeC (t))
  generalize World.setRow _ _ _ = W3 at *
  clear t1 hb1 q1 tA hbA
  go_wp2
  exact bodyPost_ret (results_tree3 rfl _ _ _ rfl t3) rfl ⟨⟨_, rfl⟩, hb3⟩

set_option maxRecDepth 20000 in
set_option maxHeartbeats 4000000 in
theorem eatom_set_ok (s s2 : ByteArray) (T : BSet) (w : World) (hs : s.size ≤ 9223372036854775807) (h0 : 0 < s.size) (n91 : s[0] = 91) (h : pSet (s.extract 1 s.size).data.toList = some (T, s2.data.toList)) :
    Calls Tryd.prog 85 #[.string s] w fun e w' => e = .returned (.tuple #[.agg (treeC (oneT T)), .string s2, .bool true]) ∧ Below w.heap.size w w' := by
  have HC := Lib.hid (fun u => eset_yes (s.extract 1 s.size) u (by rw [ByteArray.size_extract]; omega) T s2 h)
  have kz := zero_tree
  have hp : (0 : Int) < (s.size : Int) := by omega
  have hp1 : (1 : Int) ≤ (s.size : Int) := by omega
  have n40 : s[0] ≠ 40 := by rw [n91]; decide
  have q40 : ((s[0].toNat : Int) == 40) = false := beq_no (n := 40) (by decide) n40
  have q91 : ((s[0].toNat : Int) == 91) = true := beq_yes (n := 91) (by decide) n91
  clear n40 n91
  have kn := treeC_size
  have tA := TreeBlk.new w (noT 0)
  have hbA := (Below.refl w.heap.size w).alloc (Nat.le_refl _) (.cells (treeC (noT 0)) 102)
  go_enter Tryd.func85, Tryd.ntmps85
  go_wp2_with (go_at_call 91; refine (HC.out _).mono ?_; rintro e w1 ⟨rfl, q1⟩; refine Hid.out ?_)
  refine Lib.hid ?_
  have t1 := tA.below q1
  have hb1 := hbA.trans (q1.mono hbA.size)
  have ks := t1.storeCells (oneT T)
  have t3 := t1.row (oneT T)
  have hb3 := below_setRow hb1 w.heap.size (Nat.le_refl _) (treeC (oneT T))
  generalize World.setRow _ _ _ = W3 at *
  clear t1 hb1 q1 tA hbA
  go_wp2
  exact bodyPost_ret (results_tree3 rfl _ _ _ rfl t3) rfl ⟨rfl, hb3⟩

/-- What an atom is told as: none. -/
def AtNo (s : ByteArray) (w : World) : Prop := Calls Tryd.prog 85 #[.string s] w fun e w' => (∃ t, e = .returned (.tuple #[.agg (treeC t), .string ⟨#[]⟩, .bool false])) ∧ Below w.heap.size w w'
/-- .. one. -/
def AtOk (s s2 : ByteArray) (A : Lang) (w : World) : Prop := Calls Tryd.prog 85 #[.string s] w fun e w' => (∃ t, e = .returned (.tuple #[.agg (treeC t), .string s2, .bool true]) ∧ ∃ d, Den d w' (fun b => w.heap.size ≤ b ∧ b < w'.heap.size) t A) ∧ Below w.heap.size w w'
theorem AtOk.of {s s2 : ByteArray} {T : BSet} {w : World} (h : Calls Tryd.prog 85 #[.string s] w fun e w' => e = .returned (.tuple #[.agg (treeC (oneT T)), .string s2, .bool true]) ∧ Below w.heap.size w w') : AtOk s s2 (setL T) w :=
  h.mono fun _ w' ⟨h1, h2⟩ => ⟨⟨_, h1, 1, Den.set w' _ T⟩, h2⟩

end Go.Proofs.YthaimnmbcbhioaaDoor
