/-
  The reference's trees: values of 258 cells.
-/
import Derived.Test.YthaimnmbcbhioaaDoorXPure
import Derived.Test.YthaimnmbcbhioaaDoorXLink
import Derived.Deep.WholeRow
import Derived.Deep.MidRow
namespace Go.Proofs.YthaimnmbcbhioaaDoor
open Go.RowKit

/-- A tree: its kind, its bytes, its parts. -/
structure TV where
  k : Nat
  T : BSet
  a : Option Addr
  n : Nat
  c : Nat
/-- The cells of a tree. -/
def treeL (t : TV) : List Value := .int .i64 (t.k : Int) :: ((List.range 256).map (fun i => Value.bool (t.T (UInt8.ofNat i))) ++ [.slice t.a t.n t.c])
def treeC (t : TV) : Array Value := ⟨treeL t⟩
def noT (k : Nat) : TV := ⟨k, noneB, none, 0, 0⟩
def oneT (T : BSet) : TV := ⟨0, T, none, 0, 0⟩
def setB (T : BSet) (c : UInt8) (b : Bool) : BSet := fun d => if d = c then b else T d

theorem treeL_len (t : TV) : (treeL t).length = 258 := by simp [treeL]
theorem treeC_size (t : TV) : (treeC t).size = 258 := treeL_len t
theorem treeL_zero (t : TV) : (treeL t)[0]? = some (.int .i64 (t.k : Int)) := rfl
theorem treeL_bit (t : TV) (c : UInt8) : (treeL t)[1 + c.toNat]? = some (.bool (t.T c)) := by
  have := c.toNat_lt
  rw [Nat.add_comm]
  unfold treeL
  rw [List.getElem?_cons_succ, List.getElem?_append_left (by simp; omega)]
  simp [this]
theorem treeL_sl (t : TV) : (treeL t)[257]? = some (.slice t.a t.n t.c) := by
  unfold treeL
  rw [show (257 : Nat) = 256 + 1 from rfl, List.getElem?_cons_succ, List.getElem?_append_right (by simp)]
  simp
theorem treeL_one (t : TV) {v : Value} (h : v ∈ treeL t) : v.oneCell' = true := by
  unfold treeL at h
  simp only [List.mem_cons, List.mem_append, List.mem_map, List.mem_range, List.not_mem_nil, or_false] at h
  rcases h with rfl | ⟨i, -, rfl⟩ | rfl <;> rfl
theorem treeC_one (t : TV) : (treeC t).all (·.oneCell') = true := Array.all_eq_true_iff_forall_mem.2 fun v hv => treeL_one t (by simpa [treeC] using hv)
theorem treeC_get (t : TV) (j : Nat) : (treeC t)[j]? = (treeL t)[j]? := by simp [treeC]
theorem treeL_set (t : TV) (c : UInt8) (b : Bool) : (treeL t).set (1 + c.toNat) (.bool b) = treeL { t with T := setB t.T c b } := by
  have hc := c.toNat_lt
  refine List.ext_getElem? fun i => ?_
  rw [List.getElem?_set, treeL_len]
  by_cases h : 1 + c.toNat = i
  · subst h
    rw [if_pos rfl, if_pos (by omega), treeL_bit]
    simp [setB]
  · rw [if_neg h]
    rcases Nat.eq_zero_or_pos i with rfl | hi
    · rfl
    · by_cases h2 : i < 257
      · obtain ⟨d, rfl⟩ : ∃ d : UInt8, i = 1 + d.toNat := ⟨UInt8.ofNat (i - 1), by rw [UInt8.toNat_ofNat']; omega⟩
        have hne : d ≠ c := fun e => h (by rw [e])
        rw [treeL_bit, treeL_bit]
        simp [setB, hne]
      · by_cases h3 : i = 257
        · subst h3
          rw [treeL_sl, treeL_sl]
        · rw [List.getElem?_eq_none (by rw [treeL_len]; omega), List.getElem?_eq_none (by rw [treeL_len]; omega)]
theorem treeL_setSl (t : TV) (a : Option Addr) (n c : Nat) : (treeL t).set 257 (.slice a n c) = treeL { t with a := a, n := n, c := c } := by
  unfold treeL
  rw [show (257 : Nat) = 256 + 1 from rfl, List.set_cons_succ, List.set_append, if_neg (by simp)]
  simp
theorem treeC_set (t : TV) (c : UInt8) (b : Bool) : (treeC t).setIfInBounds (1 + c.toNat) (.bool b) = treeC { t with T := setB t.T c b } := by
  unfold treeC
  rw [← treeL_set]
  simp

theorem zero_tree (w : World) : (zeroValue 102).run Tryd.prog w = .ok (.agg (treeC (noT 0))) w := by kernel_rfl
theorem size_tree (t : TV) : (Tryd.prog.info? 102).map (·.size) = some (treeC t).size := by rw [treeC_size]; kernel_rfl

/-- A tree in a block of the call's own. -/
def TreeBlk (w : World) (b : Nat) (t : TV) : Prop := w.heap[b]? = some (.cells (treeC t) 102 (0, 0))
theorem TreeBlk.lt {w : World} {b : Nat} {t : TV} (h : TreeBlk w b t) : b < w.heap.size := (Array.getElem?_eq_some_iff.1 h).1
theorem TreeBlk.cell {w : World} {b : Nat} {t : TV} (h : TreeBlk w b t) (j : Nat) : w.cell? ⟨b, j, none⟩ = (treeL t)[j]? := by
  unfold TreeBlk at h; simp [World.cell?, h, treeC_get]
theorem TreeBlk.bit {w : World} {b : Nat} {t : TV} (h : TreeBlk w b t) (c : UInt8) : w.cell? ⟨b, 1 + c.toNat, none⟩ = some (.bool (t.T c)) := by rw [h.cell, treeL_bit]
theorem TreeBlk.kind {w : World} {b : Nat} {t : TV} (h : TreeBlk w b t) : w.cell? ⟨b, 0, none⟩ = some (.int .i64 (t.k : Int)) := by rw [h.cell, treeL_zero]
theorem TreeBlk.parts {w : World} {b : Nat} {t : TV} (h : TreeBlk w b t) : w.cell? ⟨b, 257, none⟩ = some (.slice t.a t.n t.c) := by rw [h.cell, treeL_sl]
theorem TreeBlk.frozen {w : World} {b : Nat} {t : TV} (h : TreeBlk w b t) (i : Nat) : w.frozen? ⟨b, i, none⟩ = false := by
  unfold TreeBlk at h; simp [World.frozen?, h]
theorem TreeBlk.set {w : World} {b : Nat} {t : TV} (h : TreeBlk w b t) (c : UInt8) (x : Bool) : TreeBlk (w.setCell ⟨b, 1 + c.toNat, none⟩ (.bool x)) b { t with T := setB t.T c x } := by
  unfold TreeBlk at h ⊢
  simp [World.setCell, Array.getElem?_modify, h, treeC_set]
theorem TreeBlk.setSl {w : World} {b : Nat} {t : TV} (h : TreeBlk w b t) (a : Option Addr) (n c : Nat) : TreeBlk (w.setCell ⟨b, 257, none⟩ (.slice a n c)) b { t with a := a, n := n, c := c } := by
  unfold TreeBlk at h ⊢
  have e : (treeC t).setIfInBounds 257 (.slice a n c) = treeC { t with a := a, n := n, c := c } := by
    unfold treeC
    simp [treeL_setSl]
  simp [World.setCell, Array.getElem?_modify, h, e]
theorem TreeBlk.of {w w' : World} {b : Nat} {t : TV} (h : TreeBlk w b t) (e : w'.heap[b]? = w.heap[b]?) : TreeBlk w' b t := e.trans h
theorem TreeBlk.kept {w w' : World} {b : Nat} {t : TV} {r : Option Nat} (h : TreeBlk w b t) (hg : w.grownBy w' r) (hr : some b ≠ r) : TreeBlk w' b t := (hg.block b h.lt hr).trans h
theorem TreeBlk.new (w : World) (t : TV) : TreeBlk (w.alloc (.cells (treeC t) 102)) w.heap.size t := heap_alloc_last w _
theorem TreeBlk.new' (w : World) (t : TV) (n : Nat) (hn : n = w.heap.size) : TreeBlk (w.alloc (.cells (treeC t) 102)) n t := by subst hn; exact TreeBlk.new w t
theorem TreeBlk.alloc {w : World} {b : Nat} {t : TV} (h : TreeBlk w b t) (o : Obj) : TreeBlk (w.alloc o) b t := (Below.heap_alloc w o b h.lt).trans h
theorem TreeBlk.load {w : World} {b : Nat} {t : TV} (h : TreeBlk w b t) : (loadVar 102 ⟨b, 0, none⟩).run Tryd.prog w = .ok (.agg (treeC t)) w :=
  run_loadVar_row w b 102 102 (treeC t) (0, 0) _ h Tryd.underlying102 rfl (size_tree t)
theorem TreeBlk.loadAt {w : World} {b : Nat} {t : TV} (h : TreeBlk w b t) : (Instr.loadAt 102 (.pointer (some ⟨b, 0, none⟩))).run Tryd.prog w = .ok (.agg (treeC t)) w := by
  simp only [Instr.loadAt, Instr.sureAddr, Sem.run_bind, Sem.run_pure, Result.andThen_ok, h.load]
theorem TreeBlk.store {w : World} {b : Nat} {t : TV} (h : TreeBlk w b t) (t' : TV) : (storeVar 102 ⟨b, 0, none⟩ (.agg (treeC t'))).run Tryd.prog w = .ok () (w.setRow b (treeC t')) :=
  run_storeVar_row w b 102 102 (treeC t) (treeC t') h (size_tree t') (by rw [treeC_size, treeC_size]) (treeC_one t')
theorem TreeBlk.storeAt {w : World} {b : Nat} {t : TV} (h : TreeBlk w b t) (t' : TV) : (Instr.storeAt 102 (.pointer (some ⟨b, 0, none⟩)) (.agg (treeC t'))).run Tryd.prog w = .ok () (w.setRow b (treeC t')) := by
  simp only [Instr.storeAt, Instr.sureAddr, Sem.run_bind, Sem.run_pure, Result.andThen_ok, h.store]
theorem TreeBlk.row {w : World} {b : Nat} {t : TV} (h : TreeBlk w b t) (t' : TV) : TreeBlk (w.setRow b (treeC t')) b t' := setRow_heap w b _ _ _ _ h
theorem below_setRow {B : Nat} {w0 w : World} (h : Below B w0 w) (b : Nat) (hb : B ≤ b) (cs : Array Value) : Below B w0 (w.setRow b cs) :=
  ⟨h.os, h.tape, h.output, by show _ ≤ (w.heap.modify b _).size; rw [Array.size_modify]; exact h.size, fun k hk => (setRow_other w b k cs (by omega)).trans (h.block k hk)⟩

end Go.Proofs.YthaimnmbcbhioaaDoor
