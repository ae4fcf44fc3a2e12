/-
  The reference's trees: values of 258 cells. The reference's trees: a set of one byte; a set's item; sets. The reference's atoms and patterns. What a tree of the reference means, in memory. The reference's sets. The document's special bytes.
-/
import Derived.Test.YtcngifkoopcmeaaGreatDoorK27
import Derived.Test.YtcngifkoopcmeaaGreatDoorK06
import Derived.Deep.WholeRow
import Derived.Deep.MidRow
import Derived.Test.YtcngifkoopcmeaaGreatDoorK08
namespace Go.Proofs.YtcngifkoopcmeaaGreatDoor
open Go.RowKit

/-- A tree: its kind, its bytes, its parts. -/
structure TV where
  k : Nat
  T : BSet
  a : Option Addr
  n : Nat
  c : Nat
/-- The cells of a tree. -/
def treeL (t : TV) : List Value := .int .i64 (t.k : Int) :: ((List.range 256).map (fun i => Value.bool (t.T (UInt8.ofNat i))) ++ [.slice t.a t.n t.c])
def treeC (t : TV) : Array Value := ⟨treeL t⟩
def noT (k : Nat) : TV := ⟨k, noneB, none, 0, 0⟩
def oneT (T : BSet) : TV := ⟨0, T, none, 0, 0⟩
def setB (T : BSet) (c : UInt8) (b : Bool) : BSet := fun d => if d = c then b else T d

theorem treeL_len (t : TV) : (treeL t).length = 258 := by simp [treeL]
theorem treeC_size (t : TV) : (treeC t).size = 258 := treeL_len t
theorem treeL_zero (t : TV) : (treeL t)[0]? = some (.int .i64 (t.k : Int)) := rfl
theorem treeL_bit (t : TV) (c : UInt8) : (treeL t)[1 + c.toNat]? = some (.bool (t.T c)) := by
  have := c.toNat_lt
  rw [Nat.add_comm]
  unfold treeL
  rw [List.getElem?_cons_succ, List.getElem?_append_left (by simp; omega)]
  simp [this]
theorem treeL_sl (t : TV) : (treeL t)[257]? = some (.slice t.a t.n t.c) := by
  unfold treeL
  rw [show (257 : Nat) = 256 + 1 from rfl, List.getElem?_cons_succ, List.getElem?_append_right (by simp)]
  simp
theorem treeL_one (t : TV) {v : Value} (h : v ∈ treeL t) : v.oneCell' = true := by
  unfold treeL at h
  simp only [List.mem_cons, List.mem_append, List.mem_map, List.mem_range, List.not_mem_nil, or_false] at h
  rcases h with rfl | ⟨i, -, rfl⟩ | rfl <;> rfl
theorem treeC_one (t : TV) : (treeC t).all (·.oneCell') = true := Array.all_eq_true_iff_forall_mem.2 fun v hv => treeL_one t (by simpa [treeC] using hv)
theorem treeC_get (t : TV) (j : Nat) : (treeC t)[j]? = (treeL t)[j]? := by simp [treeC]
theorem treeL_set (t : TV) (c : UInt8) (b : Bool) : (treeL t).set (1 + c.toNat) (.bool b) = treeL { t with T := setB t.T c b } := by
  have hc := c.toNat_lt
  refine List.ext_getElem? fun i => ?_
  rw [List.getElem?_set, treeL_len]
  by_cases h : 1 + c.toNat = i
  · subst h
    rw [if_pos rfl, if_pos (by omega), treeL_bit]
    simp [setB]
  · rw [if_neg h]
    rcases Nat.eq_zero_or_pos i with rfl | hi
    · rfl
    · by_cases h2 : i < 257
      · obtain ⟨d, rfl⟩ : ∃ d : UInt8, i = 1 + d.toNat := ⟨UInt8.ofNat (i - 1), by rw [UInt8.toNat_ofNat']; omega⟩
        have hne : d ≠ c := fun e => h (by rw [e])
        rw [treeL_bit, treeL_bit]
        simp [setB, hne]
      · by_cases h3 : i = 257
        · subst h3
          rw [treeL_sl, treeL_sl]
        · rw [List.getElem?_eq_none (by rw [treeL_len]; omega), List.getElem?_eq_none (by rw [treeL_len]; omega)]
theorem treeL_setSl (t : TV) (a : Option Addr) (n c : Nat) : (treeL t).set 257 (.slice a n c) = treeL { t with a := a, n := n, c := c } := by
  unfold treeL
  rw [show (257 : Nat) = 256 + 1 from rfl, List.set_cons_succ, List.set_append, if_neg (by simp)]
  simp
theorem treeC_set (t : TV) (c : UInt8) (b : Bool) : (treeC t).setIfInBounds (1 + c.toNat) (.bool b) = treeC { t with T := setB t.T c b } := by
  unfold treeC
  rw [← treeL_set]
  simp

theorem zero_tree (w : World) : (zeroValue 207).run Tryz.prog w = .ok (.agg (treeC (noT 0))) w := by kernel_rfl
theorem size_tree (t : TV) : (Tryz.prog.info? 207).map (·.size) = some (treeC t).size := by rw [treeC_size]; kernel_rfl

/-- A tree in a block of the call's own. -/
def TreeBlk (w : World) (b : Nat) (t : TV) : Prop := w.heap[b]? = some (.cells (treeC t) 207 (0, 0))
theorem TreeBlk.lt {w : World} {b : Nat} {t : TV} (h : TreeBlk w b t) : b < w.heap.size := (Array.getElem?_eq_some_iff.1 h).1
theorem TreeBlk.cell {w : World} {b : Nat} {t : TV} (h : TreeBlk w b t) (j : Nat) : w.cell? ⟨b, j, none⟩ = (treeL t)[j]? := by
  unfold TreeBlk at h; simp [World.cell?, h, treeC_get]
theorem TreeBlk.bit {w : World} {b : Nat} {t : TV} (h : TreeBlk w b t) (c : UInt8) : w.cell? ⟨b, 1 + c.toNat, none⟩ = some (.bool (t.T c)) := by rw [h.cell, treeL_bit]
theorem TreeBlk.kind {w : World} {b : Nat} {t : TV} (h : TreeBlk w b t) : w.cell? ⟨b, 0, none⟩ = some (.int .i64 (t.k : Int)) := by rw [h.cell, treeL_zero]
theorem TreeBlk.parts {w : World} {b : Nat} {t : TV} (h : TreeBlk w b t) : w.cell? ⟨b, 257, none⟩ = some (.slice t.a t.n t.c) := by rw [h.cell, treeL_sl]
theorem TreeBlk.frozen {w : World} {b : Nat} {t : TV} (h : TreeBlk w b t) (i : Nat) : w.frozen? ⟨b, i, none⟩ = false := by
  unfold TreeBlk at h; simp [World.frozen?, h]
theorem TreeBlk.set {w : World} {b : Nat} {t : TV} (h : TreeBlk w b t) (c : UInt8) (x : Bool) : TreeBlk (w.setCell ⟨b, 1 + c.toNat, none⟩ (.bool x)) b { t with T := setB t.T c x } := by
  unfold TreeBlk at h ⊢
  simp [World.setCell, Array.getElem?_modify, h, treeC_set]
theorem TreeBlk.setSl {w : World} {b : Nat} {t : TV} (h : TreeBlk w b t) (a : Option Addr) (n c : Nat) : TreeBlk (w.setCell ⟨b, 257, none⟩ (.slice a n c)) b { t with a := a, n := n, c := c } := by
  unfold TreeBlk at h ⊢
  have e : (treeC t).setIfInBounds 257 (.slice a n c) = treeC { t with a := a, n := n, c := c } := by
    unfold treeC
    simp [treeL_setSl]
  simp [World.setCell, Array.getElem?_modify, h, e]
theorem TreeBlk.of {w w' : World} {b : Nat} {t : TV} (h : TreeBlk w b t) (e : w'.heap[b]? = w.heap[b]?) : TreeBlk w' b t := e.trans h
theorem TreeBlk.kept {w w' : World} {b : Nat} {t : TV} {r : Option Nat} (h : TreeBlk w b t) (hg : w.grownBy w' r) (hr : some b ≠ r) : TreeBlk w' b t := (hg.block b h.lt hr).trans h
theorem TreeBlk.new (w : World) (t : TV) : TreeBlk (w.alloc (.cells (treeC t) 207)) w.heap.size t := heap_alloc_last w _
theorem TreeBlk.new' (w : World) (t : TV) (n : Nat) (hn : n = w.heap.size) : TreeBlk (w.alloc (.cells (treeC t) 207)) n t := by subst hn; exact TreeBlk.new w t
theorem TreeBlk.alloc {w : World} {b : Nat} {t : TV} (h : TreeBlk w b t) (o : Obj) : TreeBlk (w.alloc o) b t := (Below.heap_alloc w o b h.lt).trans h
theorem TreeBlk.load {w : World} {b : Nat} {t : TV} (h : TreeBlk w b t) : (loadVar 207 ⟨b, 0, none⟩).run Tryz.prog w = .ok (.agg (treeC t)) w :=
  run_loadVar_row w b 207 207 (treeC t) (0, 0) _ h Tryz.underlying207 rfl (size_tree t)
theorem TreeBlk.loadAt {w : World} {b : Nat} {t : TV} (h : TreeBlk w b t) : (Instr.loadAt 207 (.pointer (some ⟨b, 0, none⟩))).run Tryz.prog w = .ok (.agg (treeC t)) w := by
  simp only [Instr.loadAt, Instr.sureAddr, Sem.run_bind, Sem.run_pure, Result.andThen_ok, h.load]
theorem TreeBlk.store {w : World} {b : Nat} {t : TV} (h : TreeBlk w b t) (t' : TV) : (storeVar 207 ⟨b, 0, none⟩ (.agg (treeC t'))).run Tryz.prog w = .ok () (w.setRow b (treeC t')) :=
  run_storeVar_row w b 207 207 (treeC t) (treeC t') h (size_tree t') (by rw [treeC_size, treeC_size]) (treeC_one t')
theorem TreeBlk.storeAt {w : World} {b : Nat} {t : TV} (h : TreeBlk w b t) (t' : TV) : (Instr.storeAt 207 (.pointer (some ⟨b, 0, none⟩)) (.agg (treeC t'))).run Tryz.prog w = .ok () (w.setRow b (treeC t')) := by
  simp only [Instr.storeAt, Instr.sureAddr, Sem.run_bind, Sem.run_pure, Result.andThen_ok, h.store]
theorem TreeBlk.row {w : World} {b : Nat} {t : TV} (h : TreeBlk w b t) (t' : TV) : TreeBlk (w.setRow b (treeC t')) b t' := setRow_heap w b _ _ _ _ h
theorem below_setRow {B : Nat} {w0 w : World} (h : Below B w0 w) (b : Nat) (hb : B ≤ b) (cs : Array Value) : Below B w0 (w.setRow b cs) :=
  ⟨h.os, h.tape, h.output, by show _ ≤ (w.heap.modify b _).size; rw [Array.size_modify]; exact h.size, fun k hk => (setRow_other w b k cs (by omega)).trans (h.block k hk)⟩

end Go.Proofs.YtcngifkoopcmeaaGreatDoor
namespace Go.Proofs.YtcngifkoopcmeaaGreatDoor
open Go.RowKit

theorem wp_load_tree {op : Oper} {a : Act} {w : World} {K : Act → World → Prop} {Q : Exit → Act → World → Prop} (x : Operand) (ho : op.op = .load 207 x) (b : Nat) (hx : a.eval x = .pointer (some ⟨b, 0, none⟩)) {t : TV} (h : TreeBlk w b t)
    (hk : K (a.put op.dst (.agg (treeC t))) w) : op.wp Tryz.prog a w K Q := by
  unfold Oper.wp execOp
  simp only [ho, hx, Instr.loadAt, Instr.sureAddr, Sem.run_bind, Sem.run_pure, Result.andThen_ok, h.load]
  exact hk
theorem wp_store_tree {op : Oper} {a : Act} {w : World} {K : Act → World → Prop} {Q : Exit → Act → World → Prop} (x y : Operand) (ho : op.op = .store 207 x y) (b : Nat) (hx : a.eval x = .pointer (some ⟨b, 0, none⟩)) (t' : TV) (hy : a.eval y = .agg (treeC t')) {t : TV} (h : TreeBlk w b t)
    (hk : K (a.put op.dst undef) (w.setRow b (treeC t'))) : op.wp Tryz.prog a w K Q := by
  unfold Oper.wp execOp
  simp only [ho, hx, hy, Instr.storeAt, Instr.sureAddr, Sem.run_bind, Sem.run_pure, Result.andThen_ok, h.store]
  exact hk

theorem stop_load {op : Oper} {a : Act} {w : World} {K : Act → World → Prop} {Q : Exit → Act → World → Prop} (x : Operand) (_ : op.op = .load 207 x) (h : Hid (op.wp Tryz.prog a w K Q)) : op.wp Tryz.prog a w K Q := h.out
theorem stop_store {op : Oper} {a : Act} {w : World} {K : Act → World → Prop} {Q : Exit → Act → World → Prop} (x y : Operand) (_ : op.op = .store 207 x y) (h : Hid (op.wp Tryz.prog a w K Q)) : op.wp Tryz.prog a w K Q := h.out

theorem TreeBlk.storeCells {w : World} {b : Nat} {t : TV} (h : TreeBlk w b t) (t' : TV) : (storeCells ⟨b, 0, none⟩ (treeC t').toList).run Tryz.prog w = .ok () (w.setRow b (treeC t')) := by
  have := run_storeCells_from (P := Tryz.prog) b 207 (treeC t').toList 0 (treeC t) w h (by simp [treeC_size]) (fun v hv => treeL_one t' hv)
  rw [this]
  simp
theorem results_tree1 {fn : Func} {p : Tmp} (h : fn.results = #[.cell p 207]) (tmps : Array Value) (w : World) (b : Nat) {t : TV} (hp : tmps.getD p undef = .pointer (some ⟨b, 0, none⟩)) (ht : TreeBlk w b t) :
    (results fn tmps).run Tryz.prog w = .ok (.agg (treeC t)) w := by
  have hp' : tmps[p]?.getD undef = .pointer (some ⟨b, 0, none⟩) := by simpa using hp
  simp [results, h, hp', asAddr, ht.load]
theorem results_tree3 {fn : Func} {p u v : Tmp} (h : fn.results = #[.cell p 207, .tmp u, .tmp v]) (tmps : Array Value) (w : World) (b : Nat) {t : TV} (hp : tmps.getD p undef = .pointer (some ⟨b, 0, none⟩)) (ht : TreeBlk w b t) :
    (results fn tmps).run Tryz.prog w = .ok (.tuple #[.agg (treeC t), tmps.getD u undef, tmps.getD v undef]) w := by
  have hp' : tmps[p]?.getD undef = .pointer (some ⟨b, 0, none⟩) := by simpa using hp
  simp [results, h, hp', asAddr, ht.load]

set_option maxRecDepth 20000 in
set_option maxHeartbeats 1000000 in
theorem one_any (c : UInt8) (w : World) : Calls Tryz.prog 208 #[.int .u8 c.toNat] w fun e w' => e = .returned (.agg (treeC (oneT (setB noneB c true)))) ∧ Below w.heap.size w w' := by
  have kz := zero_tree
  have hc : (c.toNat : Int) < 256 := by have := c.toNat_lt; omega
  have hbit : (treeC (noT 0))[1 + c.toNat]? = some (.bool false) := by rw [treeC_get, treeL_bit]; rfl
  have hset := treeC_set (noT 0) c true
  obtain ⟨t, HT⟩ : ∃ t, Hid (oneT (setB noneB c true) = t) := ⟨_, Lib.hid rfl⟩
  rw [HT.out]
  go_enter Tryz.func208, Tryz.ntmps208
  go_wp2_with (refine stop_load _ rfl ?_)
  refine Lib.hid ?_
  have t1 := (TreeBlk.new w (noT 0)).alloc (.cells (treeC { noT 0 with T := setB (noT 0).T c true }) 207)
  have t2 := TreeBlk.new' (w.alloc (.cells (treeC (noT 0)) 207)) { noT 0 with T := setB (noT 0).T c true } (w.heap.size + 1) (by simp)
  have hb := ((Below.refl w.heap.size w).alloc (Nat.le_refl _) (.cells (treeC (noT 0)) 207)).alloc (by simp) (.cells (treeC { noT 0 with T := setB (noT 0).T c true }) 207)
  generalize (w.alloc (.cells (treeC (noT 0)) 207)).alloc (.cells (treeC { noT 0 with T := setB (noT 0).T c true }) 207) = W at *
  clear hset hbit kz
  change TreeBlk W _ (oneT (setB noneB c true)) at t2
  rw [HT.out] at t2
  refine wp_load_tree _ rfl _ rfl t2 ?_
  have kn := treeC_size t
  have ks := t1.storeCells t
  have t3 := t1.row t
  have hb3 := below_setRow hb w.heap.size (Nat.le_refl _) (treeC t)
  generalize W.setRow _ _ = W3 at *
  clear t1 t2 hb
  go_wp2
  exact bodyPost_ret (results_tree1 rfl _ _ _ rfl t3) rfl ⟨rfl, hb3⟩

/-- A byte of a set's item, of a text. -/
def BE (l : List UInt8) (e : Ending) : Prop := (pByte l = none ∧ e = .returned (.tuple #[.int .u8 0, .string ⟨#[]⟩, .bool false])) ∨ ∃ c s', pByte l = some (c, s'.data.toList) ∧ e = .returned (.tuple #[.int .u8 (c.toNat : Int), .string s', .bool true])

theorem extract_list (s : ByteArray) (k : Nat) : (s.extract k s.size).data.toList = s.data.toList.drop k := by
  rw [ByteArray.data_extract, Array.toList_extract, List.extract_eq_take_drop, List.take_of_length_le]
  simp
theorem bytes_nil {s : ByteArray} (h : s.size = 0) : s.data.toList = [] := List.eq_nil_of_length_eq_zero (by simpa using h)
theorem bytes_cons (s : ByteArray) (h : 0 < s.size) : s.data.toList = s[0] :: (s.extract 1 s.size).data.toList := by
  rw [extract_list]
  have h' : 0 < s.data.toList.length := by simpa using h
  have := List.drop_eq_getElem_cons h'
  rw [List.drop_zero] at this
  exact this
theorem bytes_cons2 (s : ByteArray) (h : 1 < s.size) : s.data.toList = s[0] :: s[1] :: (s.extract 2 s.size).data.toList := by
  rw [bytes_cons s (by omega), extract_list, extract_list]
  congr 1
  have h' : 1 < s.data.toList.length := by simpa using h
  exact List.drop_eq_getElem_cons h'
theorem isEmpty_no {s : ByteArray} (h : 0 < s.size) : s.toList.isEmpty = false := by
  rw [Bool.eq_false_iff]
  intro e
  rw [ByteArray.toList_eq, List.isEmpty_iff] at e
  have : s.size = 0 := by simpa using congrArg List.length e
  omega
theorem isEmpty_yes {s : ByteArray} (h : s.size = 0) : s.toList.isEmpty = true := by rw [ByteArray.toList_eq, List.isEmpty_iff, bytes_nil h]
theorem beq_no {a : UInt8} {n : Nat} (_ : n < 256) (h : a ≠ UInt8.ofNat n) : ((a.toNat : Int) == (n : Int)) = false := by
  rw [beq_eq_false_iff_ne]
  intro e
  refine h ?_
  have : a.toNat = n := by omega
  rw [← this, UInt8.ofNat_toNat]
theorem beq_yes {a : UInt8} {n : Nat} (hn : n < 256) (h : a = UInt8.ofNat n) : ((a.toNat : Int) == (n : Int)) = true := by
  subst h
  rw [beq_iff_eq, UInt8.toNat_ofNat']
  omega
theorem bne_no {a : UInt8} {n : Nat} (hn : n < 256) (h : a = UInt8.ofNat n) : ((a.toNat : Int) != (n : Int)) = false := by rw [bne, beq_yes hn h]; rfl
theorem bne_yes {a : UInt8} {n : Nat} (hn : n < 256) (h : a ≠ UInt8.ofNat n) : ((a.toNat : Int) != (n : Int)) = true := by rw [bne, beq_no hn h]; rfl

set_option maxHeartbeats 1000000 in
theorem inSet_any (s : ByteArray) (w : World) (hs : s.size ≤ 9223372036854775807) : Calls Tryz.prog 221 #[.string s] w fun e w' => BE s.data.toList e ∧ Below w.heap.size w w' := by
  by_cases h0 : s.size = 0
  · have hne := isEmpty_yes h0
    rw [bytes_nil h0]
    clear h0
    go_enter Tryz.func221, Tryz.ntmps221
    go_wp2
    go_ret3
    exact ⟨.inl ⟨rfl, rfl⟩, Below.refl _ _⟩
  · have hp : (0 : Int) < (s.size : Int) := by omega
    have hp2 : 0 < s.size := by omega
    have hne := isEmpty_no hp2
    have HC := Lib.hid (bytes_cons s hp2)
    by_cases h93 : s[0] = 93
    · have q93 := beq_yes (n := 93) (by decide) h93
      have HF : Hid (pByte s.data.toList = none) := Lib.hid (by rw [HC.out, h93]; rfl)
      clear h93 HC
      go_enter Tryz.func221, Tryz.ntmps221
      go_wp2
      go_ret3
      exact ⟨.inl ⟨HF.out, rfl⟩, Below.refl _ _⟩
    · have q93 := beq_no (n := 93) (by decide) h93
      by_cases h92 : s[0] = 92
      · have q92 := bne_no (n := 92) (by decide) h92
        by_cases h2 : s.size < 2
        · have hl2 : (s.size : Int) < 2 := by omega
          have HF : Hid (pByte s.data.toList = none) := Lib.hid (by
            rw [HC.out, h92, extract_list, List.drop_eq_nil_of_le (by simp; omega)]; rfl)
          clear h93 h92 HC
          go_enter Tryz.func221, Tryz.ntmps221
          go_wp2
          go_ret3
          exact ⟨.inl ⟨HF.out, rfl⟩, Below.refl _ _⟩
        · have hl2 : ¬ (s.size : Int) < 2 := by omega
          have hl3 : 1 < s.size := by omega
          have hl4 : (2 : Int) ≤ (s.size : Int) := by omega
          have hl5 : (1 : Int) < (s.size : Int) := by omega
          have HF : Hid (pByte s.data.toList = some (s[1], (s.extract 2 s.size).data.toList)) := Lib.hid (by
            rw [bytes_cons2 s hl3, h92]; rfl)
          clear h93 h92 HC
          go_enter Tryz.func221, Tryz.ntmps221
          go_wp2
          go_quiet (fail)
          go_wp2
          go_ret3
          exact ⟨.inr ⟨_, _, HF.out, rfl⟩, below_drawn _ _⟩
      · have q92 := bne_yes (n := 92) (by decide) h92
        have HF : Hid (pByte s.data.toList = some (s[0], (s.extract 1 s.size).data.toList)) := Lib.hid (by
            rw [HC.out]; simp only [pByte]; rw [if_neg h93, if_neg h92])
        clear h93 h92 HC
        go_enter Tryz.func221, Tryz.ntmps221
        go_wp2
        go_quiet (fail)
        go_wp2
        go_ret3
        exact ⟨.inr ⟨_, _, HF.out, rfl⟩, below_drawn _ _⟩

theorem inSet_no (s : ByteArray) (w : World) (hs : s.size ≤ 9223372036854775807) (h : pByte s.data.toList = none) : Calls Tryz.prog 221 #[.string s] w fun e w' => e = .returned (.tuple #[.int .u8 0, .string ⟨#[]⟩, .bool false]) ∧ Below w.heap.size w w' :=
  (inSet_any s w hs).mono fun e w' ⟨hE, hb⟩ => by
    rcases hE with ⟨-, h2⟩ | ⟨c, s', h1, -⟩
    · exact ⟨h2, hb⟩
    · rw [h] at h1; cases h1
theorem inSet_ok (s : ByteArray) (w : World) (hs : s.size ≤ 9223372036854775807) (a : UInt8) (s2 : ByteArray) (h : pByte s.data.toList = some (a, s2.data.toList)) : Calls Tryz.prog 221 #[.string s] w fun e w' => e = .returned (.tuple #[.int .u8 (a.toNat : Int), .string s2, .bool true]) ∧ Below w.heap.size w w' :=
  (inSet_any s w hs).mono fun e w' ⟨hE, hb⟩ => by
    rcases hE with ⟨h1, -⟩ | ⟨c, s', h1, h2⟩
    · rw [h] at h1; cases h1
    · rw [h] at h1
      injection h1 with h1
      injection h1 with e1 e2
      obtain rfl : s2 = s' := by
        cases s2; cases s'
        congr 1
        exact Array.toList_inj.1 e2
      subst e1
      exact ⟨h2, hb⟩
theorem byte_some {l l' : List UInt8} {a : UInt8} (h : pByte l = some (a, l')) : ∃ s2 : ByteArray, pByte l = some (a, s2.data.toList) := ⟨⟨l'.toArray⟩, by rw [h]⟩

end Go.Proofs.YtcngifkoopcmeaaGreatDoor
namespace Go.Proofs.YtcngifkoopcmeaaGreatDoor
open Go.RowKit

theorem build_k (k : Nat) : (treeC (noT 0)).setIfInBounds 0 (.int .i64 (k : Int)) = treeC (noT k) := by
  unfold treeC
  simp [treeL, noT]
/-- A tree stored into the block that was made last. -/
theorem store_last (w : World) (n : Nat) (hn : n = w.heap.size) (t t' : TV) : (storeCells ⟨n, 0, none⟩ (treeC t').toList).run Tryz.prog (w.alloc (.cells (treeC t) 207)) = .ok () (w.alloc (.cells (treeC t') 207)) := by
  subst hn
  rw [(TreeBlk.new w t).storeCells t', World.setRow_alloc_new]

/-! Rows of trees. -/
def trow (ts : List TV) : List Value := ts.flatMap treeL
theorem trow_cons (p : TV) (r : List TV) : trow (p :: r) = treeL p ++ trow r := rfl
theorem trow_len : ∀ ts : List TV, (trow ts).length = ts.length * 258
  | [] => rfl
  | p :: r => by
    rw [trow_cons, List.length_append, trow_len r, treeL_len, List.length_cons]
    omega
theorem trow_append (a b : List TV) : trow (a ++ b) = trow a ++ trow b := List.flatMap_append
theorem trow_one (t : TV) : trow [t] = treeL t := by rw [trow_cons]; exact List.append_nil _
theorem trow_get : ∀ (ts : List TV) (i : Nat) (hi : i < ts.length) (j : Nat), j < 258 → (trow ts)[i * 258 + j]? = (treeL ts[i])[j]?
  | p :: r, 0, _, j, hj => by
    rw [trow_cons, List.getElem?_append_left (by rw [treeL_len]; omega)]
    simp
  | p :: r, i + 1, hi, j, hj => by
    have := trow_get r i (by simpa using hi) j hj
    rw [trow_cons, List.getElem?_append_right (by rw [treeL_len]; omega), treeL_len, show (i + 1) * 258 + j - 258 = i * 258 + j by omega, this]
    rfl
def OwnTr (w : World) (B : Nat) (v : Value) (ts : List TV) : Prop := w.ownsRow B 207 258 v ts.length (trow ts)
theorem infoTree : (Tryz.prog.info? 207).map (fun i => (i.zero, i.size, i.bytes)) = some (some (.agg (treeC (noT 0))), 258, 288) := by kernel_rfl
theorem OwnTr.form {w : World} {B : Nat} {v : Value} {ts : List TV} (h : OwnTr w B v ts) : ∃ a c, v = .slice a ts.length c ∧ ∀ q, a = some q → q = ⟨q.block, 0, none⟩ := by
  rcases h.2 with ⟨rfl, h0⟩ | ⟨g, cap, cur, rfl, hg0, hg1, hcap, hmax, hcs, htk⟩
  · exact ⟨none, 0, by rw [h0], fun q hq => by cases hq⟩
  · refine ⟨_, _, rfl, fun q hq => ?_⟩
    obtain rfl := Option.some.inj hq
    rfl
theorem run_append_tree (ty : TypeId) (w : World) (B : Nat) (v : Value) (ts : List TV) (hown : OwnTr w B v ts) (g c : Nat) (p : TV) (hg : ∀ j, w.cell? ⟨g, j, none⟩ = (treeL p)[j]?) (hb : ts.length ≤ 1000) (hB : B ≤ w.heap.size) :
    ∃ a' c' w', (Builtin.append_ #[205, 205] ty #[v, .slice (some ⟨g, 0, none⟩) 1 c]).run Tryz.prog w = .ok (.slice a' (ts.length + 1) c') w' ∧ OwnTr w' B (.slice a' (ts.length + 1) c') (ts ++ [p]) ∧ w.grownBy w' v.ownBlock ∧ ((Value.slice a' (ts.length + 1) c').ownBlock = v.ownBlock ∨ (Value.slice a' (ts.length + 1) c').ownBlock = some w.heap.size) := by
  obtain ⟨i0, hi, hi0, hi1, hi2⟩ := info_parts infoTree
  obtain ⟨v', w', hr, h1, h2, -, h4⟩ := run_append_own_at (P := Tryz.prog) w B 205 ty 207 i0 _ 258 288 Tryz.underlying205 hi hi0 hi1 hi2 (treeC_size _) (by decide) v ts.length (trow ts) hown ⟨g, 0, none⟩ 1 c (treeL p) (treeL_len p) (fun j u hj => by
    rw [Go.WideShapes.add_plain, Nat.zero_add, hg j, hj]) (fun u hu => treeL_one p hu) (by unfold maxLen; omega) (by omega) hB
  have h3 : OwnTr w' B v' (ts ++ [p]) := by
    unfold OwnTr
    rw [trow_append, trow_one, List.length_append]
    exact h1
  obtain ⟨a', c', hv, -⟩ := h3.form
  rw [List.length_append, List.length_singleton] at hv
  subst hv
  exact ⟨a', c', w', hr, h3, h2, h4⟩

end Go.Proofs.YtcngifkoopcmeaaGreatDoor
namespace Go.Proofs.YtcngifkoopcmeaaGreatDoor
open Go.RowKit

/-- A row of trees can be read; it lies in a block of those that are named. -/
def TreesAt (w : World) (X : Nat → Prop) (a : Option Addr) (n : Nat) (ts : List TV) : Prop :=
  ts.length = n ∧ n ≤ 9223372036854775807 ∧ (n = 0 ∨ ∃ g, a = some ⟨g, 0, none⟩ ∧ X g ∧ ∀ i (hi : i < ts.length) j, j < 258 → w.cell? ⟨g, i * 258 + j, none⟩ = (treeL ts[i])[j]?)
/-- What a tree means, up to a depth; the rows of its parts lie in blocks of those that are named. -/
def Den : Nat → World → (Nat → Prop) → TV → Lang → Prop
  | 0, _, _, _, _ => False
  | d + 1, w, X, t, A => (t.k = 0 ∧ ∀ s, A s ↔ setL t.T s) ∨ ∃ (ts : List TV) (Ls : List Lang), TreesAt w X t.a t.n ts ∧ ts.length = Ls.length ∧ (∀ i (h1 : i < ts.length) (h2 : i < Ls.length), Den d w X ts[i] Ls[i]) ∧
      ((t.k = 1 ∧ ∀ s, A s ↔ (Ls.foldl catL epsL) s) ∨ (t.k = 2 ∧ ∀ s, A s ↔ (Ls.foldl altL noL) s) ∨ ∃ L, Ls = [L] ∧ ((t.k = 3 ∧ ∀ s, A s ↔ optL (PlusL L) s) ∨ (t.k = 4 ∧ ∀ s, A s ↔ PlusL L s) ∨ (t.k = 5 ∧ ∀ s, A s ↔ optL L s)))

theorem TreesAt.keep {w w' : World} {X Y : Nat → Prop} {a : Option Addr} {n : Nat} {ts : List TV} (h : TreesAt w X a n ts) (hw : ∀ b, X b → w'.heap[b]? = w.heap[b]?) (hX : ∀ b, X b → Y b) : TreesAt w' Y a n ts := by
  refine ⟨h.1, h.2.1, h.2.2.imp id ?_⟩
  rintro ⟨g, e, hg, hc⟩
  exact ⟨g, e, hX g hg, fun i hi j hj => by rw [World.cell?_of_block (w := w) (hw g hg)]; exact hc i hi j hj⟩
theorem Den.keep {w w' : World} {X Y : Nat → Prop} (hw : ∀ b, X b → w'.heap[b]? = w.heap[b]?) (hX : ∀ b, X b → Y b) : ∀ (d : Nat) (t : TV) (A : Lang), Den d w X t A → Den d w' Y t A
  | 0, _, _, h => h
  | d + 1, t, A, h => by
    rcases h with h | ⟨ts, Ls, h1, h2, h3, h4⟩
    · exact .inl h
    · exact .inr ⟨ts, Ls, h1.keep hw hX, h2, fun i a b => Den.keep hw hX d _ _ (h3 i a b), h4⟩
theorem Den.more : ∀ (d : Nat) {w : World} {X : Nat → Prop} {t : TV} {A : Lang}, Den d w X t A → Den (d + 1) w X t A
  | 0, _, _, _, _, h => by cases h
  | d + 1, _, _, _, _, h => by
    rcases h with h | ⟨ts, Ls, h1, h2, h3, h4⟩
    · exact .inl h
    · exact .inr ⟨ts, Ls, h1, h2, fun i a b => Den.more d (h3 i a b), h4⟩
theorem Den.le {d e : Nat} (hde : d ≤ e) {w : World} {X : Nat → Prop} {t : TV} {A : Lang} (h : Den d w X t A) : Den e w X t A := by
  induction hde with
  | refl => exact h
  | step _ ih => exact ih.more
theorem Den.as {w : World} {X : Nat → Prop} {t : TV} {A B : Lang} : ∀ {d : Nat}, Den d w X t A → (∀ s, A s ↔ B s) → Den d w X t B
  | 0, h, _ => h
  | d + 1, h, e => by
    have e' : ∀ {C : Lang}, (∀ s, A s ↔ C s) → ∀ s, B s ↔ C s := fun hc s => (e s).symm.trans (hc s)
    rcases h with ⟨h1, h2⟩ | ⟨ts, Ls, h1, h2, h3, h4⟩
    · exact .inl ⟨h1, e' h2⟩
    · refine .inr ⟨ts, Ls, h1, h2, h3, ?_⟩
      rcases h4 with ⟨a, b⟩ | ⟨a, b⟩ | ⟨L, h5, ⟨a, b⟩ | ⟨a, b⟩ | ⟨a, b⟩⟩
      · exact .inl ⟨a, e' b⟩
      · exact .inr (.inl ⟨a, e' b⟩)
      · exact .inr (.inr ⟨L, h5, .inl ⟨a, e' b⟩⟩)
      · exact .inr (.inr ⟨L, h5, .inr (.inl ⟨a, e' b⟩)⟩)
      · exact .inr (.inr ⟨L, h5, .inr (.inr ⟨a, e' b⟩)⟩)
theorem Den.set (w : World) (X : Nat → Prop) (T : BSet) : Den 1 w X (oneT T) (setL T) := .inl ⟨rfl, fun _ => Iff.rfl⟩

end Go.Proofs.YtcngifkoopcmeaaGreatDoor
namespace Go.Proofs.YtcngifkoopcmeaaGreatDoor
open Go.RowKit

def GG (m : Nat) (T : BSet) (l : List UInt8) : Option (BSet × List UInt8) := if l.head? = some 93 then some (T, l.drop 1) else pItems m T l
/-- What is left to read, behind n items. -/
def Inv (R : Option (BSet × List UInt8)) (n : Nat) (T : BSet) (l : List UInt8) : Prop := ∃ m, l.length < m ∧ R = if n = 0 then pItems m T l else GG m T l
theorem items_none {m : Nat} {T : BSet} {l : List UInt8} (h : pByte l = none) : pItems m T l = none := by
  cases m with
  | zero => rfl
  | succ m => rw [pItems_step]; unfold pItem; rw [h]
theorem Inv.nil {R : Option (BSet × List UInt8)} {n : Nat} {T : BSet} (h : Inv R n T []) : R = none := by
  obtain ⟨m, hm, rfl⟩ := h
  have e : ∀ m, pItems m T [] = none := fun m => items_none rfl
  split
  · exact e m
  · unfold GG; rw [if_neg (by simp)]; exact e m
theorem Inv.zero {R : Option (BSet × List UInt8)} {T : BSet} {x : List UInt8} (h : Inv R 0 T (93 :: x)) : R = none := by
  obtain ⟨m, hm, rfl⟩ := h
  rw [if_pos rfl]
  exact items_none rfl
theorem Inv.close {R : Option (BSet × List UInt8)} {n : Nat} {T : BSet} {x : List UInt8} (hn : n ≠ 0) (h : Inv R n T (93 :: x)) : R = some (T, x) := by
  obtain ⟨m, hm, rfl⟩ := h
  rw [if_neg hn]; rfl
theorem Inv.none {R : Option (BSet × List UInt8)} {n : Nat} {T : BSet} {c : UInt8} {x : List UInt8} (hc : c ≠ 93) (h : Inv R n T (c :: x)) (hp : pItem T (c :: x) = .none) : R = .none := by
  obtain ⟨m, hm, rfl⟩ := h
  have e : pItems m T (c :: x) = .none := by
    cases m with
    | zero => rfl
    | succ m => rw [pItems_step, hp]
  split
  · exact e
  · unfold GG; rw [if_neg (by simpa using hc)]; exact e
theorem Inv.next {R : Option (BSet × List UInt8)} {n : Nat} {T T' : BSet} {c : UInt8} {x l' : List UInt8} (hc : c ≠ 93) (h : Inv R n T (c :: x)) (hp : pItem T (c :: x) = some (T', l')) : Inv R (n + 1) T' l' := by
  obtain ⟨m, hm, rfl⟩ := h
  have hl := pItem_len hp
  obtain ⟨m, rfl⟩ : ∃ k, m = k + 1 := ⟨m - 1, by omega⟩
  have e : pItems (m + 1) T (c :: x) = GG m T' l' := by rw [pItems_step, hp]; rfl
  refine ⟨m, by omega, ?_⟩
  rw [if_neg (Nat.succ_ne_zero n)]
  split
  · exact e
  · rw [← e]; unfold GG; rw [if_neg (by simpa using hc)]

/-- Bytes from one on, below another. -/
def rngB (T : BSet) (a k : Nat) : BSet := fun c => T c || (decide (a ≤ c.toNat) && decide (c.toNat < k))
theorem rng_start (T : BSet) (a : Nat) : rngB T a a = T := by
  funext c
  unfold rngB
  by_cases h : a ≤ c.toNat
  · simp [show ¬ c.toNat < a by omega]
  · simp [h]
theorem rng_step (T : BSet) (a : Nat) (d : UInt8) (h : a ≤ d.toNat) : setB (rngB T a d.toNat) d true = rngB T a (d.toNat + 1) := by
  funext c
  unfold setB rngB
  by_cases e : c = d
  · subst e; simp [h]
  · have : c.toNat ≠ d.toNat := fun x => e (UInt8.toNat_inj.1 x)
    rw [if_neg e]
    congr 2
    rw [decide_eq_decide]
    omega
theorem rng_end (T : BSet) (a b : UInt8) : rngB T a.toNat (b.toNat + 1) = addB T a b := by
  funext c
  unfold rngB addB
  congr 2
  rw [decide_eq_decide, UInt8.le_iff_toNat_le]
  omega
/-- The first bytes turned round. -/
def negB (T : BSet) (k : Nat) : BSet := fun c => if c.toNat < k then !T c else T c
theorem neg_start (T : BSet) : negB T 0 = T := by funext c; simp [negB]
theorem neg_get (T : BSet) (d : UInt8) : negB T d.toNat d = T d := by simp [negB]
theorem neg_step (T : BSet) (d : UInt8) : setB (negB T d.toNat) d (!T d) = negB T (d.toNat + 1) := by
  funext c
  unfold setB negB
  by_cases e : c = d
  · subst e; simp
  · have : c.toNat ≠ d.toNat := fun x => e (UInt8.toNat_inj.1 x)
    rw [if_neg e]
    by_cases h : c.toNat < d.toNat
    · rw [if_pos h, if_pos (by omega)]
    · rw [if_neg h, if_neg (by omega)]
theorem neg_end (T : BSet) : negB T 256 = notB T := by
  funext c
  have := c.toNat_lt
  unfold negB notB
  rw [if_pos (by omega)]
theorem u8_of (k : Nat) (h : k < 256) : ∃ d : UInt8, d.toNat = k := ⟨UInt8.ofNat k, by rw [UInt8.toNat_ofNat']; omega⟩

/-- What a set is told as. -/
def SE (l : List UInt8) (e : Ending) : Prop := (pSet l = none ∧ ∃ t, e = .returned (.tuple #[.agg (treeC t), .string ⟨#[]⟩, .bool false])) ∨ ∃ T s', pSet l = some (T, s'.data.toList) ∧ e = .returned (.tuple #[.agg (treeC (oneT T)), .string s', .bool true])

def strSize : Value → Nat
  | .string s => s.size
  | _ => 0
theorem TreeBlk.below {w w' : World} {b : Nat} {t : TV} (h : TreeBlk w b t) (hb : Below w.heap.size w w') : TreeBlk w' b t := h.of (hb.block b h.lt)


end Go.Proofs.YtcngifkoopcmeaaGreatDoor
namespace Go.Proofs.YtcngifkoopcmeaaGreatDoor
open Go.RowKit

theorem spec_mem (c : UInt8) : isSpec c = true ↔ c ∈ specs := by unfold isSpec; simp
set_option maxHeartbeats 1000000 in
theorem refSpecial_any (c : UInt8) (w : World) : Calls Tryz.prog 209 #[.int .u8 c.toNat] w fun e w' => e = .returned (.bool (isSpec c)) ∧ w' = w := by
  cases hs : isSpec c with
  | true =>
    have h := (spec_mem c).1 hs
    clear hs
    simp only [specs, List.mem_cons, List.not_mem_nil, or_false] at h
    rcases h with rfl | rfl | rfl | rfl | rfl | rfl | rfl | rfl | rfl | rfl
    all_goals
      go_enter Tryz.func209, Tryz.ntmps209
      go_wp2
      go_ret
      exact ⟨rfl, rfl⟩
  | false =>
    have h : ∀ d ∈ specs, c ≠ d := fun d hd e => by
      rw [e, (spec_mem d).2 hd] at hs
      cases hs
    clear hs
    have m0 := n8 (z := 40) (h 40 (by decide)) rfl
    have m1 := n8 (z := 41) (h 41 (by decide)) rfl
    have m2 := n8 (z := 91) (h 91 (by decide)) rfl
    have m3 := n8 (z := 93) (h 93 (by decide)) rfl
    have m4 := n8 (z := 124) (h 124 (by decide)) rfl
    have m5 := n8 (z := 42) (h 42 (by decide)) rfl
    have m6 := n8 (z := 43) (h 43 (by decide)) rfl
    have m7 := n8 (z := 63) (h 63 (by decide)) rfl
    have m8 := n8 (z := 46) (h 46 (by decide)) rfl
    have m9 := n8 (z := 92) (h 92 (by decide)) rfl
    clear h
    go_enter Tryz.func209, Tryz.ntmps209
    go_wp2
    go_ret
    exact ⟨rfl, rfl⟩

theorem spec_false {c : UInt8} (h : isSpec c = false) : c ≠ 40 ∧ c ≠ 91 ∧ c ≠ 46 ∧ c ≠ 92 ∧ c ≠ 124 ∧ c ≠ 41 ∧ c ≠ 42 ∧ c ≠ 43 ∧ c ≠ 63 := by
  refine ⟨?_, ?_, ?_, ?_, ?_, ?_, ?_, ?_, ?_⟩ <;> (rintro rfl; revert h; decide)

end Go.Proofs.YtcngifkoopcmeaaGreatDoor
