/-
  The reference's trees: a set of one byte; a set's item; sets.
-/
import Derived.Test.YthaimnmbcbhioaaDoorXTree
namespace Go.Proofs.YthaimnmbcbhioaaDoor
open Go.RowKit

theorem wp_load_tree {op : Oper} {a : Act} {w : World} {K : Act → World → Prop} {Q : Exit → Act → World → Prop} (x : Operand) (ho : op.op = .load 102 x) (b : Nat) (hx : a.eval x = .pointer (some ⟨b, 0, none⟩)) {t : TV} (h : TreeBlk w b t)
    (hk : K (a.put op.dst (.agg (treeC t))) w) : op.wp Tryd.prog a w K Q := by
  unfold Oper.wp execOp
  simp only [ho, hx, Instr.loadAt, Instr.sureAddr, Sem.run_bind, Sem.run_pure, Result.andThen_ok, h.load]
  exact hk
theorem wp_store_tree {op : Oper} {a : Act} {w : World} {K : Act → World → Prop} {Q : Exit → Act → World → Prop} (x y : Operand) (ho : op.op = .store 102 x y) (b : Nat) (hx : a.eval x = .pointer (some ⟨b, 0, none⟩)) (t' : TV) (hy : a.eval y = .agg (treeC t')) {t : TV} (h : TreeBlk w b t)
    (hk : K (a.put op.dst undef) (w.setRow b (treeC t'))) : op.wp Tryd.prog a w K Q := by
  unfold Oper.wp execOp
  simp only [ho, hx, hy, Instr.storeAt, Instr.sureAddr, Sem.run_bind, Sem.run_pure, Result.andThen_ok, h.store]
  exact hk

theorem stop_load {op : Oper} {a : Act} {w : World} {K : Act → World → Prop} {Q : Exit → Act → World → Prop} (x : Operand) (_ : op.op = .load 102 x) (h : Hid (op.wp Tryd.prog a w K Q)) : op.wp Tryd.prog a w K Q := h.out
theorem stop_store {op : Oper} {a : Act} {w : World} {K : Act → World → Prop} {Q : Exit → Act → World → Prop} (x y : Operand) (_ : op.op = .store 102 x y) (h : Hid (op.wp Tryd.prog a w K Q)) : op.wp Tryd.prog a w K Q := h.out

theorem TreeBlk.storeCells {w : World} {b : Nat} {t : TV} (h : TreeBlk w b t) (t' : TV) : (storeCells ⟨b, 0, none⟩ (treeC t').toList).run Tryd.prog w = .ok () (w.setRow b (treeC t')) := by
  have := run_storeCells_from (P := Tryd.prog) b 102 (treeC t').toList 0 (treeC t) w h (by simp [treeC_size]) (fun v hv => treeL_one t' hv)
  rw [this]
  simp
theorem results_tree1 {fn : Func} {p : Tmp} (h : fn.results = #[.cell p 102]) (tmps : Array Value) (w : World) (b : Nat) {t : TV} (hp : tmps.getD p undef = .pointer (some ⟨b, 0, none⟩)) (ht : TreeBlk w b t) :
    (results fn tmps).run Tryd.prog w = .ok (.agg (treeC t)) w := by
  have hp' : tmps[p]?.getD undef = .pointer (some ⟨b, 0, none⟩) := by simpa using hp
  simp [results, h, hp', asAddr, ht.load]
theorem results_tree3 {fn : Func} {p u v : Tmp} (h : fn.results = #[.cell p 102, .tmp u, .tmp v]) (tmps : Array Value) (w : World) (b : Nat) {t : TV} (hp : tmps.getD p undef = .pointer (some ⟨b, 0, none⟩)) (ht : TreeBlk w b t) :
    (results fn tmps).run Tryd.prog w = .ok (.tuple #[.agg (treeC t), tmps.getD u undef, tmps.getD v undef]) w := by
  have hp' : tmps[p]?.getD undef = .pointer (some ⟨b, 0, none⟩) := by simpa using hp
  simp [results, h, hp', asAddr, ht.load]

set_option maxRecDepth 20000 in
set_option maxHeartbeats 1000000 in
theorem one_any (c : UInt8) (w : World) : Calls Tryd.prog 92 #[.int .u8 c.toNat] w fun e w' => e = .returned (.agg (treeC (oneT (setB noneB c true)))) ∧ Below w.heap.size w w' := by
  have kz := zero_tree
  have hc : (c.toNat : Int) < 256 := by have := c.toNat_lt; omega
  have hbit : (treeC (noT 0))[1 + c.toNat]? = some (.bool false) := by rw [treeC_get, treeL_bit]; rfl
  have hset := treeC_set (noT 0) c true
  obtain ⟨t, HT⟩ : ∃ t, Hid (oneT (setB noneB c true) = t) := ⟨_, Lib.hid rfl⟩
  rw [HT.out]
  go_enter Tryd.func92, Tryd.ntmps92
  go_wp2_with (refine stop_load _ rfl ?_)
  refine Lib.hid ?_
  have t1 := (TreeBlk.new w (noT 0)).alloc (.cells (treeC { noT 0 with T := setB (noT 0).T c true }) 102)
  have t2 := TreeBlk.new' (w.alloc (.cells (treeC (noT 0)) 102)) { noT 0 with T := setB (noT 0).T c true } (w.heap.size + 1) (by simp)
  have hb := ((Below.refl w.heap.size w).alloc (Nat.le_refl _) (.cells (treeC (noT 0)) 102)).alloc (by simp) (.cells (treeC { noT 0 with T := setB (noT 0).T c true }) 102)
  generalize (w.alloc (.cells (treeC (noT 0)) 102)).alloc (.cells (treeC { noT 0 with T := setB (noT 0).T c true }) 102) = W at *
  clear hset hbit kz
  change TreeBlk W _ (oneT (setB noneB c true)) at t2
  rw [HT.out] at t2
  refine wp_load_tree _ rfl _ rfl t2 ?_
  have kn := treeC_size t
  have ks := t1.storeCells t
  have t3 := t1.row t
  have hb3 := below_setRow hb w.heap.size (Nat.le_refl _) (treeC t)
  generalize W.setRow _ _ = W3 at *
  clear t1 t2 hb
  go_wp2
  exact bodyPost_ret (results_tree1 rfl _ _ _ rfl t3) rfl ⟨rfl, hb3⟩

/-- A byte of a set's item, of a text. -/
def BE (l : List UInt8) (e : Ending) : Prop := (pByte l = none ∧ e = .returned (.tuple #[.int .u8 0, .string ⟨#[]⟩, .bool false])) ∨ ∃ c s', pByte l = some (c, s'.data.toList) ∧ e = .returned (.tuple #[.int .u8 (c.toNat : Int), .string s', .bool true])

theorem extract_list (s : ByteArray) (k : Nat) : (s.extract k s.size).data.toList = s.data.toList.drop k := by
  rw [ByteArray.data_extract, Array.toList_extract, List.extract_eq_take_drop, List.take_of_length_le]
  simp
theorem bytes_nil {s : ByteArray} (h : s.size = 0) : s.data.toList = [] := List.eq_nil_of_length_eq_zero (by simpa using h)
theorem bytes_cons (s : ByteArray) (h : 0 < s.size) : s.data.toList = s[0] :: (s.extract 1 s.size).data.toList := by
  rw [extract_list]
  have h' : 0 < s.data.toList.length := by simpa using h
  have := List.drop_eq_getElem_cons h'
  rw [List.drop_zero] at this
  exact this
theorem bytes_cons2 (s : ByteArray) (h : 1 < s.size) : s.data.toList = s[0] :: s[1] :: (s.extract 2 s.size).data.toList := by
  rw [bytes_cons s (by omega), extract_list, extract_list]
  congr 1
  have h' : 1 < s.data.toList.length := by simpa using h
  exact List.drop_eq_getElem_cons h'
theorem isEmpty_no {s : ByteArray} (h : 0 < s.size) : s.toList.isEmpty = false := by
  rw [Bool.eq_false_iff]
  intro e
  rw [ByteArray.toList_eq, List.isEmpty_iff] at e
  have : s.size = 0 := by simpa using congrArg List.length e
  omega
theorem isEmpty_yes {s : ByteArray} (h : s.size = 0) : s.toList.isEmpty = true := by rw [ByteArray.toList_eq, List.isEmpty_iff, bytes_nil h]
theorem beq_no {a : UInt8} {n : Nat} (_ : n < 256) (h : a ≠ UInt8.ofNat n) : ((a.toNat : Int) == (n : Int)) = false := by
  rw [beq_eq_false_iff_ne]
  intro e
  refine h ?_
  have : a.toNat = n := by omega
  rw [← this, UInt8.ofNat_toNat]
theorem beq_yes {a : UInt8} {n : Nat} (hn : n < 256) (h : a = UInt8.ofNat n) : ((a.toNat : Int) == (n : Int)) = true := by
  subst h
  rw [beq_iff_eq, UInt8.toNat_ofNat']
  omega
theorem bne_no {a : UInt8} {n : Nat} (hn : n < 256) (h : a = UInt8.ofNat n) : ((a.toNat : Int) != (n : Int)) = false := by rw [bne, beq_yes hn h]; rfl
theorem bne_yes {a : UInt8} {n : Nat} (hn : n < 256) (h : a ≠ UInt8.ofNat n) : ((a.toNat : Int) != (n : Int)) = true := by rw [bne, beq_no hn h]; rfl

set_option maxHeartbeats 1000000 in
theorem inSet_any (s : ByteArray) (w : World) (hs : s.size ≤ 9223372036854775807) : Calls Tryd.prog 97 #[.string s] w fun e w' => BE s.data.toList e ∧ Below w.heap.size w w' := by
  by_cases h0 : s.size = 0
  · have hne := isEmpty_yes h0
    rw [bytes_nil h0]
    clear h0
    go_enter Tryd.func97, Tryd.ntmps97
    go_wp2
    go_ret3
    exact ⟨.inl ⟨rfl, rfl⟩, Below.refl _ _⟩
  · have hp : (0 : Int) < (s.size : Int) := by omega
    have hp2 : 0 < s.size := by omega
    have hne := isEmpty_no hp2
    have HC := Lib.hid (bytes_cons s hp2)
    by_cases h93 : s[0] = 93
    · have q93 := beq_yes (n := 93) (by decide) h93
      have HF : Hid (pByte s.data.toList = none) := Lib.hid (by rw [HC.out, h93]; rfl)
      clear h93 HC
      go_enter Tryd.func97, Tryd.ntmps97
      go_wp2
      go_ret3
      exact ⟨.inl ⟨HF.out, rfl⟩, Below.refl _ _⟩
    · have q93 := beq_no (n := 93) (by decide) h93
      by_cases h92 : s[0] = 92
      · have q92 := bne_no (n := 92) (by decide) h92
        by_cases h2 : s.size < 2
        · have hl2 : (s.size : Int) < 2 := by omega
          have HF : Hid (pByte s.data.toList = none) := Lib.hid (by
            rw [HC.out, h92, extract_list, List.drop_eq_nil_of_le (by simp; omega)]; rfl)
          clear h93 h92 HC
          go_enter Tryd.func97, Tryd.ntmps97
          go_wp2
          go_ret3
          exact ⟨.inl ⟨HF.out, rfl⟩, Below.refl _ _⟩
        · have hl2 : ¬ (s.size : Int) < 2 := by omega
          have hl3 : 1 < s.size := by omega
          have hl4 : (2 : Int) ≤ (s.size : Int) := by omega
          have hl5 : (1 : Int) < (s.size : Int) := by omega
          have HF : Hid (pByte s.data.toList = some (s[1], (s.extract 2 s.size).data.toList)) := Lib.hid (by
            rw [bytes_cons2 s hl3, h92]; rfl)
          clear h93 h92 HC
          go_enter Tryd.func97, Tryd.ntmps97
          go_wp2
          go_quiet (fail)
          go_wp2
          go_ret3
          exact ⟨.inr ⟨_, _, HF.out, rfl⟩, below_drawn _ _⟩
      · have q92 := bne_yes (n := 92) (by decide) h92
        have HF : Hid (pByte s.data.toList = some (s[0], (s.extract 1 s.size).data.toList)) := Lib.hid (by
            rw [HC.out]; simp only [pByte]; rw [if_neg h93, if_neg h92])
        clear h93 h92 HC
        go_enter Tryd.func97, Tryd.ntmps97
        go_wp2
        go_quiet (fail)
        go_wp2
        go_ret3
        exact ⟨.inr ⟨_, _, HF.out, rfl⟩, below_drawn _ _⟩

theorem inSet_no (s : ByteArray) (w : World) (hs : s.size ≤ 9223372036854775807) (h : pByte s.data.toList = none) : Calls Tryd.prog 97 #[.string s] w fun e w' => e = .returned (.tuple #[.int .u8 0, .string ⟨#[]⟩, .bool false]) ∧ Below w.heap.size w w' :=
  (inSet_any s w hs).mono fun e w' ⟨hE, hb⟩ => by
    rcases hE with ⟨-, h2⟩ | ⟨c, s', h1, -⟩
    · exact ⟨h2, hb⟩
    · rw [h] at h1; cases h1
theorem inSet_ok (s : ByteArray) (w : World) (hs : s.size ≤ 9223372036854775807) (a : UInt8) (s2 : ByteArray) (h : pByte s.data.toList = some (a, s2.data.toList)) : Calls Tryd.prog 97 #[.string s] w fun e w' => e = .returned (.tuple #[.int .u8 (a.toNat : Int), .string s2, .bool true]) ∧ Below w.heap.size w w' :=
  (inSet_any s w hs).mono fun e w' ⟨hE, hb⟩ => by
    rcases hE with ⟨h1, -⟩ | ⟨c, s', h1, h2⟩
    · rw [h] at h1; cases h1
    · rw [h] at h1
      injection h1 with h1
      injection h1 with e1 e2
      obtain rfl : s2 = s' := by
        cases s2; cases s'
        congr 1
        exact Array.toList_inj.1 e2
      subst e1
      exact ⟨h2, hb⟩
theorem byte_some {l l' : List UInt8} {a : UInt8} (h : pByte l = some (a, l')) : ∃ s2 : ByteArray, pByte l = some (a, s2.data.toList) := ⟨⟨l'.toArray⟩, by rw [h]⟩

end Go.Proofs.YthaimnmbcbhioaaDoor
