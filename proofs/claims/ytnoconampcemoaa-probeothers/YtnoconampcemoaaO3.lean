/-
  Fork and Watch of package probe.
-/
import Derived.Test.YtnoconampcemoaaO2
namespace Go.Proofs.Ytnoconampcemoaa
open Go Go.RowKit

theorem size_pb {cs : Array Value} (h : cs.size = 201) : (Try.prog.info? 95).map (·.size) = some cs.size := by rw [h]; kernel_rfl
theorem wpList_load_pb {ops : Array Oper} {rest : List Oper} {o : Oper} {a : Act} {w : World} {Q : Exit → Act → World → Prop} (hgd : o.guard = none) (x : Operand) (ho : o.op = .load 95 x) (b : Nat) (hx : a.eval x = .pointer (some ⟨b, 0, none⟩)) {cs : Array Value}
    (h : w.heap[b]? = some (.cells cs 95 (0, 0))) (hz : cs.size = 201) (hk : wpList Try.prog ops Q rest (a.put o.dst (.agg cs)) w) : wpList Try.prog ops Q (o :: rest) a w := by
  refine wpList_plain hgd fun _ hK => ?_
  unfold Oper.wp execOp
  simp only [ho, hx, Instr.loadAt, Instr.sureAddr, Sem.run_bind, Sem.run_pure, Result.andThen_ok, run_loadVar_row w b 95 95 cs (0, 0) _ h Try.underlying95 rfl (size_pb hz)]
  exact hK _ _ hk
theorem pbFork_nil (w : World) : Calls Try.prog 13 #[.pointer none] w fun e w' => e = .returned (.pointer none) ∧ w' = w := by
  go_enter Try.func13, Try.ntmps13
  go_wp2
  go_ret
  exact ⟨rfl, rfl⟩
set_option maxRecDepth 20000 in
set_option maxHeartbeats 4000000 in
theorem pbFork_any (b : Nat) (P : Pb) (w : World) (hP : PbBlk w b P) :
    Calls Try.prog 13 #[.pointer (some ⟨b, 0, none⟩)] w fun e w' => e = .returned (.pointer (some ⟨w.heap.size, 0, none⟩)) ∧ PbBlk w' w.heap.size P ∧ Below w.heap.size w w' := by
  obtain ⟨cs, hc, hC⟩ := hP
  have kz := zero_pb
  have kn := hC.size
  have t0 : (w.alloc (.cells (pbC 0 0 0) 95)).heap[w.heap.size]? = some (.cells (pbC 0 0 0) 95 (0, 0)) := newE w _
  have ks := run_storeCells_from (P := Try.prog) w.heap.size 95 cs.toList 0 (pbC 0 0 0) (w.alloc (.cells (pbC 0 0 0) 95)) t0 (by simp [pbC_size, kn]) (fun v hv => hC.one (by simpa using hv))
  simp at ks
  have HT3 : Hid (PbBlk ((w.alloc (.cells (pbC 0 0 0) 95)).setRow w.heap.size cs) w.heap.size P) := Lib.hid ⟨cs, setRow_heap _ _ _ _ _ _ t0, hC⟩
  have HB3 := Lib.hid (below_setRowB ((Below.refl w.heap.size w).alloc (Nat.le_refl _) (.cells (pbC 0 0 0) 95)) w.heap.size (Nat.le_refl _) cs)
  generalize (w.alloc (.cells (pbC 0 0 0) 95)).setRow w.heap.size cs = W3 at *
  clear t0 hC
  go_enter Try.func13, Try.ntmps13
  go_wp2_with (with_reducible change wpList Try.prog _ _ (_ :: _) _ _; refine wpList_load_pb rfl _ rfl b rfl hc kn ?_)
  go_ret
  exact ⟨rfl, HT3.out, HB3.out⟩

set_option maxRecDepth 20000 in
set_option maxHeartbeats 4000000 in
theorem pbWatch_far (b : Nat) (P : Pb) (k : Nat) (s i now : Int) (w : World) (hP : PbBlk w b P) (h0 : (s == 1) = false) :
    Calls Try.prog 16 #[.pointer (some ⟨b, 0, none⟩), .agg #[.int .u16 (k : Int), .int .u8 s, .int .i64 i], .int .i64 now] w fun e w' => e = .returned (.tuple #[]) ∧ PbBlk w' b P ∧ w.grownBy w' (some b) := by
  have HT := Lib.hid (fun w => pbisTime_any now w)
  have hB := (Below.refl w.heap.size w).alloc (Nat.le_refl _) (.cells #[.int .u16 (k : Int), .int .u8 s, .int .i64 i] 43)
  have hP1 := hP.on hB
  have HP := Lib.hid hP1
  have HB := Lib.hid hB
  have h0b : (s != 1) = true := by simp [bne, h0]
  clear hP hB hP1
  go_enter Try.func16, Try.ntmps16
  go_wp2_with fail
  go_quiet (fail)
  go_wp2
  exact bodyPost_ret (results_none rfl _ _ _) rfl ⟨rfl, HP.out, grownBy_of_below ⟨HB.out.os, HB.out.tape, HB.out.output, HB.out.size, HB.out.block⟩⟩
set_option maxRecDepth 20000 in
set_option maxHeartbeats 4000000 in
theorem pbWatch_big (b : Nat) (P : Pb) (k : Nat) (s i now : Int) (w : World) (hP : PbBlk w b P) (h0 : s = 1) (h1 : 64 ≤ k) :
    Calls Try.prog 16 #[.pointer (some ⟨b, 0, none⟩), .agg #[.int .u16 (k : Int), .int .u8 s, .int .i64 i], .int .i64 now] w fun e w' => e = .returned (.tuple #[]) ∧ PbBlk w' b P ∧ w.grownBy w' (some b) := by
  have HT := Lib.hid (fun w => pbisTime_any now w)
  have hB := (Below.refl w.heap.size w).alloc (Nat.le_refl _) (.cells #[.int .u16 (k : Int), .int .u8 s, .int .i64 i] 43)
  have hP1 := hP.on hB
  have HP := Lib.hid hP1
  have HB := Lib.hid hB
  subst h0
  have h1b : (64 : Int) ≤ (k : Int) := by omega
  have h1c : decide ((64 : Int) ≤ (k : Int)) = true := decide_eq_true h1b
  clear hP hB hP1 h1
  go_enter Try.func16, Try.ntmps16
  go_wp2_with fail
  go_quiet (fail)
  go_wp2
  exact bodyPost_ret (results_none rfl _ _ _) rfl ⟨rfl, HP.out, grownBy_of_below ⟨HB.out.os, HB.out.tape, HB.out.output, HB.out.size, HB.out.block⟩⟩
set_option maxRecDepth 20000 in
set_option maxHeartbeats 4000000 in
theorem pbWatch_own (b : Nat) (P : Pb) (k : Nat) (s i now : Int) (w : World) (hP : PbBlk w b P) (h0 : s = 1) (h1 : k < 64) (h2 : k = P.s) :
    Calls Try.prog 16 #[.pointer (some ⟨b, 0, none⟩), .agg #[.int .u16 (k : Int), .int .u8 s, .int .i64 i], .int .i64 now] w fun e w' => e = .returned (.tuple #[]) ∧ PbBlk w' b P ∧ w.grownBy w' (some b) := by
  have HT := Lib.hid (fun w => pbisTime_any now w)
  have hB := (Below.refl w.heap.size w).alloc (Nat.le_refl _) (.cells #[.int .u16 (k : Int), .int .u8 s, .int .i64 i] 43)
  have hP1 := hP.on hB
  have HP := Lib.hid hP1
  have HB := Lib.hid hB
  subst h0
  have h1b : ¬ (64 : Int) ≤ (k : Int) := by omega
  have h1c : decide ((64 : Int) ≤ (k : Int)) = false := decide_eq_false h1b
  have h2b : ((k : Int) == (P.s : Int)) = true := by simp [h2]
  have c0 := hP1.at.c0
  clear hP hB hP1 h1 h2
  go_enter Try.func16, Try.ntmps16
  go_wp2_with fail
  go_quiet (fail)
  go_wp2
  exact bodyPost_ret (results_none rfl _ _ _) rfl ⟨rfl, HP.out, grownBy_of_below ⟨HB.out.os, HB.out.tape, HB.out.output, HB.out.size, HB.out.block⟩⟩
set_option maxRecDepth 20000 in
set_option maxHeartbeats 4000000 in
theorem pbWatch_time (b : Nat) (P : Pb) (k : Nat) (s i now : Int) (w : World) (hP : PbBlk w b P) (h0 : s = 1) (h1 : k < 64) (h2 : k ≠ P.s) (h3 : timeOk now = false) :
    Calls Try.prog 16 #[.pointer (some ⟨b, 0, none⟩), .agg #[.int .u16 (k : Int), .int .u8 s, .int .i64 i], .int .i64 now] w fun e w' => e = .returned (.tuple #[]) ∧ PbBlk w' b P ∧ w.grownBy w' (some b) := by
  have HT := Lib.hid (fun w => pbisTime_any now w)
  have hB := (Below.refl w.heap.size w).alloc (Nat.le_refl _) (.cells #[.int .u16 (k : Int), .int .u8 s, .int .i64 i] 43)
  have hP1 := hP.on hB
  have HP := Lib.hid hP1
  have HB := Lib.hid hB
  subst h0
  have h1b : ¬ (64 : Int) ≤ (k : Int) := by omega
  have h1c : decide ((64 : Int) ≤ (k : Int)) = false := decide_eq_false h1b
  have h1d : (k : Int) < 64 := by omega
  have h2b : ((k : Int) == (P.s : Int)) = false := by rw [beq_eq_false_iff_ne]; omega
  have c0 := hP1.at.c0
  rw [h3] at HT
  clear hP hB hP1 h1 h2
  go_enter Try.func16, Try.ntmps16
  go_wp2_with fail
  go_quiet ((go_at_call 33; refine Calls.quiet_of_same (HT.out _)))
  go_wp2
  exact bodyPost_ret (results_none rfl _ _ _) rfl ⟨rfl, HP.out, grownBy_of_below ⟨HB.out.os, HB.out.tape, HB.out.output, HB.out.size, HB.out.block⟩⟩
set_option maxRecDepth 20000 in
set_option maxHeartbeats 4000000 in
theorem pbWatch_kept (b : Nat) (P : Pb) (k : Nat) (s i now : Int) (w : World) (hP : PbBlk w b P) (h0 : s = 1) (h1 : k < 64) (h2 : k ≠ P.s) (h3 : timeOk now = true) (h4 : (P.w k).on = true) (h5 : i ≤ (P.w k).i) :
    Calls Try.prog 16 #[.pointer (some ⟨b, 0, none⟩), .agg #[.int .u16 (k : Int), .int .u8 s, .int .i64 i], .int .i64 now] w fun e w' => e = .returned (.tuple #[]) ∧ PbBlk w' b P ∧ w.grownBy w' (some b) := by
  have HT := Lib.hid (fun w => pbisTime_any now w)
  have hB := (Below.refl w.heap.size w).alloc (Nat.le_refl _) (.cells #[.int .u16 (k : Int), .int .u8 s, .int .i64 i] 43)
  have hP1 := hP.on hB
  have HP := Lib.hid hP1
  have HB := Lib.hid hB
  subst h0
  have h1b : ¬ (64 : Int) ≤ (k : Int) := by omega
  have h1c : decide ((64 : Int) ≤ (k : Int)) = false := decide_eq_false h1b
  have h1d : (k : Int) < 64 := by omega
  have h2b : ((k : Int) == (P.s : Int)) = false := by rw [beq_eq_false_iff_ne]; omega
  have c0 := hP1.at.c0
  obtain ⟨x0, x1, x2⟩ := hP1.wat h1
  rw [h3] at HT
  rw [h4] at x0
  have h5b : decide (i ≤ (P.w k).i) = true := decide_eq_true h5
  generalize (P.w k).i = wi at *
  clear hP hB hP1 h1 h2 h4 h3
  go_enter Try.func16, Try.ntmps16
  go_wp2_with fail
  go_quiet ((go_at_call 33; refine Calls.quiet_of_same (HT.out _)))
  go_wp2_with fail
  go_quiet (fail)
  go_wp2_with fail
  go_quiet (fail)
  go_wp2
  exact bodyPost_ret (results_none rfl _ _ _) rfl ⟨rfl, HP.out, grownBy_of_below ⟨HB.out.os, HB.out.tape, HB.out.output, HB.out.size, HB.out.block⟩⟩
set_option maxRecDepth 20000 in
set_option maxHeartbeats 4000000 in
theorem pbWatch_anew (b : Nat) (P : Pb) (k : Nat) (s i now : Int) (w : World) (hP : PbBlk w b P) (h0 : s = 1) (h1 : k < 64) (h2 : k ≠ P.s) (h3 : timeOk now = true) (h4 : (P.w k).on = true) (h5 : ¬ i ≤ (P.w k).i) :
    Calls Try.prog 16 #[.pointer (some ⟨b, 0, none⟩), .agg #[.int .u16 (k : Int), .int .u8 s, .int .i64 i], .int .i64 now] w fun e w' => e = .returned (.tuple #[]) ∧ PbBlk w' b (P.setW k ⟨true, i, now⟩) ∧ w.grownBy w' (some b) := by
  have HT := Lib.hid (fun w => pbisTime_any now w)
  have hB := (Below.refl w.heap.size w).alloc (Nat.le_refl _) (.cells #[.int .u16 (k : Int), .int .u8 s, .int .i64 i] 43)
  have hP1 := hP.on hB
  have HP := Lib.hid hP1
  have HB := Lib.hid hB
  subst h0
  have h1b : ¬ (64 : Int) ≤ (k : Int) := by omega
  have h1c : decide ((64 : Int) ≤ (k : Int)) = false := decide_eq_false h1b
  have h1d : (k : Int) < 64 := by omega
  have h2b : ((k : Int) == (P.s : Int)) = false := by rw [beq_eq_false_iff_ne]; omega
  have c0 := hP1.at.c0
  obtain ⟨x0, x1, x2⟩ := hP1.wat h1
  rw [h3] at HT
  rw [h4] at x0
  have h5b : decide (i ≤ (P.w k).i) = false := decide_eq_false h5
  have HS := Lib.hid (hP1.setW k h1 ⟨true, i, now⟩)
  have HG : Hid (w.grownBy (stW (w.alloc (.cells #[.int .u16 (k : Int), .int .u8 1, .int .i64 i] 43)) b k ⟨true, i, now⟩) (some b)) := Lib.hid ((grownBy_of_below hB).trans (stW_grown _ _ _ _))
  have f0 := hP1.f
  generalize (P.w k).i = wi at *
  generalize (P.w k).a = wa at *
  clear hP hB hP1 h1 h2 h4 h3
  go_enter Try.func16, Try.ntmps16
  go_wp2_with fail
  go_quiet ((go_at_call 33; refine Calls.quiet_of_same (HT.out _)))
  go_wp2_with fail
  go_quiet (fail)
  go_wp2_with fail
  go_quiet (fail)
  go_wp2
  go_end0
  exact ⟨rfl, HS.out, ⟨HG.out.os, HG.out.tape, HG.out.output, HG.out.size, HG.out.block⟩⟩
set_option maxRecDepth 20000 in
set_option maxHeartbeats 4000000 in
theorem pbWatch_first (b : Nat) (P : Pb) (k : Nat) (s i now : Int) (w : World) (hP : PbBlk w b P) (h0 : s = 1) (h1 : k < 64) (h2 : k ≠ P.s) (h3 : timeOk now = true) (h4 : (P.w k).on = false) :
    Calls Try.prog 16 #[.pointer (some ⟨b, 0, none⟩), .agg #[.int .u16 (k : Int), .int .u8 s, .int .i64 i], .int .i64 now] w fun e w' => e = .returned (.tuple #[]) ∧ PbBlk w' b (P.setW k ⟨true, i, now⟩) ∧ w.grownBy w' (some b) := by
  have HT := Lib.hid (fun w => pbisTime_any now w)
  have hB := (Below.refl w.heap.size w).alloc (Nat.le_refl _) (.cells #[.int .u16 (k : Int), .int .u8 s, .int .i64 i] 43)
  have hP1 := hP.on hB
  have HP := Lib.hid hP1
  have HB := Lib.hid hB
  subst h0
  have h1b : ¬ (64 : Int) ≤ (k : Int) := by omega
  have h1c : decide ((64 : Int) ≤ (k : Int)) = false := decide_eq_false h1b
  have h1d : (k : Int) < 64 := by omega
  have h2b : ((k : Int) == (P.s : Int)) = false := by rw [beq_eq_false_iff_ne]; omega
  have c0 := hP1.at.c0
  obtain ⟨x0, x1, x2⟩ := hP1.wat h1
  rw [h3] at HT
  rw [h4] at x0
  have HS := Lib.hid (hP1.setW k h1 ⟨true, i, now⟩)
  have HG : Hid (w.grownBy (stW (w.alloc (.cells #[.int .u16 (k : Int), .int .u8 1, .int .i64 i] 43)) b k ⟨true, i, now⟩) (some b)) := Lib.hid ((grownBy_of_below hB).trans (stW_grown _ _ _ _))
  have f0 := hP1.f
  generalize (P.w k).i = wi at *
  generalize (P.w k).a = wa at *
  clear hP hB hP1 h1 h2 h4 h3
  go_enter Try.func16, Try.ntmps16
  go_wp2_with fail
  go_quiet ((go_at_call 33; refine Calls.quiet_of_same (HT.out _)))
  go_wp2_with fail
  go_quiet (fail)
  go_wp2_with fail
  go_quiet (fail)
  go_wp2
  go_end0
  exact ⟨rfl, HS.out, ⟨HG.out.os, HG.out.tape, HG.out.output, HG.out.size, HG.out.block⟩⟩
theorem pbWatch_nil (now : Int) (n s i : Int) (w : World) : Calls Try.prog 16 #[.pointer none, .agg #[.int .u16 n, .int .u8 s, .int .i64 i], .int .i64 now] w fun e w' => e = .returned (.tuple #[]) ∧ Below w.heap.size w w' := by
  have HB := Lib.hid ((Below.refl w.heap.size w).alloc (Nat.le_refl _) (.cells #[.int .u16 n, .int .u8 s, .int .i64 i] 43))
  go_enter Try.func16, Try.ntmps16
  go_wp2_with fail
  go_quiet (fail)
  go_wp2
  exact bodyPost_ret (results_none rfl _ _ _) rfl ⟨rfl, ⟨HB.out.os, HB.out.tape, HB.out.output, HB.out.size, HB.out.block⟩⟩
/-- Watch leaves what the document says. -/
theorem pbWatch_any (b : Nat) (P : Pb) (m : Mem) (h0 : 0 ≤ m.n) (now : Int) (w : World) (hP : PbBlk w b P) :
    Calls Try.prog 16 #[.pointer (some ⟨b, 0, none⟩), .agg #[.int .u16 m.n, .int .u8 m.s, .int .i64 m.i], .int .i64 now] w fun e w' => e = .returned (.tuple #[]) ∧ PbBlk w' b (watchP P m now) ∧ w.grownBy w' (some b) := by
  obtain ⟨n, s, i⟩ := m
  dsimp only at h0 ⊢
  obtain ⟨k, rfl⟩ : ∃ k : Nat, n = (k : Int) := ⟨n.toNat, by omega⟩
  have hno : watchB P ⟨(k : Int), s, i⟩ now = false → watchP P ⟨(k : Int), s, i⟩ now = P := fun h => by unfold watchP; rw [if_neg (by simp [h])]
  have hyes : watchB P ⟨(k : Int), s, i⟩ now = true → watchP P ⟨(k : Int), s, i⟩ now = P.setW k ⟨true, i, now⟩ := fun h => by unfold watchP; rw [if_pos h]; rfl
  have hdef : watchB P ⟨(k : Int), s, i⟩ now = ((s == 1) && (decide ((k : Int) < 64) && (!((k : Int) == (P.s : Int)) && (timeOk now && !((P.w k).on && decide (i ≤ (P.w k).i)))))) := rfl
  cases h1 : s == 1 with
  | false => rw [hno (by rw [hdef, h1]; rfl)]; exact pbWatch_far b P k s i now w hP h1
  | true =>
    have h1' : s = 1 := eq_of_beq h1
    rw [h1, Bool.true_and] at hdef
    by_cases h2 : k < 64
    case neg => rw [hno (by rw [hdef, decide_eq_false (by omega)]; rfl)]; exact pbWatch_big b P k s i now w hP h1' (by omega)
    rw [decide_eq_true (by omega), Bool.true_and] at hdef
    by_cases h3 : k = P.s
    case pos => rw [hno (by rw [hdef, show ((k : Int) == (P.s : Int)) = true by simp [h3]]; rfl)]; exact pbWatch_own b P k s i now w hP h1' h2 h3
    rw [show ((k : Int) == (P.s : Int)) = false by rw [beq_eq_false_iff_ne]; omega, Bool.not_false, Bool.true_and] at hdef
    cases h4 : timeOk now with
    | false => rw [hno (by rw [hdef, h4]; rfl)]; exact pbWatch_time b P k s i now w hP h1' h2 h3 h4
    | true =>
      rw [h4, Bool.true_and] at hdef
      cases h5 : (P.w k).on with
      | false => rw [hyes (by rw [hdef, h5]; rfl)]; exact pbWatch_first b P k s i now w hP h1' h2 h3 h4 h5
      | true =>
        by_cases h6 : i ≤ (P.w k).i
        · rw [hno (by rw [hdef, h5, decide_eq_true h6]; rfl)]; exact pbWatch_kept b P k s i now w hP h1' h2 h3 h4 h5 h6
        · rw [hyes (by rw [hdef, h5, decide_eq_false h6]; rfl)]; exact pbWatch_anew b P k s i now w hP h1' h2 h3 h4 h5 h6

end Go.Proofs.Ytnoconampcemoaa
