/-
  A whole pattern, as the program reads it: what is given up is recovered.
-/
import Derived.Test.YtmanjegdgjeeiaaGreatDoorKW13
import Derived.Defers
import Derived.Recover
namespace Go.Proofs.YtmanjegdgjeeiaaGreatDoor
open Go.RowKit

/-- A pattern in memory. -/
def PatAt (w : World) (xb : Nat) (A : Lang) : Prop := ∃ B v P pl, Rx w B xb v P pl ∧ Frag pl 0 pl.length P A
theorem PatAt.below {w w' : World} {xb : Nat} {A : Lang} (h : PatAt w xb A) (hb : Below w.heap.size w w') : PatAt w' xb A := by
  obtain ⟨B, v, P, pl, h1, h2⟩ := h
  exact ⟨B, v, P, pl, h1.below hb, h2⟩

theorem defer_panic (p q : Nat) (x y : Value) (w : World) (hp : w.cell? ⟨p, 0, none⟩ = some x) (hpz : w.frozen? ⟨p, 0, none⟩ = false) (hq : w.cell? ⟨q, 0, none⟩ = some y) (hqz : w.frozen? ⟨q, 0, none⟩ = false) (hne : ¬ p = q) :
    CallsD Tryz.prog 153 #[.pointer (some ⟨p, 0, none⟩), .pointer (some ⟨q, 0, none⟩)] (.panicking [{ v := .iface 36 (.int .i64 9), recovered := false }]) w fun e u' w' =>
      e = .returned (.tuple #[]) ∧ u' = .panicking [{ v := .iface 36 (.int .i64 9), recovered := true }] ∧ w' = (w.setCell ⟨p, 0, none⟩ (.pointer none)).setCell ⟨q, 0, none⟩ (.int .i64 9) := by
  have hta : ∀ w : World, (Instr.typeAssert (.iface 36 (.int .i64 9)) 20 36 true).run Tryz.prog w = .ok (.tuple #[.int .i64 9, .bool true]) w := fun _ => by kernel_rfl
  refine callsD_of_wpS Tryz.func153 rfl fun c₀ cs hu => ?_
  apply wpS_seq
  apply wpS_region
  simp [wpOpsS, go_sem, recoverD, hu, Tryz.ntmps153, Exit.thenS]
  apply wpS_seq
  apply wpS_region
  simp [wpOpsS, go_sem, hta, Exit.thenS]
  apply wpS_seq
  apply wpS_region
  simp [wpOpsS, go_sem, Exit.thenS]
  refine wpS_cond (t := true) (by simp [Act.eval, Array.replicate]) ?_
  simp only [if_true]
  apply wpS_region
  simp [wpOpsS, go_sem, hp, hpz, hq, hqz, bodyPostS, results, Tryz.results153]

theorem defer_idle (p q : Nat) (w : World) :
    CallsD Tryz.prog 153 #[.pointer (some ⟨p, 0, none⟩), .pointer (some ⟨q, 0, none⟩)] .returning w fun e u' w' => e = .returned (.tuple #[]) ∧ u' = .returning ∧ w' = w := by
  have hta : ∀ w : World, (Instr.typeAssert .nilIface 20 36 true).run Tryz.prog w = .ok (.tuple #[.int .i64 0, .bool false]) w := fun _ => by kernel_rfl
  have hne : ∀ w : World, (binOp BinOp.neq 20 .nilIface .nilIface).run Tryz.prog w = .ok (.bool false) w := fun _ => by kernel_rfl
  refine callsD_of_wpS Tryz.func153 rfl fun c₀ cs hu => ?_
  apply wpS_seq
  apply wpS_region
  simp [wpOpsS, go_sem, recoverD, hu, Tryz.ntmps153, Exit.thenS]
  apply wpS_seq
  apply wpS_region
  simp [wpOpsS, go_sem, hta, Exit.thenS]
  apply wpS_seq
  apply wpS_region
  simp [wpOpsS, go_sem, Exit.thenS]
  refine wpS_cond (t := false) (by simp [Act.eval, Array.replicate]) ?_
  simp only [Bool.false_eq_true, if_false]
  apply wpS_seq
  apply wpS_region
  simp [wpOpsS, go_sem, hne, Exit.thenS]
  refine wpS_cond (t := false) (by simp [Act.eval, Array.replicate]) ?_
  simp only [Bool.false_eq_true, if_false]
  refine wpS_of_wp (wp_skip ?_)
  cases c₀
  simp_all [bodyPostS, results, Tryz.results153]

theorem read_start (s : ByteArray) (w : World) (hs : s.size ≤ 64) (htab : TabW w) :
    ∃ W, (((w.alloc (.cells #[.pointer none] 169)).alloc (.cells #[.int .i64 0] 36)).alloc (.cells #[.slice none 0 0, .int .u64 0, .int .u64 0, .bool false] 189)).alloc (.cells #[.pointer (some ⟨w.heap.size + 1 + 1, 0, none⟩), .string s, .int .i64 0] 207) = W ∧ Below w.heap.size w W ∧ St W (w.heap.size + 1 + 1) (w.heap.size + 1 + 1 + 1) (w.heap.size + 1 + 1) s 0 s.data.toList (.slice none 0 0) [] ∧ W.heap[w.heap.size]? = some (.cells #[.pointer none] 169) ∧ W.heap[w.heap.size + 1]? = some (.cells #[.int .i64 0] 36) ∧ W.heap.size = w.heap.size + 1 + 1 + 1 + 1 := by
  have hb : Below w.heap.size w ((((w.alloc (.cells #[.pointer none] 169)).alloc (.cells #[.int .i64 0] 36)).alloc (.cells #[.slice none 0 0, .int .u64 0, .int .u64 0, .bool false] 189)).alloc (.cells #[.pointer (some ⟨w.heap.size + 1 + 1, 0, none⟩), .string s, .int .i64 0] 207)) := ((((Below.refl _ _).alloc (Nat.le_refl _) _).alloc (by simp) _).alloc (by first | (simp; done) | (simp; omega)) _).alloc (by first | (simp; done) | (simp; omega)) _
  have h0 := heap_new w (.cells #[.pointer none] 169)
  have h1 := heap_new (w.alloc (.cells #[.pointer none] 169)) (.cells #[.int .i64 0] 36)
  have h2 := heap_new ((w.alloc (.cells #[.pointer none] 169)).alloc (.cells #[.int .i64 0] 36)) (.cells #[.slice none 0 0, .int .u64 0, .int .u64 0, .bool false] 189)
  have h3 := heap_new (((w.alloc (.cells #[.pointer none] 169)).alloc (.cells #[.int .i64 0] 36)).alloc (.cells #[.slice none 0 0, .int .u64 0, .int .u64 0, .bool false] 189)) (.cells #[.pointer (some ⟨w.heap.size + 1 + 1, 0, none⟩), .string s, .int .i64 0] 207)
  simp only [World.size_alloc] at h1 h2 h3
  have k0 := (Below.heap_alloc _ (.cells #[.pointer (some ⟨w.heap.size + 1 + 1, 0, none⟩), .string s, .int .i64 0] 207) _ (by first | (simp; done) | (simp; omega))).trans ((Below.heap_alloc _ (.cells #[.slice none 0 0, .int .u64 0, .int .u64 0, .bool false] 189) _ (by first | (simp; done) | (simp; omega))).trans ((Below.heap_alloc _ (.cells #[.int .i64 0] 36) _ (by simp)).trans h0))
  have k1 := (Below.heap_alloc _ (.cells #[.pointer (some ⟨w.heap.size + 1 + 1, 0, none⟩), .string s, .int .i64 0] 207) _ (by first | (simp; done) | (simp; omega))).trans ((Below.heap_alloc _ (.cells #[.slice none 0 0, .int .u64 0, .int .u64 0, .bool false] 189) _ (by simp)).trans h1)
  have k2 := (Below.heap_alloc _ (.cells #[.pointer (some ⟨w.heap.size + 1 + 1, 0, none⟩), .string s, .int .i64 0] 207) _ (by simp)).trans h2
  have htl := htab.lt
  refine ⟨_, rfl, hb, ⟨h3, ⟨hs, by simp, rfl⟩, ⟨k2, World.ownsRow_nil _ _ _ _, (fun e => by cases e), (fun p hp => by cases hp), (by simp), Nat.le_refl _⟩, (by omega), (fun e => by cases e), (by omega), htab.on hb htl, (by omega), (by simpa using hs)⟩, k0, k1, by simp⟩

/-- The two results' variables stand. -/
def Rets (w : World) (b : Nat) : Prop := w.cell? ⟨b, 0, none⟩ = some (.pointer none) ∧ w.frozen? ⟨b, 0, none⟩ = false ∧ w.cell? ⟨b + 1, 0, none⟩ = some (.int .i64 0) ∧ w.frozen? ⟨b + 1, 0, none⟩ = false
theorem Rets.of {w : World} {b : Nat} (h0 : w.heap[b]? = some (.cells #[.pointer none] 169)) (h1 : w.heap[b + 1]? = some (.cells #[.int .i64 0] 36)) : Rets w b :=
  ⟨cell_heap h0, by simp [World.frozen?, h0], cell_heap h1, by simp [World.frozen?, h1]⟩

set_option maxHeartbeats 2000000 in
theorem read_none (s : ByteArray) (w : World) (hs : s.size ≤ 64) (htab : TabW w) (ho : pLoop (s.size + 1) noL epsL s.data.toList = none) :
    Calls Tryz.prog 138 #[.string s] w fun e w' => e = .returned (.tuple #[.pointer none, .int .i64 9]) ∧ Below w.heap.size w w' := by
  have hmf : ∀ (fn : Fn) (first cap : Array Value) (w : World), (Instr.makeFunc fn first cap).run Tryz.prog w = .ok (.func fn first cap) w := fun _ _ _ _ => rfl
  obtain ⟨W, hW, hbW, hst, hk0, hk1, hsz⟩ := read_start s w hs htab
  have HR := rows_ok (s.size + 1) W.drew 0 _ _ _ (by simp) hst.drew
  rw [ho] at HR
  have HR : Hid (Calls _ _ _ _ _) := Lib.hid HR
  have c0 := hst.rd.cell0
  have HK := Lib.hid (And.intro hk0 (And.intro hk1 hsz))
  have HB := Lib.hid hbW
  clear ho hst hk0 hk1 hsz hbW
  subst hW
  go_enter_defers Tryz.func138, Tryz.ntmps138
  go_wp2_with fail
  refine wp_region_any (by kernel_rfl) ?_
  change wpAny _ _ _ _ _ _ _ (World.drew _)
  refine wpAny_ready (rs := [0, 2]) (by as_aux_lemma => kernel_rfl) (by simp) ?_
  refine AllReady.cons rfl (fun K hK => ?_) (AllReady.cons rfl (fun K hK => ?_) AllReady.nil)
  · go_simp
    refine hK _ _ ?_
    clear hK K
    refine wpAny_ready (rs := [1, 2]) (by as_aux_lemma => kernel_rfl) (by simp) ?_
    refine AllReady.cons rfl (fun K hK => ?_) (AllReady.cons rfl (fun K hK => ?_) AllReady.nil)
    · go_simp
      refine hK _ _ ?_
      clear hK K
      refine wpAny_ready (rs := [2]) (by as_aux_lemma => kernel_rfl) (by simp) ?_
      refine AllReady.cons rfl (fun K hK => ?_) AllReady.nil
      · go_simp
        go_wp2_with (go_at_call 154; refine HR.out.mono ?_; rintro e w5 ⟨rfl, hb5'⟩)
        obtain ⟨hk0, hk1, hsz⟩ := HK.out
        have hb5 : Below w.heap.size w w5 := (HB.out.drew).trans (hb5'.mono (by omega))
        have r5 : Rets w5 w.heap.size := Rets.of ((hb5'.block _ (by omega)).trans hk0) ((hb5'.block _ (by omega)).trans hk1)
        clear hk0 hk1 hsz hb5' HK HB c0
        refine leaves_cons (f := 153) (args := #[.pointer (some ⟨w.heap.size, 0, none⟩), .pointer (some ⟨w.heap.size + 1, 0, none⟩)]) (by simp) (by simp [go_sem]) ?_
        refine (defer_panic w.heap.size (w.heap.size + 1) _ _ _ r5.1 r5.2.1 r5.2.2.1 r5.2.2.2 (by omega)).mono ?_
        rintro e u' w'' ⟨rfl, rfl, rfl⟩
        have e1 := r5.1
        have e2 := r5.2.2.1
        have hend := (hb5.setCell (p := ⟨w.heap.size, 0, none⟩) (Nat.le_refl _) (.pointer none)).setCell (p := ⟨w.heap.size + 1, 0, none⟩) (show w.heap.size ≤ w.heap.size + 1 by omega) (.int .i64 9)
        simp [Leaves, settle, results, Tryz.results138, go_sem, e1, e2]
        exact hend
    · go_simp
      go_wp2_with (go_at_call 154; refine HR.out.mono ?_; rintro e w5 ⟨rfl, hb5'⟩)
      obtain ⟨hk0, hk1, hsz⟩ := HK.out
      have hb5 : Below w.heap.size w w5 := (HB.out.drew).trans (hb5'.mono (by omega))
      have r5 : Rets w5 w.heap.size := Rets.of ((hb5'.block _ (by omega)).trans hk0) ((hb5'.block _ (by omega)).trans hk1)
      clear hk0 hk1 hsz hb5' HK HB c0
      refine leaves_cons (f := 153) (args := #[.pointer (some ⟨w.heap.size, 0, none⟩), .pointer (some ⟨w.heap.size + 1, 0, none⟩)]) (by simp) (by simp [go_sem]) ?_
      refine (defer_panic w.heap.size (w.heap.size + 1) _ _ _ r5.1 r5.2.1 r5.2.2.1 r5.2.2.2 (by omega)).mono ?_
      rintro e u' w'' ⟨rfl, rfl, rfl⟩
      have e1 := r5.1
      have e2 := r5.2.2.1
      have hend := (hb5.setCell (p := ⟨w.heap.size, 0, none⟩) (Nat.le_refl _) (.pointer none)).setCell (p := ⟨w.heap.size + 1, 0, none⟩) (show w.heap.size ≤ w.heap.size + 1 by omega) (.int .i64 9)
      simp [Leaves, settle, results, Tryz.results138, go_sem, e1, e2]
      exact hend
  · go_simp
    go_wp2_with (go_at_call 154; refine HR.out.mono ?_; rintro e w5 ⟨rfl, hb5'⟩)
    obtain ⟨hk0, hk1, hsz⟩ := HK.out
    have hb5 : Below w.heap.size w w5 := (HB.out.drew).trans (hb5'.mono (by omega))
    have r5 : Rets w5 w.heap.size := Rets.of ((hb5'.block _ (by omega)).trans hk0) ((hb5'.block _ (by omega)).trans hk1)
    clear hk0 hk1 hsz hb5' HK HB c0
    refine leaves_cons (f := 153) (args := #[.pointer (some ⟨w.heap.size, 0, none⟩), .pointer (some ⟨w.heap.size + 1, 0, none⟩)]) (by simp) (by simp [go_sem]) ?_
    refine (defer_panic w.heap.size (w.heap.size + 1) _ _ _ r5.1 r5.2.1 r5.2.2.1 r5.2.2.2 (by omega)).mono ?_
    rintro e u' w'' ⟨rfl, rfl, rfl⟩
    have e1 := r5.1
    have e2 := r5.2.2.1
    have hend := (hb5.setCell (p := ⟨w.heap.size, 0, none⟩) (Nat.le_refl _) (.pointer none)).setCell (p := ⟨w.heap.size + 1, 0, none⟩) (show w.heap.size ≤ w.heap.size + 1 by omega) (.int .i64 9)
    simp [Leaves, settle, results, Tryz.results138, go_sem, e1, e2]
    exact hend

theorem RxBlk.whole {w : World} {xb : Nat} {v : Value} {P : Pc} (h : RxBlk w xb v P) (Q : Pc) : RxBlk (((w.setCell ⟨xb, 1, none⟩ (.int .u64 (Q.first : Int))).setCell ⟨xb, 2, none⟩ (.int .u64 (Q.last : Int))).setCell ⟨xb, 3, none⟩ (.bool Q.empty)) xb v Q := by
  unfold RxBlk at h ⊢; simp [World.setCell, Array.getElem?_modify, h]

/-- The whole of a pattern is laid. -/
theorem whole_set {w w5 : World} {B rb xb : Nat} {s : ByteArray} {k : Nat} {l : List UInt8} {v : Value} {pl : List Pl} {P : Pc} {b : Nat} (h : St w5 B rb xb s k l v pl) (h0 : w5.heap[b]? = some (.cells #[.pointer none] 169)) (h1 : w5.heap[b + 1]? = some (.cells #[.int .i64 0] 36)) (hb : Below w.heap.size w w5) (hx : b + 1 < xb) (hw : w.heap.size ≤ xb) :
    Rx (((w5.setCell ⟨xb, 1, none⟩ (.int .u64 (P.first : Int))).setCell ⟨xb, 2, none⟩ (.int .u64 (P.last : Int))).setCell ⟨xb, 3, none⟩ (.bool P.empty)) B xb v P pl ∧
    XdBlk (((w5.setCell ⟨xb, 1, none⟩ (.int .u64 (P.first : Int))).setCell ⟨xb, 2, none⟩ (.int .u64 (P.last : Int))).setCell ⟨xb, 3, none⟩ (.bool P.empty)) rb xb s k ∧
    Below w.heap.size w (((w5.setCell ⟨xb, 1, none⟩ (.int .u64 (P.first : Int))).setCell ⟨xb, 2, none⟩ (.int .u64 (P.last : Int))).setCell ⟨xb, 3, none⟩ (.bool P.empty)) ∧
    (((w5.setCell ⟨xb, 1, none⟩ (.int .u64 (P.first : Int))).setCell ⟨xb, 2, none⟩ (.int .u64 (P.last : Int))).setCell ⟨xb, 3, none⟩ (.bool P.empty)).heap[b]? = some (.cells #[.pointer none] 169) ∧
    (((w5.setCell ⟨xb, 1, none⟩ (.int .u64 (P.first : Int))).setCell ⟨xb, 2, none⟩ (.int .u64 (P.last : Int))).setCell ⟨xb, 3, none⟩ (.bool P.empty)).heap[b + 1]? = some (.cells #[.int .i64 0] 36) := by
  have hg : w5.grownBy (((w5.setCell ⟨xb, 1, none⟩ (.int .u64 (P.first : Int))).setCell ⟨xb, 2, none⟩ (.int .u64 (P.last : Int))).setCell ⟨xb, 3, none⟩ (.bool P.empty)) (some xb) := xgrown_trans (xgrown_trans (xgrown_setCell _ _ _ _) (xgrown_setCell _ _ _ _)) (xgrown_setCell _ _ _ _)
  have hxl := h.xlt
  refine ⟨⟨h.rx.blk.whole P, h.rx.own.kept hg (.inr h.rx.apart), h.rx.apart, h.rx.good, h.rx.lim, h.rx.le⟩, h.rd.chg (Chg.of_grown hg) h.ne, ?_, (hg.block b (by omega) (by simp; omega)).trans h0, (hg.block (b + 1) (by omega) (by simp; omega)).trans h1⟩
  exact ((hb.setCell (p := ⟨xb, 1, none⟩) hw _).setCell (p := ⟨xb, 2, none⟩) hw _).setCell (p := ⟨xb, 3, none⟩) hw _

set_option maxHeartbeats 2000000 in
theorem read_more (s : ByteArray) (w : World) (hs : s.size ≤ 64) (htab : TabW w) (A : Lang) (l' : List UInt8) (hl' : l' ≠ []) (ho : pLoop (s.size + 1) noL epsL s.data.toList = some (A, l')) :
    Calls Tryz.prog 138 #[.string s] w fun e w' => e = .returned (.tuple #[.pointer none, .int .i64 9]) ∧ Below w.heap.size w w' := by
  have hmf : ∀ (fn : Fn) (first cap : Array Value) (w : World), (Instr.makeFunc fn first cap).run Tryz.prog w = .ok (.func fn first cap) w := fun _ _ _ _ => rfl
  obtain ⟨W, hW, hbW, hst, hk0, hk1, hsz⟩ := read_start s w hs htab
  have HR := rows_ok (s.size + 1) W.drew 0 _ _ _ (by simp) hst.drew
  rw [ho] at HR
  have HR : Hid (Calls _ _ _ _ _) := Lib.hid HR
  have c0 := hst.rd.cell0
  have HK := Lib.hid (And.intro hk0 (And.intro hk1 (And.intro hsz hst)))
  have HB := Lib.hid hbW
  clear ho hst hk0 hk1 hsz hbW
  subst hW
  go_enter_defers Tryz.func138, Tryz.ntmps138
  go_wp2_with fail
  refine wp_region_any (by kernel_rfl) ?_
  change wpAny _ _ _ _ _ _ _ (World.drew _)
  refine wpAny_ready (rs := [0, 2]) (by as_aux_lemma => kernel_rfl) (by simp) ?_
  refine AllReady.cons rfl (fun K hK => ?_) (AllReady.cons rfl (fun K hK => ?_) AllReady.nil)
  · go_simp
    refine hK _ _ ?_
    clear hK K
    refine wpAny_ready (rs := [1, 2]) (by as_aux_lemma => kernel_rfl) (by simp) ?_
    refine AllReady.cons rfl (fun K hK => ?_) (AllReady.cons rfl (fun K hK => ?_) AllReady.nil)
    · go_simp
      refine hK _ _ ?_
      clear hK K
      refine wpAny_ready (rs := [2]) (by as_aux_lemma => kernel_rfl) (by simp) ?_
      refine AllReady.cons rfl (fun K hK => ?_) AllReady.nil
      go_simp
      go_wp2_with (go_at_call 154; refine HR.out.mono ?_; rintro e w5 ⟨P, rfl, k5, v5, pl5, hR5⟩; have c05 := hR5.st.rd.cell0; have x1 := hR5.st.rx.blk.cell1; have x2 := hR5.st.rx.blk.cell2; have x3 := hR5.st.rx.blk.cell3; have f1 := hR5.st.rx.blk.frozen 1; have f2 := hR5.st.rx.blk.frozen 2; have f3 := hR5.st.rx.blk.frozen 3)
      try (refine hK _ _ ?_; clear hK K)
      refine wpAny_ready (rs := [3]) (by as_aux_lemma => kernel_rfl) (by simp) ?_
      refine AllReady.cons rfl (fun K hK => ?_) AllReady.nil
      go_simp
      refine hK _ _ ?_
      clear hK K
      refine wpAny_ready (rs := [4]) (by as_aux_lemma => kernel_rfl) (by simp) ?_
      refine AllReady.cons rfl (fun K hK => ?_) AllReady.nil
      go_simp
      refine hK _ _ ?_
      clear hK K
      refine wpAny_ready (rs := [5]) (by as_aux_lemma => kernel_rfl) (by simp) ?_
      refine AllReady.cons rfl (fun K hK => ?_) AllReady.nil
      go_simp
      refine hK _ _ ?_
      clear hK K
      refine wpAny_done (by kernel_rfl) ?_ _
      obtain ⟨hk0, hk1, hsz, hst⟩ := HK.out
      have hlo := hst.drew.lost hR5.chg
      have hk05 := (hlo.block w.heap.size (by omega)).trans hk0
      have hk15 := (hlo.block (w.heap.size + 1) (by omega)).trans hk1
      have hb5' : Below w.heap.size w w5 := (HB.out.drew).trans (hlo.mono (by omega))
      have hlf := hR5.st.left
      have hs5 := hR5.st
      have hfr := hR5.frag
      clear HK HB HR hk0 hk1 hsz hst hlo hR5 c0
      obtain ⟨hx6, hr6, hb6, hk06, hk16⟩ := whole_set (P := P) hs5 hk05 hk15 hb5' (by omega) (by omega)
      have hkl : (k5 : Int) < (s.size : Int) := by
        cases l' with
        | nil => exact absurd rfl hl'
        | cons c r => have := hlf.lt; omega
      clear hx6 hs5 hfr hlf hl' hk05 hk15 hb5' x1 x2 x3 f1 f2 f3 c05
      generalize World.setCell _ _ _ = w6 at *
      have c26 := hr6.cell2
      go_wp2_with (go_at_call 155; refine (giveUp_any _).mono ?_; rintro e w7 ⟨rfl, rfl⟩)
      have r5 := Rets.of hk06 hk16
      refine leaves_cons (f := 153) (args := #[.pointer (some ⟨w.heap.size, 0, none⟩), .pointer (some ⟨w.heap.size + 1, 0, none⟩)]) (by simp) (by simp [go_sem]) ?_
      refine (defer_panic w.heap.size (w.heap.size + 1) _ _ _ r5.1 r5.2.1 r5.2.2.1 r5.2.2.2 (by omega)).mono ?_
      rintro e u' w'' ⟨rfl, rfl, rfl⟩
      have e1 := r5.1
      have e2 := r5.2.2.1
      have hend := (hb6.setCell (p := ⟨w.heap.size, 0, none⟩) (Nat.le_refl _) (.pointer none)).setCell (p := ⟨w.heap.size + 1, 0, none⟩) (show w.heap.size ≤ w.heap.size + 1 by omega) (.int .i64 9)
      simp [Leaves, settle, results, Tryz.results138, go_sem, e1, e2]
      exact hend
    · go_simp
      go_wp2_with (go_at_call 154; refine HR.out.mono ?_; rintro e w5 ⟨P, rfl, k5, v5, pl5, hR5⟩; have c05 := hR5.st.rd.cell0; have x1 := hR5.st.rx.blk.cell1; have x2 := hR5.st.rx.blk.cell2; have x3 := hR5.st.rx.blk.cell3; have f1 := hR5.st.rx.blk.frozen 1; have f2 := hR5.st.rx.blk.frozen 2; have f3 := hR5.st.rx.blk.frozen 3)
      try (refine hK _ _ ?_; clear hK K)
      refine wpAny_ready (rs := [1]) (by as_aux_lemma => kernel_rfl) (by simp) ?_
      refine AllReady.cons rfl (fun K hK => ?_) AllReady.nil
      go_simp
      refine hK _ _ ?_
      clear hK K
      refine wpAny_ready (rs := [3]) (by as_aux_lemma => kernel_rfl) (by simp) ?_
      refine AllReady.cons rfl (fun K hK => ?_) AllReady.nil
      go_simp
      refine hK _ _ ?_
      clear hK K
      refine wpAny_ready (rs := [4]) (by as_aux_lemma => kernel_rfl) (by simp) ?_
      refine AllReady.cons rfl (fun K hK => ?_) AllReady.nil
      go_simp
      refine hK _ _ ?_
      clear hK K
      refine wpAny_ready (rs := [5]) (by as_aux_lemma => kernel_rfl) (by simp) ?_
      refine AllReady.cons rfl (fun K hK => ?_) AllReady.nil
      go_simp
      refine hK _ _ ?_
      clear hK K
      refine wpAny_done (by kernel_rfl) ?_ _
      obtain ⟨hk0, hk1, hsz, hst⟩ := HK.out
      have hlo := hst.drew.lost hR5.chg
      have hk05 := (hlo.block w.heap.size (by omega)).trans hk0
      have hk15 := (hlo.block (w.heap.size + 1) (by omega)).trans hk1
      have hb5' : Below w.heap.size w w5 := (HB.out.drew).trans (hlo.mono (by omega))
      have hlf := hR5.st.left
      have hs5 := hR5.st
      have hfr := hR5.frag
      clear HK HB HR hk0 hk1 hsz hst hlo hR5 c0
      obtain ⟨hx6, hr6, hb6, hk06, hk16⟩ := whole_set (P := P) hs5 hk05 hk15 hb5' (by omega) (by omega)
      have hkl : (k5 : Int) < (s.size : Int) := by
        cases l' with
        | nil => exact absurd rfl hl'
        | cons c r => have := hlf.lt; omega
      clear hx6 hs5 hfr hlf hl' hk05 hk15 hb5' x1 x2 x3 f1 f2 f3 c05
      generalize World.setCell _ _ _ = w6 at *
      have c26 := hr6.cell2
      go_wp2_with (go_at_call 155; refine (giveUp_any _).mono ?_; rintro e w7 ⟨rfl, rfl⟩)
      have r5 := Rets.of hk06 hk16
      refine leaves_cons (f := 153) (args := #[.pointer (some ⟨w.heap.size, 0, none⟩), .pointer (some ⟨w.heap.size + 1, 0, none⟩)]) (by simp) (by simp [go_sem]) ?_
      refine (defer_panic w.heap.size (w.heap.size + 1) _ _ _ r5.1 r5.2.1 r5.2.2.1 r5.2.2.2 (by omega)).mono ?_
      rintro e u' w'' ⟨rfl, rfl, rfl⟩
      have e1 := r5.1
      have e2 := r5.2.2.1
      have hend := (hb6.setCell (p := ⟨w.heap.size, 0, none⟩) (Nat.le_refl _) (.pointer none)).setCell (p := ⟨w.heap.size + 1, 0, none⟩) (show w.heap.size ≤ w.heap.size + 1 by omega) (.int .i64 9)
      simp [Leaves, settle, results, Tryz.results138, go_sem, e1, e2]
      exact hend
  · go_simp
    go_wp2_with (go_at_call 154; refine HR.out.mono ?_; rintro e w5 ⟨P, rfl, k5, v5, pl5, hR5⟩; have c05 := hR5.st.rd.cell0; have x1 := hR5.st.rx.blk.cell1; have x2 := hR5.st.rx.blk.cell2; have x3 := hR5.st.rx.blk.cell3; have f1 := hR5.st.rx.blk.frozen 1; have f2 := hR5.st.rx.blk.frozen 2; have f3 := hR5.st.rx.blk.frozen 3)
    try (refine hK _ _ ?_; clear hK K)
    refine wpAny_ready (rs := [0]) (by as_aux_lemma => kernel_rfl) (by simp) ?_
    refine AllReady.cons rfl (fun K hK => ?_) AllReady.nil
    go_simp
    refine hK _ _ ?_
    clear hK K
    refine wpAny_ready (rs := [1]) (by as_aux_lemma => kernel_rfl) (by simp) ?_
    refine AllReady.cons rfl (fun K hK => ?_) AllReady.nil
    go_simp
    refine hK _ _ ?_
    clear hK K
    refine wpAny_ready (rs := [3]) (by as_aux_lemma => kernel_rfl) (by simp) ?_
    refine AllReady.cons rfl (fun K hK => ?_) AllReady.nil
    go_simp
    refine hK _ _ ?_
    clear hK K
    refine wpAny_ready (rs := [4]) (by as_aux_lemma => kernel_rfl) (by simp) ?_
    refine AllReady.cons rfl (fun K hK => ?_) AllReady.nil
    go_simp
    refine hK _ _ ?_
    clear hK K
    refine wpAny_ready (rs := [5]) (by as_aux_lemma => kernel_rfl) (by simp) ?_
    refine AllReady.cons rfl (fun K hK => ?_) AllReady.nil
    go_simp
    refine hK _ _ ?_
    clear hK K
    refine wpAny_done (by kernel_rfl) ?_ _
    obtain ⟨hk0, hk1, hsz, hst⟩ := HK.out
    have hlo := hst.drew.lost hR5.chg
    have hk05 := (hlo.block w.heap.size (by omega)).trans hk0
    have hk15 := (hlo.block (w.heap.size + 1) (by omega)).trans hk1
    have hb5' : Below w.heap.size w w5 := (HB.out.drew).trans (hlo.mono (by omega))
    have hlf := hR5.st.left
    have hs5 := hR5.st
    have hfr := hR5.frag
    clear HK HB HR hk0 hk1 hsz hst hlo hR5 c0
    obtain ⟨hx6, hr6, hb6, hk06, hk16⟩ := whole_set (P := P) hs5 hk05 hk15 hb5' (by omega) (by omega)
    have hkl : (k5 : Int) < (s.size : Int) := by
      cases l' with
      | nil => exact absurd rfl hl'
      | cons c r => have := hlf.lt; omega
    clear hx6 hs5 hfr hlf hl' hk05 hk15 hb5' x1 x2 x3 f1 f2 f3 c05
    generalize World.setCell _ _ _ = w6 at *
    have c26 := hr6.cell2
    go_wp2_with (go_at_call 155; refine (giveUp_any _).mono ?_; rintro e w7 ⟨rfl, rfl⟩)
    have r5 := Rets.of hk06 hk16
    refine leaves_cons (f := 153) (args := #[.pointer (some ⟨w.heap.size, 0, none⟩), .pointer (some ⟨w.heap.size + 1, 0, none⟩)]) (by simp) (by simp [go_sem]) ?_
    refine (defer_panic w.heap.size (w.heap.size + 1) _ _ _ r5.1 r5.2.1 r5.2.2.1 r5.2.2.2 (by omega)).mono ?_
    rintro e u' w'' ⟨rfl, rfl, rfl⟩
    have e1 := r5.1
    have e2 := r5.2.2.1
    have hend := (hb6.setCell (p := ⟨w.heap.size, 0, none⟩) (Nat.le_refl _) (.pointer none)).setCell (p := ⟨w.heap.size + 1, 0, none⟩) (show w.heap.size ≤ w.heap.size + 1 by omega) (.int .i64 9)
    simp [Leaves, settle, results, Tryz.results138, go_sem, e1, e2]
    exact hend

set_option maxHeartbeats 2000000 in
theorem read_ok (s : ByteArray) (w : World) (hs : s.size ≤ 64) (htab : TabW w) (A : Lang) (ho : pLoop (s.size + 1) noL epsL s.data.toList = some (A, [])) :
    Calls Tryz.prog 138 #[.string s] w fun e w' => ∃ xb, e = .returned (.tuple #[.pointer (some ⟨xb, 0, none⟩), .int .i64 0]) ∧ PatAt w' xb A ∧ Below w.heap.size w w' := by
  have hmf : ∀ (fn : Fn) (first cap : Array Value) (w : World), (Instr.makeFunc fn first cap).run Tryz.prog w = .ok (.func fn first cap) w := fun _ _ _ _ => rfl
  obtain ⟨W, hW, hbW, hst, hk0, hk1, hsz⟩ := read_start s w hs htab
  have HR := rows_ok (s.size + 1) W.drew 0 _ _ _ (by simp) hst.drew
  rw [ho] at HR
  have HR : Hid (Calls _ _ _ _ _) := Lib.hid HR
  have c0 := hst.rd.cell0
  have HK := Lib.hid (And.intro hk0 (And.intro hk1 (And.intro hsz hst)))
  have HB := Lib.hid hbW
  clear ho hst hk0 hk1 hsz hbW
  subst hW
  go_enter_defers Tryz.func138, Tryz.ntmps138
  go_wp2_with fail
  refine wp_region_any (by kernel_rfl) ?_
  change wpAny _ _ _ _ _ _ _ (World.drew _)
  refine wpAny_ready (rs := [0, 2]) (by as_aux_lemma => kernel_rfl) (by simp) ?_
  refine AllReady.cons rfl (fun K hK => ?_) (AllReady.cons rfl (fun K hK => ?_) AllReady.nil)
  · go_simp
    refine hK _ _ ?_
    clear hK K
    refine wpAny_ready (rs := [1, 2]) (by as_aux_lemma => kernel_rfl) (by simp) ?_
    refine AllReady.cons rfl (fun K hK => ?_) (AllReady.cons rfl (fun K hK => ?_) AllReady.nil)
    · go_simp
      refine hK _ _ ?_
      clear hK K
      refine wpAny_ready (rs := [2]) (by as_aux_lemma => kernel_rfl) (by simp) ?_
      refine AllReady.cons rfl (fun K hK => ?_) AllReady.nil
      go_simp
      go_wp2_with (go_at_call 154; refine HR.out.mono ?_; rintro e w5 ⟨P, rfl, k5, v5, pl5, hR5⟩; have c05 := hR5.st.rd.cell0; have x1 := hR5.st.rx.blk.cell1; have x2 := hR5.st.rx.blk.cell2; have x3 := hR5.st.rx.blk.cell3; have f1 := hR5.st.rx.blk.frozen 1; have f2 := hR5.st.rx.blk.frozen 2; have f3 := hR5.st.rx.blk.frozen 3)
      try (refine hK _ _ ?_; clear hK K)
      refine wpAny_ready (rs := [3]) (by as_aux_lemma => kernel_rfl) (by simp) ?_
      refine AllReady.cons rfl (fun K hK => ?_) AllReady.nil
      go_simp
      refine hK _ _ ?_
      clear hK K
      refine wpAny_ready (rs := [4]) (by as_aux_lemma => kernel_rfl) (by simp) ?_
      refine AllReady.cons rfl (fun K hK => ?_) AllReady.nil
      go_simp
      refine hK _ _ ?_
      clear hK K
      refine wpAny_ready (rs := [5]) (by as_aux_lemma => kernel_rfl) (by simp) ?_
      refine AllReady.cons rfl (fun K hK => ?_) AllReady.nil
      go_simp
      refine hK _ _ ?_
      clear hK K
      refine wpAny_done (by kernel_rfl) ?_ _
      obtain ⟨hk0, hk1, hsz, hst⟩ := HK.out
      have hlo := hst.drew.lost hR5.chg
      have hk05 := (hlo.block w.heap.size (by omega)).trans hk0
      have hk15 := (hlo.block (w.heap.size + 1) (by omega)).trans hk1
      have hb5' : Below w.heap.size w w5 := (HB.out.drew).trans (hlo.mono (by omega))
      have hlf := hR5.st.left
      have hs5 := hR5.st
      have hfr := hR5.frag
      clear HK HB HR hk0 hk1 hsz hst hlo hR5 c0
      obtain ⟨hx6, hr6, hb6, hk06, hk16⟩ := whole_set (P := P) hs5 hk05 hk15 hb5' (by omega) (by omega)
      have hkl : ¬ (k5 : Int) < (s.size : Int) := by have := hlf.nil; omega
      clear hs5 hlf hk05 hk15 hb5' x1 x2 x3 f1 f2 f3 c05
      generalize World.setCell _ _ _ = w6 at *
      have c26 := hr6.cell2
      have c06 := hr6.cell0
      have r5 := Rets.of hk06 hk16
      have e1 := r5.1
      have z1 := r5.2.1
      have e2 := r5.2.2.1
      have z2 := r5.2.2.2
      go_wp2
      refine leaves_cons (f := 153) (args := #[.pointer (some ⟨w.heap.size, 0, none⟩), .pointer (some ⟨w.heap.size + 1, 0, none⟩)]) (by simp) (by simp [go_sem]) ?_
      refine (defer_idle w.heap.size (w.heap.size + 1) _).mono ?_
      rintro e u' w'' ⟨rfl, rfl, rfl⟩
      have hvl := hx6.own.lt
      have hend := (hb6.setCell (p := ⟨w.heap.size, 0, none⟩) (Nat.le_refl _) (.pointer (some ⟨w.heap.size + 1 + 1, 0, none⟩))).setCell (p := ⟨w.heap.size + 1, 0, none⟩) (show w.heap.size ≤ w.heap.size + 1 by omega) (.int .i64 0)
      have hx7 := (hx6.chg (Chg.of_grown (xgrown_setCell w6 w.heap.size 0 (.pointer (some ⟨w.heap.size + 1 + 1, 0, none⟩)))) (by omega) (fun b hb e => by have := (hvl b hb).1; omega)).chg (Chg.of_grown (xgrown_setCell _ (w.heap.size + 1) 0 (.int .i64 0))) (by omega) (fun b hb e => by have := (hvl b hb).1; omega)
      simp [Leaves, settle, results, Tryz.results138, go_sem, e1, e2]
      exact ⟨⟨_, v5, P, pl5, hx7, hfr⟩, hend⟩
    · go_simp
      go_wp2_with (go_at_call 154; refine HR.out.mono ?_; rintro e w5 ⟨P, rfl, k5, v5, pl5, hR5⟩; have c05 := hR5.st.rd.cell0; have x1 := hR5.st.rx.blk.cell1; have x2 := hR5.st.rx.blk.cell2; have x3 := hR5.st.rx.blk.cell3; have f1 := hR5.st.rx.blk.frozen 1; have f2 := hR5.st.rx.blk.frozen 2; have f3 := hR5.st.rx.blk.frozen 3)
      try (refine hK _ _ ?_; clear hK K)
      refine wpAny_ready (rs := [1]) (by as_aux_lemma => kernel_rfl) (by simp) ?_
      refine AllReady.cons rfl (fun K hK => ?_) AllReady.nil
      go_simp
      refine hK _ _ ?_
      clear hK K
      refine wpAny_ready (rs := [3]) (by as_aux_lemma => kernel_rfl) (by simp) ?_
      refine AllReady.cons rfl (fun K hK => ?_) AllReady.nil
      go_simp
      refine hK _ _ ?_
      clear hK K
      refine wpAny_ready (rs := [4]) (by as_aux_lemma => kernel_rfl) (by simp) ?_
      refine AllReady.cons rfl (fun K hK => ?_) AllReady.nil
      go_simp
      refine hK _ _ ?_
      clear hK K
      refine wpAny_ready (rs := [5]) (by as_aux_lemma => kernel_rfl) (by simp) ?_
      refine AllReady.cons rfl (fun K hK => ?_) AllReady.nil
      go_simp
      refine hK _ _ ?_
      clear hK K
      refine wpAny_done (by kernel_rfl) ?_ _
      obtain ⟨hk0, hk1, hsz, hst⟩ := HK.out
      have hlo := hst.drew.lost hR5.chg
      have hk05 := (hlo.block w.heap.size (by omega)).trans hk0
      have hk15 := (hlo.block (w.heap.size + 1) (by omega)).trans hk1
      have hb5' : Below w.heap.size w w5 := (HB.out.drew).trans (hlo.mono (by omega))
      have hlf := hR5.st.left
      have hs5 := hR5.st
      have hfr := hR5.frag
      clear HK HB HR hk0 hk1 hsz hst hlo hR5 c0
      obtain ⟨hx6, hr6, hb6, hk06, hk16⟩ := whole_set (P := P) hs5 hk05 hk15 hb5' (by omega) (by omega)
      have hkl : ¬ (k5 : Int) < (s.size : Int) := by have := hlf.nil; omega
      clear hs5 hlf hk05 hk15 hb5' x1 x2 x3 f1 f2 f3 c05
      generalize World.setCell _ _ _ = w6 at *
      have c26 := hr6.cell2
      have c06 := hr6.cell0
      have r5 := Rets.of hk06 hk16
      have e1 := r5.1
      have z1 := r5.2.1
      have e2 := r5.2.2.1
      have z2 := r5.2.2.2
      go_wp2
      refine leaves_cons (f := 153) (args := #[.pointer (some ⟨w.heap.size, 0, none⟩), .pointer (some ⟨w.heap.size + 1, 0, none⟩)]) (by simp) (by simp [go_sem]) ?_
      refine (defer_idle w.heap.size (w.heap.size + 1) _).mono ?_
      rintro e u' w'' ⟨rfl, rfl, rfl⟩
      have hvl := hx6.own.lt
      have hend := (hb6.setCell (p := ⟨w.heap.size, 0, none⟩) (Nat.le_refl _) (.pointer (some ⟨w.heap.size + 1 + 1, 0, none⟩))).setCell (p := ⟨w.heap.size + 1, 0, none⟩) (show w.heap.size ≤ w.heap.size + 1 by omega) (.int .i64 0)
      have hx7 := (hx6.chg (Chg.of_grown (xgrown_setCell w6 w.heap.size 0 (.pointer (some ⟨w.heap.size + 1 + 1, 0, none⟩)))) (by omega) (fun b hb e => by have := (hvl b hb).1; omega)).chg (Chg.of_grown (xgrown_setCell _ (w.heap.size + 1) 0 (.int .i64 0))) (by omega) (fun b hb e => by have := (hvl b hb).1; omega)
      simp [Leaves, settle, results, Tryz.results138, go_sem, e1, e2]
      exact ⟨⟨_, v5, P, pl5, hx7, hfr⟩, hend⟩
  · go_simp
    go_wp2_with (go_at_call 154; refine HR.out.mono ?_; rintro e w5 ⟨P, rfl, k5, v5, pl5, hR5⟩; have c05 := hR5.st.rd.cell0; have x1 := hR5.st.rx.blk.cell1; have x2 := hR5.st.rx.blk.cell2; have x3 := hR5.st.rx.blk.cell3; have f1 := hR5.st.rx.blk.frozen 1; have f2 := hR5.st.rx.blk.frozen 2; have f3 := hR5.st.rx.blk.frozen 3)
    try (refine hK _ _ ?_; clear hK K)
    refine wpAny_ready (rs := [0]) (by as_aux_lemma => kernel_rfl) (by simp) ?_
    refine AllReady.cons rfl (fun K hK => ?_) AllReady.nil
    go_simp
    refine hK _ _ ?_
    clear hK K
    refine wpAny_ready (rs := [1]) (by as_aux_lemma => kernel_rfl) (by simp) ?_
    refine AllReady.cons rfl (fun K hK => ?_) AllReady.nil
    go_simp
    refine hK _ _ ?_
    clear hK K
    refine wpAny_ready (rs := [3]) (by as_aux_lemma => kernel_rfl) (by simp) ?_
    refine AllReady.cons rfl (fun K hK => ?_) AllReady.nil
    go_simp
    refine hK _ _ ?_
    clear hK K
    refine wpAny_ready (rs := [4]) (by as_aux_lemma => kernel_rfl) (by simp) ?_
    refine AllReady.cons rfl (fun K hK => ?_) AllReady.nil
    go_simp
    refine hK _ _ ?_
    clear hK K
    refine wpAny_ready (rs := [5]) (by as_aux_lemma => kernel_rfl) (by simp) ?_
    refine AllReady.cons rfl (fun K hK => ?_) AllReady.nil
    go_simp
    refine hK _ _ ?_
    clear hK K
    refine wpAny_done (by kernel_rfl) ?_ _
    obtain ⟨hk0, hk1, hsz, hst⟩ := HK.out
    have hlo := hst.drew.lost hR5.chg
    have hk05 := (hlo.block w.heap.size (by omega)).trans hk0
    have hk15 := (hlo.block (w.heap.size + 1) (by omega)).trans hk1
    have hb5' : Below w.heap.size w w5 := (HB.out.drew).trans (hlo.mono (by omega))
    have hlf := hR5.st.left
    have hs5 := hR5.st
    have hfr := hR5.frag
    clear HK HB HR hk0 hk1 hsz hst hlo hR5 c0
    obtain ⟨hx6, hr6, hb6, hk06, hk16⟩ := whole_set (P := P) hs5 hk05 hk15 hb5' (by omega) (by omega)
    have hkl : ¬ (k5 : Int) < (s.size : Int) := by have := hlf.nil; omega
    clear hs5 hlf hk05 hk15 hb5' x1 x2 x3 f1 f2 f3 c05
    generalize World.setCell _ _ _ = w6 at *
    have c26 := hr6.cell2
    have c06 := hr6.cell0
    have r5 := Rets.of hk06 hk16
    have e1 := r5.1
    have z1 := r5.2.1
    have e2 := r5.2.2.1
    have z2 := r5.2.2.2
    go_wp2
    refine leaves_cons (f := 153) (args := #[.pointer (some ⟨w.heap.size, 0, none⟩), .pointer (some ⟨w.heap.size + 1, 0, none⟩)]) (by simp) (by simp [go_sem]) ?_
    refine (defer_idle w.heap.size (w.heap.size + 1) _).mono ?_
    rintro e u' w'' ⟨rfl, rfl, rfl⟩
    have hvl := hx6.own.lt
    have hend := (hb6.setCell (p := ⟨w.heap.size, 0, none⟩) (Nat.le_refl _) (.pointer (some ⟨w.heap.size + 1 + 1, 0, none⟩))).setCell (p := ⟨w.heap.size + 1, 0, none⟩) (show w.heap.size ≤ w.heap.size + 1 by omega) (.int .i64 0)
    have hx7 := (hx6.chg (Chg.of_grown (xgrown_setCell w6 w.heap.size 0 (.pointer (some ⟨w.heap.size + 1 + 1, 0, none⟩)))) (by omega) (fun b hb e => by have := (hvl b hb).1; omega)).chg (Chg.of_grown (xgrown_setCell _ (w.heap.size + 1) 0 (.int .i64 0))) (by omega) (fun b hb e => by have := (hvl b hb).1; omega)
    simp [Leaves, settle, results, Tryz.results138, go_sem, e1, e2]
    exact ⟨⟨_, v5, P, pl5, hx7, hfr⟩, hend⟩

end Go.Proofs.YtmanjegdgjeeiaaGreatDoor
