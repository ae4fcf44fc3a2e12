/-
  What Self, Get, Fork, Hear of package member tell.
-/
import Derived.Test.YtnoconampcemoaaB2
namespace Go.Proofs.Ytnoconampcemoaa
open Go Go.RowKit

theorem TabBlk.mem {w : World} {b : Nat} {T : Tb} (h : TabBlk w b T) {k : Nat} (hk : k < 64) {m : Mem} (hf : T.f k = some m) :
    w.cell? ⟨b, k * 4, none⟩ = some (.int .u16 m.n) ∧ w.cell? ⟨b, k * 4 + 1, none⟩ = some (.int .u8 m.s) ∧ w.cell? ⟨b, k * 4 + 2, none⟩ = some (.int .i64 m.i) ∧ w.cell? ⟨b, k * 4 + 3, none⟩ = some (.bool true) := by
  have h0 := h.at hk (j := 0) (by decide)
  have h1 := h.at hk (j := 1) (by decide)
  have h2 := h.at hk (j := 2) (by decide)
  have h3 := h.at hk (j := 3) (by decide)
  rw [hf] at h0 h1 h2 h3
  exact ⟨h0, h1, h2, h3⟩
theorem TabBlk.nomem {w : World} {b : Nat} {T : Tb} (h : TabBlk w b T) {k : Nat} (hk : k < 64) (hf : T.f k = none) :
    w.cell? ⟨b, k * 4, none⟩ = some (.int .u16 0) ∧ w.cell? ⟨b, k * 4 + 1, none⟩ = some (.int .u8 0) ∧ w.cell? ⟨b, k * 4 + 2, none⟩ = some (.int .i64 0) ∧ w.cell? ⟨b, k * 4 + 3, none⟩ = some (.bool false) := by
  have h0 := h.at hk (j := 0) (by decide)
  have h1 := h.at hk (j := 1) (by decide)
  have h2 := h.at hk (j := 2) (by decide)
  have h3 := h.at hk (j := 3) (by decide)
  rw [hf] at h0 h1 h2 h3
  exact ⟨h0, h1, h2, h3⟩
/-- What stands in a place: zero, where nothing was heard. -/
def atT (T : Tb) (k : Nat) : Mem := (T.f k).getD ⟨0, 0, 0⟩
theorem TabBlk.get {w : World} {b : Nat} {T : Tb} (h : TabBlk w b T) {k : Nat} (hk : k < 64) :
    w.cell? ⟨b, k * 4, none⟩ = some (.int .u16 (atT T k).n) ∧ w.cell? ⟨b, k * 4 + 1, none⟩ = some (.int .u8 (atT T k).s) ∧ w.cell? ⟨b, k * 4 + 2, none⟩ = some (.int .i64 (atT T k).i) ∧ w.cell? ⟨b, k * 4 + 3, none⟩ = some (.bool (T.f k).isSome) := by
  cases hf : T.f k with
  | none => have := h.nomem hk hf; simpa [atT, hf] using this
  | some m => have := h.mem hk hf; simpa [atT, hf] using this
theorem TabBlk.storeCells {w : World} {b : Nat} {T : Tb} (h : TabBlk w b T) (T' : Tb) : (storeCells ⟨b, 0, none⟩ (tabC T').toList).run Try.prog w = .ok () (w.setRow b (tabC T')) := by
  have := run_storeCells_from (P := Try.prog) b 100 (tabC T').toList 0 (tabC T) w h (by simp [tabC_size]) (fun v hv => tabL_one T' hv)
  rw [this]
  simp
theorem TabBlk.row {w : World} {b : Nat} {T : Tb} (h : TabBlk w b T) (T' : Tb) : TabBlk (w.setRow b (tabC T')) b T' := setRow_heap w b _ _ _ _ h
theorem below_setRowB {B : Nat} {w0 w : World} (h : Below B w0 w) (b : Nat) (hb : B ≤ b) (cs : Array Value) : Below B w0 (w.setRow b cs) :=
  ⟨h.os, h.tape, h.output, by show _ ≤ (w.heap.modify b _).size; rw [Array.size_modify]; exact h.size, fun k hk => (setRow_other w b k cs (by omega)).trans (h.block k hk)⟩
abbrev zM : Mem := ⟨0, 0, 0⟩

set_option maxRecDepth 20000 in
set_option maxHeartbeats 4000000 in
theorem bSelf_any (b : Nat) (T : Tb) (m : Mem) (s : Nat) (hs : T.s = s) (hlt : s < 64) (hf : T.f s = some m) (w : World) (hT : TabBlk w b T) :
    Calls Try.prog 23 #[.pointer (some ⟨b, 0, none⟩)] w fun e w' => e = .returned (.agg #[.int .u16 m.n, .int .u8 m.s, .int .i64 m.i]) ∧ Below w.heap.size w w' := by
  have hlt2 : (s : Int) < 64 := by omega
  go_enter Try.func23, Try.ntmps23
  go_wp2_with fail
  have t0 := hT.on ((Below.refl _ w).alloc (Nat.le_refl _) (.cells #[.int .u16 0, .int .u8 0, .int .i64 0] 43))
  have z0 : Mb (w.alloc (.cells #[.int .u16 0, .int .u8 0, .int .i64 0] 43)) w.heap.size zM := Mb.new w zM
  have hB0 := (Below.refl w.heap.size w).alloc (Nat.le_refl _) (.cells #[.int .u16 0, .int .u8 0, .int .i64 0] 43)
  generalize w.alloc (.cells #[.int .u16 0, .int .u8 0, .int .i64 0] 43) = W at *
  have hne : b ≠ w.heap.size := by have := hT.lt; omega
  clear hT
  have HM := Lib.hid (z0.store m)
  have HBl := Lib.hid (stM_below hB0 (Nat.le_refl _) m)
  have f0 := z0.f
  have e0 := z0.c0; have e1 := z0.c1; have e2 := z0.c2
  have HT1 : Hid (∀ w', TabBlk w' b T → TabBlk (stM w' w.heap.size m) b T) := Lib.hid (fun w' h => h.kept (stM_grown _ _ _) (by simp; omega))
  clear z0 hB0
  refine wp_region_any (by kernel_rfl) ?_
  change wpAny _ _ _ _ _ _ _ (World.drew _)
  have hS : (fun w' : World => TabBlk w' b T) W.drew := t0
  refine wpAny_of_held (S := fun w' => TabBlk w' b T) _ _ _ _ ?_
  refine wpAnyH_takeE (i := 0) (some 6) (v := ?_) rfl rfl (by as_aux_lemma => kernel_rfl) (by as_aux_lemma => kernel_rfl) (by as_aux_lemma => kernel_rfl) (fun _ _ _ h => h) (Or.inl ⟨by kernel_rfl, ?_⟩) hS ?_
  rotate_left
  · intro w hSw; have a0 := (hSw : TabBlk w b T).self; rw [hs] at a0; obtain ⟨a1, a2, a3, -⟩ := (hSw : TabBlk w b T).mem hlt hf; go_simp
    first | done | with_reducible rfl
  refine wpAnyH_takeE (i := 1) (some 7) (v := ?_) rfl rfl (by as_aux_lemma => kernel_rfl) (by as_aux_lemma => kernel_rfl) (by as_aux_lemma => kernel_rfl) (fun _ _ _ h => h) (Or.inl ⟨by kernel_rfl, ?_⟩) hS ?_
  rotate_left
  · intro w hSw; have a0 := (hSw : TabBlk w b T).self; rw [hs] at a0; obtain ⟨a1, a2, a3, -⟩ := (hSw : TabBlk w b T).mem hlt hf; go_simp
    first | done | with_reducible rfl
  refine wpAnyH_takeE (i := 2) (some 8) (v := ?_) rfl rfl (by as_aux_lemma => kernel_rfl) (by as_aux_lemma => kernel_rfl) (by as_aux_lemma => kernel_rfl) (fun _ _ _ h => h) (Or.inl ⟨by kernel_rfl, ?_⟩) hS ?_
  rotate_left
  · intro w hSw; have a0 := (hSw : TabBlk w b T).self; rw [hs] at a0; obtain ⟨a1, a2, a3, -⟩ := (hSw : TabBlk w b T).mem hlt hf; go_simp
    first | done | with_reducible rfl
  refine wpAnyH_takeE (i := 3) (some 9) (v := ?_) rfl rfl (by as_aux_lemma => kernel_rfl) (by as_aux_lemma => kernel_rfl) (by as_aux_lemma => kernel_rfl) (fun _ _ _ h => h) (Or.inl ⟨by kernel_rfl, ?_⟩) hS ?_
  rotate_left
  · intro w hSw; have a0 := (hSw : TabBlk w b T).self; rw [hs] at a0; obtain ⟨a1, a2, a3, -⟩ := (hSw : TabBlk w b T).mem hlt hf; go_simp
    first | done | with_reducible rfl
  refine wpAnyH_takeE (i := 4) (some 10) (v := ?_) rfl rfl (by as_aux_lemma => kernel_rfl) (by as_aux_lemma => kernel_rfl) (by as_aux_lemma => kernel_rfl) (fun _ _ _ h => h) (Or.inl ⟨by kernel_rfl, ?_⟩) hS ?_
  rotate_left
  · intro w hSw; have a0 := (hSw : TabBlk w b T).self; rw [hs] at a0; obtain ⟨a1, a2, a3, -⟩ := (hSw : TabBlk w b T).mem hlt hf; go_simp
    first | done | with_reducible rfl
  refine wpAnyH_takeE (i := 5) (some 11) (v := ?_) rfl rfl (by as_aux_lemma => kernel_rfl) (by as_aux_lemma => kernel_rfl) (by as_aux_lemma => kernel_rfl) (fun _ _ _ h => h) (Or.inl ⟨by kernel_rfl, ?_⟩) hS ?_
  rotate_left
  · intro w hSw; have a0 := (hSw : TabBlk w b T).self; rw [hs] at a0; obtain ⟨a1, a2, a3, -⟩ := (hSw : TabBlk w b T).mem hlt hf; go_simp
    first | done | with_reducible rfl
  refine wpAnyH_takeE (i := 6) (some 12) (v := ?_) rfl rfl (by as_aux_lemma => kernel_rfl) (by as_aux_lemma => kernel_rfl) (by as_aux_lemma => kernel_rfl) (fun _ _ _ h => h) (Or.inl ⟨by kernel_rfl, ?_⟩) hS ?_
  rotate_left
  · intro w hSw; have a0 := (hSw : TabBlk w b T).self; rw [hs] at a0; obtain ⟨a1, a2, a3, -⟩ := (hSw : TabBlk w b T).mem hlt hf; go_simp
    first | done | with_reducible rfl
  refine wpAnyH_takeE (i := 7) (some 13) (v := ?_) rfl rfl (by as_aux_lemma => kernel_rfl) (by as_aux_lemma => kernel_rfl) (by as_aux_lemma => kernel_rfl) (fun _ _ _ h => h) (Or.inl ⟨by kernel_rfl, ?_⟩) hS ?_
  rotate_left
  · intro w hSw; have a0 := (hSw : TabBlk w b T).self; rw [hs] at a0; obtain ⟨a1, a2, a3, -⟩ := (hSw : TabBlk w b T).mem hlt hf; go_simp
    first | done | with_reducible rfl
  refine wpAnyH_takeE (i := 8) (some 14) (v := ?_) rfl rfl (by as_aux_lemma => kernel_rfl) (by as_aux_lemma => kernel_rfl) (by as_aux_lemma => kernel_rfl) (fun _ _ _ h => h) (Or.inl ⟨by kernel_rfl, ?_⟩) hS ?_
  rotate_left
  · intro w hSw; have a0 := (hSw : TabBlk w b T).self; rw [hs] at a0; obtain ⟨a1, a2, a3, -⟩ := (hSw : TabBlk w b T).mem hlt hf; go_simp
    first | done | with_reducible rfl
  refine wpAnyH_takeE (i := 9) (some 15) (v := ?_) rfl rfl (by as_aux_lemma => kernel_rfl) (by as_aux_lemma => kernel_rfl) (by as_aux_lemma => kernel_rfl) (fun _ _ _ h => h) (Or.inl ⟨by kernel_rfl, ?_⟩) hS ?_
  rotate_left
  · intro w hSw; have a0 := (hSw : TabBlk w b T).self; rw [hs] at a0; obtain ⟨a1, a2, a3, -⟩ := (hSw : TabBlk w b T).mem hlt hf; go_simp
    first | done | with_reducible rfl
  refine wpAnyH_ready (rs := [10]) (by as_aux_lemma => kernel_rfl) (by simp) ?_
  refine AllReadyH.cons rfl (fun K hK => ?_) AllReadyH.nil
  go_simp
  go_wp2_with fail
  refine hK.out _ _ ?_ (fun hS => ?_)
  · exact HT1.out _ t0
  clear hK K e0 e1 e2 f0 t0
  refine wpAnyH_done (by kernel_rfl) ?_ _
  have e1 : ((W.setCell ⟨w.heap.size, 0, none⟩ (.int .u16 m.n)).setCell ⟨w.heap.size, 1, none⟩ (.int .u8 m.s)).setCell ⟨w.heap.size, 2, none⟩ (.int .i64 m.i) = stM W w.heap.size m := rfl
  rw [e1]
  clear e1 hS
  generalize stM W w.heap.size m = W3 at *
  go_simp
  go_wp2
  exact bodyPost_ret (results_mb1 rfl _ _ _ rfl (show Mb W3.drew w.heap.size m from HM.out)) rfl ⟨rfl, HBl.out.drew⟩

/-- What Get tells. -/
def getR (T : Tb) (n : Nat) : Mem × Bool := if n < 64 then (atT T n, (T.f n).isSome) else (zM, false)
set_option maxRecDepth 20000 in
set_option maxHeartbeats 4000000 in
theorem bGet_low (b : Nat) (T : Tb) (n : Nat) (hlt : n < 64) (w : World) (hT : TabBlk w b T) (m : Mem) (hm : atT T n = m) (r : Bool) (hr : (T.f n).isSome = r) :
    Calls Try.prog 22 #[.pointer (some ⟨b, 0, none⟩), .int .u16 (n : Int)] w fun e w' => e = .returned (.tuple #[.agg #[.int .u16 m.n, .int .u8 m.s, .int .i64 m.i], .bool r]) ∧ Below w.heap.size w w' := by
  have hlt2 : (n : Int) < 64 := by omega
  have hge : ¬ (64 : Int) ≤ (n : Int) := by omega
  go_enter Try.func22, Try.ntmps22
  go_wp2_with fail
  have t0 := hT.on ((Below.refl _ w).alloc (Nat.le_refl _) (.cells #[.int .u16 0, .int .u8 0, .int .i64 0] 43))
  have z0 : Mb (w.alloc (.cells #[.int .u16 0, .int .u8 0, .int .i64 0] 43)) w.heap.size zM := Mb.new w zM
  have hB0 := (Below.refl w.heap.size w).alloc (Nat.le_refl _) (.cells #[.int .u16 0, .int .u8 0, .int .i64 0] 43)
  generalize w.alloc (.cells #[.int .u16 0, .int .u8 0, .int .i64 0] 43) = W at *
  have hne : b ≠ w.heap.size := by have := hT.lt; omega
  clear hT
  have HM := Lib.hid (z0.store m)
  have HBl := Lib.hid (stM_below hB0 (Nat.le_refl _) m)
  have f0 := z0.f
  have e0 := z0.c0; have e1 := z0.c1; have e2 := z0.c2
  have HT1 : Hid (∀ w', TabBlk w' b T → TabBlk (stM w' w.heap.size m) b T) := Lib.hid (fun w' h => h.kept (stM_grown _ _ _) (by simp; omega))
  clear z0 hB0
  refine wp_region_any (by kernel_rfl) ?_
  change wpAny _ _ _ _ _ _ _ (World.drew _)
  have hS : (fun w' : World => TabBlk w' b T) W.drew := t0
  refine wpAny_of_held (S := fun w' => TabBlk w' b T) _ _ _ _ ?_
  refine wpAnyH_takeE (i := 0) (some 13) (v := ?_) rfl rfl (by as_aux_lemma => kernel_rfl) (by as_aux_lemma => kernel_rfl) (by as_aux_lemma => kernel_rfl) (fun _ _ _ h => h) (Or.inl ⟨by kernel_rfl, ?_⟩) hS ?_
  rotate_left
  · intro w hSw; obtain ⟨a1, a2, a3, a4⟩ := (hSw : TabBlk w b T).get hlt; rw [hm] at a1 a2 a3; rw [hr] at a4; go_simp
    first | done | with_reducible rfl
  refine wpAnyH_takeE (i := 1) (some 14) (v := ?_) rfl rfl (by as_aux_lemma => kernel_rfl) (by as_aux_lemma => kernel_rfl) (by as_aux_lemma => kernel_rfl) (fun _ _ _ h => h) (Or.inl ⟨by kernel_rfl, ?_⟩) hS ?_
  rotate_left
  · intro w hSw; obtain ⟨a1, a2, a3, a4⟩ := (hSw : TabBlk w b T).get hlt; rw [hm] at a1 a2 a3; rw [hr] at a4; go_simp
    first | done | with_reducible rfl
  refine wpAnyH_takeE (i := 2) (some 15) (v := ?_) rfl rfl (by as_aux_lemma => kernel_rfl) (by as_aux_lemma => kernel_rfl) (by as_aux_lemma => kernel_rfl) (fun _ _ _ h => h) (Or.inl ⟨by kernel_rfl, ?_⟩) hS ?_
  rotate_left
  · intro w hSw; obtain ⟨a1, a2, a3, a4⟩ := (hSw : TabBlk w b T).get hlt; rw [hm] at a1 a2 a3; rw [hr] at a4; go_simp
    first | done | with_reducible rfl
  refine wpAnyH_takeE (i := 3) (some 16) (v := ?_) rfl rfl (by as_aux_lemma => kernel_rfl) (by as_aux_lemma => kernel_rfl) (by as_aux_lemma => kernel_rfl) (fun _ _ _ h => h) (Or.inl ⟨by kernel_rfl, ?_⟩) hS ?_
  rotate_left
  · intro w hSw; obtain ⟨a1, a2, a3, a4⟩ := (hSw : TabBlk w b T).get hlt; rw [hm] at a1 a2 a3; rw [hr] at a4; go_simp
    first | done | with_reducible rfl
  refine wpAnyH_takeE (i := 4) (some 17) (v := ?_) rfl rfl (by as_aux_lemma => kernel_rfl) (by as_aux_lemma => kernel_rfl) (by as_aux_lemma => kernel_rfl) (fun _ _ _ h => h) (Or.inl ⟨by kernel_rfl, ?_⟩) hS ?_
  rotate_left
  · intro w hSw; obtain ⟨a1, a2, a3, a4⟩ := (hSw : TabBlk w b T).get hlt; rw [hm] at a1 a2 a3; rw [hr] at a4; go_simp
    first | done | with_reducible rfl
  refine wpAnyH_takeE (i := 5) (some 18) (v := ?_) rfl rfl (by as_aux_lemma => kernel_rfl) (by as_aux_lemma => kernel_rfl) (by as_aux_lemma => kernel_rfl) (fun _ _ _ h => h) (Or.inl ⟨by kernel_rfl, ?_⟩) hS ?_
  rotate_left
  · intro w hSw; obtain ⟨a1, a2, a3, a4⟩ := (hSw : TabBlk w b T).get hlt; rw [hm] at a1 a2 a3; rw [hr] at a4; go_simp
    first | done | with_reducible rfl
  refine wpAnyH_takeE (i := 6) (some 19) (v := ?_) rfl rfl (by as_aux_lemma => kernel_rfl) (by as_aux_lemma => kernel_rfl) (by as_aux_lemma => kernel_rfl) (fun _ _ _ h => h) (Or.inl ⟨by kernel_rfl, ?_⟩) hS ?_
  rotate_left
  · intro w hSw; obtain ⟨a1, a2, a3, a4⟩ := (hSw : TabBlk w b T).get hlt; rw [hm] at a1 a2 a3; rw [hr] at a4; go_simp
    first | done | with_reducible rfl
  refine wpAnyH_takeE (i := 7) (some 20) (v := ?_) rfl rfl (by as_aux_lemma => kernel_rfl) (by as_aux_lemma => kernel_rfl) (by as_aux_lemma => kernel_rfl) (fun _ _ _ h => h) (Or.inl ⟨by kernel_rfl, ?_⟩) hS ?_
  rotate_left
  · intro w hSw; obtain ⟨a1, a2, a3, a4⟩ := (hSw : TabBlk w b T).get hlt; rw [hm] at a1 a2 a3; rw [hr] at a4; go_simp
    first | done | with_reducible rfl
  refine wpAnyH_takeE (i := 8) (some 21) (v := ?_) rfl rfl (by as_aux_lemma => kernel_rfl) (by as_aux_lemma => kernel_rfl) (by as_aux_lemma => kernel_rfl) (fun _ _ _ h => h) (Or.inl ⟨by kernel_rfl, ?_⟩) hS ?_
  rotate_left
  · intro w hSw; obtain ⟨a1, a2, a3, a4⟩ := (hSw : TabBlk w b T).get hlt; rw [hm] at a1 a2 a3; rw [hr] at a4; go_simp
    first | done | with_reducible rfl
  refine wpAnyH_takeE (i := 9) (some 22) (v := ?_) rfl rfl (by as_aux_lemma => kernel_rfl) (by as_aux_lemma => kernel_rfl) (by as_aux_lemma => kernel_rfl) (fun _ _ _ h => h) (Or.inl ⟨by kernel_rfl, ?_⟩) hS ?_
  rotate_left
  · intro w hSw; obtain ⟨a1, a2, a3, a4⟩ := (hSw : TabBlk w b T).get hlt; rw [hm] at a1 a2 a3; rw [hr] at a4; go_simp
    first | done | with_reducible rfl
  refine wpAnyH_takeE (i := 10) (some 23) (v := ?_) rfl rfl (by as_aux_lemma => kernel_rfl) (by as_aux_lemma => kernel_rfl) (by as_aux_lemma => kernel_rfl) (fun _ _ _ h => h) (Or.inl ⟨by kernel_rfl, ?_⟩) hS ?_
  rotate_left
  · intro w hSw; obtain ⟨a1, a2, a3, a4⟩ := (hSw : TabBlk w b T).get hlt; rw [hm] at a1 a2 a3; rw [hr] at a4; go_simp
    first | done | with_reducible rfl
  refine wpAnyH_takeE (i := 11) (some 24) (v := ?_) rfl rfl (by as_aux_lemma => kernel_rfl) (by as_aux_lemma => kernel_rfl) (by as_aux_lemma => kernel_rfl) (fun _ _ _ h => h) (Or.inl ⟨by kernel_rfl, ?_⟩) hS ?_
  rotate_left
  · intro w hSw; obtain ⟨a1, a2, a3, a4⟩ := (hSw : TabBlk w b T).get hlt; rw [hm] at a1 a2 a3; rw [hr] at a4; go_simp
    first | done | with_reducible rfl
  refine wpAnyH_takeE (i := 12) (some 25) (v := ?_) rfl rfl (by as_aux_lemma => kernel_rfl) (by as_aux_lemma => kernel_rfl) (by as_aux_lemma => kernel_rfl) (fun _ _ _ h => h) (Or.inl ⟨by kernel_rfl, ?_⟩) hS ?_
  rotate_left
  · intro w hSw; obtain ⟨a1, a2, a3, a4⟩ := (hSw : TabBlk w b T).get hlt; rw [hm] at a1 a2 a3; rw [hr] at a4; go_simp
    first | done | with_reducible rfl
  refine wpAnyH_takeE (i := 13) (some 26) (v := ?_) rfl rfl (by as_aux_lemma => kernel_rfl) (by as_aux_lemma => kernel_rfl) (by as_aux_lemma => kernel_rfl) (fun _ _ _ h => h) (Or.inl ⟨by kernel_rfl, ?_⟩) hS ?_
  rotate_left
  · intro w hSw; obtain ⟨a1, a2, a3, a4⟩ := (hSw : TabBlk w b T).get hlt; rw [hm] at a1 a2 a3; rw [hr] at a4; go_simp
    first | done | with_reducible rfl
  refine wpAnyH_ready (rs := [14]) (by as_aux_lemma => kernel_rfl) (by simp) ?_
  refine AllReadyH.cons rfl (fun K hK => ?_) AllReadyH.nil
  go_simp
  go_wp2_with fail
  refine hK.out _ _ ?_ (fun hS => ?_)
  · exact HT1.out _ t0
  clear hK K e0 e1 e2 f0 t0
  refine wpAnyH_takeE (i := 15) (some 5) (v := ?_) rfl rfl (by as_aux_lemma => kernel_rfl) (by as_aux_lemma => kernel_rfl) (by as_aux_lemma => kernel_rfl) (fun _ _ _ h => h) (Or.inl ⟨by kernel_rfl, ?_⟩) hS ?_
  rotate_left
  · intro w hSw; obtain ⟨a1, a2, a3, a4⟩ := (hSw : TabBlk w b T).get hlt; rw [hm] at a1 a2 a3; rw [hr] at a4; go_simp
    first | done | with_reducible rfl
  refine wpAnyH_done (by kernel_rfl) ?_ _
  have e1 : ((W.setCell ⟨w.heap.size, 0, none⟩ (.int .u16 m.n)).setCell ⟨w.heap.size, 1, none⟩ (.int .u8 m.s)).setCell ⟨w.heap.size, 2, none⟩ (.int .i64 m.i) = stM W w.heap.size m := rfl
  rw [e1]
  clear e1 hS
  generalize stM W w.heap.size m = W3 at *
  go_simp
  go_wp2
  exact bodyPost_ret (results_mb2 rfl _ _ _ rfl (show Mb W3.drew w.heap.size m from HM.out)) rfl ⟨rfl, HBl.out.drew⟩

theorem bGet_high (b : Nat) (n : Nat) (hge : ¬ n < 64) (w : World) :
    Calls Try.prog 22 #[.pointer (some ⟨b, 0, none⟩), .int .u16 (n : Int)] w fun e w' => e = .returned (.tuple #[.agg #[.int .u16 0, .int .u8 0, .int .i64 0], .bool false]) ∧ Below w.heap.size w w' := by
  have hge2 : (64 : Int) ≤ (n : Int) := by omega
  have HB := Lib.hid ((Below.refl w.heap.size w).alloc (Nat.le_refl _) (.cells #[.int .u16 0, .int .u8 0, .int .i64 0] 43))
  go_enter Try.func22, Try.ntmps22
  go_wp2
  exact bodyPost_ret (results_mb2 rfl _ _ _ rfl (Mb.new w zM)) rfl ⟨rfl, HB.out⟩
theorem bGet_any (b : Nat) (T : Tb) (n : Nat) (w : World) (hT : TabBlk w b T) (m : Mem) (r : Bool) (hr : getR T n = (m, r)) :
    Calls Try.prog 22 #[.pointer (some ⟨b, 0, none⟩), .int .u16 (n : Int)] w fun e w' => e = .returned (.tuple #[.agg #[.int .u16 m.n, .int .u8 m.s, .int .i64 m.i], .bool r]) ∧ Below w.heap.size w w' := by
  unfold getR at hr
  by_cases h : n < 64
  · rw [if_pos h, Prod.mk.injEq] at hr
    exact bGet_low b T n h w hT m hr.1 r hr.2
  · rw [if_neg h, Prod.mk.injEq] at hr
    obtain ⟨rfl, rfl⟩ := hr
    exact bGet_high b n h w
theorem bGet_nil (n : Nat) (w : World) :
    Calls Try.prog 22 #[.pointer none, .int .u16 (n : Int)] w fun e w' => e = .returned (.tuple #[.agg #[.int .u16 0, .int .u8 0, .int .i64 0], .bool false]) ∧ Below w.heap.size w w' := by
  have HB := Lib.hid ((Below.refl w.heap.size w).alloc (Nat.le_refl _) (.cells #[.int .u16 0, .int .u8 0, .int .i64 0] 43))
  go_enter Try.func22, Try.ntmps22
  go_wp2
  exact bodyPost_ret (results_mb2 rfl _ _ _ rfl (Mb.new w zM)) rfl ⟨rfl, HB.out⟩
theorem bSelf_nil (w : World) :
    Calls Try.prog 23 #[.pointer none] w fun e w' => e = .returned (.agg #[.int .u16 0, .int .u8 0, .int .i64 0]) ∧ Below w.heap.size w w' := by
  have HB := Lib.hid ((Below.refl w.heap.size w).alloc (Nat.le_refl _) (.cells #[.int .u16 0, .int .u8 0, .int .i64 0] 43))
  go_enter Try.func23, Try.ntmps23
  go_wp2
  exact bodyPost_ret (results_mb1 rfl _ _ _ rfl (Mb.new w zM)) rfl ⟨rfl, HB.out⟩
theorem bFork_nil (w : World) :
    Calls Try.prog 14 #[.pointer none] w fun e w' => e = .returned (.pointer none) ∧ Below w.heap.size w w' := by
  go_enter Try.func14, Try.ntmps14
  go_wp2
  go_ret
  exact ⟨rfl, Below.refl _ _⟩
set_option maxRecDepth 20000 in
set_option maxHeartbeats 4000000 in
theorem bFork_any (b : Nat) (T : Tb) (w : World) (hT : TabBlk w b T) :
    Calls Try.prog 14 #[.pointer (some ⟨b, 0, none⟩)] w fun e w' => e = .returned (.pointer (some ⟨w.heap.size, 0, none⟩)) ∧ TabBlk w' w.heap.size T ∧ Below w.heap.size w w' := by
  have kz := zero_tab
  have kn := tabC_size T
  have t0 := TabBlk.new w noT
  have ks := t0.storeCells T
  have HT3 := Lib.hid (t0.row T)
  have HB3 := Lib.hid (below_setRowB ((Below.refl w.heap.size w).alloc (Nat.le_refl _) (.cells (tabC noT) 100)) w.heap.size (Nat.le_refl _) (tabC T))
  generalize (w.alloc (.cells (tabC noT) 100)).setRow w.heap.size (tabC T) = W3 at *
  clear t0
  go_enter Try.func14, Try.ntmps14
  go_wp2_with (with_reducible change wpList Try.prog _ _ (_ :: _) _ _; refine wpList_load_tab rfl _ rfl b rfl hT ?_)
  go_ret
  exact ⟨rfl, HT3.out, HB3.out⟩

end Go.Proofs.Ytnoconampcemoaa
