/-
  What all of package member yields: the members, by rising nodes.
-/
import Derived.Test.YtnoconampcemoaaB5
import Derived.Test.YtnoconampcemoaaBR
namespace Go.Proofs.Ytnoconampcemoaa
open Go Go.RowKit Go.Shelf

theorem wpListIn_load_arr {F : Fence} {n : Nat} {ops : Array Oper} {rest : List Oper} {o : Oper} {a : Act} {w : World} {Q : Exit → Act → World → Prop} (hgd : o.guard = none) (x : Operand) (ho : o.op = .load 98 x) (b : Nat) (hx : a.eval x = .pointer (some ⟨b, 0, none⟩)) {T : Tb} (h : TabBlk w b T)
    (hk : wpListIn F n Try.prog ops Q rest (a.put o.dst (.agg (arrC T.f))) w) : wpListIn F n Try.prog ops Q (o :: rest) a w := by
  refine wpListIn_plain hgd fun K hK => ?_
  have hl := run_loadVar_mid (P := Try.prog) w b 0 98 (arrL T.f) _ (fun j v hv => by
    have hj : j < 256 := by have := (List.getElem?_eq_some_iff.1 hv).1; rwa [arrL_len] at this
    rw [Nat.zero_add, h.cell, tabL_arr T hj]; exact hv) Try.underlying98 rfl (by rw [arrL_len]; kernel_rfl)
  unfold Oper.wpIn
  refine ⟨?_, ?_⟩
  · simp [Oper.about, ho]
  · rw [Oper.semAt_plain F _ _ (by rw [ho]; intro c hc'; cases hc')]
    simp only [execOp, ho, hx, Instr.loadAt, Instr.sureAddr, Sem.run_bind, Sem.run_pure, Result.andThen_ok, hl]
    exact hK _ _ hk
theorem wpListIn_index_place {F : Fence} {n : Nat} {ops : Array Oper} {rest : List Oper} {o : Oper} {a : Act} {w : World} {Q : Exit → Act → World → Prop} (hgd : o.guard = none) (x y : Operand) (ho : o.op = .index 98 x y) (f : Nat → Option Mem) (k : Nat) (hk : k < 64) (hx : a.eval x = .agg (arrC f)) (hy : a.eval y = .int .i64 (k : Int))
    (h : wpListIn F n Try.prog ops Q rest (a.put o.dst (.agg (plC (f k)))) w) : wpListIn F n Try.prog ops Q (o :: rest) a w := by
  refine wpListIn_plain hgd fun K hK => ?_
  unfold Oper.wpIn
  refine ⟨?_, ?_⟩
  · simp [Oper.about, ho]
  · rw [Oper.semAt_plain F _ _ (by rw [ho]; intro c hc'; cases hc')]
    simp only [execOp, ho, hx, hy, Sem.run_bind, Sem.run_pure, Result.andThen_ok, run_index_place f k hk]
    exact hK _ _ h
theorem memsO_add (f : Nat → Option Mem) (a c d : Nat) : memsO f a (c + d) = memsO f a c ++ memsO f (a + c) d := by
  unfold memsO
  rw [← List.filterMap_append, List.range'_append_1]
theorem memsO_pre (f : Nat → Option Mem) {k : Nat} (hk : k ≤ 64) : memsO f 0 k <+: memsO f 0 64 := by
  have h := memsO_add f 0 k (64 - k)
  rw [show k + (64 - k) = 64 by omega] at h
  rw [h]
  exact List.prefix_append _ _
/-- A member as a loop's variable. -/
def encB (m : Mem) : Array Value := #[.agg #[.int .u16 m.n, .int .u8 m.s, .int .i64 m.i]]

attribute [local go_sem] Oper.semAt_some

set_option maxRecDepth 100000 in
set_option maxHeartbeats 4000000 in
theorem ball_in (n : Nat) (b : Nat) (T : Tb) (W : World) (hT : TabBlk W b T) : SeqB Fence.wide n Try.prog 51 #[.pointer (some ⟨b, 0, none⟩)] #[] encB 0 (memsB T) W := by
  intro ll J Jx hJ hJx hY h0
  have HJ := Lib.hid hJ
  have HJx := Lib.hid hJx
  have HY := Lib.hid hY
  have H0 := Lib.hid h0
  clear hJ hJx hY h0
  have h64 : memsB T = memsO T.f 0 64 := rfl
  rw [h64]
  clear h64
  refine callsIn_of_wp Try.func51 rfl trivial ?_ rfl
  simp only [Try.ntmps51, List.size_toArray, List.length_cons, List.length_nil, Nat.reduceAdd, Nat.reduceSub, Array.replicate_succ, Array.replicate_zero, List.push_toArray, List.append_toArray, List.nil_append, List.cons_append]
  gi_wp2_with (with_reducible change wpListIn _ _ Try.prog _ _ (_ :: _) _ _; refine wpListIn_load_arr rfl _ rfl b rfl hT ?_)
  gi_loopw [12] (fun x wr => ∃ k : Nat, k ≤ 64 ∧ x = .int .i64 (k : Int) ∧ Hid (J (memsO T.f 0 k) wr ∧ W.heap.size ≤ wr.heap.size)) (fun x _ => 64 - (intOf x).toNat)
  case atStart => exact ⟨0, by omega, rfl, Lib.hid ⟨H0.out, Nat.le_refl _⟩⟩
  case round =>
    clear H0
    obtain ⟨k, hk, rfl, HS⟩ := hrel
    by_cases hlt : k < 64
    · have hkl : (k : Int) < 64 := by omega
      have HP := Lib.hid (memsO_pre T.f (show k + 1 ≤ 64 by omega))
      cases hf : T.f k with
      | none =>
        have e1 : memsO T.f 0 (k + 1) = memsO T.f 0 k := by rw [memsO_snoc, Nat.zero_add, hf]; simp
        have e2 : plC (T.f k) = #[.int .u16 0, .int .u8 0, .int .i64 0, .bool false] := by rw [hf]; rfl
        have HB := (Below.refl wr.heap.size wr).alloc (Nat.le_refl _) (.cells #[.int .u16 0, .int .u8 0, .int .i64 0, .bool false] 97)
        have HS2 := Lib.hid (And.intro (HJ.out _ _ _ HS.out.1 (AbB.of_below HB)) (Nat.le_trans HS.out.2 HB.size))
        rw [← e1] at HS2
        clear HB e1
        gi_wp2_with (with_reducible change wpListIn _ _ Try.prog _ _ (_ :: _) _ _; refine wpListIn_index_place rfl _ _ rfl T.f k hlt rfl rfl ?_; rw [e2])
        refine ⟨fun _ h => (by cases h), ?_⟩
        gi_wp2
        go_roundw
        case rel => exact ⟨k + 1, by omega, by go_num, HS2⟩
        case measure => simp [intOf]; omega
      | some m =>
        obtain ⟨mn, ms, mi⟩ := m
        have e1 : memsO T.f 0 (k + 1) = memsO T.f 0 k ++ [⟨mn, ms, mi⟩] := by rw [memsO_snoc, Nat.zero_add, hf]; rfl
        have e2 : plC (T.f k) = #[.int .u16 mn, .int .u8 ms, .int .i64 mi, .bool true] := by rw [hf]; rfl
        have HB := (Below.refl wr.heap.size wr).alloc (Nat.le_refl _) (.cells #[.int .u16 mn, .int .u8 ms, .int .i64 mi, .bool true] 97)
        have HS2 := And.intro (HJ.out _ _ _ HS.out.1 (AbB.of_below HB)) (Nat.le_trans HS.out.2 HB.size)
        rw [e1] at HP
        obtain ⟨fn, tmps, assign, body, hy, hR⟩ := HY.out _ _ _ HS2.1 HS2.2 HP.out
        have HE1 := Lib.hid e1
        have HSZ := Lib.hid HS2.2
        dsimp only [encB] at hy
        clear HB e1 HS2 HP HS
        gi_wp2_with (with_reducible change wpListIn _ _ Try.prog _ _ (_ :: _) _ _; refine wpListIn_index_place rfl _ _ rfl T.f k hlt rfl rfl ?_; rw [e2])
        refine ⟨(fun h => by cases h), hR.mono ?_⟩
        rintro e W3 (⟨rfl, hJ3, hk3⟩ | ⟨rfl, hJx3, hk3⟩)
        · have HS3 := Lib.hid (And.intro hJ3 (Nat.le_trans HSZ.out hk3.size))
          rw [← HE1.out] at HS3
          clear hJ3 hk3 hR hy HSZ HY HJ HJx
          gi_wp2
          go_roundw
          case rel => exact ⟨k + 1, by omega, by go_num, HS3⟩
          case measure => simp [intOf]; omega
        · clear hR hy hk3
          gi_wp2
          refine bodyPost_ret (results_none rfl _ _ _) rfl ?_
          exact ⟨⟨_, rfl⟩, .inr ⟨_, hJx3⟩⟩
    · have hkl : ¬ (k : Int) < 64 := by omega
      have e : k = 64 := by omega
      subst e
      gi_wp2
      go_end0
      exact ⟨⟨_, rfl⟩, .inl HS.out.1⟩

end Go.Proofs.Ytnoconampcemoaa
