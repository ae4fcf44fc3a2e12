/-
  BenOnly, walked: it answers true for every bytes, and turns nothing that was there.
-/
import Derived.Test.YtbpniegiaadbeaaDoorBack
import Derived.Deep.RegionWith
import Derived.Deep.RegionHeld3
import Derived.Deep.DrawnRows
import Derived.Lib.QuoteBits
namespace Go.Proofs.YtbpniegiaadbeaaDoor
open Go.RowKit
attribute [local go_sem ↓] Go.wp_at_zero Go.wp_at_succ

theorem rdInt_bounds {l r : List UInt8} {n : Int} (h : rdInt l = (r, 0, n)) : -9223372036854775808 ≤ n ∧ n ≤ 9223372036854775807 := by
  cases l with
  | nil => simp [rdInt] at h
  | cons x l =>
    simp only [rdInt] at h
    split at h
    · simp at h
    · split at h
      · split at h <;> simp at h
      · split at h
        · rename_i n' hn
          simp only [Prod.mk.injEq, true_and] at h
          obtain ⟨_, rfl⟩ := h
          have hb := Lib.parseIntB_bounds (B := 64) (numOf_some hn).1
          have e : ((2 ^ (64 - 1) : Nat) : Int) = 9223372036854775808 := by decide
          rw [e] at hb
          omega
        · simp at h

/-- string(b[:k]) of bytes that came in. -/
theorem src_take {w : World} {a : Option Addr} {n c : Nat} {l : List UInt8} (h : SrcAt w (.slice a n c) l) (k : Nat) (hk : k ≤ l.length) : (convert 23 9 (.slice a k c)).run Tryd.prog w = .ok (.string ⟨(l.take k).toArray⟩) w := by
  rcases h with ⟨e, rfl⟩ | ⟨q, c', e, hc⟩
  · simp only [Value.slice.injEq] at e
    obtain ⟨rfl, rfl, rfl⟩ := e
    obtain rfl : k = 0 := by simpa using hk
    exact run_convert_bytes_zero w 23 5 Tryd.underlying23 Tryd.underlying5 none 0 9 Tryd.underlying9
  · simp only [Value.slice.injEq] at e
    obtain ⟨rfl, rfl, rfl⟩ := e
    have hl : (l.take k).length = k := by simp; omega
    have := run_convert_bytes_back (P := Tryd.prog) w 23 9 5 q c (l.take k) Tryd.underlying23 Tryd.underlying5 Tryd.underlying9 (fun j hj => by
      rw [List.length_take] at hj
      rw [List.getElem_take]
      exact hc j (by omega))
    rw [hl] at this
    exact this

theorem src_len {w : World} {a : Option Addr} {n c : Nat} {l : List UInt8} (h : SrcAt w (.slice a n c) l) : n = l.length := by
  rcases h with ⟨e, rfl⟩ | ⟨q, c', e, hc⟩
  · simp only [Value.slice.injEq] at e; exact e.2.1
  · simp only [Value.slice.injEq] at e; exact e.2.1

theorem Err_blk (rb : Nat) (a : Option Addr) (n c : Nat) (e : Int) (w : World) (h : RdBlk w rb a n c e) :
    Calls Tryd.prog 18 #[.pointer (some ⟨rb, 0, none⟩)] w fun r w' => r = .returned (.int .i64 e) ∧ w' = w := by
  have c1 := h.cell1
  clear h
  go_enter Tryd.func18, Tryd.ntmps18
  go_wp2
  go_ret
  exact ⟨rfl, rfl⟩
theorem RdBlk.drew {w : World} {rb : Nat} {a : Option Addr} {n c : Nat} {e : Int} (h : RdBlk w rb a n c e) : RdBlk w.drew rb a n c e := h
theorem RdBlk.mono {w w' : World} {rb : Nat} {a : Option Addr} {n c : Nat} {e : Int} {r : Option Nat} (h : RdBlk w rb a n c e) (hg : w.grownBy w' r) (hr : some rb ≠ r) : RdBlk w' rb a n c e :=
  (hg.block rb h.lt hr).trans h
theorem RdBlk.below {w w' : World} {rb : Nat} {a : Option Addr} {n c : Nat} {e : Int} (h : RdBlk w rb a n c e) (hb : Below w.heap.size w w') : RdBlk w' rb a n c e := h.mono (r := none) (grownBy_of_below hb) (by simp)
theorem neq_str (l : List UInt8) (W : World) : (binOp .neq 9 (.string ⟨l.toArray⟩) (.string ⟨l.toArray⟩)).run Tryd.prog W = .ok (.bool false) W := by rw [binOp_string_neq]; simp
theorem eql_str' (l : List UInt8) (W : World) : (binOp .eql 9 (.string ⟨l.toArray⟩) (.string ⟨l.toArray⟩)).run Tryd.prog W = .ok (.bool true) W := by rw [binOp_string_eql]; simp
theorem wrap_sub (x y : Nat) (h : y ≤ x) (hx : x ≤ 140737488351232) : IntKind.i64.wrap ((x : Int) - (y : Int)) = (x : Int) - (y : Int) := by
  obtain ⟨m, hm⟩ : ∃ m : Nat, (x : Int) - (y : Int) = m := ⟨x - y, by omega⟩
  rw [hm]
  exact Lib.wrap_i64_small m (by omega)

theorem src_string {w : World} {v : Value} {l : List UInt8} (h : SrcAt w v l) : (convert 23 9 v).run Tryd.prog w = .ok (.string ⟨l.toArray⟩) w := by
  rcases h with ⟨rfl, rfl⟩ | ⟨q, c, rfl, hc⟩
  · exact run_convert_bytes_zero w 23 5 Tryd.underlying23 Tryd.underlying5 none 0 9 Tryd.underlying9
  · exact run_convert_bytes_back (P := Tryd.prog) w 23 9 5 q c l Tryd.underlying23 Tryd.underlying5 Tryd.underlying9 hc

set_option maxHeartbeats 8000000 in
set_option maxRecDepth 100000 in
/-- The number was read, and no text. -/
theorem only_int (a : Option Addr) (c : Nat) (l r1 r2 s2 : List UInt8) (n e1 e2 : Int) (w : World) (hsrc : SrcAt w (.slice a l.length c) l) (hc : l.length ≤ c) (hlb : l.length ≤ 140737488351232) (hv : VarsOk w.heap.size w)
    (hI : Hid (rdInt l = (r1, e1, n))) (hT : Hid (rdText l.length l = (r2, e2, s2))) (he1 : Hid (e1 = 0)) (he2 : (e2 != 0) = true) :
    Calls Tryd.prog 6 #[.slice a l.length c] w fun e w' => e = .returned (.bool true) ∧ Below w.heap.size w w' := by
  obtain rfl : e1 = 0 := he1.out
  have hb1 := rdInt_bounds hI.out
  have hlaid := rdInt_laid hI.out
  have hs2 : s2 = [] := rdText_err hT.out (by simpa using he2)
  subst hs2
  have HL := Lib.hid hlaid
  clear hlaid
  have HB := Lib.hid hb1
  clear hb1
  go_enter Tryd.func6, Tryd.ntmps6
  go_wp2_with (go_at_call 16; refine (New_any _ _ _ hsrc (by omega)).mono ?_; rintro e w1 ⟨rb1, a1, c1, rfl, hrd1, hrb1, hal1, hb1⟩; refine Hid.out ?_)
  refine Lib.hid ?_
  have hs1 := hb1.size
  go_wp2_with (go_at_call 16; refine (New_any _ _ _ (hsrc.below hb1 (Nat.le_refl _)) (by omega)).mono ?_; rintro e w2 ⟨rb2, a2, c2, rfl, hrd2, hrb2, hal2, hb2⟩; refine Hid.out ?_)
  refine Lib.hid ?_
  have hrb1' := hrd1.blk.lt
  have hn2 := hb1.trans (hb2.mono hs1)
  have hs2' := hn2.size
  have hrd1' := hrd1.below hb2
  go_wp2_with (go_at_call 22; refine (rInt_any rb1 a1 c1 _ w.heap.size _ hrd1' hrb1 (hv.on hn2)).mono ?_; rintro e w3 ⟨rfl, ⟨a3, c3, hrd3⟩, hg3⟩; refine Hid.out ?_)
  refine Lib.hid ?_
  rw [hI.out] at hrd3
  rw [hI.out]
  have hn3 := hn2.trans (below_of_grownBy hg3 hrb1 hs2')
  have hs3 := hn3.size
  have hrd2' := hrd2.mono hg3 (by simp; omega) (by intro p hp; have := hal2 p hp; simp; omega)
  have hsrc3 := hsrc.below hn3 (Nat.le_refl _)
  have hv3 := hv.on hn3
  have hbk3 := hrd3.blk
  have hne : rb1 ≠ rb2 := by omega
  have hr2 : w.heap.size ≤ rb2 := by omega
  clear hrd1 hrd1' hrd2 hg3 hal1 hal2 hb1 hb2 hn2 hrb2 hrb1' hs2'
  go_wp2
  obtain ⟨k, hk⟩ : ∃ k, k = (putInt n).length := ⟨_, rfl⟩
  have hkl : l.length = k + r1.length := by rw [HL.out, hk]; simp
  have htk : l.take k = putInt n := by rw [HL.out, hk, List.take_left]
  have hsl : ∀ W, (Instr.slice 23 (.slice a l.length c) none (some (.int .i64 ((l.length : Int) - (r1.length : Int)))) none).run Tryd.prog W = .ok (.slice a k c) W := fun W => by
    rw [show ((l.length : Int) - (r1.length : Int)) = (k : Int) by omega]
    exact slice_to a l.length c k W (by omega)
  have HK := Lib.hid htk
  have HKL := Lib.hid hkl
  clear hk hkl htk
  have hl1 : (r1.length : Int) ≤ (l.length : Int) := by have := HKL.out; omega
  have hl2 : (l.length : Int) ≤ 140737488351232 := by omega
  have hwr := wrap_sub l.length r1.length (by omega) hlb
  generalize hP : putInt n = P at *
  have HP := Lib.hid hP
  clear hP
  have hPP := neq_str P
  refine wp_region_any (by kernel_rfl) ?_
  change wpAny _ _ _ _ _ _ _ (World.drew _)
  refine wpAny_take (i := 0) (v := ?_) rfl (by as_aux_lemma => kernel_rfl) (by as_aux_lemma => kernel_rfl) (by as_aux_lemma => kernel_rfl) (fun _ _ _ h => h) (Or.inl ⟨by kernel_rfl, ?_⟩) ?_
  rotate_left
  · intro w; go_simp
    first | done | with_reducible rfl
  refine wpAny_ready (rs := [1]) (by as_aux_lemma => kernel_rfl) (by simp) ?_
  refine AllReady.cons rfl (fun K hK => ?_) AllReady.nil
  go_simp
  go_wp2_with (go_at_call 18; refine (Err_blk rb1 _ _ _ _ _ hbk3.drew).mono ?_; rintro e w5 ⟨rfl, rfl⟩)
  try (refine hK _ _ ?_; clear hK K)
  refine wpAny_take (i := 2) (v := ?_) rfl (by as_aux_lemma => kernel_rfl) (by as_aux_lemma => kernel_rfl) (by as_aux_lemma => kernel_rfl) (fun _ _ _ h => h) (Or.inl ⟨by kernel_rfl, ?_⟩) ?_
  rotate_left
  · intro w; go_simp
    first | done | with_reducible rfl
  refine wpAny_take (i := 3) (v := ?_) rfl (by as_aux_lemma => kernel_rfl) (by as_aux_lemma => kernel_rfl) (by as_aux_lemma => kernel_rfl) (fun _ _ _ h => h) (Or.inl ⟨by kernel_rfl, ?_⟩) ?_
  rotate_left
  · intro w; go_simp
    first | done | with_reducible rfl
  refine wpAny_take (i := 4) (v := ?_) rfl (by as_aux_lemma => kernel_rfl) (by as_aux_lemma => kernel_rfl) (by as_aux_lemma => kernel_rfl) (fun _ _ _ h => h) (Or.inl ⟨by kernel_rfl, ?_⟩) ?_
  rotate_left
  · intro w; go_simp
    first | done | with_reducible rfl
  refine wpAny_take (i := 7) (v := ?_) rfl (by as_aux_lemma => kernel_rfl) (by as_aux_lemma => kernel_rfl) (by as_aux_lemma => kernel_rfl) (fun _ _ _ h => h) (Or.inl ⟨by kernel_rfl, ?_⟩) ?_
  rotate_left
  · intro w; go_simp
    first | done | with_reducible rfl
  refine wpAny_take (i := 8) (v := ?_) rfl (by as_aux_lemma => kernel_rfl) (by as_aux_lemma => kernel_rfl) (by as_aux_lemma => kernel_rfl) (fun _ _ _ h => h) (Or.inl ⟨by kernel_rfl, ?_⟩) ?_
  rotate_left
  · intro w; go_simp
    first | done | with_reducible rfl
  refine wpAny_take (i := 9) (v := ?_) rfl (by as_aux_lemma => kernel_rfl) (by as_aux_lemma => kernel_rfl) (by as_aux_lemma => kernel_rfl) (fun _ _ _ h => h) (Or.inl ⟨by kernel_rfl, ?_⟩) ?_
  rotate_left
  · intro w; go_simp
    first | done | with_reducible rfl
  refine wpAny_take (i := 10) (v := ?_) rfl (by as_aux_lemma => kernel_rfl) (by as_aux_lemma => kernel_rfl) (by as_aux_lemma => kernel_rfl) (fun _ _ _ h => h) (Or.inl ⟨by kernel_rfl, ?_⟩) ?_
  rotate_left
  · intro w; go_simp
    first | done | with_reducible rfl
  refine wpAny_ready (rs := [5]) (by as_aux_lemma => kernel_rfl) (by simp) ?_
  refine AllReady.cons rfl (fun K hK => ?_) AllReady.nil
  go_simp
  go_wp2_with (go_at_call 9; refine (Int_val n HB.out.1 HB.out.2 w.heap.size w3.drew hs3 hv3.drew).mono ?_; rintro e w4 ⟨a4, k4, c4, rfl, ho4, hb4⟩; have hsx1 : SrcAt w4 (.slice a4 k4 c4) P := (by rw [← HP.out]; exact ho4.src); have hsx2 := (hsrc3.below (Below.refl w3.heap.size w3).drew (Nat.le_refl _)).below hb4 (Nat.le_refl _); have hrd4 := hrd3.drew.below hb4; have hbkx := hrd4.blk; have hrd2x := hrd2'.drew.below hb4; have hnx := hn3.drew.trans (hb4.mono hs3); have hsx := hnx.size)
  try (refine hK _ _ ?_; clear hK K)
  have hS : (fun w' : World => SrcAt w' (.slice a4 k4 c4) P ∧ SrcAt w' (.slice a l.length c) l) w4 := ⟨hsx1, hsx2⟩
  refine wpAny_of_held (S := fun w' => SrcAt w' (.slice a4 k4 c4) P ∧ SrcAt w' (.slice a l.length c) l) _ _ _ _ ?_
  refine wpAnyH_take (i := 6) (v := ?_) rfl (by as_aux_lemma => kernel_rfl) (by as_aux_lemma => kernel_rfl) (by as_aux_lemma => kernel_rfl) (fun _ _ _ h => h) (Or.inl ⟨by kernel_rfl, ?_⟩) hS ?_
  rotate_left
  · intro w hSw; have hg1 := src_string hSw.1; have hg2 := src_take hSw.2 k (by have := HKL.out; omega); rw [HK.out] at hg2; go_simp
    first | done | with_reducible rfl
  refine wpAnyH_ready (rs := [11]) (by as_aux_lemma => kernel_rfl) (by simp) ?_
  refine AllReadyH.cons rfl (fun K hK => ?_) AllReadyH.nil
  go_simp
  go_wp2_with (go_at_call 19; refine (Left_any rb1 a3 c3 _ _ _ hrd4).mono ?_; rintro e w5 ⟨rfl, rfl⟩)
  refine hK.out _ _ ?_ (fun hS => ?_)
  · exact hS
  clear hK K
  refine wpAnyH_take (i := 12) (v := ?_) rfl (by as_aux_lemma => kernel_rfl) (by as_aux_lemma => kernel_rfl) (by as_aux_lemma => kernel_rfl) (fun _ _ _ h => h) (Or.inl ⟨by kernel_rfl, ?_⟩) hS ?_
  rotate_left
  · intro w hSw; have hg1 := src_string hSw.1; have hg2 := src_take hSw.2 k (by have := HKL.out; omega); rw [HK.out] at hg2; go_simp
    first | done | with_reducible rfl
  refine wpAnyH_take (i := 13) (v := ?_) rfl (by as_aux_lemma => kernel_rfl) (by as_aux_lemma => kernel_rfl) (by as_aux_lemma => kernel_rfl) (fun _ _ _ h => h) (Or.inl ⟨by kernel_rfl, ?_⟩) hS ?_
  rotate_left
  · intro w hSw; have hg1 := src_string hSw.1; have hg2 := src_take hSw.2 k (by have := HKL.out; omega); rw [HK.out] at hg2; go_simp
    first | done | with_reducible rfl
  refine wpAnyH_take (i := 14) (v := ?_) rfl (by as_aux_lemma => kernel_rfl) (by as_aux_lemma => kernel_rfl) (by as_aux_lemma => kernel_rfl) (fun _ _ _ h => h) (Or.inl ⟨by kernel_rfl, ?_⟩) hS ?_
  rotate_left
  · intro w hSw; have hg1 := src_string hSw.1; have hg2 := src_take hSw.2 k (by have := HKL.out; omega); rw [HK.out] at hg2; go_simp
    first | done | with_reducible rfl
  refine wpAnyH_take (i := 15) (v := ?_) rfl (by as_aux_lemma => kernel_rfl) (by as_aux_lemma => kernel_rfl) (by as_aux_lemma => kernel_rfl) (fun _ _ _ h => h) (Or.inl ⟨by kernel_rfl, ?_⟩) hS ?_
  rotate_left
  · intro w hSw; have hg1 := src_string hSw.1; have hg2 := src_take hSw.2 k (by have := HKL.out; omega); rw [HK.out] at hg2; go_simp
    first | done | with_reducible rfl
  refine wpAnyH_take (i := 16) (v := ?_) rfl (by as_aux_lemma => kernel_rfl) (by as_aux_lemma => kernel_rfl) (by as_aux_lemma => kernel_rfl) (fun _ _ _ h => h) (Or.inl ⟨by kernel_rfl, ?_⟩) hS ?_
  rotate_left
  · intro w hSw; have hg1 := src_string hSw.1; have hg2 := src_take hSw.2 k (by have := HKL.out; omega); rw [HK.out] at hg2; go_simp
    first | done | with_reducible rfl
  refine wpAnyH_take (i := 17) (v := ?_) rfl (by as_aux_lemma => kernel_rfl) (by as_aux_lemma => kernel_rfl) (by as_aux_lemma => kernel_rfl) (fun _ _ _ h => h) (Or.inl ⟨by kernel_rfl, ?_⟩) hS ?_
  rotate_left
  · intro w hSw; have hg1 := src_string hSw.1; have hg2 := src_take hSw.2 k (by have := HKL.out; omega); rw [HK.out] at hg2; go_simp
    first | done | with_reducible rfl
  refine wpAnyH_take (i := 18) (v := ?_) rfl (by as_aux_lemma => kernel_rfl) (by as_aux_lemma => kernel_rfl) (by as_aux_lemma => kernel_rfl) (fun _ _ _ h => h) (Or.inl ⟨by kernel_rfl, ?_⟩) hS ?_
  rotate_left
  · intro w hSw; have hg1 := src_string hSw.1; have hg2 := src_take hSw.2 k (by have := HKL.out; omega); rw [HK.out] at hg2; go_simp
    first | done | with_reducible rfl
  refine wpAnyH_ready (rs := [19]) (by as_aux_lemma => kernel_rfl) (by simp) ?_
  refine AllReadyH.cons rfl (fun K hK => ?_) AllReadyH.nil
  go_simp
  go_wp2_with (go_at_call 18; refine (Err_blk rb1 _ _ _ _ _ hbkx).mono ?_; rintro e w5 ⟨rfl, rfl⟩)
  refine hK.out _ _ ?_ (fun hS => ?_)
  · exact hS
  clear hK K
  refine wpAnyH_take (i := 20) (v := ?_) rfl (by as_aux_lemma => kernel_rfl) (by as_aux_lemma => kernel_rfl) (by as_aux_lemma => kernel_rfl) (fun _ _ _ h => h) (Or.inl ⟨by kernel_rfl, ?_⟩) hS ?_
  rotate_left
  · intro w hSw; have hg1 := src_string hSw.1; have hg2 := src_take hSw.2 k (by have := HKL.out; omega); rw [HK.out] at hg2; go_simp
    first | done | with_reducible rfl
  refine wpAnyH_take (i := 21) (v := ?_) rfl (by as_aux_lemma => kernel_rfl) (by as_aux_lemma => kernel_rfl) (by as_aux_lemma => kernel_rfl) (fun _ _ _ h => h) (Or.inl ⟨by kernel_rfl, ?_⟩) hS ?_
  rotate_left
  · intro w hSw; have hg1 := src_string hSw.1; have hg2 := src_take hSw.2 k (by have := HKL.out; omega); rw [HK.out] at hg2; go_simp
    first | done | with_reducible rfl
  refine wpAnyH_take (i := 22) (v := undef) rfl (by as_aux_lemma => kernel_rfl) (by as_aux_lemma => kernel_rfl) (by as_aux_lemma => kernel_rfl) (fun _ _ _ h => h) (Or.inr ⟨by kernel_rfl, rfl⟩) hS ?_
  refine wpAnyH_take (i := 23) (v := undef) rfl (by as_aux_lemma => kernel_rfl) (by as_aux_lemma => kernel_rfl) (by as_aux_lemma => kernel_rfl) (fun _ _ _ h => h) (Or.inr ⟨by kernel_rfl, rfl⟩) hS ?_
  refine wpAnyH_take (i := 24) (v := ?_) rfl (by as_aux_lemma => kernel_rfl) (by as_aux_lemma => kernel_rfl) (by as_aux_lemma => kernel_rfl) (fun _ _ _ h => h) (Or.inl ⟨by kernel_rfl, ?_⟩) hS ?_
  rotate_left
  · intro w hSw; have hg1 := src_string hSw.1; have hg2 := src_take hSw.2 k (by have := HKL.out; omega); rw [HK.out] at hg2; go_simp
    first | done | with_reducible rfl
  refine wpAnyH_take (i := 25) (v := ?_) rfl (by as_aux_lemma => kernel_rfl) (by as_aux_lemma => kernel_rfl) (by as_aux_lemma => kernel_rfl) (fun _ _ _ h => h) (Or.inl ⟨by kernel_rfl, ?_⟩) hS ?_
  rotate_left
  · intro w hSw; have hg1 := src_string hSw.1; have hg2 := src_take hSw.2 k (by have := HKL.out; omega); rw [HK.out] at hg2; go_simp
    first | done | with_reducible rfl
  refine wpAnyH_done (by kernel_rfl) ?_ _
  go_wp2_with (go_at_call 23; refine (rText_any rb2 a2 c2 _ _ w.heap.size _ hrd2x hr2 (hv.on hnx)).mono ?_; rintro e w6 ⟨rfl, ⟨a6, c6, hrd6⟩, hg6⟩; refine Hid.out ?_)
  refine Lib.hid ?_
  rw [hT.out] at hrd6
  rw [hT.out]
  have hn6 := hnx.trans (below_of_grownBy hg6 hr2 hsx)
  have hs6 := hn6.size
  have hv6 := hv.on hn6
  have hbk6 := hbkx.mono hg6 (by simpa using hne)
  have hbks := hrd6.blk
  go_wp2
  refine wp_region_any (by kernel_rfl) ?_
  change wpAny _ _ _ _ _ _ _ (World.drew _)
  refine wpAny_take (i := 0) (v := ?_) rfl (by as_aux_lemma => kernel_rfl) (by as_aux_lemma => kernel_rfl) (by as_aux_lemma => kernel_rfl) (fun _ _ _ h => h) (Or.inl ⟨by kernel_rfl, ?_⟩) ?_
  rotate_left
  · intro w; go_simp
    first | done | with_reducible rfl
  refine wpAny_ready (rs := [1]) (by as_aux_lemma => kernel_rfl) (by simp) ?_
  refine AllReady.cons rfl (fun K hK => ?_) AllReady.nil
  go_simp
  go_wp2_with (go_at_call 18; refine (Err_blk rb2 _ _ _ _ _ hbks.drew).mono ?_; rintro e w7 ⟨rfl, rfl⟩)
  try (refine hK _ _ ?_; clear hK K)
  refine wpAny_take (i := 2) (v := ?_) rfl (by as_aux_lemma => kernel_rfl) (by as_aux_lemma => kernel_rfl) (by as_aux_lemma => kernel_rfl) (fun _ _ _ h => h) (Or.inl ⟨by kernel_rfl, ?_⟩) ?_
  rotate_left
  · intro w; go_simp
    first | done | with_reducible rfl
  refine wpAny_take (i := 3) (v := ?_) rfl (by as_aux_lemma => kernel_rfl) (by as_aux_lemma => kernel_rfl) (by as_aux_lemma => kernel_rfl) (fun _ _ _ h => h) (Or.inl ⟨by kernel_rfl, ?_⟩) ?_
  rotate_left
  · intro w; go_simp
    first | done | with_reducible rfl
  refine wpAny_take (i := 4) (v := ?_) rfl (by as_aux_lemma => kernel_rfl) (by as_aux_lemma => kernel_rfl) (by as_aux_lemma => kernel_rfl) (fun _ _ _ h => h) (Or.inl ⟨by kernel_rfl, ?_⟩) ?_
  rotate_left
  · intro w; go_simp
    first | done | with_reducible rfl
  refine wpAny_take (i := 5) (v := ?_) rfl (by as_aux_lemma => kernel_rfl) (by as_aux_lemma => kernel_rfl) (by as_aux_lemma => kernel_rfl) (fun _ _ _ h => h) (Or.inl ⟨by kernel_rfl, ?_⟩) ?_
  rotate_left
  · intro w; go_simp
    first | done | with_reducible rfl
  refine wpAny_take (i := 6) (v := ?_) rfl (by as_aux_lemma => kernel_rfl) (by as_aux_lemma => kernel_rfl) (by as_aux_lemma => kernel_rfl) (fun _ _ _ h => h) (Or.inl ⟨by kernel_rfl, ?_⟩) ?_
  rotate_left
  · intro w; go_simp
    first | done | with_reducible rfl
  refine wpAny_take (i := 7) (v := ?_) rfl (by as_aux_lemma => kernel_rfl) (by as_aux_lemma => kernel_rfl) (by as_aux_lemma => kernel_rfl) (fun _ _ _ h => h) (Or.inl ⟨by kernel_rfl, ?_⟩) ?_
  rotate_left
  · intro w; go_simp
    first | done | with_reducible rfl
  refine wpAny_take (i := 8) (v := undef) rfl (by as_aux_lemma => kernel_rfl) (by as_aux_lemma => kernel_rfl) (by as_aux_lemma => kernel_rfl) (fun _ _ _ h => h) (Or.inr ⟨by kernel_rfl, rfl⟩) ?_
  refine wpAny_take (i := 9) (v := undef) rfl (by as_aux_lemma => kernel_rfl) (by as_aux_lemma => kernel_rfl) (by as_aux_lemma => kernel_rfl) (fun _ _ _ h => h) (Or.inr ⟨by kernel_rfl, rfl⟩) ?_
  refine wpAny_take (i := 10) (v := undef) rfl (by as_aux_lemma => kernel_rfl) (by as_aux_lemma => kernel_rfl) (by as_aux_lemma => kernel_rfl) (fun _ _ _ h => h) (Or.inr ⟨by kernel_rfl, rfl⟩) ?_
  refine wpAny_take (i := 11) (v := undef) rfl (by as_aux_lemma => kernel_rfl) (by as_aux_lemma => kernel_rfl) (by as_aux_lemma => kernel_rfl) (fun _ _ _ h => h) (Or.inr ⟨by kernel_rfl, rfl⟩) ?_
  refine wpAny_take (i := 12) (v := undef) rfl (by as_aux_lemma => kernel_rfl) (by as_aux_lemma => kernel_rfl) (by as_aux_lemma => kernel_rfl) (fun _ _ _ h => h) (Or.inr ⟨by kernel_rfl, rfl⟩) ?_
  refine wpAny_take (i := 13) (v := undef) rfl (by as_aux_lemma => kernel_rfl) (by as_aux_lemma => kernel_rfl) (by as_aux_lemma => kernel_rfl) (fun _ _ _ h => h) (Or.inr ⟨by kernel_rfl, rfl⟩) ?_
  refine wpAny_take (i := 14) (v := undef) rfl (by as_aux_lemma => kernel_rfl) (by as_aux_lemma => kernel_rfl) (by as_aux_lemma => kernel_rfl) (fun _ _ _ h => h) (Or.inr ⟨by kernel_rfl, rfl⟩) ?_
  refine wpAny_take (i := 15) (v := undef) rfl (by as_aux_lemma => kernel_rfl) (by as_aux_lemma => kernel_rfl) (by as_aux_lemma => kernel_rfl) (fun _ _ _ h => h) (Or.inr ⟨by kernel_rfl, rfl⟩) ?_
  refine wpAny_take (i := 16) (v := undef) rfl (by as_aux_lemma => kernel_rfl) (by as_aux_lemma => kernel_rfl) (by as_aux_lemma => kernel_rfl) (fun _ _ _ h => h) (Or.inr ⟨by kernel_rfl, rfl⟩) ?_
  refine wpAny_take (i := 17) (v := undef) rfl (by as_aux_lemma => kernel_rfl) (by as_aux_lemma => kernel_rfl) (by as_aux_lemma => kernel_rfl) (fun _ _ _ h => h) (Or.inr ⟨by kernel_rfl, rfl⟩) ?_
  refine wpAny_take (i := 18) (v := undef) rfl (by as_aux_lemma => kernel_rfl) (by as_aux_lemma => kernel_rfl) (by as_aux_lemma => kernel_rfl) (fun _ _ _ h => h) (Or.inr ⟨by kernel_rfl, rfl⟩) ?_
  refine wpAny_take (i := 19) (v := undef) rfl (by as_aux_lemma => kernel_rfl) (by as_aux_lemma => kernel_rfl) (by as_aux_lemma => kernel_rfl) (fun _ _ _ h => h) (Or.inr ⟨by kernel_rfl, rfl⟩) ?_
  refine wpAny_take (i := 20) (v := undef) rfl (by as_aux_lemma => kernel_rfl) (by as_aux_lemma => kernel_rfl) (by as_aux_lemma => kernel_rfl) (fun _ _ _ h => h) (Or.inr ⟨by kernel_rfl, rfl⟩) ?_
  refine wpAny_take (i := 21) (v := undef) rfl (by as_aux_lemma => kernel_rfl) (by as_aux_lemma => kernel_rfl) (by as_aux_lemma => kernel_rfl) (fun _ _ _ h => h) (Or.inr ⟨by kernel_rfl, rfl⟩) ?_
  refine wpAny_take (i := 22) (v := undef) rfl (by as_aux_lemma => kernel_rfl) (by as_aux_lemma => kernel_rfl) (by as_aux_lemma => kernel_rfl) (fun _ _ _ h => h) (Or.inr ⟨by kernel_rfl, rfl⟩) ?_
  refine wpAny_take (i := 23) (v := undef) rfl (by as_aux_lemma => kernel_rfl) (by as_aux_lemma => kernel_rfl) (by as_aux_lemma => kernel_rfl) (fun _ _ _ h => h) (Or.inr ⟨by kernel_rfl, rfl⟩) ?_
  refine wpAny_take (i := 24) (v := undef) rfl (by as_aux_lemma => kernel_rfl) (by as_aux_lemma => kernel_rfl) (by as_aux_lemma => kernel_rfl) (fun _ _ _ h => h) (Or.inr ⟨by kernel_rfl, rfl⟩) ?_
  refine wpAny_take (i := 25) (v := ?_) rfl (by as_aux_lemma => kernel_rfl) (by as_aux_lemma => kernel_rfl) (by as_aux_lemma => kernel_rfl) (fun _ _ _ h => h) (Or.inl ⟨by kernel_rfl, ?_⟩) ?_
  rotate_left
  · intro w; go_simp
    first | done | with_reducible rfl
  refine wpAny_take (i := 26) (v := ?_) rfl (by as_aux_lemma => kernel_rfl) (by as_aux_lemma => kernel_rfl) (by as_aux_lemma => kernel_rfl) (fun _ _ _ h => h) (Or.inl ⟨by kernel_rfl, ?_⟩) ?_
  rotate_left
  · intro w; go_simp
    first | done | with_reducible rfl
  refine wpAny_take (i := 27) (v := ?_) rfl (by as_aux_lemma => kernel_rfl) (by as_aux_lemma => kernel_rfl) (by as_aux_lemma => kernel_rfl) (fun _ _ _ h => h) (Or.inl ⟨by kernel_rfl, ?_⟩) ?_
  rotate_left
  · intro w; go_simp
    first | done | with_reducible rfl
  refine wpAny_ready (rs := [28]) (by as_aux_lemma => kernel_rfl) (by simp) ?_
  refine AllReady.cons rfl (fun K hK => ?_) AllReady.nil
  go_simp
  go_wp2_with (go_at_call 18; refine (Err_blk rb1 _ _ _ _ _ hbk6.drew).mono ?_; rintro e w7 ⟨rfl, rfl⟩)
  try (refine hK _ _ ?_; clear hK K)
  refine wpAny_take (i := 29) (v := ?_) rfl (by as_aux_lemma => kernel_rfl) (by as_aux_lemma => kernel_rfl) (by as_aux_lemma => kernel_rfl) (fun _ _ _ h => h) (Or.inl ⟨by kernel_rfl, ?_⟩) ?_
  rotate_left
  · intro w; go_simp
    first | done | with_reducible rfl
  refine wpAny_take (i := 30) (v := ?_) rfl (by as_aux_lemma => kernel_rfl) (by as_aux_lemma => kernel_rfl) (by as_aux_lemma => kernel_rfl) (fun _ _ _ h => h) (Or.inl ⟨by kernel_rfl, ?_⟩) ?_
  rotate_left
  · intro w; go_simp
    first | done | with_reducible rfl
  refine wpAny_take (i := 31) (v := ?_) rfl (by as_aux_lemma => kernel_rfl) (by as_aux_lemma => kernel_rfl) (by as_aux_lemma => kernel_rfl) (fun _ _ _ h => h) (Or.inl ⟨by kernel_rfl, ?_⟩) ?_
  rotate_left
  · intro w; go_simp
    first | done | with_reducible rfl
  refine wpAny_ready (rs := [32]) (by as_aux_lemma => kernel_rfl) (by simp) ?_
  refine AllReady.cons rfl (fun K hK => ?_) AllReady.nil
  go_simp
  go_wp2_with (go_at_call 18; refine (Err_blk rb2 _ _ _ _ _ hbks.drew).mono ?_; rintro e w7 ⟨rfl, rfl⟩)
  try (refine hK _ _ ?_; clear hK K)
  refine wpAny_take (i := 33) (v := ?_) rfl (by as_aux_lemma => kernel_rfl) (by as_aux_lemma => kernel_rfl) (by as_aux_lemma => kernel_rfl) (fun _ _ _ h => h) (Or.inl ⟨by kernel_rfl, ?_⟩) ?_
  rotate_left
  · intro w; go_simp
    first | done | with_reducible rfl
  refine wpAny_take (i := 34) (v := ?_) rfl (by as_aux_lemma => kernel_rfl) (by as_aux_lemma => kernel_rfl) (by as_aux_lemma => kernel_rfl) (fun _ _ _ h => h) (Or.inl ⟨by kernel_rfl, ?_⟩) ?_
  rotate_left
  · intro w; go_simp
    first | done | with_reducible rfl
  refine wpAny_take (i := 35) (v := ?_) rfl (by as_aux_lemma => kernel_rfl) (by as_aux_lemma => kernel_rfl) (by as_aux_lemma => kernel_rfl) (fun _ _ _ h => h) (Or.inl ⟨by kernel_rfl, ?_⟩) ?_
  rotate_left
  · intro w; go_simp
    first | done | with_reducible rfl
  refine wpAny_take (i := 36) (v := ?_) rfl (by as_aux_lemma => kernel_rfl) (by as_aux_lemma => kernel_rfl) (by as_aux_lemma => kernel_rfl) (fun _ _ _ h => h) (Or.inl ⟨by kernel_rfl, ?_⟩) ?_
  rotate_left
  · intro w; go_simp
    first | done | with_reducible rfl
  refine wpAny_ready (rs := [37]) (by as_aux_lemma => kernel_rfl) (by simp) ?_
  refine AllReady.cons rfl (fun K hK => ?_) AllReady.nil
  go_simp
  go_wp2_with (go_at_call 15; refine (awake_any w.heap.size w6.drew hs6 hv6.drew).mono ?_; rintro e w8 ⟨rfl, hb8⟩)
  try (refine hK _ _ ?_; clear hK K)
  refine wpAny_take (i := 38) (v := ?_) rfl (by as_aux_lemma => kernel_rfl) (by as_aux_lemma => kernel_rfl) (by as_aux_lemma => kernel_rfl) (fun _ _ _ h => h) (Or.inl ⟨by kernel_rfl, ?_⟩) ?_
  rotate_left
  · intro w; go_simp
    first | done | with_reducible rfl
  refine wpAny_take (i := 39) (v := ?_) rfl (by as_aux_lemma => kernel_rfl) (by as_aux_lemma => kernel_rfl) (by as_aux_lemma => kernel_rfl) (fun _ _ _ h => h) (Or.inl ⟨by kernel_rfl, ?_⟩) ?_
  rotate_left
  · intro w; go_simp
    first | done | with_reducible rfl
  refine wpAny_done (by kernel_rfl) ?_ _
  go_wp2
  go_ret
  exact ⟨rfl, hn6.drew.trans (hb8.mono hs6)⟩

set_option maxHeartbeats 8000000 in
set_option maxRecDepth 100000 in
/-- Neither was read. -/
theorem only_none (a : Option Addr) (c : Nat) (l r1 r2 s2 : List UInt8) (n e1 e2 : Int) (w : World) (hsrc : SrcAt w (.slice a l.length c) l) (_hc : l.length ≤ c) (hlb : l.length ≤ 140737488351232) (hv : VarsOk w.heap.size w)
    (hI : Hid (rdInt l = (r1, e1, n))) (hT : Hid (rdText l.length l = (r2, e2, s2))) (he1 : (e1 != 0) = true) (he2 : (e2 != 0) = true) :
    Calls Tryd.prog 6 #[.slice a l.length c] w fun e w' => e = .returned (.bool true) ∧ Below w.heap.size w w' := by
  have hn0 : n = 0 := rdInt_err hI.out (by simpa using he1)
  subst hn0
  have he1' : (e1 == 0) = false := by simpa using he1
  have hs2 : s2 = [] := rdText_err hT.out (by simpa using he2)
  subst hs2
  go_enter Tryd.func6, Tryd.ntmps6
  go_wp2_with (go_at_call 16; refine (New_any _ _ _ hsrc (by omega)).mono ?_; rintro e w1 ⟨rb1, a1, c1, rfl, hrd1, hrb1, hal1, hb1⟩; refine Hid.out ?_)
  refine Lib.hid ?_
  have hs1 := hb1.size
  go_wp2_with (go_at_call 16; refine (New_any _ _ _ (hsrc.below hb1 (Nat.le_refl _)) (by omega)).mono ?_; rintro e w2 ⟨rb2, a2, c2, rfl, hrd2, hrb2, hal2, hb2⟩; refine Hid.out ?_)
  refine Lib.hid ?_
  have hrb1' := hrd1.blk.lt
  have hn2 := hb1.trans (hb2.mono hs1)
  have hs2' := hn2.size
  have hrd1' := hrd1.below hb2
  go_wp2_with (go_at_call 22; refine (rInt_any rb1 a1 c1 _ w.heap.size _ hrd1' hrb1 (hv.on hn2)).mono ?_; rintro e w3 ⟨rfl, ⟨a3, c3, hrd3⟩, hg3⟩; refine Hid.out ?_)
  refine Lib.hid ?_
  rw [hI.out] at hrd3
  rw [hI.out]
  have hn3 := hn2.trans (below_of_grownBy hg3 hrb1 hs2')
  have hs3 := hn3.size
  have hrd2' := hrd2.mono hg3 (by simp; omega) (by intro p hp; have := hal2 p hp; simp; omega)
  have hsrc3 := hsrc.below hn3 (Nat.le_refl _)
  have hv3 := hv.on hn3
  have hbk3 := hrd3.blk
  have hne : rb1 ≠ rb2 := by omega
  have hr2 : w.heap.size ≤ rb2 := by omega
  clear hrd1 hrd1' hrd2 hg3 hal1 hal2 hb1 hb2 hn2 hrb2 hrb1' hs2'
  go_wp2
  refine wp_region_any (by kernel_rfl) ?_
  change wpAny _ _ _ _ _ _ _ (World.drew _)
  refine wpAny_take (i := 0) (v := ?_) rfl (by as_aux_lemma => kernel_rfl) (by as_aux_lemma => kernel_rfl) (by as_aux_lemma => kernel_rfl) (fun _ _ _ h => h) (Or.inl ⟨by kernel_rfl, ?_⟩) ?_
  rotate_left
  · intro w; go_simp
    first | done | with_reducible rfl
  refine wpAny_ready (rs := [1]) (by as_aux_lemma => kernel_rfl) (by simp) ?_
  refine AllReady.cons rfl (fun K hK => ?_) AllReady.nil
  go_simp
  go_wp2_with (go_at_call 18; refine (Err_blk rb1 _ _ _ _ _ hbk3.drew).mono ?_; rintro e w5 ⟨rfl, rfl⟩)
  try (refine hK _ _ ?_; clear hK K)
  refine wpAny_take (i := 2) (v := ?_) rfl (by as_aux_lemma => kernel_rfl) (by as_aux_lemma => kernel_rfl) (by as_aux_lemma => kernel_rfl) (fun _ _ _ h => h) (Or.inl ⟨by kernel_rfl, ?_⟩) ?_
  rotate_left
  · intro w; go_simp
    first | done | with_reducible rfl
  refine wpAny_take (i := 3) (v := ?_) rfl (by as_aux_lemma => kernel_rfl) (by as_aux_lemma => kernel_rfl) (by as_aux_lemma => kernel_rfl) (fun _ _ _ h => h) (Or.inl ⟨by kernel_rfl, ?_⟩) ?_
  rotate_left
  · intro w; go_simp
    first | done | with_reducible rfl
  refine wpAny_take (i := 4) (v := undef) rfl (by as_aux_lemma => kernel_rfl) (by as_aux_lemma => kernel_rfl) (by as_aux_lemma => kernel_rfl) (fun _ _ _ h => h) (Or.inr ⟨by kernel_rfl, rfl⟩) ?_
  refine wpAny_take (i := 5) (v := undef) rfl (by as_aux_lemma => kernel_rfl) (by as_aux_lemma => kernel_rfl) (by as_aux_lemma => kernel_rfl) (fun _ _ _ h => h) (Or.inr ⟨by kernel_rfl, rfl⟩) ?_
  refine wpAny_take (i := 6) (v := undef) rfl (by as_aux_lemma => kernel_rfl) (by as_aux_lemma => kernel_rfl) (by as_aux_lemma => kernel_rfl) (fun _ _ _ h => h) (Or.inr ⟨by kernel_rfl, rfl⟩) ?_
  refine wpAny_take (i := 7) (v := undef) rfl (by as_aux_lemma => kernel_rfl) (by as_aux_lemma => kernel_rfl) (by as_aux_lemma => kernel_rfl) (fun _ _ _ h => h) (Or.inr ⟨by kernel_rfl, rfl⟩) ?_
  refine wpAny_take (i := 8) (v := undef) rfl (by as_aux_lemma => kernel_rfl) (by as_aux_lemma => kernel_rfl) (by as_aux_lemma => kernel_rfl) (fun _ _ _ h => h) (Or.inr ⟨by kernel_rfl, rfl⟩) ?_
  refine wpAny_take (i := 9) (v := undef) rfl (by as_aux_lemma => kernel_rfl) (by as_aux_lemma => kernel_rfl) (by as_aux_lemma => kernel_rfl) (fun _ _ _ h => h) (Or.inr ⟨by kernel_rfl, rfl⟩) ?_
  refine wpAny_take (i := 10) (v := undef) rfl (by as_aux_lemma => kernel_rfl) (by as_aux_lemma => kernel_rfl) (by as_aux_lemma => kernel_rfl) (fun _ _ _ h => h) (Or.inr ⟨by kernel_rfl, rfl⟩) ?_
  refine wpAny_take (i := 11) (v := undef) rfl (by as_aux_lemma => kernel_rfl) (by as_aux_lemma => kernel_rfl) (by as_aux_lemma => kernel_rfl) (fun _ _ _ h => h) (Or.inr ⟨by kernel_rfl, rfl⟩) ?_
  refine wpAny_take (i := 12) (v := undef) rfl (by as_aux_lemma => kernel_rfl) (by as_aux_lemma => kernel_rfl) (by as_aux_lemma => kernel_rfl) (fun _ _ _ h => h) (Or.inr ⟨by kernel_rfl, rfl⟩) ?_
  refine wpAny_take (i := 13) (v := undef) rfl (by as_aux_lemma => kernel_rfl) (by as_aux_lemma => kernel_rfl) (by as_aux_lemma => kernel_rfl) (fun _ _ _ h => h) (Or.inr ⟨by kernel_rfl, rfl⟩) ?_
  refine wpAny_take (i := 14) (v := undef) rfl (by as_aux_lemma => kernel_rfl) (by as_aux_lemma => kernel_rfl) (by as_aux_lemma => kernel_rfl) (fun _ _ _ h => h) (Or.inr ⟨by kernel_rfl, rfl⟩) ?_
  refine wpAny_take (i := 15) (v := undef) rfl (by as_aux_lemma => kernel_rfl) (by as_aux_lemma => kernel_rfl) (by as_aux_lemma => kernel_rfl) (fun _ _ _ h => h) (Or.inr ⟨by kernel_rfl, rfl⟩) ?_
  refine wpAny_take (i := 16) (v := ?_) rfl (by as_aux_lemma => kernel_rfl) (by as_aux_lemma => kernel_rfl) (by as_aux_lemma => kernel_rfl) (fun _ _ _ h => h) (Or.inl ⟨by kernel_rfl, ?_⟩) ?_
  rotate_left
  · intro w; go_simp
    first | done | with_reducible rfl
  refine wpAny_take (i := 17) (v := ?_) rfl (by as_aux_lemma => kernel_rfl) (by as_aux_lemma => kernel_rfl) (by as_aux_lemma => kernel_rfl) (fun _ _ _ h => h) (Or.inl ⟨by kernel_rfl, ?_⟩) ?_
  rotate_left
  · intro w; go_simp
    first | done | with_reducible rfl
  refine wpAny_take (i := 18) (v := ?_) rfl (by as_aux_lemma => kernel_rfl) (by as_aux_lemma => kernel_rfl) (by as_aux_lemma => kernel_rfl) (fun _ _ _ h => h) (Or.inl ⟨by kernel_rfl, ?_⟩) ?_
  rotate_left
  · intro w; go_simp
    first | done | with_reducible rfl
  refine wpAny_ready (rs := [19]) (by as_aux_lemma => kernel_rfl) (by simp) ?_
  refine AllReady.cons rfl (fun K hK => ?_) AllReady.nil
  go_simp
  go_wp2_with (go_at_call 18; refine (Err_blk rb1 _ _ _ _ _ hbk3.drew).mono ?_; rintro e w5 ⟨rfl, rfl⟩)
  try (refine hK _ _ ?_; clear hK K)
  refine wpAny_take (i := 20) (v := ?_) rfl (by as_aux_lemma => kernel_rfl) (by as_aux_lemma => kernel_rfl) (by as_aux_lemma => kernel_rfl) (fun _ _ _ h => h) (Or.inl ⟨by kernel_rfl, ?_⟩) ?_
  rotate_left
  · intro w; go_simp
    first | done | with_reducible rfl
  refine wpAny_take (i := 21) (v := ?_) rfl (by as_aux_lemma => kernel_rfl) (by as_aux_lemma => kernel_rfl) (by as_aux_lemma => kernel_rfl) (fun _ _ _ h => h) (Or.inl ⟨by kernel_rfl, ?_⟩) ?_
  rotate_left
  · intro w; go_simp
    first | done | with_reducible rfl
  refine wpAny_take (i := 22) (v := ?_) rfl (by as_aux_lemma => kernel_rfl) (by as_aux_lemma => kernel_rfl) (by as_aux_lemma => kernel_rfl) (fun _ _ _ h => h) (Or.inl ⟨by kernel_rfl, ?_⟩) ?_
  rotate_left
  · intro w; go_simp
    first | done | with_reducible rfl
  refine wpAny_take (i := 23) (v := ?_) rfl (by as_aux_lemma => kernel_rfl) (by as_aux_lemma => kernel_rfl) (by as_aux_lemma => kernel_rfl) (fun _ _ _ h => h) (Or.inl ⟨by kernel_rfl, ?_⟩) ?_
  rotate_left
  · intro w; go_simp
    first | done | with_reducible rfl
  refine wpAny_take (i := 24) (v := ?_) rfl (by as_aux_lemma => kernel_rfl) (by as_aux_lemma => kernel_rfl) (by as_aux_lemma => kernel_rfl) (fun _ _ _ h => h) (Or.inl ⟨by kernel_rfl, ?_⟩) ?_
  rotate_left
  · intro w; go_simp
    first | done | with_reducible rfl
  refine wpAny_take (i := 25) (v := ?_) rfl (by as_aux_lemma => kernel_rfl) (by as_aux_lemma => kernel_rfl) (by as_aux_lemma => kernel_rfl) (fun _ _ _ h => h) (Or.inl ⟨by kernel_rfl, ?_⟩) ?_
  rotate_left
  · intro w; go_simp
    first | done | with_reducible rfl
  refine wpAny_done (by kernel_rfl) ?_ _
  have hbkx := hbk3.drew
  have hrd2x := hrd2'.drew
  have hnx := hn3.drew
  have hsx := hnx.size
  go_wp2_with (go_at_call 23; refine (rText_any rb2 a2 c2 _ _ w.heap.size _ hrd2x hr2 (hv.on hnx)).mono ?_; rintro e w6 ⟨rfl, ⟨a6, c6, hrd6⟩, hg6⟩; refine Hid.out ?_)
  refine Lib.hid ?_
  rw [hT.out] at hrd6
  rw [hT.out]
  have hn6 := hnx.trans (below_of_grownBy hg6 hr2 hsx)
  have hs6 := hn6.size
  have hv6 := hv.on hn6
  have hbk6 := hbkx.mono hg6 (by simpa using hne)
  have hbks := hrd6.blk
  go_wp2
  refine wp_region_any (by kernel_rfl) ?_
  change wpAny _ _ _ _ _ _ _ (World.drew _)
  refine wpAny_take (i := 0) (v := ?_) rfl (by as_aux_lemma => kernel_rfl) (by as_aux_lemma => kernel_rfl) (by as_aux_lemma => kernel_rfl) (fun _ _ _ h => h) (Or.inl ⟨by kernel_rfl, ?_⟩) ?_
  rotate_left
  · intro w; go_simp
    first | done | with_reducible rfl
  refine wpAny_ready (rs := [1]) (by as_aux_lemma => kernel_rfl) (by simp) ?_
  refine AllReady.cons rfl (fun K hK => ?_) AllReady.nil
  go_simp
  go_wp2_with (go_at_call 18; refine (Err_blk rb2 _ _ _ _ _ hbks.drew).mono ?_; rintro e w7 ⟨rfl, rfl⟩)
  try (refine hK _ _ ?_; clear hK K)
  refine wpAny_take (i := 2) (v := ?_) rfl (by as_aux_lemma => kernel_rfl) (by as_aux_lemma => kernel_rfl) (by as_aux_lemma => kernel_rfl) (fun _ _ _ h => h) (Or.inl ⟨by kernel_rfl, ?_⟩) ?_
  rotate_left
  · intro w; go_simp
    first | done | with_reducible rfl
  refine wpAny_take (i := 3) (v := ?_) rfl (by as_aux_lemma => kernel_rfl) (by as_aux_lemma => kernel_rfl) (by as_aux_lemma => kernel_rfl) (fun _ _ _ h => h) (Or.inl ⟨by kernel_rfl, ?_⟩) ?_
  rotate_left
  · intro w; go_simp
    first | done | with_reducible rfl
  refine wpAny_take (i := 4) (v := ?_) rfl (by as_aux_lemma => kernel_rfl) (by as_aux_lemma => kernel_rfl) (by as_aux_lemma => kernel_rfl) (fun _ _ _ h => h) (Or.inl ⟨by kernel_rfl, ?_⟩) ?_
  rotate_left
  · intro w; go_simp
    first | done | with_reducible rfl
  refine wpAny_take (i := 5) (v := ?_) rfl (by as_aux_lemma => kernel_rfl) (by as_aux_lemma => kernel_rfl) (by as_aux_lemma => kernel_rfl) (fun _ _ _ h => h) (Or.inl ⟨by kernel_rfl, ?_⟩) ?_
  rotate_left
  · intro w; go_simp
    first | done | with_reducible rfl
  refine wpAny_take (i := 6) (v := ?_) rfl (by as_aux_lemma => kernel_rfl) (by as_aux_lemma => kernel_rfl) (by as_aux_lemma => kernel_rfl) (fun _ _ _ h => h) (Or.inl ⟨by kernel_rfl, ?_⟩) ?_
  rotate_left
  · intro w; go_simp
    first | done | with_reducible rfl
  refine wpAny_take (i := 7) (v := ?_) rfl (by as_aux_lemma => kernel_rfl) (by as_aux_lemma => kernel_rfl) (by as_aux_lemma => kernel_rfl) (fun _ _ _ h => h) (Or.inl ⟨by kernel_rfl, ?_⟩) ?_
  rotate_left
  · intro w; go_simp
    first | done | with_reducible rfl
  refine wpAny_take (i := 8) (v := undef) rfl (by as_aux_lemma => kernel_rfl) (by as_aux_lemma => kernel_rfl) (by as_aux_lemma => kernel_rfl) (fun _ _ _ h => h) (Or.inr ⟨by kernel_rfl, rfl⟩) ?_
  refine wpAny_take (i := 9) (v := undef) rfl (by as_aux_lemma => kernel_rfl) (by as_aux_lemma => kernel_rfl) (by as_aux_lemma => kernel_rfl) (fun _ _ _ h => h) (Or.inr ⟨by kernel_rfl, rfl⟩) ?_
  refine wpAny_take (i := 10) (v := undef) rfl (by as_aux_lemma => kernel_rfl) (by as_aux_lemma => kernel_rfl) (by as_aux_lemma => kernel_rfl) (fun _ _ _ h => h) (Or.inr ⟨by kernel_rfl, rfl⟩) ?_
  refine wpAny_take (i := 11) (v := undef) rfl (by as_aux_lemma => kernel_rfl) (by as_aux_lemma => kernel_rfl) (by as_aux_lemma => kernel_rfl) (fun _ _ _ h => h) (Or.inr ⟨by kernel_rfl, rfl⟩) ?_
  refine wpAny_take (i := 12) (v := undef) rfl (by as_aux_lemma => kernel_rfl) (by as_aux_lemma => kernel_rfl) (by as_aux_lemma => kernel_rfl) (fun _ _ _ h => h) (Or.inr ⟨by kernel_rfl, rfl⟩) ?_
  refine wpAny_take (i := 13) (v := undef) rfl (by as_aux_lemma => kernel_rfl) (by as_aux_lemma => kernel_rfl) (by as_aux_lemma => kernel_rfl) (fun _ _ _ h => h) (Or.inr ⟨by kernel_rfl, rfl⟩) ?_
  refine wpAny_take (i := 14) (v := undef) rfl (by as_aux_lemma => kernel_rfl) (by as_aux_lemma => kernel_rfl) (by as_aux_lemma => kernel_rfl) (fun _ _ _ h => h) (Or.inr ⟨by kernel_rfl, rfl⟩) ?_
  refine wpAny_take (i := 15) (v := undef) rfl (by as_aux_lemma => kernel_rfl) (by as_aux_lemma => kernel_rfl) (by as_aux_lemma => kernel_rfl) (fun _ _ _ h => h) (Or.inr ⟨by kernel_rfl, rfl⟩) ?_
  refine wpAny_take (i := 16) (v := undef) rfl (by as_aux_lemma => kernel_rfl) (by as_aux_lemma => kernel_rfl) (by as_aux_lemma => kernel_rfl) (fun _ _ _ h => h) (Or.inr ⟨by kernel_rfl, rfl⟩) ?_
  refine wpAny_take (i := 17) (v := undef) rfl (by as_aux_lemma => kernel_rfl) (by as_aux_lemma => kernel_rfl) (by as_aux_lemma => kernel_rfl) (fun _ _ _ h => h) (Or.inr ⟨by kernel_rfl, rfl⟩) ?_
  refine wpAny_take (i := 18) (v := undef) rfl (by as_aux_lemma => kernel_rfl) (by as_aux_lemma => kernel_rfl) (by as_aux_lemma => kernel_rfl) (fun _ _ _ h => h) (Or.inr ⟨by kernel_rfl, rfl⟩) ?_
  refine wpAny_take (i := 19) (v := undef) rfl (by as_aux_lemma => kernel_rfl) (by as_aux_lemma => kernel_rfl) (by as_aux_lemma => kernel_rfl) (fun _ _ _ h => h) (Or.inr ⟨by kernel_rfl, rfl⟩) ?_
  refine wpAny_take (i := 20) (v := undef) rfl (by as_aux_lemma => kernel_rfl) (by as_aux_lemma => kernel_rfl) (by as_aux_lemma => kernel_rfl) (fun _ _ _ h => h) (Or.inr ⟨by kernel_rfl, rfl⟩) ?_
  refine wpAny_take (i := 21) (v := undef) rfl (by as_aux_lemma => kernel_rfl) (by as_aux_lemma => kernel_rfl) (by as_aux_lemma => kernel_rfl) (fun _ _ _ h => h) (Or.inr ⟨by kernel_rfl, rfl⟩) ?_
  refine wpAny_take (i := 22) (v := undef) rfl (by as_aux_lemma => kernel_rfl) (by as_aux_lemma => kernel_rfl) (by as_aux_lemma => kernel_rfl) (fun _ _ _ h => h) (Or.inr ⟨by kernel_rfl, rfl⟩) ?_
  refine wpAny_take (i := 23) (v := undef) rfl (by as_aux_lemma => kernel_rfl) (by as_aux_lemma => kernel_rfl) (by as_aux_lemma => kernel_rfl) (fun _ _ _ h => h) (Or.inr ⟨by kernel_rfl, rfl⟩) ?_
  refine wpAny_take (i := 24) (v := undef) rfl (by as_aux_lemma => kernel_rfl) (by as_aux_lemma => kernel_rfl) (by as_aux_lemma => kernel_rfl) (fun _ _ _ h => h) (Or.inr ⟨by kernel_rfl, rfl⟩) ?_
  refine wpAny_take (i := 25) (v := ?_) rfl (by as_aux_lemma => kernel_rfl) (by as_aux_lemma => kernel_rfl) (by as_aux_lemma => kernel_rfl) (fun _ _ _ h => h) (Or.inl ⟨by kernel_rfl, ?_⟩) ?_
  rotate_left
  · intro w; go_simp
    first | done | with_reducible rfl
  refine wpAny_take (i := 26) (v := ?_) rfl (by as_aux_lemma => kernel_rfl) (by as_aux_lemma => kernel_rfl) (by as_aux_lemma => kernel_rfl) (fun _ _ _ h => h) (Or.inl ⟨by kernel_rfl, ?_⟩) ?_
  rotate_left
  · intro w; go_simp
    first | done | with_reducible rfl
  refine wpAny_take (i := 27) (v := ?_) rfl (by as_aux_lemma => kernel_rfl) (by as_aux_lemma => kernel_rfl) (by as_aux_lemma => kernel_rfl) (fun _ _ _ h => h) (Or.inl ⟨by kernel_rfl, ?_⟩) ?_
  rotate_left
  · intro w; go_simp
    first | done | with_reducible rfl
  refine wpAny_ready (rs := [28]) (by as_aux_lemma => kernel_rfl) (by simp) ?_
  refine AllReady.cons rfl (fun K hK => ?_) AllReady.nil
  go_simp
  go_wp2_with (go_at_call 18; refine (Err_blk rb1 _ _ _ _ _ hbk6.drew).mono ?_; rintro e w7 ⟨rfl, rfl⟩)
  try (refine hK _ _ ?_; clear hK K)
  refine wpAny_take (i := 29) (v := ?_) rfl (by as_aux_lemma => kernel_rfl) (by as_aux_lemma => kernel_rfl) (by as_aux_lemma => kernel_rfl) (fun _ _ _ h => h) (Or.inl ⟨by kernel_rfl, ?_⟩) ?_
  rotate_left
  · intro w; go_simp
    first | done | with_reducible rfl
  refine wpAny_take (i := 30) (v := ?_) rfl (by as_aux_lemma => kernel_rfl) (by as_aux_lemma => kernel_rfl) (by as_aux_lemma => kernel_rfl) (fun _ _ _ h => h) (Or.inl ⟨by kernel_rfl, ?_⟩) ?_
  rotate_left
  · intro w; go_simp
    first | done | with_reducible rfl
  refine wpAny_take (i := 31) (v := undef) rfl (by as_aux_lemma => kernel_rfl) (by as_aux_lemma => kernel_rfl) (by as_aux_lemma => kernel_rfl) (fun _ _ _ h => h) (Or.inr ⟨by kernel_rfl, rfl⟩) ?_
  refine wpAny_take (i := 32) (v := undef) rfl (by as_aux_lemma => kernel_rfl) (by as_aux_lemma => kernel_rfl) (by as_aux_lemma => kernel_rfl) (fun _ _ _ h => h) (Or.inr ⟨by kernel_rfl, rfl⟩) ?_
  refine wpAny_take (i := 33) (v := undef) rfl (by as_aux_lemma => kernel_rfl) (by as_aux_lemma => kernel_rfl) (by as_aux_lemma => kernel_rfl) (fun _ _ _ h => h) (Or.inr ⟨by kernel_rfl, rfl⟩) ?_
  refine wpAny_take (i := 34) (v := ?_) rfl (by as_aux_lemma => kernel_rfl) (by as_aux_lemma => kernel_rfl) (by as_aux_lemma => kernel_rfl) (fun _ _ _ h => h) (Or.inl ⟨by kernel_rfl, ?_⟩) ?_
  rotate_left
  · intro w; go_simp
    first | done | with_reducible rfl
  refine wpAny_take (i := 35) (v := ?_) rfl (by as_aux_lemma => kernel_rfl) (by as_aux_lemma => kernel_rfl) (by as_aux_lemma => kernel_rfl) (fun _ _ _ h => h) (Or.inl ⟨by kernel_rfl, ?_⟩) ?_
  rotate_left
  · intro w; go_simp
    first | done | with_reducible rfl
  refine wpAny_take (i := 36) (v := ?_) rfl (by as_aux_lemma => kernel_rfl) (by as_aux_lemma => kernel_rfl) (by as_aux_lemma => kernel_rfl) (fun _ _ _ h => h) (Or.inl ⟨by kernel_rfl, ?_⟩) ?_
  rotate_left
  · intro w; go_simp
    first | done | with_reducible rfl
  refine wpAny_ready (rs := [37]) (by as_aux_lemma => kernel_rfl) (by simp) ?_
  refine AllReady.cons rfl (fun K hK => ?_) AllReady.nil
  go_simp
  go_wp2_with (go_at_call 15; refine (awake_any w.heap.size w6.drew hs6 hv6.drew).mono ?_; rintro e w8 ⟨rfl, hb8⟩)
  try (refine hK _ _ ?_; clear hK K)
  refine wpAny_take (i := 38) (v := ?_) rfl (by as_aux_lemma => kernel_rfl) (by as_aux_lemma => kernel_rfl) (by as_aux_lemma => kernel_rfl) (fun _ _ _ h => h) (Or.inl ⟨by kernel_rfl, ?_⟩) ?_
  rotate_left
  · intro w; go_simp
    first | done | with_reducible rfl
  refine wpAny_take (i := 39) (v := ?_) rfl (by as_aux_lemma => kernel_rfl) (by as_aux_lemma => kernel_rfl) (by as_aux_lemma => kernel_rfl) (fun _ _ _ h => h) (Or.inl ⟨by kernel_rfl, ?_⟩) ?_
  rotate_left
  · intro w; go_simp
    first | done | with_reducible rfl
  refine wpAny_done (by kernel_rfl) ?_ _
  go_wp2
  go_ret
  exact ⟨rfl, hn6.drew.trans (hb8.mono hs6)⟩

set_option maxHeartbeats 8000000 in
set_option maxRecDepth 100000 in
/-- The text was read, and no number. -/
theorem only_text (a : Option Addr) (c : Nat) (l r1 r2 s2 : List UInt8) (n e1 e2 : Int) (w : World) (hsrc : SrcAt w (.slice a l.length c) l) (hc : l.length ≤ c) (hlb : l.length ≤ 140737488351232) (hv : VarsOk w.heap.size w)
    (hI : Hid (rdInt l = (r1, e1, n))) (hT : Hid (rdText l.length l = (r2, e2, s2))) (he1 : (e1 != 0) = true) (he2 : Hid (e2 = 0)) :
    Calls Tryd.prog 6 #[.slice a l.length c] w fun e w' => e = .returned (.bool true) ∧ Below w.heap.size w w' := by
  have hn0 : n = 0 := rdInt_err hI.out (by simpa using he1)
  subst hn0
  have he1' : (e1 == 0) = false := by simpa using he1
  obtain rfl : e2 = 0 := he2.out
  have hlaid := rdText_laid hT.out
  have HL := Lib.hid hlaid
  have hsl2 : s2.length ≤ l.length := by rw [hlaid]; simp [putText]; omega
  clear hlaid
  go_enter Tryd.func6, Tryd.ntmps6
  go_wp2_with (go_at_call 16; refine (New_any _ _ _ hsrc (by omega)).mono ?_; rintro e w1 ⟨rb1, a1, c1, rfl, hrd1, hrb1, hal1, hb1⟩; refine Hid.out ?_)
  refine Lib.hid ?_
  have hs1 := hb1.size
  go_wp2_with (go_at_call 16; refine (New_any _ _ _ (hsrc.below hb1 (Nat.le_refl _)) (by omega)).mono ?_; rintro e w2 ⟨rb2, a2, c2, rfl, hrd2, hrb2, hal2, hb2⟩; refine Hid.out ?_)
  refine Lib.hid ?_
  have hrb1' := hrd1.blk.lt
  have hn2 := hb1.trans (hb2.mono hs1)
  have hs2' := hn2.size
  have hrd1' := hrd1.below hb2
  go_wp2_with (go_at_call 22; refine (rInt_any rb1 a1 c1 _ w.heap.size _ hrd1' hrb1 (hv.on hn2)).mono ?_; rintro e w3 ⟨rfl, ⟨a3, c3, hrd3⟩, hg3⟩; refine Hid.out ?_)
  refine Lib.hid ?_
  rw [hI.out] at hrd3
  rw [hI.out]
  have hn3 := hn2.trans (below_of_grownBy hg3 hrb1 hs2')
  have hs3 := hn3.size
  have hrd2' := hrd2.mono hg3 (by simp; omega) (by intro p hp; have := hal2 p hp; simp; omega)
  have hsrc3 := hsrc.below hn3 (Nat.le_refl _)
  have hv3 := hv.on hn3
  have hbk3 := hrd3.blk
  have hne : rb1 ≠ rb2 := by omega
  have hr2 : w.heap.size ≤ rb2 := by omega
  clear hrd1 hrd1' hrd2 hg3 hal1 hal2 hb1 hb2 hn2 hrb2 hrb1' hs2'
  go_wp2
  refine wp_region_any (by kernel_rfl) ?_
  change wpAny _ _ _ _ _ _ _ (World.drew _)
  refine wpAny_take (i := 0) (v := ?_) rfl (by as_aux_lemma => kernel_rfl) (by as_aux_lemma => kernel_rfl) (by as_aux_lemma => kernel_rfl) (fun _ _ _ h => h) (Or.inl ⟨by kernel_rfl, ?_⟩) ?_
  rotate_left
  · intro w; go_simp
    first | done | with_reducible rfl
  refine wpAny_ready (rs := [1]) (by as_aux_lemma => kernel_rfl) (by simp) ?_
  refine AllReady.cons rfl (fun K hK => ?_) AllReady.nil
  go_simp
  go_wp2_with (go_at_call 18; refine (Err_blk rb1 _ _ _ _ _ hbk3.drew).mono ?_; rintro e w5 ⟨rfl, rfl⟩)
  try (refine hK _ _ ?_; clear hK K)
  refine wpAny_take (i := 2) (v := ?_) rfl (by as_aux_lemma => kernel_rfl) (by as_aux_lemma => kernel_rfl) (by as_aux_lemma => kernel_rfl) (fun _ _ _ h => h) (Or.inl ⟨by kernel_rfl, ?_⟩) ?_
  rotate_left
  · intro w; go_simp
    first | done | with_reducible rfl
  refine wpAny_take (i := 3) (v := ?_) rfl (by as_aux_lemma => kernel_rfl) (by as_aux_lemma => kernel_rfl) (by as_aux_lemma => kernel_rfl) (fun _ _ _ h => h) (Or.inl ⟨by kernel_rfl, ?_⟩) ?_
  rotate_left
  · intro w; go_simp
    first | done | with_reducible rfl
  refine wpAny_take (i := 4) (v := undef) rfl (by as_aux_lemma => kernel_rfl) (by as_aux_lemma => kernel_rfl) (by as_aux_lemma => kernel_rfl) (fun _ _ _ h => h) (Or.inr ⟨by kernel_rfl, rfl⟩) ?_
  refine wpAny_take (i := 5) (v := undef) rfl (by as_aux_lemma => kernel_rfl) (by as_aux_lemma => kernel_rfl) (by as_aux_lemma => kernel_rfl) (fun _ _ _ h => h) (Or.inr ⟨by kernel_rfl, rfl⟩) ?_
  refine wpAny_take (i := 6) (v := undef) rfl (by as_aux_lemma => kernel_rfl) (by as_aux_lemma => kernel_rfl) (by as_aux_lemma => kernel_rfl) (fun _ _ _ h => h) (Or.inr ⟨by kernel_rfl, rfl⟩) ?_
  refine wpAny_take (i := 7) (v := undef) rfl (by as_aux_lemma => kernel_rfl) (by as_aux_lemma => kernel_rfl) (by as_aux_lemma => kernel_rfl) (fun _ _ _ h => h) (Or.inr ⟨by kernel_rfl, rfl⟩) ?_
  refine wpAny_take (i := 8) (v := undef) rfl (by as_aux_lemma => kernel_rfl) (by as_aux_lemma => kernel_rfl) (by as_aux_lemma => kernel_rfl) (fun _ _ _ h => h) (Or.inr ⟨by kernel_rfl, rfl⟩) ?_
  refine wpAny_take (i := 9) (v := undef) rfl (by as_aux_lemma => kernel_rfl) (by as_aux_lemma => kernel_rfl) (by as_aux_lemma => kernel_rfl) (fun _ _ _ h => h) (Or.inr ⟨by kernel_rfl, rfl⟩) ?_
  refine wpAny_take (i := 10) (v := undef) rfl (by as_aux_lemma => kernel_rfl) (by as_aux_lemma => kernel_rfl) (by as_aux_lemma => kernel_rfl) (fun _ _ _ h => h) (Or.inr ⟨by kernel_rfl, rfl⟩) ?_
  refine wpAny_take (i := 11) (v := undef) rfl (by as_aux_lemma => kernel_rfl) (by as_aux_lemma => kernel_rfl) (by as_aux_lemma => kernel_rfl) (fun _ _ _ h => h) (Or.inr ⟨by kernel_rfl, rfl⟩) ?_
  refine wpAny_take (i := 12) (v := undef) rfl (by as_aux_lemma => kernel_rfl) (by as_aux_lemma => kernel_rfl) (by as_aux_lemma => kernel_rfl) (fun _ _ _ h => h) (Or.inr ⟨by kernel_rfl, rfl⟩) ?_
  refine wpAny_take (i := 13) (v := undef) rfl (by as_aux_lemma => kernel_rfl) (by as_aux_lemma => kernel_rfl) (by as_aux_lemma => kernel_rfl) (fun _ _ _ h => h) (Or.inr ⟨by kernel_rfl, rfl⟩) ?_
  refine wpAny_take (i := 14) (v := undef) rfl (by as_aux_lemma => kernel_rfl) (by as_aux_lemma => kernel_rfl) (by as_aux_lemma => kernel_rfl) (fun _ _ _ h => h) (Or.inr ⟨by kernel_rfl, rfl⟩) ?_
  refine wpAny_take (i := 15) (v := undef) rfl (by as_aux_lemma => kernel_rfl) (by as_aux_lemma => kernel_rfl) (by as_aux_lemma => kernel_rfl) (fun _ _ _ h => h) (Or.inr ⟨by kernel_rfl, rfl⟩) ?_
  refine wpAny_take (i := 16) (v := ?_) rfl (by as_aux_lemma => kernel_rfl) (by as_aux_lemma => kernel_rfl) (by as_aux_lemma => kernel_rfl) (fun _ _ _ h => h) (Or.inl ⟨by kernel_rfl, ?_⟩) ?_
  rotate_left
  · intro w; go_simp
    first | done | with_reducible rfl
  refine wpAny_take (i := 17) (v := ?_) rfl (by as_aux_lemma => kernel_rfl) (by as_aux_lemma => kernel_rfl) (by as_aux_lemma => kernel_rfl) (fun _ _ _ h => h) (Or.inl ⟨by kernel_rfl, ?_⟩) ?_
  rotate_left
  · intro w; go_simp
    first | done | with_reducible rfl
  refine wpAny_take (i := 18) (v := ?_) rfl (by as_aux_lemma => kernel_rfl) (by as_aux_lemma => kernel_rfl) (by as_aux_lemma => kernel_rfl) (fun _ _ _ h => h) (Or.inl ⟨by kernel_rfl, ?_⟩) ?_
  rotate_left
  · intro w; go_simp
    first | done | with_reducible rfl
  refine wpAny_ready (rs := [19]) (by as_aux_lemma => kernel_rfl) (by simp) ?_
  refine AllReady.cons rfl (fun K hK => ?_) AllReady.nil
  go_simp
  go_wp2_with (go_at_call 18; refine (Err_blk rb1 _ _ _ _ _ hbk3.drew).mono ?_; rintro e w5 ⟨rfl, rfl⟩)
  try (refine hK _ _ ?_; clear hK K)
  refine wpAny_take (i := 20) (v := ?_) rfl (by as_aux_lemma => kernel_rfl) (by as_aux_lemma => kernel_rfl) (by as_aux_lemma => kernel_rfl) (fun _ _ _ h => h) (Or.inl ⟨by kernel_rfl, ?_⟩) ?_
  rotate_left
  · intro w; go_simp
    first | done | with_reducible rfl
  refine wpAny_take (i := 21) (v := ?_) rfl (by as_aux_lemma => kernel_rfl) (by as_aux_lemma => kernel_rfl) (by as_aux_lemma => kernel_rfl) (fun _ _ _ h => h) (Or.inl ⟨by kernel_rfl, ?_⟩) ?_
  rotate_left
  · intro w; go_simp
    first | done | with_reducible rfl
  refine wpAny_take (i := 22) (v := ?_) rfl (by as_aux_lemma => kernel_rfl) (by as_aux_lemma => kernel_rfl) (by as_aux_lemma => kernel_rfl) (fun _ _ _ h => h) (Or.inl ⟨by kernel_rfl, ?_⟩) ?_
  rotate_left
  · intro w; go_simp
    first | done | with_reducible rfl
  refine wpAny_take (i := 23) (v := ?_) rfl (by as_aux_lemma => kernel_rfl) (by as_aux_lemma => kernel_rfl) (by as_aux_lemma => kernel_rfl) (fun _ _ _ h => h) (Or.inl ⟨by kernel_rfl, ?_⟩) ?_
  rotate_left
  · intro w; go_simp
    first | done | with_reducible rfl
  refine wpAny_take (i := 24) (v := ?_) rfl (by as_aux_lemma => kernel_rfl) (by as_aux_lemma => kernel_rfl) (by as_aux_lemma => kernel_rfl) (fun _ _ _ h => h) (Or.inl ⟨by kernel_rfl, ?_⟩) ?_
  rotate_left
  · intro w; go_simp
    first | done | with_reducible rfl
  refine wpAny_take (i := 25) (v := ?_) rfl (by as_aux_lemma => kernel_rfl) (by as_aux_lemma => kernel_rfl) (by as_aux_lemma => kernel_rfl) (fun _ _ _ h => h) (Or.inl ⟨by kernel_rfl, ?_⟩) ?_
  rotate_left
  · intro w; go_simp
    first | done | with_reducible rfl
  refine wpAny_done (by kernel_rfl) ?_ _
  have hbkx := hbk3.drew
  have hrd2x := hrd2'.drew
  have hnx := hn3.drew
  have hsx := hnx.size
  go_wp2_with (go_at_call 23; refine (rText_any rb2 a2 c2 _ _ w.heap.size _ hrd2x hr2 (hv.on hnx)).mono ?_; rintro e w6 ⟨rfl, ⟨a6, c6, hrd6⟩, hg6⟩; refine Hid.out ?_)
  refine Lib.hid ?_
  rw [hT.out] at hrd6
  rw [hT.out]
  have hn6 := hnx.trans (below_of_grownBy hg6 hr2 hsx)
  have hs6 := hn6.size
  have hv6 := hv.on hn6
  have hbk6 := hbkx.mono hg6 (by simpa using hne)
  have hbks := hrd6.blk
  go_wp2
  have hsrc6 := hsrc.below hn6 (Nat.le_refl _)
  obtain ⟨k, hk⟩ : ∃ k, k = (putText s2).length := ⟨_, rfl⟩
  have hkl : l.length = k + r2.length := by rw [HL.out, hk]; simp
  have htk : l.take k = putText s2 := by rw [HL.out, hk, List.take_left]
  have hsl : ∀ W, (Instr.slice 23 (.slice a l.length c) none (some (.int .i64 ((l.length : Int) - (r2.length : Int)))) none).run Tryd.prog W = .ok (.slice a k c) W := fun W => by
    rw [show ((l.length : Int) - (r2.length : Int)) = (k : Int) by omega]
    exact slice_to a l.length c k W (by omega)
  have HK := Lib.hid htk
  have HKL := Lib.hid hkl
  clear hk hkl htk
  have hl1 : (r2.length : Int) ≤ (l.length : Int) := by have := HKL.out; omega
  have hl2 : (l.length : Int) ≤ 140737488351232 := by omega
  have hwr := wrap_sub l.length r2.length (by omega) hlb
  generalize hP : putText s2 = P at *
  have HP := Lib.hid hP
  clear hP
  have hPP := eql_str' P
  refine wp_region_any (by kernel_rfl) ?_
  change wpAny _ _ _ _ _ _ _ (World.drew _)
  refine wpAny_take (i := 0) (v := ?_) rfl (by as_aux_lemma => kernel_rfl) (by as_aux_lemma => kernel_rfl) (by as_aux_lemma => kernel_rfl) (fun _ _ _ h => h) (Or.inl ⟨by kernel_rfl, ?_⟩) ?_
  rotate_left
  · intro w; go_simp
    first | done | with_reducible rfl
  refine wpAny_ready (rs := [1]) (by as_aux_lemma => kernel_rfl) (by simp) ?_
  refine AllReady.cons rfl (fun K hK => ?_) AllReady.nil
  go_simp
  go_wp2_with (go_at_call 18; refine (Err_blk rb2 _ _ _ _ _ hbks.drew).mono ?_; rintro e w7 ⟨rfl, rfl⟩)
  try (refine hK _ _ ?_; clear hK K)
  refine wpAny_take (i := 2) (v := ?_) rfl (by as_aux_lemma => kernel_rfl) (by as_aux_lemma => kernel_rfl) (by as_aux_lemma => kernel_rfl) (fun _ _ _ h => h) (Or.inl ⟨by kernel_rfl, ?_⟩) ?_
  rotate_left
  · intro w; go_simp
    first | done | with_reducible rfl
  refine wpAny_take (i := 3) (v := ?_) rfl (by as_aux_lemma => kernel_rfl) (by as_aux_lemma => kernel_rfl) (by as_aux_lemma => kernel_rfl) (fun _ _ _ h => h) (Or.inl ⟨by kernel_rfl, ?_⟩) ?_
  rotate_left
  · intro w; go_simp
    first | done | with_reducible rfl
  refine wpAny_take (i := 4) (v := undef) rfl (by as_aux_lemma => kernel_rfl) (by as_aux_lemma => kernel_rfl) (by as_aux_lemma => kernel_rfl) (fun _ _ _ h => h) (Or.inr ⟨by kernel_rfl, rfl⟩) ?_
  refine wpAny_take (i := 5) (v := undef) rfl (by as_aux_lemma => kernel_rfl) (by as_aux_lemma => kernel_rfl) (by as_aux_lemma => kernel_rfl) (fun _ _ _ h => h) (Or.inr ⟨by kernel_rfl, rfl⟩) ?_
  refine wpAny_take (i := 6) (v := ?_) rfl (by as_aux_lemma => kernel_rfl) (by as_aux_lemma => kernel_rfl) (by as_aux_lemma => kernel_rfl) (fun _ _ _ h => h) (Or.inl ⟨by kernel_rfl, ?_⟩) ?_
  rotate_left
  · intro w; go_simp
    first | done | with_reducible rfl
  refine wpAny_take (i := 7) (v := ?_) rfl (by as_aux_lemma => kernel_rfl) (by as_aux_lemma => kernel_rfl) (by as_aux_lemma => kernel_rfl) (fun _ _ _ h => h) (Or.inl ⟨by kernel_rfl, ?_⟩) ?_
  rotate_left
  · intro w; go_simp
    first | done | with_reducible rfl
  refine wpAny_take (i := 8) (v := ?_) rfl (by as_aux_lemma => kernel_rfl) (by as_aux_lemma => kernel_rfl) (by as_aux_lemma => kernel_rfl) (fun _ _ _ h => h) (Or.inl ⟨by kernel_rfl, ?_⟩) ?_
  rotate_left
  · intro w; go_simp
    first | done | with_reducible rfl
  refine wpAny_ready (rs := [9]) (by as_aux_lemma => kernel_rfl) (by simp) ?_
  refine AllReady.cons rfl (fun K hK => ?_) AllReady.nil
  go_simp
  go_wp2_with (go_at_call 18; refine (Err_blk rb2 _ _ _ _ _ hbks.drew).mono ?_; rintro e w7 ⟨rfl, rfl⟩)
  try (refine hK _ _ ?_; clear hK K)
  refine wpAny_take (i := 10) (v := ?_) rfl (by as_aux_lemma => kernel_rfl) (by as_aux_lemma => kernel_rfl) (by as_aux_lemma => kernel_rfl) (fun _ _ _ h => h) (Or.inl ⟨by kernel_rfl, ?_⟩) ?_
  rotate_left
  · intro w; go_simp
    first | done | with_reducible rfl
  refine wpAny_take (i := 11) (v := ?_) rfl (by as_aux_lemma => kernel_rfl) (by as_aux_lemma => kernel_rfl) (by as_aux_lemma => kernel_rfl) (fun _ _ _ h => h) (Or.inl ⟨by kernel_rfl, ?_⟩) ?_
  rotate_left
  · intro w; go_simp
    first | done | with_reducible rfl
  refine wpAny_take (i := 12) (v := ?_) rfl (by as_aux_lemma => kernel_rfl) (by as_aux_lemma => kernel_rfl) (by as_aux_lemma => kernel_rfl) (fun _ _ _ h => h) (Or.inl ⟨by kernel_rfl, ?_⟩) ?_
  rotate_left
  · intro w; go_simp
    first | done | with_reducible rfl
  refine wpAny_take (i := 15) (v := ?_) rfl (by as_aux_lemma => kernel_rfl) (by as_aux_lemma => kernel_rfl) (by as_aux_lemma => kernel_rfl) (fun _ _ _ h => h) (Or.inl ⟨by kernel_rfl, ?_⟩) ?_
  rotate_left
  · intro w; go_simp
    first | done | with_reducible rfl
  refine wpAny_take (i := 16) (v := ?_) rfl (by as_aux_lemma => kernel_rfl) (by as_aux_lemma => kernel_rfl) (by as_aux_lemma => kernel_rfl) (fun _ _ _ h => h) (Or.inl ⟨by kernel_rfl, ?_⟩) ?_
  rotate_left
  · intro w; go_simp
    first | done | with_reducible rfl
  refine wpAny_take (i := 17) (v := ?_) rfl (by as_aux_lemma => kernel_rfl) (by as_aux_lemma => kernel_rfl) (by as_aux_lemma => kernel_rfl) (fun _ _ _ h => h) (Or.inl ⟨by kernel_rfl, ?_⟩) ?_
  rotate_left
  · intro w; go_simp
    first | done | with_reducible rfl
  refine wpAny_take (i := 18) (v := ?_) rfl (by as_aux_lemma => kernel_rfl) (by as_aux_lemma => kernel_rfl) (by as_aux_lemma => kernel_rfl) (fun _ _ _ h => h) (Or.inl ⟨by kernel_rfl, ?_⟩) ?_
  rotate_left
  · intro w; go_simp
    first | done | with_reducible rfl
  refine wpAny_ready (rs := [13]) (by as_aux_lemma => kernel_rfl) (by simp) ?_
  refine AllReady.cons rfl (fun K hK => ?_) AllReady.nil
  go_simp
  go_wp2_with (go_at_call 11; refine (Text_val ⟨s2.toArray⟩ (by show s2.toArray.size ≤ _; simp; omega) w.heap.size w6.drew hs6 hv6.drew).mono ?_; rintro e w7 ⟨a7, k7, c7, rfl, ho7, hb7⟩; have hsx1 : SrcAt w7 (.slice a7 k7 c7) P := (by rw [← HP.out]; exact ho7.src); have hsx2 := (hsrc6.below (Below.refl w6.heap.size w6).drew (Nat.le_refl _)).below hb7 (Nat.le_refl _); have hrd7 := hrd6.drew.below hb7; have hbk7 := hbk6.drew.below hb7; have hn7 := hn6.drew.trans (hb7.mono hs6); have hs7 := hn7.size)
  try (refine hK _ _ ?_; clear hK K)
  have hS : (fun w' : World => SrcAt w' (.slice a7 k7 c7) P ∧ SrcAt w' (.slice a l.length c) l) w7 := ⟨hsx1, hsx2⟩
  refine wpAny_of_held (S := fun w' => SrcAt w' (.slice a7 k7 c7) P ∧ SrcAt w' (.slice a l.length c) l) _ _ _ _ ?_
  refine wpAnyH_take (i := 14) (v := ?_) rfl (by as_aux_lemma => kernel_rfl) (by as_aux_lemma => kernel_rfl) (by as_aux_lemma => kernel_rfl) (fun _ _ _ h => h) (Or.inl ⟨by kernel_rfl, ?_⟩) hS ?_
  rotate_left
  · intro w hSw; have hg1 := src_string hSw.1; have hg2 := src_take hSw.2 k (by have := HKL.out; omega); rw [HK.out] at hg2; go_simp
    first | done | with_reducible rfl
  refine wpAnyH_ready (rs := [19]) (by as_aux_lemma => kernel_rfl) (by simp) ?_
  refine AllReadyH.cons rfl (fun K hK => ?_) AllReadyH.nil
  go_simp
  go_wp2_with (go_at_call 19; refine (Left_any rb2 a6 c6 _ _ _ hrd7).mono ?_; rintro e w9 ⟨rfl, rfl⟩)
  refine hK.out _ _ ?_ (fun hS => ?_)
  · exact hS
  clear hK K
  refine wpAnyH_take (i := 20) (v := ?_) rfl (by as_aux_lemma => kernel_rfl) (by as_aux_lemma => kernel_rfl) (by as_aux_lemma => kernel_rfl) (fun _ _ _ h => h) (Or.inl ⟨by kernel_rfl, ?_⟩) hS ?_
  rotate_left
  · intro w hSw; have hg1 := src_string hSw.1; have hg2 := src_take hSw.2 k (by have := HKL.out; omega); rw [HK.out] at hg2; go_simp
    first | done | with_reducible rfl
  refine wpAnyH_take (i := 21) (v := ?_) rfl (by as_aux_lemma => kernel_rfl) (by as_aux_lemma => kernel_rfl) (by as_aux_lemma => kernel_rfl) (fun _ _ _ h => h) (Or.inl ⟨by kernel_rfl, ?_⟩) hS ?_
  rotate_left
  · intro w hSw; have hg1 := src_string hSw.1; have hg2 := src_take hSw.2 k (by have := HKL.out; omega); rw [HK.out] at hg2; go_simp
    first | done | with_reducible rfl
  refine wpAnyH_take (i := 22) (v := ?_) rfl (by as_aux_lemma => kernel_rfl) (by as_aux_lemma => kernel_rfl) (by as_aux_lemma => kernel_rfl) (fun _ _ _ h => h) (Or.inl ⟨by kernel_rfl, ?_⟩) hS ?_
  rotate_left
  · intro w hSw; have hg1 := src_string hSw.1; have hg2 := src_take hSw.2 k (by have := HKL.out; omega); rw [HK.out] at hg2; go_simp
    first | done | with_reducible rfl
  refine wpAnyH_take (i := 23) (v := ?_) rfl (by as_aux_lemma => kernel_rfl) (by as_aux_lemma => kernel_rfl) (by as_aux_lemma => kernel_rfl) (fun _ _ _ h => h) (Or.inl ⟨by kernel_rfl, ?_⟩) hS ?_
  rotate_left
  · intro w hSw; have hg1 := src_string hSw.1; have hg2 := src_take hSw.2 k (by have := HKL.out; omega); rw [HK.out] at hg2; go_simp
    first | done | with_reducible rfl
  refine wpAnyH_take (i := 24) (v := ?_) rfl (by as_aux_lemma => kernel_rfl) (by as_aux_lemma => kernel_rfl) (by as_aux_lemma => kernel_rfl) (fun _ _ _ h => h) (Or.inl ⟨by kernel_rfl, ?_⟩) hS ?_
  rotate_left
  · intro w hSw; have hg1 := src_string hSw.1; have hg2 := src_take hSw.2 k (by have := HKL.out; omega); rw [HK.out] at hg2; go_simp
    first | done | with_reducible rfl
  refine wpAnyH_take (i := 25) (v := ?_) rfl (by as_aux_lemma => kernel_rfl) (by as_aux_lemma => kernel_rfl) (by as_aux_lemma => kernel_rfl) (fun _ _ _ h => h) (Or.inl ⟨by kernel_rfl, ?_⟩) hS ?_
  rotate_left
  · intro w hSw; have hg1 := src_string hSw.1; have hg2 := src_take hSw.2 k (by have := HKL.out; omega); rw [HK.out] at hg2; go_simp
    first | done | with_reducible rfl
  refine wpAnyH_take (i := 26) (v := ?_) rfl (by as_aux_lemma => kernel_rfl) (by as_aux_lemma => kernel_rfl) (by as_aux_lemma => kernel_rfl) (fun _ _ _ h => h) (Or.inl ⟨by kernel_rfl, ?_⟩) hS ?_
  rotate_left
  · intro w hSw; have hg1 := src_string hSw.1; have hg2 := src_take hSw.2 k (by have := HKL.out; omega); rw [HK.out] at hg2; go_simp
    first | done | with_reducible rfl
  refine wpAnyH_take (i := 27) (v := ?_) rfl (by as_aux_lemma => kernel_rfl) (by as_aux_lemma => kernel_rfl) (by as_aux_lemma => kernel_rfl) (fun _ _ _ h => h) (Or.inl ⟨by kernel_rfl, ?_⟩) hS ?_
  rotate_left
  · intro w hSw; have hg1 := src_string hSw.1; have hg2 := src_take hSw.2 k (by have := HKL.out; omega); rw [HK.out] at hg2; go_simp
    first | done | with_reducible rfl
  refine wpAnyH_ready (rs := [28]) (by as_aux_lemma => kernel_rfl) (by simp) ?_
  refine AllReadyH.cons rfl (fun K hK => ?_) AllReadyH.nil
  go_simp
  go_wp2_with (go_at_call 18; refine (Err_blk rb1 _ _ _ _ _ hbk7).mono ?_; rintro e w9 ⟨rfl, rfl⟩)
  refine hK.out _ _ ?_ (fun hS => ?_)
  · exact hS
  clear hK K
  refine wpAnyH_take (i := 29) (v := ?_) rfl (by as_aux_lemma => kernel_rfl) (by as_aux_lemma => kernel_rfl) (by as_aux_lemma => kernel_rfl) (fun _ _ _ h => h) (Or.inl ⟨by kernel_rfl, ?_⟩) hS ?_
  rotate_left
  · intro w hSw; have hg1 := src_string hSw.1; have hg2 := src_take hSw.2 k (by have := HKL.out; omega); rw [HK.out] at hg2; go_simp
    first | done | with_reducible rfl
  refine wpAnyH_take (i := 30) (v := ?_) rfl (by as_aux_lemma => kernel_rfl) (by as_aux_lemma => kernel_rfl) (by as_aux_lemma => kernel_rfl) (fun _ _ _ h => h) (Or.inl ⟨by kernel_rfl, ?_⟩) hS ?_
  rotate_left
  · intro w hSw; have hg1 := src_string hSw.1; have hg2 := src_take hSw.2 k (by have := HKL.out; omega); rw [HK.out] at hg2; go_simp
    first | done | with_reducible rfl
  refine wpAnyH_take (i := 31) (v := undef) rfl (by as_aux_lemma => kernel_rfl) (by as_aux_lemma => kernel_rfl) (by as_aux_lemma => kernel_rfl) (fun _ _ _ h => h) (Or.inr ⟨by kernel_rfl, rfl⟩) hS ?_
  refine wpAnyH_take (i := 32) (v := undef) rfl (by as_aux_lemma => kernel_rfl) (by as_aux_lemma => kernel_rfl) (by as_aux_lemma => kernel_rfl) (fun _ _ _ h => h) (Or.inr ⟨by kernel_rfl, rfl⟩) hS ?_
  refine wpAnyH_take (i := 33) (v := undef) rfl (by as_aux_lemma => kernel_rfl) (by as_aux_lemma => kernel_rfl) (by as_aux_lemma => kernel_rfl) (fun _ _ _ h => h) (Or.inr ⟨by kernel_rfl, rfl⟩) hS ?_
  refine wpAnyH_take (i := 34) (v := ?_) rfl (by as_aux_lemma => kernel_rfl) (by as_aux_lemma => kernel_rfl) (by as_aux_lemma => kernel_rfl) (fun _ _ _ h => h) (Or.inl ⟨by kernel_rfl, ?_⟩) hS ?_
  rotate_left
  · intro w hSw; have hg1 := src_string hSw.1; have hg2 := src_take hSw.2 k (by have := HKL.out; omega); rw [HK.out] at hg2; go_simp
    first | done | with_reducible rfl
  refine wpAnyH_take (i := 35) (v := ?_) rfl (by as_aux_lemma => kernel_rfl) (by as_aux_lemma => kernel_rfl) (by as_aux_lemma => kernel_rfl) (fun _ _ _ h => h) (Or.inl ⟨by kernel_rfl, ?_⟩) hS ?_
  rotate_left
  · intro w hSw; have hg1 := src_string hSw.1; have hg2 := src_take hSw.2 k (by have := HKL.out; omega); rw [HK.out] at hg2; go_simp
    first | done | with_reducible rfl
  refine wpAnyH_take (i := 36) (v := ?_) rfl (by as_aux_lemma => kernel_rfl) (by as_aux_lemma => kernel_rfl) (by as_aux_lemma => kernel_rfl) (fun _ _ _ h => h) (Or.inl ⟨by kernel_rfl, ?_⟩) hS ?_
  rotate_left
  · intro w hSw; have hg1 := src_string hSw.1; have hg2 := src_take hSw.2 k (by have := HKL.out; omega); rw [HK.out] at hg2; go_simp
    first | done | with_reducible rfl
  refine wpAnyH_ready (rs := [37]) (by as_aux_lemma => kernel_rfl) (by simp) ?_
  refine AllReadyH.cons rfl (fun K hK => ?_) AllReadyH.nil
  go_simp
  go_wp2_with (go_at_call 15; refine (awake_any w.heap.size _ hs7 (hv.on hn7)).mono ?_; rintro e w8 ⟨rfl, hb8⟩)
  refine hK.out _ _ ?_ (fun hS => ?_)
  · exact ⟨hS.1.below hb8 (Nat.le_refl _), hS.2.below hb8 (Nat.le_refl _)⟩
  clear hK K
  refine wpAnyH_take (i := 38) (v := ?_) rfl (by as_aux_lemma => kernel_rfl) (by as_aux_lemma => kernel_rfl) (by as_aux_lemma => kernel_rfl) (fun _ _ _ h => h) (Or.inl ⟨by kernel_rfl, ?_⟩) hS ?_
  rotate_left
  · intro w hSw; have hg1 := src_string hSw.1; have hg2 := src_take hSw.2 k (by have := HKL.out; omega); rw [HK.out] at hg2; go_simp
    first | done | with_reducible rfl
  refine wpAnyH_take (i := 39) (v := ?_) rfl (by as_aux_lemma => kernel_rfl) (by as_aux_lemma => kernel_rfl) (by as_aux_lemma => kernel_rfl) (fun _ _ _ h => h) (Or.inl ⟨by kernel_rfl, ?_⟩) hS ?_
  rotate_left
  · intro w hSw; have hg1 := src_string hSw.1; have hg2 := src_take hSw.2 k (by have := HKL.out; omega); rw [HK.out] at hg2; go_simp
    first | done | with_reducible rfl
  refine wpAnyH_done (by kernel_rfl) ?_ _
  go_wp2
  go_ret
  exact ⟨rfl, hn7.trans (hb8.mono hs7)⟩

theorem only_walk (a : Option Addr) (c : Nat) (l : List UInt8) (w : World) (hsrc : SrcAt w (.slice a l.length c) l) (hc : l.length ≤ c) (hlb : l.length ≤ 140737488351232) (hv : VarsOk w.heap.size w) :
    Calls Tryd.prog 6 #[.slice a l.length c] w fun e w' => e = .returned (.bool true) ∧ Below w.heap.size w w' := by
  obtain ⟨r1, e1, n, hI⟩ : ∃ r1 e1 n, rdInt l = (r1, e1, n) := ⟨_, _, _, rfl⟩
  obtain ⟨r2, e2, s2, hT⟩ : ∃ r2 e2 s2, rdText l.length l = (r2, e2, s2) := ⟨_, _, _, rfl⟩
  by_cases h1 : e1 = 0
  · by_cases h2 : e2 = 0
    · subst h1; subst h2; exact (not_both hI hT).elim
    · exact only_int a c l r1 r2 s2 n e1 e2 w hsrc hc hlb hv hI hT h1 (by simpa using h2)
  · by_cases h2 : e2 = 0
    · exact only_text a c l r1 r2 s2 n e1 e2 w hsrc hc hlb hv hI hT (by simpa using h1) h2
    · exact only_none a c l r1 r2 s2 n e1 e2 w hsrc hc hlb hv hI hT (by simpa using h1) (by simpa using h2)

end Go.Proofs.YtbpniegiaadbeaaDoor
