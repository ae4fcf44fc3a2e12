/-
  BenCuts, walked: it answers true for every number, every short text and every place to cut, and turns nothing that was there.
-/
import Derived.Test.YtbpniegiaadbeabDoorCutsPlain
import Derived.Test.YtbpniegiaadbeabDoorAwake
import Derived.Deep.RegionWith
import Derived.Deep.DrawnRows
namespace Go.Proofs.YtbpniegiaadbeabDoor
open Go.RowKit
attribute [local go_sem ↓] Go.wp_at_zero Go.wp_at_succ

theorem SrcAt.cut {w : World} {a : Option Addr} {n c : Nat} {l : List UInt8} (h : SrcAt w (.slice a n c) l) (i : Nat) (hi : i ≤ l.length) : SrcAt w (.slice a i c) (l.take i) := by
  rcases h with ⟨e, rfl⟩ | ⟨q, c', e, hc⟩
  · simp only [Value.slice.injEq] at e
    obtain ⟨rfl, rfl, rfl⟩ := e
    obtain rfl : i = 0 := by simpa using hi
    exact .inl ⟨rfl, rfl⟩
  · simp only [Value.slice.injEq] at e
    obtain ⟨rfl, rfl, rfl⟩ := e
    refine .inr ⟨q, c, by rw [List.length_take, Nat.min_eq_left hi], fun j hj => ?_⟩
    rw [List.length_take] at hj
    rw [List.getElem_take]
    exact hc j (by omega)

theorem Own.lens {w : World} {B : Nat} {a : Option Addr} {k c : Nat} {l : List UInt8} (h : Own w B (.slice a k c) l) : k = l.length ∧ k ≤ c := by
  rcases h.2 with ⟨e, h0⟩ | ⟨g, cap, cur, e, -, -, hn, -, -, -⟩
  · simp only [Value.slice.injEq] at e
    obtain ⟨rfl, rfl, rfl⟩ := e
    exact ⟨h0.symm, Nat.le_refl _⟩
  · simp only [Value.slice.injEq] at e
    obtain ⟨rfl, rfl, rfl⟩ := e
    exact ⟨rfl, hn⟩

set_option maxHeartbeats 2000000 in
set_option maxRecDepth 100000 in
theorem cuts_walk (n : Int) (s : ByteArray) (u : Int) (w : World) (hn0 : -9223372036854775808 ≤ n) (hn1 : n ≤ 9223372036854775807) (hs : s.size ≤ 1048576) (hu0 : 0 ≤ u) (hu1 : u ≤ 65535) (hv : VarsOk w.heap.size w) :
    Calls Tryd.prog 3 #[.int .i64 n, .string s, .int .u16 u] w fun e w' => e = .returned (.bool true) ∧ Below w.heap.size w w' := by
  go_enter Tryd.func3, Tryd.ntmps3
  go_wp2_with (go_at_call 4; refine (Int_val n hn0 hn1 w.heap.size _ (Nat.le_refl _) hv).mono ?_; rintro e w1 ⟨a1, k1, c1, rfl, ho1, hb1⟩; refine Hid.out ?_)
  refine Lib.hid ?_
  have hs1 := hb1.size
  have hv1 := hv.on hb1
  go_wp2_with (go_at_call 5; refine (Text_val s (by omega) w.heap.size _ hs1 hv1).mono ?_; rintro e w2 ⟨a2, k2, c2, rfl, ho2, hb2⟩; refine Hid.out ?_)
  refine Lib.hid ?_
  have hs2 := hb2.size
  have hn2 := hb1.trans (hb2.mono hs1)
  have hv2 := hv.on hn2
  obtain ⟨hk1, hkc1⟩ := ho1.lens
  obtain ⟨hk2, hkc2⟩ := ho2.lens
  have hp1 : 0 < k1 := by rw [hk1]; simp [putInt]
  have hp2 : 0 < k2 := by rw [hk2]; simp only [putText, List.length_append, List.length_cons]; omega
  have hm2 : k2 ≤ 2000000 := by
    rw [hk2]
    have h3 : s.data.toList.length = s.size := rfl
    have := itoa_len10 s.data.toList (by omega)
    simp only [putText, List.length_append, List.length_cons]; omega
  have hm1 : k1 ≤ 30 := by rw [hk1]; have := itoa_len20 n hn0 hn1; simp [putInt]; omega
  have hsr1 := ho1.src.below hb2 (Nat.le_refl _)
  have hsr2 := ho2.src
  have HK1 := Lib.hid hk1
  have HK2 := Lib.hid hk2
  clear hk1 hk2 ho1 ho2 hb1 hb2 hv1
  have hz1 : ((k1 : Int) == 0) = false := by rw [beq_eq_false_iff_ne]; omega
  have hz2 : ((k2 : Int) == 0) = false := by rw [beq_eq_false_iff_ne]; omega
  obtain ⟨i, hi⟩ : ∃ i : Nat, u % (k1 : Int) = i := ⟨(u % (k1 : Int)).toNat, by have := Int.emod_nonneg u (show (k1 : Int) ≠ 0 by omega); omega⟩
  obtain ⟨j, hj⟩ : ∃ j : Nat, u % (k2 : Int) = j := ⟨(u % (k2 : Int)).toNat, by have := Int.emod_nonneg u (show (k2 : Int) ≠ 0 by omega); omega⟩
  have hik : i < k1 := by have := Int.emod_lt_of_pos u (show (0 : Int) < k1 by omega); omega
  have hjk : j < k2 := by have := Int.emod_lt_of_pos u (show (0 : Int) < k2 by omega); omega
  have hl1 : ∀ W, (Instr.slice 23 (.slice a1 k1 c1) none (some (.int .i64 (i : Int))) none).run Tryd.prog W = .ok (.slice a1 i c1) W := fun W => slice_to a1 k1 c1 i W (by omega)
  have hl2 : ∀ W, (Instr.slice 23 (.slice a2 k2 c2) none (some (.int .i64 (j : Int))) none).run Tryd.prog W = .ok (.slice a2 j c2) W := fun W => slice_to a2 k2 c2 j W (by omega)
  have hc1 := hsr1.cut i (by rw [← HK1.out]; omega)
  have hc2 := hsr2.cut j (by rw [← HK2.out]; omega)
  have hx1 : ((putInt n).take i).length ≤ 140737488355328 := by rw [List.length_take]; omega
  have hx2 : ((putText s.data.toList).take j).length ≤ 140737488355328 := by rw [List.length_take]; omega
  have HX1 := Lib.hid hx1
  have HX2 := Lib.hid hx2
  have HC1 := Lib.hid hc1
  have HC2 := Lib.hid hc2
  clear hx1 hx2 hc1 hc2 hsr1 hsr2
  go_wp2
  go_region_with (first
    | (go_at_call_of 6 a1; refine (New_any _ _ w2.drew (HC1.out.below (Below.refl w2.heap.size w2).drew (Nat.le_refl _)) HX1.out).mono ?_; rintro e w3 ⟨rb1, a3, c3, rfl, hrd1, hrb1, hal1, hb3⟩)
    | (go_at_call_of 6 a2; refine (New_any _ _ w3 ((HC2.out.below (Below.refl w2.heap.size w2).drew (Nat.le_refl _)).below hb3 (Nat.le_refl _)) HX2.out).mono ?_; rintro e w4 ⟨rb2, a4, c4, rfl, hrd2, hrb2, hal2, hb4⟩))
  all_goals
    have hs3 := hb3.size
    have hs4 := hb4.size
    have hrbl := hrd1.blk.lt
    have hw2d : w2.drew.heap.size = w2.heap.size := rfl
    have hsw := hn2.size
    rw [hw2d] at hs3 hrb1 hb3
    have hn4 : Below w.heap.size w w4 := (hn2.drew.trans (hb3.mono hsw)).trans (hb4.mono (by omega))
    have hs5 := hn4.size
    have hrd1' := hrd1.below hb4
    have hr1 : w.heap.size ≤ rb1 := by omega
    have hr2 : w.heap.size ≤ rb2 := by omega
    have hi' : i < (putInt n).length := by rw [← HK1.out]; exact hik
    have hj' : j < (putText s.data.toList).length := by rw [← HK2.out]; exact hjk
    have HR1 := Lib.hid (cut_int n hn0 hn1 i hi')
    have HR2 := Lib.hid (cut_text s.data.toList (by show s.size ≤ _; omega) j hj')
    have hal2' : ∀ p, a4 = some p → p.block ≠ rb1 := fun p hp => by have := hal2 p hp; omega
    have hrbne : rb2 ≠ rb1 := by omega
    have hv4 := hv.on hn4
    clear hi' hj' hi hj hl1 hl2 hb3 hb4 hal1 hal2 hrd1 HC1 HC2 HX1 HX2 hrb1 hrb2
    go_wp2_with (go_at_call 7; refine (rInt_any rb1 a3 c3 _ w.heap.size w4 hrd1' hr1 hv4).mono ?_; rintro e w5 ⟨rfl, ⟨a5, c5, hrd5⟩, hg5⟩; refine Hid.out ?_)
    refine Lib.hid ?_
    rw [HR1.out] at hrd5
    rw [HR1.out]
    have hn5 := hn4.trans (below_of_grownBy hg5 hr1 hs5)
    have hs6 := hn5.size
    have hrd2' := hrd2.mono hg5 (by simpa using hrbne) (fun p hp => by simpa using hal2' p hp)
    clear hg5 hrd1' hrd2
    go_wp2_with (go_at_call 8; refine (Err_any rb1 a5 c5 _ _ _ hrd5).mono ?_; rintro e w6 ⟨rfl, rfl⟩; refine Hid.out ?_)
    refine Lib.hid ?_
    go_wp2_with (go_at_call 9; refine (rText_any rb2 a4 c4 _ _ w.heap.size _ hrd2' hr2 (hv.on hn5)).mono ?_; rintro e w7 ⟨rfl, ⟨a7, c7, hrd7⟩, hg7⟩; refine Hid.out ?_)
    refine Lib.hid ?_
    have HR3 : rdText (s.size : Int) ((putText s.data.toList).take j) = ([], 3, []) := HR2.out
    rw [HR3] at hrd7
    rw [HR3]
    clear HR3
    have hn7 := hn5.trans (below_of_grownBy hg7 hr2 hs6)
    have hs7 := hn7.size
    go_wp2_with (first
      | (go_at_call 8; refine (Err_any rb2 a7 c7 _ _ _ hrd7).mono ?_; rintro e w8 ⟨rfl, rfl⟩)
      | (go_at_call 10; refine (awake_any w.heap.size _ hs7 (hv.on hn7)).mono ?_; rintro e w8 ⟨rfl, hb8⟩))
    go_ret
    exact ⟨rfl, hn7.trans (hb8.mono hs7)⟩

end Go.Proofs.YtbpniegiaadbeabDoor
