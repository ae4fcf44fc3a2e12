/-
  RegexChecks: just the texts that the document says are patterns.
-/
import Derived.Test.YtlcbkhmaemoahaaDoorXPr
import Derived.Test.YtlcbkhmaemoahaaDoorXAwake
namespace Go.Proofs.YtlcbkhmaemoahaaDoor
open Go.RowKit

theorem errE_vals (l : List UInt8) (h : errE l ≠ 0) : errE l = 5 ∨ errE l = 9 := by
  unfold errE at h ⊢
  split
  · exact .inl rfl
  · split
    · exact .inr rfl
    · rename_i h1 h2
      rw [if_neg h1, if_neg h2] at h
      exact absurd rfl h

set_option maxRecDepth 20000 in
set_option maxHeartbeats 2000000 in
theorem checks_walk (s : ByteArray) (w : World) (htab : TabW w) : Calls Tryd.prog 3 #[.string s] w fun e w' => e = .returned (.bool true) ∧ Below w.heap.size w w' := by
  have htl := htab.lt
  have kz := zero_tree
  have kn := treeC_size
  by_cases hl : 200 < s.size
  · have hl' : (200 : Int) < (s.size : Int) := by omega
    have HA := Lib.hid (awake_any w htab)
    go_enter Tryd.func3, Tryd.ntmps3
    go_wp2_with (go_at_call 9; refine HA.out.mono ?_; rintro e w1 ⟨rfl, hb1⟩)
    go_ret
    exact ⟨rfl, hb1⟩
  · have hl' : ¬ (200 : Int) < (s.size : Int) := by omega
    have HW := Lib.hid (fun u (hu : TabW u) => awake_any u hu)
    by_cases he : errE s.data.toList = 0
    · obtain ⟨h64, A, hA⟩ := errE_zero he
      have h64' : s.size ≤ 64 := by simpa using h64
      have HC := Lib.hid (comp_good s w h64' htab A hA)
      have HP := Lib.hid (fun u => eParse_ok s u h64' A hA)
      clear hA he h64 h64' hl
      go_enter Tryd.func3, Tryd.ntmps3
      go_wp2_with (go_at_call 10; refine HC.out.mono ?_; rintro e w1 ⟨xb, rfl, -, hb1⟩; refine Hid.out ?_)
      refine Lib.hid ?_
      go_wp2_with (go_at_call 11; refine (HP.out w1).mono ?_; rintro e w2 ⟨⟨t, rfl, -⟩, hb2⟩; refine Hid.out ?_)
      refine Lib.hid ?_
      have hb3 := (hb1.trans (hb2.mono hb1.size)).alloc (Nat.le_trans hb1.size hb2.size) (.cells (treeC t) 30)
      have ks0 := store_last w2 w2.heap.size rfl (noT 0) t
      have HW2 := Lib.hid (HW.out _ (htab.on hb3 htl))
      go_wp2_with (go_at_call 9; refine HW2.out.mono ?_; rintro e w4 ⟨rfl, hb4⟩)
      go_ret
      exact ⟨rfl, hb3.trans (hb4.mono hb3.size)⟩
    · have HC := Lib.hid (comp_err s w htab he)
      have HP : Hid (∀ u, PErr s u (errE s.data.toList)) := Lib.hid (fun u => eParse_err s u he)
      rcases errE_vals _ he with e5 | e5
      all_goals
        rw [e5] at HC HP
        clear he e5 hl
        unfold PErr at HP
        go_enter Tryd.func3, Tryd.ntmps3
        go_wp2_with (go_at_call 10; refine HC.out.mono ?_; rintro e w1 ⟨rfl, hb1⟩; refine Hid.out ?_)
        refine Lib.hid ?_
        go_wp2_with (go_at_call 11; refine (HP.out w1).mono ?_; rintro e w2 ⟨⟨t, rfl⟩, hb2⟩; refine Hid.out ?_)
        refine Lib.hid ?_
        have hb3 := (hb1.trans (hb2.mono hb1.size)).alloc (Nat.le_trans hb1.size hb2.size) (.cells (treeC t) 30)
        have ks0 := store_last w2 w2.heap.size rfl (noT 0) t
        have HW2 := Lib.hid (HW.out _ (htab.on hb3 htl))
        go_wp2_with (go_at_call 9; refine HW2.out.mono ?_; rintro e w4 ⟨rfl, hb4⟩)
        go_ret
        exact ⟨rfl, hb3.trans (hb4.mono hb3.size)⟩

end Go.Proofs.YtlcbkhmaemoahaaDoor
