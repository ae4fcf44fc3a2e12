/-
  The walk of RegexPlain.
-/
import Derived.Test.YtphffnlbcppckaaDoorXOr
namespace Go.Proofs.YtphffnlbcppckaaDoor
open Go.RowKit

theorem ba_of (l : List UInt8) : (ByteArray.mk l.toArray).data.toList = l := by simp
theorem ba_len (l : List UInt8) : (ByteArray.mk l.toArray).size = l.length := by rw [ba_size]; simp

set_option maxHeartbeats 2000000 in
theorem plain_walk (s t : ByteArray) (w : World) (hs : s.size ≤ 1048576) (hts : t.size ≤ 9223372036854775807) (htab : TabW w) : Calls Tryd.prog 6 #[.string s, .string t] w fun e w' => e = .returned (.bool true) ∧ Below w.heap.size w w' := by
  have htl := htab.lt
  by_cases h1 : 200 < t.size
  · have h1' : (200 : Int) < (t.size : Int) := by omega
    have HA := Lib.hid (awake_any w htab)
    go_enter Tryd.func6, Tryd.ntmps6
    go_wp2_with (go_at_call 9; refine HA.out.mono ?_; rintro e w1 ⟨rfl, hb1⟩)
    go_ret
    exact ⟨rfl, hb1⟩
  have h1' : ¬ (200 : Int) < (t.size : Int) := by omega
  have HQ := Lib.hid (quote_any s w hs)
  obtain ⟨C, hC1, hC2⟩ := parse_quote s.data.toList
  have hst : t.toList = t.data.toList := ByteArray.toList_eq t
  have hss : s.toList = s.data.toList := ByteArray.toList_eq s
  have hq1 := ba_of (quoteL s.data.toList)
  have hq2 := ba_len (quoteL s.data.toList)
  have hsz : s.size ≤ 9223372036854775807 := by omega
  by_cases h2 : 64 < (quoteL s.data.toList).length
  · have hE : errE (ByteArray.mk (quoteL s.data.toList).toArray).data.toList = 5 := by rw [hq1]; unfold errE; rw [if_pos h2]
    have H1 := Lib.hid (fun u (hu : TabW u) => like_err ⟨(quoteL s.data.toList).toArray⟩ s u hu (by rw [hE]; decide))
    have H2 := Lib.hid (fun u (hu : TabW u) => like_err ⟨(quoteL s.data.toList).toArray⟩ t u hu (by rw [hE]; decide))
    simp only [hE] at H1 H2
    rw [← hq2] at h2
    clear hq1 hq2 hC1 hC2 hE
    generalize ByteArray.mk (quoteL s.data.toList).toArray = q at *
    have h2' : (64 : Int) < (q.size : Int) := by omega
    go_enter Tryd.func6, Tryd.ntmps6
    go_wp2_with (go_at_call 15; refine HQ.out.mono ?_; rintro e w1 ⟨rfl, hb1⟩; refine Hid.out ?_)
    refine Lib.hid ?_
    have ht1 := htab.on hb1 htl
    go_wp2_with (go_at_call 12; refine (H1.out w1 ht1).mono ?_; rintro e w2 ⟨rfl, hb2⟩; refine Hid.out ?_)
    refine Lib.hid ?_
    have ht2 := ht1.on hb2 ht1.lt
    go_wp2_with (go_at_call 12; refine (H2.out w2 ht2).mono ?_; rintro e w3 ⟨rfl, hb3⟩; refine Hid.out ?_)
    refine Lib.hid ?_
    have ht3 := ht2.on hb3 ht2.lt
    have hbb := (hb1.trans (hb2.mono hb1.size)).trans (hb3.mono (Nat.le_trans hb1.size hb2.size))
    have HW := Lib.hid (awake_any w3 ht3)
    go_wp2_with (go_at_call 9; refine HW.out.mono ?_; rintro e w5 ⟨rfl, hb5⟩)
    go_ret
    exact ⟨rfl, hbb.trans (hb5.mono hbb.size)⟩
  · have H1 := Lib.hid (fun u (hu : TabW u) => like_good ⟨(quoteL s.data.toList).toArray⟩ s u (by omega) hu C (by rw [hq1]; exact hC1) hsz)
    have H2 := Lib.hid (fun u (hu : TabW u) => like_good ⟨(quoteL s.data.toList).toArray⟩ t u (by omega) hu C (by rw [hq1]; exact hC1) hts)
    have HC := Lib.hid (And.intro ((hC2 s.data.toList).2 rfl) (hC2 t.data.toList))
    have HL := Lib.hid (And.intro hst hss)
    rw [← hq2] at h2
    clear hq1 hq2 hC1 hC2 hst hss
    generalize ByteArray.mk (quoteL s.data.toList).toArray = q at *
    have h2' : ¬ (64 : Int) < (q.size : Int) := by omega
    go_enter Tryd.func6, Tryd.ntmps6
    go_wp2_with (go_at_call 15; refine HQ.out.mono ?_; rintro e w1 ⟨rfl, hb1⟩; refine Hid.out ?_)
    refine Lib.hid ?_
    have ht1 := htab.on hb1 htl
    go_wp2_with (go_at_call 12; refine (H1.out w1 ht1).mono ?_; rintro e w2 ⟨⟨a, rfl, ha⟩, hb2⟩; refine Hid.out ?_)
    refine Lib.hid ?_
    obtain rfl : a = true := ha.2 HC.out.1
    clear ha
    have ht2 := ht1.on hb2 ht1.lt
    go_wp2_with (go_at_call 12; refine (H2.out w2 ht2).mono ?_; rintro e w3 ⟨⟨b, rfl, hb⟩, hb3⟩; refine Hid.out ?_)
    refine Lib.hid ?_
    have ht3 := ht2.on hb3 ht2.lt
    have hbb := (hb1.trans (hb2.mono hb1.size)).trans (hb3.mono (Nat.le_trans hb1.size hb2.size))
    have HW := Lib.hid (awake_any w3 ht3)
    have hbe : b = (s.toList == t.toList) := by
      rw [Bool.eq_iff_iff, hb, HC.out.2, beq_iff_eq, HL.out.1, HL.out.2]
      exact eq_comm
    clear hb
    cases hz : (s.toList == t.toList) with
    | true =>
      rw [hz] at hbe
      subst hbe
      go_wp2_with (go_at_call 9; refine HW.out.mono ?_; rintro e w5 ⟨rfl, hb5⟩)
      go_ret
      exact ⟨rfl, hbb.trans (hb5.mono hbb.size)⟩
    | false =>
      rw [hz] at hbe
      subst hbe
      go_wp2_with (go_at_call 9; refine HW.out.mono ?_; rintro e w5 ⟨rfl, hb5⟩)
      go_ret
      exact ⟨rfl, hbb.trans (hb5.mono hbb.size)⟩

end Go.Proofs.YtphffnlbcppckaaDoor
