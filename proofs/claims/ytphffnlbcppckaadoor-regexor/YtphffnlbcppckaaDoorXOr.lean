/-
  The walk of RegexOr.
-/
import Derived.Test.YtphffnlbcppckaaDoorXPure2
import Derived.Test.YtphffnlbcppckaaDoorXAwake
namespace Go.Proofs.YtphffnlbcppckaaDoor
open Go.RowKit

/-- What Like tells: the pattern's error, and, where there is none, whether the text is like it. -/
def LikeSays (s t : List UInt8) (e : Ending) : Prop := ∃ b : Bool, e = .returned (.tuple #[.bool b, .int .i64 (errE s)]) ∧ ∀ A, errE s = 0 → pParse s = some A → (b = true ↔ A t)
theorem like_any (s t : ByteArray) (w : World) (htab : TabW w) (hts : t.size ≤ 9223372036854775807) : Calls Tryd.prog 12 #[.string s, .string t] w fun e w' => LikeSays s.data.toList t.data.toList e ∧ Below w.heap.size w w' := by
  by_cases he : errE s.data.toList = 0
  · obtain ⟨hl, A, hA⟩ := errE_zero he
    refine (like_good s t w (by simpa using hl) htab A hA hts).mono fun e w' ⟨⟨b, h1, h2⟩, h3⟩ => ⟨⟨b, by rw [he]; exact h1, fun A' _ hA' => ?_⟩, h3⟩
    obtain rfl := Option.some.inj (hA.symm.trans hA')
    exact h2
  · exact (like_err s t w htab he).mono fun e w' ⟨h1, h2⟩ => ⟨⟨false, h1, fun A h0 => absurd h0 he⟩, h2⟩

theorem ba_size (a : Array UInt8) : (ByteArray.mk a).size = a.size := rfl
theorem app_list (a b : ByteArray) : (a ++ b).data.toList = a.data.toList ++ b.data.toList := by simp

set_option maxHeartbeats 2000000 in
theorem or_walk (p q t : ByteArray) (w : World) (hts : t.size ≤ 9223372036854775807) (htab : TabW w) : Calls Tryd.prog 7 #[.string p, .string q, .string t] w fun e w' => e = .returned (.bool true) ∧ Below w.heap.size w w' := by
  have htl := htab.lt
  have HA := Lib.hid (awake_any w htab)
  by_cases h1 : 60 < t.size
  · have h1' : (60 : Int) < (t.size : Int) := by omega
    go_enter Tryd.func7, Tryd.ntmps7
    go_wp2_with (go_at_call 9; refine HA.out.mono ?_; rintro e w1 ⟨rfl, hb1⟩)
    go_ret
    exact ⟨rfl, hb1⟩
  have h1' : ¬ (60 : Int) < (t.size : Int) := by omega
  by_cases h2 : 28 < p.size
  · have h2' : (28 : Int) < (p.size : Int) := by omega
    go_enter Tryd.func7, Tryd.ntmps7
    go_wp2_with (go_at_call 9; refine HA.out.mono ?_; rintro e w1 ⟨rfl, hb1⟩)
    go_ret
    exact ⟨rfl, hb1⟩
  have h2' : ¬ (28 : Int) < (p.size : Int) := by omega
  by_cases h3 : 28 < q.size
  · have h3' : (28 : Int) < (q.size : Int) := by omega
    go_enter Tryd.func7, Tryd.ntmps7
    go_wp2_with (go_at_call 9; refine HA.out.mono ?_; rintro e w1 ⟨rfl, hb1⟩)
    go_ret
    exact ⟨rfl, hb1⟩
  have h3' : ¬ (28 : Int) < (q.size : Int) := by omega
  clear HA
  by_cases hep : errE p.data.toList = 0
  · by_cases heq : errE q.data.toList = 0
    · obtain ⟨hl1, A, hpA⟩ := errE_zero hep
      obtain ⟨hl2, B, hqB⟩ := errE_zero heq
      obtain ⟨C, hC1, hC2⟩ := parse_bar hpA hqB
      obtain ⟨D, hD1, hD2⟩ := parse_bars hpA hqB
      have H1 := Lib.hid (like_good p t w (by omega) htab A hpA hts)
      have H2 := Lib.hid (fun u (hu : TabW u) => like_good q t u (by omega) hu B hqB hts)
      have H3 := Lib.hid (fun u (hu : TabW u) => like_good (p ++ ⟨#[124]⟩ ++ q) t u (by simp [ByteArray.size_append, ba_size]; omega) hu C (by rw [app_list, app_list, List.append_assoc]; exact hC1) hts)
      have H4 := Lib.hid (fun u (hu : TabW u) => like_good (⟨#[40]⟩ ++ p ++ ⟨#[41, 124, 40]⟩ ++ q ++ ⟨#[41]⟩) t u (by simp [ByteArray.size_append, ba_size]; omega) hu D (by simp only [app_list, List.append_assoc]; exact hD1) hts)
      have HC := Lib.hid (And.intro (hC2 t.data.toList) (hD2 t.data.toList))
      clear hep heq hpA hqB hC1 hC2 hD1 hD2 hl1 hl2
      go_enter Tryd.func7, Tryd.ntmps7
      go_wp2_with (go_at_call 12; refine H1.out.mono ?_; rintro e w1 ⟨⟨a, rfl, ha⟩, hb1⟩; refine Hid.out ?_)
      refine Lib.hid ?_
      have ht1 := htab.on hb1 htl
      have HA := Lib.hid ha
      clear ha
      go_wp2_with (go_at_call 12; refine (H2.out w1 ht1).mono ?_; rintro e w2 ⟨⟨b, rfl, hb⟩, hb2⟩; refine Hid.out ?_)
      refine Lib.hid ?_
      have HB := Lib.hid hb
      clear hb
      have ht2 := ht1.on hb2 ht1.lt
      go_wp2_with (go_at_call 12; refine (H3.out w2 ht2).mono ?_; rintro e w3 ⟨⟨c, rfl, hc⟩, hb3⟩; refine Hid.out ?_)
      refine Lib.hid ?_
      obtain rfl : c = (a || b) := by
        rw [Bool.eq_iff_iff, hc, HC.out.1, Bool.or_eq_true, HA.out, HB.out]
      clear hc
      have ht3 := ht2.on hb3 ht2.lt
      go_wp2_with (go_at_call 12; refine (H4.out w3 ht3).mono ?_; rintro e w4 ⟨⟨d, rfl, hd⟩, hb4⟩; refine Hid.out ?_)
      refine Lib.hid ?_
      obtain rfl : d = (a || b) := by
        rw [Bool.eq_iff_iff, hd, HC.out.2, Bool.or_eq_true, HA.out, HB.out]
      clear hd
      have ht4 := ht3.on hb4 ht3.lt
      have hbb := ((hb1.trans (hb2.mono hb1.size)).trans (hb3.mono (Nat.le_trans hb1.size hb2.size))).trans (hb4.mono (Nat.le_trans (Nat.le_trans hb1.size hb2.size) hb3.size))
      have HW := Lib.hid (awake_any w4 ht4)
      clear HA HB HC H1 H2 H3 H4
      cases a <;> cases b
      all_goals
        simp only [Bool.or_true, Bool.or_false, Bool.or_self]
        go_wp2_with (go_at_call 9; refine HW.out.mono ?_; rintro e w5 ⟨rfl, hb5⟩)
        go_ret
        exact ⟨rfl, hbb.trans (hb5.mono hbb.size)⟩
    · have H1 := Lib.hid (like_any p t w htab hts)
      have H2 := Lib.hid (fun u (hu : TabW u) => like_err q t u hu heq)
      have hz : ((errE q.data.toList : Int) != 0) = true := by simpa using heq
      unfold LikeSays at H1
      rw [hep] at H1
      clear hep
      generalize errE q.data.toList = E at *
      clear heq
      go_enter Tryd.func7, Tryd.ntmps7
      go_wp2_with (go_at_call 12; refine H1.out.mono ?_; rintro e w1 ⟨⟨a, rfl, -⟩, hb1⟩; refine Hid.out ?_)
      refine Lib.hid ?_
      have ht1 := htab.on hb1 htl
      go_wp2_with (go_at_call 12; refine (H2.out w1 ht1).mono ?_; rintro e w2 ⟨rfl, hb2⟩; refine Hid.out ?_)
      refine Lib.hid ?_
      have ht2 := ht1.on hb2 ht1.lt
      have hbb := hb1.trans (hb2.mono hb1.size)
      have HW := Lib.hid (awake_any w2 ht2)
      go_wp2_with (go_at_call 9; refine HW.out.mono ?_; rintro e w5 ⟨rfl, hb5⟩)
      go_ret
      exact ⟨rfl, hbb.trans (hb5.mono hbb.size)⟩
  · have H1 := Lib.hid (like_err p t w htab hep)
    have H2 := Lib.hid (fun u (hu : TabW u) => like_any q t u hu hts)
    have hz : ((errE p.data.toList : Int) != 0) = true := by simpa using hep
    generalize errE p.data.toList = E at *
    clear hep
    go_enter Tryd.func7, Tryd.ntmps7
    go_wp2_with (go_at_call 12; refine H1.out.mono ?_; rintro e w1 ⟨rfl, hb1⟩; refine Hid.out ?_)
    refine Lib.hid ?_
    have ht1 := htab.on hb1 htl
    go_wp2_with (go_at_call 12; refine (H2.out w1 ht1).mono ?_; rintro e w2 ⟨⟨b, rfl, -⟩, hb2⟩; refine Hid.out ?_)
    refine Lib.hid ?_
    have ht2 := ht1.on hb2 ht1.lt
    have hbb := hb1.trans (hb2.mono hb1.size)
    have HW := Lib.hid (awake_any w2 ht2)
    go_wp2_with (go_at_call 9; refine HW.out.mono ?_; rintro e w5 ⟨rfl, hb5⟩)
    go_ret
    exact ⟨rfl, hbb.trans (hb5.mono hbb.size)⟩

end Go.Proofs.YtphffnlbcppckaaDoor
