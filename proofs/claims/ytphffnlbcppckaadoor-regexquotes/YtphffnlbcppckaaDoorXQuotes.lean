/-
  The walk of RegexQuotes.
-/
import Derived.Test.YtphffnlbcppckaaDoorXRefQuote
namespace Go.Proofs.YtphffnlbcppckaaDoor
open Go.RowKit

set_option maxHeartbeats 1000000 in
theorem quotes_walk (s : ByteArray) (w : World) (htab : TabW w) : Calls Tryd.prog 5 #[.string s] w fun e w' => e = .returned (.bool true) ∧ Below w.heap.size w w' := by
  have htl := htab.lt
  by_cases hs : 5000 < s.size
  · have hs1 : (5000 : Int) < (s.size : Int) := by omega
    have HA := Lib.hid (awake_any w htab)
    go_enter Tryd.func5, Tryd.ntmps5
    go_wp2_with (go_at_call 9; refine HA.out.mono ?_; rintro e w1 ⟨rfl, hb1⟩)
    go_ret
    exact ⟨rfl, hb1⟩
  · have hs1 : ¬ (5000 : Int) < (s.size : Int) := by omega
    have H1 := Lib.hid (quote_any s w (by omega))
    have H2 := Lib.hid (fun u => refQuote_any s u (by omega))
    generalize quoteL s.data.toList = L at *
    go_enter Tryd.func5, Tryd.ntmps5
    go_wp2_with (go_at_call 15; refine H1.out.mono ?_; rintro e w1 ⟨rfl, hb1⟩; refine Hid.out ?_)
    refine Lib.hid ?_
    go_wp2_with (go_at_call 16; refine (H2.out w1).mono ?_; rintro e w2 ⟨rfl, hb2⟩; refine Hid.out ?_)
    refine Lib.hid ?_
    have hb12 := hb1.trans (hb2.mono hb1.size)
    have HA := Lib.hid (awake_any w2 (htab.on hb12 htl))
    go_wp2_with (go_at_call 9; refine HA.out.mono ?_; rintro e w3 ⟨rfl, hb3⟩)
    go_ret
    exact ⟨rfl, hb12.trans (hb3.mono hb12.size)⟩

end Go.Proofs.YtphffnlbcppckaaDoor
