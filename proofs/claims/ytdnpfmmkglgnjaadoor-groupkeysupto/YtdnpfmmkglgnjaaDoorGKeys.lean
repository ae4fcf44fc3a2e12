/-
  GroupKeys, walked: any labels of any route have the key that the document says.
-/
import Derived.Test.YtdnpfmmkglgnjaaDoorG6
import Derived.Test.YtdnpfmmkglgnjaaDoorGHKey
namespace Go.Proofs.YtdnpfmmkglgnjaaDoor
open Go.RowKit

theorem flatQ_le (n : Int) (h0 : -9223372036854775808 ≤ n) (h1 : n ≤ 9223372036854775807) (ps : List Pr) : (partsQ n ps).flatten.length ≤ (partsK ps).flatten.length + 22 := by
  have := putInt_le n h0 h1
  unfold partsQ
  rw [List.flatten_cons, List.length_append]
  omega

set_option maxHeartbeats 4000000 in
set_option maxRecDepth 100000 in
theorem keys_walk (n0 : Int) (hn0 : -9223372036854775808 ≤ n0) (hn1 : n0 ≤ 9223372036854775807) (a : Option Addr) (c : Nat) (ps : List Pr) (w : World) (hv : VarsOk w.heap.size w) (h : PairsAt w a ps) (hl : ps.length ≤ 1048576) (hsz : ∀ p ∈ ps, p.1.size ≤ 1048576 ∧ p.2.size ≤ 1048576) (hf : (partsK ps).flatten.length ≤ 140737488354000) :
    Calls Tryd.prog 3 #[.int .i64 n0, .slice a ps.length c] w fun e w' => e = .returned (.bool true) ∧ Below w.heap.size w w' := by
  have hfq := flatQ_le n0 hn0 hn1 ps
  by_cases h40 : 40 < ps.length
  · have h40z : (40 : Int) < (ps.length : Int) := by omega
    have HA := Lib.hid (gawake_any w.heap.size w (Nat.le_refl _) hv)
    clear h hsz
    go_enter Tryd.func3, Tryd.ntmps3
    go_wp2_with (go_at_call 9; refine HA.out.mono ?_; rintro e w2 ⟨rfl, hb2⟩; refine Hid.out ?_)
    refine Lib.hid ?_
    have HB := Lib.hid hb2
    clear hb2
    go_wp2
    go_ret
    exact ⟨rfl, HB.out⟩
  · have h40z : ¬ (40 : Int) < (ps.length : Int) := by omega
    have HK1 := Lib.hid (gKey_any n0 hn0 hn1 a c ps w.heap.size w h hl hsz (by omega) (Nat.le_refl _) hv _ rfl)
    have HK2 := Lib.hid (fun W (hb : Below w.heap.size w W) => hKey_any n0 hn0 hn1 a c ps W (h.below hb (Nat.le_refl _)) hl hsz (by omega) _ rfl)
    have HA := Lib.hid (fun W (hb : Below w.heap.size w W) => gawake_any w.heap.size W hb.size (hv.on hb))
    clear h hsz
    generalize (⟨(gKeyL n0 ps).toArray⟩ : ByteArray) = sk at *
    go_enter Tryd.func3, Tryd.ntmps3
    go_wp2_with (go_at_call 7; refine HK1.out.mono ?_; rintro e w2 ⟨rfl, hb2⟩; refine Hid.out ?_)
    refine Lib.hid ?_
    have HK3 := Lib.hid (HK2.out _ hb2)
    clear HK1 HK2
    go_wp2_with (go_at_call 8; refine HK3.out.mono ?_; rintro e w3 ⟨rfl, hb3⟩; refine Hid.out ?_)
    refine Lib.hid ?_
    have hb4 := hb2.trans (hb3.mono hb2.size)
    have HA4 := Lib.hid (HA.out _ hb4)
    have HB4 := Lib.hid hb4
    clear HK3 HA hb2 hb3 hb4
    go_wp2_with (go_at_call 9; refine HA4.out.mono ?_; rintro e w5 ⟨rfl, hb5⟩; refine Hid.out ?_)
    refine Lib.hid ?_
    have HB5 := Lib.hid (HB4.out.trans (hb5.mono HB4.out.size))
    clear hb5 HA4 HB4
    go_wp2
    go_ret
    exact ⟨rfl, HB5.out⟩

end Go.Proofs.YtdnpfmmkglgnjaaDoor
