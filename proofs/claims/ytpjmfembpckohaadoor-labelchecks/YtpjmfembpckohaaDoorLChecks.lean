/-
  The walk of LabelChecks.
-/
import Derived.Test.YtpjmfembpckohaaDoorLRef1
import Derived.Test.YtpjmfembpckohaaDoorLAwake
namespace Go.Proofs.YtpjmfembpckohaaDoor
open Go.RowKit

theorem checkE_le (ps : List Pr) : 0 ≤ checkE ps ∧ checkE ps ≤ 6 := by
  have := partsE_le ps
  unfold checkE
  split
  · exact this
  · split <;> omega

set_option maxHeartbeats 1000000 in
set_option maxRecDepth 100000 in
theorem checks_walk (s : ByteArray) (a : Option Addr) (c : Nat) (ps : List Pr) (w : World) (hs : s.size ≤ 9223372036854775807) (h : PairsAt w a ps) (hp : ∀ p ∈ ps, p.1.size ≤ 9223372036854775807) (hv : TabOk w.heap.size w) :
    Calls Tryd.prog 3 #[.string s, .slice a ps.length c] w fun e w' => e = .returned (.bool true) ∧ Below w.heap.size w w' := by
  have HN := Lib.hid (Name_any s w)
  have HR := Lib.hid (refName_any s w hs)
  have hbe : ∀ (b : Bool) (w : World), (binOp .eql 4 (.bool b) (.bool b)).run Tryd.prog w = .ok (.bool true) w := fun b w => by
    cases b <;> kernel_rfl
  generalize decide (NameOk s) = B0 at HN HR
  have HC := Lib.hid (Check_any a c ps w h)
  have hci : ∀ w : World, (binOp .eql 3 (.int .i64 (checkE ps)) (.int .i64 (checkE ps))).run Tryd.prog w = .ok (.bool true) w := fun w => by simp [binOp, Op.intCmp]
  have HD := Lib.hid (fun w1 (hb : Below w.heap.size w w1) => refCheck_any a c ps w1 (h.below hb (Nat.le_refl _)) hp)
  generalize checkE ps = E at HC HD hci
  clear h hp
  go_enter Tryd.func3, Tryd.ntmps3
  go_wp2_with (first
    | (go_at_call 8; refine HN.out.mono ?_; rintro e w ⟨rfl, rfl⟩)
    | (go_at_call 9; refine HR.out.mono ?_; rintro e w ⟨rfl, rfl⟩)
    | (go_at_call 10; refine HC.out.mono ?_; rintro e w1 ⟨rfl, hb1⟩; have hs1 := hb1.size)
    | (go_at_call 11; refine (HD.out w1 hb1).mono ?_; rintro e w2 ⟨rfl, hb2⟩; have hn2 := hb1.trans (hb2.mono hs1); have hs2 := hn2.size)
    | (go_at_call 12; refine (awake_any w.heap.size w2 hs2 (hv.on hn2)).mono ?_; rintro e w3 ⟨rfl, hb3⟩))
  go_ret
  exact ⟨rfl, hn2.trans (hb3.mono hs2)⟩

end Go.Proofs.YtpjmfembpckohaaDoor
