/-
  The closed case of the statements on members.
-/
import Derived.Test.YtnoconampcemoaaB9
namespace Go.Proofs.Ytnoconampcemoaa
open Go Go.RowKit

set_option maxRecDepth 20000 in
theorem run_eqM (x y : Mem) (w : World) : (binOp .eql 43 (.agg #[.int .u16 x.n, .int .u8 x.s, .int .i64 x.i]) (.agg #[.int .u16 y.n, .int .u8 y.s, .int .i64 y.i])).run Try.prog w = .ok (.bool (eqMm x y)) w := by
  unfold eqMm
  cases h1 : x.n == y.n <;> cases h2 : x.s == y.s <;> go_simp <;> (by_cases hu : x.i = y.i <;> simp [hu])
/-- Hear, where its answer is known. -/
theorem bHear_is (b : Nat) (T T' : Tb) (m d : Mem) (r : Bool) (h0 : 0 ≤ m.n) (hT' : hearB T m = T') (hd : heardM T m = d) (hr : newsB T m = r) (w : World) (hT : TabBlk w b T) :
    Calls Try.prog 20 #[.pointer (some ⟨b, 0, none⟩), .agg #[.int .u16 m.n, .int .u8 m.s, .int .i64 m.i]] w fun e w' => e = .returned (.tuple #[.agg #[.int .u16 d.n, .int .u8 d.s, .int .i64 d.i], .bool r]) ∧ TabBlk w' b T' ∧ w.grownBy w' (some b) := by
  subst hT' hd hr
  exact bHear_any b T m h0 w hT
def aT1 : Tb := hearB (newB 1) ⟨2, 1, 0⟩
def aT3 : Tb := hearB aT1 ⟨1, 1, 0⟩
theorem aT1_ok : TbOk aT1 := hearB_ok (newB_ok (by decide)) (by decide) (by decide)
theorem aT3_ok : TbOk aT3 := hearB_ok aT1_ok (by decide) (by decide)
theorem aT3_there : thereB aT3 = [1, 2] := by decide
theorem aT3_pos : posB aT3 = 0 := by decide

end Go.Proofs.Ytnoconampcemoaa
