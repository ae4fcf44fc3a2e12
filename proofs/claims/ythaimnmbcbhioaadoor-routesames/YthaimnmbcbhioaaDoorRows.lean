/-
  NARROWER THAN 'FOR EVERY INPUT', by the rows' own cells (each row's printed sentence says how): RouteSames: laid · RouteMore: laid · InhibitBy: laid · InhibitMutes: laid · InhibitSelf: laid · InhibitMore: laid.
  DERIVED. THE GIVEN ROWS OF THIS SEAT. 6 by the template 'for every input the law returns true; each argument reads behind the call as it read before'; 0 by the template 'total and deterministic' (their statements: YthaimnmbcbhioaaDoorTotals.lean).
  GIVEN WITH THE SEED: the statements are not yours to turn. If you find one false, say at which input.
  Laid BY PROGRAM, IN A SANDBOX (cutbox-rows.mjs): the forced cells as the released guide's own fill.sh prints them over the translation 2e153a8ad1473748… (all of the seat's roots in one cut). By AI agents, Wed Nov 11 2026. No macro, syntax, notation, axiom, sorry.
-/
import Derived.Test.YthaimnmbcbhioaaDoorChecked
import GoSem.Claim
import GoSem.ClaimJoined
import GoSem.ClaimMapViews
import Derived.JoinedTies
import Derived.KernelRfl
namespace Go.Proofs.YthaimnmbcbhioaaDoor
/- THE CELL 'sum', in the pinned program and in every row, IS THE sha256 OF THE DUMP (.gsa) THAT YthaimnmbcbhioaaDoorProg.lean LOADS. Nothing in Lean hashes anything: it is a label: what it is worth is what the hold of that sum in a sandbox is worth. -/
noncomputable def Tryd.pinned : Pinned := { name := "ythaimnmbcbhioaadoor", sum := "2e153a8ad147374822005212f852fd36fcfa4b20e16967bfdc854c044431ae83", checked := Tryd.checked }
namespace Rows
def none {H : Type} : Left H := { results := [], args := [] }

/- WHAT THE LISTED PACKAGE-LEVEL VARIABLES READ AS WHEN THE CALL BEGINS. Each datum BY PROGRAM (the guide's laid-datum.mjs) off the statement by which the dump's own 'gosem.cut.vars' lays the variable. In a bare row this is a premise. The card (YthaimnmbcbhioaaDoorCards.lean) ties it to the program's text. -/
def laid_math_bits_deBruijn64tab {H : Type} : DataW H := .agg [.lit (.int .u8 0), .lit (.int .u8 1), .lit (.int .u8 56), .lit (.int .u8 2), .lit (.int .u8 57), .lit (.int .u8 49), .lit (.int .u8 28), .lit (.int .u8 3), .lit (.int .u8 61), .lit (.int .u8 58), .lit (.int .u8 42), .lit (.int .u8 50), .lit (.int .u8 38), .lit (.int .u8 29), .lit (.int .u8 17), .lit (.int .u8 4), .lit (.int .u8 62), .lit (.int .u8 47), .lit (.int .u8 59), .lit (.int .u8 36), .lit (.int .u8 45), .lit (.int .u8 43), .lit (.int .u8 51), .lit (.int .u8 22), .lit (.int .u8 53), .lit (.int .u8 39), .lit (.int .u8 33), .lit (.int .u8 30), .lit (.int .u8 24), .lit (.int .u8 18), .lit (.int .u8 12), .lit (.int .u8 5), .lit (.int .u8 63), .lit (.int .u8 55), .lit (.int .u8 48), .lit (.int .u8 27), .lit (.int .u8 60), .lit (.int .u8 41), .lit (.int .u8 37), .lit (.int .u8 16), .lit (.int .u8 46), .lit (.int .u8 35), .lit (.int .u8 44), .lit (.int .u8 21), .lit (.int .u8 52), .lit (.int .u8 32), .lit (.int .u8 23), .lit (.int .u8 11), .lit (.int .u8 54), .lit (.int .u8 26), .lit (.int .u8 40), .lit (.int .u8 15), .lit (.int .u8 34), .lit (.int .u8 20), .lit (.int .u8 31), .lit (.int .u8 10), .lit (.int .u8 25), .lit (.int .u8 14), .lit (.int .u8 19), .lit (.int .u8 9), .lit (.int .u8 13), .lit (.int .u8 8), .lit (.int .u8 7), .lit (.int .u8 6)]

/-- 'watchfirelaw05.RouteSames': WHATEVER THE INPUT: true; the input reads as it did. -/
def routeSamesSpec : ChangeSpec := { name := "routeSames", fn := fun _ => fun
  | [d1, d2] => { results := [.lit (.bool true)], args := [d1, d2] }
  | _ => none }
def routeSamesRow : OpenClaim := { program := "ythaimnmbcbhioaadoor", sum := "2e153a8ad147374822005212f852fd36fcfa4b20e16967bfdc854c044431ae83", func := "watchfire/watchfirelaw05.RouteSames", spec := "routeSames", inPlace := ["internal/bytealg.IndexByteString"], unfollowed := true, recurses := true, named := ["math/bits.deBruijn64tab"], apart := false, laid := [("math/bits.deBruijn64tab", laid_math_bits_deBruijn64tab)] }
def RouteSamesSaid : Prop := routeSamesRow.holds Tryd.pinned (OpenSpec.ofChange routeSamesSpec)

/-- ITS FALSE NEIGHBOUR: 'it returns false'. Refute it at one input. -/
def routeSamesWrong : ChangeSpec := { name := "routeSames", fn := fun _ => fun
  | [d1, d2] => { results := [.lit (.bool false)], args := [d1, d2] }
  | _ => none }
def RouteSamesWrongFalsely : Prop := routeSamesRow.holds Tryd.pinned (OpenSpec.ofChange routeSamesWrong)

/-- 'watchfirelaw05.RouteMore': WHATEVER THE INPUT: true; the input reads as it did. -/
def routeMoreSpec : ChangeSpec := { name := "routeMore", fn := fun _ => fun
  | [d1, d2, d3] => { results := [.lit (.bool true)], args := [d1, d2, d3] }
  | _ => none }
def routeMoreRow : OpenClaim := { program := "ythaimnmbcbhioaadoor", sum := "2e153a8ad147374822005212f852fd36fcfa4b20e16967bfdc854c044431ae83", func := "watchfire/watchfirelaw05.RouteMore", spec := "routeMore", inPlace := ["internal/bytealg.IndexByteString"], unfollowed := true, recurses := true, named := ["math/bits.deBruijn64tab"], apart := false, laid := [("math/bits.deBruijn64tab", laid_math_bits_deBruijn64tab)] }
def RouteMoreSaid : Prop := routeMoreRow.holds Tryd.pinned (OpenSpec.ofChange routeMoreSpec)

/-- ITS FALSE NEIGHBOUR: 'it returns false'. Refute it at one input. -/
def routeMoreWrong : ChangeSpec := { name := "routeMore", fn := fun _ => fun
  | [d1, d2, d3] => { results := [.lit (.bool false)], args := [d1, d2, d3] }
  | _ => none }
def RouteMoreWrongFalsely : Prop := routeMoreRow.holds Tryd.pinned (OpenSpec.ofChange routeMoreWrong)

/-- 'watchfirelaw06.InhibitBy': WHATEVER THE INPUT: true; the input reads as it did. -/
def inhibitBySpec : ChangeSpec := { name := "inhibitBy", fn := fun _ => fun
  | [d1, d2, d3] => { results := [.lit (.bool true)], args := [d1, d2, d3] }
  | _ => none }
def inhibitByRow : OpenClaim := { program := "ythaimnmbcbhioaadoor", sum := "2e153a8ad147374822005212f852fd36fcfa4b20e16967bfdc854c044431ae83", func := "watchfire/watchfirelaw06.InhibitBy", spec := "inhibitBy", inPlace := ["internal/bytealg.IndexByteString"], unfollowed := true, recurses := true, named := ["math/bits.deBruijn64tab"], apart := false, laid := [("math/bits.deBruijn64tab", laid_math_bits_deBruijn64tab)] }
def InhibitBySaid : Prop := inhibitByRow.holds Tryd.pinned (OpenSpec.ofChange inhibitBySpec)

/-- ITS FALSE NEIGHBOUR: 'it returns false'. Refute it at one input. -/
def inhibitByWrong : ChangeSpec := { name := "inhibitBy", fn := fun _ => fun
  | [d1, d2, d3] => { results := [.lit (.bool false)], args := [d1, d2, d3] }
  | _ => none }
def InhibitByWrongFalsely : Prop := inhibitByRow.holds Tryd.pinned (OpenSpec.ofChange inhibitByWrong)

/-- 'watchfirelaw06.InhibitMutes': WHATEVER THE INPUT: true; the input reads as it did. -/
def inhibitMutesSpec : ChangeSpec := { name := "inhibitMutes", fn := fun _ => fun
  | [d1, d2, d3] => { results := [.lit (.bool true)], args := [d1, d2, d3] }
  | _ => none }
def inhibitMutesRow : OpenClaim := { program := "ythaimnmbcbhioaadoor", sum := "2e153a8ad147374822005212f852fd36fcfa4b20e16967bfdc854c044431ae83", func := "watchfire/watchfirelaw06.InhibitMutes", spec := "inhibitMutes", inPlace := ["internal/bytealg.IndexByteString"], unfollowed := true, recurses := true, named := ["math/bits.deBruijn64tab"], apart := false, laid := [("math/bits.deBruijn64tab", laid_math_bits_deBruijn64tab)] }
def InhibitMutesSaid : Prop := inhibitMutesRow.holds Tryd.pinned (OpenSpec.ofChange inhibitMutesSpec)

/-- ITS FALSE NEIGHBOUR: 'it returns false'. Refute it at one input. -/
def inhibitMutesWrong : ChangeSpec := { name := "inhibitMutes", fn := fun _ => fun
  | [d1, d2, d3] => { results := [.lit (.bool false)], args := [d1, d2, d3] }
  | _ => none }
def InhibitMutesWrongFalsely : Prop := inhibitMutesRow.holds Tryd.pinned (OpenSpec.ofChange inhibitMutesWrong)

/-- 'watchfirelaw06.InhibitSelf': WHATEVER THE INPUT: true; the input reads as it did. -/
def inhibitSelfSpec : ChangeSpec := { name := "inhibitSelf", fn := fun _ => fun
  | [d1, d2, d3] => { results := [.lit (.bool true)], args := [d1, d2, d3] }
  | _ => none }
def inhibitSelfRow : OpenClaim := { program := "ythaimnmbcbhioaadoor", sum := "2e153a8ad147374822005212f852fd36fcfa4b20e16967bfdc854c044431ae83", func := "watchfire/watchfirelaw06.InhibitSelf", spec := "inhibitSelf", inPlace := ["internal/bytealg.IndexByteString"], unfollowed := true, recurses := true, named := ["math/bits.deBruijn64tab"], apart := false, laid := [("math/bits.deBruijn64tab", laid_math_bits_deBruijn64tab)] }
def InhibitSelfSaid : Prop := inhibitSelfRow.holds Tryd.pinned (OpenSpec.ofChange inhibitSelfSpec)

/-- ITS FALSE NEIGHBOUR: 'it returns false'. Refute it at one input. -/
def inhibitSelfWrong : ChangeSpec := { name := "inhibitSelf", fn := fun _ => fun
  | [d1, d2, d3] => { results := [.lit (.bool false)], args := [d1, d2, d3] }
  | _ => none }
def InhibitSelfWrongFalsely : Prop := inhibitSelfRow.holds Tryd.pinned (OpenSpec.ofChange inhibitSelfWrong)

/-- 'watchfirelaw06.InhibitMore': WHATEVER THE INPUT: true; the input reads as it did. -/
def inhibitMoreSpec : ChangeSpec := { name := "inhibitMore", fn := fun _ => fun
  | [d1, d2, d3] => { results := [.lit (.bool true)], args := [d1, d2, d3] }
  | _ => none }
def inhibitMoreRow : OpenClaim := { program := "ythaimnmbcbhioaadoor", sum := "2e153a8ad147374822005212f852fd36fcfa4b20e16967bfdc854c044431ae83", func := "watchfire/watchfirelaw06.InhibitMore", spec := "inhibitMore", inPlace := ["internal/bytealg.IndexByteString"], unfollowed := true, recurses := true, named := ["math/bits.deBruijn64tab"], apart := false, laid := [("math/bits.deBruijn64tab", laid_math_bits_deBruijn64tab)] }
def InhibitMoreSaid : Prop := inhibitMoreRow.holds Tryd.pinned (OpenSpec.ofChange inhibitMoreSpec)

/-- ITS FALSE NEIGHBOUR: 'it returns false'. Refute it at one input. -/
def inhibitMoreWrong : ChangeSpec := { name := "inhibitMore", fn := fun _ => fun
  | [d1, d2, d3] => { results := [.lit (.bool false)], args := [d1, d2, d3] }
  | _ => none }
def InhibitMoreWrongFalsely : Prop := inhibitMoreRow.holds Tryd.pinned (OpenSpec.ofChange inhibitMoreWrong)

/- THE SECOND FORM. 'bulk': how many values and letters a reading holds, each counted each time it is reached (what is shared counts as often as it is met; a slice's spare places count too). A statement '..UptoSaid' is the law's where the arguments, and the package variables that the reading takes, are together of bulk at most 1048576: NARROWER than '..Said'. Prove '..Said' where nothing that the law and all that it calls make is longer than what came in: it says more and counts as full. Else prove '..UptoSaid'. A law counts once. -/
mutual
def uptoBulk {H : Type} : DataW H → Nat
  | .lit (.string bytes) => bytes.length + 1
  | .lit _ => 1
  | .nil => 1
  | .ptr d => uptoBulk d + 1
  | .slice elems spare => uptoBulkAll elems + uptoBulkAll spare + 1
  | .agg parts => uptoBulkAll parts + 1
  | .iface _ d => uptoBulk d + 1
  | .map entries => uptoBulkEntries entries + 1
  | .held _ => 1
def uptoBulkAll {H : Type} : List (DataW H) → Nat
  | [] => 0
  | d :: r => uptoBulk d + uptoBulkAll r
def uptoBulkEntries {H : Type} : List (Lit × DataW H) → Nat
  | [] => 0
  | x :: r => uptoBulkEntry x + uptoBulkEntries r
def uptoBulkEntry {H : Type} : Lit × DataW H → Nat
  | (.string bytes, d) => bytes.length + uptoBulk d + 1
  | (_, d) => uptoBulk d + 1
 end
def uptoSmall : (H : Type) → List (DataW H) → Bool := fun _ ds => decide (uptoBulkAll ds ≤ 1048576)
def OpenSpec.upto (s : _root_.Go.ChangeSpec) : _root_.Go.OpenSpec := { _root_.Go.OpenSpec.ofChange s with cond := some uptoSmall }

/-- 'watchfirelaw05.RouteSames', WHERE WHAT IT READS IS OF BULK AT MOST 1048576: true; the input reads as it did. -/
def routeSamesUptoRow : OpenClaim := { program := "ythaimnmbcbhioaadoor", sum := "2e153a8ad147374822005212f852fd36fcfa4b20e16967bfdc854c044431ae83", func := "watchfire/watchfirelaw05.RouteSames", spec := "routeSames", inPlace := ["internal/bytealg.IndexByteString"], unfollowed := true, recurses := true, named := ["math/bits.deBruijn64tab"], apart := false, laid := [("math/bits.deBruijn64tab", laid_math_bits_deBruijn64tab)], narrowed := true }
def RouteSamesUptoSaid : Prop := routeSamesUptoRow.holds Tryd.pinned (OpenSpec.upto routeSamesSpec)

/-- 'watchfirelaw05.RouteMore', WHERE WHAT IT READS IS OF BULK AT MOST 1048576: true; the input reads as it did. -/
def routeMoreUptoRow : OpenClaim := { program := "ythaimnmbcbhioaadoor", sum := "2e153a8ad147374822005212f852fd36fcfa4b20e16967bfdc854c044431ae83", func := "watchfire/watchfirelaw05.RouteMore", spec := "routeMore", inPlace := ["internal/bytealg.IndexByteString"], unfollowed := true, recurses := true, named := ["math/bits.deBruijn64tab"], apart := false, laid := [("math/bits.deBruijn64tab", laid_math_bits_deBruijn64tab)], narrowed := true }
def RouteMoreUptoSaid : Prop := routeMoreUptoRow.holds Tryd.pinned (OpenSpec.upto routeMoreSpec)

/-- 'watchfirelaw06.InhibitBy', WHERE WHAT IT READS IS OF BULK AT MOST 1048576: true; the input reads as it did. -/
def inhibitByUptoRow : OpenClaim := { program := "ythaimnmbcbhioaadoor", sum := "2e153a8ad147374822005212f852fd36fcfa4b20e16967bfdc854c044431ae83", func := "watchfire/watchfirelaw06.InhibitBy", spec := "inhibitBy", inPlace := ["internal/bytealg.IndexByteString"], unfollowed := true, recurses := true, named := ["math/bits.deBruijn64tab"], apart := false, laid := [("math/bits.deBruijn64tab", laid_math_bits_deBruijn64tab)], narrowed := true }
def InhibitByUptoSaid : Prop := inhibitByUptoRow.holds Tryd.pinned (OpenSpec.upto inhibitBySpec)

/-- 'watchfirelaw06.InhibitMutes', WHERE WHAT IT READS IS OF BULK AT MOST 1048576: true; the input reads as it did. -/
def inhibitMutesUptoRow : OpenClaim := { program := "ythaimnmbcbhioaadoor", sum := "2e153a8ad147374822005212f852fd36fcfa4b20e16967bfdc854c044431ae83", func := "watchfire/watchfirelaw06.InhibitMutes", spec := "inhibitMutes", inPlace := ["internal/bytealg.IndexByteString"], unfollowed := true, recurses := true, named := ["math/bits.deBruijn64tab"], apart := false, laid := [("math/bits.deBruijn64tab", laid_math_bits_deBruijn64tab)], narrowed := true }
def InhibitMutesUptoSaid : Prop := inhibitMutesUptoRow.holds Tryd.pinned (OpenSpec.upto inhibitMutesSpec)

/-- 'watchfirelaw06.InhibitSelf', WHERE WHAT IT READS IS OF BULK AT MOST 1048576: true; the input reads as it did. -/
def inhibitSelfUptoRow : OpenClaim := { program := "ythaimnmbcbhioaadoor", sum := "2e153a8ad147374822005212f852fd36fcfa4b20e16967bfdc854c044431ae83", func := "watchfire/watchfirelaw06.InhibitSelf", spec := "inhibitSelf", inPlace := ["internal/bytealg.IndexByteString"], unfollowed := true, recurses := true, named := ["math/bits.deBruijn64tab"], apart := false, laid := [("math/bits.deBruijn64tab", laid_math_bits_deBruijn64tab)], narrowed := true }
def InhibitSelfUptoSaid : Prop := inhibitSelfUptoRow.holds Tryd.pinned (OpenSpec.upto inhibitSelfSpec)

/-- 'watchfirelaw06.InhibitMore', WHERE WHAT IT READS IS OF BULK AT MOST 1048576: true; the input reads as it did. -/
def inhibitMoreUptoRow : OpenClaim := { program := "ythaimnmbcbhioaadoor", sum := "2e153a8ad147374822005212f852fd36fcfa4b20e16967bfdc854c044431ae83", func := "watchfire/watchfirelaw06.InhibitMore", spec := "inhibitMore", inPlace := ["internal/bytealg.IndexByteString"], unfollowed := true, recurses := true, named := ["math/bits.deBruijn64tab"], apart := false, laid := [("math/bits.deBruijn64tab", laid_math_bits_deBruijn64tab)], narrowed := true }
def InhibitMoreUptoSaid : Prop := inhibitMoreUptoRow.holds Tryd.pinned (OpenSpec.upto inhibitMoreSpec)

end Rows
end Go.Proofs.YthaimnmbcbhioaaDoor
