/-
  What the row's list of package-level variables gives the walks, and a start that meets it; how much the arguments hold in the second form. Arguments of layer 4, opened: a matcher, matchers, labels. Arguments of layer 11, opened: a silence, silences; what the row's list of variables gives the walks. What Text of package match tells; whether labels are light; the closed case of every statement of layer 4. The closed case of every statement of layer 4: it answers true, whatever else lies in memory. SilenceSome, walked: it answers true at any silences and labels, and turns nothing that was there.
-/
import Derived.Test.YtcngifkoopcmeaaGreatDoorK05
import Derived.ProofKit
import Derived.OpenShut
import Derived.LaidMore
import Derived.LaidHandle
import Derived.Stop.LaidErr
import Derived.Stop.Joined
import Derived.Lib.LaidTab
import Derived.MakeChecks
import Derived.Deep.SlicePairs
import Derived.SizedLaws
import Derived.Test.YtcngifkoopcmeaaGreatDoorK14
import Derived.Deep.Strs
import Derived.Test.YtcngifkoopcmeaaGreatDoorK25
import Derived.Lib.SmallJoins
namespace Go.Proofs.YtcngifkoopcmeaaGreatDoor
open Go.ChangeShapes Go.WideShapes Go.ChangeAt Go.RowKit

theorem own : ownKnob Tryz.prog.godebug = none := by kernel_rfl
theorem laidOut : laidOutB Tryz.prog = true := by kernel_rfl
theorem gTab : Tryz.prog.globalNamed "math/bits.deBruijn64tab" = some 4 := by kernel_rfl
theorem gTabT : (Tryz.prog.globals[4]?).map (·.type) = some 277 := by kernel_rfl
theorem cellsTab : Tryz.prog.cellsOf 277 = 64 := by kernel_rfl
theorem cellsU8 : Tryz.prog.cellsOf 5 = 1 := by kernel_rfl

/-- The list that every row of this seat bears. -/
def laidL : List (String × DataW Unit) := [("math/bits.deBruijn64tab", Rows.laid_math_bits_deBruijn64tab)]

theorem tab_of_laid {W : World} (h : laidMetH Tryz.prog laidL W) : TabW W := by
  rw [Go.MakeChecks.laidMetH_plain _ _ _ (by kernel_rfl)] at h
  have htab : Lib.TabIs Tryz.prog W "math/bits.deBruijn64tab" .u8 (Lib.deBruijn64tab.map fun (n : Nat) => (n : Int)) :=
    Lib.tabIs_of_head gTab gTabT Tryz.underlying277 Tryz.underlying5 cellsU8 cellsTab h
  intro j hj
  unfold Lib.TabIs World.var? at htab
  simp only [gTab, Option.bind_some] at htab
  split at htab
  · rename_i cs t fr hb
    injection htab with htab
    subst htab
    rw [cell_heap' hb]
    have hl : j < Lib.deBruijn64tab.length := hj
    simp [List.getD, hl]
  · cases htab

theorem door_met (os : Os) (args : Array Value) : laidMet Tryz.prog laidL ((World.doorLaid Tryz.prog 62 os).forCall (fun _ _ => 0) ⟨#[], args, []⟩).memory :=
  laidMet_of_run' 8 (by kernel_rfl) (by kernel_rfl)

theorem bulk_pos {H : Type} (d : DataW H) : 1 ≤ Rows.uptoBulk d := by
  cases d with
  | lit l => cases l <;> simp [Rows.uptoBulk]
  | _ => simp [Rows.uptoBulk]
theorem bulk_mem {H : Type} {d : DataW H} : ∀ {ds : List (DataW H)}, d ∈ ds → Rows.uptoBulk d ≤ Rows.uptoBulkAll ds
  | x :: ds, h => by
    simp only [Rows.uptoBulkAll]
    rcases List.mem_cons.1 h with rfl | h
    · omega
    · have := bulk_mem h; omega
theorem small_bound {H : Type} {ds : List (DataW H)} (h : Rows.uptoSmall H ds = true) : Rows.uptoBulkAll ds ≤ 1048576 := of_decide_eq_true h
theorem string_bound {H : Type} {ds : List (DataW H)} {bs : List UInt8} (h : Rows.uptoBulkAll ds ≤ 1048576) (hm : DataW.lit (.string bs) ∈ ds) : bs.length ≤ 1048576 := by
  have h1 := bulk_mem hm
  simp only [Rows.uptoBulk] at h1
  omega

end Go.Proofs.YtcngifkoopcmeaaGreatDoor
namespace Go.Proofs.YtcngifkoopcmeaaGreatDoor
open Go.ChangeShapes Go.WideShapes Go.ChangeAt Go.RowKit Go.Deep

theorem mcellsPair : Tryz.prog.cellsOf 83 = 2 := by kernel_rfl
/-- The text that a cell holds. -/
def mstrOf : Value → ByteArray
  | .string s => s
  | _ => ⟨#[]⟩

theorem open_pairsM {H : Type} {enc : TypeId × Value → H} {W : World} {base : Nat} {sp : Nat → Bool} {held : Bool} {fuel : Nat} {a : Option Addr} {len cap : Nat} {x : DataW H × List MemPlace}
    (h : DataW.trod enc Tryz.prog W base sp held fuel 40 [.slice a len cap] = some x) :
    ∃ ps : List Pr, ps.length = len ∧ PairsAt W a ps ∧ len ≤ maxLen ∧ (∀ p ∈ ps, p.1.size ≤ maxLen ∧ p.2.size ≤ maxLen) ∧
      (x.1 = .nil ∧ ps = [] ∨ ∃ spare, x.1 = .slice (ps.map fun p => .agg [.lit (.string p.1.data.toList), .lit (.string p.2.data.toList)]) spare) := by
  rcases open_slice_pairs Tryz.underlying40 Tryz.underlying83 mcellsPair rfl rfl (by kernel_rfl) (by kernel_rfl) h with ⟨hcs, hx⟩ | ⟨q, len', cap', m, n, V0, V1, D0, D1, P0, P1, hcs, _, hl, hm, hmm, hx, hc⟩
  · simp only [List.cons.injEq, Value.slice.injEq, and_true] at hcs
    obtain ⟨rfl, rfl, rfl⟩ := hcs
    exact ⟨[], rfl, fun hi => absurd hi (by simp), Nat.zero_le _, (fun p hp => by cases hp), .inl ⟨by rw [hx], rfl⟩⟩
  · simp only [List.cons.injEq, Value.slice.injEq, and_true] at hcs
    obtain ⟨rfl, rfl, rfl⟩ := hcs
    have hlm : len ≤ m := by split at hmm <;> omega
    have hstr : ∀ i, i < m → V0 i = .string (mstrOf (V0 i)) ∧ V1 i = .string (mstrOf (V1 i)) ∧ (mstrOf (V0 i)).size ≤ maxLen ∧ (mstrOf (V1 i)).size ≤ maxLen ∧ D0 i = .lit (.string (mstrOf (V0 i)).data.toList) ∧ D1 i = .lit (.string (mstrOf (V1 i)).data.toList) := fun i hi => by
      obtain ⟨-, -, h0, h1⟩ := hc i hi
      obtain ⟨s0, e0, f0, g0⟩ := DataW.trod_string Tryz.underlying9 h0
      obtain ⟨s1, e1, f1, g1⟩ := DataW.trod_string Tryz.underlying9 h1
      simp only [List.cons.injEq, and_true] at e0 e1
      simp only [Prod.mk.injEq] at f0 f1
      rw [e0, e1]
      exact ⟨rfl, rfl, g0, g1, f0.1, f1.1⟩
    refine ⟨(List.range len).map fun i => (mstrOf (V0 i), mstrOf (V1 i)), by simp, fun hn => ?_, by omega, fun p hp => ?_, .inr ⟨_, by
      rw [hx]
      simp only [List.map_map]
      congr 1
      refine List.map_congr_left fun i hi => ?_
      have := hstr i (by have := List.mem_range.1 hi; omega)
      simp only [Function.comp, this.2.2.2.2.1, this.2.2.2.2.2]⟩⟩
    · simp only [List.length_map, List.length_range] at hn
      obtain ⟨hc0, -, -, -⟩ := hc 0 (by omega)
      obtain ⟨b, o, s⟩ := q
      obtain rfl : s = none := by simpa [Addr.add] using World.cell?_spot hc0
      refine ⟨b, o, rfl, fun i hi => ?_⟩
      simp only [List.length_map, List.length_range] at hi
      obtain ⟨c0, c1, -, -⟩ := hc i (by omega)
      obtain ⟨e0, e1, -⟩ := hstr i (by omega)
      rw [Go.WideShapes.add_plain, e0] at c0
      rw [Go.WideShapes.add_plain, e1] at c1
      simp only [List.getElem_map, List.getElem_range]
      exact ⟨c0, c1⟩
    · obtain ⟨i, hi, rfl⟩ := List.mem_map.1 hp
      have := hstr i (by have := List.mem_range.1 hi; omega)
      exact ⟨this.2.2.1, this.2.2.2.1⟩

theorem mbytes_pair : Tryz.prog.bytesOf 83 = 32 := by kernel_rfl
/-- .. and how many pairs it may have. -/
theorem mreach_pairs {H : Type} {ts : List TypeId} {ds : List (DataW H)} (hsz : (DataW.weightsEach Tryz.prog ts ds).all (· ≤ reachBytes) = true) {j : Nat} {d : DataW H} (ht : ts[j]? = some 40) (hd : ds[j]? = some d) {ps : List Pr}
    (h : d = .nil ∧ ps = [] ∨ ∃ spare, d = .slice (ps.map fun p => .agg [.lit (.string p.1.data.toList), .lit (.string p.2.data.toList)]) spare) : ps.length ≤ 4398046510976 := by
  rcases h with ⟨_, rfl⟩ | ⟨spare, rfl⟩
  · simp
  · have h1 := sized_slice hsz ht hd Tryz.underlying40
    rw [mbytes_pair, List.length_map] at h1
    have h2 : reachBytes = 140737488351232 := by decide
    omega


theorem cellsMt : Tryz.prog.cellsOf 131 = 3 := by kernel_rfl
theorem cellsStr1 : Tryz.prog.cellsOf 9 = 1 := by kernel_rfl
theorem cellsOp1 : Tryz.prog.cellsOf 129 = 1 := by kernel_rfl
/-- A matcher as data. -/
def dataM {H : Type} (m : Mt) : DataW H := .agg [.lit (.string m.1.data.toList), .lit (.int .u8 (m.2.1 : Int)), .lit (.string m.2.2.data.toList)]

set_option maxRecDepth 20000 in
theorem open_cells3 {H : Type} {enc : TypeId × Value → H} {W : World} {base : Nat} {sp : Nat → Bool} {held : Bool} {fuel : Nat} {cs : List Value} {x : DataW H × List MemPlace}
    (h : DataW.trod enc Tryz.prog W base sp held fuel 131 cs = some x) :
    ∃ m : Mt, cs = [.string m.1, .int .u8 (m.2.1 : Int), .string m.2.2] ∧ x = (dataM m, []) ∧ m.2.1 < 256 ∧ m.1.size ≤ maxLen ∧ m.2.2.size ≤ maxLen := by
  obtain ⟨y0, y1, y2, n, rfl, hl, h0, h1, h2⟩ := trod_struct3 Tryz.underlying131 h
  rw [cellsMt] at hl
  match cs, hl with
  | [v0, v1, v2], _ =>
    simp [cellsStr1, cellsOp1] at h0 h1 h2
    obtain ⟨s0, e0, f0, g0⟩ := DataW.trod_string Tryz.underlying9 h0
    obtain ⟨z, e1, f1, g1⟩ := DataW.trod_int Tryz.underlying129 h1
    obtain ⟨s2, e2, f2, g2⟩ := DataW.trod_string Tryz.underlying9 h2
    simp only [List.cons.injEq, and_true] at e0 e1 e2
    subst e0 e1 e2 f0 f1 f2
    have k1 : IntKind.u8.min = 0 := rfl
    have k2 : IntKind.u8.max = 255 := rfl
    simp only [Lit.wf, Bool.and_eq_true, decide_eq_true_eq] at g1
    refine ⟨(s0, z.toNat, s2), ?_, ?_, ?_, g0, g2⟩
    · show [Value.string s0, .int .u8 z, .string s2] = [Value.string s0, .int .u8 (z.toNat : Int), .string s2]
      rw [Int.toNat_of_nonneg (by omega)]
    · unfold dataM
      simp only [Prod.mk.injEq]
      rw [Int.toNat_of_nonneg (by omega)]
      exact ⟨rfl, rfl⟩
    · show z.toNat < 256
      omega
set_option maxRecDepth 20000 in
theorem open_matcher {H : Type} {enc : TypeId × Value → H} {W : World} {base base' : Nat} {sp : Nat → Bool} {held : Bool} {fuel : Nat} {r : Reach} {v : Value} {x : DataW H × List MemPlace} (hv : Value.okWide Tryz.prog W r base' 131 v)
    (h : DataW.trod enc Tryz.prog W base sp held fuel 131 v.cells.toList = some x) :
    ∃ m : Mt, v = .agg #[.string m.1, .int .u8 (m.2.1 : Int), .string m.2.2] ∧ x = (dataM m, []) ∧ m.2.1 < 256 ∧ m.1.size ≤ maxLen ∧ m.2.2.size ≤ maxLen := by
  obtain ⟨cs, rfl, -⟩ := okWide_struct Tryz.underlying131 hv
  obtain ⟨m, h1, h2⟩ := open_cells3 (cs := cs.toList) (by simpa [Value.cells] using h)
  refine ⟨m, ?_, h2⟩
  rw [← Array.toList_inj.1 (show cs.toList = #[Value.string m.1, .int .u8 (m.2.1 : Int), .string m.2.2].toList from h1)]

set_option maxRecDepth 20000 in
theorem open_matchers {H : Type} {enc : TypeId × Value → H} {W : World} {base : Nat} {sp : Nat → Bool} {held : Bool} {fuel : Nat} {a : Option Addr} {len cap : Nat} {x : DataW H × List MemPlace}
    (h : DataW.trod enc Tryz.prog W base sp held fuel 48 [.slice a len cap] = some x) :
    ∃ ms : List Mt, ms.length = len ∧ MtsAt W a ms ∧ len ≤ maxLen ∧ ((a = none → len = 0 ∧ cap = 0) ∧ ∀ m ∈ ms, m.1.size ≤ maxLen ∧ m.2.2.size ≤ maxLen) ∧
      (x.1 = .nil ∧ ms = [] ∨ ∃ spare, x.1 = .slice (ms.map dataM) spare) := by
  rcases open_slice Tryz.underlying48 h with ⟨hcs, hx⟩ | ⟨q, len', cap', m, n, D, Pl, hcs, hb, hl, hm, hmm, hx, hc⟩
  · simp only [List.cons.injEq, Value.slice.injEq, and_true] at hcs
    obtain ⟨rfl, rfl, rfl⟩ := hcs
    exact ⟨[], rfl, fun hi => absurd hi (by simp), Nat.zero_le _, ⟨fun _ => ⟨rfl, rfl⟩, fun p hp => by cases hp⟩, .inl ⟨by rw [hx], rfl⟩⟩
  · simp only [List.cons.injEq, Value.slice.injEq, and_true] at hcs
    obtain ⟨rfl, rfl, rfl⟩ := hcs
    rw [cellsMt] at hc
    have each : ∀ i, i < m → ∃ y : Mt, (W.cell? ((q.add (i * 3)).add 0) = some (.string y.1) ∧ W.cell? ((q.add (i * 3)).add 1) = some (.int .u8 (y.2.1 : Int)) ∧ W.cell? ((q.add (i * 3)).add 2) = some (.string y.2.2)) ∧ D i = dataM y ∧ y.1.size ≤ maxLen ∧ y.2.2.size ≤ maxLen := fun i hi => by
      obtain ⟨cs', h1, h2⟩ := hc i hi
      obtain ⟨-, -, hcell⟩ := World.cells?_some h1
      obtain ⟨y, rfl, hy, -, hz1, hz2⟩ := open_cells3 h2
      simp only [Prod.mk.injEq] at hy
      exact ⟨y, ⟨hcell 0 (by omega), hcell 1 (by omega), hcell 2 (by omega)⟩, hy.1, hz1, hz2⟩
    obtain ⟨f, hf⟩ := choose_lt each
    have hlm : len ≤ m := by split at hmm <;> omega
    refine ⟨(List.range len).map f, by simp, fun hn => ?_, by omega, ⟨(fun e => by cases e), fun y hy => ?_⟩, .inr ⟨_, by
      rw [hx]
      simp only [List.map_map]
      congr 1
      refine List.map_congr_left fun i hi => ?_
      exact (hf i (by have := List.mem_range.1 hi; omega)).2.1⟩⟩
    · simp only [List.length_map, List.length_range] at hn
      obtain ⟨⟨hc0, -, -⟩, -⟩ := hf 0 (by omega)
      obtain ⟨b, o, s⟩ := q
      obtain rfl : s = none := by simpa [Addr.add] using World.cell?_spot hc0
      refine ⟨b, o, rfl, ?_, fun i hi => ?_⟩
      · have := World.block_lt_of_cell? W _ hc0
        simpa [Addr.add] using this
      · simp only [List.length_map, List.length_range] at hi
        obtain ⟨⟨c0, c1, c2⟩, -⟩ := hf i (by omega)
        rw [Go.WideShapes.add_plain, Go.WideShapes.add_plain] at c0 c1 c2
        simp only [List.getElem_map, List.getElem_range]
        exact ⟨c0, c1, c2⟩
    · obtain ⟨i, hi, rfl⟩ := List.mem_map.1 hy
      exact (hf i (by have := List.mem_range.1 hi; omega)).2.2

theorem bytes_matcher : Tryz.prog.bytesOf 131 = 40 := by kernel_rfl
/-- .. and how many matchers it may have. -/
theorem reach_matchers {H : Type} {ts : List TypeId} {ds : List (DataW H)} (hsz : (DataW.weightsEach Tryz.prog ts ds).all (· ≤ reachBytes) = true) {j : Nat} {d : DataW H} (ht : ts[j]? = some 48) (hd : ds[j]? = some d) {ms : List Mt}
    (h : d = .nil ∧ ms = [] ∨ ∃ spare, d = .slice (ms.map dataM) spare) : ms.length ≤ 4398046510976 := by
  rcases h with ⟨_, rfl⟩ | ⟨spare, rfl⟩
  · simp
  · have h1 := sized_slice hsz ht hd Tryz.underlying48
    rw [bytes_matcher, List.length_map] at h1
    have h2 : reachBytes = 140737488351232 := by decide
    omega

end Go.Proofs.YtcngifkoopcmeaaGreatDoor
namespace Go.Proofs.YtcngifkoopcmeaaGreatDoor
open Go.ChangeShapes Go.WideShapes Go.ChangeAt Go.RowKit Go.Deep

theorem gPow5 : Tryz.prog.globalNamed "internal/strconv.uint64pow10" = some 1 := by kernel_rfl
theorem gPowT5 : (Tryz.prog.globals[1]?).map (·.type) = some 265 := by kernel_rfl
theorem gSyn5 : Tryz.prog.globalNamed "strconv.ErrSyntax" = some 2 := by kernel_rfl
theorem gSynT5 : (Tryz.prog.globals[2]?).map (·.type) = some 215 := by kernel_rfl
theorem gRan5 : Tryz.prog.globalNamed "strconv.ErrRange" = some 3 := by kernel_rfl
theorem gRanT5 : (Tryz.prog.globals[3]?).map (·.type) = some 215 := by kernel_rfl
theorem cellsPow5 : Tryz.prog.cellsOf 265 = 20 := by kernel_rfl
theorem cellsU645 : Tryz.prog.cellsOf 194 = 1 := by kernel_rfl
theorem cellsErr5 : Tryz.prog.cellsOf 284 = 1 := by kernel_rfl
theorem star5 : "*errors.errorString" = "*" ++ "errors.errorString" := by decide
theorem rowErr5 (u : TypeId) (h : Tryz.prog.typeName? 3 u = some "*errors.errorString") : u = 282 :=
  typeName_ptr_named (nm := "errors.errorString") (by rw [← star5]; kernel_rfl) (by kernel_rfl) (by decide) u (by rw [← star5]; exact h)
/-- The list that every row of this seat bears. -/
def laid5 : List (String × DataW Unit) := [("math/bits.deBruijn32tab", Rows.laid_math_bits_deBruijn32tab), ("math/bits.deBruijn64tab", Rows.laid_math_bits_deBruijn64tab), ("internal/strconv.uint64pow10", Rows.laid_internal_strconv_uint64pow10), ("strconv.ErrRange", Rows.laid_strconv_ErrRange), ("strconv.ErrSyntax", Rows.laid_strconv_ErrSyntax)]
theorem lt_of_var5 {W : World} {n : String} {g : Nat} {cs : Array Value} (hg : Tryz.prog.globalNamed n = some g) (h : W.var? Tryz.prog n = some cs) : g < W.heap.size := by
  unfold World.var? at h
  simp only [hg, Option.bind_some] at h
  split at h
  · rename_i hb; exact (Array.getElem?_eq_some_iff.1 hb).1
  · cases h
theorem vars_of_laid5 {W : World} (h : laidMetH Tryz.prog laid5 W) : VarsOk W.heap.size W := by
  rw [Go.MakeChecks.laidMetH_plain _ _ _ (by kernel_rfl)] at h
  have h3 := h.tail.tail
  have htab : Lib.TabIs Tryz.prog W "internal/strconv.uint64pow10" .u64 Lib.pow10Tab :=
    Lib.tabIs_of_head gPow5 gPowT5 Tryz.underlying265 Tryz.underlying194 cellsU645 cellsPow5 h3
  obtain ⟨a0, s0, hv0, -, -, -⟩ := laid_sentinel h3.tail gRan5 gRanT5 Tryz.underlying215 rowErr5 Tryz.underlying282 Tryz.underlying284 rfl rfl Tryz.underlying9 cellsErr5 cellsStr1
  obtain ⟨a1, s1, hv1, -, -, -⟩ := laid_sentinel h3.tail.tail gSyn5 gSynT5 Tryz.underlying215 rowErr5 Tryz.underlying282 Tryz.underlying284 rfl rfl Tryz.underlying9 cellsErr5 cellsStr1
  intro w' hb
  exact ⟨Lib.tabBelow_of_tabIs htab w' hb, ⟨_, _, var?_below hb gSyn5 (lt_of_var5 gSyn5 hv1) hv1⟩, ⟨_, _, var?_below hb gRan5 (lt_of_var5 gRan5 hv0) hv0⟩⟩
theorem tab_of_laid5 {W : World} (h : laidMetH Tryz.prog laid5 W) : TabW W := by
  rw [Go.MakeChecks.laidMetH_plain _ _ _ (by kernel_rfl)] at h
  have htab : Lib.TabIs Tryz.prog W "math/bits.deBruijn64tab" .u8 (Lib.deBruijn64tab.map fun (n : Nat) => (n : Int)) :=
    Lib.tabIs_of_head gTab gTabT Tryz.underlying277 Tryz.underlying5 cellsU8 cellsTab h.tail
  intro j hj
  unfold Lib.TabIs World.var? at htab
  simp only [gTab, Option.bind_some] at htab
  split at htab
  · rename_i cs t fr hb
    injection htab with htab
    subst htab
    rw [cell_heap' hb]
    have hl : j < Lib.deBruijn64tab.length := hj
    simp [List.getD, hl]
  · cases htab
theorem door_met5 (os : Os) (args : Array Value) : laidMet Tryz.prog laid5 ((World.doorLaid Tryz.prog 62 os).forCall (fun _ _ => 0) ⟨#[], args, []⟩).memory :=
  laidMet_of_run' 8 (by kernel_rfl) (by kernel_rfl)

/-- A silence's numbers and matchers, as they fit. -/
def SmOk (y : Sm) : Prop := y.s.ms.length ≤ 9223372036854775807 ∧ (-9223372036854775808 ≤ y.s.st ∧ y.s.st ≤ 9223372036854775807) ∧ (-9223372036854775808 ≤ y.s.en ∧ y.s.en ≤ 9223372036854775807) ∧ y.s.id.size ≤ 9223372036854775807 ∧ (∀ m ∈ y.s.ms, m.1.size ≤ 9223372036854775807)
theorem cellsSil : Tryz.prog.cellsOf 55 = 4 := by kernel_rfl
theorem cellsMts1 : Tryz.prog.cellsOf 48 = 1 := by kernel_rfl
theorem cellsIn1 : Tryz.prog.cellsOf 3 = 1 := by kernel_rfl

section
variable {H : Type} {enc : TypeId × Value → H} {W : World} {base : Nat} {sp : Nat → Bool} {held : Bool} {fuel : Nat} {x : DataW H × List MemPlace}
set_option maxRecDepth 20000 in
theorem open_silC {cs : List Value} (h : DataW.trod enc Tryz.prog W base sp held fuel 55 cs = some x) : ∃ y : Sm, cs = encSm y ∧ MtsAt W y.ad y.s.ms ∧ SmOk y := by
  obtain ⟨y0, y1, y2, y3, n, -, hl, h0, h1, h2, h3⟩ := Go.Joins.trod_struct4 Tryz.underlying55 h
  rw [cellsSil] at hl
  match cs, hl with
  | [v0, v1, v2, v3], _ =>
    simp [cellsStr1, cellsMts1, cellsIn1] at h0 h1 h2 h3
    obtain ⟨s0, e0, f0, g0⟩ := DataW.trod_string Tryz.underlying9 h0
    obtain ⟨z2, e2, f2, g2⟩ := DataW.trod_int Tryz.underlying3 h2
    obtain ⟨z3, e3, f3, g3⟩ := DataW.trod_int Tryz.underlying3 h3
    simp only [List.cons.injEq, and_true] at e0 e2 e3
    subst e0 e2 e3
    have q3 : IntKind.i64.min = -9223372036854775808 := rfl
    have q4 : IntKind.i64.max = 9223372036854775807 := rfl
    have q7 : maxLen = 9223372036854775807 := rfl
    simp only [Lit.wf, Bool.and_eq_true, decide_eq_true_eq] at g2 g3
    obtain ⟨a, len, cap, rfl⟩ : ∃ a len cap, v1 = .slice a len cap := by
      rcases open_slice Tryz.underlying48 h1 with ⟨hcs, -⟩ | ⟨q, len', cap', m, n, D, Pl, hcs, -⟩
      · simp only [List.cons.injEq, and_true] at hcs; exact ⟨_, _, _, hcs⟩
      · simp only [List.cons.injEq, and_true] at hcs; exact ⟨_, _, _, hcs⟩
    obtain ⟨ms, hlen, hat, hml, hnm, -⟩ := open_matchers h1
    refine ⟨⟨⟨s0, ms, z2, z3⟩, a, cap⟩, by rw [← hlen]; rfl, hat, ?_⟩
    exact ⟨by dsimp only; omega, ⟨by dsimp only; omega, by dsimp only; omega⟩, ⟨by dsimp only; omega, by dsimp only; omega⟩, by dsimp only; omega, fun m hm => by have := (hnm.2 m hm).1; omega⟩
set_option maxRecDepth 20000 in
theorem open_silence {base' : Nat} {r0 : Reach} {v : Value} (hv : Value.okWide Tryz.prog W r0 base' 55 v) (h : DataW.trod enc Tryz.prog W base sp held fuel 55 v.cells.toList = some x) :
    ∃ y : Sm, v = .agg #[.string y.s.id, .slice y.ad y.s.ms.length y.cp, .int .i64 y.s.st, .int .i64 y.s.en] ∧ MtsAt W y.ad y.s.ms ∧ SmOk y := by
  obtain ⟨cs, rfl, hsz⟩ := okWide_struct Tryz.underlying55 hv
  obtain ⟨v0, v1, v2, v3, rfl⟩ := Go.Joins.array4 (hsz.trans cellsSil)
  obtain ⟨y, e, h1, h2⟩ := open_silC h
  simp only [Value.cells, encSm, List.cons.injEq, and_true] at e
  obtain ⟨rfl, rfl, rfl, rfl⟩ := e
  exact ⟨y, rfl, h1, h2⟩
set_option maxRecDepth 20000 in
theorem open_silences {a : Option Addr} {len cap : Nat} (h : DataW.trod enc Tryz.prog W base sp held fuel 58 [.slice a len cap] = some x) :
    ∃ L : List Sm, L.length = len ∧ SilsAt W a L ∧ len ≤ 9223372036854775807 ∧ len ≤ cap ∧ ∀ y ∈ L, SmOk y := by
  have q7 : maxLen = 9223372036854775807 := rfl
  rcases open_slice Tryz.underlying58 h with ⟨hcs, -⟩ | ⟨q, len', cap', m, n, D, Pl, hcs, hb, hl, hm, hmm, -, hc⟩
  · simp only [List.cons.injEq, Value.slice.injEq, and_true] at hcs
    obtain ⟨rfl, rfl, rfl⟩ := hcs
    exact ⟨[], rfl, fun hi => absurd hi (by simp), Nat.zero_le _, Nat.le_refl _, fun p hp => by cases hp⟩
  · simp only [List.cons.injEq, Value.slice.injEq, and_true] at hcs
    obtain ⟨rfl, rfl, rfl⟩ := hcs
    rw [cellsSil] at hc
    haveI : Inhabited Sm := ⟨⟨zeroS, none, 0⟩⟩
    have each : ∀ i, i < m → ∃ y : Sm, (W.cell? ((q.add (i * 4)).add 0) = some (.string y.s.id) ∧ W.cell? ((q.add (i * 4)).add 1) = some (.slice y.ad y.s.ms.length y.cp) ∧ W.cell? ((q.add (i * 4)).add 2) = some (.int .i64 y.s.st) ∧ W.cell? ((q.add (i * 4)).add 3) = some (.int .i64 y.s.en)) ∧ MtsAt W y.ad y.s.ms ∧ SmOk y := fun i hi => by
      obtain ⟨cs', h1, h2⟩ := hc i hi
      obtain ⟨-, -, hcell⟩ := World.cells?_some h1
      obtain ⟨y, rfl, hy, hz⟩ := open_silC h2
      exact ⟨y, ⟨hcell 0 (by omega), hcell 1 (by omega), hcell 2 (by omega), hcell 3 (by omega)⟩, hy, hz⟩
    obtain ⟨f, hf⟩ := choose_lt each
    have hlm : len ≤ m := by split at hmm <;> omega
    refine ⟨(List.range len).map f, by simp, fun hn => ?_, by omega, hl, fun y hy => ?_⟩
    · simp only [List.length_map, List.length_range] at hn
      obtain ⟨⟨hc0, -, -, -⟩, -⟩ := hf 0 (by omega)
      obtain ⟨b, o, s⟩ := q
      obtain rfl : s = none := by simpa [Addr.add] using World.cell?_spot hc0
      refine ⟨b, o, rfl, ?_, fun i hi => ?_⟩
      · have := World.block_lt_of_cell? W _ hc0
        simpa [Addr.add] using this
      · simp only [List.length_map, List.length_range] at hi
        obtain ⟨⟨k0, k1, k2, k3⟩, hm', -⟩ := hf i (by omega)
        simp only [Go.WideShapes.add_plain] at k0 k1 k2 k3
        simp only [List.getElem_map, List.getElem_range]
        exact ⟨⟨k0, k1, k2, k3⟩, hm'⟩
    · obtain ⟨i, hi, rfl⟩ := List.mem_map.1 hy
      exact (hf i (by have := List.mem_range.1 hi; omega)).2.2
end

end Go.Proofs.YtcngifkoopcmeaaGreatDoor
namespace Go.Proofs.YtcngifkoopcmeaaGreatDoor
open Go.RowKit

/-- What stands between a matcher's name and its value. -/
def signL (o : Nat) : ByteArray := if o = 0 then ⟨#[61]⟩ else if o = 1 then ⟨#[33, 61]⟩ else if o = 2 then ⟨#[61, 126]⟩ else if o = 3 then ⟨#[33, 126]⟩ else ⟨#[]⟩
def textM (m : Mt) : ByteArray := m.1 ++ signL m.2.1 ++ m.2.2

/-- Labels are few and their values short. -/
abbrev LightP (m : Nat) (ps : List Pr) : Prop := m ≤ 40 ∧ ps.length ≤ 40 ∧ ∀ p ∈ ps, p.2.size ≤ 200

set_option maxHeartbeats 1000000 in
theorem nLight_any (b a : Option Addr) (m d c : Nat) (ps : List Pr) (w : World) (h : PairsAt w a ps) (hm : m ≤ 9223372036854775807) (hn : ps.length ≤ 9223372036854775807) :
    Calls Tryz.prog 30 #[.slice b m d, .slice a ps.length c] w fun e w' => e = .returned (.bool (decide (LightP m ps))) ∧ Below w.heap.size w w' := by
  by_cases h1 : m ≤ 40
  · have h1' : ¬ (40 : Int) < (m : Int) := by omega
    by_cases h2 : ps.length ≤ 40
    · have h2' : ¬ (40 : Int) < (ps.length : Int) := by omega
      go_enter Tryz.func30, Tryz.ntmps30
      go_wp2
      go_loopw [5] (fun i wr => ∃ k : Nat, k ≤ ps.length ∧ i = .int .i64 k ∧ Below w.heap.size w wr ∧ ∀ j, j < k → ∀ hj : j < ps.length, ps[j].2.size ≤ 200) (fun i _ => ps.length - (intOf i).toNat)
      case atStart => exact ⟨0, Nat.zero_le _, rfl, Below.refl _ _, fun j hj => absurd hj (Nat.not_lt_zero _)⟩
      case round =>
        obtain ⟨k, hk, rfl, hb, hall⟩ := hrel
        by_cases hlt : k < ps.length
        · have hkl : (k : Int) < (ps.length : Int) := by omega
          obtain ⟨b, o, rfl, hc⟩ := h (by omega)
          obtain ⟨hc1, hc2⟩ := hc k hlt
          rw [← hb.cell (p := ⟨b, o + k * 2 + 1, none⟩) (World.block_lt_of_cell? w _ hc2)] at hc2
          clear hc h hc1
          by_cases h3 : ps[k].2.size ≤ 200
          · have h3' : ¬ (200 : Int) < (ps[k].2.size : Int) := by omega
            have HA := Lib.hid (upto_succ hall fun _ => h3)
            clear hall h3
            go_wp2
            go_roundw
            case rel => exact ⟨k + 1, by omega, by go_num, hb, HA.out⟩
            case measure => simp [intOf]; omega
          · have h3' : (200 : Int) < (ps[k].2.size : Int) := by omega
            have HF : Hid (decide (LightP m ps) = false) := Lib.hid (decide_eq_false fun hL => h3 (hL.2.2 _ (List.getElem_mem hlt)))
            clear hall h3
            go_wp2
            go_ret
            exact ⟨by first | (rw [HF.out]; rfl) | rfl, hb⟩
        · obtain rfl : k = ps.length := by omega
          have HF : Hid (decide (LightP m ps) = true) := Lib.hid (decide_eq_true ⟨h1, h2, fun p hp => by
            obtain ⟨i, hi, rfl⟩ := List.getElem_of_mem hp
            exact hall i hi hi⟩)
          clear hall
          go_wp2
          go_ret
          exact ⟨by first | (rw [HF.out]; rfl) | rfl, hb⟩
    · have h2' : (40 : Int) < (ps.length : Int) := by omega
      have HF : Hid (decide (LightP m ps) = false) := Lib.hid (decide_eq_false fun hL => h2 hL.2.1)
      go_enter Tryz.func30, Tryz.ntmps30
      go_wp2
      go_ret
      exact ⟨by first | (rw [HF.out]; rfl) | rfl, Below.refl _ _⟩
  · have h1' : (40 : Int) < (m : Int) := by omega
    have HF : Hid (decide (LightP m ps) = false) := Lib.hid (decide_eq_false fun hL => h1 hL.1)
    go_enter Tryz.func30, Tryz.ntmps30
    go_wp2
    go_ret
    exact ⟨by first | (rw [HF.out]; rfl) | rfl, Below.refl _ _⟩


def awkA : Lang := altL (altL noL (catL epsL (setL (addB noneB 49 49)))) (catL epsL (setL (addB noneB 50 50)))
theorem ak1 : pParse [49, 124, 50] = some awkA := by rfl
theorem ak1_yes : awkA [49] := .inl (.inr ⟨[], [49], rfl, rfl, 49, rfl, by decide⟩)
def awkB : Lang := altL noL (catL epsL (setL (notB noneB)))
theorem ak2 : pParse [46] = some awkB := by rfl
theorem ak2_yes : awkB [49] := .inr ⟨[], [49], rfl, rfl, 49, rfl, by decide⟩
theorem ak3 : errE [40] = 9 := by rfl
def psA : List Pr := [(⟨#[97]⟩, ⟨#[49]⟩)]
theorem gv1 : getV psA (ByteArray.mk #[97]).toList = ⟨#[49]⟩ := by unfold getV psA nm; simp [ByteArray.toList_eq]
theorem gv2 : getV psA (ByteArray.mk #[98]).toList = ⟨#[]⟩ := by unfold getV psA nm; simp [ByteArray.toList_eq]
theorem nameA : NameOk ⟨#[97]⟩ := by decide
theorem nameB : NameOk ⟨#[98]⟩ := by decide
theorem mk1 : mAsk psA (⟨#[97]⟩, 2, ⟨#[49, 124, 50]⟩) := by
  refine ⟨?_, .inr (.inr (.inl ⟨rfl, awkA, ak1, ?_⟩))⟩
  · unfold mErr
    rw [if_neg (Classical.not_not.2 nameA)]
    exact errE_of (by decide) ak1
  · simp only [gv1]
    exact ak1_yes
theorem mk2 : mAsk psA (⟨#[98]⟩, 1, ⟨#[49]⟩) := by
  refine ⟨?_, .inr (.inl ⟨rfl, ?_⟩)⟩
  · unfold mErr
    rw [if_neg (Classical.not_not.2 nameB)]
    rfl
  · rw [gv2, ByteArray.toList_eq, ByteArray.toList_eq]
    decide
theorem mk3 : ¬ mAsk psA (⟨#[97]⟩, 3, ⟨#[46]⟩) := by
  rintro ⟨-, ⟨h, -⟩ | ⟨h, -⟩ | ⟨h, -⟩ | ⟨-, h⟩⟩
  · cases h
  · cases h
  · cases h
  · simp only [gv1] at h
    exact h ⟨awkB, ak2, ak2_yes⟩
theorem mk4 : mErr (⟨#[97]⟩, 2, ⟨#[40]⟩) = 9 := by
  unfold mErr
  rw [if_neg (Classical.not_not.2 nameA)]
  exact ak3

theorem mk5 : textM (⟨#[97]⟩, 3, ⟨#[120]⟩) = ⟨#[97, 33, 126, 120]⟩ := by rfl
theorem tells_yes {A : Prop} {e : Ending} (h : Tells A e) (hA : A) : e = .returned (.bool true) := by
  obtain ⟨b, h1, h2⟩ := h
  rw [h1, h2.2 hA]
theorem tells_no {A : Prop} {e : Ending} (h : Tells A e) (hA : ¬ A) : e = .returned (.bool false) := by
  obtain ⟨b, h1, h2⟩ := h
  rw [h1, Bool.eq_false_iff.2 fun k => hA (h2.1 k)]

end Go.Proofs.YtcngifkoopcmeaaGreatDoor
namespace Go.Proofs.YtcngifkoopcmeaaGreatDoor
open Go Go.RowKit

/-- Silences that are few. -/
abbrev LightS (L : List Sm) : Prop := L.length ≤ 40 ∧ ∀ i (hi : i < L.length), L[i].s.ms.length ≤ 20

set_option maxRecDepth 20000 in
set_option maxHeartbeats 2000000 in
theorem yLight_any (a : Option Addr) (c : Nat) (L : List Sm) (w : World) (hs : SilsAt w a L) (n : Nat) (hn : n = L.length) (hl : n ≤ 9223372036854775807) :
    Calls Tryz.prog 21 #[.slice a n c] w fun e w' => e = .returned (.bool (decide (LightS L))) ∧ w' = w := by
  have HN := Lib.hid hn
  have HS := Lib.hid hs
  by_cases h40 : 40 < n
  · have h40' : (40 : Int) < (n : Int) := by omega
    have hno : decide (LightS L) = false := decide_eq_false fun h => by have := h.1; omega
    rw [hno]
    clear hno hn hs h40
    go_enter Tryz.func21, Tryz.ntmps21
    go_wp2
    go_ret
    exact ⟨rfl, rfl⟩
  have h40' : ¬ (40 : Int) < (n : Int) := by omega
  obtain ⟨q, hq⟩ : ∃ q, q = decide (LightS L) := ⟨_, rfl⟩
  rw [← hq]
  have HQ := Lib.hid hq
  clear hq hn hs h40
  go_enter Tryz.func21, Tryz.ntmps21
  go_wp2
  go_loopw [3] (fun i wr => ∃ k : Nat, k ≤ n ∧ i = .int .i64 k ∧ wr = w ∧ Hid (∀ j (hj : j < L.length), j < k → L[j].s.ms.length ≤ 20)) (fun i _ => n - (intOf i).toNat)
  case atStart => exact ⟨0, Nat.zero_le _, rfl, rfl, Lib.hid (fun j _ h => by omega)⟩
  case round =>
    obtain ⟨k, hk, rfl, hwr, HF⟩ := hrel
    subst hwr
    by_cases hlt : k < n
    · have hkl : (k : Int) < (n : Int) := by omega
      have hkx : k < L.length := by have := HN.out; omega
      obtain ⟨b, o, rfl, hb, hc⟩ := HS.out (Nat.lt_of_le_of_lt (Nat.zero_le _) hkx)
      obtain ⟨⟨-, c1, -, -⟩, -⟩ := hc k hkx
      have HS2 : Hid (L[k].s.ms.length ≤ 20 → ∀ j (hj : j < L.length), j < k + 1 → L[j].s.ms.length ≤ 20) := Lib.hid (fun h j hj hjk => by
        by_cases e : j = k
        · subst e; exact h
        · exact HF.out j hj (by omega))
      have HS3 : Hid (20 < L[k].s.ms.length → q = false) := Lib.hid (fun h => by rw [HQ.out]; exact decide_eq_false fun h2 => by have := h2.2 k hkx; omega)
      generalize L[k].s.ms.length = m at *
      generalize L[k].ad = am at *
      generalize L[k].cp = cm at *
      clear hc hb hkx
      by_cases hm : 20 < m
      · have hm' : (20 : Int) < (m : Int) := by omega
        have hqf := HS3.out hm
        subst hqf
        clear hm HS2 HS3 HQ
        go_wp2
        go_ret
        exact ⟨rfl, rfl⟩
      · have hm' : ¬ (20 : Int) < (m : Int) := by omega
        have HS4 := Lib.hid (HS2.out (by omega))
        clear hm HS2 HS3
        go_wp2
        go_roundw
        case rel => exact ⟨k + 1, by omega, by go_num, trivial, HS4⟩
        case measure => simp [intOf]; omega
    · have hkl : ¬ (k : Int) < (n : Int) := by omega
      have hqt : q = true := by rw [HQ.out]; exact decide_eq_true ⟨by have := HN.out; omega, fun i hi => HF.out i hi (by have := HN.out; omega)⟩
      subst hqt
      clear HQ HF
      go_wp2
      go_ret
      exact ⟨rfl, rfl⟩

theorem any_next (p : Sm → Bool) (L : List Sm) (k : Nat) (hk : k < L.length) : (L.take (k + 1)).any p = ((L.take k).any p || p L[k]) := by
  rw [List.take_succ_eq_append_getElem hk, List.any_append]
  simp
/-- One of silences. -/
theorem SilsAt.nth {w : World} {b o : Nat} {L : List Sm} (h : SilsAt w (some ⟨b, o, none⟩) L) (k : Nat) (hk : k < L.length) : SilsAt w (some ⟨b, o + k * 4, none⟩) [L[k]] := fun _ => by
  obtain ⟨b', o', e, hb, hc⟩ := h (Nat.lt_of_le_of_lt (Nat.zero_le _) hk)
  simp only [Option.some.injEq, Addr.mk.injEq, and_true] at e
  obtain ⟨rfl, rfl⟩ := e
  refine ⟨b, o + k * 4, rfl, hb, fun i hi => ?_⟩
  obtain rfl : i = 0 := by have : i < 1 := hi; omega
  obtain ⟨⟨h1, h2, h3, h4⟩, hm⟩ := hc k hk
  simpa using And.intro (And.intro h1 (And.intro h2 (And.intro h3 h4))) hm

end Go.Proofs.YtcngifkoopcmeaaGreatDoor
