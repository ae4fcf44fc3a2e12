/-
  Arguments of layer 11, opened: a silence, silences; what the row's list of variables gives the walks.
-/
import Derived.Test.YtfllfmdopfeecabGreatDoorSE
import Derived.Test.YtfllfmdopfeecabGreatDoorMOpen
import Derived.Lib.SmallJoins
namespace Go.Proofs.YtfllfmdopfeecabGreatDoor
open Go.ChangeShapes Go.WideShapes Go.ChangeAt Go.RowKit Go.Deep

theorem gPow5 : Tryz.prog.globalNamed "internal/strconv.uint64pow10" = some 3 := by kernel_rfl
theorem gPowT5 : (Tryz.prog.globals[3]?).map (·.type) = some 184 := by kernel_rfl
theorem gSyn5 : Tryz.prog.globalNamed "strconv.ErrSyntax" = some 1 := by kernel_rfl
theorem gSynT5 : (Tryz.prog.globals[1]?).map (·.type) = some 127 := by kernel_rfl
theorem gRan5 : Tryz.prog.globalNamed "strconv.ErrRange" = some 2 := by kernel_rfl
theorem gRanT5 : (Tryz.prog.globals[2]?).map (·.type) = some 127 := by kernel_rfl
theorem cellsPow5 : Tryz.prog.cellsOf 184 = 20 := by kernel_rfl
theorem cellsU645 : Tryz.prog.cellsOf 108 = 1 := by kernel_rfl
theorem cellsErr5 : Tryz.prog.cellsOf 195 = 1 := by kernel_rfl
theorem star5 : "*errors.errorString" = "*" ++ "errors.errorString" := by decide
theorem rowErr5 (u : TypeId) (h : Tryz.prog.typeName? 3 u = some "*errors.errorString") : u = 193 :=
  typeName_ptr_named (nm := "errors.errorString") (by rw [← star5]; kernel_rfl) (by kernel_rfl) (by decide) u (by rw [← star5]; exact h)
/-- The list that every row of this seat bears. -/
def laid5 : List (String × DataW Unit) := [("math/bits.deBruijn32tab", Rows.laid_math_bits_deBruijn32tab), ("math/bits.deBruijn64tab", Rows.laid_math_bits_deBruijn64tab), ("internal/strconv.uint64pow10", Rows.laid_internal_strconv_uint64pow10), ("strconv.ErrRange", Rows.laid_strconv_ErrRange), ("strconv.ErrSyntax", Rows.laid_strconv_ErrSyntax)]
theorem lt_of_var5 {W : World} {n : String} {g : Nat} {cs : Array Value} (hg : Tryz.prog.globalNamed n = some g) (h : W.var? Tryz.prog n = some cs) : g < W.heap.size := by
  unfold World.var? at h
  simp only [hg, Option.bind_some] at h
  split at h
  · rename_i hb; exact (Array.getElem?_eq_some_iff.1 hb).1
  · cases h
theorem vars_of_laid5 {W : World} (h : laidMetH Tryz.prog laid5 W) : VarsOk W.heap.size W := by
  rw [Go.MakeChecks.laidMetH_plain _ _ _ (by kernel_rfl)] at h
  have h3 := h.tail.tail
  have htab : Lib.TabIs Tryz.prog W "internal/strconv.uint64pow10" .u64 Lib.pow10Tab :=
    Lib.tabIs_of_head gPow5 gPowT5 Tryz.underlying184 Tryz.underlying108 cellsU645 cellsPow5 h3
  obtain ⟨a0, s0, hv0, -, -, -⟩ := laid_sentinel h3.tail gRan5 gRanT5 Tryz.underlying127 rowErr5 Tryz.underlying193 Tryz.underlying195 rfl rfl Tryz.underlying9 cellsErr5 cellsStr1
  obtain ⟨a1, s1, hv1, -, -, -⟩ := laid_sentinel h3.tail.tail gSyn5 gSynT5 Tryz.underlying127 rowErr5 Tryz.underlying193 Tryz.underlying195 rfl rfl Tryz.underlying9 cellsErr5 cellsStr1
  intro w' hb
  exact ⟨Lib.tabBelow_of_tabIs htab w' hb, ⟨_, _, var?_below hb gSyn5 (lt_of_var5 gSyn5 hv1) hv1⟩, ⟨_, _, var?_below hb gRan5 (lt_of_var5 gRan5 hv0) hv0⟩⟩
theorem tab_of_laid5 {W : World} (h : laidMetH Tryz.prog laid5 W) : TabW W := by
  rw [Go.MakeChecks.laidMetH_plain _ _ _ (by kernel_rfl)] at h
  have htab : Lib.TabIs Tryz.prog W "math/bits.deBruijn64tab" .u8 (Lib.deBruijn64tab.map fun (n : Nat) => (n : Int)) :=
    Lib.tabIs_of_head gTab gTabT Tryz.underlying189 Tryz.underlying5 cellsU8 cellsTab h.tail
  intro j hj
  unfold Lib.TabIs World.var? at htab
  simp only [gTab, Option.bind_some] at htab
  split at htab
  · rename_i cs t fr hb
    injection htab with htab
    subst htab
    rw [cell_heap' hb]
    have hl : j < Lib.deBruijn64tab.length := hj
    simp [List.getD, hl]
  · cases htab
theorem door_met5 (os : Os) (args : Array Value) : laidMet Tryz.prog laid5 ((World.doorLaid Tryz.prog 62 os).forCall (fun _ _ => 0) ⟨#[], args, []⟩).memory :=
  laidMet_of_run' 8 (by kernel_rfl) (by kernel_rfl)

/-- A silence's numbers and matchers, as they fit. -/
def SmOk (y : Sm) : Prop := y.s.ms.length ≤ 9223372036854775807 ∧ (-9223372036854775808 ≤ y.s.st ∧ y.s.st ≤ 9223372036854775807) ∧ (-9223372036854775808 ≤ y.s.en ∧ y.s.en ≤ 9223372036854775807)
theorem cellsSil : Tryz.prog.cellsOf 27 = 4 := by kernel_rfl
theorem cellsMts1 : Tryz.prog.cellsOf 25 = 1 := by kernel_rfl
theorem cellsIn1 : Tryz.prog.cellsOf 3 = 1 := by kernel_rfl

section
variable {H : Type} {enc : TypeId × Value → H} {W : World} {base : Nat} {sp : Nat → Bool} {held : Bool} {fuel : Nat} {x : DataW H × List MemPlace}
set_option maxRecDepth 20000 in
theorem open_silC {cs : List Value} (h : DataW.trod enc Tryz.prog W base sp held fuel 27 cs = some x) : ∃ y : Sm, cs = encSm y ∧ MtsAt W y.ad y.s.ms ∧ SmOk y := by
  obtain ⟨y0, y1, y2, y3, n, -, hl, h0, h1, h2, h3⟩ := Go.Joins.trod_struct4 Tryz.underlying27 h
  rw [cellsSil] at hl
  match cs, hl with
  | [v0, v1, v2, v3], _ =>
    simp [cellsStr1, cellsMts1, cellsIn1] at h0 h1 h2 h3
    obtain ⟨s0, e0, f0, g0⟩ := DataW.trod_string Tryz.underlying9 h0
    obtain ⟨z2, e2, f2, g2⟩ := DataW.trod_int Tryz.underlying3 h2
    obtain ⟨z3, e3, f3, g3⟩ := DataW.trod_int Tryz.underlying3 h3
    simp only [List.cons.injEq, and_true] at e0 e2 e3
    subst e0 e2 e3
    have q3 : IntKind.i64.min = -9223372036854775808 := rfl
    have q4 : IntKind.i64.max = 9223372036854775807 := rfl
    have q7 : maxLen = 9223372036854775807 := rfl
    simp only [Lit.wf, Bool.and_eq_true, decide_eq_true_eq] at g2 g3
    obtain ⟨a, len, cap, rfl⟩ : ∃ a len cap, v1 = .slice a len cap := by
      rcases open_slice Tryz.underlying25 h1 with ⟨hcs, -⟩ | ⟨q, len', cap', m, n, D, Pl, hcs, -⟩
      · simp only [List.cons.injEq, and_true] at hcs; exact ⟨_, _, _, hcs⟩
      · simp only [List.cons.injEq, and_true] at hcs; exact ⟨_, _, _, hcs⟩
    obtain ⟨ms, hlen, hat, hml, -, -⟩ := open_matchers h1
    refine ⟨⟨⟨s0, ms, z2, z3⟩, a, cap⟩, by rw [← hlen]; rfl, hat, ?_⟩
    exact ⟨by dsimp only; omega, ⟨by dsimp only; omega, by dsimp only; omega⟩, by dsimp only; omega, by dsimp only; omega⟩
set_option maxRecDepth 20000 in
theorem open_silence {base' : Nat} {r0 : Reach} {v : Value} (hv : Value.okWide Tryz.prog W r0 base' 27 v) (h : DataW.trod enc Tryz.prog W base sp held fuel 27 v.cells.toList = some x) :
    ∃ y : Sm, v = .agg #[.string y.s.id, .slice y.ad y.s.ms.length y.cp, .int .i64 y.s.st, .int .i64 y.s.en] ∧ MtsAt W y.ad y.s.ms ∧ SmOk y := by
  obtain ⟨cs, rfl, hsz⟩ := okWide_struct Tryz.underlying27 hv
  obtain ⟨v0, v1, v2, v3, rfl⟩ := Go.Joins.array4 (hsz.trans cellsSil)
  obtain ⟨y, e, h1, h2⟩ := open_silC h
  simp only [Value.cells, encSm, List.cons.injEq, and_true] at e
  obtain ⟨rfl, rfl, rfl, rfl⟩ := e
  exact ⟨y, rfl, h1, h2⟩
set_option maxRecDepth 20000 in
theorem open_silences {a : Option Addr} {len cap : Nat} (h : DataW.trod enc Tryz.prog W base sp held fuel 34 [.slice a len cap] = some x) :
    ∃ L : List Sm, L.length = len ∧ SilsAt W a L ∧ len ≤ 9223372036854775807 ∧ len ≤ cap ∧ ∀ y ∈ L, SmOk y := by
  have q7 : maxLen = 9223372036854775807 := rfl
  rcases open_slice Tryz.underlying34 h with ⟨hcs, -⟩ | ⟨q, len', cap', m, n, D, Pl, hcs, hb, hl, hm, hmm, -, hc⟩
  · simp only [List.cons.injEq, Value.slice.injEq, and_true] at hcs
    obtain ⟨rfl, rfl, rfl⟩ := hcs
    exact ⟨[], rfl, fun hi => absurd hi (by simp), Nat.zero_le _, Nat.le_refl _, fun p hp => by cases hp⟩
  · simp only [List.cons.injEq, Value.slice.injEq, and_true] at hcs
    obtain ⟨rfl, rfl, rfl⟩ := hcs
    rw [cellsSil] at hc
    haveI : Inhabited Sm := ⟨⟨zeroS, none, 0⟩⟩
    have each : ∀ i, i < m → ∃ y : Sm, (W.cell? ((q.add (i * 4)).add 0) = some (.string y.s.id) ∧ W.cell? ((q.add (i * 4)).add 1) = some (.slice y.ad y.s.ms.length y.cp) ∧ W.cell? ((q.add (i * 4)).add 2) = some (.int .i64 y.s.st) ∧ W.cell? ((q.add (i * 4)).add 3) = some (.int .i64 y.s.en)) ∧ MtsAt W y.ad y.s.ms ∧ SmOk y := fun i hi => by
      obtain ⟨cs', h1, h2⟩ := hc i hi
      obtain ⟨-, -, hcell⟩ := World.cells?_some h1
      obtain ⟨y, rfl, hy, hz⟩ := open_silC h2
      exact ⟨y, ⟨hcell 0 (by omega), hcell 1 (by omega), hcell 2 (by omega), hcell 3 (by omega)⟩, hy, hz⟩
    obtain ⟨f, hf⟩ := choose_lt each
    have hlm : len ≤ m := by split at hmm <;> omega
    refine ⟨(List.range len).map f, by simp, fun hn => ?_, by omega, hl, fun y hy => ?_⟩
    · simp only [List.length_map, List.length_range] at hn
      obtain ⟨⟨hc0, -, -, -⟩, -⟩ := hf 0 (by omega)
      obtain ⟨b, o, s⟩ := q
      obtain rfl : s = none := by simpa [Addr.add] using World.cell?_spot hc0
      refine ⟨b, o, rfl, ?_, fun i hi => ?_⟩
      · have := World.block_lt_of_cell? W _ hc0
        simpa [Addr.add] using this
      · simp only [List.length_map, List.length_range] at hi
        obtain ⟨⟨k0, k1, k2, k3⟩, hm', -⟩ := hf i (by omega)
        simp only [Go.WideShapes.add_plain] at k0 k1 k2 k3
        simp only [List.getElem_map, List.getElem_range]
        exact ⟨⟨k0, k1, k2, k3⟩, hm'⟩
    · obtain ⟨i, hi, rfl⟩ := List.mem_map.1 hy
      exact (hf i (by have := List.mem_range.1 hi; omega)).2.2
end

end Go.Proofs.YtfllfmdopfeecabGreatDoor
