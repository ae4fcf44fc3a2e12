/-
  How large an entry's texts are, by the second form's bound. Arguments of layer 11, opened: entries with their bound, a time and labels.
-/
import Derived.Test.YtcngifkoopcmeaaGreatDoorK26
namespace Go.Proofs.YtcngifkoopcmeaaGreatDoor
open Go.ChangeShapes Go.WideShapes Go.ChangeAt Go.RowKit Go.Deep

theorem small_ent6 {H : Type} {ds : List (DataW H)} (h : Rows.uptoBulkAll ds ≤ 1048576) {x : Ent} (hm : datE x ∈ ds) : x.v.size ≤ 1048576 ∧ x.k.size ≤ 1048576 := by
  have h1 := bulk_mem hm
  simp only [datE, Rows.uptoBulk, Rows.uptoBulkAll] at h1
  have h2 : x.v.data.toList.length = x.v.size := rfl
  have h3 : x.k.data.toList.length = x.k.size := rfl
  omega

end Go.Proofs.YtcngifkoopcmeaaGreatDoor
namespace Go.Proofs.YtcngifkoopcmeaaGreatDoor
open Go.ChangeShapes Go.WideShapes Go.ChangeAt Go.RowKit Go.Deep

section
variable {H : Type} {enc : TypeId × Value → H} {W : World} {base : Nat} {sp : Nat → Bool} {held : Bool} {fuel : Nat} {x : DataW H × List MemPlace}
set_option maxRecDepth 20000 in
theorem open_entries6 {a : Option Addr} {len cap : Nat} (h : DataW.trod enc Tryz.prog W base sp held fuel 72 [.slice a len cap] = some x) :
    ∃ l : List Ent, l.length = len ∧ EntsAt W a l ∧ l.length ≤ 9223372036854775807 ∧ (x.1 = .nil ∧ l = [] ∨ ∃ spare, x.1 = .slice (l.map datE) spare) := by
  have kM : maxLen = 9223372036854775807 := rfl
  rcases open_slice Tryz.underlying72 h with ⟨hcs, hx⟩ | ⟨q, len', cap', m, n, D, Pl, hcs, hb, hl, hm, hmm, hx, hc⟩
  · simp only [List.cons.injEq, Value.slice.injEq, and_true] at hcs
    obtain ⟨rfl, rfl, rfl⟩ := hcs
    exact ⟨[], rfl, fun hi => absurd hi (by simp), Nat.zero_le _, .inl ⟨by rw [hx], rfl⟩⟩
  · simp only [List.cons.injEq, Value.slice.injEq, and_true] at hcs
    obtain ⟨rfl, rfl, rfl⟩ := hcs
    rw [cellsEn] at hc
    haveI : Inhabited Ent := ⟨zeroE⟩
    have each : ∀ i, i < m → ∃ y : Ent, W.cells? base (q.add (i * 5)) 5 = some (encE y) ∧ D i = datE y := fun i hi => by
      obtain ⟨cs', h1, h2⟩ := hc i hi
      obtain ⟨y, rfl, h3, h4⟩ := open_entryC h2
      simp only [Prod.mk.injEq] at h4
      exact ⟨y, h1, h4.1⟩
    obtain ⟨f, hf⟩ := choose_lt each
    have hlm : len ≤ m := by split at hmm <;> omega
    refine ⟨(List.range len).map f, by simp, fun hn => ?_, by simp; omega, .inr ⟨_, by
      rw [hx]
      simp only [List.map_map]
      congr 1
      refine List.map_congr_left fun i hi => ?_
      exact (hf i (by have := List.mem_range.1 hi; omega)).2⟩⟩
    simp only [List.length_map, List.length_range] at hn
    obtain ⟨hc0, -⟩ := hf 0 (by omega)
    have hc00 := (World.cells?_some hc0).2.2 0 (by decide)
    obtain ⟨b, o, s⟩ := q
    obtain rfl : s = none := by simpa [Addr.add] using World.cell?_spot hc00
    refine ⟨b, o, rfl, ?_, fun i hi => ?_⟩
    · have := World.block_lt_of_cell? W _ hc00
      simpa [Addr.add] using this
    · simp only [List.length_map, List.length_range] at hi
      obtain ⟨c0, -⟩ := hf i (by omega)
      simp only [List.getElem_map, List.getElem_range]
      intro j v hv
      obtain ⟨-, hk, hcell⟩ := World.cells?_some c0
      have hj := (List.getElem?_eq_some_iff.1 hv).1
      have := (hcell j (by omega)).trans hv
      rw [Go.WideShapes.add_plain, Go.WideShapes.add_plain] at this
      exact this
theorem ents_bound6 {ds : List (DataW H)} (h : Rows.uptoBulkAll ds ≤ 1048576) {d : DataW H} (hm : d ∈ ds) {l : List Ent} (hd : d = .nil ∧ l = [] ∨ ∃ spare, d = .slice (l.map datE) spare) : ∀ y ∈ l, y.v.size ≤ 1048576 ∧ y.k.size ≤ 1048576 := fun y hy => by
  rcases hd with ⟨-, rfl⟩ | ⟨spare, rfl⟩
  · cases hy
  · have h1 := bulk_mem hm
    have h2 : Rows.uptoBulkAll (l.map (datE (H := H))) ≤ Rows.uptoBulk (.slice (l.map (datE (H := H))) spare) := by
      simp only [Rows.uptoBulk]
      omega
    exact small_ent6 (Nat.le_trans h2 (Nat.le_trans h1 h)) (List.mem_map_of_mem hy)
theorem cellsSp11 : Tryz.prog.cellsOf 74 = 2 := by kernel_rfl
theorem arrayTwoY {cs : Array Value} (h : cs.size = 2) : ∃ c0 c1, cs = #[c0, c1] := by
  obtain ⟨l⟩ := cs
  match l, h with
  | [c0, c1], _ => exact ⟨c0, c1, rfl⟩
theorem trod_twoY {t : TypeId} {f0 f1 : Field} {cs : List Value} (ht : Tryz.prog.underlying t = some (.struct #[f0, f1])) (h : DataW.trod enc Tryz.prog W base sp held fuel t cs = some x) :
    ∃ y0 y1 n, DataW.trod enc Tryz.prog W base sp held n f0.type ((cs.drop f0.offset).take (Tryz.prog.cellsOf f0.type)) = some y0 ∧ DataW.trod enc Tryz.prog W base sp held n f1.type ((cs.drop f1.offset).take (Tryz.prog.cellsOf f1.type)) = some y1 := by
  obtain ⟨xs, n, _, -, hl, hlen, hf⟩ := DataW.trod_struct ht h
  match xs, hlen with
  | [y0, y1], _ => exact ⟨y0, y1, n, by simpa using hf 0 f0 rfl, by simpa using hf 1 f1 rfl⟩
theorem cellsPs1 : Tryz.prog.cellsOf 40 = 1 := by kernel_rfl
set_option maxRecDepth 20000 in
theorem open_spot11 {base' : Nat} {r0 : Reach} {v : Value} (hv : Value.okWide Tryz.prog W r0 base' 74 v) (h : DataW.trod enc Tryz.prog W base sp held fuel 74 v.cells.toList = some x) :
    ∃ (n : Int) (a : Option Addr) (c : Nat) (ps : List Pr), v = .agg #[.int .i64 n, .slice a ps.length c] ∧ PairsAt W a ps ∧ ps.length ≤ 9223372036854775807 := by
  obtain ⟨cs, rfl, hsz⟩ := okWide_struct Tryz.underlying74 hv
  obtain ⟨v0, v1, rfl⟩ := arrayTwoY (hsz.trans cellsSp11)
  obtain ⟨y0, y1, n, h0, h1⟩ := trod_twoY Tryz.underlying74 h
  simp [Value.cells, cellsIn1, cellsPs1] at h0 h1
  obtain ⟨z, e0, -⟩ := DataW.trod_int Tryz.underlying3 h0
  simp only [List.cons.injEq, and_true] at e0
  subst e0
  obtain ⟨a, len, cap, rfl⟩ : ∃ a len cap, v1 = .slice a len cap := by
    rcases open_slice Tryz.underlying40 h1 with ⟨hcs, -⟩ | ⟨q, len', cap', m, n, D, Pl, hcs, -⟩
    · simp only [List.cons.injEq, and_true] at hcs; exact ⟨_, _, _, hcs⟩
    · simp only [List.cons.injEq, and_true] at hcs; exact ⟨_, _, _, hcs⟩
  obtain ⟨ps, hlen, hat, hml, -, -⟩ := open_pairsM h1
  have kM : maxLen = 9223372036854775807 := rfl
  exact ⟨z, a, cap, ps, by rw [hlen], hat, by omega⟩
end

end Go.Proofs.YtcngifkoopcmeaaGreatDoor
