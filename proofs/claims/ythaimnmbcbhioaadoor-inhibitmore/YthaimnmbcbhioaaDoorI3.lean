/-
  Arguments of layer 6, opened: a rule, lists of labels. The closed case of every statement of layer 6: it answers true, whatever else lies in memory.
-/
import Derived.Test.YthaimnmbcbhioaaDoorI2
namespace Go.Proofs.YthaimnmbcbhioaaDoor
open Go.ChangeAt Go.ChangeShapes Go.Deep Go.RowKit Go.WideShapes

section
variable {H : Type} {enc : TypeId × Value → H} {W : World} {base : Nat} {sp : Nat → Bool} {held : Bool} {fuel : Nat} {x : DataW H × List MemPlace}

theorem open_cap {t e : TypeId} {a : Option Addr} {len cap : Nat} (ht : Tryd.prog.underlying t = some (.slice e)) (h : DataW.trod enc Tryd.prog W base sp held fuel t [.slice a len cap] = some x) : len ≤ cap ∧ (a = none → cap = 0) := by
  rcases open_slice ht h with ⟨hcs, -⟩ | ⟨q, len', cap', m, n, D, Pl, hcs, hb, hl, hm, hmm, -, hc⟩
  · simp only [List.cons.injEq, Value.slice.injEq, and_true] at hcs
    obtain ⟨rfl, rfl, rfl⟩ := hcs
    exact ⟨Nat.le_refl _, fun _ => rfl⟩
  · simp only [List.cons.injEq, Value.slice.injEq, and_true] at hcs
    obtain ⟨rfl, rfl, rfl⟩ := hcs
    exact ⟨hl, fun h => by cases h⟩

set_option maxRecDepth 20000 in
theorem open_ruleV {base' : Nat} {r : Reach} {v : Value} (hv : Value.okWide Tryd.prog W r base' 38 v) (h : DataW.trod enc Tryd.prog W base sp held fuel 38 v.cells.toList = some x) :
    ∃ r : Rl, v = .agg #[.slice r.sa r.src.length r.sc, .slice r.ta r.tgt.length r.tc, .slice r.ea r.eqs.length r.ec] ∧ RlAt W r ∧ RlOk r := by
  obtain ⟨cs, rfl, -⟩ := okWide_struct Tryd.underlying38 hv
  obtain ⟨r, h1, h2, h3⟩ := open_rule (cs := cs.toList) (by simpa [Value.cells] using h)
  refine ⟨r, ?_, h2, h3⟩
  rw [← Array.toList_inj.1 (show cs.toList = #[Value.slice r.sa r.src.length r.sc, .slice r.ta r.tgt.length r.tc, .slice r.ea r.eqs.length r.ec].toList from h1)]

theorem cellsPs1 : Tryd.prog.cellsOf 39 = 1 := by kernel_rfl
set_option maxRecDepth 20000 in
theorem open_pairss {cs : List Value} (h : DataW.trod enc Tryd.prog W base sp held fuel 48 cs = some x) :
    ∃ (a : Option Addr) (c : Nat) (l : List Lb), cs = [.slice a l.length c] ∧ LbsAt W a l ∧ l.length ≤ maxLen ∧ ∀ y ∈ l, LbOk y := by
  rcases open_slice Tryd.underlying48 h with ⟨rfl, -⟩ | ⟨q, len, cap, m, n, D, Pl, rfl, hb, hl, hm, hmm, -, hc⟩
  · exact ⟨none, 0, [], rfl, fun hi => absurd hi (by simp), Nat.zero_le _, fun p hp => by cases hp⟩
  · rw [cellsPs1] at hc
    haveI : Inhabited Lb := ⟨⟨none, 0, []⟩⟩
    have each : ∀ i, i < m → ∃ y : Lb, W.cell? ((q.add (i * 1)).add 0) = some (.slice y.a y.ps.length y.c) ∧ PairsAt W y.a y.ps ∧ LbOk y := fun i hi => by
      obtain ⟨cs', h1, h2⟩ := hc i hi
      obtain ⟨-, -, hcell⟩ := World.cells?_some h1
      obtain ⟨a, len, cap, rfl⟩ := slice_cs Tryd.underlying39 h2
      obtain ⟨ps, rfl, k1, k2, k3, -⟩ := open_pairs h2
      exact ⟨⟨a, cap, ps⟩, hcell 0 (by omega), k1, k2, fun p hp => (k3 p hp).2⟩
    obtain ⟨f, hf⟩ := choose_lt each
    have hlm : len ≤ m := by split at hmm <;> omega
    refine ⟨some q, cap, (List.range len).map f, by simp, fun hn => ?_, by simp; omega, fun y hy => ?_⟩
    · simp only [List.length_map, List.length_range] at hn
      obtain ⟨hc0, -⟩ := hf 0 (by omega)
      obtain ⟨b, o, s⟩ := q
      obtain rfl : s = none := by simpa [Addr.add] using World.cell?_spot hc0
      refine ⟨b, o, rfl, ?_, fun i hi => ?_⟩
      · have := World.block_lt_of_cell? W _ hc0
        simpa [Addr.add] using this
      · simp only [List.length_map, List.length_range] at hi
        obtain ⟨c0, c1, -⟩ := hf i (by omega)
        rw [Go.WideShapes.add_plain, Go.WideShapes.add_plain] at c0
        simp only [List.getElem_map, List.getElem_range]
        exact ⟨by simpa using c0, c1⟩
    · obtain ⟨i, hi, rfl⟩ := List.mem_map.1 hy
      exact (hf i (by have := List.mem_range.1 hi; omega)).2.2
end

theorem iErr0 (x : UInt8) : mErr (⟨#[97]⟩, 0, ⟨#[x]⟩) = 0 := by
  unfold mErr
  rw [if_neg (Classical.not_not.2 nameA)]
  rfl
def psO : List Pr := [(⟨#[97]⟩, ⟨#[49]⟩), (⟨#[106, 111, 98]⟩, ⟨#[120]⟩)]
def qsO : List Pr := [(⟨#[97]⟩, ⟨#[50]⟩), (⟨#[106, 111, 98]⟩, ⟨#[120]⟩)]
def qsN : List Pr := [(⟨#[97]⟩, ⟨#[50]⟩)]
def rlO (B : Nat) : Rl := ⟨some ⟨B, 0, none⟩, 1, [(⟨#[97]⟩, 0, ⟨#[49]⟩)], some ⟨B + 1, 0, none⟩, 1, [(⟨#[97]⟩, 0, ⟨#[50]⟩)], some ⟨B + 1 + 1, 0, none⟩, 1, [⟨#[106, 111, 98]⟩]⟩
theorem gvO1 : getV psO (ByteArray.mk #[97]).toList = ⟨#[49]⟩ := by unfold getV psO nm; simp [ByteArray.toList_eq]
theorem gvO2 : getV qsO (ByteArray.mk #[97]).toList = ⟨#[50]⟩ := by unfold getV qsO nm; simp [ByteArray.toList_eq]
theorem gvO3 : getV psO (ByteArray.mk #[106, 111, 98]).toList = ⟨#[120]⟩ := by unfold getV psO nm; simp [ByteArray.toList_eq]
theorem gvO4 : getV qsO (ByteArray.mk #[106, 111, 98]).toList = ⟨#[120]⟩ := by unfold getV qsO nm; simp [ByteArray.toList_eq]
theorem gvO5 : getV qsN (ByteArray.mk #[106, 111, 98]).toList = ⟨#[]⟩ := by unfold getV qsN nm; simp [ByteArray.toList_eq]
theorem askO1 : mAsk psO (⟨#[97]⟩, 0, ⟨#[49]⟩) := ⟨iErr0 49, .inl ⟨rfl, by rw [gvO1]⟩⟩
theorem askO2 : mAsk qsO (⟨#[97]⟩, 0, ⟨#[50]⟩) := ⟨iErr0 50, .inl ⟨rfl, by rw [gvO2]⟩⟩
theorem askO3 : ¬ mAsk psO (⟨#[97]⟩, 0, ⟨#[50]⟩) := by
  rintro ⟨-, ⟨-, h⟩ | ⟨h, -⟩ | ⟨h, -⟩ | ⟨h, -⟩⟩
  · rw [gvO1, ByteArray.toList_eq, ByteArray.toList_eq] at h
    revert h
    decide
  · cases h
  · cases h
  · cases h
theorem iby1 (B : Nat) : byP (rlO B) psO qsO := by
  refine ⟨fun s hs => ?_, fun m hm => ?_, fun m hm => ?_, fun h => askO3 (h.1 _ (List.mem_singleton.2 rfl))⟩
  · rw [List.mem_singleton.1 hs, gvO3, gvO4]
  · rw [List.mem_singleton.1 hm]; exact askO1
  · rw [List.mem_singleton.1 hm]; exact askO2
theorem iby2 (B : Nat) : ¬ byP (rlO B) psO qsN := by
  rintro ⟨h, -⟩
  have := h ⟨#[106, 111, 98]⟩ (List.mem_singleton.2 rfl)
  rw [gvO3, gvO5] at this
  revert this
  decide
theorem rlO_ok (B : Nat) : RlOk (rlO B) := by
  have k : maxLen = 9223372036854775807 := rfl
  have one : ∀ (m : Mt), m.1.size ≤ 1 → m.2.2.size ≤ 1 → MtsOk [m] := fun m h1 h2 => ⟨by simp; omega, fun x hx => by rw [List.mem_singleton.1 hx]; omega⟩
  exact ⟨one _ (by decide) (by decide), one _ (by decide) (by decide), ⟨by show (1 : Nat) ≤ maxLen; rw [k]; decide, fun s hs => by rw [List.mem_singleton.1 hs, k]; decide⟩, Nat.le_refl _⟩
theorem mts_one {w : World} {B : Nat} {n v : ByteArray} {o : Nat} (h : w.heap[B]? = some (.cells #[.string n, .int .u8 (o : Int), .string v] 36 (0, 0))) : MtsAt w (some ⟨B, 0, none⟩) [(n, o, v)] := fun _ => ⟨B, 0, rfl, lt_of_block h, fun i hi => by
  obtain rfl : i = 0 := by simpa using hi
  exact ⟨cell_heap h, cell_heap h, cell_heap h⟩⟩
theorem strs_one {w : World} {B : Nat} {n : ByteArray} (h : w.heap[B]? = some (.cells #[.string n] 9 (0, 0))) : StrsAt w (some ⟨B, 0, none⟩) [n] := fun _ => ⟨B, 0, rfl, lt_of_block h, fun i hi => by
  obtain rfl : i = 0 := by simpa using hi
  exact cell_heap h⟩
theorem pairs_one {w : World} {B : Nat} {n v : ByteArray} (h : w.heap[B]? = some (.cells #[.string n, .string v] 55 (0, 0))) : PairsAt w (some ⟨B, 0, none⟩) [(n, v)] := fun _ => ⟨B, 0, rfl, fun i hi => by
  obtain rfl : i = 0 := by simpa using hi
  exact ⟨cell_heap h, cell_heap h⟩⟩
theorem pairs_two {w : World} {B : Nat} {n v n' v' : ByteArray} (h : w.heap[B]? = some (.cells #[.string n, .string v, .string n', .string v'] 55 (0, 0))) : PairsAt w (some ⟨B, 0, none⟩) [(n, v), (n', v')] := fun _ => ⟨B, 0, rfl, fun i hi => by
  rcases (by simp at hi; omega : i = 0 ∨ i = 1) with rfl | rfl
  · exact ⟨cell_heap h, cell_heap h⟩
  · exact ⟨cell_heap h, cell_heap h⟩⟩

set_option maxRecDepth 20000 in
set_option maxHeartbeats 4000000 in
theorem iawake_any (w : World) (htab : TabW w) : Calls Tryd.prog 20 #[] w fun e w' => e = .returned (.bool true) ∧ Below w.heap.size w w' := by
  have htl := htab.lt
  obtain ⟨w1, hw1⟩ : ∃ x, x = w.alloc (.cells #[.string ⟨#[97]⟩, .int .u8 0, .string ⟨#[49]⟩] 36) := ⟨_, rfl⟩
  obtain ⟨w2, hw2⟩ : ∃ x, x = w1.alloc (.cells #[.string ⟨#[97]⟩, .int .u8 0, .string ⟨#[50]⟩] 36) := ⟨_, rfl⟩
  obtain ⟨w3, hw3⟩ : ∃ x, x = w2.alloc (.cells #[.string ⟨#[106, 111, 98]⟩] 9) := ⟨_, rfl⟩
  obtain ⟨w4, hw4⟩ : ∃ x, x = w3.alloc (.cells #[.slice (some ⟨w.heap.size, 0, none⟩) 1 1, .slice (some ⟨w.heap.size + 1, 0, none⟩) 1 1, .slice (some ⟨w.heap.size + 1 + 1, 0, none⟩) 1 1] 38) := ⟨_, rfl⟩
  obtain ⟨w5, hw5⟩ : ∃ x, x = w4.alloc (.cells #[.string ⟨#[97]⟩, .string ⟨#[49]⟩, .string ⟨#[106, 111, 98]⟩, .string ⟨#[120]⟩] 55) := ⟨_, rfl⟩
  obtain ⟨w6, hw6⟩ : ∃ x, x = w5.alloc (.cells #[.string ⟨#[97]⟩, .string ⟨#[50]⟩, .string ⟨#[106, 111, 98]⟩, .string ⟨#[120]⟩] 55) := ⟨_, rfl⟩
  have s1 : w1.heap.size = w.heap.size + 1 := by rw [hw1]; simp
  have s2 : w2.heap.size = w.heap.size + 1 + 1 := by rw [hw2]; simp [s1]
  have s3 : w3.heap.size = w.heap.size + 1 + 1 + 1 := by rw [hw3]; simp [s2]
  have s4 : w4.heap.size = w.heap.size + 1 + 1 + 1 + 1 := by rw [hw4]; simp [s3]
  have s5 : w5.heap.size = w.heap.size + 1 + 1 + 1 + 1 + 1 := by rw [hw5]; simp [s4]
  have d1 : Below w.heap.size w w1 := by rw [hw1]; exact (Below.refl w.heap.size w).alloc (Nat.le_refl _) _
  have d2 : Below w1.heap.size w1 w2 := by rw [hw2]; exact (Below.refl w1.heap.size w1).alloc (Nat.le_refl _) _
  have d3 : Below w2.heap.size w2 w3 := by rw [hw3]; exact (Below.refl w2.heap.size w2).alloc (Nat.le_refl _) _
  have d4 : Below w3.heap.size w3 w4 := by rw [hw4]; exact (Below.refl w3.heap.size w3).alloc (Nat.le_refl _) _
  have d5 : Below w4.heap.size w4 w5 := by rw [hw5]; exact (Below.refl w4.heap.size w4).alloc (Nat.le_refl _) _
  have d6 : Below w5.heap.size w5 w6 := by rw [hw6]; exact (Below.refl w5.heap.size w5).alloc (Nat.le_refl _) _
  have m1 : MtsAt w1 (some ⟨w.heap.size, 0, none⟩) [(⟨#[97]⟩, 0, ⟨#[49]⟩)] := by rw [hw1]; exact mts_one (heap_new w _)
  have m2 : MtsAt w2 (some ⟨w.heap.size + 1, 0, none⟩) [(⟨#[97]⟩, 0, ⟨#[50]⟩)] := by rw [hw2, ← s1]; exact mts_one (heap_new w1 _)
  have m3 : StrsAt w3 (some ⟨w.heap.size + 1 + 1, 0, none⟩) [⟨#[106, 111, 98]⟩] := by rw [hw3, ← s2]; exact strs_one (heap_new w2 _)
  have d23 := d2.trans (d3.mono d2.size)
  have r3 : RlAt w3 (rlO w.heap.size) := ⟨m1.below d23 (Nat.le_refl _), m2.below d3 (Nat.le_refl _), m3⟩
  have d46 := (d4.trans (d5.mono d4.size)).trans (d6.mono (Nat.le_trans d4.size d5.size))
  have r6 : RlAt w6 (rlO w.heap.size) := r3.below d46 (Nat.le_refl _)
  have k4 : RlBlk w4 (w.heap.size + 1 + 1 + 1) (rlO w.heap.size) := by rw [hw4, ← s3]; exact heap_new w3 _
  have d56 := d5.trans (d6.mono d5.size)
  have k6 := k4.below d56
  have p5 : PairsAt w5 (some ⟨w.heap.size + 1 + 1 + 1 + 1, 0, none⟩) psO := by rw [hw5, ← s4]; exact pairs_two (heap_new w4 _)
  have p6 := p5.below d6 (Nat.le_refl _)
  have q6 : PairsAt w6 (some ⟨w.heap.size + 1 + 1 + 1 + 1 + 1, 0, none⟩) qsO := by rw [hw6, ← s5]; exact pairs_two (heap_new w5 _)
  have e6 : Below w.heap.size w w6 := d1.trans ((d23.trans (d46.mono d23.size)).mono d1.size)
  have H1 := Lib.hid (iBy_any (rlO w.heap.size) (some ⟨w.heap.size + 1 + 1 + 1 + 1, 0, none⟩) 2 psO (some ⟨w.heap.size + 1 + 1 + 1 + 1 + 1, 0, none⟩) 2 qsO w6 (htab.on e6 htl) r6 (rlO_ok _) p6 q6 (by decide) (by decide) (by decide) (by decide))
  have H2 := Lib.hid (fun u (hb : Below w6.heap.size w6 u) (hq : PairsAt u (some ⟨u.heap.size - 1, 0, none⟩) qsN) => iBy_any (rlO w.heap.size) (some ⟨w.heap.size + 1 + 1 + 1 + 1, 0, none⟩) 2 psO (some ⟨u.heap.size - 1, 0, none⟩) 1 qsN u (htab.on (e6.trans (hb.mono e6.size)) htl) (r6.below hb (Nat.le_refl _)) (rlO_ok _) (p6.below hb (Nat.le_refl _)) hq (by decide) (by decide) (by decide) (by decide))
  have K6 := Lib.hid k6
  have E6 := Lib.hid e6
  have c0 : w6.cell? ⟨w.heap.size + 1 + 1 + 1, 0, none⟩ = some (.slice (some ⟨w.heap.size, 0, none⟩) 1 1) := k6.c0
  clear d1 d2 d3 d4 d5 d6 m1 m2 m3 r3 r6 k4 k6 p5 p6 q6 d23 d46 d56 e6 htab c0 s1 s2 s3 s4 s5
  rw [show (rlO w.heap.size).sa = some ⟨w.heap.size, 0, none⟩ from rfl, show (rlO w.heap.size).ta = some ⟨w.heap.size + 1, 0, none⟩ from rfl, show (rlO w.heap.size).ea = some ⟨w.heap.size + 1 + 1, 0, none⟩ from rfl, show (rlO w.heap.size).src.length = 1 from rfl, show (rlO w.heap.size).tgt.length = 1 from rfl, show (rlO w.heap.size).eqs.length = 1 from rfl, show (rlO w.heap.size).sc = 1 from rfl, show (rlO w.heap.size).tc = 1 from rfl, show (rlO w.heap.size).ec = 1 from rfl, show psO.length = 2 from rfl, show qsO.length = 2 from rfl] at H1
  simp only [show (rlO w.heap.size).sa = some ⟨w.heap.size, 0, none⟩ from rfl, show (rlO w.heap.size).ta = some ⟨w.heap.size + 1, 0, none⟩ from rfl, show (rlO w.heap.size).ea = some ⟨w.heap.size + 1 + 1, 0, none⟩ from rfl, show (rlO w.heap.size).src.length = 1 from rfl, show (rlO w.heap.size).tgt.length = 1 from rfl, show (rlO w.heap.size).eqs.length = 1 from rfl, show (rlO w.heap.size).sc = 1 from rfl, show (rlO w.heap.size).tc = 1 from rfl, show (rlO w.heap.size).ec = 1 from rfl, show psO.length = 2 from rfl, show qsN.length = 1 from rfl] at H2
  subst hw6 hw5 hw4 hw3 hw2 hw1
  go_enter Tryd.func20, Tryd.ntmps20
  go_wp2_with (go_at_call 21; refine H1.out.mono ?_; rintro e w7 ⟨ht, q7⟩; obtain rfl := tells_yes ht (iby1 _); clear ht; refine Hid.out ?_)
  refine Lib.hid ?_
  have k7 := K6.out.below q7
  have c0 : w7.cell? ⟨w.heap.size + 1 + 1 + 1, 0, none⟩ = some (.slice (some ⟨w.heap.size, 0, none⟩) 1 1) := k7.c0
  have c1 : w7.cell? ⟨w.heap.size + 1 + 1 + 1, 1, none⟩ = some (.slice (some ⟨w.heap.size + 1, 0, none⟩) 1 1) := k7.c1
  have c2 : w7.cell? ⟨w.heap.size + 1 + 1 + 1, 2, none⟩ = some (.slice (some ⟨w.heap.size + 1 + 1, 0, none⟩) 1 1) := k7.c2
  have d7 := (Below.refl w7.heap.size w7).alloc (Nat.le_refl _) (.cells #[.string ⟨#[97]⟩, .string ⟨#[50]⟩] 55)
  have p8 : PairsAt (w7.alloc (.cells #[.string ⟨#[97]⟩, .string ⟨#[50]⟩] 55)) (some ⟨w7.heap.size, 0, none⟩) qsN := pairs_one (heap_new w7 _)
  have s8 : (w7.alloc (.cells #[.string ⟨#[97]⟩, .string ⟨#[50]⟩] 55)).heap.size - 1 = w7.heap.size := by simp
  have H3 := H2.out (w7.alloc (.cells #[.string ⟨#[97]⟩, .string ⟨#[50]⟩] 55)) (q7.trans (d7.mono q7.size)) (by rw [s8]; exact p8)
  rw [s8] at H3
  have HH3 := Lib.hid H3
  have E8 := Lib.hid ((E6.out.trans (q7.mono E6.out.size)).trans (d7.mono (E6.out.trans (q7.mono E6.out.size)).size))
  clear H3 p8 d7 q7 k7 H1 H2 K6 E6 s8
  go_wp2_with (go_at_call 21; refine HH3.out.mono ?_; rintro e w9 ⟨ht, q9⟩; obtain rfl := tells_no ht (iby2 _); clear ht)
  go_ret
  exact ⟨rfl, E8.out.trans (q9.mono E8.out.size)⟩

end Go.Proofs.YthaimnmbcbhioaaDoor
