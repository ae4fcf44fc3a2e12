/-
  A slice of slices of bytes that a call grows.
-/
import Derived.Test.YtchhdffehkcecaaDoorPut2
import Derived.Maps.AppendAt
import Derived.Lib.SlBytesConst
import Derived.Shelf.Bytes.SlSmallAll
namespace Go.Proofs.YtchhdffehkcecaaDoor
open Go.RowKit

theorem infoBytes : (Tryd.prog.info? 30).map (fun i => (i.zero, i.size, i.bytes)) = some (some (.slice none 0 0), 1, 24) := by kernel_rfl

/-- A row of the call's own whose elements are slices of bytes, none of which lies in the row's own block. -/
structure RowOf (w : World) (B : Nat) (v : Value) (vs : List Value) (ls : List (List UInt8)) : Prop where
  own : w.ownsRow B 30 1 v vs.length vs
  len : vs.length = ls.length
  src : ∀ j (hj : j < vs.length), SrcAt w vs[j] (ls[j]'(by omega))
  apart : ∀ j (_ : j < vs.length) q n c, vs[j] = .slice (some q) n c → some q.block ≠ v.ownBlock
  lt : ∀ j (_ : j < vs.length) q n c, vs[j] = .slice (some q) n c → q.block < w.heap.size

theorem RowOf.nil (w : World) (B : Nat) : RowOf w B (.slice none 0 0) [] [] :=
  ⟨World.ownsRow_nil _ _ _ _, rfl, fun _ hj => absurd hj (Nat.not_lt_zero _), fun _ hj => absurd hj (Nat.not_lt_zero _), fun _ hj => absurd hj (Nat.not_lt_zero _)⟩

theorem RowOf.below {w w' : World} {B : Nat} {v : Value} {vs : List Value} {ls : List (List UInt8)} (h : RowOf w B v vs ls) (hb : Below w.heap.size w w') : RowOf w' B v vs ls :=
  ⟨h.own.kept (grownBy_of_below (r := none) hb) (by cases hv : v.ownBlock <;> simp), h.len, fun j hj => (h.src j hj).below hb (Nat.le_refl _), h.apart, fun j hj q n c e => Nat.lt_of_lt_of_le (h.lt j hj q n c e) hb.size⟩

theorem own_block_lt {w : World} {B : Nat} {v : Value} {l : List UInt8} (h : Own w B v l) : ∀ q n c, v = .slice (some q) n c → B ≤ q.block ∧ q.block < w.heap.size := by
  rintro q n c rfl
  exact World.ownsRow.lt h q.block rfl

/-- One part more. -/
theorem RowOf.step {w w1 w2 : World} {B : Nat} {v v' x : Value} {vs : List Value} {ls : List (List UInt8)} {l : List UInt8} {o : Obj} (h : RowOf w B v vs ls) (hb : Below w.heap.size w w1) (hx : Own w1 w.heap.size x l)
    (hown : w2.ownsRow B 30 1 v' (vs.length + 1) (vs ++ [x])) (hg : (w1.alloc o).grownBy w2 v.ownBlock) (hat : v'.ownBlock = v.ownBlock ∨ v'.ownBlock = some (w1.heap.size + 1)) : RowOf w2 B v' (vs ++ [x]) (ls ++ [l]) := by
  have hb1 : Below w1.heap.size w1 (w1.alloc o) := (Below.refl _ _).alloc (Nat.le_refl _) _
  have h1 := (h.below hb).below hb1
  have hvlt : ∀ k, v.ownBlock = some k → k < w.heap.size := fun k hk => (h.own.lt k hk).2
  have hxs := hx.src.below hb1 (Nat.le_refl _)
  refine ⟨by simpa using hown, by simp [h.len], fun j hj => ?_, fun j hj q n c e => ?_, fun j hj q n c e => ?_⟩
  · by_cases hj1 : j < vs.length
    · simp only [List.getElem_append_left hj1, List.getElem_append_left (show j < ls.length by have := h.len; omega)]
      exact (h1.src j hj1).grown hg (h1.apart j hj1)
    · have hj2 : j = vs.length := by simp at hj; omega
      subst hj2
      simp only [List.getElem_append_right (Nat.le_refl _), Nat.sub_self, List.getElem_singleton, List.getElem_append_right (show ls.length ≤ vs.length by have := h.len; omega), show vs.length - ls.length = 0 by have := h.len; omega]
      refine hxs.grown hg fun q n c e e2 => ?_
      have h2 := own_block_lt hx q n c e
      have h3 := hvlt q.block e2.symm
      omega
  · by_cases hj1 : j < vs.length
    · rw [List.getElem_append_left hj1] at e
      rcases hat with hat | hat
      · rw [hat]; exact h.apart j hj1 q n c e
      · rw [hat]
        intro e2
        simp only [Option.some.injEq] at e2
        have h2 := h.lt j hj1 q n c e
        have h3 := hb.size
        omega
    · have hj2 : j = vs.length := by simp at hj; omega
      subst hj2
      simp only [List.getElem_append_right (Nat.le_refl _), Nat.sub_self, List.getElem_singleton] at e
      have h2 := own_block_lt hx q n c e
      rcases hat with hat | hat
      · rw [hat]; intro e2; have h3 := hvlt q.block e2.symm; omega
      · rw [hat]; intro e2; simp only [Option.some.injEq] at e2; omega
  · have hs := hg.size
    simp only [World.size_alloc] at hs
    have hs1 := hb.size
    by_cases hj1 : j < vs.length
    · rw [List.getElem_append_left hj1] at e
      have h2 := h.lt j hj1 q n c e
      omega
    · have hj2 : j = vs.length := by simp at hj; omega
      subst hj2
      simp only [List.getElem_append_right (Nat.le_refl _), Nat.sub_self, List.getElem_singleton] at e
      have h2 := own_block_lt hx q n c e
      omega

/-- Several parts more. -/
theorem RowOf.steps {w w1 w2 : World} {B : Nat} {v v' : Value} {vs xs : List Value} {ls ms : List (List UInt8)} {o : Obj} (h : RowOf w B v vs ls) (hb : Below w.heap.size w w1) (hxl : xs.length = ms.length)
    (hx : ∀ j (hj : j < xs.length), SrcAt w1 xs[j] (ms[j]'(by omega))) (hlt : ∀ x ∈ xs, ∀ q n c, x = .slice (some q) n c → w.heap.size ≤ q.block ∧ q.block < w1.heap.size)
    (hown : w2.ownsRow B 30 1 v' (vs.length + xs.length) (vs ++ xs)) (hg : (w1.alloc o).grownBy w2 v.ownBlock) (hat : v'.ownBlock = v.ownBlock ∨ v'.ownBlock = some (w1.heap.size + 1)) : RowOf w2 B v' (vs ++ xs) (ls ++ ms) := by
  have hb1 : Below w1.heap.size w1 (w1.alloc o) := (Below.refl _ _).alloc (Nat.le_refl _) _
  have h1 := (h.below hb).below hb1
  have hvlt : ∀ k, v.ownBlock = some k → k < w.heap.size := fun k hk => (h.own.lt k hk).2
  have hl := h.len
  refine ⟨by simpa using hown, by simp [h.len, hxl], fun j hj => ?_, fun j hj q n c e => ?_, fun j hj q n c e => ?_⟩
  · by_cases hj1 : j < vs.length
    · simp only [List.getElem_append_left hj1, List.getElem_append_left (show j < ls.length by omega)]
      exact (h1.src j hj1).grown hg (h1.apart j hj1)
    · have hj2 : j - vs.length < xs.length := by simp at hj; omega
      have e1 : (vs ++ xs)[j] = xs[j - vs.length] := List.getElem_append_right (by omega)
      have e2 : (ls ++ ms)[j]'(by simp; omega) = ms[j - vs.length]'(by omega) := by
        rw [List.getElem_append_right (by omega)]
        simp [hl]
      rw [e1, e2]
      refine ((hx (j - vs.length) hj2).below hb1 (Nat.le_refl _)).grown hg fun q n c e e2 => ?_
      have h2 := hlt _ (List.getElem_mem hj2) q n c e
      have h3 := hvlt q.block e2.symm
      omega
  · by_cases hj1 : j < vs.length
    · rw [List.getElem_append_left hj1] at e
      rcases hat with hat | hat
      · rw [hat]; exact h.apart j hj1 q n c e
      · rw [hat]
        intro e2
        simp only [Option.some.injEq] at e2
        have h2 := h.lt j hj1 q n c e
        have h3 := hb.size
        omega
    · have hj2 : j - vs.length < xs.length := by simp at hj; omega
      rw [List.getElem_append_right (by omega)] at e
      have h2 := hlt _ (List.getElem_mem hj2) q n c e
      rcases hat with hat | hat
      · rw [hat]; intro e2; have h3 := hvlt q.block e2.symm; omega
      · rw [hat]; intro e2; simp only [Option.some.injEq] at e2; omega
  · have hs := hg.size
    simp only [World.size_alloc] at hs
    have hs1 := hb.size
    by_cases hj1 : j < vs.length
    · rw [List.getElem_append_left hj1] at e
      have h2 := h.lt j hj1 q n c e
      omega
    · have hj2 : j - vs.length < xs.length := by simp at hj; omega
      rw [List.getElem_append_right (by omega)] at e
      have h2 := hlt _ (List.getElem_mem hj2) q n c e
      omega

/-- The parts, as List reads them. -/
theorem RowOf.parts {w : World} {B : Nat} {a : Option Addr} {n c : Nat} {vs : List Value} {ls : List (List UInt8)} (h : RowOf w B (.slice a n c) vs ls) : n = ls.length ∧ PartsAt w a ls := by
  rcases h.own.2 with ⟨e, h0⟩ | ⟨g, cap, cur, e, -, -, -, -, -, -⟩
  · simp only [Value.slice.injEq] at e
    obtain ⟨rfl, rfl, rfl⟩ := e
    have := h.len
    exact ⟨by omega, fun h => by omega⟩
  · simp only [Value.slice.injEq] at e
    obtain ⟨rfl, rfl, rfl⟩ := e
    refine ⟨h.len, fun _ => ⟨g, 0, rfl, fun i hi => ?_⟩⟩
    have hi2 : i < vs.length := by have := h.len; omega
    refine ⟨vs[i], ?_, h.src i hi2⟩
    have := h.own.cells (g := g) rfl i vs[i] (by simp [hi2])
    rwa [Go.WideShapes.add_plain] at this

/-- Numbers that came in. -/
def IntsAt (w : World) (a : Option Addr) (zs : List Int) : Prop := ∀ i (hi : i < zs.length), ∃ b o, a = some ⟨b, o, none⟩ ∧ w.cell? ⟨b, o + i, none⟩ = some (.int .i64 zs[i])
theorem IntsAt.below {w w' : World} {a : Option Addr} {zs : List Int} {B : Nat} (h : IntsAt w a zs) (hb : Below B w w') (hB : w.heap.size ≤ B) : IntsAt w' a zs := fun i hi => by
  obtain ⟨b, o, rfl, hc⟩ := h i hi
  exact ⟨b, o, rfl, by rw [hb.cell (p := ⟨b, o + i, none⟩) (Nat.lt_of_lt_of_le (World.block_lt_of_cell? w _ hc) hB)]; exact hc⟩

theorem own_string {w : World} {B : Nat} {v : Value} {l : List UInt8} (h : Own w B v l) : (convert 30 9 v).run Tryd.prog w = .ok (.string ⟨l.toArray⟩) w := by
  rcases h.src with ⟨rfl, rfl⟩ | ⟨q, c, rfl, hc⟩
  · exact run_convert_bytes_zero w 30 5 Tryd.underlying30 Tryd.underlying5 none 0 9 Tryd.underlying9
  · exact run_convert_bytes_back (P := Tryd.prog) w 30 9 5 q c l Tryd.underlying30 Tryd.underlying5 Tryd.underlying9 hc

/-- The table of powers stands, whatever is laid above B. -/
def TabOk (B : Nat) (w : World) : Prop := Lib.TabBelow Tryd.prog B w "internal/strconv.uint64pow10" .u64 Lib.pow10Tab
theorem TabOk.on {B : Nat} {w w' : World} (h : TabOk B w) (hb : Below B w w') : TabOk B w' := fun w2 h2 => h w2 (hb.trans h2)
theorem VarsOk.tabOk {B : Nat} {w : World} (h : VarsOk B w) : TabOk B w := h.tab
theorem Text_tabv (s : ByteArray) (hs : s.size ≤ 140737488351232) (B : Nat) (w : World) (hB : B ≤ w.heap.size) (hv : TabOk B w) :
    Calls Tryd.prog 63 #[.string s] w fun e w' => ∃ a k c, e = .returned (.slice a k c) ∧ Own w' w.heap.size (.slice a k c) (putText s.data.toList) ∧ Below w.heap.size w w' :=
  (Text_tab s hs B w hB hv).mono fun e w' ⟨v, he, ho, hb⟩ => by obtain ⟨a, k, c, rfl⟩ := ho.form; exact ⟨a, k, c, he, ho, hb⟩

end Go.Proofs.YtchhdffehkcecaaDoor
