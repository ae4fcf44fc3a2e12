/-
  List of the reference, walked: it begins with a row of the run-time's own mark, so what it owns is said with that mark.
-/
import Derived.Test.YtfaijnghiamgoaaDoorRef1
import Derived.Deep.AppendSrc
import Derived.Deep.RegionWith
import Derived.Laws.AppendOwnNone
namespace Go.Proofs.YtfaijnghiamgoaaDoor
open Go.RowKit

/-- Bytes in a block from B on: a row of the call's own, or a full one that bears a mark. -/
def OwnM (w : World) (B : Nat) (v : Value) (l : List UInt8) : Prop :=
  Own w B v l ∨ ∃ g, v = .slice (some ⟨g, 0, none⟩) l.length l.length ∧ B ≤ g ∧ g < w.heap.size ∧ ∀ i (hi : i < l.length), w.cell? ⟨g, i, none⟩ = some (.int .u8 (l[i].toNat : Int))

theorem OwnM.src {w : World} {B : Nat} {v : Value} {l : List UInt8} (h : OwnM w B v l) : SrcAt w v l := by
  rcases h with h | ⟨g, rfl, _, _, hc⟩
  · exact h.src
  · exact .inr ⟨⟨g, 0, none⟩, l.length, rfl, fun i hi => by rw [Go.WideShapes.add_plain, Nat.zero_add]; exact hc i hi⟩

theorem OwnM.lt {w : World} {B : Nat} {v : Value} {l : List UInt8} (h : OwnM w B v l) : ∀ k, v.ownBlock = some k → B ≤ k := by
  rcases h with h | ⟨g, rfl, hB, _, hc⟩
  · exact fun k hk => (World.ownsRow.lt h k hk).1
  · intro k hk; cases hk; exact hB

theorem OwnM.form {w : World} {B : Nat} {v : Value} {l : List UInt8} (h : OwnM w B v l) : ∃ a k c, v = .slice a k c := by
  rcases h with h | ⟨g, rfl, _⟩
  · exact h.form
  · exact ⟨_, _, _, rfl⟩

/-- append of bytes that are read. -/
theorem append_m (ty : TypeId) (w : World) (B : Nat) (v x : Value) (l g : List UInt8) (h : OwnM w B v l) (hx : SrcAt w x g) (hB : B ≤ w.heap.size) (hl : l.length + g.length ≤ 140737488355328) :
    ∃ v' w', (Builtin.append_ #[22, 22] ty #[v, x]).run Tryd.prog w = .ok v' w' ∧ OwnM w' B v' (l ++ g) ∧ w.grownBy w' v.ownBlock := by
  obtain ⟨i0, hi, hz0, hz1, hz2⟩ := info_parts infoByte
  have hcells : ∀ {q : Addr} {c : Nat}, (∀ i (hi : i < g.length), w.cell? (q.add i) = some (.int .u8 (g[i].toNat : Int))) → ∀ j u, (Lib.byteCells g)[j]? = some u → w.cell? (q.add j) = some u := by
    intro q c hc j u hj
    simp only [Lib.byteCells, List.getElem?_map, Option.map_eq_some_iff] at hj
    obtain ⟨y, hy, rfl⟩ := hj
    obtain ⟨hj1, rfl⟩ := List.getElem?_eq_some_iff.1 hy
    exact hc j hj1
  have hone : ∀ u ∈ Lib.byteCells g, u.oneCell' = true := by
    intro u hu; simp only [Lib.byteCells, List.mem_map] at hu; obtain ⟨y, _, rfl⟩ := hu; rfl
  rcases h with h | ⟨b, rfl, hBb, hblt, hc⟩
  · rcases hx with ⟨rfl, rfl⟩ | ⟨q, c, rfl, hc⟩
    · exact ⟨v, w, run_append_owned_none (P := Tryd.prog) (w := w) B 22 ty 5 i0 1 Tryd.underlying22 hi v _ _ h, .inl (by rw [List.append_nil]; exact h), grownBy_refl _ _⟩
    · obtain ⟨v', w', hr, ho, hg, _⟩ := run_append_own (P := Tryd.prog) w B 22 ty 5 i0 (.int .u8 0) 1 1 Tryd.underlying22 hi hz0 hz1 hz2 rfl (by decide) v _ _ h q g.length c (Lib.byteCells g) (by simp [Lib.byteCells]) (hcells (c := c) hc) hone (by unfold maxLen; omega) (by omega) hB
      exact ⟨v', w', hr, .inl (Own.of ho (by simp [Lib.byteCells])), hg⟩
  · have hsrc : Src Tryd.prog i0.size 22 x g.length (Lib.byteCells g) w := by
      rw [hz1]
      rcases hx with ⟨rfl, rfl⟩ | ⟨q, c, rfl, hcq⟩
      · exact Src.ofNil w Tryd.underlying22 0
      · exact Src.ofSlice w Tryd.underlying22 q g.length c (Lib.byteCells g) (by simp [Lib.byteCells]) (hcells (c := c) hcq) hone
    cases g with
    | nil =>
      refine ⟨_, w, ?_, .inr ⟨b, rfl, hBb, hblt, ?_⟩, grownBy_refl _ _⟩
      · have := run_append_room_src w 22 22 ty 5 i0 Tryd.underlying22 hi b 0 l.length l.length x 0 [] hsrc (by omega) (fun j hj => absurd hj (by simp)) (fun j hj => absurd hj (by simp))
        simpa [World.setCells] using this
      · intro i hi; simp only [List.append_nil] at hi ⊢; exact hc i hi
    | cons y g =>
      have hlc : ∀ j v, (Lib.byteCells l)[j]? = some v → w.drew.cell? ((⟨b, 0, none⟩ : Addr).add j) = some v := by
        intro j u hj
        simp only [Lib.byteCells, List.getElem?_map, Option.map_eq_some_iff] at hj
        obtain ⟨z, hz, rfl⟩ := hj
        obtain ⟨hj1, rfl⟩ := List.getElem?_eq_some_iff.1 hz
        rw [Go.WideShapes.add_plain, Nat.zero_add]
        exact hc j hj1
      have hrun := run_append_grow_src w 22 22 ty 5 i0 (.int .u8 0) Tryd.underlying22 hi hz0 (some ⟨b, 0, none⟩) l.length l.length (Lib.byteCells l) (by
        rw [hz1]
        exact run_firstCells_some w.drew 1 l.length ⟨b, 0, none⟩ l.length l.length (Lib.byteCells l) (by simp [Lib.byteCells]) hlc) x (y :: g).length _ hsrc (by simp) (by simp at hl ⊢; omega) (growslice_fits (by simp) (by rw [hz2]; simp at hl ⊢; omega))
      refine ⟨_, _, hrun, .inl ?_, ?_⟩
      · have hge := grownCap_ge w (l.length + (y :: g).length) l.length 5
        have hcm := grownCap_le_maxLen w (l.length + (y :: g).length) l.length 5 (by unfold maxLen; omega)
        have hlen : (Lib.byteCells l ++ Lib.byteCells (y :: g)).length = l.length + (y :: g).length := by simp [Lib.byteCells]
        refine Own.of (n := l.length + (y :: g).length) (xs := Lib.byteCells l ++ Lib.byteCells (y :: g)) ⟨by rw [hlen, Nat.mul_one], .inr ⟨w.heap.size, _, _, rfl, hB, heap_alloc_new w.drew _, hge, hcm, ?_, ?_⟩⟩ (by simp [Lib.byteCells])
        · generalize grownCap w (l.length + (y :: g).length) l.length 5 = C at *
          simp only [Array.size_append, List.size_toArray, size_zeroCells, hlen, Value.cells]
          simp
          simp only [List.length_cons] at hge
          omega
        · rw [Nat.mul_one, ← hlen, Array.toList_append]
          exact List.take_left
      · refine grownBy_of_below ?_
        exact (Below.refl _ _).drew.alloc (Nat.le_refl _) _

theorem wpList_append_m {w : World} {ops : Array Oper} {rest : List Oper} {o : Oper} {a : Act} {Q : Exit → Act → World → Prop} (hgd : o.guard = none) (s x : Operand)
    (ho : o.op = .call { callee := .builtin .append, args := #[s, x], argTypes := #[22, 22] }) (B : Nat) (v y : Value) (l g : List UInt8) (hs : a.eval s = v) (hx : a.eval x = y)
    (hown : OwnM w B v l) (hsrc : SrcAt w y g) (hB : B ≤ w.heap.size) (hl : l.length + g.length ≤ 140737488355328)
    (h : ∀ v' w', OwnM w' B v' (l ++ g) → w.grownBy w' v.ownBlock → wpList Tryd.prog ops Q rest (a.put o.dst v') w') : wpList Tryd.prog ops Q (o :: rest) a w := by
  obtain ⟨v', w', hr, h2, h3⟩ := append_m o.type w B v y l g hown hsrc hB hl
  refine wpList_plain hgd fun K hK => ?_
  unfold Oper.wp execOp
  simp only [ho, resolve, invoke, builtin, Sem.run_bind, Sem.run_pure, Result.andThen_ok, List.map_toArray, List.map_cons, List.map_nil, hs, hx, hr]
  exact hK _ _ (h v' w' h2 h3)

end Go.Proofs.YtfaijnghiamgoaaDoor
