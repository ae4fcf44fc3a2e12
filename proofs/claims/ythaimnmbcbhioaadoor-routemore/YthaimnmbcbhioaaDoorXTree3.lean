/-
  The reference's atoms and patterns.
-/
import Derived.Test.YthaimnmbcbhioaaDoorXTree2
namespace Go.Proofs.YthaimnmbcbhioaaDoor
open Go.RowKit

theorem build_k (k : Nat) : (treeC (noT 0)).setIfInBounds 0 (.int .i64 (k : Int)) = treeC (noT k) := by
  unfold treeC
  simp [treeL, noT]
/-- A tree stored into the block that was made last. -/
theorem store_last (w : World) (n : Nat) (hn : n = w.heap.size) (t t' : TV) : (storeCells ⟨n, 0, none⟩ (treeC t').toList).run Tryd.prog (w.alloc (.cells (treeC t) 102)) = .ok () (w.alloc (.cells (treeC t') 102)) := by
  subst hn
  rw [(TreeBlk.new w t).storeCells t', World.setRow_alloc_new]

/-! Rows of trees. -/
def trow (ts : List TV) : List Value := ts.flatMap treeL
theorem trow_cons (p : TV) (r : List TV) : trow (p :: r) = treeL p ++ trow r := rfl
theorem trow_len : ∀ ts : List TV, (trow ts).length = ts.length * 258
  | [] => rfl
  | p :: r => by
    rw [trow_cons, List.length_append, trow_len r, treeL_len, List.length_cons]
    omega
theorem trow_append (a b : List TV) : trow (a ++ b) = trow a ++ trow b := List.flatMap_append
theorem trow_one (t : TV) : trow [t] = treeL t := by rw [trow_cons]; exact List.append_nil _
theorem trow_get : ∀ (ts : List TV) (i : Nat) (hi : i < ts.length) (j : Nat), j < 258 → (trow ts)[i * 258 + j]? = (treeL ts[i])[j]?
  | p :: r, 0, _, j, hj => by
    rw [trow_cons, List.getElem?_append_left (by rw [treeL_len]; omega)]
    simp
  | p :: r, i + 1, hi, j, hj => by
    have := trow_get r i (by simpa using hi) j hj
    rw [trow_cons, List.getElem?_append_right (by rw [treeL_len]; omega), treeL_len, show (i + 1) * 258 + j - 258 = i * 258 + j by omega, this]
    rfl
def OwnTr (w : World) (B : Nat) (v : Value) (ts : List TV) : Prop := w.ownsRow B 102 258 v ts.length (trow ts)
theorem infoTree : (Tryd.prog.info? 102).map (fun i => (i.zero, i.size, i.bytes)) = some (some (.agg (treeC (noT 0))), 258, 288) := by kernel_rfl
theorem OwnTr.form {w : World} {B : Nat} {v : Value} {ts : List TV} (h : OwnTr w B v ts) : ∃ a c, v = .slice a ts.length c ∧ ∀ q, a = some q → q = ⟨q.block, 0, none⟩ := by
  rcases h.2 with ⟨rfl, h0⟩ | ⟨g, cap, cur, rfl, hg0, hg1, hcap, hmax, hcs, htk⟩
  · exact ⟨none, 0, by rw [h0], fun q hq => by cases hq⟩
  · refine ⟨_, _, rfl, fun q hq => ?_⟩
    obtain rfl := Option.some.inj hq
    rfl
theorem run_append_tree (ty : TypeId) (w : World) (B : Nat) (v : Value) (ts : List TV) (hown : OwnTr w B v ts) (g c : Nat) (p : TV) (hg : ∀ j, w.cell? ⟨g, j, none⟩ = (treeL p)[j]?) (hb : ts.length ≤ 1000) (hB : B ≤ w.heap.size) :
    ∃ a' c' w', (Builtin.append_ #[100, 100] ty #[v, .slice (some ⟨g, 0, none⟩) 1 c]).run Tryd.prog w = .ok (.slice a' (ts.length + 1) c') w' ∧ OwnTr w' B (.slice a' (ts.length + 1) c') (ts ++ [p]) ∧ w.grownBy w' v.ownBlock ∧ ((Value.slice a' (ts.length + 1) c').ownBlock = v.ownBlock ∨ (Value.slice a' (ts.length + 1) c').ownBlock = some w.heap.size) := by
  obtain ⟨i0, hi, hi0, hi1, hi2⟩ := info_parts infoTree
  obtain ⟨v', w', hr, h1, h2, -, h4⟩ := run_append_own_at (P := Tryd.prog) w B 100 ty 102 i0 _ 258 288 Tryd.underlying100 hi hi0 hi1 hi2 (treeC_size _) (by decide) v ts.length (trow ts) hown ⟨g, 0, none⟩ 1 c (treeL p) (treeL_len p) (fun j u hj => by
    rw [Go.WideShapes.add_plain, Nat.zero_add, hg j, hj]) (fun u hu => treeL_one p hu) (by unfold maxLen; omega) (by omega) hB
  have h3 : OwnTr w' B v' (ts ++ [p]) := by
    unfold OwnTr
    rw [trow_append, trow_one, List.length_append]
    exact h1
  obtain ⟨a', c', hv, -⟩ := h3.form
  rw [List.length_append, List.length_singleton] at hv
  subst hv
  exact ⟨a', c', w', hr, h3, h2, h4⟩

end Go.Proofs.YthaimnmbcbhioaaDoor
