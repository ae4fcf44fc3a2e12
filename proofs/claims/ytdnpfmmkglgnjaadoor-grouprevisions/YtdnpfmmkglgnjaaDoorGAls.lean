/-
  Alerts put behind alerts of a call's own; the reference's Fires and sorted.
-/
import Derived.Test.YtdnpfmmkglgnjaaDoorG4
import Derived.Test.YtdnpfmmkglgnjaaDoorLRefKey
namespace Go.Proofs.YtdnpfmmkglgnjaaDoor
open Go.RowKit

theorem baseA {W : World} {base base' : Nat} {e : TypeId} {size : Nat} {v : Value} {k : Nat} {xs : List Value} (h : W.ownsRow base e size v k xs) (hb : base' ≤ base) : W.ownsRow base' e size v k xs := by
  refine ⟨h.1, ?_⟩
  rcases h.2 with hn | ⟨g, cap, cur, hv, hbg, rest⟩
  · exact .inl hn
  · exact .inr ⟨g, cap, cur, hv, Nat.le_trans hb hbg, rest⟩
theorem cellA {w : World} {b j : Nat} {cs : Array Value} {t : TypeId} {fr : Nat × Nat} (h : w.heap[b]? = some (.cells cs t fr)) : w.cell? ⟨b, j, none⟩ = cs[j]? := by simp [World.cell?, h]
theorem gOf {w w' : World} (h : Below w.heap.size w w') (row : Option Nat) : w.grownBy w' row := ⟨h.os, h.tape, h.output, h.size, fun k hk _ => h.block k hk⟩
theorem ltA {w : World} {b : Nat} {o : Obj} (h : w.heap[b]? = some o) : b < w.heap.size := (Array.getElem?_eq_some_iff.1 h).1
theorem newA (w : World) (o : Obj) : (w.alloc o).heap[w.heap.size]? = some o := heap_alloc_new w o
/-- One operation is taken first, its slot said. -/
theorem wpAnyH_takeA {P : Program} {ops : Array Oper} {Q : Exit → Act → World → Prop} {md : Region.Mode} {S : World → Prop} {i : Nat} (dst : Option Nat) {oi : Oper} {v : Value} {fuel : Nat} {listed : Array Bool} {a : Act} {w : World} (hi : ops[i]? = some oi) (hd : oi.dst = dst)
    (hs : Region.noSelect ops = true) (hf : Region.free md ops listed i = true) (hr : (Region.ready md ops listed).contains i = true)
    (hQ : ∀ c a w, Q (.panic c) (a.put dst v) w → Q (.panic c) a w) (hy : YieldsIf P ops S oi v a) (hS : S w)
    (h : wpAnyH P md ops Q S fuel (listed.setIfInBounds i true) (a.put dst v) w) : wpAnyH P md ops Q S (fuel + 1) listed a w := by
  subst hd
  exact wpAnyH_take hi hs hf hr hQ hy hS h
/-- The three cells of an alert. -/
def C3 (w : World) (b x : Nat) (r : Rw) : Prop := b < w.heap.size ∧ w.cell? ⟨b, x, none⟩ = some (.slice r.ad r.ps.length r.cp) ∧ w.cell? ⟨b, x + 1, none⟩ = some (.int .i64 r.st) ∧ w.cell? ⟨b, x + 2, none⟩ = some (.int .i64 r.en)
theorem C3.below {w w' : World} {B b x : Nat} {r : Rw} (h : C3 w b x r) (hb : Below B w w') (hB : w.heap.size ≤ B) : C3 w' b x r := by
  obtain ⟨h0, h1, h2, h3⟩ := h
  have hx := Nat.lt_of_lt_of_le h0 hB
  exact ⟨Nat.lt_of_lt_of_le h0 hb.size, by rw [hb.cell (p := ⟨b, x, none⟩) hx]; exact h1, by rw [hb.cell (p := ⟨b, x + 1, none⟩) hx]; exact h2, by rw [hb.cell (p := ⟨b, x + 2, none⟩) hx]; exact h3⟩

def cellsW (L : List Rw) : List Value := L.flatMap encW
theorem cellsW_len : ∀ L : List Rw, (cellsW L).length = L.length * 3
  | [] => rfl
  | p :: r => by
    have := cellsW_len r
    simp only [cellsW, List.flatMap_cons, List.length_append, List.length_cons] at *
    rw [this]
    simp [encW]
    omega
theorem cellsW_append (L M : List Rw) : cellsW (L ++ M) = cellsW L ++ cellsW M := List.flatMap_append
theorem cellsW_get : ∀ (L : List Rw) (i : Nat) (hi : i < L.length), (cellsW L)[i * 3]? = some (.slice L[i].ad L[i].ps.length L[i].cp) ∧ (cellsW L)[i * 3 + 1]? = some (.int .i64 L[i].st) ∧ (cellsW L)[i * 3 + 2]? = some (.int .i64 L[i].en)
  | p :: r, 0, _ => ⟨rfl, rfl, rfl⟩
  | p :: r, i + 1, hi => by
    have := cellsW_get r i (by simpa using hi)
    have e : cellsW (p :: r) = encW p ++ cellsW r := rfl
    have l : (encW p).length = 3 := rfl
    rw [e, List.getElem?_append_right (by omega), List.getElem?_append_right (by omega), List.getElem?_append_right (by omega), l]
    simpa [show (i + 1) * 3 - 3 = i * 3 by omega, show (i + 1) * 3 + 1 - 3 = i * 3 + 1 by omega, show (i + 1) * 3 + 2 - 3 = i * 3 + 2 by omega] using this
theorem cellsW_one {L : List Rw} : ∀ u ∈ cellsW L, u.oneCell' = true := fun u h => by
  obtain ⟨r, -, h2⟩ := List.mem_flatMap.1 h
  simp only [encW, List.mem_cons, List.not_mem_nil, or_false] at h2
  rcases h2 with rfl | rfl | rfl <;> rfl
/-- A slice of alerts in blocks from B on. -/
def OwnA (w : World) (B : Nat) (v : Value) (L : List Rw) : Prop := w.ownsRow B 34 3 v L.length (cellsW L)
theorem infoAl : (Tryd.prog.info? 34).map (fun i => (i.zero, i.size, i.bytes)) = some (some (.agg #[.slice none 0 0, .int .i64 0, .int .i64 0]), 3, 40) := by kernel_rfl
theorem OwnA.onB {w w' : World} {B N : Nat} {v : Value} {L : List Rw} (h : OwnA w B v L) (hb : Below N w w') (hN : w.heap.size ≤ N) : OwnA w' B v L :=
  World.ownsRow.kept h (gOf (hb.mono hN) none) (by cases hv : v.ownBlock <;> simp)
theorem OwnA.push {w : World} {B : Nat} {v : Value} {L : List Rw} {r : Rw} (h : w.ownsRow B 34 3 v (L.length + 1) (cellsW L ++ encW r)) : OwnA w B v (L ++ [r]) := by
  unfold OwnA
  rw [cellsW_append, List.length_append]
  simpa [cellsW] using h
theorem OwnA.form {w : World} {B : Nat} {v : Value} {L : List Rw} (h : OwnA w B v L) : ∃ a c, v = .slice a L.length c ∧ (a = none → c = 0) ∧ (∀ q, a = some q → B ≤ q.block ∧ q.block < w.heap.size ∧ q = ⟨q.block, 0, none⟩) ∧
    ∀ i (hi : i < L.length), ∃ g, a = some ⟨g, 0, none⟩ ∧ w.cell? ⟨g, i * 3, none⟩ = some (.slice L[i].ad L[i].ps.length L[i].cp) ∧ w.cell? ⟨g, i * 3 + 1, none⟩ = some (.int .i64 L[i].st) ∧ w.cell? ⟨g, i * 3 + 2, none⟩ = some (.int .i64 L[i].en) := by
  rcases h.2 with ⟨rfl, h0⟩ | ⟨g, cap, cur, rfl, hg0, hg1, hcap, hmax, hcs, htk⟩
  · exact ⟨none, 0, by rw [h0], fun _ => rfl, (fun q e => by cases e), fun i hi => by omega⟩
  · refine ⟨_, _, rfl, (fun e => by cases e), (fun q e => by obtain rfl := Option.some.inj e; exact ⟨hg0, ltA hg1, rfl⟩), fun i hi => ⟨g, rfl, ?_⟩⟩
    obtain ⟨h1, h2, h3⟩ := cellsW_get L i hi
    rw [World.ownsRow.cellAt h _ (by omega), World.ownsRow.cellAt h _ (by omega), World.ownsRow.cellAt h _ (by omega)]
    exact ⟨h1, h2, h3⟩
theorem AlsAt.take {w : World} {a : Option Addr} {L : List Rw} (h : AlsAt w a L) (k : Nat) : AlsAt w a (L.take k) := fun hn => by
  rw [List.length_take] at hn
  obtain ⟨b, o, rfl, hbl, hc⟩ := h (by omega)
  refine ⟨b, o, rfl, hbl, fun i hi => ?_⟩
  rw [List.length_take] at hi
  rw [List.getElem_take]
  exact hc i (by omega)
theorem AlsAt.drop {w : World} {b o : Nat} {L : List Rw} (h : AlsAt w (some ⟨b, o, none⟩) L) (k : Nat) : AlsAt w (some ⟨b, o + k * 3, none⟩) (L.drop k) := fun hn => by
  rw [List.length_drop] at hn
  obtain ⟨b', o', e, hbl, hc⟩ := h (by omega)
  obtain ⟨rfl, rfl⟩ : b = b' ∧ o = o' := by simpa using e
  refine ⟨b, _, rfl, hbl, fun i hi => ?_⟩
  rw [List.length_drop] at hi
  rw [List.getElem_drop]
  have := hc (k + i) (by omega)
  simpa [Nat.add_mul, Nat.add_assoc] using this
theorem AlsAt.dropA {w : World} {q : Addr} {L : List Rw} (h : AlsAt w (some q) L) (k : Nat) : AlsAt w (some (q.add (k * 3))) (L.drop k) := fun hn => by
  obtain ⟨b, o, e, -⟩ := h (by rw [List.length_drop] at hn; omega)
  obtain rfl := Option.some.inj e
  rw [Go.WideShapes.add_plain]
  exact AlsAt.drop h k hn
theorem AlsAt.news {w : World} {a : Option Addr} {L : List Rw} (h : AlsAt w a L) : ∀ q, a = some q → ∀ j u, (cellsW L)[j]? = some u → w.cell? (q.add j) = some u := fun q e j u hj => by
  have hn := (List.getElem?_eq_some_iff.1 hj).1
  rw [cellsW_len] at hn
  obtain ⟨b, o, e2, -, hc⟩ := h (by omega)
  obtain rfl : q = ⟨b, o, none⟩ := Option.some.inj (e.symm.trans e2)
  obtain ⟨h1, h2, h3, -⟩ := hc (j / 3) (by omega)
  obtain ⟨g1, g2, g3⟩ := cellsW_get L (j / 3) (by omega)
  rw [Go.WideShapes.add_plain]
  rcases (by omega : j = j / 3 * 3 ∨ j = j / 3 * 3 + 1 ∨ j = j / 3 * 3 + 2) with e | e | e
  · rw [e, g1] at hj; rw [e, h1, ← hj]
  · rw [e, g2] at hj; rw [e, ← Nat.add_assoc, h2, ← hj]
  · rw [e, g3] at hj; rw [e, ← Nat.add_assoc, h3, ← hj]
/-- append, at alerts of the call's own, of alerts that lie somewhere. -/
theorem run_append_als (ty : TypeId) (w : World) (B : Nat) (v : Value) (rs : List Rw) (hown : OwnA w B v rs) (a : Option Addr) (n c : Nat) (L : List Rw) (hn : n = L.length) (hat : AlsAt w a L) (hc0 : a = none → c = 0) (hb : rs.length + L.length ≤ 1000000) (hB : B ≤ w.heap.size) :
    ∃ v' w', (Builtin.append_ #[26, 26] ty #[v, .slice a n c]).run Tryd.prog w = .ok v' w' ∧ OwnA w' B v' (rs ++ L) ∧ w.grownBy w' v.ownBlock := by
  subst hn
  obtain ⟨i0, hi, hi0, hi1, hi2⟩ := info_parts infoAl
  cases a with
  | none =>
    have h0 : L.length = 0 := by
      by_cases hp : 0 < L.length
      · obtain ⟨b, o, he, -⟩ := hat hp
        cases he
      · omega
    obtain rfl := List.eq_nil_of_length_eq_zero h0
    obtain rfl := hc0 rfl
    refine ⟨v, w, run_append_owned_none (P := Tryd.prog) (w := w) B 26 ty 34 i0 3 Tryd.underlying26 hi v _ _ hown, ?_, World.grownBy.refl w _⟩
    rw [List.append_nil]
    exact hown
  | some q =>
    obtain ⟨v', w', hr, h1, h2, -, -⟩ := run_append_own_at (P := Tryd.prog) w B 26 ty 34 i0 _ 3 40 Tryd.underlying26 hi hi0 hi1 hi2 rfl (by decide) v _ _ hown q L.length c (cellsW L) (cellsW_len L) (hat.news q rfl) cellsW_one (by unfold maxLen; omega) (by omega) hB
    refine ⟨v', w', hr, ?_, h2⟩
    unfold OwnA
    rw [List.length_append, cellsW_append]
    exact h1
theorem wpList_append_als (w : World) {ops : Array Oper} {rest : List Oper} {o : Oper} {act : Act} {Q : Exit → Act → World → Prop} (hgd : o.guard = none) (s x : Operand)
    (ho : o.op = .call { callee := .builtin .append, args := #[s, x], argTypes := #[26, 26] }) (B : Nat) (v : Value) (rs : List Rw) (hs : act.eval s = v) (hown : OwnA w B v rs)
    (a : Option Addr) (n c : Nat) (L : List Rw) (hx : act.eval x = .slice a n c) (hn : n = L.length) (hat : AlsAt w a L) (hc0 : a = none → c = 0) (hb : rs.length + L.length ≤ 1000000) (hB : B ≤ w.heap.size)
    (h : ∀ v' w', OwnA w' B v' (rs ++ L) → w.grownBy w' v.ownBlock → wpList Tryd.prog ops Q rest (act.put o.dst v') w') : wpList Tryd.prog ops Q (o :: rest) act w := by
  refine wpList_plain hgd fun K hK => ?_
  obtain ⟨v', w', hr, h1, h2⟩ := run_append_als o.type w B v rs hown a n c L hn hat hc0 hb hB
  unfold Oper.wp execOp
  simp only [ho, resolve, invoke, builtin, Sem.run_bind, Sem.run_pure, Result.andThen_ok, List.map_toArray, List.map_cons, List.map_nil, hs, hx, hr]
  exact hK _ _ (h v' w' h1 h2)
theorem step_append_als {w : World} {ops : Array Oper} {o : Oper} {act : Act} {K : Act → World → Prop} {Q : Exit → Act → World → Prop} {E : Prop} (hgd : o.guard = none) (s x : Operand)
    (ho : o.op = .call { callee := .builtin .append, args := #[s, x], argTypes := #[26, 26] }) (B : Nat) (v : Value) (rs : List Rw) (hs : act.eval s = v) (hown : OwnA w B v rs)
    (a : Option Addr) (n c : Nat) (L : List Rw) (hx : act.eval x = .slice a n c) (hn : n = L.length) (hat : AlsAt w a L) (hc0 : a = none → c = 0) (hb : rs.length + L.length ≤ 1000000) (hB : B ≤ w.heap.size)
    (h : ∀ v' w', OwnA w' B v' (rs ++ L) → w.grownBy w' v.ownBlock → K (act.put o.dst v') w') :
    if Region.wanted o (yielded ops act.tmps) = true then Oper.wp Tryd.prog o act w K Q else E := by
  have hw : Region.wanted o (yielded ops act.tmps) = true := by simp [Region.wanted, hgd]
  rw [if_pos hw]
  obtain ⟨v', w', hr, h1, h2⟩ := run_append_als o.type w B v rs hown a n c L hn hat hc0 hb hB
  unfold Oper.wp execOp
  simp only [ho, resolve, invoke, builtin, Sem.run_bind, Sem.run_pure, Result.andThen_ok, List.map_toArray, List.map_cons, List.map_nil, hs, hx, hr]
  exact h v' w' h1 h2
theorem alsAt_one (w : World) (r : Rw) (h : PairsAt (w.alloc (.cells #[.slice r.ad r.ps.length r.cp, .int .i64 r.st, .int .i64 r.en] 34)) r.ad r.ps) : AlsAt (w.alloc (.cells #[.slice r.ad r.ps.length r.cp, .int .i64 r.st, .int .i64 r.en] 34)) (some ⟨w.heap.size, 0, none⟩) [r] := fun _ => ⟨_, 0, rfl, by simp, fun i hi => by
  obtain rfl : i = 0 := by simp at hi; omega
  have c := newA w (.cells #[.slice r.ad r.ps.length r.cp, .int .i64 r.st, .int .i64 r.en] 34)
  exact ⟨cellA c, cellA c, cellA c, h⟩⟩

end Go.Proofs.YtdnpfmmkglgnjaaDoor
