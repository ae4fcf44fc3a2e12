/-
  Alerts put behind alerts of a call's own; the reference's Fires and sorted. What Same does: whether two lists of pairs are one. What Pick does, and the reference's In, Pick, Get and Same. Groups while they are filled: where they lie, and how one more alert is put to them. Two groups compared: by their routes, and of one route by their keys.
-/
import Derived.Test.YtmanjegdgjeeiaaGreatDoorKW21
import Derived.Test.YtmanjegdgjeeiaaGreatDoorKW22
import Derived.Test.YtmanjegdgjeeiaaGreatDoorKW07
import Derived.Test.YtmanjegdgjeeiaaGreatDoorKW15
import Derived.Deep.AppendLies
import Derived.Laws.OwnMore
import Derived.Maps.OwnSet
import Derived.Maps.Own
import Derived.Maps.Views
namespace Go.Proofs.YtmanjegdgjeeiaaGreatDoor
open Go.RowKit

theorem baseA {W : World} {base base' : Nat} {e : TypeId} {size : Nat} {v : Value} {k : Nat} {xs : List Value} (h : W.ownsRow base e size v k xs) (hb : base' ≤ base) : W.ownsRow base' e size v k xs := by
  refine ⟨h.1, ?_⟩
  rcases h.2 with hn | ⟨g, cap, cur, hv, hbg, rest⟩
  · exact .inl hn
  · exact .inr ⟨g, cap, cur, hv, Nat.le_trans hb hbg, rest⟩
theorem cellA {w : World} {b j : Nat} {cs : Array Value} {t : TypeId} {fr : Nat × Nat} (h : w.heap[b]? = some (.cells cs t fr)) : w.cell? ⟨b, j, none⟩ = cs[j]? := by simp [World.cell?, h]
theorem gOf {w w' : World} (h : Below w.heap.size w w') (row : Option Nat) : w.grownBy w' row := ⟨h.os, h.tape, h.output, h.size, fun k hk _ => h.block k hk⟩
theorem ltA {w : World} {b : Nat} {o : Obj} (h : w.heap[b]? = some o) : b < w.heap.size := (Array.getElem?_eq_some_iff.1 h).1
theorem newA (w : World) (o : Obj) : (w.alloc o).heap[w.heap.size]? = some o := heap_alloc_new w o
/-- One operation is taken first, its slot said. -/
theorem wpAnyH_takeA {P : Program} {ops : Array Oper} {Q : Exit → Act → World → Prop} {md : Region.Mode} {S : World → Prop} {i : Nat} (dst : Option Nat) {oi : Oper} {v : Value} {fuel : Nat} {listed : Array Bool} {a : Act} {w : World} (hi : ops[i]? = some oi) (hd : oi.dst = dst)
    (hs : Region.noSelect ops = true) (hf : Region.free md ops listed i = true) (hr : (Region.ready md ops listed).contains i = true)
    (hQ : ∀ c a w, Q (.panic c) (a.put dst v) w → Q (.panic c) a w) (hy : YieldsIf P ops S oi v a) (hS : S w)
    (h : wpAnyH P md ops Q S fuel (listed.setIfInBounds i true) (a.put dst v) w) : wpAnyH P md ops Q S (fuel + 1) listed a w := by
  subst hd
  exact wpAnyH_take hi hs hf hr hQ hy hS h
/-- The three cells of an alert. -/
def C3 (w : World) (b x : Nat) (r : Rw) : Prop := b < w.heap.size ∧ w.cell? ⟨b, x, none⟩ = some (.slice r.ad r.ps.length r.cp) ∧ w.cell? ⟨b, x + 1, none⟩ = some (.int .i64 r.st) ∧ w.cell? ⟨b, x + 2, none⟩ = some (.int .i64 r.en)
theorem C3.below {w w' : World} {B b x : Nat} {r : Rw} (h : C3 w b x r) (hb : Below B w w') (hB : w.heap.size ≤ B) : C3 w' b x r := by
  obtain ⟨h0, h1, h2, h3⟩ := h
  have hx := Nat.lt_of_lt_of_le h0 hB
  exact ⟨Nat.lt_of_lt_of_le h0 hb.size, by rw [hb.cell (p := ⟨b, x, none⟩) hx]; exact h1, by rw [hb.cell (p := ⟨b, x + 1, none⟩) hx]; exact h2, by rw [hb.cell (p := ⟨b, x + 2, none⟩) hx]; exact h3⟩

def cellsW (L : List Rw) : List Value := L.flatMap encW
theorem cellsW_len : ∀ L : List Rw, (cellsW L).length = L.length * 3
  | [] => rfl
  | p :: r => by
    have := cellsW_len r
    simp only [cellsW, List.flatMap_cons, List.length_append, List.length_cons] at *
    rw [this]
    simp [encW]
    omega
theorem cellsW_append (L M : List Rw) : cellsW (L ++ M) = cellsW L ++ cellsW M := List.flatMap_append
theorem cellsW_get : ∀ (L : List Rw) (i : Nat) (hi : i < L.length), (cellsW L)[i * 3]? = some (.slice L[i].ad L[i].ps.length L[i].cp) ∧ (cellsW L)[i * 3 + 1]? = some (.int .i64 L[i].st) ∧ (cellsW L)[i * 3 + 2]? = some (.int .i64 L[i].en)
  | p :: r, 0, _ => ⟨rfl, rfl, rfl⟩
  | p :: r, i + 1, hi => by
    have := cellsW_get r i (by simpa using hi)
    have e : cellsW (p :: r) = encW p ++ cellsW r := rfl
    have l : (encW p).length = 3 := rfl
    rw [e, List.getElem?_append_right (by omega), List.getElem?_append_right (by omega), List.getElem?_append_right (by omega), l]
    simpa [show (i + 1) * 3 - 3 = i * 3 by omega, show (i + 1) * 3 + 1 - 3 = i * 3 + 1 by omega, show (i + 1) * 3 + 2 - 3 = i * 3 + 2 by omega] using this
theorem cellsW_one {L : List Rw} : ∀ u ∈ cellsW L, u.oneCell' = true := fun u h => by
  obtain ⟨r, -, h2⟩ := List.mem_flatMap.1 h
  simp only [encW, List.mem_cons, List.not_mem_nil, or_false] at h2
  rcases h2 with rfl | rfl | rfl <;> rfl
/-- A slice of alerts in blocks from B on. -/
def OwnA (w : World) (B : Nat) (v : Value) (L : List Rw) : Prop := w.ownsRow B 42 3 v L.length (cellsW L)
theorem infoAl : (Tryz.prog.info? 42).map (fun i => (i.zero, i.size, i.bytes)) = some (some (.agg #[.slice none 0 0, .int .i64 0, .int .i64 0]), 3, 40) := by kernel_rfl
theorem OwnA.onB {w w' : World} {B N : Nat} {v : Value} {L : List Rw} (h : OwnA w B v L) (hb : Below N w w') (hN : w.heap.size ≤ N) : OwnA w' B v L :=
  World.ownsRow.kept h (gOf (hb.mono hN) none) (by cases hv : v.ownBlock <;> simp)
theorem OwnA.push {w : World} {B : Nat} {v : Value} {L : List Rw} {r : Rw} (h : w.ownsRow B 42 3 v (L.length + 1) (cellsW L ++ encW r)) : OwnA w B v (L ++ [r]) := by
  unfold OwnA
  rw [cellsW_append, List.length_append]
  simpa [cellsW] using h
theorem OwnA.form {w : World} {B : Nat} {v : Value} {L : List Rw} (h : OwnA w B v L) : ∃ a c, v = .slice a L.length c ∧ (a = none → c = 0) ∧ (∀ q, a = some q → B ≤ q.block ∧ q.block < w.heap.size ∧ q = ⟨q.block, 0, none⟩) ∧
    ∀ i (hi : i < L.length), ∃ g, a = some ⟨g, 0, none⟩ ∧ w.cell? ⟨g, i * 3, none⟩ = some (.slice L[i].ad L[i].ps.length L[i].cp) ∧ w.cell? ⟨g, i * 3 + 1, none⟩ = some (.int .i64 L[i].st) ∧ w.cell? ⟨g, i * 3 + 2, none⟩ = some (.int .i64 L[i].en) := by
  rcases h.2 with ⟨rfl, h0⟩ | ⟨g, cap, cur, rfl, hg0, hg1, hcap, hmax, hcs, htk⟩
  · exact ⟨none, 0, by rw [h0], fun _ => rfl, (fun q e => by cases e), fun i hi => by omega⟩
  · refine ⟨_, _, rfl, (fun e => by cases e), (fun q e => by obtain rfl := Option.some.inj e; exact ⟨hg0, ltA hg1, rfl⟩), fun i hi => ⟨g, rfl, ?_⟩⟩
    obtain ⟨h1, h2, h3⟩ := cellsW_get L i hi
    rw [World.ownsRow.cellAt h _ (by omega), World.ownsRow.cellAt h _ (by omega), World.ownsRow.cellAt h _ (by omega)]
    exact ⟨h1, h2, h3⟩
theorem AlsAt.take {w : World} {a : Option Addr} {L : List Rw} (h : AlsAt w a L) (k : Nat) : AlsAt w a (L.take k) := fun hn => by
  rw [List.length_take] at hn
  obtain ⟨b, o, rfl, hbl, hc⟩ := h (by omega)
  refine ⟨b, o, rfl, hbl, fun i hi => ?_⟩
  rw [List.length_take] at hi
  rw [List.getElem_take]
  exact hc i (by omega)
theorem AlsAt.drop {w : World} {b o : Nat} {L : List Rw} (h : AlsAt w (some ⟨b, o, none⟩) L) (k : Nat) : AlsAt w (some ⟨b, o + k * 3, none⟩) (L.drop k) := fun hn => by
  rw [List.length_drop] at hn
  obtain ⟨b', o', e, hbl, hc⟩ := h (by omega)
  obtain ⟨rfl, rfl⟩ : b = b' ∧ o = o' := by simpa using e
  refine ⟨b, _, rfl, hbl, fun i hi => ?_⟩
  rw [List.length_drop] at hi
  rw [List.getElem_drop]
  have := hc (k + i) (by omega)
  simpa [Nat.add_mul, Nat.add_assoc] using this
theorem AlsAt.dropA {w : World} {q : Addr} {L : List Rw} (h : AlsAt w (some q) L) (k : Nat) : AlsAt w (some (q.add (k * 3))) (L.drop k) := fun hn => by
  obtain ⟨b, o, e, -⟩ := h (by rw [List.length_drop] at hn; omega)
  obtain rfl := Option.some.inj e
  rw [Go.WideShapes.add_plain]
  exact AlsAt.drop h k hn
theorem AlsAt.news {w : World} {a : Option Addr} {L : List Rw} (h : AlsAt w a L) : ∀ q, a = some q → ∀ j u, (cellsW L)[j]? = some u → w.cell? (q.add j) = some u := fun q e j u hj => by
  have hn := (List.getElem?_eq_some_iff.1 hj).1
  rw [cellsW_len] at hn
  obtain ⟨b, o, e2, -, hc⟩ := h (by omega)
  obtain rfl : q = ⟨b, o, none⟩ := Option.some.inj (e.symm.trans e2)
  obtain ⟨h1, h2, h3, -⟩ := hc (j / 3) (by omega)
  obtain ⟨g1, g2, g3⟩ := cellsW_get L (j / 3) (by omega)
  rw [Go.WideShapes.add_plain]
  rcases (by omega : j = j / 3 * 3 ∨ j = j / 3 * 3 + 1 ∨ j = j / 3 * 3 + 2) with e | e | e
  · rw [e, g1] at hj; rw [e, h1, ← hj]
  · rw [e, g2] at hj; rw [e, ← Nat.add_assoc, h2, ← hj]
  · rw [e, g3] at hj; rw [e, ← Nat.add_assoc, h3, ← hj]
/-- append, at alerts of the call's own, of alerts that lie somewhere. -/
theorem run_append_als (ty : TypeId) (w : World) (B : Nat) (v : Value) (rs : List Rw) (hown : OwnA w B v rs) (a : Option Addr) (n c : Nat) (L : List Rw) (hn : n = L.length) (hat : AlsAt w a L) (hc0 : a = none → c = 0) (hb : rs.length + L.length ≤ 1000000) (hB : B ≤ w.heap.size) :
    ∃ v' w', (Builtin.append_ #[26, 26] ty #[v, .slice a n c]).run Tryz.prog w = .ok v' w' ∧ OwnA w' B v' (rs ++ L) ∧ w.grownBy w' v.ownBlock := by
  subst hn
  obtain ⟨i0, hi, hi0, hi1, hi2⟩ := info_parts infoAl
  cases a with
  | none =>
    have h0 : L.length = 0 := by
      by_cases hp : 0 < L.length
      · obtain ⟨b, o, he, -⟩ := hat hp
        cases he
      · omega
    obtain rfl := List.eq_nil_of_length_eq_zero h0
    obtain rfl := hc0 rfl
    refine ⟨v, w, run_append_owned_none (P := Tryz.prog) (w := w) B 26 ty 42 i0 3 Tryz.underlying26 hi v _ _ hown, ?_, World.grownBy.refl w _⟩
    rw [List.append_nil]
    exact hown
  | some q =>
    obtain ⟨v', w', hr, h1, h2, -, -⟩ := run_append_own_at (P := Tryz.prog) w B 26 ty 42 i0 _ 3 40 Tryz.underlying26 hi hi0 hi1 hi2 rfl (by decide) v _ _ hown q L.length c (cellsW L) (cellsW_len L) (hat.news q rfl) cellsW_one (by unfold maxLen; omega) (by omega) hB
    refine ⟨v', w', hr, ?_, h2⟩
    unfold OwnA
    rw [List.length_append, cellsW_append]
    exact h1
theorem wpList_append_als (w : World) {ops : Array Oper} {rest : List Oper} {o : Oper} {act : Act} {Q : Exit → Act → World → Prop} (hgd : o.guard = none) (s x : Operand)
    (ho : o.op = .call { callee := .builtin .append, args := #[s, x], argTypes := #[26, 26] }) (B : Nat) (v : Value) (rs : List Rw) (hs : act.eval s = v) (hown : OwnA w B v rs)
    (a : Option Addr) (n c : Nat) (L : List Rw) (hx : act.eval x = .slice a n c) (hn : n = L.length) (hat : AlsAt w a L) (hc0 : a = none → c = 0) (hb : rs.length + L.length ≤ 1000000) (hB : B ≤ w.heap.size)
    (h : ∀ v' w', OwnA w' B v' (rs ++ L) → w.grownBy w' v.ownBlock → wpList Tryz.prog ops Q rest (act.put o.dst v') w') : wpList Tryz.prog ops Q (o :: rest) act w := by
  refine wpList_plain hgd fun K hK => ?_
  obtain ⟨v', w', hr, h1, h2⟩ := run_append_als o.type w B v rs hown a n c L hn hat hc0 hb hB
  unfold Oper.wp execOp
  simp only [ho, resolve, invoke, builtin, Sem.run_bind, Sem.run_pure, Result.andThen_ok, List.map_toArray, List.map_cons, List.map_nil, hs, hx, hr]
  exact hK _ _ (h v' w' h1 h2)
theorem step_append_als {w : World} {ops : Array Oper} {o : Oper} {act : Act} {K : Act → World → Prop} {Q : Exit → Act → World → Prop} {E : Prop} (hgd : o.guard = none) (s x : Operand)
    (ho : o.op = .call { callee := .builtin .append, args := #[s, x], argTypes := #[26, 26] }) (B : Nat) (v : Value) (rs : List Rw) (hs : act.eval s = v) (hown : OwnA w B v rs)
    (a : Option Addr) (n c : Nat) (L : List Rw) (hx : act.eval x = .slice a n c) (hn : n = L.length) (hat : AlsAt w a L) (hc0 : a = none → c = 0) (hb : rs.length + L.length ≤ 1000000) (hB : B ≤ w.heap.size)
    (h : ∀ v' w', OwnA w' B v' (rs ++ L) → w.grownBy w' v.ownBlock → K (act.put o.dst v') w') :
    if Region.wanted o (yielded ops act.tmps) = true then Oper.wp Tryz.prog o act w K Q else E := by
  have hw : Region.wanted o (yielded ops act.tmps) = true := by simp [Region.wanted, hgd]
  rw [if_pos hw]
  obtain ⟨v', w', hr, h1, h2⟩ := run_append_als o.type w B v rs hown a n c L hn hat hc0 hb hB
  unfold Oper.wp execOp
  simp only [ho, resolve, invoke, builtin, Sem.run_bind, Sem.run_pure, Result.andThen_ok, List.map_toArray, List.map_cons, List.map_nil, hs, hx, hr]
  exact h v' w' h1 h2
theorem alsAt_one (w : World) (r : Rw) (h : PairsAt (w.alloc (.cells #[.slice r.ad r.ps.length r.cp, .int .i64 r.st, .int .i64 r.en] 42)) r.ad r.ps) : AlsAt (w.alloc (.cells #[.slice r.ad r.ps.length r.cp, .int .i64 r.st, .int .i64 r.en] 42)) (some ⟨w.heap.size, 0, none⟩) [r] := fun _ => ⟨_, 0, rfl, by simp, fun i hi => by
  obtain rfl : i = 0 := by simp at hi; omega
  have c := newA w (.cells #[.slice r.ad r.ps.length r.cp, .int .i64 r.st, .int .i64 r.en] 42)
  exact ⟨cellA c, cellA c, cellA c, h⟩⟩
theorem OwnA.at {w : World} {B : Nat} {a : Option Addr} {n c : Nat} {L : List Rw} (h : OwnA w B (.slice a n c) L) (hp : ∀ r ∈ L, PairsAt w r.ad r.ps) : AlsAt w a L := fun hn => by
  obtain ⟨a', c', hv, -, hq, hc⟩ := h.form
  simp only [Value.slice.injEq] at hv
  obtain ⟨rfl, rfl, rfl⟩ := hv
  obtain ⟨g, rfl, -⟩ := hc 0 hn
  refine ⟨g, 0, rfl, (hq _ rfl).2.1, fun i hi => ?_⟩
  obtain ⟨g', e, h1, h2, h3⟩ := hc i hi
  obtain rfl : g = g' := by simpa using e
  rw [Nat.zero_add]
  exact ⟨h1, h2, h3, hp _ (List.getElem_mem hi)⟩
theorem AlsAt.pairs {w : World} {a : Option Addr} {L : List Rw} (h : AlsAt w a L) : ∀ r ∈ L, PairsAt w r.ad r.ps := fun r hr => by
  obtain ⟨i, hi, rfl⟩ := List.getElem_of_mem hr
  obtain ⟨b, o, -, -, hc⟩ := h (by omega)
  exact (hc i hi).2.2.2

end Go.Proofs.YtmanjegdgjeeiaaGreatDoor
namespace Go.Proofs.YtmanjegdgjeeiaaGreatDoor
open Go.RowKit

def eqP (x y : Pr) : Bool := x.1.toList == y.1.toList && x.2.toList == y.2.toList
theorem eqP_iff (x y : Pr) : eqP x y = true ↔ x = y := by
  unfold eqP
  rw [Bool.and_eq_true, beq_iff_eq, beq_iff_eq, ByteArray.toList_eq, ByteArray.toList_eq, ByteArray.toList_eq, ByteArray.toList_eq]
  constructor
  · rintro ⟨h1, h2⟩
    exact Prod.ext (Go.WideShapes.bytes_inj h1) (Go.WideShapes.bytes_inj h2)
  · rintro rfl
    exact ⟨rfl, rfl⟩
theorem allEq_iff : ∀ (xs ys : List Pr), Lib.allEq eqP xs ys = decide (xs = ys)
  | [], [] => by simp [Lib.allEq]
  | [], _ :: _ => by simp [Lib.allEq]
  | _ :: _, [] => by simp [Lib.allEq]
  | x :: xs, y :: ys => by
    rw [Lib.allEq, allEq_iff xs ys]
    by_cases h : x = y
    · rw [(eqP_iff x y).2 h]
      simp [h]
    · have : eqP x y = false := by
        cases he : eqP x y
        · rfl
        · exact absurd ((eqP_iff x y).1 he) h
      rw [this]
      simp [h]

theorem neqP_run (x y : Pr) (w : World) : (binOp .neq 57 (.agg (encP x).toArray) (.agg (encP y).toArray)).run Tryz.prog w = .ok (.bool (!eqP x y)) w := by
  have u9 := Tryz.underlying9
  have a9 := Tryz.isAgg9
  have z9 := Tryz.sizeOf9
  have hS : Tryz.prog.underlying 57 = some (.struct (Tryz.prog.fieldsOf 57)) := by kernel_rfl
  have hp : Tryz.prog.stoodInHeld 57 = false := by kernel_rfl
  simp only [encP, eqP]
  rw [run_neq_struct, show (10000 : Nat) = 9999 + 1 from rfl, run_equalIn_agg w 9999 57 _ _ hS hp]
  simp only [Program.fieldsOf, Tryz.underlying57]
  go_simp
  by_cases h1 : x.fst.toList = y.fst.toList <;> by_cases h2 : x.snd.toList = y.snd.toList <;> simp [h1, h2]
theorem neqP : NeqAt Tryz.prog 57 (fun x => .agg (encP x).toArray) eqP := ⟨neqP_run, GuardAt.agg _ (by kernel_rfl)⟩

set_option maxHeartbeats 1000000 in
theorem Equal_lens (a b : Option Addr) (n c m d : Nat) (w : World) (hn : n ≠ m) : Calls Tryz.prog 45 #[.slice a n c, .slice b m d] w fun e w' => e = .returned (.bool false) ∧ w' = w := by
  have h1 : ((n : Int) != (m : Int)) = true := by simp; omega
  have h2 : ¬ n = m := hn
  go_enter Tryz.func45, Tryz.ntmps45
  go_wp2
  go_ret
  exact ⟨rfl, rfl⟩

set_option maxHeartbeats 1000000 in
theorem Equal_none (a b : Option Addr) (c d : Nat) (w : World) : Calls Tryz.prog 45 #[.slice a 0 c, .slice b 0 d] w fun e w' => e = .returned (.bool true) ∧ w' = w := by
  go_enter Tryz.func45, Tryz.ntmps45
  go_wp2
  refine wp_loop_rounds 1 ?_
  rw [rounds_succ]
  go_wp2
  go_ret
  exact ⟨rfl, rfl⟩

theorem getElem!_get (xs : List Pr) (j : Nat) (h : j < xs.length) : xs[j]! = xs[j] := getElem!_pos xs j h

theorem pairs_flat {w : World} {b o : Nat} {xs : List Pr} (h : ∀ i (hi : i < xs.length), w.cell? ⟨b, o + i * 2, none⟩ = some (.string xs[i].1) ∧ w.cell? ⟨b, o + i * 2 + 1, none⟩ = some (.string xs[i].2)) :
    ∀ j, j < xs.length → ∀ i v, (encP xs[j]!)[i]? = some v → w.cell? ⟨b, o + j * 2 + i, none⟩ = some v := fun j hj i v hv => by
  rw [getElem!_get xs j hj] at hv
  match i, hv with
  | 0, hv => simp only [encP, List.getElem?_cons_zero, Option.some.injEq] at hv; subst hv; exact (h j hj).1
  | 1, hv => simp only [encP, List.getElem?_cons_succ, List.getElem?_cons_zero, Option.some.injEq] at hv; subst hv; exact (h j hj).2

theorem Equal_any (a b : Option Addr) (c d : Nat) (xs ys : List Pr) (w : World) (ha : PairsAt w a xs) (hb : PairsAt w b ys) (hn : xs.length ≤ 9223372036854775807) :
    Calls Tryz.prog 45 #[.slice a xs.length c, .slice b ys.length d] w fun e w' => e = .returned (.bool (decide (xs = ys))) ∧ ∃ q, w' = w.drewN q := by
  by_cases hl : xs.length = ys.length
  · by_cases hz : 0 < xs.length
    · obtain ⟨b1, o1, rfl, h1⟩ := ha hz
      obtain ⟨b2, o2, rfl, h2⟩ := hb (by omega)
      have hc := AnyQ.slices_Equal Tryz.lEqual 2 Tryz.isAgg57 Tryz.sizeOf57 encP (fun _ => rfl) eqP neqP b1 o1 xs.length c b2 o2 ys.length d xs ys w (Nat.le_refl _) (Nat.le_refl _) hn (by omega) (pairs_flat h1) (pairs_flat h2)
      rw [List.take_length, List.take_length, allEq_iff] at hc
      exact hc
    · obtain rfl := List.eq_nil_of_length_eq_zero (show xs.length = 0 by omega)
      obtain rfl := List.eq_nil_of_length_eq_zero (show ys.length = 0 by simpa using hl.symm)
      exact (Equal_none a b c d w).mono fun e w' ⟨he, hw⟩ => ⟨he, 0, hw⟩
  · have : decide (xs = ys) = false := decide_eq_false fun e => hl (by rw [e])
    rw [this]
    exact (Equal_lens a b _ c _ d w hl).mono fun e w' ⟨he, hw⟩ => ⟨he, 0, hw⟩

set_option maxHeartbeats 1000000 in
theorem Same_any (a b : Option Addr) (c d : Nat) (xs ys : List Pr) (w : World) (ha : PairsAt w a xs) (hb : PairsAt w b ys) (hn : xs.length ≤ 9223372036854775807) (n m : Nat) (hnx : n = xs.length) (hmy : m = ys.length) :
    Calls Tryz.prog 15 #[.slice a n c, .slice b m d] w fun e w' => e = .returned (.bool (decide (xs = ys))) ∧ Below w.heap.size w w' := by
  subst hnx hmy
  have HE := Lib.hid (Equal_any a b c d xs ys w ha hb hn)
  generalize decide (xs = ys) = R at HE ⊢
  clear ha hb
  go_enter Tryz.func15, Tryz.ntmps15
  go_wp2_with (go_at_call 45; refine HE.out.mono ?_; rintro e w1 ⟨rfl, q, rfl⟩)
  go_ret
  exact ⟨rfl, below_drewN (Below.refl _ _) q⟩

end Go.Proofs.YtmanjegdgjeeiaaGreatDoor
namespace Go.Proofs.YtmanjegdgjeeiaaGreatDoor
open Go.RowKit

/-- Texts lie at an address; where there are none, anywhere. -/
def TextsAt (w : World) (a : Option Addr) (ss : List ByteArray) : Prop :=
  0 < ss.length → ∃ b o, a = some ⟨b, o, none⟩ ∧ ∀ i (hi : i < ss.length), w.cell? ⟨b, o + i, none⟩ = some (.string ss[i])
theorem TextsAt.below {w w' : World} {a : Option Addr} {ss : List ByteArray} {B : Nat} (h : TextsAt w a ss) (hb : Below B w w') (hB : w.heap.size ≤ B) : TextsAt w' a ss := fun hn => by
  obtain ⟨b, o, rfl, hc⟩ := h hn
  exact ⟨b, o, rfl, fun i hi => by rw [hb.cell (Nat.lt_of_lt_of_le (World.block_lt_of_cell? w _ (hc i hi)) hB)]; exact hc i hi⟩

/-- A text is one of some. -/
def inB (s : ByteArray) (ns : List ByteArray) : Bool := ns.any fun x => decide (x = s)
theorem inB_iff {s : ByteArray} {ns : List ByteArray} : inB s ns = true ↔ s ∈ ns := by
  unfold inB
  rw [List.any_eq_true]
  exact ⟨fun ⟨x, hx, e⟩ => of_decide_eq_true e ▸ hx, fun h => ⟨s, h, decide_eq_true rfl⟩⟩
theorem inB_yes {s : ByteArray} {ns : List ByteArray} (h : s ∈ ns) : inB s ns = true := inB_iff.2 h
theorem inB_no {s : ByteArray} {ns : List ByteArray} (h : ¬ s ∈ ns) : inB s ns = false := by
  cases e : inB s ns with
  | false => rfl
  | true => exact absurd (inB_iff.1 e) h

/-- The pairs of some names. -/
def pickL (ps : List Pr) (ns : List ByteArray) : List Pr := ps.filter fun p => inB p.1 ns
theorem pickL_in (ps : List Pr) (ns : List ByteArray) (k : Nat) (hk : k < ps.length) (h : ps[k].1 ∈ ns) : pickL (ps.take (k + 1)) ns = pickL (ps.take k) ns ++ [ps[k]] := by
  unfold pickL
  rw [List.take_succ_eq_append_getElem hk, List.filter_append]
  simp [inB_yes h]
theorem pickL_out (ps : List Pr) (ns : List ByteArray) (k : Nat) (hk : k < ps.length) (h : ¬ ps[k].1 ∈ ns) : pickL (ps.take (k + 1)) ns = pickL (ps.take k) ns := by
  unfold pickL
  rw [List.take_succ_eq_append_getElem hk, List.filter_append]
  simp [inB_no h]
theorem pickL_len (ps : List Pr) (ns : List ByteArray) : (pickL ps ns).length ≤ ps.length := List.length_filter_le _ _

theorem str_beq (x y : ByteArray) : (x.toList == y.toList) = decide (x = y) := by
  rw [ByteArray.toList_eq, ByteArray.toList_eq, Bool.eq_iff_iff, beq_iff_eq, decide_eq_true_eq]
  exact ⟨fun h => Go.WideShapes.bytes_inj h, fun h => by rw [h]⟩

theorem OwnP.push {w : World} {B : Nat} {v : Value} {rs : List Pr} {s1 s2 : ByteArray} (h : w.ownsRow B 57 2 v (rs.length + 1) (cellsP rs ++ [.string s1, .string s2])) : OwnP w B v (rs ++ [(s1, s2)]) := by
  unfold OwnP
  rw [cellsP_append, List.length_append]
  exact h

theorem Contains_any (a : Option Addr) (c : Nat) (ns : List ByteArray) (s : ByteArray) (w : World) (h : TextsAt w a ns) (hn : ns.length ≤ 9223372036854775807) (n : Nat) (hnl : n = ns.length) :
    Calls Tryz.prog 46 #[.slice a n c, .string s] w fun e w' => e = .returned (.bool (inB s ns)) ∧ w' = w := by
  subst hnl
  by_cases hp : 0 < ns.length
  · obtain ⟨b, o, rfl, hc⟩ := h hp
    have hcon := Any.slices_Contains_string Tryz.lContains b o ns.length c ns s w (Nat.le_refl _) hn (fun j hj => by rw [hc j hj]; simp [List.getD, hj])
    rw [List.take_length] at hcon
    have he : Lib.containsS ns s = inB s ns := by rw [Bool.eq_iff_iff, Lib.containsS_iff, inB_iff]
    rw [he] at hcon
    exact hcon
  · obtain rfl := List.eq_nil_of_length_eq_zero (show ns.length = 0 by omega)
    exact Any.slices_Contains_string_empty Tryz.lContains a c s w

set_option maxHeartbeats 1000000 in
theorem In_any (a : Option Addr) (c : Nat) (ns : List ByteArray) (s : ByteArray) (w : World) (h : TextsAt w a ns) (hn : ns.length ≤ 9223372036854775807) (n : Nat) (hnl : n = ns.length) :
    Calls Tryz.prog 70 #[.slice a n c, .string s] w fun e w' => e = .returned (.bool (inB s ns)) ∧ w' = w := by
  subst hnl
  go_enter Tryz.func70, Tryz.ntmps70
  go_wp2
  go_loop [5] (fun i => ∃ k : Nat, k ≤ ns.length ∧ i = .int .i64 k ∧ ∀ j, j < k → ∀ hj : j < ns.length, ns[j] ≠ s) (fun i => ns.length - (intOf i).toNat)
  case atStart => exact ⟨0, Nat.zero_le _, rfl, fun j hj => absurd hj (Nat.not_lt_zero _)⟩
  case round =>
    obtain ⟨k, hk, rfl, hall⟩ := hrel
    by_cases hlt : k < ns.length
    · have hkl : (k : Int) < (ns.length : Int) := by omega
      obtain ⟨b, o, rfl, hc⟩ := h (by omega)
      have hc1 := hc k hlt
      clear hc h
      by_cases hE : ns[k] = s
      · have hE' : (ns[k].toList == s.toList) = true := by rw [str_beq]; exact decide_eq_true hE
        have HV := Lib.hid (inB_yes (show s ∈ ns by rw [← hE]; exact List.getElem_mem hlt))
        clear hall hE
        go_wp2
        go_ret
        exact ⟨by rw [HV.out]; rfl, rfl⟩
      · have hE' : (ns[k].toList == s.toList) = false := by rw [str_beq]; exact decide_eq_false hE
        have HA := Lib.hid (upto_succ hall fun _ => hE)
        clear hall hE
        go_wp2
        go_round
        case rel => exact ⟨k + 1, by omega, by go_num, HA.out⟩
        case measure => simp [intOf]; omega
    · obtain rfl : k = ns.length := by omega
      have HV : Hid (inB s ns = false) := Lib.hid (inB_no fun hm => by
        obtain ⟨i, hi, e⟩ := List.getElem_of_mem hm
        exact hall i hi hi e)
      clear hall
      go_wp2
      go_ret
      exact ⟨by rw [HV.out]; rfl, rfl⟩

set_option maxHeartbeats 2000000 in
set_option maxRecDepth 100000 in
theorem Pick_any (a b : Option Addr) (c d : Nat) (ps : List Pr) (ns : List ByteArray) (w : World) (h : PairsAt w a ps) (hs : TextsAt w b ns) (hl : ps.length ≤ 4398046511102) (hnl : ns.length ≤ 9223372036854775807) (n : Nat) (hn : n = ps.length) (m : Nat) (hm : m = ns.length) :
    Calls Tryz.prog 16 #[.slice a n c, .slice b m d] w fun e w' => ∃ a' c', e = .returned (.slice a' (pickL ps ns).length c') ∧ OwnP w' w.heap.size (.slice a' (pickL ps ns).length c') (pickL ps ns) ∧ Below w.heap.size w w' := by
  subst hn hm
  obtain ⟨i0, hi, hi0, hi1, hi2⟩ := info_parts infoPair
  go_enter Tryz.func16, Tryz.ntmps16
  go_wp2
  go_loopw [5, 10] (fun v i wr => ∃ (k : Nat) (a5 : Option Addr) (n5 c5 : Nat), k ≤ ps.length ∧ i = .int .i64 k ∧ v = .slice a5 n5 c5 ∧ OwnP wr w.heap.size (.slice a5 n5 c5) (pickL (ps.take k) ns) ∧ Below w.heap.size w wr) (fun _ i _ => ps.length - (intOf i).toNat)
  case atStart => exact ⟨0, none, 0, 0, Nat.zero_le _, rfl, rfl, World.ownsRow_nil _ _ _ _, Below.refl _ _⟩
  case round =>
    obtain ⟨k, a5, n5, c5, hk, rfl, rfl, hown, hnx⟩ := hrel
    have hs1 := hnx.size
    by_cases hlt : k < ps.length
    · have hkl : (k : Int) < (ps.length : Int) := by omega
      obtain ⟨b0, o, rfl, hc⟩ := h (by omega)
      obtain ⟨hc1, hc2⟩ := hc k hlt
      rw [← hnx.cell (p := ⟨b0, o + k * 2, none⟩) (World.block_lt_of_cell? w _ hc1)] at hc1
      rw [← hnx.cell (p := ⟨b0, o + k * 2 + 1, none⟩) (World.block_lt_of_cell? w _ hc2)] at hc2
      have HM := Lib.hid (pickL_in ps ns k hlt)
      have HO := Lib.hid (pickL_out ps ns k hlt)
      have hlen : (pickL (ps.take k) ns).length + 1 ≤ 4398046511103 := by have := pickL_len (ps.take k) ns; simp at this; omega
      clear hc h
      generalize ps[k] = pk at *
      obtain ⟨s1, s2⟩ := pk
      have hwb : Below w.heap.size w (wr.alloc (.cells #[.string s1, .string s2] 57)) := hnx.alloc hs1 _
      have hownb : OwnP (wr.alloc (.cells #[.string s1, .string s2] 57)) w.heap.size (.slice a5 n5 c5) (pickL (ps.take k) ns) := World.ownsRow.alloc hown _
      have hx1 : (wr.alloc (.cells #[.string s1, .string s2] 57)).cell? ⟨wr.heap.size, 0, none⟩ = some (.string s1) := by rw [World.cell?_alloc_mark]; rfl
      have hx2 : (wr.alloc (.cells #[.string s1, .string s2] 57)).cell? ⟨wr.heap.size, 1, none⟩ = some (.string s2) := by rw [World.cell?_alloc_mark]; rfl
      generalize (pickL (ps.take k) ns) = rs at *
      by_cases hin : s1 ∈ ns
      · have hd := inB_yes hin
        have HC := Lib.hid (fun w1 (hb : Below w.heap.size w w1) => Contains_any b d ns s1 w1 (hs.below hb (Nat.le_refl _)) hnl ns.length rfl)
        rw [hd] at HC
        have HM2 := Lib.hid (HM.out hin)
        clear HM HO hd hin hs
        go_wp2_with fail
        generalize wr.alloc (.cells #[.string s1, .string s2] 57) = wb at *
        have hwbs := hwb.size
        generalize wr.heap.size = x at *
        clear hc1 hc2 hown hnx
        go_wp2_with (first
          | (go_at_call 46; refine (HC.out _ hwb).mono ?_; rintro e w2 ⟨rfl, rfl⟩)
          | (at_builtin; refine wpList_append_own _ rfl _ _ 40 rfl w.heap.size 57 i0 _ 2 32 Tryz.underlying40 hi hi0 hi1 hi2 rfl (by decide) _ _ _ rfl (hownb.alloc _) ⟨_, 0, none⟩ 1 1 [.string s1, .string s2] rfl rfl (World.news_of_block (cs := #[.string s1, .string s2]) (heap_alloc_new _ _)) (by intro u' hu'; simp at hu'; rcases hu' with rfl | rfl <;> rfl) (by unfold maxLen; omega) (by omega) (by simp; omega) ?_; refine Hid.out ?_))
        refine Lib.hid ?_
        intro v2 w2 hown2 hgrow _
        have hnx2 : Below w.heap.size w w2 := (hwb.alloc hwbs _).grown hgrow (by simp; omega) (fun k hk => (hownb.lt k hk).1)
        have hown3 : OwnP w2 w.heap.size v2 (pickL (ps.take (k + 1)) ns) := by
          rw [HM2.out]
          exact OwnP.push hown2
        obtain ⟨a6, c6, rfl, -, -, -⟩ := hown3.form
        clear hown2 hgrow
        go_wp2
        go_roundw
        case rel => exact ⟨k + 1, _, _, _, by omega, by go_num, rfl, hown3, hnx2⟩
        case measure => simp [intOf]; omega
      · have hd := inB_no hin
        have HC := Lib.hid (fun w1 (hb : Below w.heap.size w w1) => Contains_any b d ns s1 w1 (hs.below hb (Nat.le_refl _)) hnl ns.length rfl)
        rw [hd] at HC
        have HM2 := Lib.hid (HO.out hin)
        clear HM HO hd hin hs
        go_wp2_with fail
        generalize wr.alloc (.cells #[.string s1, .string s2] 57) = wb at *
        generalize wr.heap.size = x at *
        clear hc1 hc2 hown hnx
        go_wp2_with (go_at_call 46; refine (HC.out _ hwb).mono ?_; rintro e w2 ⟨rfl, rfl⟩)
        go_roundw
        case rel => exact ⟨k + 1, _, _, _, by omega, by go_num, rfl, by rw [HM2.out]; exact hownb, hwb⟩
        case measure => simp [intOf]; omega
    · obtain rfl : k = ps.length := by omega
      rw [List.take_length] at hown
      obtain ⟨a6, c6, hv6, -, -, -⟩ := hown.form
      injection hv6 with e1 e2 e3
      subst e1 e3
      have HO := Lib.hid hown
      have HE := Lib.hid e2
      clear hown e2
      go_wp2
      go_ret
      obtain rfl := HE.out
      exact ⟨_, _, rfl, HO.out, hnx⟩

end Go.Proofs.YtmanjegdgjeeiaaGreatDoor
namespace Go.Proofs.YtmanjegdgjeeiaaGreatDoor
open Go.RowKit Go.Maps

/-- A group: its route, its labels and its alerts; where they lie. -/
structure Gm where
  rt : Nat
  lb : List Pr
  la : Option Addr
  lc : Nat
  al : List Rw
  aa : Option Addr
  ac : Nat
def Gm.key (g : Gm) : List UInt8 := gKeyL g.rt g.lb
def encG (g : Gm) : List Value := [.int .i64 g.rt, .slice g.la g.lb.length g.lc, .string ⟨g.key.toArray⟩, .slice g.aa g.al.length g.ac]
def cellsGm (G : List Gm) : List Value := G.flatMap encG
theorem cellsGm_len : ∀ G : List Gm, (cellsGm G).length = G.length * 4
  | [] => rfl
  | p :: r => by
    have := cellsGm_len r
    simp only [cellsGm, List.flatMap_cons, List.length_append, List.length_cons] at *
    rw [this]
    simp [encG]
    omega
theorem cellsGm_append (L M : List Gm) : cellsGm (L ++ M) = cellsGm L ++ cellsGm M := List.flatMap_append
theorem cellsGm_get : ∀ (G : List Gm) (i : Nat) (hi : i < G.length), (cellsGm G)[i * 4]? = some (.int .i64 G[i].rt) ∧ (cellsGm G)[i * 4 + 1]? = some (.slice G[i].la G[i].lb.length G[i].lc) ∧ (cellsGm G)[i * 4 + 2]? = some (.string ⟨G[i].key.toArray⟩) ∧ (cellsGm G)[i * 4 + 3]? = some (.slice G[i].aa G[i].al.length G[i].ac)
  | p :: r, 0, _ => ⟨rfl, rfl, rfl, rfl⟩
  | p :: r, i + 1, hi => by
    have := cellsGm_get r i (by simpa using hi)
    have e : cellsGm (p :: r) = encG p ++ cellsGm r := rfl
    have el : (encG p).length = 4 := rfl
    rw [e, List.getElem?_append_right (by omega), List.getElem?_append_right (by omega), List.getElem?_append_right (by omega), List.getElem?_append_right (by omega), el]
    simpa [show (i + 1) * 4 - 4 = i * 4 by omega, show (i + 1) * 4 + 1 - 4 = i * 4 + 1 by omega, show (i + 1) * 4 + 2 - 4 = i * 4 + 2 by omega, show (i + 1) * 4 + 3 - 4 = i * 4 + 3 by omega] using this
/-- A group with other alerts. -/
def Gm.put (g : Gm) (al : List Rw) (aa : Option Addr) (ac : Nat) : Gm := ⟨g.rt, g.lb, g.la, g.lc, al, aa, ac⟩
theorem cellsGm_set : ∀ (G : List Gm) (i : Nat) (hi : i < G.length) (al : List Rw) (aa : Option Addr) (ac : Nat), (cellsGm G).set (i * 4 + 3) (.slice aa al.length ac) = cellsGm (G.set i (G[i].put al aa ac))
  | p :: r, 0, _, al, aa, ac => rfl
  | p :: r, i + 1, hi, al, aa, ac => by
    have ih := cellsGm_set r i (by simpa using hi) al aa ac
    have e : cellsGm (p :: r) = encG p ++ cellsGm r := rfl
    have el : (encG p).length = 4 := rfl
    rw [e, List.set_append_right _ _ (by omega), el, show (i + 1) * 4 + 3 - 4 = i * 4 + 3 by omega, ih]
    rfl
def OwnG (w : World) (B : Nat) (v : Value) (G : List Gm) : Prop := w.ownsRow B 44 4 v G.length (cellsGm G)
theorem infoGr : (Tryz.prog.info? 44).map (fun i => (i.zero, i.size, i.bytes)) = some (some (.agg #[.int .i64 0, .slice none 0 0, .string ⟨#[]⟩, .slice none 0 0]), 4, 72) := by kernel_rfl

/-- Rows of unlike elements lie in unlike blocks. -/
theorem rows_apart {w : World} {B B' : Nat} {e e' : TypeId} {s s' n n' : Nat} {v v' : Value} {xs xs' : List Value} (h : w.ownsRow B e s v n xs) (h' : w.ownsRow B' e' s' v' n' xs') (hne : e ≠ e') : v.ownBlock = none ∨ v.ownBlock ≠ v'.ownBlock := by
  rcases h.2 with ⟨rfl, -⟩ | ⟨g, cap, cur, rfl, -, hg1, -⟩
  · exact .inl rfl
  · refine .inr fun e1 => ?_
    rcases h'.2 with ⟨rfl, -⟩ | ⟨g', cap', cur', rfl, -, hg2, -⟩
    · cases e1
    · obtain rfl : g = g' := by simpa [Value.ownBlock] using e1
      rw [hg1] at hg2
      simp only [Option.some.injEq, Obj.cells.injEq] at hg2
      exact hne hg2.2.1
theorem past_row {w w' : World} {B B' : Nat} {e e' : TypeId} {s s' n n' : Nat} {v v' : Value} {xs xs' : List Value} (h : w.ownsRow B e s v n xs) (h' : w.ownsRow B' e' s' v' n' xs') (hne : e ≠ e') (hg : w.grownBy w' v'.ownBlock) : w'.ownsRow B e s v n xs := h.kept hg (rows_apart h h' hne)
theorem onB_row {w w' : World} {B N : Nat} {e : TypeId} {s n : Nat} {v : Value} {xs : List Value} (h : w.ownsRow B e s v n xs) (hb : Below N w w') (hN : w.heap.size ≤ N) : w'.ownsRow B e s v n xs := h.kept (gOf (hb.mono hN) none) (by cases hv : v.ownBlock <;> simp)

/-- Two groups' alerts lie in unlike blocks. -/
def ApartG (g h : Gm) : Prop := ∀ q q', g.aa = some q → h.aa = some q' → q.block ≠ q'.block
/-- Groups that are being filled. -/
structure GInv (w : World) (B : Nat) (v : Value) (G : List Gm) : Prop where
  own : OwnG w B v G
  lab : ∀ g ∈ G, OwnP w B (.slice g.la g.lb.length g.lc) g.lb
  als : ∀ g ∈ G, OwnA w B (.slice g.aa g.al.length g.ac) g.al
  alp : ∀ g ∈ G, ∀ r ∈ g.al, OwnP w B (.slice r.ad r.ps.length r.cp) r.ps
  sep : ∀ i j (hi : i < G.length) (hj : j < G.length), i ≠ j → ApartG G[i] G[j]
theorem GInv.nil (w : World) (B : Nat) : GInv w B (.slice none 0 0) [] := ⟨World.ownsRow_nil _ _ _ _, (fun g h => by cases h), (fun g h => by cases h), (fun g h => by cases h), fun i j hi => absurd hi (Nat.not_lt_zero _)⟩
theorem GInv.below {w w' : World} {B : Nat} {v : Value} {G : List Gm} (h : GInv w B v G) (hb : Below w.heap.size w w') : GInv w' B v G :=
  ⟨onB_row h.own hb (Nat.le_refl _), fun g hg => onB_row (h.lab g hg) hb (Nat.le_refl _), fun g hg => onB_row (h.als g hg) hb (Nat.le_refl _), fun g hg r hr => onB_row (h.alp g hg r hr) hb (Nat.le_refl _), h.sep⟩
/-- What turned a map's block turned no row. -/
theorem GInv.mapped {w w' : World} {B b : Nat} {v : Value} {G : List Gm} (h : GInv w B v G) (hm : ∃ es clock, w.heap[b]? = some (.map es clock)) (hg : w.grownBy w' (some b)) : GInv w' B v G := by
  obtain ⟨es, clock, hm⟩ := hm
  have key : ∀ {e : TypeId} {s n : Nat} {v : Value} {xs : List Value}, w.ownsRow B e s v n xs → w'.ownsRow B e s v n xs := fun {e s n v xs} h => h.kept hg (by
    rcases h.2 with ⟨rfl, -⟩ | ⟨g, cap, cur, rfl, -, hg1, -⟩
    · exact .inl rfl
    · refine .inr fun e1 => ?_
      obtain rfl : g = b := by simpa [Value.ownBlock] using e1
      rw [hm] at hg1
      cases hg1)
  exact ⟨key h.own, fun g hg => key (h.lab g hg), fun g hg => key (h.als g hg), fun g hg r hr => key (h.alp g hg r hr), h.sep⟩
/-- One group more, without alerts. -/
theorem GInv.more {w w' : World} {B : Nat} {v v' : Value} {G : List Gm} {g0 : Gm} (h : GInv w B v G) (hl : OwnP w B (.slice g0.la g0.lb.length g0.lc) g0.lb) (h0 : g0.al = []) (ha : g0.aa = none) (hc : g0.ac = 0) (hown : OwnG w' B v' (G ++ [g0])) (hg : w.grownBy w' v.ownBlock) : GInv w' B v' (G ++ [g0]) := by
  have n1 : 57 ≠ 44 := by decide
  have n2 : 42 ≠ 44 := by decide
  refine ⟨hown, fun g hm => ?_, fun g hm => ?_, fun g hm r hr => ?_, fun i j hi hj hij q q' e1 e2 => ?_⟩
  · rcases List.mem_append.1 hm with hm | hm
    · exact past_row (h.lab g hm) h.own n1 hg
    · obtain rfl : g = g0 := by simpa using hm
      exact past_row hl h.own n1 hg
  · rcases List.mem_append.1 hm with hm | hm
    · exact past_row (h.als g hm) h.own n2 hg
    · obtain rfl : g = g0 := by simpa using hm
      rw [h0, ha, hc]
      exact World.ownsRow_nil _ _ _ _
  · rcases List.mem_append.1 hm with hm | hm
    · exact past_row (h.alp g hm r hr) h.own n1 hg
    · obtain rfl : g = g0 := by simpa using hm
      rw [h0] at hr
      cases hr
  · rw [List.length_append] at hi hj
    simp only [List.length_cons, List.length_nil] at hi hj
    by_cases hi' : i < G.length
    · by_cases hj' : j < G.length
      · rw [List.getElem_append_left hi'] at e1
        rw [List.getElem_append_left hj'] at e2
        exact h.sep i j hi' hj' hij q q' e1 e2
      · have e : (G ++ [g0])[j]'(by simp; omega) = g0 := by rw [List.getElem_append_right (by omega)]; simp
        rw [e, ha] at e2
        cases e2
    · have e : (G ++ [g0])[i]'(by simp; omega) = g0 := by rw [List.getElem_append_right (by omega)]; simp
      rw [e, ha] at e1
      cases e1
/-- One alert more in a group: its row grew, and the group's cell was turned. -/
theorem GInv.fill {w w' : World} {B gb n cap p : Nat} {G : List Gm} {x : Rw} {a' : Option Addr} {c' : Nat} (h : GInv w B (.slice (some ⟨gb, 0, none⟩) n cap) G) (hp : p < G.length) (hx : OwnP w B (.slice x.ad x.ps.length x.cp) x.ps)
    (hown : OwnA w' B (.slice a' (G[p].al.length + 1) c') (G[p].al ++ [x])) (hg : w.grownBy w' (Value.slice G[p].aa G[p].al.length G[p].ac).ownBlock) (hnew : ∀ q, a' = some q → (∃ q2, G[p].aa = some q2 ∧ q2.block = q.block) ∨ w.heap.size ≤ q.block) :
    GInv (w'.setCell ⟨gb, p * 4 + 3, none⟩ (.slice a' (G[p].al.length + 1) c')) B (.slice (some ⟨gb, 0, none⟩) n cap) (G.set p (G[p].put (G[p].al ++ [x]) a' c')) := by
  have n1 : 57 ≠ 42 := by decide
  have n2 : 44 ≠ 42 := by decide
  have n3 : 57 ≠ 44 := by decide
  have n4 : 42 ≠ 44 := by decide
  have hal := h.als G[p] (List.getElem_mem hp)
  have hg1 : OwnG w' B (.slice (some ⟨gb, 0, none⟩) n cap) G := past_row h.own hal n2 hg
  have hlen : (G[p].al ++ [x]).length = G[p].al.length + 1 := by simp
  have hnG : n = G.length := by
    rcases h.own.2 with ⟨e, -⟩ | ⟨g, c, cur, e, -⟩
    · cases e
    · simp only [Value.slice.injEq] at e; exact e.2.1
  subst hnG
  obtain ⟨hst, hgs⟩ := World.ownsRow.stored hg1 (p * 4 + 3) (.slice a' (G[p].al.length + 1) c')
  have hsetG := cellsGm_set G p hp (G[p].al ++ [x]) a' c'
  rw [hlen] at hsetG
  rw [hsetG] at hst
  have hownG2 : (Value.slice (some ⟨gb, 0, none⟩) G.length cap).ownBlock = some gb := rfl
  have mem : ∀ g ∈ G.set p (G[p].put (G[p].al ++ [x]) a' c'), (∃ j, ∃ hj : j < G.length, j ≠ p ∧ g = G[j]) ∨ g = G[p].put (G[p].al ++ [x]) a' c' := fun g hm => by
    obtain ⟨j, hj, rfl⟩ := List.getElem_of_mem hm
    rw [List.length_set] at hj
    by_cases e : j = p
    · subst e
      right
      simp
    · left
      refine ⟨j, hj, e, ?_⟩
      rw [List.getElem_set_ne (by omega)]
  have labP : ∀ {v : Value} {ps : List Pr}, OwnP w B v ps → OwnP (w'.setCell ⟨gb, p * 4 + 3, none⟩ (.slice a' (G[p].al.length + 1) c')) B v ps := fun {v ps} hP =>
    past_row (past_row hP hal n1 hg) hg1 n3 hgs
  have hsz : (G.set p (G[p].put (G[p].al ++ [x]) a' c')).length = G.length := by simp
  refine ⟨?_, fun g hm => ?_, fun g hm => ?_, fun g hm r hr => ?_, fun i j hi hj hij q q' e1 e2 => ?_⟩
  · unfold OwnG
    rw [hsz]
    exact hst
  · rcases mem g hm with ⟨j, hj, -, rfl⟩ | rfl
    · exact labP (h.lab _ (List.getElem_mem hj))
    · exact labP (h.lab G[p] (List.getElem_mem hp))
  · rcases mem g hm with ⟨j, hj, hjp, rfl⟩ | rfl
    · have h1 := h.als _ (List.getElem_mem hj)
      refine past_row (h1.kept hg ?_) hg1 n4 hgs
      cases e3 : G[j].aa with
      | none => exact .inl rfl
      | some q =>
        refine .inr ?_
        cases e4 : G[p].aa with
        | none => intro e5; cases e5
        | some q2 =>
          intro e5
          simp only [Value.ownBlock, Option.some.injEq] at e5
          exact h.sep j p hj hp hjp q q2 e3 e4 e5
    · show OwnA _ B (.slice a' (G[p].al ++ [x]).length c') (G[p].al ++ [x])
      rw [hlen]
      exact past_row hown hg1 n4 hgs
  · rcases mem g hm with ⟨j, hj, -, rfl⟩ | rfl
    · exact labP (h.alp _ (List.getElem_mem hj) r hr)
    · have hr' : r ∈ G[p].al ++ [x] := hr
      rcases List.mem_append.1 hr' with hr' | hr'
      · exact labP (h.alp _ (List.getElem_mem hp) r hr')
      · obtain rfl : r = x := by simpa using hr'
        exact labP hx
  · have hi2 : i < G.length := by rw [hsz] at hi; exact hi
    have hj2 : j < G.length := by rw [hsz] at hj; exact hj
    have lt : ∀ k (hk : k < G.length) q, G[k].aa = some q → q.block < w.heap.size := fun k hk q e => (World.ownsRow.lt (h.als _ (List.getElem_mem hk)) q.block (by rw [e]; rfl)).2
    have apart : ∀ k (hk : k < G.length), k ≠ p → ∀ q q', G[k].aa = some q → a' = some q' → q.block ≠ q'.block := fun k hk hkp q q' e3 e4 e5 => by
      rcases hnew q' e4 with ⟨q2, e6, e7⟩ | e6
      · exact h.sep k p hk hp hkp q q2 e3 e6 (e5.trans e7.symm)
      · have := lt k hk q e3
        omega
    by_cases hip : i = p
    · subst hip
      rw [List.getElem_set_self] at e1
      rw [List.getElem_set_ne (by omega)] at e2
      have e1' : a' = some q := e1
      exact fun e5 => apart j hj2 (by omega) q' q e2 e1' e5.symm
    · rw [List.getElem_set_ne (by omega)] at e1
      by_cases hjp : j = p
      · subst hjp
        rw [List.getElem_set_self] at e2
        have e2' : a' = some q' := e2
        exact apart i hi2 hip q q' e1 e2'
      · rw [List.getElem_set_ne (by omega)] at e2
        exact h.sep i j hi2 hj2 hij q q' e1 e2

end Go.Proofs.YtmanjegdgjeeiaaGreatDoor
namespace Go.Proofs.YtmanjegdgjeeiaaGreatDoor
open Go.RowKit

def gcmp (x y : Gm) : Int := orI (cmpI x.rt y.rt) (Lib.compareBytes x.key y.key)
/-- A block of one group. -/
def GBlk (w : World) (b : Nat) (r : Nat) (k : ByteArray) : Prop := b < w.heap.size ∧ w.cell? ⟨b, 0, none⟩ = some (.int .i64 r) ∧ w.cell? ⟨b, 2, none⟩ = some (.string k)
theorem GBlk.below {w w' : World} {B b r : Nat} {k : ByteArray} (h : GBlk w b r k) (hb : Below B w w') (hB : w.heap.size ≤ B) : GBlk w' b r k := by
  obtain ⟨h0, h1, h2⟩ := h
  have hx := Nat.lt_of_lt_of_le h0 hB
  exact ⟨Nat.lt_of_lt_of_le h0 hb.size, by rw [hb.cell (p := ⟨b, 0, none⟩) hx]; exact h1, by rw [hb.cell (p := ⟨b, 2, none⟩) hx]; exact h2⟩
theorem GBlk.new (w : World) (r : Nat) (v u : Value) (k : ByteArray) : GBlk (w.alloc (.cells #[.int .i64 r, v, .string k, u] 44)) w.heap.size r k :=
  ⟨by simp, cellA (newA w _), cellA (newA w _)⟩
theorem grow_drew (w : World) (a : Array Obj) : (Sort.grow w a).drew = Sort.grow w.drew a := rfl

set_option maxHeartbeats 4000000 in
set_option maxRecDepth 100000 in
theorem cmpGm_any (x y : Gm) (W : World) : Calls Tryz.prog 25 #[.agg (encG x).toArray, .agg (encG y).toArray] W fun e w' => e = .returned (.int .i64 (gcmp x y)) ∧ ∃ q os', w' = Sort.grow (W.drewN q) os' := by
  have hcon := fun W' => Any.strings_Compare Tryz.lCompare ⟨x.key.toArray⟩ ⟨y.key.toArray⟩ W'
  change ∀ W', Calls Tryz.prog 28 _ _ _ at hcon
  have e : gcmp x y = orI (cmpI x.rt y.rt) (Lib.compareBytes (⟨x.key.toArray⟩ : ByteArray).data.toList (⟨y.key.toArray⟩ : ByteArray).data.toList) := rfl
  rw [e]
  generalize Lib.compareBytes (⟨x.key.toArray⟩ : ByteArray).data.toList (⟨y.key.toArray⟩ : ByteArray).data.toList = r at hcon ⊢
  have HC := Lib.hid hcon
  have HI := Lib.hid (fun w => cmpInt_any x.rt y.rt w)
  have HR := Lib.hid (fun g z w h0 h1 => cmpOr_any g z r w h0 h1)
  simp only [encG]
  generalize x.key.toArray = kx at *
  generalize y.key.toArray = ky at *
  generalize x.rt = rx at *
  generalize y.rt = ry at *
  generalize Value.slice x.la x.lb.length x.lc = vx at *
  generalize Value.slice y.la y.lb.length y.lc = vy at *
  generalize Value.slice x.aa x.al.length x.ac = ux at *
  generalize Value.slice y.aa y.al.length y.ac = uy at *
  clear e hcon
  have b1 := GBlk.new W rx vx ux ⟨kx⟩
  have d2 := (Below.refl _ (W.alloc (.cells #[.int .i64 rx, vx, .string ⟨kx⟩, ux] 44))).alloc (Nat.le_refl _) (.cells #[.int .i64 ry, vy, .string ⟨ky⟩, uy] 44)
  have b2 := b1.below d2 (Nat.le_refl _)
  have c2 := GBlk.new (W.alloc (.cells #[.int .i64 rx, vx, .string ⟨kx⟩, ux] 44)) ry vy uy ⟨ky⟩
  have sz : (W.alloc (.cells #[.int .i64 rx, vx, .string ⟨kx⟩, ux] 44)).heap.size = W.heap.size + 1 := by simp
  rw [sz] at c2
  have HZ := Lib.hid (And.intro b2 c2)
  clear b1 d2 b2 c2 sz
  go_enter Tryz.func25, Tryz.ntmps25
  go_wp2_with fail
  obtain ⟨b2, c2⟩ := HZ.out
  generalize hw2 : ((W.alloc (.cells #[.int .i64 rx, vx, .string ⟨kx⟩, ux] 44)).alloc (.cells #[.int .i64 ry, vy, .string ⟨ky⟩, uy] 44)) = w2 at *
  have HW := Lib.hid hw2
  clear hw2
  refine wp_region_any (by kernel_rfl) ?_
  change wpAny _ _ _ _ _ _ _ (World.drew _)
  have hS : (fun w' : World => GBlk w' W.heap.size rx ⟨kx⟩ ∧ GBlk w' (W.heap.size + 1) ry ⟨ky⟩) w2.drew := ⟨b2, c2⟩
  refine wpAny_of_held (S := fun w' => GBlk w' W.heap.size rx ⟨kx⟩ ∧ GBlk w' (W.heap.size + 1) ry ⟨ky⟩) _ _ _ _ ?_
  refine wpAnyH_takeA (i := 0) (some 5) (v := ?_) rfl rfl (by as_aux_lemma => kernel_rfl) (by as_aux_lemma => kernel_rfl) (by as_aux_lemma => kernel_rfl) (fun _ _ _ h => h) (Or.inl ⟨by kernel_rfl, ?_⟩) hS ?_
  rotate_left
  · intro w hSw; have c0 := hSw.1.2.1; have c1 := hSw.1.2.2; have c3 := hSw.2.2.1; have c4 := hSw.2.2.2; go_simp
    first | done | with_reducible rfl
  refine wpAnyH_takeA (i := 1) (some 6) (v := ?_) rfl rfl (by as_aux_lemma => kernel_rfl) (by as_aux_lemma => kernel_rfl) (by as_aux_lemma => kernel_rfl) (fun _ _ _ h => h) (Or.inl ⟨by kernel_rfl, ?_⟩) hS ?_
  rotate_left
  · intro w hSw; have c0 := hSw.1.2.1; have c1 := hSw.1.2.2; have c3 := hSw.2.2.1; have c4 := hSw.2.2.2; go_simp
    first | done | with_reducible rfl
  refine wpAnyH_takeA (i := 2) (some 7) (v := ?_) rfl rfl (by as_aux_lemma => kernel_rfl) (by as_aux_lemma => kernel_rfl) (by as_aux_lemma => kernel_rfl) (fun _ _ _ h => h) (Or.inl ⟨by kernel_rfl, ?_⟩) hS ?_
  rotate_left
  · intro w hSw; have c0 := hSw.1.2.1; have c1 := hSw.1.2.2; have c3 := hSw.2.2.1; have c4 := hSw.2.2.2; go_simp
    first | done | with_reducible rfl
  refine wpAnyH_takeA (i := 3) (some 8) (v := ?_) rfl rfl (by as_aux_lemma => kernel_rfl) (by as_aux_lemma => kernel_rfl) (by as_aux_lemma => kernel_rfl) (fun _ _ _ h => h) (Or.inl ⟨by kernel_rfl, ?_⟩) hS ?_
  rotate_left
  · intro w hSw; have c0 := hSw.1.2.1; have c1 := hSw.1.2.2; have c3 := hSw.2.2.1; have c4 := hSw.2.2.2; go_simp
    first | done | with_reducible rfl
  refine wpAnyH_takeA (i := 5) (some 10) (v := ?_) rfl rfl (by as_aux_lemma => kernel_rfl) (by as_aux_lemma => kernel_rfl) (by as_aux_lemma => kernel_rfl) (fun _ _ _ h => h) (Or.inl ⟨by kernel_rfl, ?_⟩) hS ?_
  rotate_left
  · intro w hSw; have c0 := hSw.1.2.1; have c1 := hSw.1.2.2; have c3 := hSw.2.2.1; have c4 := hSw.2.2.2; go_simp
    first | done | with_reducible rfl
  refine wpAnyH_takeA (i := 6) (some 11) (v := ?_) rfl rfl (by as_aux_lemma => kernel_rfl) (by as_aux_lemma => kernel_rfl) (by as_aux_lemma => kernel_rfl) (fun _ _ _ h => h) (Or.inl ⟨by kernel_rfl, ?_⟩) hS ?_
  rotate_left
  · intro w hSw; have c0 := hSw.1.2.1; have c1 := hSw.1.2.2; have c3 := hSw.2.2.1; have c4 := hSw.2.2.2; go_simp
    first | done | with_reducible rfl
  refine wpAnyH_takeA (i := 7) (some 12) (v := ?_) rfl rfl (by as_aux_lemma => kernel_rfl) (by as_aux_lemma => kernel_rfl) (by as_aux_lemma => kernel_rfl) (fun _ _ _ h => h) (Or.inl ⟨by kernel_rfl, ?_⟩) hS ?_
  rotate_left
  · intro w hSw; have c0 := hSw.1.2.1; have c1 := hSw.1.2.2; have c3 := hSw.2.2.1; have c4 := hSw.2.2.2; go_simp
    first | done | with_reducible rfl
  refine wpAnyH_takeA (i := 8) (some 13) (v := ?_) rfl rfl (by as_aux_lemma => kernel_rfl) (by as_aux_lemma => kernel_rfl) (by as_aux_lemma => kernel_rfl) (fun _ _ _ h => h) (Or.inl ⟨by kernel_rfl, ?_⟩) hS ?_
  rotate_left
  · intro w hSw; have c0 := hSw.1.2.1; have c1 := hSw.1.2.2; have c3 := hSw.2.2.1; have c4 := hSw.2.2.2; go_simp
    first | done | with_reducible rfl
  refine wpAnyH_ready (rs := [4]) (by as_aux_lemma => kernel_rfl) (by simp) ?_
  refine AllReadyH.cons rfl (fun K hK => ?_) AllReadyH.nil
  go_simp
  go_wp2_with (go_at_call 27; refine (HI.out _).mono ?_; rintro e w3 ⟨rfl, rfl⟩)
  refine hK.out _ _ ?_ (fun hS => ?_)
  · exact hS
  clear hK K
  refine wpAnyH_ready (rs := [9]) (by as_aux_lemma => kernel_rfl) (by simp) ?_
  refine AllReadyH.cons rfl (fun K hK => ?_) AllReadyH.nil
  go_simp
  go_wp2_with (go_at_call 28; refine (HC.out _).mono ?_; rintro e w3 ⟨rfl, rfl⟩)
  refine hK.out _ _ ?_ (fun hS => ?_)
  · exact hS
  clear hK K
  refine wpAnyH_ready (rs := [10]) (by as_aux_lemma => kernel_rfl) (by simp) ?_
  refine AllReadyH.cons rfl (fun K hK => ?_) AllReadyH.nil
  go_simp
  go_wp2_with (fail)
  refine hK.out _ _ ?_ (fun hS => ?_)
  · exact ⟨hS.1.below ((Below.refl w2.heap.size w2.drew).alloc (Nat.le_refl _) _) (Nat.le_refl _), hS.2.below ((Below.refl w2.heap.size w2.drew).alloc (Nat.le_refl _) _) (Nat.le_refl _)⟩
  clear hK K
  have n0 := newA w2.drew (.cells #[.int .i64 (cmpI rx ry), .int .i64 r] 3)
  have HO := Lib.hid (HR.out w2.drew.heap.size (cmpI rx ry) _ (cellA n0) (cellA n0))
  clear n0
  refine wpAnyH_ready (rs := [11]) (by as_aux_lemma => kernel_rfl) (by simp) ?_
  refine AllReadyH.cons rfl (fun K hK => ?_) AllReadyH.nil
  go_simp
  go_wp2_with (go_at_call 26; refine HO.out.mono ?_; rintro e w3 ⟨rfl, rfl⟩)
  refine hK.out _ _ ?_ (fun hS => ?_)
  · exact hS
  clear hK K
  refine wpAnyH_takeA (i := 12) (some 4) (v := ?_) rfl rfl (by as_aux_lemma => kernel_rfl) (by as_aux_lemma => kernel_rfl) (by as_aux_lemma => kernel_rfl) (fun _ _ _ h => h) (Or.inl ⟨by kernel_rfl, ?_⟩) hS ?_
  rotate_left
  · intro w hSw; skip; go_simp
    first | done | with_reducible rfl
  refine wpAnyH_done (by kernel_rfl) ?_ _
  go_wp2
  go_ret
  refine ⟨rfl, 1, #[.cells #[.int .i64 rx, vx, .string ⟨kx⟩, ux] 44, .cells #[.int .i64 ry, vy, .string ⟨ky⟩, uy] 44, .cells #[.int .i64 (cmpI rx ry), .int .i64 r] 3], ?_⟩
  rw [← HW.out]
  simp only [Sort.alloc_eq_grow, Sort.grow_grow, grow_drew]
  rfl

end Go.Proofs.YtmanjegdgjeeiaaGreatDoor
