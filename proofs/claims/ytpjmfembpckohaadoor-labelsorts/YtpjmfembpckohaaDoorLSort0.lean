/-
  Pairs cut in two, and one put between; append at a step of a region that draws its order.
-/
import Derived.Test.YtpjmfembpckohaaDoorLApp
import Derived.Maps.AppendAt
import Derived.RegionTactic
namespace Go.Proofs.YtpjmfembpckohaaDoor
open Go.RowKit

theorem run_append_pairs (ty : TypeId) (w : World) (B : Nat) (v : Value) (rs : List Pr) (hown : OwnP w B v rs) (a : Option Addr) (n c : Nat) (ps : List Pr) (hn : n = ps.length) (hat : PairsAt w a ps) (hc0 : a = none → c = 0)
    (hb : rs.length + ps.length ≤ 4398046511103) (hB : B ≤ w.heap.size) :
    ∃ a' c' w', (Builtin.append_ #[22, 22] ty #[v, .slice a n c]).run Tryd.prog w = .ok (.slice a' (rs ++ ps).length c') w' ∧ OwnP w' B (.slice a' (rs ++ ps).length c') (rs ++ ps) ∧ w.grownBy w' v.ownBlock := by
  subst hn
  obtain ⟨i0, hi, hi0, hi1, hi2⟩ := info_parts infoPair
  cases a with
  | none =>
    have h0 : ps.length = 0 := by
      by_cases hp : 0 < ps.length
      · obtain ⟨b, o, he, -⟩ := hat hp
        cases he
      · omega
    obtain rfl := List.eq_nil_of_length_eq_zero h0
    obtain rfl := hc0 rfl
    have hr := run_append_owned_none (P := Tryd.prog) (w := w) B 22 ty 35 i0 2 Tryd.underlying22 hi v rs.length (cellsP rs) hown
    obtain ⟨a', c', rfl, -, -, -⟩ := hown.form
    rw [List.append_nil]
    exact ⟨a', c', w, hr, hown, World.grownBy.refl w _⟩
  | some q =>
    obtain ⟨v', w', hr, h1, h2, -, -⟩ := run_append_own_at (P := Tryd.prog) w B 22 ty 35 i0 _ 2 32 Tryd.underlying22 hi hi0 hi1 hi2 rfl (by decide) v rs.length (cellsP rs) hown q ps.length c (cellsP ps) (cellsP_len ps) (fun j u hj => by
      have hp : 0 < ps.length := by
        have := (List.getElem?_eq_some_iff.1 hj).1
        rw [cellsP_len] at this
        omega
      obtain ⟨b, o, he, hc⟩ := hat hp
      obtain rfl := Option.some.inj he
      rw [Go.WideShapes.add_plain]
      exact PairsAt.cells hc j u hj) (cellsP_one ps) (by unfold maxLen; omega) (by omega) hB
    have h3 : OwnP w' B v' (rs ++ ps) := by
      unfold OwnP
      rw [cellsP_append, List.length_append]
      exact h1
    obtain ⟨a', c', rfl, -, -, -⟩ := h3.form
    exact ⟨a', c', w', hr, h3, h2⟩

/-- At a step of a region that draws. -/
theorem step_append_pairs {w : World} {ops : Array Oper} {o : Oper} {act : Act} {K : Act → World → Prop} {Q : Exit → Act → World → Prop} {E : Prop} (hgd : o.guard = none) (s x : Operand)
    (ho : o.op = .call { callee := .builtin .append, args := #[s, x], argTypes := #[22, 22] }) (B : Nat) (v : Value) (rs : List Pr) (hs : act.eval s = v) (hown : OwnP w B v rs)
    (a : Option Addr) (n c : Nat) (ps : List Pr) (hx : act.eval x = .slice a n c) (hn : n = ps.length) (hat : PairsAt w a ps) (hc0 : a = none → c = 0)
    (hb : rs.length + ps.length ≤ 4398046511103) (hB : B ≤ w.heap.size)
    (h : ∀ a' k' c' w', OwnP w' B (.slice a' k' c') (rs ++ ps) → w.grownBy w' v.ownBlock → K (act.put o.dst (.slice a' k' c')) w') :
    if Region.wanted o (yielded ops act.tmps) = true then Oper.wp Tryd.prog o act w K Q else E := by
  have hw : Region.wanted o (yielded ops act.tmps) = true := by simp [Region.wanted, hgd]
  rw [if_pos hw]
  obtain ⟨a', c', w', hr, h2, h3⟩ := run_append_pairs o.type w B v rs hown a n c ps hn hat hc0 hb hB
  unfold Oper.wp execOp
  simp only [ho, resolve, invoke, builtin, Sem.run_bind, Sem.run_pure, Result.andThen_ok, List.map_toArray, List.map_cons, List.map_nil, hs, hx, hr]
  exact h a' _ c' w' h2 h3

theorem sizeOf_pair (w : World) : (Go.sizeOf 35).run Tryd.prog w = .ok 2 w := by kernel_rfl
theorem elem_pairs : Tryd.prog.elem 22 = 35 := by simp [Program.elem, Tryd.underlying22]
theorem slice_fromP (a : Option Addr) (n c k : Nat) (w : World) (hk : k ≤ n) :
    (Instr.slice 22 (.slice a n c) (some (.int .i64 (k : Int))) none none).run Tryd.prog w = .ok (.slice (if c = k then a else a.map (·.add (k * 2))) (n - k) (c - k)) w := by
  rw [run_slice_l w 22 _ _ _ (by rw [elem_pairs]; exact Tryd.underlying22) .i64 _ (by omega) (by omega), elem_pairs, sizeOf_pair]
  simp [Result.andThen, sliced]
theorem slice_toP (a : Option Addr) (n c k : Nat) (w : World) (hk : k ≤ c) :
    (Instr.slice 22 (.slice a n c) none (some (.int .i64 (k : Int))) none).run Tryd.prog w = .ok (.slice a k c) w := by
  rw [run_slice_h w 22 _ _ _ (by rw [elem_pairs]; exact Tryd.underlying22) .i64 _ (by omega) (by omega), elem_pairs, sizeOf_pair]
  have e : (a.map fun x => x.add 0) = a := by cases a <;> simp [Addr.add]
  simp [Result.andThen, sliced, e]

theorem PairsAt.take {w : World} {a : Option Addr} {ps : List Pr} (h : PairsAt w a ps) (k : Nat) : PairsAt w a (ps.take k) := fun hn => by
  rw [List.length_take] at hn
  obtain ⟨b, o, rfl, hc⟩ := h (by omega)
  refine ⟨b, o, rfl, fun i hi => ?_⟩
  rw [List.length_take] at hi
  simp only [List.getElem_take]
  exact hc i (by omega)
theorem PairsAt.drop {w : World} {a : Option Addr} {ps : List Pr} (h : PairsAt w a ps) (k c : Nat) (hc : ps.length ≤ c) : PairsAt w (if c = k then a else a.map (·.add (k * 2))) (ps.drop k) := fun hn => by
  rw [List.length_drop] at hn
  obtain ⟨b, o, rfl, hcl⟩ := h (by omega)
  rw [if_neg (by omega)]
  refine ⟨b, o + k * 2, by simp [Addr.add], fun i hi => ?_⟩
  rw [List.length_drop] at hi
  obtain ⟨h1, h2⟩ := hcl (k + i) (by omega)
  simp only [List.getElem_drop]
  rw [show o + k * 2 + i * 2 = o + (k + i) * 2 by omega]
  exact ⟨h1, h2⟩

/-- A row has room for what it holds. -/
theorem OwnP.cap {w : World} {B : Nat} {a : Option Addr} {n c : Nat} {ps : List Pr} (h : OwnP w B (.slice a n c) ps) : ps.length ≤ c := by
  rcases h.2 with ⟨e, h0⟩ | ⟨g, cap, cur, e, _, _, hnc, _⟩
  · simp only [Value.slice.injEq] at e; omega
  · simp only [Value.slice.injEq] at e; omega

/-- One pair put in its place. -/
theorem rise_insert {qs : List Pr} {p : Pr} {k : Nat} (hr : Rise qs) (hk : k ≤ qs.length) (hlo : ∀ j (hj : j < qs.length), j < k → nm qs[j] < nm p) (hhi : ∀ hj : k < qs.length, nm p < nm qs[k]) : Rise (qs.take k ++ [p] ++ qs.drop k) := by
  unfold Rise at *
  rw [List.pairwise_append, List.pairwise_append]
  refine ⟨⟨hr.sublist (List.take_sublist k qs), List.pairwise_singleton _ p, fun a ha b hb => ?_⟩, hr.sublist (List.drop_sublist k qs), fun a ha b hb => ?_⟩
  · simp only [List.mem_singleton] at hb
    subst hb
    obtain ⟨i, hi, rfl⟩ := List.getElem_of_mem ha
    rw [List.length_take] at hi
    rw [List.getElem_take]
    exact hlo i (by omega) (by omega)
  · obtain ⟨i, hi, rfl⟩ := List.getElem_of_mem hb
    rw [List.length_drop] at hi
    rw [List.getElem_drop]
    have h1 : ∀ j (hj : j < qs.length), k ≤ j → nm p < nm qs[j] := fun j hj hkj => by
      rcases Nat.lt_or_ge k j with h | h
      · exact nm_trans (hhi (by omega)) (List.pairwise_iff_getElem.1 hr k j (by omega) hj h)
      · obtain rfl : j = k := by omega
        exact hhi hj
    rcases List.mem_append.1 ha with h | h
    · obtain ⟨j, hj, rfl⟩ := List.getElem_of_mem h
      rw [List.length_take] at hj
      rw [List.getElem_take]
      exact List.pairwise_iff_getElem.1 hr j (k + i) (by omega) (by omega) (by omega)
    · simp only [List.mem_singleton] at h
      subst h
      exact h1 (k + i) (by omega) (by omega)
theorem perm_insert {qs xs : List Pr} {p : Pr} {k : Nat} (h : qs.Perm xs) : (qs.take k ++ [p] ++ qs.drop k).Perm (xs ++ [p]) := by
  have h1 : (qs.take k ++ [p] ++ qs.drop k).Perm (p :: (qs.take k ++ qs.drop k)) := by
    rw [List.append_assoc]
    exact List.perm_middle
  rw [List.take_append_drop] at h1
  exact h1.trans ((h.cons p).trans (List.perm_append_singleton p xs).symm)

end Go.Proofs.YtpjmfembpckohaaDoor
