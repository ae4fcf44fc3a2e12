/-
  Pairs put behind pairs, and pairs that are written to.
-/
import Derived.Test.YtdnpfmmkglgnjabDoorLab3
import Derived.Deep.AppendLies
import Derived.Laws.OwnMore
import Derived.Laws.AppendOwnNone
namespace Go.Proofs.YtdnpfmmkglgnjabDoor
open Go.RowKit

/-- append, at pairs of the call's own, of pairs that lie somewhere. -/
theorem wpList_append_pairs (w : World) {ops : Array Oper} {rest : List Oper} {o : Oper} {act : Act} {Q : Exit → Act → World → Prop} (hgd : o.guard = none) (s x : Operand)
    (ho : o.op = .call { callee := .builtin .append, args := #[s, x], argTypes := #[23, 23] }) (B : Nat) (v : Value) (rs : List Pr) (hs : act.eval s = v) (hown : OwnP w B v rs)
    (a : Option Addr) (n c : Nat) (ps : List Pr) (hx : act.eval x = .slice a n c) (hn : n = ps.length) (hat : PairsAt w a ps) (hc0 : a = none → c = 0)
    (hb : rs.length + ps.length ≤ 4398046511103) (hB : B ≤ w.heap.size)
    (h : ∀ v' w', OwnP w' B v' (rs ++ ps) → w.grownBy w' v.ownBlock → wpList Tryd.prog ops Q rest (act.put o.dst v') w') : wpList Tryd.prog ops Q (o :: rest) act w := by
  subst hn
  obtain ⟨i0, hi, hi0, hi1, hi2⟩ := info_parts infoPair
  cases a with
  | none =>
    have h0 : ps.length = 0 := by
      by_cases hp : 0 < ps.length
      · obtain ⟨b, o, he, -⟩ := hat hp
        cases he
      · omega
    obtain rfl := List.eq_nil_of_length_eq_zero h0
    obtain rfl := hc0 rfl
    refine wpList_append_own_none hgd s x 23 ho B 52 i0 2 Tryd.underlying23 hi v rs.length (cellsP rs) hs hown hx ?_
    exact h v w (by simpa using hown) (World.grownBy.refl w _)
  | some q =>
    refine wpList_append_own w hgd s x 23 ho B 52 i0 _ 2 32 Tryd.underlying23 hi hi0 hi1 hi2 rfl (by decide) v rs.length (cellsP rs) hs hown q ps.length c (cellsP ps) hx (cellsP_len ps) (fun j u hj => ?_) (cellsP_one ps) (by unfold maxLen; omega) (by omega) hB (fun v' w' h1 h2 _ => h v' w' ?_ h2)
    · have hp : 0 < ps.length := by
        have := (List.getElem?_eq_some_iff.1 hj).1
        rw [cellsP_len] at this
        omega
      obtain ⟨b, o, he, hc⟩ := hat hp
      obtain rfl := Option.some.inj he
      rw [Go.WideShapes.add_plain]
      exact PairsAt.cells hc j u hj
    · unfold OwnP
      rw [cellsP_append, List.length_append]
      exact h1

theorem cellsP_set : ∀ (qs : List Pr) (k : Nat) (_ : k < qs.length) (s : ByteArray), (cellsP qs).set (k * 2 + 1) (.string s) = cellsP (qs.set k (qs[k].1, s)) ∧ (cellsP qs).set (k * 2) (.string s) = cellsP (qs.set k (s, qs[k].2))
  | p :: r, 0, _, s => ⟨rfl, rfl⟩
  | p :: r, k + 1, hk, s => by
    obtain ⟨h1, h2⟩ := cellsP_set r k (by simpa using hk) s
    have e : ∀ (p : Pr) (r : List Pr), cellsP (p :: r) = .string p.1 :: .string p.2 :: cellsP r := fun _ _ => rfl
    have e1 : (k + 1) * 2 + 1 = (k * 2 + 1) + 1 + 1 := by omega
    have e2 : (k + 1) * 2 = k * 2 + 1 + 1 := by omega
    constructor
    · rw [e, e1, List.set_cons_succ, List.set_cons_succ, h1, List.set_cons_succ, e]; rfl
    · rw [e, e2, List.set_cons_succ, List.set_cons_succ, h2, List.set_cons_succ, e]; rfl

/-- One value, or one name, of a pair of the call's own is stored. -/
theorem OwnP.store {w : World} {B : Nat} {a : Option Addr} {K c : Nat} {qs : List Pr} (h : OwnP w B (.slice a K c) qs) (hK : K = qs.length) (k : Nat) (hk : k < qs.length) :
    ∃ g, a = some ⟨g, 0, none⟩ ∧ B ≤ g ∧ (∀ j, w.frozen? ⟨g, j, none⟩ = false) ∧ w.cell? ⟨g, k * 2 + 1, none⟩ = some (.string qs[k].2) ∧ w.cell? ⟨g, k * 2, none⟩ = some (.string qs[k].1) ∧
      (∀ s, OwnP (w.setCell ⟨g, k * 2 + 1, none⟩ (.string s)) B (.slice a K c) (qs.set k (qs[k].1, s)) ∧ w.grownBy (w.setCell ⟨g, k * 2 + 1, none⟩ (.string s)) (some g)) ∧
      (∀ s, OwnP (w.setCell ⟨g, k * 2, none⟩ (.string s)) B (.slice a K c) (qs.set k (s, qs[k].2)) ∧ w.grownBy (w.setCell ⟨g, k * 2, none⟩ (.string s)) (some g)) := by
  subst hK
  obtain ⟨a', c', hv, hat, hn, hq⟩ := h.form
  injection hv with e1 e2 e3
  subst e1 e3
  cases a with
  | none =>
    obtain ⟨b, o, he, -⟩ := hat (by omega)
    cases he
  | some q =>
    obtain ⟨h1, h2, h3⟩ := hq q rfl
    rw [h3] at h hat ⊢
    obtain ⟨b, o, he, hc⟩ := hat (by omega)
    injection he with he
    injection he with e1 e2
    subst e1 e2
    obtain ⟨c1, c2⟩ := hc k hk
    rw [Nat.zero_add] at c1 c2
    refine ⟨_, rfl, h1, fun j => World.ownsRow.frozenAt h j, c2, c1, fun s => ?_, fun s => ?_⟩
    · obtain ⟨g1, g2⟩ := World.ownsRow.stored h (k * 2 + 1) (.string s)
      refine ⟨?_, g2⟩
      unfold OwnP
      rw [← (cellsP_set qs k hk s).1, List.length_set]
      exact g1
    · obtain ⟨g1, g2⟩ := World.ownsRow.stored h (k * 2) (.string s)
      refine ⟨?_, g2⟩
      unfold OwnP
      rw [← (cellsP_set qs k hk s).2, List.length_set]
      exact g1

theorem ownP_made (w : World) (B : Nat) (hB : B ≤ w.heap.size) : OwnP (w.alloc (.cells #[] 52)) B (.slice (some ⟨w.heap.size, 0, none⟩) 0 0) [] := World.ownsRow_made w #[] 0 hB (Nat.zero_le _) (by simp)

end Go.Proofs.YtdnpfmmkglgnjabDoor
