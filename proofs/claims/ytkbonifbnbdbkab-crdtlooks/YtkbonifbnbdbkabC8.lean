/-
  Entries put behind entries; what two maps tell one another, plainly.
-/
import Derived.Test.YtkbonifbnbdbkabCLat
import Derived.Deep.AppendLies
import Derived.Laws.OwnMore
import Derived.Laws.AppendOwnNone
namespace Go.Proofs.Ytkbonifbnbdbkab
open Go.RowKit Go.Maps

theorem cellsC_one : ∀ (L : List Ent), ∀ u ∈ cellsC L, u.oneCell' = true := fun L u h => by
  obtain ⟨r, -, h2⟩ := List.mem_flatMap.1 h
  simp only [encE, List.mem_cons, List.not_mem_nil, or_false] at h2
  rcases h2 with rfl | rfl | rfl | rfl | rfl <;> rfl
theorem EntsAt.flat {w : World} {b o : Nat} : ∀ {l : List Ent}, (∀ i (hi : i < l.length), ∀ j v, (encE l[i])[j]? = some v → w.cell? ⟨b, o + i * 5 + j, none⟩ = some v) → ∀ j u, (cellsC l)[j]? = some u → w.cell? ⟨b, o + j, none⟩ = some u := fun {l} h j u hj => by
  have hl := (List.getElem?_eq_some_iff.1 hj).1
  rw [cellsC_len] at hl
  have hi : j / 5 < l.length := by omega
  have e : j = j / 5 * 5 + j % 5 := by omega
  have l5 : (encE l[j / 5]).length = 5 := rfl
  have hm : j % 5 < (encE l[j / 5]).length := by omega
  have h1 := cellsC_get l (j / 5) hi (j % 5) _ (List.getElem?_eq_getElem hm)
  rw [← e, hj] at h1
  have h2 := h (j / 5) hi (j % 5) _ (List.getElem?_eq_getElem hm)
  rw [show o + j = o + j / 5 * 5 + j % 5 by omega, h2]
  exact h1.symm
/-- append, at entries of the call's own, of entries that lie somewhere. -/
theorem wpList_append_ents (w : World) {ops : Array Oper} {rest : List Oper} {o : Oper} {act : Act} {Q : Exit → Act → World → Prop} (hgd : o.guard = none) (s x : Operand)
    (ho : o.op = .call { callee := .builtin .append, args := #[s, x], argTypes := #[22, 22] }) (B : Nat) (v : Value) (rs : List Ent) (hs : act.eval s = v) (hown : OwnC w B v rs)
    (a : Option Addr) (n c : Nat) (ps : List Ent) (hx : act.eval x = .slice a n c) (hn : n = ps.length) (hat : EntsAt w a ps) (hc0 : a = none → c = 0)
    (hb : rs.length + ps.length ≤ 1099511627776) (hB : B ≤ w.heap.size)
    (h : ∀ v' w', OwnC w' B v' (rs ++ ps) → w.grownBy w' v.ownBlock → wpList Try.prog ops Q rest (act.put o.dst v') w') : wpList Try.prog ops Q (o :: rest) act w := by
  subst hn
  obtain ⟨i0, hi, hi0, hi1, hi2⟩ := info_parts infoEn
  cases a with
  | none =>
    have h0 : ps.length = 0 := by
      by_cases hp : 0 < ps.length
      · obtain ⟨b, o, he, -⟩ := hat hp
        cases he
      · omega
    obtain rfl := List.eq_nil_of_length_eq_zero h0
    obtain rfl := hc0 rfl
    refine wpList_append_own_none hgd s x 22 ho B 36 i0 5 Try.underlying22 hi v rs.length (cellsC rs) hs hown hx ?_
    exact h v w (by simpa using hown) (World.grownBy.refl w _)
  | some q =>
    refine wpList_append_own w hgd s x 22 ho B 36 i0 _ 5 56 Try.underlying22 hi hi0 hi1 hi2 rfl (by decide) v rs.length (cellsC rs) hs hown q ps.length c (cellsC ps) hx (cellsC_len ps) (fun j u hj => ?_) (cellsC_one ps) (by unfold maxLen; omega) (by omega) hB (fun v' w' h1 h2 _ => h v' w' ?_ h2)
    · have hp : 0 < ps.length := by
        have := (List.getElem?_eq_some_iff.1 hj).1
        rw [cellsC_len] at this
        omega
      obtain ⟨b, o, he, -, hc⟩ := hat hp
      obtain rfl := Option.some.inj he
      rw [Go.WideShapes.add_plain]
      exact EntsAt.flat hc j u hj
    · unfold OwnC
      rw [cellsC_append, List.length_append]
      exact h1
/-- A row of the call's own with nothing in it. -/
theorem OwnC.none (w : World) (B : Nat) (hB : B ≤ w.heap.size) : OwnC (w.alloc (.cells #[] 36)) B (.slice (some ⟨w.heap.size, 0, none⟩) 0 0) [] :=
  World.ownsRow_lit (base := B) (e := 36) (size := 5) w #[] 0 hB (by decide) rfl

theorem mergeN_all {U : List Ent} (hU : U.length ≤ 256) : ∀ (l S : List Ent), RisingC S → RisingC l → (∀ y ∈ l, checkEn y = 0) → (∀ y ∈ l, ∀ x ∈ S, x.key = y.key → aboveE y x = true) → (∀ y ∈ S, y ∈ U) → (∀ y ∈ l, y ∈ U) → mergeN S l = l.length
  | [], S, _, _, _, _, _, _ => rfl
  | x :: l, S, hS, hl, hk, ha, sS, sl => by
    obtain ⟨h1, h2⟩ := List.pairwise_cons.1 hl
    have hx : checkEn x = 0 := hk x (List.mem_cons_self ..)
    have hB : cputB S x = true := by
      cases hg : gotC S x.key with
      | none =>
        have hn := room_of hS sS (sl x (List.mem_cons_self ..)) (gotC_none hg) hU
        have e1 : cputE S x = 0 := by unfold cputE; rw [if_neg (by simp [hx]), if_neg (fun h => hn h.2)]
        unfold cputB; rw [e1, hg]; rfl
      | some z =>
        obtain ⟨hz, ez⟩ := gotC_mem hg
        have e1 : cputE S x = 0 := by unfold cputE; rw [if_neg (by simp [hx]), if_neg (fun h => by have := h.1; rw [hg] at this; cases this)]
        unfold cputB; rw [e1, hg]; simp [ha x (List.mem_cons_self ..) z hz ez]
    have e3 : cputS S x = putC x S := by unfold cputS; rw [hB]; rfl
    have ih := mergeN_all hU l (putC x S) (putC_rising hS) h2 (fun y hy => hk y (List.mem_cons_of_mem _ hy)) (fun y hy z hz e => by
      rcases mem_putC.1 hz with rfl | ⟨hz, -⟩
      · have := h1 y hy
        rw [e] at this
        exact absurd this (key_irreflC _)
      · exact ha y (List.mem_cons_of_mem _ hy) z hz e) (fun y hy => by
      rcases mem_putC.1 hy with rfl | ⟨hy, -⟩
      · exact sl y (List.mem_cons_self ..)
      · exact sS y hy) (fun y hy => sl y (List.mem_cons_of_mem _ hy))
    rw [mergeN, hB, e3, ih, List.length_cons]
    simp
    omega
theorem mem_deltaS {S l : List Ent} {x : Ent} : x ∈ deltaS S l ↔ x ∈ S ∧ ∀ y ∈ l, y.key = x.key → aboveE x y = true := by
  unfold deltaS
  rw [List.mem_filter, List.all_eq_true]
  constructor
  · rintro ⟨h1, h2⟩
    refine ⟨h1, fun y hy e => ?_⟩
    have := h2 y hy
    simpa [e] using this
  · rintro ⟨h1, h2⟩
    refine ⟨h1, fun y hy => ?_⟩
    by_cases e : y.key = x.key
    · simp [h2 y hy e]
    · have : (y.key == x.key) = false := beq_eq_false_iff_ne.2 e
      simp [this]
theorem delta_best {P Q : Ent → Prop} {X Y U : List Ent} (hX : Best P X) (hY : Best Q Y) (hU : U.length ≤ 256) (hP : ∀ y, P y → y ∈ U) (hQ : ∀ y, Q y → y ∈ U) (kQ : ∀ y, Q y → checkEn y = 0) :
    Best (fun y => P y ∨ Q y) (mergeS X (deltaS Y X)) ∧ mergeN X (deltaS Y X) = (deltaS Y X).length := by
  have hD : ∀ y ∈ deltaS Y X, y ∈ Y := fun y hy => (mem_deltaS.1 hy).1
  have hM := best_merge hU (deltaS Y X) _ _ hX hP (fun y hy => hQ y (hY.2.1 y (hD y hy)))
  refine ⟨⟨hM.1, fun x hx => (hM.2.1 x hx).elim .inl fun h => .inr (hY.2.1 x (hD x h.1)), fun y hy => ?_⟩, ?_⟩
  · rcases hy with hy | hy
    · exact hM.2.2 y (.inl hy)
    · obtain ⟨z, hz, e, az⟩ := hY.2.2 y hy
      by_cases hd : z ∈ deltaS Y X
      · obtain ⟨x, hx, e2, a2⟩ := hM.2.2 z (.inr ⟨hd, kQ z (hY.2.1 z hz)⟩)
        exact ⟨x, hx, e2.trans e, nabove_trans e.symm e2.symm az a2⟩
      · have : ∃ u ∈ X, u.key = z.key ∧ aboveE z u = false := Classical.byContradiction fun hn => hd (mem_deltaS.2 ⟨hz, fun u hu eu => by
          cases h : aboveE z u with
          | true => rfl
          | false => exact absurd ⟨u, hu, eu, h⟩ hn⟩)
        obtain ⟨u, hu, eu, au⟩ := this
        obtain ⟨x, hx, e2, a2⟩ := hM.2.2 u (.inl (hX.2.1 u hu))
        exact ⟨x, hx, e2.trans (eu.trans e), nabove_trans e.symm (eu.symm.trans e2.symm) az (nabove_trans eu.symm e2.symm au a2)⟩
  · exact mergeN_all hU _ _ hX.1 (hY.1.filter _) (fun y hy => kQ y (hY.2.1 y (hD y hy))) (fun y hy x hx e => (mem_deltaS.1 hy).2 x hx e) (fun y hy => hP y (hX.2.1 y hy)) (fun y hy => hQ y (hY.2.1 y (hD y hy)))
theorem deltaS_self (X : List Ent) : deltaS X X = [] := by
  refine List.eq_nil_iff_forall_not_mem.2 fun x hx => ?_
  obtain ⟨h1, h2⟩ := mem_deltaS.1 hx
  have := h2 x h1 rfl
  rw [above_irrefl] at this
  cases this
theorem delta_pure (a b : List Ent) (ha : a.length ≤ 120) (hb : b.length ≤ 120) :
    mergeN (mergeS [] a) (deltaS (mergeS [] b) (mergeS [] a)) = (deltaS (mergeS [] b) (mergeS [] a)).length ∧ mergeN (mergeS [] b) (deltaS (mergeS [] a) (mergeS [] b)) = (deltaS (mergeS [] a) (mergeS [] b)).length ∧
    mergeS (mergeS [] a) (deltaS (mergeS [] b) (mergeS [] a)) = mergeS [] (a ++ b) ∧ mergeS (mergeS [] b) (deltaS (mergeS [] a) (mergeS [] b)) = mergeS [] (a ++ b) := by
  have hU : (a ++ b).length ≤ 256 := by simp; omega
  have sa : ∀ y ∈ a, y ∈ a ++ b := fun y hy => by simp [hy]
  have sb : ∀ y ∈ b, y ∈ a ++ b := fun y hy => by simp [hy]
  have hA := best_of hU sa
  have hB := best_of hU sb
  have hC := best_of (l := a ++ b) hU (fun y hy => hy)
  obtain ⟨h1, h2⟩ := delta_best hA hB hU (fun y hy => sa y hy.1) (fun y hy => sb y hy.1) (fun y hy => hy.2)
  obtain ⟨h3, h4⟩ := delta_best hB hA hU (fun y hy => sb y hy.1) (fun y hy => sa y hy.1) (fun y hy => hy.2)
  refine ⟨h2, h4, best_same h1 hC fun x => ?_, best_same h3 hC fun x => ?_⟩
  · rw [List.mem_append]
    constructor
    · rintro (h | h)
      · exact ⟨.inl h.1, h.2⟩
      · exact ⟨.inr h.1, h.2⟩
    · rintro ⟨h | h, k⟩
      · exact .inl ⟨h, k⟩
      · exact .inr ⟨h, k⟩
  · rw [List.mem_append]
    constructor
    · rintro (h | h)
      · exact ⟨.inr h.1, h.2⟩
      · exact ⟨.inl h.1, h.2⟩
    · rintro ⟨h | h, k⟩
      · exact .inr ⟨h, k⟩
      · exact .inl ⟨h, k⟩

end Go.Proofs.Ytkbonifbnbdbkab
