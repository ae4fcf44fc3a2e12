/-
  Where an entry goes in a list of entries by rising keys; entries appended within a region that draws its order.
-/
import Derived.Test.YtkbonifbnbdbkabC14
namespace Go.Proofs.Ytkbonifbnbdbkab
open Go.RowKit Go.Maps

def placeC (S : List Ent) (k : List UInt8) : Nat := (S.takeWhile fun r => decide (r.key < k)).length
theorem placeC_le (S : List Ent) (k : List UInt8) : placeC S k ≤ S.length := (List.takeWhile_prefix _).length_le
theorem take_placeC (S : List Ent) (k : List UInt8) : S.take (placeC S k) = S.takeWhile fun r => decide (r.key < k) := by
  exact (List.prefix_iff_eq_take.1 (List.takeWhile_prefix _)).symm
theorem placeC_lt {S : List Ent} {k : List UInt8} {j : Nat} (hj : j < placeC S k) : (S[j]'(Nat.lt_of_lt_of_le hj (placeC_le S k))).key < k := by
  have h1 : S[j]'(Nat.lt_of_lt_of_le hj (placeC_le S k)) ∈ S.takeWhile fun r => decide (r.key < k) := by
    rw [← take_placeC]
    exact List.mem_take_iff_getElem.2 ⟨j, by have := placeC_le S k; omega, rfl⟩
  simpa using List.all_eq_true.1 (List.all_takeWhile (p := fun r : Ent => decide (r.key < k)) (l := S)) _ h1
theorem placeC_of {S : List Ent} {k : List UInt8} {i : Nat} (hi : i ≤ S.length) (h1 : ∀ j (_ : j < i) (hl : j < S.length), S[j].key < k) (h2 : ∀ hl : i < S.length, ¬ S[i].key < k) : placeC S k = i := by
  unfold placeC
  induction S generalizing i with
  | nil => simp at hi ⊢; omega
  | cons y l ih =>
    cases i with
    | zero =>
      have : ¬ y.key < k := h2 (by simp)
      rw [List.takeWhile_cons]
      simp [this]
    | succ i =>
      have : y.key < k := h1 0 (by omega) (by simp)
      rw [List.takeWhile_cons]
      simp only [this, decide_true, if_true, List.length_cons]
      rw [ih (by simpa using hi) (fun j hj hl => h1 (j + 1) (by omega) (by simpa using hl)) (fun hl => h2 (by simpa using hl))]
/-- Whether a key is there. -/
def isAtC (S : List Ent) (k : List UInt8) : Bool := match S[placeC S k]? with | some r => decide (r.key = k) | none => false

theorem placeC_cons_lt {y : Ent} {l : List Ent} {k : List UInt8} (h : y.key < k) : placeC (y :: l) k = placeC l k + 1 ∧ isAtC (y :: l) k = isAtC l k := by
  have e : placeC (y :: l) k = placeC l k + 1 := by
    unfold placeC
    rw [List.takeWhile_cons]
    simp [h]
  refine ⟨e, ?_⟩
  unfold isAtC
  rw [e, List.getElem?_cons_succ]
theorem placeC_cons_not {y : Ent} {l : List Ent} {k : List UInt8} (h : ¬ y.key < k) : placeC (y :: l) k = 0 ∧ isAtC (y :: l) k = decide (y.key = k) := by
  have e : placeC (y :: l) k = 0 := by
    unfold placeC
    rw [List.takeWhile_cons]
    simp [h]
  refine ⟨e, ?_⟩
  unfold isAtC
  rw [e, List.getElem?_cons_zero]
theorem above_allC {y : Ent} {l : List Ent} {k : List UInt8} (hR : RisingC (y :: l)) (h : ¬ y.key < k) : ∀ r ∈ l, k < r.key := fun r hr => by
  have h1 := (List.pairwise_cons.1 hR).1 r hr
  by_cases e : y.key = k
  · rw [← e]; exact h1
  · rcases key_totalC e with h2 | h2
    · exact absurd h2 h
    · exact key_transC h2 h1
theorem filter_aboveC {l : List Ent} {k : List UInt8} (h : ∀ r ∈ l, k < r.key) : l.filter (fun y => !(y.key == k)) = l := List.filter_eq_self.2 fun r hr => by
  have := h r hr
  simp only [Bool.not_eq_true', beq_eq_false_iff_ne]
  intro e
  rw [e] at this
  exact key_irreflC _ this
theorem ins_aboveC {x : Ent} : ∀ {l : List Ent}, (∀ r ∈ l, x.key < r.key) → insC x l = x :: l
  | [], _ => rfl
  | y :: l, h => by rw [insC, if_pos (h y (by simp))]
theorem put_splitC {x : Ent} : ∀ {S : List Ent}, RisingC S → putC x S = S.take (placeC S x.key) ++ x :: S.drop (if isAtC S x.key then placeC S x.key + 1 else placeC S x.key)
  | [], _ => rfl
  | y :: l, hR => by
    have hl := (List.pairwise_cons.1 hR).2
    by_cases h : y.key < x.key
    · obtain ⟨e1, e2⟩ := placeC_cons_lt (l := l) h
      have ih := put_splitC (x := x) hl
      have hne : (y.key == x.key) = false := beq_eq_false_iff_ne.2 fun e => by rw [e] at h; exact key_irreflC _ h
      have ep : putC x (y :: l) = y :: putC x l := by
        unfold putC
        rw [List.filter_cons, hne]
        simp only [Bool.not_false, if_true]
        rw [insC, if_neg (key_asymmC h)]
      rw [ep, ih, e1, e2, List.take_succ_cons, List.cons_append]
      congr 2
      split <;> rw [List.drop_succ_cons]
    · obtain ⟨e1, e2⟩ := placeC_cons_not (l := l) h
      have ha := above_allC hR h
      rw [e1, e2]
      by_cases e : y.key = x.key
      · have hb : (y.key == x.key) = true := by simp [e]
        unfold putC
        rw [List.filter_cons, hb]
        simp only [Bool.not_true, Bool.false_eq_true, if_false, e, decide_true, if_true]
        rw [filter_aboveC ha, ins_aboveC ha]
        rfl
      · have hb : (y.key == x.key) = false := beq_eq_false_iff_ne.2 e
        have hlt : x.key < y.key := (key_totalC e).resolve_left h
        unfold putC
        rw [List.filter_cons, hb]
        simp only [Bool.not_false, if_true, e, decide_false, Bool.false_eq_true, if_false]
        rw [filter_aboveC ha, insC, if_pos hlt]
        rfl
theorem find_placeC : ∀ {S : List Ent} (k : List UInt8), RisingC S → S.find? (fun r => r.key == k) = if isAtC S k then S[placeC S k]? else none
  | [], k, _ => by simp [isAtC]
  | y :: l, k, hR => by
    have hl := (List.pairwise_cons.1 hR).2
    by_cases h : y.key < k
    · obtain ⟨e1, e2⟩ := placeC_cons_lt (l := l) h
      have hne : (y.key == k) = false := beq_eq_false_iff_ne.2 fun e => by rw [e] at h; exact key_irreflC _ h
      rw [List.find?_cons, hne, find_placeC k hl, e1, e2, List.getElem?_cons_succ]
    · obtain ⟨e1, e2⟩ := placeC_cons_not (l := l) h
      rw [e1, e2, List.find?_cons]
      by_cases e : y.key = k
      · have hb : (y.key == k) = true := by simp [e]
        rw [hb]
        simp [e]
      · have hb : (y.key == k) = false := beq_eq_false_iff_ne.2 e
        rw [hb]
        simp only [e, decide_false, Bool.false_eq_true, if_false]
        exact List.find?_eq_none.2 fun r hr e' => by
          have := above_allC hR h r hr
          rw [show r.key = k by simpa using e'] at this
          exact key_irreflC _ this


theorem run_append_ents (ty : TypeId) (w : World) (B : Nat) (v : Value) (rs : List Ent) (hown : OwnC w B v rs) (a : Option Addr) (n c : Nat) (L : List Ent) (hn : n = L.length) (hat : EntsAt w a L) (hc0 : a = none → c = 0) (hb : rs.length + L.length ≤ 1000000) (hB : B ≤ w.heap.size) :
    ∃ v' w', (Builtin.append_ #[22, 22] ty #[v, .slice a n c]).run Try.prog w = .ok v' w' ∧ OwnC w' B v' (rs ++ L) ∧ w.grownBy w' v.ownBlock := by
  subst hn
  obtain ⟨i0, hi, hi0, hi1, hi2⟩ := info_parts infoEn
  cases a with
  | none =>
    have h0 : L.length = 0 := by
      by_cases hp : 0 < L.length
      · obtain ⟨b, o, he, -⟩ := hat hp
        cases he
      · omega
    obtain rfl := List.eq_nil_of_length_eq_zero h0
    obtain rfl := hc0 rfl
    refine ⟨v, w, run_append_owned_none (P := Try.prog) (w := w) B 22 ty 36 i0 5 Try.underlying22 hi v _ _ hown, ?_, World.grownBy.refl w _⟩
    rw [List.append_nil]
    exact hown
  | some q =>
    obtain ⟨v', w', hr, h1, h2, -, -⟩ := run_append_own_at (P := Try.prog) w B 22 ty 36 i0 _ 5 56 Try.underlying22 hi hi0 hi1 hi2 rfl (by decide) v _ _ hown q L.length c (cellsC L) (cellsC_len L) (fun j u hj => by
      have hp : 0 < L.length := by
        have := (List.getElem?_eq_some_iff.1 hj).1
        rw [cellsC_len] at this
        omega
      obtain ⟨b, o, he, -, hc⟩ := hat hp
      obtain rfl := Option.some.inj he
      rw [Go.WideShapes.add_plain]
      exact EntsAt.flat hc j u hj) (cellsC_one L) (by unfold maxLen; omega) (by omega) hB
    refine ⟨v', w', hr, ?_, h2⟩
    unfold OwnC
    rw [List.length_append, cellsC_append]
    exact h1
theorem step_append_ents {w : World} {ops : Array Oper} {o : Oper} {act : Act} {K : Act → World → Prop} {Q : Exit → Act → World → Prop} {E : Prop} (hgd : o.guard = none) (s x : Operand)
    (ho : o.op = .call { callee := .builtin .append, args := #[s, x], argTypes := #[22, 22] }) (B : Nat) (v : Value) (rs : List Ent) (hs : act.eval s = v) (hown : OwnC w B v rs)
    (a : Option Addr) (n c : Nat) (L : List Ent) (hx : act.eval x = .slice a n c) (hn : n = L.length) (hat : EntsAt w a L) (hc0 : a = none → c = 0) (hb : rs.length + L.length ≤ 1000000) (hB : B ≤ w.heap.size)
    (h : ∀ v' w', OwnC w' B v' (rs ++ L) → w.grownBy w' v.ownBlock → K (act.put o.dst v') w') :
    if Region.wanted o (yielded ops act.tmps) = true then Oper.wp Try.prog o act w K Q else E := by
  have hw : Region.wanted o (yielded ops act.tmps) = true := by simp [Region.wanted, hgd]
  rw [if_pos hw]
  obtain ⟨v', w', hr, h1, h2⟩ := run_append_ents o.type w B v rs hown a n c L hn hat hc0 hb hB
  unfold Oper.wp execOp
  simp only [ho, resolve, invoke, builtin, Sem.run_bind, Sem.run_pure, Result.andThen_ok, List.map_toArray, List.map_cons, List.map_nil, hs, hx, hr]
  exact h v' w' h1 h2

theorem EntsAt.takeC {w : World} {a : Option Addr} {L : List Ent} (h : EntsAt w a L) (k : Nat) : EntsAt w a (L.take k) := fun hn => by
  rw [List.length_take] at hn
  obtain ⟨b, o, rfl, hbl, hc⟩ := h (by omega)
  refine ⟨b, o, rfl, hbl, fun i hi => ?_⟩
  rw [List.length_take] at hi
  rw [List.getElem_take]
  exact hc i (by omega)
theorem EntsAt.dropC {w : World} {q : Addr} {L : List Ent} (h : EntsAt w (some q) L) (k : Nat) : EntsAt w (some (q.add (k * 5))) (L.drop k) := fun hn => by
  rw [List.length_drop] at hn
  obtain ⟨b, o, e, hbl, hc⟩ := h (by omega)
  obtain rfl := Option.some.inj e
  rw [Go.WideShapes.add_plain]
  refine ⟨b, _, rfl, hbl, fun i hi j v hv => ?_⟩
  rw [List.length_drop] at hi
  rw [List.getElem_drop] at hv
  have := hc (k + i) (by omega) j v hv
  rw [← this]
  congr 2
  omega
theorem EntsAt.other {w : World} {a : Option Addr} {L : List Ent} (h : EntsAt w a L) {p : Addr} {v : Value} (hb : ∀ q, a = some q → q.block ≠ p.block) : EntsAt (w.setCell p v) a L := fun hn => by
  obtain ⟨b, o, rfl, hlt, hc⟩ := h hn
  have e := Below.heap_setCell w p v b (hb _ rfl)
  refine ⟨b, o, rfl, by simpa [World.setCell] using hlt, fun i hi j u hu => ?_⟩
  rw [World.cell?_of_block (a := ⟨b, o + i * 5 + j, none⟩) e]
  exact hc i hi j u hu
theorem RmBlk.f {w : World} {B : Nat} {a : Option Addr} {n c : Nat} (h : RmBlk w B a n c) (j : Nat) : w.frozen? ⟨B, j, none⟩ = false := by
  unfold RmBlk at h
  simp [World.frozen?, h]
theorem RmBlk.set {w : World} {B : Nat} {a a' : Option Addr} {n c n' c' : Nat} (h : RmBlk w B a n c) : RmBlk (w.setCell ⟨B, 0, none⟩ (.slice a' n' c')) B a' n' c' := by
  unfold RmBlk at h ⊢
  simp [World.setCell, Array.getElem?_modify, h]
/-- A map of the reference: where its entries lie. -/
def RefM (w : World) (a : Option Addr) (c : Nat) (S : List Ent) : Prop := EntsAt w a S ∧ S.length ≤ c ∧ (a = none → c = 0)
theorem RefM.below {w w' : World} {a : Option Addr} {c : Nat} {S : List Ent} {B : Nat} (h : RefM w a c S) (hb : Below B w w') (hB : w.heap.size ≤ B) : RefM w' a c S := ⟨h.1.below hb hB, h.2⟩
theorem RefM.on {w w' : World} {a : Option Addr} {c : Nat} {S : List Ent} (h : RefM w a c S) (hb : Below w.heap.size w w') : RefM w' a c S := h.below hb (Nat.le_refl _)
theorem OwnC.refm {w : World} {B : Nat} {v : Value} {L : List Ent} (h : OwnC w B v L) : ∃ a c, v = .slice a L.length c ∧ RefM w a c L ∧ ∀ q, a = some q → B ≤ q.block := by
  obtain ⟨a, c, rfl, hn, hq, he⟩ := h.form
  refine ⟨a, c, rfl, ⟨he, ?_, hn⟩, fun q e => (hq q e).1⟩
  rcases h.2 with ⟨hv, h0⟩ | ⟨g, cap, cur, hv, -, -, hcap, -⟩
  · omega
  · simp only [Value.slice.injEq] at hv
    omega
/-- Where the reference's Put ends. -/
theorem cput_end {w w7 w10 w12 : World} (b7 : Below w.heap.size w w7) (X : Nat) (hX : RmBlk w7 X none 0 0) (hXw : w.heap.size ≤ X) (q10 : Below w7.heap.size w7 w10) {v10 : Value} {A : List Ent}
    (own10 : OwnC w10 w7.heap.size v10 A) {v12 : Value} {R : List Ent} (own12 : OwnC w12 w7.heap.size v12 R) (g12 : w10.grownBy w12 v10.ownBlock) :
    ∃ a12 c12, v12 = .slice a12 R.length c12 ∧ RmBlk w12 X none 0 0 ∧ RefM (w12.setCell ⟨X, 0, none⟩ (.slice a12 R.length c12)) a12 c12 R ∧ Below w.heap.size w (w12.setCell ⟨X, 0, none⟩ (.slice a12 R.length c12)) := by
  have q12 : Below w7.heap.size w7 w12 := q10.grown g12 q10.size (fun j e => (World.ownsRow.lt own10 j e).1)
  have b12 := b7.trans (q12.mono b7.size)
  have k12 := hX.below q12 hX.lt
  obtain ⟨a12, c12, rfl, ⟨h1, h2, h3⟩, h4⟩ := own12.refm
  refine ⟨a12, c12, rfl, k12, ⟨h1.other (fun q e => ?_), h2, h3⟩, b12.setCell (p := ⟨X, 0, none⟩) hXw _⟩
  have := h4 q e
  have := hX.lt
  show q.block ≠ X
  omega
/-- What the reference's Put tells. -/
def CPutPost (w : World) (S : List Ent) (x : Ent) (r : Ending) (w' : World) : Prop :=
  ∃ a' c', r = .returned (.tuple #[.agg #[.slice a' (cputS S x).length c'], .bool (cputB S x), .int .i64 (cputE S x)]) ∧ RefM w' a' c' (cputS S x) ∧ Below w.heap.size w w'

end Go.Proofs.Ytkbonifbnbdbkab
