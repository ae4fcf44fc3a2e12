/-
  Entries in a row of a call's own; how many bytes an entry has; what is taken of a queue, plainly.
-/
import Derived.Test.YtkbonifbnbdbkaaDoorQ8
import Derived.Test.YtkbonifbnbdbkaaDoorPlain
import Derived.Laws.AppendOwnNone
namespace Go.Proofs.YtkbonifbnbdbkaaDoor
open Go.RowKit

theorem gOfC {w w' : World} (h : Below w.heap.size w w') (row : Option Nat) : w.grownBy w' row := ⟨h.os, h.tape, h.output, h.size, fun k hk _ => h.block k hk⟩
theorem EntsAt.below {w w' : World} {a : Option Addr} {l : List Ent} {B : Nat} (h : EntsAt w a l) (hb : Below B w w') (hB : w.heap.size ≤ B) : EntsAt w' a l := fun hn => by
  obtain ⟨b, o, rfl, hlt, hc⟩ := h hn
  have hb' := hb.block b (Nat.lt_of_lt_of_le hlt hB)
  refine ⟨b, o, rfl, Nat.lt_of_lt_of_le hlt (hb.mono hB).size, fun i hi j v hv => ?_⟩
  rw [World.cell?_of_block (a := ⟨b, o + i * 5 + j, none⟩) hb']
  exact hc i hi j v hv
theorem EntsAt.on {w w' : World} {a : Option Addr} {l : List Ent} (h : EntsAt w a l) (hb : Below w.heap.size w w') : EntsAt w' a l := h.below hb (Nat.le_refl _)
theorem EntsAt.cells {w : World} {a : Option Addr} {l : List Ent} (h : EntsAt w a l) (k : Nat) (hk : k < l.length) : ∃ b o, a = some ⟨b, o, none⟩ ∧ b < w.heap.size ∧
    w.cell? ⟨b, o + k * 5, none⟩ = some (.string l[k].k) ∧ w.cell? ⟨b, o + k * 5 + 1, none⟩ = some (.int .i64 l[k].t) ∧ w.cell? ⟨b, o + k * 5 + 2, none⟩ = some (.int .u16 l[k].o) ∧ w.cell? ⟨b, o + k * 5 + 3, none⟩ = some (.string l[k].v) ∧ w.cell? ⟨b, o + k * 5 + 4, none⟩ = some (.int .i64 l[k].u) := by
  obtain ⟨b, o, rfl, hlt, hc⟩ := h (by omega)
  exact ⟨b, o, rfl, hlt, hc k hk 0 _ rfl, hc k hk 1 _ rfl, hc k hk 2 _ rfl, hc k hk 3 _ rfl, hc k hk 4 _ rfl⟩
/-- The cells of entries. -/
def cellsC (L : List Ent) : List Value := L.flatMap encE
theorem cellsC_len : ∀ L : List Ent, (cellsC L).length = L.length * 5
  | [] => rfl
  | p :: r => by
    have := cellsC_len r
    simp only [cellsC, List.flatMap_cons, List.length_append, List.length_cons] at *
    rw [this]
    simp [encE]
    omega
theorem cellsC_append (L M : List Ent) : cellsC (L ++ M) = cellsC L ++ cellsC M := List.flatMap_append
theorem cellsC_get : ∀ (L : List Ent) (i : Nat) (hi : i < L.length) (j : Nat) (v : Value), (encE L[i])[j]? = some v → (cellsC L)[i * 5 + j]? = some v
  | p :: r, 0, _, j, v, hv => by
    have e : cellsC (p :: r) = encE p ++ cellsC r := rfl
    have hv' : (encE p)[j]? = some v := hv
    have hj := (List.getElem?_eq_some_iff.1 hv').1
    rw [e, Nat.zero_mul, Nat.zero_add, List.getElem?_append_left hj]
    exact hv'
  | p :: r, i + 1, hi, j, v, hv => by
    have := cellsC_get r i (by simpa using hi) j v hv
    have e : cellsC (p :: r) = encE p ++ cellsC r := rfl
    have l : (encE p).length = 5 := rfl
    rw [e, List.getElem?_append_right (by omega), l, show (i + 1) * 5 + j - 5 = i * 5 + j by omega]
    exact this
/-- A slice of entries in blocks from B on. -/
def OwnC (w : World) (B : Nat) (v : Value) (L : List Ent) : Prop := w.ownsRow B 27 5 v L.length (cellsC L)
theorem infoEn : (Tryd.prog.info? 27).map (fun i => (i.zero, i.size, i.bytes)) = some (some (.agg #[.string ⟨#[]⟩, .int .i64 0, .int .u16 0, .string ⟨#[]⟩, .int .i64 0]), 5, 56) := by kernel_rfl
theorem baseC {W : World} {base base' : Nat} {e : TypeId} {size : Nat} {v : Value} {k : Nat} {xs : List Value} (h : W.ownsRow base e size v k xs) (hb : base' ≤ base) : W.ownsRow base' e size v k xs := by
  refine ⟨h.1, ?_⟩
  rcases h.2 with hn | ⟨g, cap, cur, hv, hbg, rest⟩
  · exact .inl hn
  · exact .inr ⟨g, cap, cur, hv, Nat.le_trans hb hbg, rest⟩
theorem OwnC.base {w : World} {B B' : Nat} {v : Value} {L : List Ent} (h : OwnC w B v L) (hb : B' ≤ B) : OwnC w B' v L := baseC h hb
theorem OwnC.onB {w w' : World} {B N : Nat} {v : Value} {L : List Ent} (h : OwnC w B v L) (hb : Below N w w') (hN : w.heap.size ≤ N) : OwnC w' B v L :=
  World.ownsRow.kept h (gOfC (hb.mono hN) none) (by cases hv : v.ownBlock <;> simp)
theorem OwnC.on {w w' : World} {B : Nat} {v : Value} {L : List Ent} (h : OwnC w B v L) (hb : Below w.heap.size w w') : OwnC w' B v L := h.onB hb (Nat.le_refl _)
theorem OwnC.push {w : World} {B : Nat} {v : Value} {L : List Ent} {r : Ent} (h : w.ownsRow B 27 5 v (L.length + 1) (cellsC L ++ encE r)) : OwnC w B v (L ++ [r]) := by
  unfold OwnC
  rw [cellsC_append, List.length_append]
  simpa [cellsC] using h
theorem OwnC.form {w : World} {B : Nat} {v : Value} {L : List Ent} (h : OwnC w B v L) : ∃ a c, v = .slice a L.length c ∧ (a = none → c = 0) ∧ (∀ q, a = some q → B ≤ q.block ∧ q.block < w.heap.size ∧ q = ⟨q.block, 0, none⟩) ∧ EntsAt w a L := by
  rcases h.2 with ⟨rfl, h0⟩ | ⟨g, cap, cur, rfl, hg0, hg1, hcap, hmax, hcs, htk⟩
  · exact ⟨none, 0, by rw [h0], fun _ => rfl, (fun q e => by cases e), fun hn => by omega⟩
  · refine ⟨_, _, rfl, (fun e => by cases e), (fun q e => by obtain rfl := Option.some.inj e; exact ⟨hg0, ltE hg1, rfl⟩), fun hn => ⟨g, 0, rfl, ltE hg1, fun i hi j v hv => ?_⟩⟩
    have hj := (List.getElem?_eq_some_iff.1 hv).1
    have l5 : (encE L[i]).length = 5 := rfl
    rw [Nat.zero_add, World.ownsRow.cellAt h _ (by omega)]
    exact cellsC_get L i hi j v hv
theorem cellsC_one : ∀ (L : List Ent), ∀ u ∈ cellsC L, u.oneCell' = true := fun L u h => by
  obtain ⟨r, -, h2⟩ := List.mem_flatMap.1 h
  simp only [encE, List.mem_cons, List.not_mem_nil, or_false] at h2
  rcases h2 with rfl | rfl | rfl | rfl | rfl <;> rfl
theorem EntsAt.flat {w : World} {b o : Nat} : ∀ {l : List Ent}, (∀ i (hi : i < l.length), ∀ j v, (encE l[i])[j]? = some v → w.cell? ⟨b, o + i * 5 + j, none⟩ = some v) → ∀ j u, (cellsC l)[j]? = some u → w.cell? ⟨b, o + j, none⟩ = some u := fun {l} h j u hj => by
  have hl := (List.getElem?_eq_some_iff.1 hj).1
  rw [cellsC_len] at hl
  have hi : j / 5 < l.length := by omega
  have e : j = j / 5 * 5 + j % 5 := by omega
  have l5 : (encE l[j / 5]).length = 5 := rfl
  have hm : j % 5 < (encE l[j / 5]).length := by omega
  have h1 := cellsC_get l (j / 5) hi (j % 5) _ (List.getElem?_eq_getElem hm)
  rw [← e, hj] at h1
  have h2 := h (j / 5) hi (j % 5) _ (List.getElem?_eq_getElem hm)
  rw [show o + j = o + j / 5 * 5 + j % 5 by omega, h2]
  exact h1.symm
theorem wpList_append_ents (w : World) {ops : Array Oper} {rest : List Oper} {o : Oper} {act : Act} {Q : Exit → Act → World → Prop} (hgd : o.guard = none) (s x : Operand)
    (ho : o.op = .call { callee := .builtin .append, args := #[s, x], argTypes := #[30, 30] }) (B : Nat) (v : Value) (rs : List Ent) (hs : act.eval s = v) (hown : OwnC w B v rs)
    (a : Option Addr) (n c : Nat) (ps : List Ent) (hx : act.eval x = .slice a n c) (hn : n = ps.length) (hat : EntsAt w a ps) (hc0 : a = none → c = 0)
    (hb : rs.length + ps.length ≤ 1099511627776) (hB : B ≤ w.heap.size)
    (h : ∀ v' w', OwnC w' B v' (rs ++ ps) → w.grownBy w' v.ownBlock → wpList Tryd.prog ops Q rest (act.put o.dst v') w') : wpList Tryd.prog ops Q (o :: rest) act w := by
  subst hn
  obtain ⟨i0, hi, hi0, hi1, hi2⟩ := info_parts infoEn
  cases a with
  | none =>
    have h0 : ps.length = 0 := by
      by_cases hp : 0 < ps.length
      · obtain ⟨b, o, he, -⟩ := hat hp
        cases he
      · omega
    obtain rfl := List.eq_nil_of_length_eq_zero h0
    obtain rfl := hc0 rfl
    refine wpList_append_own_none hgd s x 30 ho B 27 i0 5 Tryd.underlying30 hi v rs.length (cellsC rs) hs hown hx ?_
    exact h v w (by simpa using hown) (World.grownBy.refl w _)
  | some q =>
    refine wpList_append_own w hgd s x 30 ho B 27 i0 _ 5 56 Tryd.underlying30 hi hi0 hi1 hi2 rfl (by decide) v rs.length (cellsC rs) hs hown q ps.length c (cellsC ps) hx (cellsC_len ps) (fun j u hj => ?_) (cellsC_one ps) (by unfold maxLen; omega) (by omega) hB (fun v' w' h1 h2 _ => h v' w' ?_ h2)
    · have hp : 0 < ps.length := by
        have := (List.getElem?_eq_some_iff.1 hj).1
        rw [cellsC_len] at this
        omega
      obtain ⟨b, o, he, -, hc⟩ := hat hp
      obtain rfl := Option.some.inj he
      rw [Go.WideShapes.add_plain]
      exact EntsAt.flat hc j u hj
    · unfold OwnC
      rw [cellsC_append, List.length_append]
      exact h1
theorem src_lenP {w : World} {a : Option Addr} {n c : Nat} {l : List UInt8} (h : SrcAt w (.slice a n c) l) : n = l.length := by
  rcases h with ⟨e, rfl⟩ | ⟨q, c', e, hc⟩
  · simp only [Value.slice.injEq] at e; exact e.2.1
  · simp only [Value.slice.injEq] at e; exact e.2.1

theorem putEn_lenQ (x : Ent) (hx : x.Ok) (hc : checkEn x = 0) : (partsE9 x).flatten.length ≤ 9398 ∧ 1 ≤ (putEn x).length ∧ (putEn x).length ≤ 9400 := by
  have hz : 0 < x.k.size ∧ x.k.size ≤ 1024 ∧ x.v.size ≤ 8192 := by
    unfold checkEn at hc
    split at hc
    · cases hc
    · omega
  have n1 : x.k.data.toList.length = x.k.size := rfl
  have n2 : x.v.data.toList.length = x.v.size := rfl
  have a1 := itoa_len20 x.t hx.1.1 hx.1.2
  have a2 := itoa_len20 x.o (by have := hx.2.1; omega) (by have := hx.2.1; omega)
  have a3 := itoa_len20 x.u hx.2.2.1 hx.2.2.2
  have a4 := itoa_len20 (x.k.data.toList.length : Int) (by omega) (by omega)
  have a5 := itoa_len20 (x.v.data.toList.length : Int) (by omega) (by omega)
  have h1 : (partsE9 x).flatten.length ≤ 9398 := by
    simp only [partsE9, putText, putInt, List.flatten_cons, List.flatten_nil, List.length_append, List.length_cons, List.length_nil]
    omega
  refine ⟨h1, ?_⟩
  unfold putEn putList
  simp only [List.length_append, List.length_cons, List.length_nil]
  omega
set_option maxRecDepth 100000 in
set_option maxHeartbeats 4000000 in
theorem qSize_any (x : Ent) (hx : x.Ok) (hc : checkEn x = 0) (B : Nat) (W : World) (hB : B ≤ W.heap.size) (hv : TabE B W) :
    Calls Tryd.prog 16 #[.agg #[.string x.k, .int .i64 x.t, .int .u16 x.o, .string x.v, .int .i64 x.u]] W fun e w' => e = .returned (.int .i64 ((putEn x).length : Int)) ∧ Below W.heap.size W w' := by
  have d1 := (Below.refl W.heap.size W).alloc (Nat.le_refl _) (.cells #[.string x.k, .int .i64 x.t, .int .u16 x.o, .string x.v, .int .i64 x.u] 27)
  have b1 := EBlk.new W x
  have x0 := b1.c0; have x1 := b1.c1; have x2 := b1.c2; have x3 := b1.c3; have x4 := b1.c4
  have hl := putEn_lenQ x hx hc
  have hz : x.k.size ≤ 1024 ∧ x.v.size ≤ 8192 := by
    unfold checkEn at hc
    split at hc
    · cases hc
    · omega
  have HP := Lib.hid (ePut_any x hx (by omega) (by omega) (by omega) B (W.alloc (.cells #[.string x.k, .int .i64 x.t, .int .u16 x.o, .string x.v, .int .i64 x.u] 27)) (Nat.le_trans hB d1.size) (hv.on (d1.mono hB)))
  have HD := Lib.hid d1
  clear hx hc hz hB hv b1 d1 hl
  obtain ⟨N, hN⟩ : ∃ N, (putEn x).length = N := ⟨_, rfl⟩
  rw [hN]
  have HN := Lib.hid hN
  clear hN
  go_enter Tryd.func16, Tryd.ntmps16
  go_wp2_with (go_at_call 30; refine HP.out.mono ?_; rintro e w5 ⟨a5, n5, c5, rfl, ho5, q5⟩; replace ho5 := Lib.hid ho5; replace q5 := Lib.hid q5; refine Hid.out ?_)
  refine Lib.hid ?_
  obtain rfl : n5 = N := (src_lenP ho5.out.src).trans HN.out
  go_wp2
  go_ret
  exact ⟨rfl, HD.out.trans (q5.out.mono HD.out.size)⟩
/-- How many bytes an entry has. -/
def szE (e : Ent) : Int := ((putEn e).length : Int)
/-- What is taken of items with so much room, and what becomes of the items. -/
def takeQ : Int → List Itm → List Ent × List Itm
  | _, [] => ([], [])
  | r, x :: l => if szE x.e ≤ r then (x.e :: (takeQ (r - szE x.e) l).1, ⟨x.e, x.s + 1, x.q⟩ :: (takeQ (r - szE x.e) l).2) else ((takeQ r l).1, x :: (takeQ r l).2)
theorem takeQ_len : ∀ (r : Int) (L : List Itm), (takeQ r L).2.length = L.length ∧ (takeQ r L).1.length ≤ L.length
  | _, [] => ⟨rfl, Nat.le_refl _⟩
  | r, x :: l => by
    unfold takeQ
    have h1 := takeQ_len (r - szE x.e) l
    have h2 := takeQ_len r l
    split
    · simp only [List.length_cons]
      omega
    · simp only [List.length_cons]
      omega
/-- The items while they are gone through: what is left of room, what was taken, what the first ones became. -/
def MidT (room : Int) (L M : List Itm) (k : Nat) (r : Int) (T : List Ent) : Prop := ∃ P : List Itm, P.length = k ∧ M = P ++ L.drop k ∧ takeQ room L = (T ++ (takeQ r (L.drop k)).1, P ++ (takeQ r (L.drop k)).2)
section
variable {room r : Int} {L M : List Itm} {k : Nat} {T : List Ent}
theorem MidT.start (room : Int) (L : List Itm) : MidT room L L 0 room [] := ⟨[], rfl, by simp, by simp⟩
theorem MidT.len (h : MidT room L M k r T) (hk : k ≤ L.length) : M.length = L.length := by
  obtain ⟨P, h1, rfl, -⟩ := h
  rw [List.length_append, List.length_drop]
  omega
theorem MidT.at (h : MidT room L M k r T) (hk : k < L.length) (hm : k < M.length) : M[k] = L[k] := by
  obtain ⟨P, h1, rfl, -⟩ := h
  rw [List.getElem_append_right (by omega), List.getElem_drop]
  congr 1
  omega
theorem MidT.taken (h : MidT room L M k r T) (hk : k < L.length) (hs : szE L[k].e ≤ r) : MidT room L (M.set k ⟨L[k].e, L[k].s + 1, L[k].q⟩) (k + 1) (r - szE L[k].e) (T ++ [L[k].e]) := by
  obtain ⟨P, h1, rfl, h3⟩ := h
  have e := List.drop_eq_getElem_cons hk
  refine ⟨P ++ [⟨L[k].e, L[k].s + 1, L[k].q⟩], by simp [h1], ?_, ?_⟩
  · rw [List.set_append_right _ _ (by omega), h1, Nat.sub_self, e, List.set_cons_zero]
    simp
  · rw [h3, e, takeQ, if_pos hs]
    simp
theorem MidT.left (h : MidT room L M k r T) (hk : k < L.length) (hs : ¬ szE L[k].e ≤ r) : MidT room L M (k + 1) r T := by
  obtain ⟨P, h1, rfl, h3⟩ := h
  have e := List.drop_eq_getElem_cons hk
  refine ⟨P ++ [L[k]], by simp [h1], ?_, ?_⟩
  · rw [e]
    simp
  · rw [h3, e, takeQ, if_neg hs]
    simp
theorem MidT.end (h : MidT room L M L.length r T) : T = (takeQ room L).1 ∧ M = (takeQ room L).2 := by
  obtain ⟨P, h1, rfl, h3⟩ := h
  rw [List.drop_length] at h3 ⊢
  rw [h3]
  simp [takeQ]
end
/-- What keeps a queue's items as they may be. -/
def GoodI (x : Itm) : Prop := x.e.Ok ∧ checkEn x.e = 0 ∧ 0 ≤ x.s ∧ x.s ≤ 1000000

end Go.Proofs.YtkbonifbnbdbkaaDoor
