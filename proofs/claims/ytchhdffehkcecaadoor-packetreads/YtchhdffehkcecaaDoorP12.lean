/-
  What Copy of the reference tells.
-/
import Derived.Test.YtchhdffehkcecaaDoorP11
import Derived.Laws.OwnMore
import Derived.Laws.AppendOwnNone
import Derived.Maps.AppendAt
import Derived.Laws.Tables
namespace Go.Proofs.YtchhdffehkcecaaDoor
open Go Go.RowKit

theorem fresh_own {w : World} {B g : Nat} {e : TypeId} {size : Nat} (hg : w.heap[g]? = some (.cells #[] e (0, 0))) (hB : B ≤ g) : w.ownsRow B e size (.slice (some ⟨g, 0, none⟩) 0 0) 0 [] :=
  ⟨by simp, .inr ⟨g, 0, #[], rfl, hB, hg, Nat.le_refl _, Nat.zero_le _, by simp, by simp⟩⟩

/-- append of what lies somewhere, to an empty list of the call's own. -/
theorem run_clone (t ty e : TypeId) (i : TypeInfo) (z : Value) (size bytes : Nat) (ht : Tryd.prog.underlying t = some (.slice e)) (hi : Tryd.prog.info? e = some i) (hz : i.zero = some z) (hsize : i.size = size) (hby : i.bytes = bytes) (hzs : z.cells.size = size) (hsz : 0 < size)
    (w : World) (B g : Nat) (hg : w.heap[g]? = some (.cells #[] e (0, 0))) (hB : B ≤ g) (q : Option Addr) (n c : Nat) (news : List Value) (hl : news.length = n * size) (hnews : ∀ ad, q = some ad → ∀ j u, news[j]? = some u → w.cell? (ad.add j) = some u) (h1 : ∀ u ∈ news, u.oneCell' = true)
    (hnil : q = none → n = 0 ∧ c = 0) (h63 : n ≤ maxLen) (hbytes : n * bytes ≤ 140737488355328) :
    ∃ v' w', (Builtin.append_ #[t, t] ty #[.slice (some ⟨g, 0, none⟩) 0 0, .slice q n c]).run Tryd.prog w = .ok v' w' ∧ w'.ownsRow B e size v' n news ∧ Below w.heap.size w w' := by
  have hlt : g < w.heap.size := ltE hg
  cases q with
  | none =>
    obtain ⟨rfl, rfl⟩ := hnil rfl
    obtain rfl : news = [] := List.eq_nil_of_length_eq_zero (by simpa using hl)
    exact ⟨_, w, run_append_owned_none (P := Tryd.prog) (w := w) B t ty e i size ht hi _ 0 [] (fresh_own hg hB), fresh_own hg hB, Below.refl _ _⟩
  | some ad =>
    by_cases hn : n = 0
    · subst hn
      obtain rfl : news = [] := List.eq_nil_of_length_eq_zero (by simpa using hl)
      have hr := run_append_room (P := Tryd.prog) w t ty e i ht hi g 0 0 #[] hg ad 0 c [] (by simp) (fun j u hj => by simp at hj) (fun u hu => by cases hu) (Nat.le_refl _) (by simp)
      have hs := setRow_heap w g #[] (((#[] : Array Value).toList.take (0 * i.size) ++ [] ++ (#[] : Array Value).toList.drop (0 * i.size + ([] : List Value).length)).toArray) e (0, 0) hg
      have e0 : ((#[] : Array Value).toList.take (0 * i.size) ++ [] ++ (#[] : Array Value).toList.drop (0 * i.size + ([] : List Value).length)).toArray = #[] := by simp
      rw [e0] at hr hs
      refine ⟨_, _, hr, fresh_own hs hB, ⟨rfl, rfl, rfl, by simp [World.setRow], fun k hk => ?_⟩⟩
      by_cases hkg : k = g
      · subst hkg; rw [hs, hg]
      · exact setRow_other w g k _ hkg
    · obtain ⟨v', w', hr, h2, -, -, -⟩ := run_append_own_at (P := Tryd.prog) w B t ty e i z size bytes ht hi hz hsize hby hzs hsz _ 0 [] (fresh_own hg hB) ad n c news hl (hnews ad rfl) h1 (by omega) (by simpa using hbytes) (by omega)
      subst hsize hby
      have hr2 := run_append_grow (P := Tryd.prog) w t ty e i z ht hi hz ⟨g, 0, none⟩ 0 0 [] (by simp) (fun j v hj => by simp at hj) ad n c news hl (hnews ad rfl) (by omega) (by unfold maxLen at h63; omega) (growslice_fits (by omega) (by simpa using hbytes))
      rw [hr] at hr2
      injection hr2 with e1 e2
      refine ⟨v', w', hr, by simpa using h2, ?_⟩
      rw [e2]
      exact (Below.refl w.heap.size w).drew.alloc (Nat.le_refl _) _

theorem wpList_clone (t e : TypeId) (i : TypeInfo) (z : Value) (size bytes : Nat) (ht : Tryd.prog.underlying t = some (.slice e)) (hi : Tryd.prog.info? e = some i) (hz : i.zero = some z) (hsize : i.size = size) (hby : i.bytes = bytes) (hzs : z.cells.size = size) (hsz : 0 < size)
    {ops : Array Oper} {rest : List Oper} {o : Oper} {act : Act} {Q : Exit → Act → World → Prop} {w : World} (hgd : o.guard = none) (s x : Operand) (ho : o.op = .call { callee := .builtin .append, args := #[s, x], argTypes := #[t, t] })
    (B g : Nat) (hs : act.eval s = .slice (some ⟨g, 0, none⟩) 0 0) (hg : w.heap[g]? = some (.cells #[] e (0, 0))) (hB : B ≤ g) (q : Option Addr) (n c : Nat) (news : List Value) (hx : act.eval x = .slice q n c) (hl : news.length = n * size) (hnews : ∀ ad, q = some ad → ∀ j u, news[j]? = some u → w.cell? (ad.add j) = some u) (h1 : ∀ u ∈ news, u.oneCell' = true)
    (hnil : q = none → n = 0 ∧ c = 0) (h63 : n ≤ maxLen) (hbytes : n * bytes ≤ 140737488355328)
    (h : ∀ v' w', w'.ownsRow B e size v' n news → Below w.heap.size w w' → wpList Tryd.prog ops Q rest (act.put o.dst v') w') : wpList Tryd.prog ops Q (o :: rest) act w := by
  refine wpList_plain hgd fun K hK => ?_
  obtain ⟨v', w', hr, h2, h3⟩ := run_clone t o.type e i z size bytes ht hi hz hsize hby hzs hsz w B g hg hB q n c news hl hnews h1 hnil h63 hbytes
  unfold Oper.wp execOp
  simp only [ho, resolve, invoke, builtin, Sem.run_bind, Sem.run_pure, Result.andThen_ok, List.map_toArray, List.map_cons, List.map_nil, hs, hx, hr]
  exact hK _ _ (h v' w' h2 h3)

theorem cellsMx_len : ∀ (L : List Mem), (cellsMx L).length = L.length * 3
  | [] => rfl
  | p :: r => by
    have e : cellsMx (p :: r) = encM p ++ cellsMx r := rfl
    have l : (encM p).length = 3 := rfl
    rw [e, List.length_append, cellsMx_len r, l, List.length_cons]
    omega
theorem cellsMx_one : ∀ (L : List Mem), ∀ u ∈ cellsMx L, u.oneCell' = true := fun L u h => by
  obtain ⟨r, -, h2⟩ := List.mem_flatMap.1 h
  simp only [encM, List.mem_cons, List.not_mem_nil, or_false] at h2
  rcases h2 with rfl | rfl | rfl <;> rfl
theorem flatMx {w : World} {b o : Nat} {l : List Mem} (h : ∀ i (hi : i < l.length), ∀ j v, (encM l[i])[j]? = some v → w.cell? ⟨b, o + i * 3 + j, none⟩ = some v) (j : Nat) (u : Value) (hj : (cellsMx l)[j]? = some u) : w.cell? ⟨b, o + j, none⟩ = some u := by
  have hl := (List.getElem?_eq_some_iff.1 hj).1
  rw [cellsMx_len] at hl
  have hi : j / 3 < l.length := by omega
  have e : j = j / 3 * 3 + j % 3 := by omega
  have l5 : (encM l[j / 3]).length = 3 := rfl
  have hm : j % 3 < (encM l[j / 3]).length := by omega
  have h1 := cellsMx_get l (j / 3) hi (j % 3) _ (List.getElem?_eq_getElem hm)
  rw [← e, hj] at h1
  have h2 := h (j / 3) hi (j % 3) _ (List.getElem?_eq_getElem hm)
  rw [show o + j = o + j / 3 * 3 + j % 3 by omega, h2]
  exact h1.symm
theorem newsMx {w : World} {a : Option Addr} {l : List Mem} (h : MemsAt w a l) : ∀ ad, a = some ad → ∀ j u, (cellsMx l)[j]? = some u → w.cell? (ad.add j) = some u := fun ad ha j u hj => by
  have hl := (List.getElem?_eq_some_iff.1 hj).1
  rw [cellsMx_len] at hl
  obtain ⟨b, o, e, -, hc⟩ := h (by omega)
  rw [ha] at e
  obtain rfl := Option.some.inj e
  rw [Go.WideShapes.add_plain]
  exact flatMx hc j u hj

theorem cellsEx_len : ∀ (L : List Ent), (cellsEx L).length = L.length * 5
  | [] => rfl
  | p :: r => by
    have e : cellsEx (p :: r) = encE p ++ cellsEx r := rfl
    have l : (encE p).length = 5 := rfl
    rw [e, List.length_append, cellsEx_len r, l, List.length_cons]
    omega
theorem cellsEx_one : ∀ (L : List Ent), ∀ u ∈ cellsEx L, u.oneCell' = true := fun L u h => by
  obtain ⟨r, -, h2⟩ := List.mem_flatMap.1 h
  simp only [encE, List.mem_cons, List.not_mem_nil, or_false] at h2
  rcases h2 with rfl | rfl | rfl | rfl | rfl <;> rfl
theorem flatEx {w : World} {b o : Nat} {l : List Ent} (h : ∀ i (hi : i < l.length), ∀ j v, (encE l[i])[j]? = some v → w.cell? ⟨b, o + i * 5 + j, none⟩ = some v) (j : Nat) (u : Value) (hj : (cellsEx l)[j]? = some u) : w.cell? ⟨b, o + j, none⟩ = some u := by
  have hl := (List.getElem?_eq_some_iff.1 hj).1
  rw [cellsEx_len] at hl
  have hi : j / 5 < l.length := by omega
  have e : j = j / 5 * 5 + j % 5 := by omega
  have l5 : (encE l[j / 5]).length = 5 := rfl
  have hm : j % 5 < (encE l[j / 5]).length := by omega
  have h1 := cellsEx_get l (j / 5) hi (j % 5) _ (List.getElem?_eq_getElem hm)
  rw [← e, hj] at h1
  have h2 := h (j / 5) hi (j % 5) _ (List.getElem?_eq_getElem hm)
  rw [show o + j = o + j / 5 * 5 + j % 5 by omega, h2]
  exact h1.symm
theorem newsEx {w : World} {a : Option Addr} {l : List Ent} (h : EntsAt w a l) : ∀ ad, a = some ad → ∀ j u, (cellsEx l)[j]? = some u → w.cell? (ad.add j) = some u := fun ad ha j u hj => by
  have hl := (List.getElem?_eq_some_iff.1 hj).1
  rw [cellsEx_len] at hl
  obtain ⟨b, o, e, -, hc⟩ := h (by omega)
  rw [ha] at e
  obtain rfl := Option.some.inj e
  rw [Go.WideShapes.add_plain]
  exact flatEx hc j u hj
def CpPost (p : Pk) (nm ne : Nat) (W : World) (e : Ending) (w' : World) : Prop := ∃ bm c1 be c2, e = .returned (.agg #[.int .u8 p.k, .int .u16 p.f, .int .u16 p.a, .int .i64 p.q, .slice bm nm c1, .slice be ne c2]) ∧ OwnMx w' W.heap.size (.slice bm nm c1) p.ms ∧ OwnEx w' W.heap.size (.slice be ne c2) p.es ∧ Below W.heap.size W w'
theorem OwnMx.on {w w' : World} {B : Nat} {v : Value} {L : List Mem} (h : OwnMx w B v L) (hb : Below w.heap.size w w') : OwnMx w' B v L := World.ownsRow.kept h (grownBy_of_below (r := none) hb) (by cases hv : v.ownBlock <;> simp)
theorem OwnEx.on {w w' : World} {B : Nat} {v : Value} {L : List Ent} (h : OwnEx w B v L) (hb : Below w.heap.size w w') : OwnEx w' B v L := World.ownsRow.kept h (grownBy_of_below (r := none) hb) (by cases hv : v.ownBlock <;> simp)
theorem OwnMx.base {w : World} {B B' : Nat} {v : Value} {L : List Mem} (h : OwnMx w B v L) (hb : B' ≤ B) : OwnMx w B' v L := by
  refine ⟨h.1, ?_⟩
  rcases h.2 with hn | ⟨g, cap, cur, hv, hbg, rest⟩
  · exact .inl hn
  · exact .inr ⟨g, cap, cur, hv, Nat.le_trans hb hbg, rest⟩
theorem OwnEx.base {w : World} {B B' : Nat} {v : Value} {L : List Ent} (h : OwnEx w B v L) (hb : B' ≤ B) : OwnEx w B' v L := by
  refine ⟨h.1, ?_⟩
  rcases h.2 with hn | ⟨g, cap, cur, hv, hbg, rest⟩
  · exact .inl hn
  · exact .inr ⟨g, cap, cur, hv, Nat.le_trans hb hbg, rest⟩
set_option maxRecDepth 100000 in
set_option maxHeartbeats 4000000 in
theorem yCopy_any (p : Pk) (am : Option Addr) (nm cm : Nat) (ae : Option Addr) (ne ce : Nat) (hnm : nm = p.ms.length) (hne : ne = p.es.length) (W : World) (hM : MemsAt W am p.ms) (hE : EntsAt W ae p.es) (h1 : am = none → cm = 0) (h2 : ae = none → ce = 0) (hl1 : nm ≤ 100000) (hl2 : ne ≤ 100000) :
    Calls Tryd.prog 10 #[.agg #[.int .u8 p.k, .int .u16 p.f, .int .u16 p.a, .int .i64 p.q, .slice am nm cm, .slice ae ne ce]] W (CpPost p nm ne W) := by
  obtain ⟨iM, hiM, hzM⟩ : ∃ i, Tryd.prog.info? 45 = some i ∧ (i.zero, i.size, i.bytes) = (some (.agg #[.int .u16 0, .int .u8 0, .int .i64 0]), 3, 16) := by
    have h := infoMx
    cases hq : Tryd.prog.info? 45 with
    | none => rw [hq] at h; cases h
    | some i => rw [hq] at h; exact ⟨i, rfl, by simpa using h⟩
  simp only [Prod.mk.injEq] at hzM
  have HIM := Lib.hid (And.intro hiM hzM)
  clear hiM hzM
  obtain ⟨iE, hiE, hzE⟩ : ∃ i, Tryd.prog.info? 48 = some i ∧ (i.zero, i.size, i.bytes) = (some (.agg #[.string ⟨#[]⟩, .int .i64 0, .int .u16 0, .string ⟨#[]⟩, .int .i64 0]), 5, 56) := by
    have h := infoEx
    cases hq : Tryd.prog.info? 48 with
    | none => rw [hq] at h; cases h
    | some i => rw [hq] at h; exact ⟨i, rfl, by simpa using h⟩
  simp only [Prod.mk.injEq] at hzE
  have HIE := Lib.hid (And.intro hiE hzE)
  clear hiE hzE
  have d1 := (Below.refl W.heap.size W).alloc (Nat.le_refl _) (.cells #[.int .u8 p.k, .int .u16 p.f, .int .u16 p.a, .int .i64 p.q, .slice am nm cm, .slice ae ne ce] 26)
  have d2 := (Below.refl (W.alloc (.cells #[.int .u8 p.k, .int .u16 p.f, .int .u16 p.a, .int .i64 p.q, .slice am nm cm, .slice ae ne ce] 26)).heap.size (W.alloc (.cells #[.int .u8 p.k, .int .u16 p.f, .int .u16 p.a, .int .i64 p.q, .slice am nm cm, .slice ae ne ce] 26))).alloc (Nat.le_refl _) (.cells #[.int .u8 0, .int .u16 0, .int .u16 0, .int .i64 0, .slice none 0 0, .slice none 0 0] 26)
  have b1 := (PkBlk.new W p.k p.f p.a p.q am nm cm ae ne ce).on d2
  have b2 := PkBlk.new (W.alloc (.cells #[.int .u8 p.k, .int .u16 p.f, .int .u16 p.a, .int .i64 p.q, .slice am nm cm, .slice ae ne ce] 26)) 0 0 0 0 none 0 0 none 0 0
  rw [World.size_alloc] at b2
  have e2 := d1.trans (d2.mono d1.size)
  have d3 := (Below.refl ((W.alloc (.cells #[.int .u8 p.k, .int .u16 p.f, .int .u16 p.a, .int .i64 p.q, .slice am nm cm, .slice ae ne ce] 26)).alloc (.cells #[.int .u8 0, .int .u16 0, .int .u16 0, .int .i64 0, .slice none 0 0, .slice none 0 0] 26)).heap.size ((W.alloc (.cells #[.int .u8 p.k, .int .u16 p.f, .int .u16 p.a, .int .i64 p.q, .slice am nm cm, .slice ae ne ce] 26)).alloc (.cells #[.int .u8 0, .int .u16 0, .int .u16 0, .int .i64 0, .slice none 0 0, .slice none 0 0] 26))).alloc (Nat.le_refl _) (.cells #[] 45)
  have b3 := b1.on d3
  have g3 := newE ((W.alloc (.cells #[.int .u8 p.k, .int .u16 p.f, .int .u16 p.a, .int .i64 p.q, .slice am nm cm, .slice ae ne ce] 26)).alloc (.cells #[.int .u8 0, .int .u16 0, .int .u16 0, .int .i64 0, .slice none 0 0, .slice none 0 0] 26)) (.cells #[] 45)
  have x4 := b3.c4
  have hM3 := ((hM.on d1).on d2).on d3
  have hnM : am = none → nm = 0 ∧ cm = 0 := fun h => ⟨by
    by_cases hz : 0 < p.ms.length
    · obtain ⟨b, o, e, -⟩ := hM hz
      rw [h] at e; cases e
    · omega, h1 h⟩
  have hnE : ae = none → ne = 0 ∧ ce = 0 := fun h => ⟨by
    by_cases hz : 0 < p.es.length
    · obtain ⟨b, o, e, -⟩ := hE hz
      rw [h] at e; cases e
    · omega, h2 h⟩
  have HC1 := Lib.hid (And.intro g3 (And.intro (newsMx hM3) (And.intro hnM (show (cellsMx p.ms).length = nm * 3 by rw [cellsMx_len, hnm]))))
  have HZ := Lib.hid (And.intro b3 (And.intro (b2.on d3) (And.intro (e2.trans (d3.mono e2.size)) (((hE.onP d1).onP d2).onP d3))))
  have HX := Lib.hid (And.intro hnE (And.intro hnm (And.intro hne hE)))
  clear d1 d2 b1 b2 e2 d3 b3 g3 hM3 hnM hnE hM hE h1 h2 hnm hne
  go_enter Tryd.func10, Tryd.ntmps10
  go_wp2_with (at_builtin; refine wpList_clone 23 45 iM _ 3 16 Tryd.underlying23 HIM.out.1 HIM.out.2.1 HIM.out.2.2.1 HIM.out.2.2.2 rfl (by decide) rfl _ _ rfl (W.heap.size + 1 + 1) (W.heap.size + 1 + 1) rfl (by simpa using HC1.out.1) (Nat.le_refl _) am nm cm (cellsMx p.ms) rfl HC1.out.2.2.2 HC1.out.2.1 (cellsMx_one _) HC1.out.2.2.1 (by unfold maxLen; omega) (by omega) ?_; refine Hid.out ?_)
  refine Lib.hid ?_
  intro v4 w4 ho4 q4
  have hA4 : OwnMx w4 (W.heap.size + 1 + 1) v4 p.ms := by unfold OwnMx; rw [← HX.out.2.1]; exact ho4
  replace q4 : Below (((W.alloc (.cells #[.int .u8 p.k, .int .u16 p.f, .int .u16 p.a, .int .i64 p.q, .slice am nm cm, .slice ae ne ce] 26)).alloc (.cells #[.int .u8 0, .int .u16 0, .int .u16 0, .int .i64 0, .slice none 0 0, .slice none 0 0] 26)).alloc (.cells #[] 45)).heap.size (((W.alloc (.cells #[.int .u8 p.k, .int .u16 p.f, .int .u16 p.a, .int .i64 p.q, .slice am nm cm, .slice ae ne ce] 26)).alloc (.cells #[.int .u8 0, .int .u16 0, .int .u16 0, .int .i64 0, .slice none 0 0, .slice none 0 0] 26)).alloc (.cells #[] 45)) w4 := by simpa using q4
  obtain ⟨bm, c1, e4, -, -, -⟩ := hA4.form
  rw [← HX.out.2.1] at e4
  subst e4
  obtain ⟨b3, b2, e3, -⟩ := HZ.out
  have b4 := b3.on q4
  have r4 := b2.on q4
  have e4 := e3.trans (q4.mono e3.size)
  have y4 := b4.c4; have f4 := b4.f 4
  have lt4 := b4.lt
  have lr4 := r4.lt
  have b5 := b4.set4 bm nm c1
  have r5 := r4.other (p := ⟨W.heap.size, 4, none⟩) (by show W.heap.size + 1 ≠ W.heap.size; omega) (.slice bm nm c1)
  have e5 := e4.setCell (p := ⟨W.heap.size, 4, none⟩) (Nat.le_refl _) (.slice bm nm c1)
  have m5 := hA4.turn (grownBy_setCell w4 W.heap.size 4 (.slice bm nm c1)) (by omega)
  have d6 := (Below.refl (w4.setCell ⟨W.heap.size, 4, none⟩ (.slice bm nm c1)).heap.size (w4.setCell ⟨W.heap.size, 4, none⟩ (.slice bm nm c1))).alloc (Nat.le_refl _) (.cells #[] 48)
  have g6' := newE (w4.setCell ⟨W.heap.size, 4, none⟩ (.slice bm nm c1)) (.cells #[] 48)
  have hsz6 : (w4.setCell ⟨W.heap.size, 4, none⟩ (.slice bm nm c1)).heap.size = w4.heap.size := by simp
  have g6 : ((w4.setCell ⟨W.heap.size, 4, none⟩ (.slice bm nm c1)).alloc (.cells #[] 48)).heap[w4.heap.size]? = some (.cells #[] 48 (0, 0)) := by rw [hsz6] at g6'; exact g6'
  clear g6' hsz6
  have b6 := b5.on d6
  have r6 := r5.on d6
  have e6 := e5.trans (d6.mono e5.size)
  have m6 := m5.on d6
  have x5 := b6.c5
  have hz6 : W.heap.size + 1 + 1 ≤ w4.heap.size := by omega
  have HC2 := Lib.hid (And.intro g6 (And.intro (newsEx (HX.out.2.2.2.belowP e6 (Nat.le_refl _))) (And.intro HX.out.1 (show (cellsEx p.es).length = ne * 5 by rw [cellsEx_len, HX.out.2.2.1]))))
  have HZ6 := Lib.hid (And.intro b6 (And.intro r6 (And.intro e6 (And.intro m6 hz6))))
  clear x4 HC1 HZ b3 b2 e3 b4 r4 e4 b5 r5 e5 m5 d6 g6 b6 r6 e6 m6 ho4 q4 hA4 hz6
  go_wp2_with (at_builtin; refine wpList_clone 24 48 iE _ 5 56 Tryd.underlying24 HIE.out.1 HIE.out.2.1 HIE.out.2.2.1 HIE.out.2.2.2 rfl (by decide) rfl _ _ rfl (W.heap.size + 1 + 1) w4.heap.size rfl HC2.out.1 HZ6.out.2.2.2.2 ae ne ce (cellsEx p.es) rfl HC2.out.2.2.2 HC2.out.2.1 (cellsEx_one _) HC2.out.2.2.1 (by unfold maxLen; omega) (by omega) ?_; refine Hid.out ?_)
  refine Lib.hid ?_
  intro v7 w7 ho7 q7
  have hA7 : OwnEx w7 (W.heap.size + 1 + 1) v7 p.es := by unfold OwnEx; rw [← HX.out.2.2.1]; exact ho7
  replace q7 : Below ((w4.setCell ⟨W.heap.size, 4, none⟩ (.slice bm nm c1)).alloc (.cells #[] 48)).heap.size ((w4.setCell ⟨W.heap.size, 4, none⟩ (.slice bm nm c1)).alloc (.cells #[] 48)) w7 := by simpa using q7
  obtain ⟨be, c2, e7, -, -, -⟩ := hA7.form
  rw [← HX.out.2.2.1] at e7
  subst e7
  obtain ⟨b6, r6, e6, m6, -⟩ := HZ6.out
  have b7 := b6.on q7
  have r7 := r6.on q7
  have e7 := e6.trans (q7.mono e6.size)
  have m7 := m6.on q7
  clear y4 f4 lt4 lr4 x5
  have y5 := b7.c5; have f5 := b7.f 5
  have lt7 := b7.lt
  have lr7 := r7.lt
  have b8 := b7.set5 be ne c2
  have r8 := r7.other (p := ⟨W.heap.size, 5, none⟩) (by show W.heap.size + 1 ≠ W.heap.size; omega) (.slice be ne c2)
  have e8 := e7.setCell (p := ⟨W.heap.size, 5, none⟩) (Nat.le_refl _) (.slice be ne c2)
  have m8 := m7.turn (grownBy_setCell w7 W.heap.size 5 (.slice be ne c2)) (by omega)
  have n8 := hA7.turn (grownBy_setCell w7 W.heap.size 5 (.slice be ne c2)) (by omega)
  have x0 := b8.c0; have x1 := b8.c1; have x2 := b8.c2; have x3 := b8.c3; have x4 := b8.c4; have x5 := b8.c5
  have z0 := r8.c0; have z1 := r8.c1; have z2 := r8.c2; have z3 := r8.c3; have z4 := r8.c4; have z5 := r8.c5
  have v0 := r8.f 0; have v1 := r8.f 1; have v2 := r8.f 2; have v3 := r8.f 3; have v4 := r8.f 4; have v5 := r8.f 5
  have HF := Lib.hid (r8.store p.k p.f p.a p.q bm nm c1 be ne c2)
  have stg : ∀ (V : World) (r : Nat), V.grownBy (stP V r p.k p.f p.a p.q bm nm c1 be ne c2) (some r) := fun V r => grownBy_trans (grownBy_trans (grownBy_trans (grownBy_trans (grownBy_trans (grownBy_setCell V r _ _) (grownBy_setCell _ r _ _)) (grownBy_setCell _ r _ _)) (grownBy_setCell _ r _ _)) (grownBy_setCell _ r _ _)) (grownBy_setCell _ r _ _)
  have HQ := Lib.hid (And.intro ((m8.turn (stg _ (W.heap.size + 1)) (by omega)).base (show W.heap.size ≤ W.heap.size + 1 + 1 by omega)) (And.intro ((n8.turn (stg _ (W.heap.size + 1)) (by omega)).base (show W.heap.size ≤ W.heap.size + 1 + 1 by omega)) (stP_below e8 (show W.heap.size ≤ W.heap.size + 1 by omega) p.k p.f p.a p.q bm nm c1 be ne c2)))
  clear stg HC2 HZ6 b6 r6 e6 m6 b7 r7 e7 m7 b8 r8 e8 m8 n8 ho7 q7 hA7
  go_wp2
  unfold stP at HF HQ
  generalize ((((((w7.setCell ⟨W.heap.size, 5, none⟩ (.slice be ne c2)).setCell ⟨W.heap.size + 1, 0, none⟩ (.int .u8 p.k)).setCell ⟨W.heap.size + 1, 1, none⟩ (.int .u16 p.f)).setCell ⟨W.heap.size + 1, 2, none⟩ (.int .u16 p.a)).setCell ⟨W.heap.size + 1, 3, none⟩ (.int .i64 p.q)).setCell ⟨W.heap.size + 1, 4, none⟩ (.slice bm nm c1)).setCell ⟨W.heap.size + 1, 5, none⟩ (.slice be ne c2) = wF at *
  have t0 := HF.out.c0; have t1 := HF.out.c1; have t2 := HF.out.c2; have t3 := HF.out.c3; have t4 := HF.out.c4; have t5 := HF.out.c5
  refine bodyPost_ret (v := .agg #[.int .u8 p.k, .int .u16 p.f, .int .u16 p.a, .int .i64 p.q, .slice bm nm c1, .slice be ne c2]) (by simp [results, Tryd.results10, go_sem, t0, t1, t2, t3, t4, t5]) rfl ?_
  exact ⟨bm, c1, be, c2, rfl, HQ.out.1, HQ.out.2.1, HQ.out.2.2⟩

end Go.Proofs.YtchhdffehkcecaaDoor
