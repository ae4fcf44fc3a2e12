/-
  The reference's Copy.
-/
import Derived.Test.YthaimnmbcbhioaaDoorRCopy0
import Derived.Test.YthaimnmbcbhioaaDoorRLight
namespace Go.Proofs.YthaimnmbcbhioaaDoor
open Go.RowKit

/-- A route, a rule, without where its lists lie. -/
def nrm (r : Rt) : Rt := { r with ma := none, mc := 0, ba := none, bc := 0 }
def nrmL (r : Rl) : Rl := { r with sa := none, sc := 0, ta := none, tc := 0, ea := none, ec := 0 }
/-- An address lies in the call's own memory, and not in a row. -/
def Apart (w : World) (B : Nat) (row : Option Nat) (a : Option Addr) : Prop := ∀ ad, a = some ad → B ≤ ad.block ∧ ad.block < w.heap.size ∧ row ≠ some ad.block
theorem Apart.grown {w w' : World} {B : Nat} {row row' : Option Nat} {a : Option Addr} (h : Apart w B row a) (hg : w.grownBy w' row) (hr : row' = row ∨ row' = some w.heap.size) : Apart w' B row' a := fun ad e => by
  obtain ⟨h1, h2, h3⟩ := h ad e
  refine ⟨h1, Nat.lt_of_lt_of_le h2 hg.size, ?_⟩
  rcases hr with rfl | rfl
  · exact h3
  · intro h; injection h with h; omega
theorem MtsAt.grown {w w' : World} {B : Nat} {row : Option Nat} {a : Option Addr} {ms : List Mt} (h : MtsAt w a ms) (hg : w.grownBy w' row) (ha : Apart w B row a) : MtsAt w' a ms := fun hn => by
  obtain ⟨b, o, rfl, hbl, hc⟩ := h hn
  obtain ⟨-, -, h3⟩ := ha _ rfl
  have hb := hg.block b hbl (fun e => h3 e.symm)
  refine ⟨b, o, rfl, Nat.lt_of_lt_of_le hbl hg.size, fun i hi => ?_⟩
  have := fun p : Nat => World.cell?_of_block (w := w) (w' := w') (a := ⟨b, p, none⟩) hb
  simp only [this]
  exact hc i hi
theorem StrsAt.grown {w w' : World} {B : Nat} {row : Option Nat} {a : Option Addr} {l : List ByteArray} (h : StrsAt w a l) (hg : w.grownBy w' row) (ha : Apart w B row a) : StrsAt w' a l := fun hn => by
  obtain ⟨b, o, rfl, hbl, hc⟩ := h hn
  obtain ⟨-, -, h3⟩ := ha _ rfl
  have hb := hg.block b hbl (fun e => h3 e.symm)
  refine ⟨b, o, rfl, Nat.lt_of_lt_of_le hbl hg.size, fun i hi => ?_⟩
  have := fun p : Nat => World.cell?_of_block (w := w) (w' := w') (a := ⟨b, p, none⟩) hb
  simp only [this]
  exact hc i hi
/-- A route's lists lie in the call's own memory. -/
def OwnLists (w : World) (B : Nat) (row : Option Nat) (r : Rt) : Prop := (MtsAt w r.ma r.ms ∧ (r.ma = none → r.mc = 0) ∧ Apart w B row r.ma) ∧ StrsAt w r.ba r.bys ∧ r.bys.length ≤ r.bc ∧ (r.ba = none → r.bc = 0) ∧ Apart w B row r.ba
theorem OwnLists.grown {w w' : World} {B : Nat} {row row' : Option Nat} {r : Rt} (h : OwnLists w B row r) (hg : w.grownBy w' row) (hr : row' = row ∨ row' = some w.heap.size) : OwnLists w' B row' r :=
  ⟨⟨h.1.1.grown hg h.1.2.2, h.1.2.1, h.1.2.2.grown hg hr⟩, h.2.1.grown hg h.2.2.2.2, h.2.2.1, h.2.2.2.1, h.2.2.2.2.grown hg hr⟩
/-- Routes of the call's own, as others are. -/
def CopyR (w : World) (B : Nat) (v : Value) (l l' : List Rt) : Prop := l'.map nrm = l.map nrm ∧ w.ownsRow B 33 8 v l'.length (l'.flatMap encR) ∧ ∀ r ∈ l', OwnLists w B v.ownBlock r
theorem copyR_push {w w' : World} {B : Nat} {v v' : Value} {l l' : List Rt} {k : Nat} {r' : Rt} (h : CopyR w B v (l.take k) l') (hk : k < l.length) (hn : nrm r' = nrm l[k]) (hr : OwnLists w B v.ownBlock r') (hg : w.grownBy w' v.ownBlock)
    (ho : w'.ownsRow B 33 8 v' (l'.length + 1) (l'.flatMap encR ++ encR r')) (hat : v'.ownBlock = v.ownBlock ∨ v'.ownBlock = some w.heap.size) : CopyR w' B v' (l.take (k + 1)) (l' ++ [r']) := by
  refine ⟨?_, ?_, fun r hr' => ?_⟩
  · rw [List.map_append, h.1, List.take_succ_eq_append_getElem hk, List.map_append]
    simp [hn]
  · rw [List.length_append, List.flatMap_append]
    simpa using ho
  · rcases List.mem_append.1 hr' with h1 | h1
    · exact (h.2.2 r h1).grown hg hat
    · rw [List.mem_singleton.1 h1]
      exact hr.grown hg hat
theorem CopyR.grown {w w' : World} {B : Nat} {v : Value} {l l' : List Rt} {row : Option Nat} (h : CopyR w B v l l') (hg : w.grownBy w' row) (hr : ∀ k, row = some k → k < B) : CopyR w' B v l l' := by
  have hne : ∀ k, B ≤ k → row ≠ some k := fun k hk e => by have := hr k e; omega
  have hA : ∀ a, Apart w B v.ownBlock a → Apart w B row a := fun a ha ad e => ⟨(ha ad e).1, (ha ad e).2.1, hne _ (ha ad e).1⟩
  have hB : ∀ a, Apart w B v.ownBlock a → Apart w' B v.ownBlock a := fun a ha ad e => ⟨(ha ad e).1, Nat.lt_of_lt_of_le (ha ad e).2.1 hg.size, (ha ad e).2.2⟩
  refine ⟨h.1, h.2.1.kept hg ?_, fun r hr' => ?_⟩
  · cases hv : v.ownBlock with
    | none => exact .inl rfl
    | some k => exact .inr fun e => hne k (h.2.1.lt k hv).1 e.symm
  · obtain ⟨⟨h1, h2, h3⟩, h4, h5, h6, h7⟩ := h.2.2 r hr'
    exact ⟨⟨h1.grown hg (hA _ h3), h2, hB _ h3⟩, h4.grown hg (hA _ h7), h5, h6, hB _ h7⟩
theorem CopyR.below {w w' : World} {B : Nat} {v : Value} {l l' : List Rt} (h : CopyR w B v l l') (hb : Below w.heap.size w w') : CopyR w' B v l l' := h.grown (row := none) ⟨hb.os, hb.tape, hb.output, hb.size, fun k hk _ => hb.block k hk⟩ (fun k e => by cases e)

/-- A rule's lists lie in the call's own memory. -/
def OwnListsL (w : World) (B : Nat) (row : Option Nat) (r : Rl) : Prop := (MtsAt w r.sa r.src ∧ (r.sa = none → r.sc = 0) ∧ Apart w B row r.sa) ∧ (MtsAt w r.ta r.tgt ∧ (r.ta = none → r.tc = 0) ∧ Apart w B row r.ta) ∧ StrsAt w r.ea r.eqs ∧ r.eqs.length ≤ r.ec ∧ (r.ea = none → r.ec = 0) ∧ Apart w B row r.ea
theorem OwnListsL.grown {w w' : World} {B : Nat} {row row' : Option Nat} {r : Rl} (h : OwnListsL w B row r) (hg : w.grownBy w' row) (hr : row' = row ∨ row' = some w.heap.size) : OwnListsL w' B row' r :=
  ⟨⟨h.1.1.grown hg h.1.2.2, h.1.2.1, h.1.2.2.grown hg hr⟩, ⟨h.2.1.1.grown hg h.2.1.2.2, h.2.1.2.1, h.2.1.2.2.grown hg hr⟩, h.2.2.1.grown hg h.2.2.2.2.2, h.2.2.2.1, h.2.2.2.2.1, h.2.2.2.2.2.grown hg hr⟩
/-- Rules of the call's own, as others are. -/
def CopyL (w : World) (B : Nat) (v : Value) (l l' : List Rl) : Prop := l'.map nrmL = l.map nrmL ∧ w.ownsRow B 38 3 v l'.length (l'.flatMap encL) ∧ ∀ r ∈ l', OwnListsL w B v.ownBlock r
theorem copyL_push {w w' : World} {B : Nat} {v v' : Value} {l l' : List Rl} {k : Nat} {r' : Rl} (h : CopyL w B v (l.take k) l') (hk : k < l.length) (hn : nrmL r' = nrmL l[k]) (hr : OwnListsL w B v.ownBlock r') (hg : w.grownBy w' v.ownBlock)
    (ho : w'.ownsRow B 38 3 v' (l'.length + 1) (l'.flatMap encL ++ encL r')) (hat : v'.ownBlock = v.ownBlock ∨ v'.ownBlock = some w.heap.size) : CopyL w' B v' (l.take (k + 1)) (l' ++ [r']) := by
  refine ⟨?_, ?_, fun r hr' => ?_⟩
  · rw [List.map_append, h.1, List.take_succ_eq_append_getElem hk, List.map_append]
    simp [hn]
  · rw [List.length_append, List.flatMap_append]
    simpa using ho
  · rcases List.mem_append.1 hr' with h1 | h1
    · exact (h.2.2 r h1).grown hg hat
    · rw [List.mem_singleton.1 h1]
      exact hr.grown hg hat
theorem CopyL.grown {w w' : World} {B : Nat} {v : Value} {l l' : List Rl} {row : Option Nat} (h : CopyL w B v l l') (hg : w.grownBy w' row) (hr : ∀ k, row = some k → k < B) : CopyL w' B v l l' := by
  have hne : ∀ k, B ≤ k → row ≠ some k := fun k hk e => by have := hr k e; omega
  have hA : ∀ a, Apart w B v.ownBlock a → Apart w B row a := fun a ha ad e => ⟨(ha ad e).1, (ha ad e).2.1, hne _ (ha ad e).1⟩
  have hB : ∀ a, Apart w B v.ownBlock a → Apart w' B v.ownBlock a := fun a ha ad e => ⟨(ha ad e).1, Nat.lt_of_lt_of_le (ha ad e).2.1 hg.size, (ha ad e).2.2⟩
  refine ⟨h.1, h.2.1.kept hg ?_, fun r hr' => ?_⟩
  · cases hv : v.ownBlock with
    | none => exact .inl rfl
    | some k => exact .inr fun e => hne k (h.2.1.lt k hv).1 e.symm
  · obtain ⟨⟨h1, h2, h3⟩, ⟨j1, j2, j3⟩, h4, h5, h6, h7⟩ := h.2.2 r hr'
    exact ⟨⟨h1.grown hg (hA _ h3), h2, hB _ h3⟩, ⟨j1.grown hg (hA _ j3), j2, hB _ j3⟩, h4.grown hg (hA _ h7), h5, h6, hB _ h7⟩
theorem CopyL.below {w w' : World} {B : Nat} {v : Value} {l l' : List Rl} (h : CopyL w B v l l') (hb : Below w.heap.size w w') : CopyL w' B v l l' := h.grown (row := none) ⟨hb.os, hb.tape, hb.output, hb.size, fun k hk _ => hb.block k hk⟩ (fun k e => by cases e)
/-- A list that was made anew. -/
def LstM (w : World) (B : Nat) (a : Option Addr) (c : Nat) (ms : List Mt) : Prop := MtsAt w a ms ∧ (a = none → c = 0) ∧ ∀ ad, a = some ad → B ≤ ad.block ∧ ad.block < w.heap.size
def LstS (w : World) (B : Nat) (a : Option Addr) (c : Nat) (l : List ByteArray) : Prop := StrsAt w a l ∧ l.length ≤ c ∧ (a = none → c = 0) ∧ ∀ ad, a = some ad → B ≤ ad.block ∧ ad.block < w.heap.size
theorem LstM.below {w w' : World} {B : Nat} {a : Option Addr} {c : Nat} {ms : List Mt} (h : LstM w B a c ms) (hb : Below w.heap.size w w') : LstM w' B a c ms := ⟨h.1.below hb (Nat.le_refl _), h.2.1, fun ad e => ⟨(h.2.2 ad e).1, Nat.lt_of_lt_of_le (h.2.2 ad e).2 hb.size⟩⟩
theorem LstS.below {w w' : World} {B : Nat} {a : Option Addr} {c : Nat} {l : List ByteArray} (h : LstS w B a c l) (hb : Below w.heap.size w w') : LstS w' B a c l := ⟨h.1.below hb (Nat.le_refl _), h.2.1, h.2.2.1, fun ad e => ⟨(h.2.2.2 ad e).1, Nat.lt_of_lt_of_le (h.2.2.2 ad e).2 hb.size⟩⟩
theorem LstM.of {w : World} {B : Nat} {v : Value} {ms : List Mt} (h : w.ownsRow B 36 3 v ms.length (rowM ms)) : ∃ a c, v = .slice a ms.length c ∧ LstM w B a c ms := by
  obtain ⟨a, c, h1, h2, h3, h4⟩ := own_mts h
  exact ⟨a, c, h1, h2, h3, h4⟩
theorem LstS.of {w : World} {B : Nat} {v : Value} {l : List ByteArray} (h : w.ownsRow B 9 1 v l.length (l.map .string)) : ∃ a c, v = .slice a l.length c ∧ LstS w B a c l := by
  obtain ⟨a, c, h1, h2, h3, h4, h5⟩ := own_strs h
  exact ⟨a, c, h1, h2, h3, h4, h5⟩
/-- A block of no cells. -/
def Emp (w : World) (g : Nat) (t : TypeId) : Prop := w.heap[g]? = some (.cells #[] t (0, 0))
theorem Emp.below {w w' : World} {g : Nat} {t : TypeId} (h : Emp w g t) (hb : Below w.heap.size w w') : Emp w' g t := (hb.block g (lt_of_block h)).trans h
/-- A rule's block. -/
def RuBlk (w : World) (R : Nat) (r : Rl) : Prop := w.heap[R]? = some (.cells #[.slice r.sa r.src.length r.sc, .slice r.ta r.tgt.length r.tc, .slice r.ea r.eqs.length r.ec] 38 (0, 0))
theorem RuBlk.below {w w' : World} {R : Nat} {r : Rl} (h : RuBlk w R r) (hb : Below w.heap.size w w') : RuBlk w' R r := (hb.block R (lt_of_block h)).trans h
theorem encL_one {r : Rl} : ∀ u ∈ encL r, u.oneCell' = true := fun u h => by
  simp only [encL, List.mem_cons, List.not_mem_nil, or_false] at h
  rcases h with rfl | rfl | rfl <;> rfl
/-- append at a step of a region that draws. -/
theorem step_own_at {w : World} {ops : Array Oper} {o : Oper} {act : Act} {K : Act → World → Prop} {Q : Exit → Act → World → Prop} {E : Prop} (hgd : o.guard = none) (s x : Operand) (t : TypeId) (ho : o.op = .call { callee := .builtin .append, args := #[s, x], argTypes := #[t, t] })
    (base : Nat) (e : TypeId) (i : TypeInfo) (z : Value) (size bytes : Nat) (ht : Tryd.prog.underlying t = some (.slice e)) (hi : Tryd.prog.info? e = some i) (hz : i.zero = some z) (hsize : i.size = size) (hby : i.bytes = bytes) (hzs : z.cells.size = size) (hsz : 0 < size)
    (v : Value) (n : Nat) (xs : List Value) (hs : act.eval s = v) (hown : w.ownsRow base e size v n xs) (ad : Addr) (m c : Nat) (news : List Value) (hx : act.eval x = .slice (some ad) m c) (hl : news.length = m * size) (hnews : ∀ j u, news[j]? = some u → w.cell? (ad.add j) = some u) (h1 : ∀ u ∈ news, u.oneCell' = true)
    (h63 : n + m ≤ maxLen) (hbytes : (n + m) * bytes ≤ 140737488355328) (hbase : base ≤ w.heap.size)
    (h : ∀ v' w', w'.ownsRow base e size v' (n + m) (xs ++ news) → w.grownBy w' v.ownBlock → (v'.ownBlock = v.ownBlock ∨ v'.ownBlock = some w.heap.size) → K (act.put o.dst v') w') :
    if Region.wanted o (yielded ops act.tmps) = true then Oper.wp Tryd.prog o act w K Q else E := by
  have hw : Region.wanted o (yielded ops act.tmps) = true := by simp [Region.wanted, hgd]
  rw [if_pos hw]
  obtain ⟨v', w', hr, h2, h3, -, h5⟩ := run_append_own_at (P := Tryd.prog) w base t o.type e i z size bytes ht hi hz hsize hby hzs hsz v n xs hown ad m c news hl hnews h1 h63 hbytes hbase
  unfold Oper.wp execOp
  simp only [ho, resolve, invoke, builtin, Sem.run_bind, Sem.run_pure, Result.andThen_ok, List.map_toArray, List.map_cons, List.map_nil, hs, hx, hr]
  exact h v' w' h2 h3 h5

/-- A configuration's block. -/
def XBlk (w : World) (X : Nat) (v1 v2 : Value) (pt rs : Int) : Prop := w.heap[X]? = some (.cells #[v1, v2, .int .i64 pt, .int .i64 rs] 25 (0, 0))
theorem XBlk.below {w w' : World} {X : Nat} {v1 v2 : Value} {pt rs : Int} (h : XBlk w X v1 v2 pt rs) (hb : Below w.heap.size w w') : XBlk w' X v1 v2 pt rs := (hb.block X (lt_of_block h)).trans h
/-- A route's block. -/
def RtBlk (w : World) (R : Nat) (v1 v3 : Value) (r : Rt) : Prop := w.heap[R]? = some (.cells #[.int .i64 r.par, v1, .bool r.co, v3, .string r.rc, .int .i64 r.wt, .int .i64 r.iv, .int .i64 r.rp] 33 (0, 0))
theorem RtBlk.below {w w' : World} {R : Nat} {v1 v3 : Value} {r : Rt} (h : RtBlk w R v1 v3 r) (hb : Below w.heap.size w w') : RtBlk w' R v1 v3 r := (hb.block R (lt_of_block h)).trans h
theorem RtBlk.set1 {w : World} {R : Nat} {v1 v3 x : Value} {r : Rt} (h : RtBlk w R v1 v3 r) : RtBlk (w.setCell ⟨R, 1, none⟩ x) R x v3 r := by
  unfold RtBlk at h ⊢
  simp [World.setCell, Array.getElem?_modify, h]
theorem RtBlk.set3 {w : World} {R : Nat} {v1 v3 x : Value} {r : Rt} (h : RtBlk w R v1 v3 r) : RtBlk (w.setCell ⟨R, 3, none⟩ x) R v1 x r := by
  unfold RtBlk at h ⊢
  simp [World.setCell, Array.getElem?_modify, h]
theorem XBlk.set0 {w : World} {X : Nat} {v1 v2 x : Value} {pt rs : Int} (h : XBlk w X v1 v2 pt rs) : XBlk (w.setCell ⟨X, 0, none⟩ x) X x v2 pt rs := by
  unfold XBlk at h ⊢
  simp [World.setCell, Array.getElem?_modify, h]
theorem XBlk.set1 {w : World} {X : Nat} {v1 v2 x : Value} {pt rs : Int} (h : XBlk w X v1 v2 pt rs) : XBlk (w.setCell ⟨X, 1, none⟩ x) X v1 x pt rs := by
  unfold XBlk at h ⊢
  simp [World.setCell, Array.getElem?_modify, h]
theorem grown_set (w : World) (p : Addr) (v : Value) : w.grownBy (w.setCell p v) (some p.block) := ⟨rfl, rfl, rfl, by simp [World.setCell], fun k hk hne => Below.heap_setCell w p v k (fun e => hne (by rw [e]))⟩
theorem size_set (w : World) (p : Addr) (v : Value) : (w.setCell p v).heap.size = w.heap.size := by simp [World.setCell]
theorem frozen_of {w : World} {g j : Nat} {cs : Array Value} {t : TypeId} (h : w.heap[g]? = some (.cells cs t (0, 0))) : w.frozen? ⟨g, j, none⟩ = false := by simp [World.frozen?, h]
theorem info_cut {α β γ δ : Type} {o : Option α} {f : α → Option β} {g : α → γ} {h : α → δ} {z : β} {x : γ} {y : δ} (e : o.map (fun i => (f i, g i, h i)) = some (some z, x, y)) : ∃ i, o = some i ∧ f i = some z ∧ g i = x ∧ h i = y := by
  cases o with
  | none => cases e
  | some i =>
    simp only [Option.map_some, Option.some.injEq, Prod.mk.injEq] at e
    exact ⟨i, rfl, e.1, e.2.1, e.2.2⟩
theorem encR_one {r : Rt} : ∀ u ∈ encR r, u.oneCell' = true := fun u h => by
  simp only [encR, List.mem_cons, List.not_mem_nil, or_false] at h
  rcases h with rfl | rfl | rfl | rfl | rfl | rfl | rfl | rfl <;> rfl
theorem cells_of_blk {w : World} {g : Nat} {cs : Array Value} {t : TypeId} {fr : Nat × Nat} (h : w.heap[g]? = some (.cells cs t fr)) : ∀ j u, cs.toList[j]? = some u → w.cell? ((⟨g, 0, none⟩ : Addr).add j) = some u := fun j u hj => by
  rw [Go.WideShapes.add_plain, cell_heap h, Nat.zero_add, ← Array.getElem?_toList]
  exact hj

/-- A configuration's lists, copied. -/
def Copied (w' : World) (B : Nat) (l : List Rt) (ls : List Rl) (v1 v2 : Value) : Prop := ∃ (l' : List Rt) (ls' : List Rl) (S : Nat), CopyR w' B v1 l l' ∧ B ≤ S ∧ (∀ j, v1.ownBlock = some j → j < S) ∧ CopyL w' S v2 ls ls'
/-- A rule more in the copy. -/
theorem rule_end {wS wr p8 p9 : World} {X k : Nat} {v1 v2 v9 : Value} {pt rs : Int} {ls ls' : List Rl} {r' : Rl} (hG : wS.grownBy wr (some X)) (hXS : X < wS.heap.size) (hC : CopyL wr wS.heap.size v2 (ls.take k) ls') (hk : k < ls.length) (hn : nrmL r' = nrmL ls[k])
    (hf : Below wr.heap.size wr p8) (h1 : LstM p8 (wr.heap.size + 1) r'.sa r'.sc r'.src) (h2 : LstM p8 (wr.heap.size + 1) r'.ta r'.tc r'.tgt) (h3 : LstS p8 (wr.heap.size + 1) r'.ea r'.ec r'.eqs)
    (ho : p9.ownsRow wS.heap.size 38 3 v9 (ls'.length + 1) (ls'.flatMap encL ++ encL r')) (hg : p8.grownBy p9 v2.ownBlock) (hat : v9.ownBlock = v2.ownBlock ∨ v9.ownBlock = some p8.heap.size) (hX : XBlk p9 X v1 v2 pt rs) :
    wS.grownBy (p9.setCell ⟨X, 1, none⟩ v9) (some X) ∧ XBlk (p9.setCell ⟨X, 1, none⟩ v9) X v1 v9 pt rs ∧ CopyL (p9.setCell ⟨X, 1, none⟩ v9) wS.heap.size v9 (ls.take (k + 1)) (ls' ++ [r']) := by
  have hv : ∀ j, v2.ownBlock = some j → wS.heap.size ≤ j ∧ j < wr.heap.size := fun j hj => hC.2.1.lt j hj
  have hap : ∀ q : Option Addr, (∀ ad, q = some ad → wr.heap.size + 1 ≤ ad.block ∧ ad.block < p8.heap.size) → Apart p8 wS.heap.size v2.ownBlock q := fun q h ad e => ⟨by have := (h ad e).1; have := hG.size; omega, (h ad e).2, fun e' => by have := (hv _ e').2; have := (h ad e).1; omega⟩
  have hol : OwnListsL p8 wS.heap.size v2.ownBlock r' := ⟨⟨h1.1, h1.2.1, hap _ h1.2.2⟩, ⟨h2.1, h2.2.1, hap _ h2.2.2⟩, h3.1, h3.2.1, h3.2.2.1, hap _ h3.2.2.2⟩
  have cp := copyL_push (hC.below hf) hk hn hol hg ho hat
  have gs := grown_set p9 ⟨X, 1, none⟩ v9
  refine ⟨⟨gs.os.trans (hg.os.trans (hf.os.trans hG.os)), gs.tape.trans (hg.tape.trans (hf.tape.trans hG.tape)), gs.output.trans (hg.output.trans (hf.output.trans hG.output)), Nat.le_trans hG.size (Nat.le_trans hf.size (Nat.le_trans hg.size gs.size)), fun j hj hne => ?_⟩, hX.set1, cp.grown gs (fun j hj => by injection hj with hj; simp only at hj; omega)⟩
  have h0 := hG.size
  have h8 := hf.size
  rw [gs.block j (by have := hg.size; omega) hne, hg.block j (by omega) (fun e => by have := (hv j e.symm).1; omega), hf.block j (by omega), hG.block j hj hne]

set_option maxRecDepth 20000 in
set_option maxHeartbeats 8000000 in
theorem uCopy_any (a : Option Addr) (c : Nat) (l : List Rt) (b : Option Addr) (d : Nat) (ls : List Rl) (pt rs : Int) (w : World) (hl : RtsAt w a l) (hls : RlsAt w b ls) (hLi : LightC l ls) (hz : ∀ r ∈ l, (r.ma = none → r.mc = 0) ∧ (r.ba = none → r.bc = 0)) (hzl : ∀ r ∈ ls, (r.sa = none → r.sc = 0) ∧ (r.ta = none → r.tc = 0) ∧ (r.ea = none → r.ec = 0)) :
    Calls Tryd.prog 11 #[.agg #[.slice a l.length c, .slice b ls.length d, .int .i64 pt, .int .i64 rs]] w fun e w' => (∃ v1 v2, e = .returned (.agg #[v1, v2, .int .i64 pt, .int .i64 rs]) ∧ Copied w' (w.heap.size + 1 + 1 + 1) l ls v1 v2) ∧ Below w.heap.size w w' := by
  obtain ⟨im, hm, hm0, hm1, hm2⟩ := info_cut infoMt
  obtain ⟨is, hs, hs0, hs1, hs2⟩ := info_cut infoSt
  obtain ⟨ir, hr, hr0, hr1, hr2⟩ := info_cut infoRt
  have kM : maxLen = 9223372036854775807 := rfl
  obtain ⟨hl20, hls12, HLr, HLs⟩ := hLi
  have HLr := Lib.hid HLr
  have HLs := Lib.hid HLs
  have HL := Lib.hid hl
  have HLS := Lib.hid hls
  have HZ := Lib.hid hz
  have HZL := Lib.hid hzl
  obtain ⟨il, hil, hil0, hil1, hil2⟩ := info_cut infoRl
  obtain ⟨w1, hw1⟩ : ∃ x, x = w.alloc (.cells #[.slice a l.length c, .slice b ls.length d, .int .i64 pt, .int .i64 rs] 25) := ⟨_, rfl⟩
  obtain ⟨w2, hw2⟩ : ∃ x, x = w1.alloc (.cells #[.slice none 0 0, .slice none 0 0, .int .i64 0, .int .i64 0] 25) := ⟨_, rfl⟩
  obtain ⟨w3, hw3⟩ : ∃ x, x = w2.alloc (.cells #[.slice none 0 0, .slice none 0 0, .int .i64 pt, .int .i64 rs] 25) := ⟨_, rfl⟩
  have s1 : w1.heap.size = w.heap.size + 1 := by rw [hw1]; simp
  have s2 : w2.heap.size = w.heap.size + 1 + 1 := by rw [hw2]; simp [s1]
  have s3 : w3.heap.size = w.heap.size + 1 + 1 + 1 := by rw [hw3]; simp [s2]
  have d1 : Below w.heap.size w w1 := by rw [hw1]; exact (Below.refl w.heap.size w).alloc (Nat.le_refl _) _
  have d2 : Below w1.heap.size w1 w2 := by rw [hw2]; exact (Below.refl w1.heap.size w1).alloc (Nat.le_refl _) _
  have d3 : Below w2.heap.size w2 w3 := by rw [hw3]; exact (Below.refl w2.heap.size w2).alloc (Nat.le_refl _) _
  have k1 : CfBlk w1 w.heap.size a l.length c b ls.length d pt rs := by rw [hw1]; exact heap_new w _
  have k2 : XBlk w2 (w.heap.size + 1) (.slice none 0 0) (.slice none 0 0) 0 0 := by rw [hw2, ← s1]; exact heap_new w1 _
  have k3 : XBlk w3 (w.heap.size + 1 + 1) (.slice none 0 0) (.slice none 0 0) pt rs := by rw [hw3, ← s2]; exact heap_new w2 _
  have d23 := d2.trans (d3.mono d2.size)
  have HB0 := Lib.hid (d1.trans (d23.mono d1.size))
  have HC0 := Lib.hid (k1.below d23)
  have HD0 := Lib.hid (k2.below d3)
  have HX0 := Lib.hid k3
  have HCp0 : Hid (CopyR w3 (w.heap.size + 1 + 1 + 1) (.slice none 0 0) (l.take 0) []) := Lib.hid ⟨by simp, World.ownsRow_nil _ _ _ _, fun r hr => by cases hr⟩
  clear d1 d2 d3 d23 k1 k2 k3 s1 s2 hl hls hz hzl
  subst hw3
  subst hw2
  subst hw1
  go_enter Tryd.func11, Tryd.ntmps11
  go_wp2
  go_loopw [4] (fun i wr => ∃ (k : Nat) (v1 : Value) (l' : List Rt), k ≤ l.length ∧ i = .int .i64 k ∧ Hid (Below w.heap.size w wr) ∧ Hid (CfBlk wr w.heap.size a l.length c b ls.length d pt rs) ∧ Hid (XBlk wr (w.heap.size + 1) (.slice none 0 0) (.slice none 0 0) 0 0) ∧ Hid (XBlk wr (w.heap.size + 1 + 1) v1 (.slice none 0 0) pt rs) ∧ Hid (CopyR wr (w.heap.size + 1 + 1 + 1) v1 (l.take k) l')) (fun i _ => l.length - (intOf i).toNat)
  case atStart => exact ⟨0, .slice none 0 0, [], Nat.zero_le _, rfl, HB0, HC0, HD0, HX0, HCp0⟩
  case round =>
    clear HB0 HC0 HD0 HX0 HCp0
    obtain ⟨k, v1, l', hk, rfl, HB, HC, HD, HX, HCp⟩ := hrel
    have cc0 : wr.cell? ⟨w.heap.size, 0, none⟩ = some (.slice a l.length c) := cell_heap HC.out
    by_cases hlt : k < l.length
    · have hkl : (k : Int) < (l.length : Int) := by omega
      obtain ⟨rb, ro, rfl, hrb, hrr⟩ := HL.out (by omega)
      obtain ⟨hr1', hmt, hst⟩ := hrr k hlt
      obtain ⟨hln1, hln2⟩ := HLr.out k hlt
      obtain ⟨hz1, hz2⟩ := HZ.out _ (List.getElem_mem hlt)
      have HNr : Hid (∃ r, r = l[k]) := Lib.hid ⟨_, rfl⟩
      obtain ⟨r, her⟩ := HNr.out
      rw [← her] at hr1' hmt hst hln1 hln2 hz1 hz2
      have HEr := Lib.hid her
      clear her HNr hrr
      have e0 : wr.cell? ⟨rb, ro + k * 8, none⟩ = some (.int .i64 r.par) := (HB.out.cell (p := ⟨rb, ro + k * 8, none⟩) hrb).trans (hr1' 0 _ rfl)
      have e1 : wr.cell? ⟨rb, ro + k * 8 + 1, none⟩ = some (.slice r.ma r.ms.length r.mc) := (HB.out.cell (p := ⟨rb, ro + k * 8 + 1, none⟩) hrb).trans (hr1' 1 _ rfl)
      have e2 : wr.cell? ⟨rb, ro + k * 8 + 2, none⟩ = some (.bool r.co) := (HB.out.cell (p := ⟨rb, ro + k * 8 + 2, none⟩) hrb).trans (hr1' 2 _ rfl)
      have e3 : wr.cell? ⟨rb, ro + k * 8 + 3, none⟩ = some (.slice r.ba r.bys.length r.bc) := (HB.out.cell (p := ⟨rb, ro + k * 8 + 3, none⟩) hrb).trans (hr1' 3 _ rfl)
      have e4 : wr.cell? ⟨rb, ro + k * 8 + 4, none⟩ = some (.string r.rc) := (HB.out.cell (p := ⟨rb, ro + k * 8 + 4, none⟩) hrb).trans (hr1' 4 _ rfl)
      have e5 : wr.cell? ⟨rb, ro + k * 8 + 5, none⟩ = some (.int .i64 r.wt) := (HB.out.cell (p := ⟨rb, ro + k * 8 + 5, none⟩) hrb).trans (hr1' 5 _ rfl)
      have e6 : wr.cell? ⟨rb, ro + k * 8 + 6, none⟩ = some (.int .i64 r.iv) := (HB.out.cell (p := ⟨rb, ro + k * 8 + 6, none⟩) hrb).trans (hr1' 6 _ rfl)
      have e7 : wr.cell? ⟨rb, ro + k * 8 + 7, none⟩ = some (.int .i64 r.rp) := (HB.out.cell (p := ⟨rb, ro + k * 8 + 7, none⟩) hrb).trans (hr1' 7 _ rfl)
      have HMt := Lib.hid (hmt.below HB.out (Nat.le_refl _))
      have HSt := Lib.hid (hst.below HB.out (Nat.le_refl _))
      have HZ1 := Lib.hid hz1
      have HZ2 := Lib.hid hz2
      clear hr1' hmt hst hz1 hz2
      obtain ⟨u1, hu1⟩ : ∃ x, x = wr.alloc (.cells #[.int .i64 r.par, .slice r.ma r.ms.length r.mc, .bool r.co, .slice r.ba r.bys.length r.bc, .string r.rc, .int .i64 r.wt, .int .i64 r.iv, .int .i64 r.rp] 33) := ⟨_, rfl⟩
      obtain ⟨u2, hu2⟩ : ∃ x, x = u1.alloc (.cells #[] 36) := ⟨_, rfl⟩
      have t1 : u1.heap.size = wr.heap.size + 1 := by rw [hu1]; simp
      have t2 : u2.heap.size = wr.heap.size + 1 + 1 := by rw [hu2]; simp [t1]
      have f1 : Below wr.heap.size wr u1 := by rw [hu1]; exact (Below.refl wr.heap.size wr).alloc (Nat.le_refl _) _
      have f2 : Below u1.heap.size u1 u2 := by rw [hu2]; exact (Below.refl u1.heap.size u1).alloc (Nat.le_refl _) _
      have b1 : RtBlk u1 wr.heap.size (.slice r.ma r.ms.length r.mc) (.slice r.ba r.bys.length r.bc) r := by rw [hu1]; exact heap_new wr _
      have b2 := b1.below f2
      have g2 : u2.heap[wr.heap.size + 1]? = some (.cells #[] 36 (0, 0)) := by rw [hu2, ← t1]; exact heap_new u1 _
      have f12 := f1.trans (f2.mono f1.size)
      have hXlt := lt_of_block HX.out
      have HBr2 := Lib.hid b2
      have HG2 := Lib.hid g2
      have HF2 := Lib.hid f12
      have HM2 := Lib.hid (HMt.out.below f12 (Nat.le_refl _))
      have HNl : Hid (r.ma = none → r.ms.length = 0 ∧ r.mc = 0) := Lib.hid fun e => ⟨by
        by_cases h0 : 0 < r.ms.length
        · obtain ⟨b, o, e', -⟩ := HMt.out h0
          rw [e] at e'; cases e'
        · omega, HZ1.out e⟩
      have HT2 := Lib.hid t2
      have cr1 : u2.cell? ⟨wr.heap.size, 1, none⟩ = some (.slice r.ma r.ms.length r.mc) := cell_heap b2
      clear t1 f1 f2 b1 b2 g2 f12
      subst hu2
      subst hu1
      go_wp2_with (at_builtin; refine wpList_clone 30 36 im _ 3 40 Tryd.underlying30 hm hm0 hm1 hm2 rfl (by decide) rfl _ _ rfl (wr.heap.size + 1) (wr.heap.size + 1) rfl HG2.out (Nat.le_refl _) r.ma r.ms.length r.mc (rowM r.ms) rfl (flat_len encM_len _) (mts_news HM2.out) rowM_one HNl.out (by omega) (by omega) ?_; refine Hid.out ?_)
      refine Lib.hid ?_
      intro v3 u3 own3 q3
      rw [← HT2.out] at q3
      obtain ⟨ma', mc', rfl, m3, n3, ap3⟩ := own_mts own3
      have b3 : RtBlk u3 wr.heap.size (.slice r.ma r.ms.length r.mc) (.slice r.ba r.bys.length r.bc) r := HBr2.out.below q3
      have f3 : Below wr.heap.size wr u3 := HF2.out.trans (q3.mono HF2.out.size)
      have t3 : wr.heap.size + 1 + 1 ≤ u3.heap.size := by have := q3.size; have := HT2.out; omega
      obtain ⟨u4, hu4⟩ : ∃ x, x = u3.setCell ⟨wr.heap.size, 1, none⟩ (.slice ma' r.ms.length mc') := ⟨_, rfl⟩
      obtain ⟨u5, hu5⟩ : ∃ x, x = u4.alloc (.cells #[] 9) := ⟨_, rfl⟩
      have t4 : u4.heap.size = u3.heap.size := by rw [hu4]; exact size_set _ _ _
      have t5 : u5.heap.size = u3.heap.size + 1 := by rw [hu5]; simp [t4]
      have b4 : RtBlk u4 wr.heap.size (.slice ma' r.ms.length mc') (.slice r.ba r.bys.length r.bc) r := by rw [hu4]; exact b3.set1
      have f4 : Below wr.heap.size wr u4 := by rw [hu4]; exact f3.setCell (p := ⟨wr.heap.size, 1, none⟩) (Nat.le_refl _) _
      have x45 : Below u4.heap.size u4 u5 := by rw [hu5]; exact (Below.refl u4.heap.size u4).alloc (Nat.le_refl _) _
      have b5 := b4.below x45
      have f5 := f4.trans (x45.mono f4.size)
      have g5 : u5.heap[u3.heap.size]? = some (.cells #[] 9 (0, 0)) := by rw [hu5, ← t4]; exact heap_new u4 _
      have m4 : MtsAt u4 ma' r.ms := by
        rw [hu4]
        exact m3.grown (grown_set u3 ⟨wr.heap.size, 1, none⟩ _) (B := wr.heap.size + 1) (fun ad e => ⟨(ap3 ad e).1, (ap3 ad e).2, fun h => by injection h with h; have := (ap3 ad e).1; simp only at h; omega⟩)
      have HM5 := Lib.hid (m4.below x45 (Nat.le_refl _))
      have HS5 := Lib.hid (HSt.out.below f5 (Nat.le_refl _))
      have HN5 : Hid (r.ba = none → r.bys.length = 0 ∧ r.bc = 0) := Lib.hid fun e => ⟨by
        by_cases h0 : 0 < r.bys.length
        · obtain ⟨b, o, e', -⟩ := HSt.out h0
          rw [e] at e'; cases e'
        · omega, HZ2.out e⟩
      have HB5 := Lib.hid b5
      have HF5 := Lib.hid f5
      have HG5 := Lib.hid g5
      have HT5 := Lib.hid t5
      have HT3 := Lib.hid t3
      have HAp3 : Hid (∀ ad, ma' = some ad → wr.heap.size + 1 ≤ ad.block ∧ ad.block < u5.heap.size) := Lib.hid fun ad e => ⟨(ap3 ad e).1, by have := (ap3 ad e).2; omega⟩
      have HN3 := Lib.hid n3
      have fr3 : u3.frozen? ⟨wr.heap.size, 1, none⟩ = false := frozen_of b3
      have y1 : u3.cell? ⟨wr.heap.size, 1, none⟩ = some (.slice r.ma r.ms.length r.mc) := cell_heap b3
      have y3 : u3.cell? ⟨wr.heap.size, 3, none⟩ = some (.slice r.ba r.bys.length r.bc) := cell_heap b3
      have z3 : u5.cell? ⟨wr.heap.size, 3, none⟩ = some (.slice r.ba r.bys.length r.bc) := cell_heap b5
      clear own3 q3 m3 n3 ap3 b3 f3 t3 t4 t5 b4 f4 x45 b5 f5 g5 m4 cr1 e0 e1 e2 e3 e4 e5 e6 e7 HBr2 HG2 HF2 HM2 HNl HT2
      subst hu5
      subst hu4
      go_wp2_with (at_builtin; refine wpList_clone 31 9 is _ 1 16 Tryd.underlying31 hs hs0 hs1 hs2 rfl (by decide) rfl _ _ rfl (wr.heap.size + 1) u3.heap.size rfl HG5.out (by have := HT3.out; omega) r.ba r.bys.length r.bc (r.bys.map .string) rfl (by simp) (strs_news HS5.out) strs_one HN5.out (by omega) (by omega) ?_; refine Hid.out ?_)
      refine Lib.hid ?_
      intro v6 u6 own6 q6
      rw [← HT5.out] at q6
      obtain ⟨ba', bc', rfl, m6, hc6, n6, ap6⟩ := own_strs own6
      have b6 := HB5.out.below q6
      have f6 : Below wr.heap.size wr u6 := HF5.out.trans (q6.mono HF5.out.size)
      have t6 : wr.heap.size + 1 ≤ u6.heap.size := by have := q6.size; have := HT5.out; have := HT3.out; omega
      obtain ⟨u7, hu7⟩ : ∃ x, x = u6.setCell ⟨wr.heap.size, 3, none⟩ (.slice ba' r.bys.length bc') := ⟨_, rfl⟩
      obtain ⟨r', hr'⟩ : ∃ r' : Rt, r' = { r with ma := ma', mc := mc', ba := ba', bc := bc' } := ⟨_, rfl⟩
      obtain ⟨u8, hu8⟩ : ∃ x, x = u7.alloc (.cells #[.int .i64 r.par, .slice ma' r.ms.length mc', .bool r.co, .slice ba' r.bys.length bc', .string r.rc, .int .i64 r.wt, .int .i64 r.iv, .int .i64 r.rp] 33) := ⟨_, rfl⟩
      have t7 : u7.heap.size = u6.heap.size := by rw [hu7]; exact size_set _ _ _
      have t8 : u8.heap.size = u6.heap.size + 1 := by rw [hu8]; simp [t7]
      have b7 : RtBlk u7 wr.heap.size (.slice ma' r.ms.length mc') (.slice ba' r.bys.length bc') r := by rw [hu7]; exact b6.set3
      have f7 : Below wr.heap.size wr u7 := by rw [hu7]; exact f6.setCell (p := ⟨wr.heap.size, 3, none⟩) (Nat.le_refl _) _
      have x78 : Below u7.heap.size u7 u8 := by rw [hu8]; exact (Below.refl u7.heap.size u7).alloc (Nat.le_refl _) _
      have f8 := f7.trans (x78.mono f7.size)
      have g8 : u8.heap[u6.heap.size]? = some (.cells (encR r').toArray 33 (0, 0)) := by rw [hu8, ← t7, hr']; exact heap_new u7 _
      have hRn : ∀ b, wr.heap.size + 1 ≤ b → (some wr.heap.size : Option Nat) ≠ some b := fun b hb e => by injection e with e; omega
      have m7 : MtsAt u7 ma' r.ms := by
        rw [hu7]
        exact (HM5.out.below q6 (Nat.le_refl _)).grown (grown_set u6 ⟨wr.heap.size, 3, none⟩ _) (B := wr.heap.size + 1) (fun ad e => ⟨(HAp3.out ad e).1, Nat.lt_of_lt_of_le (HAp3.out ad e).2 q6.size, hRn _ (HAp3.out ad e).1⟩)
      have st7 : StrsAt u7 ba' r.bys := by
        rw [hu7]
        exact m6.grown (grown_set u6 ⟨wr.heap.size, 3, none⟩ _) (B := wr.heap.size + 1) (fun ad e => ⟨(ap6 ad e).1, (ap6 ad e).2, hRn _ (ap6 ad e).1⟩)
      have cp8 := HCp.out.below f8
      have hvl : ∀ j, v1.ownBlock = some j → j < wr.heap.size := fun j hj => (HCp.out.2.1.lt j hj).2
      have hXl := lt_of_block HX.out
      have ol8 : OwnLists u8 (w.heap.size + 1 + 1 + 1) v1.ownBlock r' := by
        rw [hr']
        have hap : ∀ (q : Option Addr), (∀ ad, q = some ad → wr.heap.size + 1 ≤ ad.block ∧ ad.block < u8.heap.size) → Apart u8 (w.heap.size + 1 + 1 + 1) v1.ownBlock q := fun q h ad e => ⟨by have := (h ad e).1; omega, (h ad e).2, fun e' => by have := hvl _ e'; have := (h ad e).1; omega⟩
        exact ⟨⟨m7.below x78 (Nat.le_refl _), HN3.out, hap _ fun ad e => ⟨(HAp3.out ad e).1, by have := (HAp3.out ad e).2; have := q6.size; omega⟩⟩, st7.below x78 (Nat.le_refl _), hc6, n6, hap _ fun ad e => ⟨(ap6 ad e).1, by have := (ap6 ad e).2; omega⟩⟩
      have HX7 := Lib.hid (HX.out.below f7)
      have HX8 := Lib.hid (HX.out.below f8)
      have HC8 := Lib.hid (HC.out.below f8)
      have HD8 := Lib.hid (HD.out.below f8)
      have HF8 := Lib.hid f8
      have HOl8 := Lib.hid ol8
      have HCp8 := Lib.hid cp8
      have HG8 := Lib.hid g8
      have HT8 := Lib.hid t8
      have HNm : Hid (nrm r' = nrm l[k]) := Lib.hid (by rw [hr', ← HEr.out]; rfl)
      have HEnc : Hid (encR r' = [.int .i64 r.par, .slice ma' r.ms.length mc', .bool r.co, .slice ba' r.bys.length bc', .string r.rc, .int .i64 r.wt, .int .i64 r.iv, .int .i64 r.rp]) := Lib.hid (by rw [hr']; rfl)
      have hl'k : l'.length = k := by
        have := congrArg List.length HCp.out.1
        simp only [List.length_map, List.length_take] at this
        omega
      have HLk := Lib.hid hl'k
      have fr6 : u6.frozen? ⟨wr.heap.size, 3, none⟩ = false := frozen_of b6
      have y0 : u6.cell? ⟨wr.heap.size, 0, none⟩ = some (.int .i64 r.par) := cell_heap b6
      have y1 : u6.cell? ⟨wr.heap.size, 1, none⟩ = some (.slice ma' r.ms.length mc') := cell_heap b6
      have y2 : u6.cell? ⟨wr.heap.size, 2, none⟩ = some (.bool r.co) := cell_heap b6
      have y3 : u6.cell? ⟨wr.heap.size, 3, none⟩ = some (.slice r.ba r.bys.length r.bc) := cell_heap b6
      have y4 : u6.cell? ⟨wr.heap.size, 4, none⟩ = some (.string r.rc) := cell_heap b6
      have y5 : u6.cell? ⟨wr.heap.size, 5, none⟩ = some (.int .i64 r.wt) := cell_heap b6
      have y6 : u6.cell? ⟨wr.heap.size, 6, none⟩ = some (.int .i64 r.iv) := cell_heap b6
      have y7 : u6.cell? ⟨wr.heap.size, 7, none⟩ = some (.int .i64 r.rp) := cell_heap b6
      have x0 : u7.cell? ⟨w.heap.size + 1 + 1, 0, none⟩ = some v1 := cell_heap HX7.out
      have hna : w.heap.size + 1 + 1 ≠ wr.heap.size := by omega
      have hnb : wr.heap.size ≠ w.heap.size + 1 + 1 := by omega
      clear own6 q6 m6 hc6 n6 ap6 b6 f6 t6 t7 t8 b7 f7 x78 f8 g8 hRn m7 st7 cp8 hvl ol8 fr3 z3 HB5 HF5 HG5 HT5 HT3 HAp3 HN3 HM5 HS5 HN5 hl'k hr' HMt HSt HZ1 HZ2 HEr HX HC HD HCp hXl
      subst hu8
      subst hu7
      go_wp2_with (at_builtin; refine wpList_append_own_at _ rfl _ _ 22 rfl (w.heap.size + 1 + 1 + 1) 33 ir _ 8 104 Tryd.underlying22 hr hr0 hr1 hr2 rfl (by decide) v1 l'.length (l'.flatMap encR) rfl HCp8.out.2.1 ⟨u6.heap.size, 0, none⟩ 1 1 (encR r') rfl (encR_len r') (cells_of_blk HG8.out) encR_one (by have := HLk.out; omega) (by have := HLk.out; omega) (by have := HT8.out; have := HB.out.size; have := HF8.out.size; omega) ?_; refine Hid.out ?_)
      refine Lib.hid ?_
      intro v9 u9 own9 g9 _ at9
      have hat : v9.ownBlock = v1.ownBlock ∨ v9.ownBlock = some ((u6.setCell ⟨wr.heap.size, 3, none⟩ (.slice ba' r.bys.length bc')).alloc (.cells #[.int .i64 r.par, .slice ma' r.ms.length mc', .bool r.co, .slice ba' r.bys.length bc', .string r.rc, .int .i64 r.wt, .int .i64 r.iv, .int .i64 r.rp] 33)).heap.size := by rw [HT8.out]; exact at9
      have cp9 := copyR_push HCp8.out hlt HNm.out HOl8.out g9 own9 hat
      have hv1 : ∀ j, v1.ownBlock = some j → w.heap.size + 1 + 1 + 1 ≤ j := fun j hj => (HCp8.out.2.1.lt j hj).1
      have keep : ∀ j, j < w.heap.size + 1 + 1 + 1 → u9.heap[j]? = ((u6.setCell ⟨wr.heap.size, 3, none⟩ (.slice ba' r.bys.length bc')).alloc (.cells #[.int .i64 r.par, .slice ma' r.ms.length mc', .bool r.co, .slice ba' r.bys.length bc', .string r.rc, .int .i64 r.wt, .int .i64 r.iv, .int .i64 r.rp] 33)).heap[j]? := fun j hj => g9.block j (by have := HT8.out; have := HF8.out.size; omega) (fun e => by have := hv1 j e.symm; omega)
      have hBw := HB.out.trans (HF8.out.mono HB.out.size)
      have B9 : Below w.heap.size w u9 := hBw.grown g9 hBw.size (fun j hj => by have := hv1 j hj; omega)
      have X9 : XBlk u9 (w.heap.size + 1 + 1) v1 (.slice none 0 0) pt rs := (keep _ (by omega)).trans HX8.out
      have C9 : CfBlk u9 w.heap.size (some ⟨rb, ro, none⟩) l.length c b ls.length d pt rs := (keep _ (by omega)).trans HC8.out
      have D9 : XBlk u9 (w.heap.size + 1) (.slice none 0 0) (.slice none 0 0) 0 0 := (keep _ (by omega)).trans HD8.out
      obtain ⟨u10, hu10⟩ : ∃ x, x = u9.setCell ⟨w.heap.size + 1 + 1, 0, none⟩ v9 := ⟨_, rfl⟩
      have gs := grown_set u9 ⟨w.heap.size + 1 + 1, 0, none⟩ v9
      rw [← hu10] at gs
      have hne : ∀ j, j ≠ w.heap.size + 1 + 1 → u10.heap[j]? = u9.heap[j]? := fun j hj => by rw [hu10]; exact Below.heap_setCell _ _ _ _ hj
      have HB10 : Hid (Below w.heap.size w u10) := Lib.hid (by rw [hu10]; exact B9.setCell (p := ⟨w.heap.size + 1 + 1, 0, none⟩) (by show w.heap.size ≤ w.heap.size + 1 + 1; omega) _)
      have HX10 : Hid (XBlk u10 (w.heap.size + 1 + 1) v9 (.slice none 0 0) pt rs) := Lib.hid (by rw [hu10]; exact X9.set0)
      have HC10 : Hid (CfBlk u10 w.heap.size (some ⟨rb, ro, none⟩) l.length c b ls.length d pt rs) := Lib.hid ((hne _ (by omega)).trans C9)
      have HD10 : Hid (XBlk u10 (w.heap.size + 1) (.slice none 0 0) (.slice none 0 0) 0 0) := Lib.hid ((hne _ (by omega)).trans D9)
      have HCp10 := Lib.hid (cp9.grown gs (fun j hj => by injection hj with hj; simp only at hj; omega))
      have fr9 : u9.frozen? ⟨w.heap.size + 1 + 1, 0, none⟩ = false := frozen_of X9
      have z0 : u9.cell? ⟨w.heap.size + 1 + 1, 0, none⟩ = some v1 := cell_heap X9
      obtain ⟨n9, hn9⟩ : ∃ n, n = l'.length + 1 := ⟨_, rfl⟩
      rw [← hn9] at own9
      obtain ⟨-, h0⟩ | ⟨g, cap, cur, rfl, -⟩ := own9.2
      · omega
      clear hn9
      clear own9 g9 at9 hat cp9 hv1 keep hBw B9 X9 C9 D9 gs hne HCp8 HOl8 HNm HG8 HT8 HF8 HX8 HC8 HD8 HX7 HEnc HB fr6 y0 y1 y2 y3 y4 y5 y6 y7 x0 hna hnb
      subst hu10
      go_wp2
      go_roundw
      case rel => exact ⟨k + 1, _, _, by omega, by go_num, HB10, HC10, HD10, HX10, HCp10⟩
      case measure => simp [intOf]; omega
    · obtain rfl : k = l.length := by omega
      rw [List.take_length] at HCp
      obtain ⟨wS, hwS⟩ : ∃ x, x = wr := ⟨_, rfl⟩
      rw [← hwS] at HB HC HD HX HCp cc0 ⊢
      clear hwS
      have hXS := lt_of_block HX.out
      go_wp2
      clear cc0
      go_loopw [6] (fun i wr => ∃ (k : Nat) (v2 : Value) (ls' : List Rl), k ≤ ls.length ∧ i = .int .i64 k ∧ Hid (wS.grownBy wr (some (w.heap.size + 1 + 1))) ∧ Hid (XBlk wr (w.heap.size + 1 + 1) v1 v2 pt rs) ∧ Hid (CopyL wr wS.heap.size v2 (ls.take k) ls')) (fun i _ => ls.length - (intOf i).toNat)
      case atStart => exact ⟨0, .slice none 0 0, [], Nat.zero_le _, rfl, Lib.hid (World.grownBy.refl wS _), HX, Lib.hid ⟨by simp, World.ownsRow_nil _ _ _ _, fun r hr => by cases hr⟩⟩
      case round =>
        obtain ⟨k, v2, ls', hk2, rfl, HG, HX2, HCl⟩ := hrel
        have C2 : CfBlk wr w.heap.size a l.length c b ls.length d pt rs := (HG.out.block _ (by omega) (fun e => by injection e with e; omega)).trans HC.out
        have D2 : XBlk wr (w.heap.size + 1) (.slice none 0 0) (.slice none 0 0) 0 0 := (HG.out.block _ (by omega) (fun e => by injection e with e; omega)).trans HD.out
        have B2 : Below w.heap.size w wr := HB.out.grown HG.out HB.out.size (fun j hj => by injection hj with hj; omega)
        have cc1 : wr.cell? ⟨w.heap.size, 1, none⟩ = some (.slice b ls.length d) := cell_heap C2
        by_cases hlt2 : k < ls.length
        · have hkl : (k : Int) < (ls.length : Int) := by omega
          obtain ⟨rb, ro, rfl, hrb, hrr⟩ := HLS.out (by omega)
          obtain ⟨hr1', hmt1, hmt2, hst⟩ := hrr k hlt2
          obtain ⟨hln1, hln2, hln3⟩ := HLs.out k hlt2
          obtain ⟨hz1, hz2, hz3⟩ := HZL.out _ (List.getElem_mem hlt2)
          have HNr : Hid (∃ r, r = ls[k]) := Lib.hid ⟨_, rfl⟩
          obtain ⟨r, her⟩ := HNr.out
          rw [← her] at hr1' hmt1 hmt2 hst hln1 hln2 hln3 hz1 hz2 hz3
          have HEr := Lib.hid her
          clear her HNr hrr
          have e0 : wr.cell? ⟨rb, ro + k * 3, none⟩ = some (.slice r.sa r.src.length r.sc) := (B2.cell (p := ⟨rb, ro + k * 3, none⟩) hrb).trans (hr1' 0 _ rfl)
          have e1 : wr.cell? ⟨rb, ro + k * 3 + 1, none⟩ = some (.slice r.ta r.tgt.length r.tc) := (B2.cell (p := ⟨rb, ro + k * 3 + 1, none⟩) hrb).trans (hr1' 1 _ rfl)
          have e2 : wr.cell? ⟨rb, ro + k * 3 + 2, none⟩ = some (.slice r.ea r.eqs.length r.ec) := (B2.cell (p := ⟨rb, ro + k * 3 + 2, none⟩) hrb).trans (hr1' 2 _ rfl)
          have HM1 := Lib.hid (hmt1.below B2 (Nat.le_refl _))
          have HM2 := Lib.hid (hmt2.below B2 (Nat.le_refl _))
          have HM3 := Lib.hid (hst.below B2 (Nat.le_refl _))
          have HN1 : Hid (r.sa = none → r.src.length = 0 ∧ r.sc = 0) := Lib.hid fun e => ⟨by
            by_cases h0 : 0 < r.src.length
            · obtain ⟨b, o, e', -⟩ := HM1.out h0
              rw [e] at e'; cases e'
            · omega, hz1 e⟩
          have HN2 : Hid (r.ta = none → r.tgt.length = 0 ∧ r.tc = 0) := Lib.hid fun e => ⟨by
            by_cases h0 : 0 < r.tgt.length
            · obtain ⟨b, o, e', -⟩ := HM2.out h0
              rw [e] at e'; cases e'
            · omega, hz2 e⟩
          have HN3 : Hid (r.ea = none → r.eqs.length = 0 ∧ r.ec = 0) := Lib.hid fun e => ⟨by
            by_cases h0 : 0 < r.eqs.length
            · obtain ⟨b, o, e', -⟩ := HM3.out h0
              rw [e] at e'; cases e'
            · omega, hz3 e⟩
          have HLk : Hid (ls'.length = k) := Lib.hid (by
            have := congrArg List.length HCl.out.1
            simp only [List.length_map, List.length_take] at this
            omega)
          clear hr1' hmt1 hmt2 hst hz1 hz2 hz3 HZL
          obtain ⟨p0, hp0⟩ : ∃ x, x = (wr.alloc (.cells #[.slice r.sa r.src.length r.sc, .slice r.ta r.tgt.length r.tc, .slice r.ea r.eqs.length r.ec] 38)).drew := ⟨_, rfl⟩
          have hf : Below wr.heap.size wr p0 := by rw [hp0]; exact ((Below.refl wr.heap.size wr).alloc (Nat.le_refl _) _).drew
          have hp : wr.heap.size + 1 ≤ p0.heap.size := by subst hp0; show wr.heap.size + 1 ≤ (wr.alloc _).heap.size; simp
          have hru : RuBlk p0 wr.heap.size r := by rw [hp0]; exact heap_new wr _
          have hS : RuBlk p0 wr.heap.size r ∧ XBlk p0 (w.heap.size + 1 + 1) v1 v2 pt rs := ⟨hru, HX2.out.below hf⟩
          have hvb : ∀ j, v2.ownBlock = some j → wS.heap.size ≤ j ∧ j < wr.heap.size := fun j hj => HCl.out.2.1.lt j hj
          have hvn : v2 = .slice none 0 0 ∨ ∃ g cp, v2 = .slice (some ⟨g, 0, none⟩) k cp := by
            rcases HCl.out.2.1.2 with ⟨h, -⟩ | ⟨g, cp, cur, h, -⟩
            · exact .inl h
            · exact .inr ⟨g, cp, by rw [h, HLk.out]⟩
          have HVb := Lib.hid hvb
          have HC2 := Lib.hid C2
          have HD2 := Lib.hid D2
          have HB2 := Lib.hid B2
          have HSz := Lib.hid HG.out.size
          clear hvb C2 D2 B2 hru
          have HNm : Hid (∀ a5 c5 a9 c9 a13 c13, nrmL { r with sa := a5, sc := c5, ta := a9, tc := c9, ea := a13, ec := c13 } = nrmL ls[k]) := Lib.hid fun _ _ _ _ _ _ => by rw [← HEr.out]; rfl
          go_wp2_with fail
          refine wp_region_any (by kernel_rfl) ?_
          change wpAny _ _ _ _ _ _ _ (World.drew _)
          rw [← hp0]
          clear hp0 e0 e1 e2 cc1
          refine Till.any (S := fun w' => RuBlk w' wr.heap.size r ∧ XBlk w' (w.heap.size + 1 + 1) v1 v2 pt rs) (z := 18) ?_
          refine Till.take (i := 0) (some 51) (v := ?_) rfl rfl (by as_aux_lemma => kernel_rfl) (by as_aux_lemma => kernel_rfl) (by as_aux_lemma => kernel_rfl) (by as_aux_lemma => kernel_rfl) (fun _ _ _ h => h) (Or.inl ⟨by kernel_rfl, ?_⟩) hS ?_
          rotate_left
          · intro w hSw; have x0 := cell_heap (j := 0) hSw.1; have x1 := cell_heap (j := 1) hSw.1; have x2 := cell_heap (j := 2) hSw.1; have x3 := cell_heap (j := 1) hSw.2; simp only [List.getElem?_toArray, List.getElem?_cons_zero, List.getElem?_cons_succ] at x0 x1 x2 x3; go_simp
            first | done | with_reducible rfl
          refine Till.take (i := 1) (some 52) (v := ?_) rfl rfl (by as_aux_lemma => kernel_rfl) (by as_aux_lemma => kernel_rfl) (by as_aux_lemma => kernel_rfl) (by as_aux_lemma => kernel_rfl) (fun _ _ _ h => h) (Or.inl ⟨by kernel_rfl, ?_⟩) hS ?_
          rotate_left
          · intro w hSw; have x0 := cell_heap (j := 0) hSw.1; have x1 := cell_heap (j := 1) hSw.1; have x2 := cell_heap (j := 2) hSw.1; have x3 := cell_heap (j := 1) hSw.2; simp only [List.getElem?_toArray, List.getElem?_cons_zero, List.getElem?_cons_succ] at x0 x1 x2 x3; go_simp
            first | done | with_reducible rfl
          refine Till.take (i := 3) (some 54) (v := ?_) rfl rfl (by as_aux_lemma => kernel_rfl) (by as_aux_lemma => kernel_rfl) (by as_aux_lemma => kernel_rfl) (by as_aux_lemma => kernel_rfl) (fun _ _ _ h => h) (Or.inl ⟨by kernel_rfl, ?_⟩) hS ?_
          rotate_left
          · intro w hSw; have x0 := cell_heap (j := 0) hSw.1; have x1 := cell_heap (j := 1) hSw.1; have x2 := cell_heap (j := 2) hSw.1; have x3 := cell_heap (j := 1) hSw.2; simp only [List.getElem?_toArray, List.getElem?_cons_zero, List.getElem?_cons_succ] at x0 x1 x2 x3; go_simp
            first | done | with_reducible rfl
          refine Till.take (i := 4) (some 55) (v := ?_) rfl rfl (by as_aux_lemma => kernel_rfl) (by as_aux_lemma => kernel_rfl) (by as_aux_lemma => kernel_rfl) (by as_aux_lemma => kernel_rfl) (fun _ _ _ h => h) (Or.inl ⟨by kernel_rfl, ?_⟩) hS ?_
          rotate_left
          · intro w hSw; have x0 := cell_heap (j := 0) hSw.1; have x1 := cell_heap (j := 1) hSw.1; have x2 := cell_heap (j := 2) hSw.1; have x3 := cell_heap (j := 1) hSw.2; simp only [List.getElem?_toArray, List.getElem?_cons_zero, List.getElem?_cons_succ] at x0 x1 x2 x3; go_simp
            first | done | with_reducible rfl
          refine Till.take (i := 7) (some 58) (v := ?_) rfl rfl (by as_aux_lemma => kernel_rfl) (by as_aux_lemma => kernel_rfl) (by as_aux_lemma => kernel_rfl) (by as_aux_lemma => kernel_rfl) (fun _ _ _ h => h) (Or.inl ⟨by kernel_rfl, ?_⟩) hS ?_
          rotate_left
          · intro w hSw; have x0 := cell_heap (j := 0) hSw.1; have x1 := cell_heap (j := 1) hSw.1; have x2 := cell_heap (j := 2) hSw.1; have x3 := cell_heap (j := 1) hSw.2; simp only [List.getElem?_toArray, List.getElem?_cons_zero, List.getElem?_cons_succ] at x0 x1 x2 x3; go_simp
            first | done | with_reducible rfl
          refine Till.take (i := 8) (some 59) (v := ?_) rfl rfl (by as_aux_lemma => kernel_rfl) (by as_aux_lemma => kernel_rfl) (by as_aux_lemma => kernel_rfl) (by as_aux_lemma => kernel_rfl) (fun _ _ _ h => h) (Or.inl ⟨by kernel_rfl, ?_⟩) hS ?_
          rotate_left
          · intro w hSw; have x0 := cell_heap (j := 0) hSw.1; have x1 := cell_heap (j := 1) hSw.1; have x2 := cell_heap (j := 2) hSw.1; have x3 := cell_heap (j := 1) hSw.2; simp only [List.getElem?_toArray, List.getElem?_cons_zero, List.getElem?_cons_succ] at x0 x1 x2 x3; go_simp
            first | done | with_reducible rfl
          refine Till.take (i := 11) (some 62) (v := ?_) rfl rfl (by as_aux_lemma => kernel_rfl) (by as_aux_lemma => kernel_rfl) (by as_aux_lemma => kernel_rfl) (by as_aux_lemma => kernel_rfl) (fun _ _ _ h => h) (Or.inl ⟨by kernel_rfl, ?_⟩) hS ?_
          rotate_left
          · intro w hSw; have x0 := cell_heap (j := 0) hSw.1; have x1 := cell_heap (j := 1) hSw.1; have x2 := cell_heap (j := 2) hSw.1; have x3 := cell_heap (j := 1) hSw.2; simp only [List.getElem?_toArray, List.getElem?_cons_zero, List.getElem?_cons_succ] at x0 x1 x2 x3; go_simp
            first | done | with_reducible rfl
          refine Till.take (i := 12) (some 63) (v := ?_) rfl rfl (by as_aux_lemma => kernel_rfl) (by as_aux_lemma => kernel_rfl) (by as_aux_lemma => kernel_rfl) (by as_aux_lemma => kernel_rfl) (fun _ _ _ h => h) (Or.inl ⟨by kernel_rfl, ?_⟩) hS ?_
          rotate_left
          · intro w hSw; have x0 := cell_heap (j := 0) hSw.1; have x1 := cell_heap (j := 1) hSw.1; have x2 := cell_heap (j := 2) hSw.1; have x3 := cell_heap (j := 1) hSw.2; simp only [List.getElem?_toArray, List.getElem?_cons_zero, List.getElem?_cons_succ] at x0 x1 x2 x3; go_simp
            first | done | with_reducible rfl
          refine Till.ready (l := [2, 6, 10]) (by as_aux_lemma => kernel_rfl) (by simp) ?_
          refine TillAll.cons rfl (fun K hK => ?_) (TillAll.cons rfl (fun K hK => ?_) (TillAll.cons rfl (fun K hK => ?_) TillAll.nil))
          · go_simp
            go_wp2_with fail
            have q := (Below.refl p0.heap.size p0).alloc (Nat.le_refl _) (.cells #[] 36)
            have em0 : Emp (p0.alloc (.cells #[] 36)) p0.heap.size 36 := heap_new p0 _
            have hg0 : wr.heap.size + 1 ≤ p0.heap.size := hp
            replace hS : RuBlk (p0.alloc (.cells #[] 36)) wr.heap.size r ∧ XBlk (p0.alloc (.cells #[] 36)) (w.heap.size + 1 + 1) v1 v2 pt rs := ⟨hS.1.below q, hS.2.below q⟩
            refine hK.out _ _ (fun _ => hS) ?_
            clear hK K
            replace hf := hf.trans (q.mono hf.size)
            replace hp := Nat.le_trans hp q.size
            clear q
            generalize p0.alloc (.cells #[] 36) = p1 at *
            refine Till.ready (l := [5, 6, 10]) (by as_aux_lemma => kernel_rfl) (by simp) ?_
            refine TillAll.cons rfl (fun K hK => ?_) (TillAll.cons rfl (fun K hK => ?_) (TillAll.cons rfl (fun K hK => ?_) TillAll.nil))
            · refine step_clone 30 36 im _ 3 40 Tryd.underlying30 hm hm0 hm1 hm2 rfl (by decide) rfl _ _ rfl (wr.heap.size + 1) p0.heap.size rfl em0 hg0 r.sa r.src.length r.sc (rowM r.src) rfl (flat_len encM_len _) (mts_news (HM1.out.below hf (Nat.le_refl _))) rowM_one HN1.out (by omega) (by omega) ?_
              intro va p2 own q
              obtain ⟨a5, c5, rfl, lz⟩ := LstM.of own
              have ls0 := lz
              replace hS : RuBlk p2 wr.heap.size r ∧ XBlk p2 (w.heap.size + 1 + 1) v1 v2 pt rs := ⟨hS.1.below q, hS.2.below q⟩
              refine hK.out _ _ (fun _ => hS) ?_
              clear hK K
              replace hf := hf.trans (q.mono hf.size)
              replace hp := Nat.le_trans hp q.size
              clear q own lz em0 hg0
              refine Till.ready (l := [6, 10]) (by as_aux_lemma => kernel_rfl) (by simp) ?_
              refine TillAll.cons rfl (fun K hK => ?_) (TillAll.cons rfl (fun K hK => ?_) TillAll.nil)
              · go_simp
                go_wp2_with fail
                have q := (Below.refl p2.heap.size p2).alloc (Nat.le_refl _) (.cells #[] 36)
                replace ls0 := ls0.below q
                have em1 : Emp (p2.alloc (.cells #[] 36)) p2.heap.size 36 := heap_new p2 _
                have hg1 : wr.heap.size + 1 ≤ p2.heap.size := hp
                replace hS : RuBlk (p2.alloc (.cells #[] 36)) wr.heap.size r ∧ XBlk (p2.alloc (.cells #[] 36)) (w.heap.size + 1 + 1) v1 v2 pt rs := ⟨hS.1.below q, hS.2.below q⟩
                refine hK.out _ _ (fun _ => hS) ?_
                clear hK K
                replace hf := hf.trans (q.mono hf.size)
                replace hp := Nat.le_trans hp q.size
                clear q
                generalize p2.alloc (.cells #[] 36) = p3 at *
                refine Till.ready (l := [9, 10]) (by as_aux_lemma => kernel_rfl) (by simp) ?_
                refine TillAll.cons rfl (fun K hK => ?_) (TillAll.cons rfl (fun K hK => ?_) TillAll.nil)
                · refine step_clone 30 36 im _ 3 40 Tryd.underlying30 hm hm0 hm1 hm2 rfl (by decide) rfl _ _ rfl (wr.heap.size + 1) p2.heap.size rfl em1 hg1 r.ta r.tgt.length r.tc (rowM r.tgt) rfl (flat_len encM_len _) (mts_news (HM2.out.below hf (Nat.le_refl _))) rowM_one HN2.out (by omega) (by omega) ?_
                  intro va p4 own q
                  obtain ⟨a9, c9, rfl, lz⟩ := LstM.of own
                  replace ls0 := ls0.below q
                  have ls1 := lz
                  replace hS : RuBlk p4 wr.heap.size r ∧ XBlk p4 (w.heap.size + 1 + 1) v1 v2 pt rs := ⟨hS.1.below q, hS.2.below q⟩
                  refine hK.out _ _ (fun _ => hS) ?_
                  clear hK K
                  replace hf := hf.trans (q.mono hf.size)
                  replace hp := Nat.le_trans hp q.size
                  clear q own lz em1 hg1
                  refine Till.ready (l := [10]) (by as_aux_lemma => kernel_rfl) (by simp) ?_
                  refine TillAll.cons rfl (fun K hK => ?_) TillAll.nil
                  · go_simp
                    go_wp2_with fail
                    have q := (Below.refl p4.heap.size p4).alloc (Nat.le_refl _) (.cells #[] 9)
                    replace ls0 := ls0.below q
                    replace ls1 := ls1.below q
                    have em2 : Emp (p4.alloc (.cells #[] 9)) p4.heap.size 9 := heap_new p4 _
                    have hg2 : wr.heap.size + 1 ≤ p4.heap.size := hp
                    replace hS : RuBlk (p4.alloc (.cells #[] 9)) wr.heap.size r ∧ XBlk (p4.alloc (.cells #[] 9)) (w.heap.size + 1 + 1) v1 v2 pt rs := ⟨hS.1.below q, hS.2.below q⟩
                    refine hK.out _ _ (fun _ => hS) ?_
                    clear hK K
                    replace hf := hf.trans (q.mono hf.size)
                    replace hp := Nat.le_trans hp q.size
                    clear q
                    generalize p4.alloc (.cells #[] 9) = p5 at *
                    refine Till.ready (l := [13]) (by as_aux_lemma => kernel_rfl) (by simp) ?_
                    refine TillAll.cons rfl (fun K hK => ?_) TillAll.nil
                    · refine step_clone 31 9 is _ 1 16 Tryd.underlying31 hs hs0 hs1 hs2 rfl (by decide) rfl _ _ rfl (wr.heap.size + 1) p4.heap.size rfl em2 hg2 r.ea r.eqs.length r.ec (r.eqs.map .string) rfl (by simp) (strs_news (HM3.out.below hf (Nat.le_refl _))) strs_one HN3.out (by omega) (by omega) ?_
                      intro va p6 own q
                      obtain ⟨a13, c13, rfl, lz⟩ := LstS.of own
                      replace ls0 := ls0.below q
                      replace ls1 := ls1.below q
                      have ls2 := lz
                      replace hS : RuBlk p6 wr.heap.size r ∧ XBlk p6 (w.heap.size + 1 + 1) v1 v2 pt rs := ⟨hS.1.below q, hS.2.below q⟩
                      refine hK.out _ _ (fun _ => hS) ?_
                      clear hK K
                      replace hf := hf.trans (q.mono hf.size)
                      replace hp := Nat.le_trans hp q.size
                      clear q own lz em2 hg2
                      refine Till.take (i := 14) (some 65) (v := ?_) rfl rfl (by as_aux_lemma => kernel_rfl) (by as_aux_lemma => kernel_rfl) (by as_aux_lemma => kernel_rfl) (by as_aux_lemma => kernel_rfl) (fun _ _ _ h => h) (Or.inl ⟨by kernel_rfl, ?_⟩) hS ?_
                      rotate_left
                      · intro w hSw; have x0 := cell_heap (j := 0) hSw.1; have x1 := cell_heap (j := 1) hSw.1; have x2 := cell_heap (j := 2) hSw.1; have x3 := cell_heap (j := 1) hSw.2; simp only [List.getElem?_toArray, List.getElem?_cons_zero, List.getElem?_cons_succ] at x0 x1 x2 x3; go_simp
                        first | done | with_reducible rfl
                      refine Till.ready (l := [15]) (by as_aux_lemma => kernel_rfl) (by simp) ?_
                      refine TillAll.cons rfl (fun K hK => ?_) TillAll.nil
                      go_simp
                      go_wp2_with fail
                      have q := (Below.refl p6.heap.size p6).alloc (Nat.le_refl _) (.cells #[.slice a5 r.src.length c5, .slice a9 r.tgt.length c9, .slice a13 r.eqs.length c13] 38)
                      have gz : (p6.alloc (.cells #[.slice a5 r.src.length c5, .slice a9 r.tgt.length c9, .slice a13 r.eqs.length c13] 38)).heap[p6.heap.size]? = some (.cells (encL { r with sa := a5, sc := c5, ta := a9, tc := c9, ea := a13, ec := c13 }).toArray 38 (0, 0)) := heap_new p6 _
                      replace ls0 := ls0.below q
                      replace ls1 := ls1.below q
                      replace ls2 := ls2.below q
                      replace hS : RuBlk (p6.alloc (.cells #[.slice a5 r.src.length c5, .slice a9 r.tgt.length c9, .slice a13 r.eqs.length c13] 38)) wr.heap.size r ∧ XBlk (p6.alloc (.cells #[.slice a5 r.src.length c5, .slice a9 r.tgt.length c9, .slice a13 r.eqs.length c13] 38)) (w.heap.size + 1 + 1) v1 v2 pt rs := ⟨hS.1.below q, hS.2.below q⟩
                      refine hK.out _ _ (fun _ => hS) ?_
                      clear hK K
                      replace hf := hf.trans (q.mono hf.size)
                      replace hp := Nat.le_trans hp q.size
                      clear q
                      generalize p6.alloc (.cells #[.slice a5 r.src.length c5, .slice a9 r.tgt.length c9, .slice a13 r.eqs.length c13] 38) = p7 at *
                      refine Till.ready (l := [16]) (by as_aux_lemma => kernel_rfl) (by simp) ?_
                      refine TillAll.cons rfl (fun K hK => ?_) TillAll.nil
                      refine step_own_at rfl _ _ 23 rfl wS.heap.size 38 il _ 3 72 Tryd.underlying23 hil hil0 hil1 hil2 rfl (by decide) v2 ls'.length (ls'.flatMap encL) rfl (HCl.out.below hf).2.1 ⟨p6.heap.size, 0, none⟩ 1 1 (encL { r with sa := a5, sc := c5, ta := a9, tc := c9, ea := a13, ec := c13 }) rfl (encL_len _) (cells_of_blk gz) encL_one (by have := HLk.out; omega) (by have := HLk.out; omega) (by have := HSz.out; omega) ?_
                      intro v9 p8 own9 g9 at9
                      have kp : ∀ j, (j = wr.heap.size ∨ j = w.heap.size + 1 + 1) → p8.heap[j]? = p7.heap[j]? := fun j hj => g9.block j (by have := HSz.out; omega) (fun e => by have := HVb.out j e.symm; omega)
                      have hS9 : RuBlk p8 wr.heap.size r ∧ XBlk p8 (w.heap.size + 1 + 1) v1 v2 pt rs := ⟨(kp _ (.inl rfl)).trans hS.1, (kp _ (.inr rfl)).trans hS.2⟩
                      have hE := rule_end HG.out hXS HCl.out hlt2 (HNm.out a5 c5 a9 c9 a13 c13) hf ls0 ls1 ls2 own9 g9 at9 hS9.2
                      have HE := Lib.hid hE
                      obtain ⟨n9, hn9⟩ : ∃ n, n = ls'.length + 1 := ⟨_, rfl⟩
                      rw [← hn9] at own9
                      obtain ⟨-, h0⟩ | ⟨g, cap, cur, rfl, -⟩ := own9.2
                      · omega
                      clear hn9
                      refine hK.out _ _ (fun _ => hS9) ?_
                      clear hK K hS own9 g9 at9 kp gz ls0 ls1 ls2 hE hf hp
                      have hS := hS9
                      refine Till.take (i := 17) (some 68) (v := ?_) rfl rfl (by as_aux_lemma => kernel_rfl) (by as_aux_lemma => kernel_rfl) (by as_aux_lemma => kernel_rfl) (by as_aux_lemma => kernel_rfl) (fun _ _ _ h => h) (Or.inl ⟨by kernel_rfl, ?_⟩) hS ?_
                      rotate_left
                      · intro w hSw; have x0 := cell_heap (j := 0) hSw.1; have x1 := cell_heap (j := 1) hSw.1; have x2 := cell_heap (j := 2) hSw.1; have x3 := cell_heap (j := 1) hSw.2; simp only [List.getElem?_toArray, List.getElem?_cons_zero, List.getElem?_cons_succ] at x0 x1 x2 x3; go_simp
                        first | done | with_reducible rfl
                      refine Till.ready (l := [18]) (by as_aux_lemma => kernel_rfl) (by simp) ?_
                      refine TillAll.cons rfl (fun K hK => ?_) TillAll.nil
                      have z1 : p8.cell? ⟨w.heap.size + 1 + 1, 1, none⟩ = some v2 := cell_heap hS9.2
                      have fz : p8.frozen? ⟨w.heap.size + 1 + 1, 1, none⟩ = false := frozen_of hS9.2
                      clear hS hS9
                      go_simp
                      go_wp2_with fail
                      refine hK.out _ _ (fun h => absurd rfl h) ?_
                      clear hK K z1 fz
                      refine Till.done (by kernel_rfl) ?_ _
                      go_simp
                      go_wp2
                      go_roundw
                      case rel => exact ⟨k + 1, _, _, by omega, by go_num, Lib.hid HE.out.1, Lib.hid HE.out.2.1, Lib.hid HE.out.2.2⟩
                      case measure => simp [intOf]; omega
                · go_simp
                  go_wp2_with fail
                  have q := (Below.refl p3.heap.size p3).alloc (Nat.le_refl _) (.cells #[] 9)
                  replace ls0 := ls0.below q
                  replace em1 := em1.below q
                  have em2 : Emp (p3.alloc (.cells #[] 9)) p3.heap.size 9 := heap_new p3 _
                  have hg2 : wr.heap.size + 1 ≤ p3.heap.size := hp
                  replace hS : RuBlk (p3.alloc (.cells #[] 9)) wr.heap.size r ∧ XBlk (p3.alloc (.cells #[] 9)) (w.heap.size + 1 + 1) v1 v2 pt rs := ⟨hS.1.below q, hS.2.below q⟩
                  refine hK.out _ _ (fun _ => hS) ?_
                  clear hK K
                  replace hf := hf.trans (q.mono hf.size)
                  replace hp := Nat.le_trans hp q.size
                  clear q
                  generalize p3.alloc (.cells #[] 9) = p4 at *
                  refine Till.ready (l := [9]) (by as_aux_lemma => kernel_rfl) (by simp) ?_
                  refine TillAll.cons rfl (fun K hK => ?_) TillAll.nil
                  · refine step_clone 30 36 im _ 3 40 Tryd.underlying30 hm hm0 hm1 hm2 rfl (by decide) rfl _ _ rfl (wr.heap.size + 1) p2.heap.size rfl em1 hg1 r.ta r.tgt.length r.tc (rowM r.tgt) rfl (flat_len encM_len _) (mts_news (HM2.out.below hf (Nat.le_refl _))) rowM_one HN2.out (by omega) (by omega) ?_
                    intro va p5 own q
                    obtain ⟨a9, c9, rfl, lz⟩ := LstM.of own
                    replace ls0 := ls0.below q
                    replace em2 := em2.below q
                    have ls1 := lz
                    replace hS : RuBlk p5 wr.heap.size r ∧ XBlk p5 (w.heap.size + 1 + 1) v1 v2 pt rs := ⟨hS.1.below q, hS.2.below q⟩
                    refine hK.out _ _ (fun _ => hS) ?_
                    clear hK K
                    replace hf := hf.trans (q.mono hf.size)
                    replace hp := Nat.le_trans hp q.size
                    clear q own lz em1 hg1
                    refine Till.ready (l := [13]) (by as_aux_lemma => kernel_rfl) (by simp) ?_
                    refine TillAll.cons rfl (fun K hK => ?_) TillAll.nil
                    · refine step_clone 31 9 is _ 1 16 Tryd.underlying31 hs hs0 hs1 hs2 rfl (by decide) rfl _ _ rfl (wr.heap.size + 1) p3.heap.size rfl em2 hg2 r.ea r.eqs.length r.ec (r.eqs.map .string) rfl (by simp) (strs_news (HM3.out.below hf (Nat.le_refl _))) strs_one HN3.out (by omega) (by omega) ?_
                      intro va p6 own q
                      obtain ⟨a13, c13, rfl, lz⟩ := LstS.of own
                      replace ls0 := ls0.below q
                      replace ls1 := ls1.below q
                      have ls2 := lz
                      replace hS : RuBlk p6 wr.heap.size r ∧ XBlk p6 (w.heap.size + 1 + 1) v1 v2 pt rs := ⟨hS.1.below q, hS.2.below q⟩
                      refine hK.out _ _ (fun _ => hS) ?_
                      clear hK K
                      replace hf := hf.trans (q.mono hf.size)
                      replace hp := Nat.le_trans hp q.size
                      clear q own lz em2 hg2
                      refine Till.take (i := 14) (some 65) (v := ?_) rfl rfl (by as_aux_lemma => kernel_rfl) (by as_aux_lemma => kernel_rfl) (by as_aux_lemma => kernel_rfl) (by as_aux_lemma => kernel_rfl) (fun _ _ _ h => h) (Or.inl ⟨by kernel_rfl, ?_⟩) hS ?_
                      rotate_left
                      · intro w hSw; have x0 := cell_heap (j := 0) hSw.1; have x1 := cell_heap (j := 1) hSw.1; have x2 := cell_heap (j := 2) hSw.1; have x3 := cell_heap (j := 1) hSw.2; simp only [List.getElem?_toArray, List.getElem?_cons_zero, List.getElem?_cons_succ] at x0 x1 x2 x3; go_simp
                        first | done | with_reducible rfl
                      refine Till.ready (l := [15]) (by as_aux_lemma => kernel_rfl) (by simp) ?_
                      refine TillAll.cons rfl (fun K hK => ?_) TillAll.nil
                      go_simp
                      go_wp2_with fail
                      have q := (Below.refl p6.heap.size p6).alloc (Nat.le_refl _) (.cells #[.slice a5 r.src.length c5, .slice a9 r.tgt.length c9, .slice a13 r.eqs.length c13] 38)
                      have gz : (p6.alloc (.cells #[.slice a5 r.src.length c5, .slice a9 r.tgt.length c9, .slice a13 r.eqs.length c13] 38)).heap[p6.heap.size]? = some (.cells (encL { r with sa := a5, sc := c5, ta := a9, tc := c9, ea := a13, ec := c13 }).toArray 38 (0, 0)) := heap_new p6 _
                      replace ls0 := ls0.below q
                      replace ls1 := ls1.below q
                      replace ls2 := ls2.below q
                      replace hS : RuBlk (p6.alloc (.cells #[.slice a5 r.src.length c5, .slice a9 r.tgt.length c9, .slice a13 r.eqs.length c13] 38)) wr.heap.size r ∧ XBlk (p6.alloc (.cells #[.slice a5 r.src.length c5, .slice a9 r.tgt.length c9, .slice a13 r.eqs.length c13] 38)) (w.heap.size + 1 + 1) v1 v2 pt rs := ⟨hS.1.below q, hS.2.below q⟩
                      refine hK.out _ _ (fun _ => hS) ?_
                      clear hK K
                      replace hf := hf.trans (q.mono hf.size)
                      replace hp := Nat.le_trans hp q.size
                      clear q
                      generalize p6.alloc (.cells #[.slice a5 r.src.length c5, .slice a9 r.tgt.length c9, .slice a13 r.eqs.length c13] 38) = p7 at *
                      refine Till.ready (l := [16]) (by as_aux_lemma => kernel_rfl) (by simp) ?_
                      refine TillAll.cons rfl (fun K hK => ?_) TillAll.nil
                      refine step_own_at rfl _ _ 23 rfl wS.heap.size 38 il _ 3 72 Tryd.underlying23 hil hil0 hil1 hil2 rfl (by decide) v2 ls'.length (ls'.flatMap encL) rfl (HCl.out.below hf).2.1 ⟨p6.heap.size, 0, none⟩ 1 1 (encL { r with sa := a5, sc := c5, ta := a9, tc := c9, ea := a13, ec := c13 }) rfl (encL_len _) (cells_of_blk gz) encL_one (by have := HLk.out; omega) (by have := HLk.out; omega) (by have := HSz.out; omega) ?_
                      intro v9 p8 own9 g9 at9
                      have kp : ∀ j, (j = wr.heap.size ∨ j = w.heap.size + 1 + 1) → p8.heap[j]? = p7.heap[j]? := fun j hj => g9.block j (by have := HSz.out; omega) (fun e => by have := HVb.out j e.symm; omega)
                      have hS9 : RuBlk p8 wr.heap.size r ∧ XBlk p8 (w.heap.size + 1 + 1) v1 v2 pt rs := ⟨(kp _ (.inl rfl)).trans hS.1, (kp _ (.inr rfl)).trans hS.2⟩
                      have hE := rule_end HG.out hXS HCl.out hlt2 (HNm.out a5 c5 a9 c9 a13 c13) hf ls0 ls1 ls2 own9 g9 at9 hS9.2
                      have HE := Lib.hid hE
                      obtain ⟨n9, hn9⟩ : ∃ n, n = ls'.length + 1 := ⟨_, rfl⟩
                      rw [← hn9] at own9
                      obtain ⟨-, h0⟩ | ⟨g, cap, cur, rfl, -⟩ := own9.2
                      · omega
                      clear hn9
                      refine hK.out _ _ (fun _ => hS9) ?_
                      clear hK K hS own9 g9 at9 kp gz ls0 ls1 ls2 hE hf hp
                      have hS := hS9
                      refine Till.take (i := 17) (some 68) (v := ?_) rfl rfl (by as_aux_lemma => kernel_rfl) (by as_aux_lemma => kernel_rfl) (by as_aux_lemma => kernel_rfl) (by as_aux_lemma => kernel_rfl) (fun _ _ _ h => h) (Or.inl ⟨by kernel_rfl, ?_⟩) hS ?_
                      rotate_left
                      · intro w hSw; have x0 := cell_heap (j := 0) hSw.1; have x1 := cell_heap (j := 1) hSw.1; have x2 := cell_heap (j := 2) hSw.1; have x3 := cell_heap (j := 1) hSw.2; simp only [List.getElem?_toArray, List.getElem?_cons_zero, List.getElem?_cons_succ] at x0 x1 x2 x3; go_simp
                        first | done | with_reducible rfl
                      refine Till.ready (l := [18]) (by as_aux_lemma => kernel_rfl) (by simp) ?_
                      refine TillAll.cons rfl (fun K hK => ?_) TillAll.nil
                      have z1 : p8.cell? ⟨w.heap.size + 1 + 1, 1, none⟩ = some v2 := cell_heap hS9.2
                      have fz : p8.frozen? ⟨w.heap.size + 1 + 1, 1, none⟩ = false := frozen_of hS9.2
                      clear hS hS9
                      go_simp
                      go_wp2_with fail
                      refine hK.out _ _ (fun h => absurd rfl h) ?_
                      clear hK K z1 fz
                      refine Till.done (by kernel_rfl) ?_ _
                      go_simp
                      go_wp2
                      go_roundw
                      case rel => exact ⟨k + 1, _, _, by omega, by go_num, Lib.hid HE.out.1, Lib.hid HE.out.2.1, Lib.hid HE.out.2.2⟩
                      case measure => simp [intOf]; omega
              · go_simp
                go_wp2_with fail
                have q := (Below.refl p2.heap.size p2).alloc (Nat.le_refl _) (.cells #[] 9)
                replace ls0 := ls0.below q
                have em2 : Emp (p2.alloc (.cells #[] 9)) p2.heap.size 9 := heap_new p2 _
                have hg2 : wr.heap.size + 1 ≤ p2.heap.size := hp
                replace hS : RuBlk (p2.alloc (.cells #[] 9)) wr.heap.size r ∧ XBlk (p2.alloc (.cells #[] 9)) (w.heap.size + 1 + 1) v1 v2 pt rs := ⟨hS.1.below q, hS.2.below q⟩
                refine hK.out _ _ (fun _ => hS) ?_
                clear hK K
                replace hf := hf.trans (q.mono hf.size)
                replace hp := Nat.le_trans hp q.size
                clear q
                generalize p2.alloc (.cells #[] 9) = p3 at *
                refine Till.ready (l := [6]) (by as_aux_lemma => kernel_rfl) (by simp) ?_
                refine TillAll.cons rfl (fun K hK => ?_) TillAll.nil
                · go_simp
                  go_wp2_with fail
                  have q := (Below.refl p3.heap.size p3).alloc (Nat.le_refl _) (.cells #[] 36)
                  replace ls0 := ls0.below q
                  replace em2 := em2.below q
                  have em1 : Emp (p3.alloc (.cells #[] 36)) p3.heap.size 36 := heap_new p3 _
                  have hg1 : wr.heap.size + 1 ≤ p3.heap.size := hp
                  replace hS : RuBlk (p3.alloc (.cells #[] 36)) wr.heap.size r ∧ XBlk (p3.alloc (.cells #[] 36)) (w.heap.size + 1 + 1) v1 v2 pt rs := ⟨hS.1.below q, hS.2.below q⟩
                  refine hK.out _ _ (fun _ => hS) ?_
                  clear hK K
                  replace hf := hf.trans (q.mono hf.size)
                  replace hp := Nat.le_trans hp q.size
                  clear q
                  generalize p3.alloc (.cells #[] 36) = p4 at *
                  refine Till.ready (l := [9]) (by as_aux_lemma => kernel_rfl) (by simp) ?_
                  refine TillAll.cons rfl (fun K hK => ?_) TillAll.nil
                  · refine step_clone 30 36 im _ 3 40 Tryd.underlying30 hm hm0 hm1 hm2 rfl (by decide) rfl _ _ rfl (wr.heap.size + 1) p3.heap.size rfl em1 hg1 r.ta r.tgt.length r.tc (rowM r.tgt) rfl (flat_len encM_len _) (mts_news (HM2.out.below hf (Nat.le_refl _))) rowM_one HN2.out (by omega) (by omega) ?_
                    intro va p5 own q
                    obtain ⟨a9, c9, rfl, lz⟩ := LstM.of own
                    replace ls0 := ls0.below q
                    replace em2 := em2.below q
                    have ls1 := lz
                    replace hS : RuBlk p5 wr.heap.size r ∧ XBlk p5 (w.heap.size + 1 + 1) v1 v2 pt rs := ⟨hS.1.below q, hS.2.below q⟩
                    refine hK.out _ _ (fun _ => hS) ?_
                    clear hK K
                    replace hf := hf.trans (q.mono hf.size)
                    replace hp := Nat.le_trans hp q.size
                    clear q own lz em1 hg1
                    refine Till.ready (l := [13]) (by as_aux_lemma => kernel_rfl) (by simp) ?_
                    refine TillAll.cons rfl (fun K hK => ?_) TillAll.nil
                    · refine step_clone 31 9 is _ 1 16 Tryd.underlying31 hs hs0 hs1 hs2 rfl (by decide) rfl _ _ rfl (wr.heap.size + 1) p2.heap.size rfl em2 hg2 r.ea r.eqs.length r.ec (r.eqs.map .string) rfl (by simp) (strs_news (HM3.out.below hf (Nat.le_refl _))) strs_one HN3.out (by omega) (by omega) ?_
                      intro va p6 own q
                      obtain ⟨a13, c13, rfl, lz⟩ := LstS.of own
                      replace ls0 := ls0.below q
                      replace ls1 := ls1.below q
                      have ls2 := lz
                      replace hS : RuBlk p6 wr.heap.size r ∧ XBlk p6 (w.heap.size + 1 + 1) v1 v2 pt rs := ⟨hS.1.below q, hS.2.below q⟩
                      refine hK.out _ _ (fun _ => hS) ?_
                      clear hK K
                      replace hf := hf.trans (q.mono hf.size)
                      replace hp := Nat.le_trans hp q.size
                      clear q own lz em2 hg2
                      refine Till.take (i := 14) (some 65) (v := ?_) rfl rfl (by as_aux_lemma => kernel_rfl) (by as_aux_lemma => kernel_rfl) (by as_aux_lemma => kernel_rfl) (by as_aux_lemma => kernel_rfl) (fun _ _ _ h => h) (Or.inl ⟨by kernel_rfl, ?_⟩) hS ?_
                      rotate_left
                      · intro w hSw; have x0 := cell_heap (j := 0) hSw.1; have x1 := cell_heap (j := 1) hSw.1; have x2 := cell_heap (j := 2) hSw.1; have x3 := cell_heap (j := 1) hSw.2; simp only [List.getElem?_toArray, List.getElem?_cons_zero, List.getElem?_cons_succ] at x0 x1 x2 x3; go_simp
                        first | done | with_reducible rfl
                      refine Till.ready (l := [15]) (by as_aux_lemma => kernel_rfl) (by simp) ?_
                      refine TillAll.cons rfl (fun K hK => ?_) TillAll.nil
                      go_simp
                      go_wp2_with fail
                      have q := (Below.refl p6.heap.size p6).alloc (Nat.le_refl _) (.cells #[.slice a5 r.src.length c5, .slice a9 r.tgt.length c9, .slice a13 r.eqs.length c13] 38)
                      have gz : (p6.alloc (.cells #[.slice a5 r.src.length c5, .slice a9 r.tgt.length c9, .slice a13 r.eqs.length c13] 38)).heap[p6.heap.size]? = some (.cells (encL { r with sa := a5, sc := c5, ta := a9, tc := c9, ea := a13, ec := c13 }).toArray 38 (0, 0)) := heap_new p6 _
                      replace ls0 := ls0.below q
                      replace ls1 := ls1.below q
                      replace ls2 := ls2.below q
                      replace hS : RuBlk (p6.alloc (.cells #[.slice a5 r.src.length c5, .slice a9 r.tgt.length c9, .slice a13 r.eqs.length c13] 38)) wr.heap.size r ∧ XBlk (p6.alloc (.cells #[.slice a5 r.src.length c5, .slice a9 r.tgt.length c9, .slice a13 r.eqs.length c13] 38)) (w.heap.size + 1 + 1) v1 v2 pt rs := ⟨hS.1.below q, hS.2.below q⟩
                      refine hK.out _ _ (fun _ => hS) ?_
                      clear hK K
                      replace hf := hf.trans (q.mono hf.size)
                      replace hp := Nat.le_trans hp q.size
                      clear q
                      generalize p6.alloc (.cells #[.slice a5 r.src.length c5, .slice a9 r.tgt.length c9, .slice a13 r.eqs.length c13] 38) = p7 at *
                      refine Till.ready (l := [16]) (by as_aux_lemma => kernel_rfl) (by simp) ?_
                      refine TillAll.cons rfl (fun K hK => ?_) TillAll.nil
                      refine step_own_at rfl _ _ 23 rfl wS.heap.size 38 il _ 3 72 Tryd.underlying23 hil hil0 hil1 hil2 rfl (by decide) v2 ls'.length (ls'.flatMap encL) rfl (HCl.out.below hf).2.1 ⟨p6.heap.size, 0, none⟩ 1 1 (encL { r with sa := a5, sc := c5, ta := a9, tc := c9, ea := a13, ec := c13 }) rfl (encL_len _) (cells_of_blk gz) encL_one (by have := HLk.out; omega) (by have := HLk.out; omega) (by have := HSz.out; omega) ?_
                      intro v9 p8 own9 g9 at9
                      have kp : ∀ j, (j = wr.heap.size ∨ j = w.heap.size + 1 + 1) → p8.heap[j]? = p7.heap[j]? := fun j hj => g9.block j (by have := HSz.out; omega) (fun e => by have := HVb.out j e.symm; omega)
                      have hS9 : RuBlk p8 wr.heap.size r ∧ XBlk p8 (w.heap.size + 1 + 1) v1 v2 pt rs := ⟨(kp _ (.inl rfl)).trans hS.1, (kp _ (.inr rfl)).trans hS.2⟩
                      have hE := rule_end HG.out hXS HCl.out hlt2 (HNm.out a5 c5 a9 c9 a13 c13) hf ls0 ls1 ls2 own9 g9 at9 hS9.2
                      have HE := Lib.hid hE
                      obtain ⟨n9, hn9⟩ : ∃ n, n = ls'.length + 1 := ⟨_, rfl⟩
                      rw [← hn9] at own9
                      obtain ⟨-, h0⟩ | ⟨g, cap, cur, rfl, -⟩ := own9.2
                      · omega
                      clear hn9
                      refine hK.out _ _ (fun _ => hS9) ?_
                      clear hK K hS own9 g9 at9 kp gz ls0 ls1 ls2 hE hf hp
                      have hS := hS9
                      refine Till.take (i := 17) (some 68) (v := ?_) rfl rfl (by as_aux_lemma => kernel_rfl) (by as_aux_lemma => kernel_rfl) (by as_aux_lemma => kernel_rfl) (by as_aux_lemma => kernel_rfl) (fun _ _ _ h => h) (Or.inl ⟨by kernel_rfl, ?_⟩) hS ?_
                      rotate_left
                      · intro w hSw; have x0 := cell_heap (j := 0) hSw.1; have x1 := cell_heap (j := 1) hSw.1; have x2 := cell_heap (j := 2) hSw.1; have x3 := cell_heap (j := 1) hSw.2; simp only [List.getElem?_toArray, List.getElem?_cons_zero, List.getElem?_cons_succ] at x0 x1 x2 x3; go_simp
                        first | done | with_reducible rfl
                      refine Till.ready (l := [18]) (by as_aux_lemma => kernel_rfl) (by simp) ?_
                      refine TillAll.cons rfl (fun K hK => ?_) TillAll.nil
                      have z1 : p8.cell? ⟨w.heap.size + 1 + 1, 1, none⟩ = some v2 := cell_heap hS9.2
                      have fz : p8.frozen? ⟨w.heap.size + 1 + 1, 1, none⟩ = false := frozen_of hS9.2
                      clear hS hS9
                      go_simp
                      go_wp2_with fail
                      refine hK.out _ _ (fun h => absurd rfl h) ?_
                      clear hK K z1 fz
                      refine Till.done (by kernel_rfl) ?_ _
                      go_simp
                      go_wp2
                      go_roundw
                      case rel => exact ⟨k + 1, _, _, by omega, by go_num, Lib.hid HE.out.1, Lib.hid HE.out.2.1, Lib.hid HE.out.2.2⟩
                      case measure => simp [intOf]; omega
            · go_simp
              go_wp2_with fail
              have q := (Below.refl p1.heap.size p1).alloc (Nat.le_refl _) (.cells #[] 36)
              replace em0 := em0.below q
              have em1 : Emp (p1.alloc (.cells #[] 36)) p1.heap.size 36 := heap_new p1 _
              have hg1 : wr.heap.size + 1 ≤ p1.heap.size := hp
              replace hS : RuBlk (p1.alloc (.cells #[] 36)) wr.heap.size r ∧ XBlk (p1.alloc (.cells #[] 36)) (w.heap.size + 1 + 1) v1 v2 pt rs := ⟨hS.1.below q, hS.2.below q⟩
              refine hK.out _ _ (fun _ => hS) ?_
              clear hK K
              replace hf := hf.trans (q.mono hf.size)
              replace hp := Nat.le_trans hp q.size
              clear q
              generalize p1.alloc (.cells #[] 36) = p2 at *
              refine Till.ready (l := [5, 10]) (by as_aux_lemma => kernel_rfl) (by simp) ?_
              refine TillAll.cons rfl (fun K hK => ?_) (TillAll.cons rfl (fun K hK => ?_) TillAll.nil)
              · refine step_clone 30 36 im _ 3 40 Tryd.underlying30 hm hm0 hm1 hm2 rfl (by decide) rfl _ _ rfl (wr.heap.size + 1) p0.heap.size rfl em0 hg0 r.sa r.src.length r.sc (rowM r.src) rfl (flat_len encM_len _) (mts_news (HM1.out.below hf (Nat.le_refl _))) rowM_one HN1.out (by omega) (by omega) ?_
                intro va p3 own q
                obtain ⟨a5, c5, rfl, lz⟩ := LstM.of own
                replace em1 := em1.below q
                have ls0 := lz
                replace hS : RuBlk p3 wr.heap.size r ∧ XBlk p3 (w.heap.size + 1 + 1) v1 v2 pt rs := ⟨hS.1.below q, hS.2.below q⟩
                refine hK.out _ _ (fun _ => hS) ?_
                clear hK K
                replace hf := hf.trans (q.mono hf.size)
                replace hp := Nat.le_trans hp q.size
                clear q own lz em0 hg0
                refine Till.ready (l := [9, 10]) (by as_aux_lemma => kernel_rfl) (by simp) ?_
                refine TillAll.cons rfl (fun K hK => ?_) (TillAll.cons rfl (fun K hK => ?_) TillAll.nil)
                · refine step_clone 30 36 im _ 3 40 Tryd.underlying30 hm hm0 hm1 hm2 rfl (by decide) rfl _ _ rfl (wr.heap.size + 1) p1.heap.size rfl em1 hg1 r.ta r.tgt.length r.tc (rowM r.tgt) rfl (flat_len encM_len _) (mts_news (HM2.out.below hf (Nat.le_refl _))) rowM_one HN2.out (by omega) (by omega) ?_
                  intro va p4 own q
                  obtain ⟨a9, c9, rfl, lz⟩ := LstM.of own
                  replace ls0 := ls0.below q
                  have ls1 := lz
                  replace hS : RuBlk p4 wr.heap.size r ∧ XBlk p4 (w.heap.size + 1 + 1) v1 v2 pt rs := ⟨hS.1.below q, hS.2.below q⟩
                  refine hK.out _ _ (fun _ => hS) ?_
                  clear hK K
                  replace hf := hf.trans (q.mono hf.size)
                  replace hp := Nat.le_trans hp q.size
                  clear q own lz em1 hg1
                  refine Till.ready (l := [10]) (by as_aux_lemma => kernel_rfl) (by simp) ?_
                  refine TillAll.cons rfl (fun K hK => ?_) TillAll.nil
                  · go_simp
                    go_wp2_with fail
                    have q := (Below.refl p4.heap.size p4).alloc (Nat.le_refl _) (.cells #[] 9)
                    replace ls0 := ls0.below q
                    replace ls1 := ls1.below q
                    have em2 : Emp (p4.alloc (.cells #[] 9)) p4.heap.size 9 := heap_new p4 _
                    have hg2 : wr.heap.size + 1 ≤ p4.heap.size := hp
                    replace hS : RuBlk (p4.alloc (.cells #[] 9)) wr.heap.size r ∧ XBlk (p4.alloc (.cells #[] 9)) (w.heap.size + 1 + 1) v1 v2 pt rs := ⟨hS.1.below q, hS.2.below q⟩
                    refine hK.out _ _ (fun _ => hS) ?_
                    clear hK K
                    replace hf := hf.trans (q.mono hf.size)
                    replace hp := Nat.le_trans hp q.size
                    clear q
                    generalize p4.alloc (.cells #[] 9) = p5 at *
                    refine Till.ready (l := [13]) (by as_aux_lemma => kernel_rfl) (by simp) ?_
                    refine TillAll.cons rfl (fun K hK => ?_) TillAll.nil
                    · refine step_clone 31 9 is _ 1 16 Tryd.underlying31 hs hs0 hs1 hs2 rfl (by decide) rfl _ _ rfl (wr.heap.size + 1) p4.heap.size rfl em2 hg2 r.ea r.eqs.length r.ec (r.eqs.map .string) rfl (by simp) (strs_news (HM3.out.below hf (Nat.le_refl _))) strs_one HN3.out (by omega) (by omega) ?_
                      intro va p6 own q
                      obtain ⟨a13, c13, rfl, lz⟩ := LstS.of own
                      replace ls0 := ls0.below q
                      replace ls1 := ls1.below q
                      have ls2 := lz
                      replace hS : RuBlk p6 wr.heap.size r ∧ XBlk p6 (w.heap.size + 1 + 1) v1 v2 pt rs := ⟨hS.1.below q, hS.2.below q⟩
                      refine hK.out _ _ (fun _ => hS) ?_
                      clear hK K
                      replace hf := hf.trans (q.mono hf.size)
                      replace hp := Nat.le_trans hp q.size
                      clear q own lz em2 hg2
                      refine Till.take (i := 14) (some 65) (v := ?_) rfl rfl (by as_aux_lemma => kernel_rfl) (by as_aux_lemma => kernel_rfl) (by as_aux_lemma => kernel_rfl) (by as_aux_lemma => kernel_rfl) (fun _ _ _ h => h) (Or.inl ⟨by kernel_rfl, ?_⟩) hS ?_
                      rotate_left
                      · intro w hSw; have x0 := cell_heap (j := 0) hSw.1; have x1 := cell_heap (j := 1) hSw.1; have x2 := cell_heap (j := 2) hSw.1; have x3 := cell_heap (j := 1) hSw.2; simp only [List.getElem?_toArray, List.getElem?_cons_zero, List.getElem?_cons_succ] at x0 x1 x2 x3; go_simp
                        first | done | with_reducible rfl
                      refine Till.ready (l := [15]) (by as_aux_lemma => kernel_rfl) (by simp) ?_
                      refine TillAll.cons rfl (fun K hK => ?_) TillAll.nil
                      go_simp
                      go_wp2_with fail
                      have q := (Below.refl p6.heap.size p6).alloc (Nat.le_refl _) (.cells #[.slice a5 r.src.length c5, .slice a9 r.tgt.length c9, .slice a13 r.eqs.length c13] 38)
                      have gz : (p6.alloc (.cells #[.slice a5 r.src.length c5, .slice a9 r.tgt.length c9, .slice a13 r.eqs.length c13] 38)).heap[p6.heap.size]? = some (.cells (encL { r with sa := a5, sc := c5, ta := a9, tc := c9, ea := a13, ec := c13 }).toArray 38 (0, 0)) := heap_new p6 _
                      replace ls0 := ls0.below q
                      replace ls1 := ls1.below q
                      replace ls2 := ls2.below q
                      replace hS : RuBlk (p6.alloc (.cells #[.slice a5 r.src.length c5, .slice a9 r.tgt.length c9, .slice a13 r.eqs.length c13] 38)) wr.heap.size r ∧ XBlk (p6.alloc (.cells #[.slice a5 r.src.length c5, .slice a9 r.tgt.length c9, .slice a13 r.eqs.length c13] 38)) (w.heap.size + 1 + 1) v1 v2 pt rs := ⟨hS.1.below q, hS.2.below q⟩
                      refine hK.out _ _ (fun _ => hS) ?_
                      clear hK K
                      replace hf := hf.trans (q.mono hf.size)
                      replace hp := Nat.le_trans hp q.size
                      clear q
                      generalize p6.alloc (.cells #[.slice a5 r.src.length c5, .slice a9 r.tgt.length c9, .slice a13 r.eqs.length c13] 38) = p7 at *
                      refine Till.ready (l := [16]) (by as_aux_lemma => kernel_rfl) (by simp) ?_
                      refine TillAll.cons rfl (fun K hK => ?_) TillAll.nil
                      refine step_own_at rfl _ _ 23 rfl wS.heap.size 38 il _ 3 72 Tryd.underlying23 hil hil0 hil1 hil2 rfl (by decide) v2 ls'.length (ls'.flatMap encL) rfl (HCl.out.below hf).2.1 ⟨p6.heap.size, 0, none⟩ 1 1 (encL { r with sa := a5, sc := c5, ta := a9, tc := c9, ea := a13, ec := c13 }) rfl (encL_len _) (cells_of_blk gz) encL_one (by have := HLk.out; omega) (by have := HLk.out; omega) (by have := HSz.out; omega) ?_
                      intro v9 p8 own9 g9 at9
                      have kp : ∀ j, (j = wr.heap.size ∨ j = w.heap.size + 1 + 1) → p8.heap[j]? = p7.heap[j]? := fun j hj => g9.block j (by have := HSz.out; omega) (fun e => by have := HVb.out j e.symm; omega)
                      have hS9 : RuBlk p8 wr.heap.size r ∧ XBlk p8 (w.heap.size + 1 + 1) v1 v2 pt rs := ⟨(kp _ (.inl rfl)).trans hS.1, (kp _ (.inr rfl)).trans hS.2⟩
                      have hE := rule_end HG.out hXS HCl.out hlt2 (HNm.out a5 c5 a9 c9 a13 c13) hf ls0 ls1 ls2 own9 g9 at9 hS9.2
                      have HE := Lib.hid hE
                      obtain ⟨n9, hn9⟩ : ∃ n, n = ls'.length + 1 := ⟨_, rfl⟩
                      rw [← hn9] at own9
                      obtain ⟨-, h0⟩ | ⟨g, cap, cur, rfl, -⟩ := own9.2
                      · omega
                      clear hn9
                      refine hK.out _ _ (fun _ => hS9) ?_
                      clear hK K hS own9 g9 at9 kp gz ls0 ls1 ls2 hE hf hp
                      have hS := hS9
                      refine Till.take (i := 17) (some 68) (v := ?_) rfl rfl (by as_aux_lemma => kernel_rfl) (by as_aux_lemma => kernel_rfl) (by as_aux_lemma => kernel_rfl) (by as_aux_lemma => kernel_rfl) (fun _ _ _ h => h) (Or.inl ⟨by kernel_rfl, ?_⟩) hS ?_
                      rotate_left
                      · intro w hSw; have x0 := cell_heap (j := 0) hSw.1; have x1 := cell_heap (j := 1) hSw.1; have x2 := cell_heap (j := 2) hSw.1; have x3 := cell_heap (j := 1) hSw.2; simp only [List.getElem?_toArray, List.getElem?_cons_zero, List.getElem?_cons_succ] at x0 x1 x2 x3; go_simp
                        first | done | with_reducible rfl
                      refine Till.ready (l := [18]) (by as_aux_lemma => kernel_rfl) (by simp) ?_
                      refine TillAll.cons rfl (fun K hK => ?_) TillAll.nil
                      have z1 : p8.cell? ⟨w.heap.size + 1 + 1, 1, none⟩ = some v2 := cell_heap hS9.2
                      have fz : p8.frozen? ⟨w.heap.size + 1 + 1, 1, none⟩ = false := frozen_of hS9.2
                      clear hS hS9
                      go_simp
                      go_wp2_with fail
                      refine hK.out _ _ (fun h => absurd rfl h) ?_
                      clear hK K z1 fz
                      refine Till.done (by kernel_rfl) ?_ _
                      go_simp
                      go_wp2
                      go_roundw
                      case rel => exact ⟨k + 1, _, _, by omega, by go_num, Lib.hid HE.out.1, Lib.hid HE.out.2.1, Lib.hid HE.out.2.2⟩
                      case measure => simp [intOf]; omega
                · go_simp
                  go_wp2_with fail
                  have q := (Below.refl p3.heap.size p3).alloc (Nat.le_refl _) (.cells #[] 9)
                  replace ls0 := ls0.below q
                  replace em1 := em1.below q
                  have em2 : Emp (p3.alloc (.cells #[] 9)) p3.heap.size 9 := heap_new p3 _
                  have hg2 : wr.heap.size + 1 ≤ p3.heap.size := hp
                  replace hS : RuBlk (p3.alloc (.cells #[] 9)) wr.heap.size r ∧ XBlk (p3.alloc (.cells #[] 9)) (w.heap.size + 1 + 1) v1 v2 pt rs := ⟨hS.1.below q, hS.2.below q⟩
                  refine hK.out _ _ (fun _ => hS) ?_
                  clear hK K
                  replace hf := hf.trans (q.mono hf.size)
                  replace hp := Nat.le_trans hp q.size
                  clear q
                  generalize p3.alloc (.cells #[] 9) = p4 at *
                  refine Till.ready (l := [9]) (by as_aux_lemma => kernel_rfl) (by simp) ?_
                  refine TillAll.cons rfl (fun K hK => ?_) TillAll.nil
                  · refine step_clone 30 36 im _ 3 40 Tryd.underlying30 hm hm0 hm1 hm2 rfl (by decide) rfl _ _ rfl (wr.heap.size + 1) p1.heap.size rfl em1 hg1 r.ta r.tgt.length r.tc (rowM r.tgt) rfl (flat_len encM_len _) (mts_news (HM2.out.below hf (Nat.le_refl _))) rowM_one HN2.out (by omega) (by omega) ?_
                    intro va p5 own q
                    obtain ⟨a9, c9, rfl, lz⟩ := LstM.of own
                    replace ls0 := ls0.below q
                    replace em2 := em2.below q
                    have ls1 := lz
                    replace hS : RuBlk p5 wr.heap.size r ∧ XBlk p5 (w.heap.size + 1 + 1) v1 v2 pt rs := ⟨hS.1.below q, hS.2.below q⟩
                    refine hK.out _ _ (fun _ => hS) ?_
                    clear hK K
                    replace hf := hf.trans (q.mono hf.size)
                    replace hp := Nat.le_trans hp q.size
                    clear q own lz em1 hg1
                    refine Till.ready (l := [13]) (by as_aux_lemma => kernel_rfl) (by simp) ?_
                    refine TillAll.cons rfl (fun K hK => ?_) TillAll.nil
                    · refine step_clone 31 9 is _ 1 16 Tryd.underlying31 hs hs0 hs1 hs2 rfl (by decide) rfl _ _ rfl (wr.heap.size + 1) p3.heap.size rfl em2 hg2 r.ea r.eqs.length r.ec (r.eqs.map .string) rfl (by simp) (strs_news (HM3.out.below hf (Nat.le_refl _))) strs_one HN3.out (by omega) (by omega) ?_
                      intro va p6 own q
                      obtain ⟨a13, c13, rfl, lz⟩ := LstS.of own
                      replace ls0 := ls0.below q
                      replace ls1 := ls1.below q
                      have ls2 := lz
                      replace hS : RuBlk p6 wr.heap.size r ∧ XBlk p6 (w.heap.size + 1 + 1) v1 v2 pt rs := ⟨hS.1.below q, hS.2.below q⟩
                      refine hK.out _ _ (fun _ => hS) ?_
                      clear hK K
                      replace hf := hf.trans (q.mono hf.size)
                      replace hp := Nat.le_trans hp q.size
                      clear q own lz em2 hg2
                      refine Till.take (i := 14) (some 65) (v := ?_) rfl rfl (by as_aux_lemma => kernel_rfl) (by as_aux_lemma => kernel_rfl) (by as_aux_lemma => kernel_rfl) (by as_aux_lemma => kernel_rfl) (fun _ _ _ h => h) (Or.inl ⟨by kernel_rfl, ?_⟩) hS ?_
                      rotate_left
                      · intro w hSw; have x0 := cell_heap (j := 0) hSw.1; have x1 := cell_heap (j := 1) hSw.1; have x2 := cell_heap (j := 2) hSw.1; have x3 := cell_heap (j := 1) hSw.2; simp only [List.getElem?_toArray, List.getElem?_cons_zero, List.getElem?_cons_succ] at x0 x1 x2 x3; go_simp
                        first | done | with_reducible rfl
                      refine Till.ready (l := [15]) (by as_aux_lemma => kernel_rfl) (by simp) ?_
                      refine TillAll.cons rfl (fun K hK => ?_) TillAll.nil
                      go_simp
                      go_wp2_with fail
                      have q := (Below.refl p6.heap.size p6).alloc (Nat.le_refl _) (.cells #[.slice a5 r.src.length c5, .slice a9 r.tgt.length c9, .slice a13 r.eqs.length c13] 38)
                      have gz : (p6.alloc (.cells #[.slice a5 r.src.length c5, .slice a9 r.tgt.length c9, .slice a13 r.eqs.length c13] 38)).heap[p6.heap.size]? = some (.cells (encL { r with sa := a5, sc := c5, ta := a9, tc := c9, ea := a13, ec := c13 }).toArray 38 (0, 0)) := heap_new p6 _
                      replace ls0 := ls0.below q
                      replace ls1 := ls1.below q
                      replace ls2 := ls2.below q
                      replace hS : RuBlk (p6.alloc (.cells #[.slice a5 r.src.length c5, .slice a9 r.tgt.length c9, .slice a13 r.eqs.length c13] 38)) wr.heap.size r ∧ XBlk (p6.alloc (.cells #[.slice a5 r.src.length c5, .slice a9 r.tgt.length c9, .slice a13 r.eqs.length c13] 38)) (w.heap.size + 1 + 1) v1 v2 pt rs := ⟨hS.1.below q, hS.2.below q⟩
                      refine hK.out _ _ (fun _ => hS) ?_
                      clear hK K
                      replace hf := hf.trans (q.mono hf.size)
                      replace hp := Nat.le_trans hp q.size
                      clear q
                      generalize p6.alloc (.cells #[.slice a5 r.src.length c5, .slice a9 r.tgt.length c9, .slice a13 r.eqs.length c13] 38) = p7 at *
                      refine Till.ready (l := [16]) (by as_aux_lemma => kernel_rfl) (by simp) ?_
                      refine TillAll.cons rfl (fun K hK => ?_) TillAll.nil
                      refine step_own_at rfl _ _ 23 rfl wS.heap.size 38 il _ 3 72 Tryd.underlying23 hil hil0 hil1 hil2 rfl (by decide) v2 ls'.length (ls'.flatMap encL) rfl (HCl.out.below hf).2.1 ⟨p6.heap.size, 0, none⟩ 1 1 (encL { r with sa := a5, sc := c5, ta := a9, tc := c9, ea := a13, ec := c13 }) rfl (encL_len _) (cells_of_blk gz) encL_one (by have := HLk.out; omega) (by have := HLk.out; omega) (by have := HSz.out; omega) ?_
                      intro v9 p8 own9 g9 at9
                      have kp : ∀ j, (j = wr.heap.size ∨ j = w.heap.size + 1 + 1) → p8.heap[j]? = p7.heap[j]? := fun j hj => g9.block j (by have := HSz.out; omega) (fun e => by have := HVb.out j e.symm; omega)
                      have hS9 : RuBlk p8 wr.heap.size r ∧ XBlk p8 (w.heap.size + 1 + 1) v1 v2 pt rs := ⟨(kp _ (.inl rfl)).trans hS.1, (kp _ (.inr rfl)).trans hS.2⟩
                      have hE := rule_end HG.out hXS HCl.out hlt2 (HNm.out a5 c5 a9 c9 a13 c13) hf ls0 ls1 ls2 own9 g9 at9 hS9.2
                      have HE := Lib.hid hE
                      obtain ⟨n9, hn9⟩ : ∃ n, n = ls'.length + 1 := ⟨_, rfl⟩
                      rw [← hn9] at own9
                      obtain ⟨-, h0⟩ | ⟨g, cap, cur, rfl, -⟩ := own9.2
                      · omega
                      clear hn9
                      refine hK.out _ _ (fun _ => hS9) ?_
                      clear hK K hS own9 g9 at9 kp gz ls0 ls1 ls2 hE hf hp
                      have hS := hS9
                      refine Till.take (i := 17) (some 68) (v := ?_) rfl rfl (by as_aux_lemma => kernel_rfl) (by as_aux_lemma => kernel_rfl) (by as_aux_lemma => kernel_rfl) (by as_aux_lemma => kernel_rfl) (fun _ _ _ h => h) (Or.inl ⟨by kernel_rfl, ?_⟩) hS ?_
                      rotate_left
                      · intro w hSw; have x0 := cell_heap (j := 0) hSw.1; have x1 := cell_heap (j := 1) hSw.1; have x2 := cell_heap (j := 2) hSw.1; have x3 := cell_heap (j := 1) hSw.2; simp only [List.getElem?_toArray, List.getElem?_cons_zero, List.getElem?_cons_succ] at x0 x1 x2 x3; go_simp
                        first | done | with_reducible rfl
                      refine Till.ready (l := [18]) (by as_aux_lemma => kernel_rfl) (by simp) ?_
                      refine TillAll.cons rfl (fun K hK => ?_) TillAll.nil
                      have z1 : p8.cell? ⟨w.heap.size + 1 + 1, 1, none⟩ = some v2 := cell_heap hS9.2
                      have fz : p8.frozen? ⟨w.heap.size + 1 + 1, 1, none⟩ = false := frozen_of hS9.2
                      clear hS hS9
                      go_simp
                      go_wp2_with fail
                      refine hK.out _ _ (fun h => absurd rfl h) ?_
                      clear hK K z1 fz
                      refine Till.done (by kernel_rfl) ?_ _
                      go_simp
                      go_wp2
                      go_roundw
                      case rel => exact ⟨k + 1, _, _, by omega, by go_num, Lib.hid HE.out.1, Lib.hid HE.out.2.1, Lib.hid HE.out.2.2⟩
                      case measure => simp [intOf]; omega
              · go_simp
                go_wp2_with fail
                have q := (Below.refl p2.heap.size p2).alloc (Nat.le_refl _) (.cells #[] 9)
                replace em0 := em0.below q
                replace em1 := em1.below q
                have em2 : Emp (p2.alloc (.cells #[] 9)) p2.heap.size 9 := heap_new p2 _
                have hg2 : wr.heap.size + 1 ≤ p2.heap.size := hp
                replace hS : RuBlk (p2.alloc (.cells #[] 9)) wr.heap.size r ∧ XBlk (p2.alloc (.cells #[] 9)) (w.heap.size + 1 + 1) v1 v2 pt rs := ⟨hS.1.below q, hS.2.below q⟩
                refine hK.out _ _ (fun _ => hS) ?_
                clear hK K
                replace hf := hf.trans (q.mono hf.size)
                replace hp := Nat.le_trans hp q.size
                clear q
                generalize p2.alloc (.cells #[] 9) = p3 at *
                refine Till.ready (l := [5]) (by as_aux_lemma => kernel_rfl) (by simp) ?_
                refine TillAll.cons rfl (fun K hK => ?_) TillAll.nil
                · refine step_clone 30 36 im _ 3 40 Tryd.underlying30 hm hm0 hm1 hm2 rfl (by decide) rfl _ _ rfl (wr.heap.size + 1) p0.heap.size rfl em0 hg0 r.sa r.src.length r.sc (rowM r.src) rfl (flat_len encM_len _) (mts_news (HM1.out.below hf (Nat.le_refl _))) rowM_one HN1.out (by omega) (by omega) ?_
                  intro va p4 own q
                  obtain ⟨a5, c5, rfl, lz⟩ := LstM.of own
                  replace em1 := em1.below q
                  replace em2 := em2.below q
                  have ls0 := lz
                  replace hS : RuBlk p4 wr.heap.size r ∧ XBlk p4 (w.heap.size + 1 + 1) v1 v2 pt rs := ⟨hS.1.below q, hS.2.below q⟩
                  refine hK.out _ _ (fun _ => hS) ?_
                  clear hK K
                  replace hf := hf.trans (q.mono hf.size)
                  replace hp := Nat.le_trans hp q.size
                  clear q own lz em0 hg0
                  refine Till.ready (l := [9]) (by as_aux_lemma => kernel_rfl) (by simp) ?_
                  refine TillAll.cons rfl (fun K hK => ?_) TillAll.nil
                  · refine step_clone 30 36 im _ 3 40 Tryd.underlying30 hm hm0 hm1 hm2 rfl (by decide) rfl _ _ rfl (wr.heap.size + 1) p1.heap.size rfl em1 hg1 r.ta r.tgt.length r.tc (rowM r.tgt) rfl (flat_len encM_len _) (mts_news (HM2.out.below hf (Nat.le_refl _))) rowM_one HN2.out (by omega) (by omega) ?_
                    intro va p5 own q
                    obtain ⟨a9, c9, rfl, lz⟩ := LstM.of own
                    replace ls0 := ls0.below q
                    replace em2 := em2.below q
                    have ls1 := lz
                    replace hS : RuBlk p5 wr.heap.size r ∧ XBlk p5 (w.heap.size + 1 + 1) v1 v2 pt rs := ⟨hS.1.below q, hS.2.below q⟩
                    refine hK.out _ _ (fun _ => hS) ?_
                    clear hK K
                    replace hf := hf.trans (q.mono hf.size)
                    replace hp := Nat.le_trans hp q.size
                    clear q own lz em1 hg1
                    refine Till.ready (l := [13]) (by as_aux_lemma => kernel_rfl) (by simp) ?_
                    refine TillAll.cons rfl (fun K hK => ?_) TillAll.nil
                    · refine step_clone 31 9 is _ 1 16 Tryd.underlying31 hs hs0 hs1 hs2 rfl (by decide) rfl _ _ rfl (wr.heap.size + 1) p2.heap.size rfl em2 hg2 r.ea r.eqs.length r.ec (r.eqs.map .string) rfl (by simp) (strs_news (HM3.out.below hf (Nat.le_refl _))) strs_one HN3.out (by omega) (by omega) ?_
                      intro va p6 own q
                      obtain ⟨a13, c13, rfl, lz⟩ := LstS.of own
                      replace ls0 := ls0.below q
                      replace ls1 := ls1.below q
                      have ls2 := lz
                      replace hS : RuBlk p6 wr.heap.size r ∧ XBlk p6 (w.heap.size + 1 + 1) v1 v2 pt rs := ⟨hS.1.below q, hS.2.below q⟩
                      refine hK.out _ _ (fun _ => hS) ?_
                      clear hK K
                      replace hf := hf.trans (q.mono hf.size)
                      replace hp := Nat.le_trans hp q.size
                      clear q own lz em2 hg2
                      refine Till.take (i := 14) (some 65) (v := ?_) rfl rfl (by as_aux_lemma => kernel_rfl) (by as_aux_lemma => kernel_rfl) (by as_aux_lemma => kernel_rfl) (by as_aux_lemma => kernel_rfl) (fun _ _ _ h => h) (Or.inl ⟨by kernel_rfl, ?_⟩) hS ?_
                      rotate_left
                      · intro w hSw; have x0 := cell_heap (j := 0) hSw.1; have x1 := cell_heap (j := 1) hSw.1; have x2 := cell_heap (j := 2) hSw.1; have x3 := cell_heap (j := 1) hSw.2; simp only [List.getElem?_toArray, List.getElem?_cons_zero, List.getElem?_cons_succ] at x0 x1 x2 x3; go_simp
                        first | done | with_reducible rfl
                      refine Till.ready (l := [15]) (by as_aux_lemma => kernel_rfl) (by simp) ?_
                      refine TillAll.cons rfl (fun K hK => ?_) TillAll.nil
                      go_simp
                      go_wp2_with fail
                      have q := (Below.refl p6.heap.size p6).alloc (Nat.le_refl _) (.cells #[.slice a5 r.src.length c5, .slice a9 r.tgt.length c9, .slice a13 r.eqs.length c13] 38)
                      have gz : (p6.alloc (.cells #[.slice a5 r.src.length c5, .slice a9 r.tgt.length c9, .slice a13 r.eqs.length c13] 38)).heap[p6.heap.size]? = some (.cells (encL { r with sa := a5, sc := c5, ta := a9, tc := c9, ea := a13, ec := c13 }).toArray 38 (0, 0)) := heap_new p6 _
                      replace ls0 := ls0.below q
                      replace ls1 := ls1.below q
                      replace ls2 := ls2.below q
                      replace hS : RuBlk (p6.alloc (.cells #[.slice a5 r.src.length c5, .slice a9 r.tgt.length c9, .slice a13 r.eqs.length c13] 38)) wr.heap.size r ∧ XBlk (p6.alloc (.cells #[.slice a5 r.src.length c5, .slice a9 r.tgt.length c9, .slice a13 r.eqs.length c13] 38)) (w.heap.size + 1 + 1) v1 v2 pt rs := ⟨hS.1.below q, hS.2.below q⟩
                      refine hK.out _ _ (fun _ => hS) ?_
                      clear hK K
                      replace hf := hf.trans (q.mono hf.size)
                      replace hp := Nat.le_trans hp q.size
                      clear q
                      generalize p6.alloc (.cells #[.slice a5 r.src.length c5, .slice a9 r.tgt.length c9, .slice a13 r.eqs.length c13] 38) = p7 at *
                      refine Till.ready (l := [16]) (by as_aux_lemma => kernel_rfl) (by simp) ?_
                      refine TillAll.cons rfl (fun K hK => ?_) TillAll.nil
                      refine step_own_at rfl _ _ 23 rfl wS.heap.size 38 il _ 3 72 Tryd.underlying23 hil hil0 hil1 hil2 rfl (by decide) v2 ls'.length (ls'.flatMap encL) rfl (HCl.out.below hf).2.1 ⟨p6.heap.size, 0, none⟩ 1 1 (encL { r with sa := a5, sc := c5, ta := a9, tc := c9, ea := a13, ec := c13 }) rfl (encL_len _) (cells_of_blk gz) encL_one (by have := HLk.out; omega) (by have := HLk.out; omega) (by have := HSz.out; omega) ?_
                      intro v9 p8 own9 g9 at9
                      have kp : ∀ j, (j = wr.heap.size ∨ j = w.heap.size + 1 + 1) → p8.heap[j]? = p7.heap[j]? := fun j hj => g9.block j (by have := HSz.out; omega) (fun e => by have := HVb.out j e.symm; omega)
                      have hS9 : RuBlk p8 wr.heap.size r ∧ XBlk p8 (w.heap.size + 1 + 1) v1 v2 pt rs := ⟨(kp _ (.inl rfl)).trans hS.1, (kp _ (.inr rfl)).trans hS.2⟩
                      have hE := rule_end HG.out hXS HCl.out hlt2 (HNm.out a5 c5 a9 c9 a13 c13) hf ls0 ls1 ls2 own9 g9 at9 hS9.2
                      have HE := Lib.hid hE
                      obtain ⟨n9, hn9⟩ : ∃ n, n = ls'.length + 1 := ⟨_, rfl⟩
                      rw [← hn9] at own9
                      obtain ⟨-, h0⟩ | ⟨g, cap, cur, rfl, -⟩ := own9.2
                      · omega
                      clear hn9
                      refine hK.out _ _ (fun _ => hS9) ?_
                      clear hK K hS own9 g9 at9 kp gz ls0 ls1 ls2 hE hf hp
                      have hS := hS9
                      refine Till.take (i := 17) (some 68) (v := ?_) rfl rfl (by as_aux_lemma => kernel_rfl) (by as_aux_lemma => kernel_rfl) (by as_aux_lemma => kernel_rfl) (by as_aux_lemma => kernel_rfl) (fun _ _ _ h => h) (Or.inl ⟨by kernel_rfl, ?_⟩) hS ?_
                      rotate_left
                      · intro w hSw; have x0 := cell_heap (j := 0) hSw.1; have x1 := cell_heap (j := 1) hSw.1; have x2 := cell_heap (j := 2) hSw.1; have x3 := cell_heap (j := 1) hSw.2; simp only [List.getElem?_toArray, List.getElem?_cons_zero, List.getElem?_cons_succ] at x0 x1 x2 x3; go_simp
                        first | done | with_reducible rfl
                      refine Till.ready (l := [18]) (by as_aux_lemma => kernel_rfl) (by simp) ?_
                      refine TillAll.cons rfl (fun K hK => ?_) TillAll.nil
                      have z1 : p8.cell? ⟨w.heap.size + 1 + 1, 1, none⟩ = some v2 := cell_heap hS9.2
                      have fz : p8.frozen? ⟨w.heap.size + 1 + 1, 1, none⟩ = false := frozen_of hS9.2
                      clear hS hS9
                      go_simp
                      go_wp2_with fail
                      refine hK.out _ _ (fun h => absurd rfl h) ?_
                      clear hK K z1 fz
                      refine Till.done (by kernel_rfl) ?_ _
                      go_simp
                      go_wp2
                      go_roundw
                      case rel => exact ⟨k + 1, _, _, by omega, by go_num, Lib.hid HE.out.1, Lib.hid HE.out.2.1, Lib.hid HE.out.2.2⟩
                      case measure => simp [intOf]; omega
            · go_simp
              go_wp2_with fail
              have q := (Below.refl p1.heap.size p1).alloc (Nat.le_refl _) (.cells #[] 9)
              replace em0 := em0.below q
              have em2 : Emp (p1.alloc (.cells #[] 9)) p1.heap.size 9 := heap_new p1 _
              have hg2 : wr.heap.size + 1 ≤ p1.heap.size := hp
              replace hS : RuBlk (p1.alloc (.cells #[] 9)) wr.heap.size r ∧ XBlk (p1.alloc (.cells #[] 9)) (w.heap.size + 1 + 1) v1 v2 pt rs := ⟨hS.1.below q, hS.2.below q⟩
              refine hK.out _ _ (fun _ => hS) ?_
              clear hK K
              replace hf := hf.trans (q.mono hf.size)
              replace hp := Nat.le_trans hp q.size
              clear q
              generalize p1.alloc (.cells #[] 9) = p2 at *
              refine Till.ready (l := [5, 6]) (by as_aux_lemma => kernel_rfl) (by simp) ?_
              refine TillAll.cons rfl (fun K hK => ?_) (TillAll.cons rfl (fun K hK => ?_) TillAll.nil)
              · refine step_clone 30 36 im _ 3 40 Tryd.underlying30 hm hm0 hm1 hm2 rfl (by decide) rfl _ _ rfl (wr.heap.size + 1) p0.heap.size rfl em0 hg0 r.sa r.src.length r.sc (rowM r.src) rfl (flat_len encM_len _) (mts_news (HM1.out.below hf (Nat.le_refl _))) rowM_one HN1.out (by omega) (by omega) ?_
                intro va p3 own q
                obtain ⟨a5, c5, rfl, lz⟩ := LstM.of own
                replace em2 := em2.below q
                have ls0 := lz
                replace hS : RuBlk p3 wr.heap.size r ∧ XBlk p3 (w.heap.size + 1 + 1) v1 v2 pt rs := ⟨hS.1.below q, hS.2.below q⟩
                refine hK.out _ _ (fun _ => hS) ?_
                clear hK K
                replace hf := hf.trans (q.mono hf.size)
                replace hp := Nat.le_trans hp q.size
                clear q own lz em0 hg0
                refine Till.ready (l := [6]) (by as_aux_lemma => kernel_rfl) (by simp) ?_
                refine TillAll.cons rfl (fun K hK => ?_) TillAll.nil
                · go_simp
                  go_wp2_with fail
                  have q := (Below.refl p3.heap.size p3).alloc (Nat.le_refl _) (.cells #[] 36)
                  replace ls0 := ls0.below q
                  replace em2 := em2.below q
                  have em1 : Emp (p3.alloc (.cells #[] 36)) p3.heap.size 36 := heap_new p3 _
                  have hg1 : wr.heap.size + 1 ≤ p3.heap.size := hp
                  replace hS : RuBlk (p3.alloc (.cells #[] 36)) wr.heap.size r ∧ XBlk (p3.alloc (.cells #[] 36)) (w.heap.size + 1 + 1) v1 v2 pt rs := ⟨hS.1.below q, hS.2.below q⟩
                  refine hK.out _ _ (fun _ => hS) ?_
                  clear hK K
                  replace hf := hf.trans (q.mono hf.size)
                  replace hp := Nat.le_trans hp q.size
                  clear q
                  generalize p3.alloc (.cells #[] 36) = p4 at *
                  refine Till.ready (l := [9]) (by as_aux_lemma => kernel_rfl) (by simp) ?_
                  refine TillAll.cons rfl (fun K hK => ?_) TillAll.nil
                  · refine step_clone 30 36 im _ 3 40 Tryd.underlying30 hm hm0 hm1 hm2 rfl (by decide) rfl _ _ rfl (wr.heap.size + 1) p3.heap.size rfl em1 hg1 r.ta r.tgt.length r.tc (rowM r.tgt) rfl (flat_len encM_len _) (mts_news (HM2.out.below hf (Nat.le_refl _))) rowM_one HN2.out (by omega) (by omega) ?_
                    intro va p5 own q
                    obtain ⟨a9, c9, rfl, lz⟩ := LstM.of own
                    replace ls0 := ls0.below q
                    replace em2 := em2.below q
                    have ls1 := lz
                    replace hS : RuBlk p5 wr.heap.size r ∧ XBlk p5 (w.heap.size + 1 + 1) v1 v2 pt rs := ⟨hS.1.below q, hS.2.below q⟩
                    refine hK.out _ _ (fun _ => hS) ?_
                    clear hK K
                    replace hf := hf.trans (q.mono hf.size)
                    replace hp := Nat.le_trans hp q.size
                    clear q own lz em1 hg1
                    refine Till.ready (l := [13]) (by as_aux_lemma => kernel_rfl) (by simp) ?_
                    refine TillAll.cons rfl (fun K hK => ?_) TillAll.nil
                    · refine step_clone 31 9 is _ 1 16 Tryd.underlying31 hs hs0 hs1 hs2 rfl (by decide) rfl _ _ rfl (wr.heap.size + 1) p1.heap.size rfl em2 hg2 r.ea r.eqs.length r.ec (r.eqs.map .string) rfl (by simp) (strs_news (HM3.out.below hf (Nat.le_refl _))) strs_one HN3.out (by omega) (by omega) ?_
                      intro va p6 own q
                      obtain ⟨a13, c13, rfl, lz⟩ := LstS.of own
                      replace ls0 := ls0.below q
                      replace ls1 := ls1.below q
                      have ls2 := lz
                      replace hS : RuBlk p6 wr.heap.size r ∧ XBlk p6 (w.heap.size + 1 + 1) v1 v2 pt rs := ⟨hS.1.below q, hS.2.below q⟩
                      refine hK.out _ _ (fun _ => hS) ?_
                      clear hK K
                      replace hf := hf.trans (q.mono hf.size)
                      replace hp := Nat.le_trans hp q.size
                      clear q own lz em2 hg2
                      refine Till.take (i := 14) (some 65) (v := ?_) rfl rfl (by as_aux_lemma => kernel_rfl) (by as_aux_lemma => kernel_rfl) (by as_aux_lemma => kernel_rfl) (by as_aux_lemma => kernel_rfl) (fun _ _ _ h => h) (Or.inl ⟨by kernel_rfl, ?_⟩) hS ?_
                      rotate_left
                      · intro w hSw; have x0 := cell_heap (j := 0) hSw.1; have x1 := cell_heap (j := 1) hSw.1; have x2 := cell_heap (j := 2) hSw.1; have x3 := cell_heap (j := 1) hSw.2; simp only [List.getElem?_toArray, List.getElem?_cons_zero, List.getElem?_cons_succ] at x0 x1 x2 x3; go_simp
                        first | done | with_reducible rfl
                      refine Till.ready (l := [15]) (by as_aux_lemma => kernel_rfl) (by simp) ?_
                      refine TillAll.cons rfl (fun K hK => ?_) TillAll.nil
                      go_simp
                      go_wp2_with fail
                      have q := (Below.refl p6.heap.size p6).alloc (Nat.le_refl _) (.cells #[.slice a5 r.src.length c5, .slice a9 r.tgt.length c9, .slice a13 r.eqs.length c13] 38)
                      have gz : (p6.alloc (.cells #[.slice a5 r.src.length c5, .slice a9 r.tgt.length c9, .slice a13 r.eqs.length c13] 38)).heap[p6.heap.size]? = some (.cells (encL { r with sa := a5, sc := c5, ta := a9, tc := c9, ea := a13, ec := c13 }).toArray 38 (0, 0)) := heap_new p6 _
                      replace ls0 := ls0.below q
                      replace ls1 := ls1.below q
                      replace ls2 := ls2.below q
                      replace hS : RuBlk (p6.alloc (.cells #[.slice a5 r.src.length c5, .slice a9 r.tgt.length c9, .slice a13 r.eqs.length c13] 38)) wr.heap.size r ∧ XBlk (p6.alloc (.cells #[.slice a5 r.src.length c5, .slice a9 r.tgt.length c9, .slice a13 r.eqs.length c13] 38)) (w.heap.size + 1 + 1) v1 v2 pt rs := ⟨hS.1.below q, hS.2.below q⟩
                      refine hK.out _ _ (fun _ => hS) ?_
                      clear hK K
                      replace hf := hf.trans (q.mono hf.size)
                      replace hp := Nat.le_trans hp q.size
                      clear q
                      generalize p6.alloc (.cells #[.slice a5 r.src.length c5, .slice a9 r.tgt.length c9, .slice a13 r.eqs.length c13] 38) = p7 at *
                      refine Till.ready (l := [16]) (by as_aux_lemma => kernel_rfl) (by simp) ?_
                      refine TillAll.cons rfl (fun K hK => ?_) TillAll.nil
                      refine step_own_at rfl _ _ 23 rfl wS.heap.size 38 il _ 3 72 Tryd.underlying23 hil hil0 hil1 hil2 rfl (by decide) v2 ls'.length (ls'.flatMap encL) rfl (HCl.out.below hf).2.1 ⟨p6.heap.size, 0, none⟩ 1 1 (encL { r with sa := a5, sc := c5, ta := a9, tc := c9, ea := a13, ec := c13 }) rfl (encL_len _) (cells_of_blk gz) encL_one (by have := HLk.out; omega) (by have := HLk.out; omega) (by have := HSz.out; omega) ?_
                      intro v9 p8 own9 g9 at9
                      have kp : ∀ j, (j = wr.heap.size ∨ j = w.heap.size + 1 + 1) → p8.heap[j]? = p7.heap[j]? := fun j hj => g9.block j (by have := HSz.out; omega) (fun e => by have := HVb.out j e.symm; omega)
                      have hS9 : RuBlk p8 wr.heap.size r ∧ XBlk p8 (w.heap.size + 1 + 1) v1 v2 pt rs := ⟨(kp _ (.inl rfl)).trans hS.1, (kp _ (.inr rfl)).trans hS.2⟩
                      have hE := rule_end HG.out hXS HCl.out hlt2 (HNm.out a5 c5 a9 c9 a13 c13) hf ls0 ls1 ls2 own9 g9 at9 hS9.2
                      have HE := Lib.hid hE
                      obtain ⟨n9, hn9⟩ : ∃ n, n = ls'.length + 1 := ⟨_, rfl⟩
                      rw [← hn9] at own9
                      obtain ⟨-, h0⟩ | ⟨g, cap, cur, rfl, -⟩ := own9.2
                      · omega
                      clear hn9
                      refine hK.out _ _ (fun _ => hS9) ?_
                      clear hK K hS own9 g9 at9 kp gz ls0 ls1 ls2 hE hf hp
                      have hS := hS9
                      refine Till.take (i := 17) (some 68) (v := ?_) rfl rfl (by as_aux_lemma => kernel_rfl) (by as_aux_lemma => kernel_rfl) (by as_aux_lemma => kernel_rfl) (by as_aux_lemma => kernel_rfl) (fun _ _ _ h => h) (Or.inl ⟨by kernel_rfl, ?_⟩) hS ?_
                      rotate_left
                      · intro w hSw; have x0 := cell_heap (j := 0) hSw.1; have x1 := cell_heap (j := 1) hSw.1; have x2 := cell_heap (j := 2) hSw.1; have x3 := cell_heap (j := 1) hSw.2; simp only [List.getElem?_toArray, List.getElem?_cons_zero, List.getElem?_cons_succ] at x0 x1 x2 x3; go_simp
                        first | done | with_reducible rfl
                      refine Till.ready (l := [18]) (by as_aux_lemma => kernel_rfl) (by simp) ?_
                      refine TillAll.cons rfl (fun K hK => ?_) TillAll.nil
                      have z1 : p8.cell? ⟨w.heap.size + 1 + 1, 1, none⟩ = some v2 := cell_heap hS9.2
                      have fz : p8.frozen? ⟨w.heap.size + 1 + 1, 1, none⟩ = false := frozen_of hS9.2
                      clear hS hS9
                      go_simp
                      go_wp2_with fail
                      refine hK.out _ _ (fun h => absurd rfl h) ?_
                      clear hK K z1 fz
                      refine Till.done (by kernel_rfl) ?_ _
                      go_simp
                      go_wp2
                      go_roundw
                      case rel => exact ⟨k + 1, _, _, by omega, by go_num, Lib.hid HE.out.1, Lib.hid HE.out.2.1, Lib.hid HE.out.2.2⟩
                      case measure => simp [intOf]; omega
              · go_simp
                go_wp2_with fail
                have q := (Below.refl p2.heap.size p2).alloc (Nat.le_refl _) (.cells #[] 36)
                replace em0 := em0.below q
                replace em2 := em2.below q
                have em1 : Emp (p2.alloc (.cells #[] 36)) p2.heap.size 36 := heap_new p2 _
                have hg1 : wr.heap.size + 1 ≤ p2.heap.size := hp
                replace hS : RuBlk (p2.alloc (.cells #[] 36)) wr.heap.size r ∧ XBlk (p2.alloc (.cells #[] 36)) (w.heap.size + 1 + 1) v1 v2 pt rs := ⟨hS.1.below q, hS.2.below q⟩
                refine hK.out _ _ (fun _ => hS) ?_
                clear hK K
                replace hf := hf.trans (q.mono hf.size)
                replace hp := Nat.le_trans hp q.size
                clear q
                generalize p2.alloc (.cells #[] 36) = p3 at *
                refine Till.ready (l := [5]) (by as_aux_lemma => kernel_rfl) (by simp) ?_
                refine TillAll.cons rfl (fun K hK => ?_) TillAll.nil
                · refine step_clone 30 36 im _ 3 40 Tryd.underlying30 hm hm0 hm1 hm2 rfl (by decide) rfl _ _ rfl (wr.heap.size + 1) p0.heap.size rfl em0 hg0 r.sa r.src.length r.sc (rowM r.src) rfl (flat_len encM_len _) (mts_news (HM1.out.below hf (Nat.le_refl _))) rowM_one HN1.out (by omega) (by omega) ?_
                  intro va p4 own q
                  obtain ⟨a5, c5, rfl, lz⟩ := LstM.of own
                  replace em1 := em1.below q
                  replace em2 := em2.below q
                  have ls0 := lz
                  replace hS : RuBlk p4 wr.heap.size r ∧ XBlk p4 (w.heap.size + 1 + 1) v1 v2 pt rs := ⟨hS.1.below q, hS.2.below q⟩
                  refine hK.out _ _ (fun _ => hS) ?_
                  clear hK K
                  replace hf := hf.trans (q.mono hf.size)
                  replace hp := Nat.le_trans hp q.size
                  clear q own lz em0 hg0
                  refine Till.ready (l := [9]) (by as_aux_lemma => kernel_rfl) (by simp) ?_
                  refine TillAll.cons rfl (fun K hK => ?_) TillAll.nil
                  · refine step_clone 30 36 im _ 3 40 Tryd.underlying30 hm hm0 hm1 hm2 rfl (by decide) rfl _ _ rfl (wr.heap.size + 1) p2.heap.size rfl em1 hg1 r.ta r.tgt.length r.tc (rowM r.tgt) rfl (flat_len encM_len _) (mts_news (HM2.out.below hf (Nat.le_refl _))) rowM_one HN2.out (by omega) (by omega) ?_
                    intro va p5 own q
                    obtain ⟨a9, c9, rfl, lz⟩ := LstM.of own
                    replace ls0 := ls0.below q
                    replace em2 := em2.below q
                    have ls1 := lz
                    replace hS : RuBlk p5 wr.heap.size r ∧ XBlk p5 (w.heap.size + 1 + 1) v1 v2 pt rs := ⟨hS.1.below q, hS.2.below q⟩
                    refine hK.out _ _ (fun _ => hS) ?_
                    clear hK K
                    replace hf := hf.trans (q.mono hf.size)
                    replace hp := Nat.le_trans hp q.size
                    clear q own lz em1 hg1
                    refine Till.ready (l := [13]) (by as_aux_lemma => kernel_rfl) (by simp) ?_
                    refine TillAll.cons rfl (fun K hK => ?_) TillAll.nil
                    · refine step_clone 31 9 is _ 1 16 Tryd.underlying31 hs hs0 hs1 hs2 rfl (by decide) rfl _ _ rfl (wr.heap.size + 1) p1.heap.size rfl em2 hg2 r.ea r.eqs.length r.ec (r.eqs.map .string) rfl (by simp) (strs_news (HM3.out.below hf (Nat.le_refl _))) strs_one HN3.out (by omega) (by omega) ?_
                      intro va p6 own q
                      obtain ⟨a13, c13, rfl, lz⟩ := LstS.of own
                      replace ls0 := ls0.below q
                      replace ls1 := ls1.below q
                      have ls2 := lz
                      replace hS : RuBlk p6 wr.heap.size r ∧ XBlk p6 (w.heap.size + 1 + 1) v1 v2 pt rs := ⟨hS.1.below q, hS.2.below q⟩
                      refine hK.out _ _ (fun _ => hS) ?_
                      clear hK K
                      replace hf := hf.trans (q.mono hf.size)
                      replace hp := Nat.le_trans hp q.size
                      clear q own lz em2 hg2
                      refine Till.take (i := 14) (some 65) (v := ?_) rfl rfl (by as_aux_lemma => kernel_rfl) (by as_aux_lemma => kernel_rfl) (by as_aux_lemma => kernel_rfl) (by as_aux_lemma => kernel_rfl) (fun _ _ _ h => h) (Or.inl ⟨by kernel_rfl, ?_⟩) hS ?_
                      rotate_left
                      · intro w hSw; have x0 := cell_heap (j := 0) hSw.1; have x1 := cell_heap (j := 1) hSw.1; have x2 := cell_heap (j := 2) hSw.1; have x3 := cell_heap (j := 1) hSw.2; simp only [List.getElem?_toArray, List.getElem?_cons_zero, List.getElem?_cons_succ] at x0 x1 x2 x3; go_simp
                        first | done | with_reducible rfl
                      refine Till.ready (l := [15]) (by as_aux_lemma => kernel_rfl) (by simp) ?_
                      refine TillAll.cons rfl (fun K hK => ?_) TillAll.nil
                      go_simp
                      go_wp2_with fail
                      have q := (Below.refl p6.heap.size p6).alloc (Nat.le_refl _) (.cells #[.slice a5 r.src.length c5, .slice a9 r.tgt.length c9, .slice a13 r.eqs.length c13] 38)
                      have gz : (p6.alloc (.cells #[.slice a5 r.src.length c5, .slice a9 r.tgt.length c9, .slice a13 r.eqs.length c13] 38)).heap[p6.heap.size]? = some (.cells (encL { r with sa := a5, sc := c5, ta := a9, tc := c9, ea := a13, ec := c13 }).toArray 38 (0, 0)) := heap_new p6 _
                      replace ls0 := ls0.below q
                      replace ls1 := ls1.below q
                      replace ls2 := ls2.below q
                      replace hS : RuBlk (p6.alloc (.cells #[.slice a5 r.src.length c5, .slice a9 r.tgt.length c9, .slice a13 r.eqs.length c13] 38)) wr.heap.size r ∧ XBlk (p6.alloc (.cells #[.slice a5 r.src.length c5, .slice a9 r.tgt.length c9, .slice a13 r.eqs.length c13] 38)) (w.heap.size + 1 + 1) v1 v2 pt rs := ⟨hS.1.below q, hS.2.below q⟩
                      refine hK.out _ _ (fun _ => hS) ?_
                      clear hK K
                      replace hf := hf.trans (q.mono hf.size)
                      replace hp := Nat.le_trans hp q.size
                      clear q
                      generalize p6.alloc (.cells #[.slice a5 r.src.length c5, .slice a9 r.tgt.length c9, .slice a13 r.eqs.length c13] 38) = p7 at *
                      refine Till.ready (l := [16]) (by as_aux_lemma => kernel_rfl) (by simp) ?_
                      refine TillAll.cons rfl (fun K hK => ?_) TillAll.nil
                      refine step_own_at rfl _ _ 23 rfl wS.heap.size 38 il _ 3 72 Tryd.underlying23 hil hil0 hil1 hil2 rfl (by decide) v2 ls'.length (ls'.flatMap encL) rfl (HCl.out.below hf).2.1 ⟨p6.heap.size, 0, none⟩ 1 1 (encL { r with sa := a5, sc := c5, ta := a9, tc := c9, ea := a13, ec := c13 }) rfl (encL_len _) (cells_of_blk gz) encL_one (by have := HLk.out; omega) (by have := HLk.out; omega) (by have := HSz.out; omega) ?_
                      intro v9 p8 own9 g9 at9
                      have kp : ∀ j, (j = wr.heap.size ∨ j = w.heap.size + 1 + 1) → p8.heap[j]? = p7.heap[j]? := fun j hj => g9.block j (by have := HSz.out; omega) (fun e => by have := HVb.out j e.symm; omega)
                      have hS9 : RuBlk p8 wr.heap.size r ∧ XBlk p8 (w.heap.size + 1 + 1) v1 v2 pt rs := ⟨(kp _ (.inl rfl)).trans hS.1, (kp _ (.inr rfl)).trans hS.2⟩
                      have hE := rule_end HG.out hXS HCl.out hlt2 (HNm.out a5 c5 a9 c9 a13 c13) hf ls0 ls1 ls2 own9 g9 at9 hS9.2
                      have HE := Lib.hid hE
                      obtain ⟨n9, hn9⟩ : ∃ n, n = ls'.length + 1 := ⟨_, rfl⟩
                      rw [← hn9] at own9
                      obtain ⟨-, h0⟩ | ⟨g, cap, cur, rfl, -⟩ := own9.2
                      · omega
                      clear hn9
                      refine hK.out _ _ (fun _ => hS9) ?_
                      clear hK K hS own9 g9 at9 kp gz ls0 ls1 ls2 hE hf hp
                      have hS := hS9
                      refine Till.take (i := 17) (some 68) (v := ?_) rfl rfl (by as_aux_lemma => kernel_rfl) (by as_aux_lemma => kernel_rfl) (by as_aux_lemma => kernel_rfl) (by as_aux_lemma => kernel_rfl) (fun _ _ _ h => h) (Or.inl ⟨by kernel_rfl, ?_⟩) hS ?_
                      rotate_left
                      · intro w hSw; have x0 := cell_heap (j := 0) hSw.1; have x1 := cell_heap (j := 1) hSw.1; have x2 := cell_heap (j := 2) hSw.1; have x3 := cell_heap (j := 1) hSw.2; simp only [List.getElem?_toArray, List.getElem?_cons_zero, List.getElem?_cons_succ] at x0 x1 x2 x3; go_simp
                        first | done | with_reducible rfl
                      refine Till.ready (l := [18]) (by as_aux_lemma => kernel_rfl) (by simp) ?_
                      refine TillAll.cons rfl (fun K hK => ?_) TillAll.nil
                      have z1 : p8.cell? ⟨w.heap.size + 1 + 1, 1, none⟩ = some v2 := cell_heap hS9.2
                      have fz : p8.frozen? ⟨w.heap.size + 1 + 1, 1, none⟩ = false := frozen_of hS9.2
                      clear hS hS9
                      go_simp
                      go_wp2_with fail
                      refine hK.out _ _ (fun h => absurd rfl h) ?_
                      clear hK K z1 fz
                      refine Till.done (by kernel_rfl) ?_ _
                      go_simp
                      go_wp2
                      go_roundw
                      case rel => exact ⟨k + 1, _, _, by omega, by go_num, Lib.hid HE.out.1, Lib.hid HE.out.2.1, Lib.hid HE.out.2.2⟩
                      case measure => simp [intOf]; omega
          · go_simp
            go_wp2_with fail
            have q := (Below.refl p0.heap.size p0).alloc (Nat.le_refl _) (.cells #[] 36)
            have em1 : Emp (p0.alloc (.cells #[] 36)) p0.heap.size 36 := heap_new p0 _
            have hg1 : wr.heap.size + 1 ≤ p0.heap.size := hp
            replace hS : RuBlk (p0.alloc (.cells #[] 36)) wr.heap.size r ∧ XBlk (p0.alloc (.cells #[] 36)) (w.heap.size + 1 + 1) v1 v2 pt rs := ⟨hS.1.below q, hS.2.below q⟩
            refine hK.out _ _ (fun _ => hS) ?_
            clear hK K
            replace hf := hf.trans (q.mono hf.size)
            replace hp := Nat.le_trans hp q.size
            clear q
            generalize p0.alloc (.cells #[] 36) = p1 at *
            refine Till.ready (l := [2, 10]) (by as_aux_lemma => kernel_rfl) (by simp) ?_
            refine TillAll.cons rfl (fun K hK => ?_) (TillAll.cons rfl (fun K hK => ?_) TillAll.nil)
            · go_simp
              go_wp2_with fail
              have q := (Below.refl p1.heap.size p1).alloc (Nat.le_refl _) (.cells #[] 36)
              replace em1 := em1.below q
              have em0 : Emp (p1.alloc (.cells #[] 36)) p1.heap.size 36 := heap_new p1 _
              have hg0 : wr.heap.size + 1 ≤ p1.heap.size := hp
              replace hS : RuBlk (p1.alloc (.cells #[] 36)) wr.heap.size r ∧ XBlk (p1.alloc (.cells #[] 36)) (w.heap.size + 1 + 1) v1 v2 pt rs := ⟨hS.1.below q, hS.2.below q⟩
              refine hK.out _ _ (fun _ => hS) ?_
              clear hK K
              replace hf := hf.trans (q.mono hf.size)
              replace hp := Nat.le_trans hp q.size
              clear q
              generalize p1.alloc (.cells #[] 36) = p2 at *
              refine Till.ready (l := [5, 10]) (by as_aux_lemma => kernel_rfl) (by simp) ?_
              refine TillAll.cons rfl (fun K hK => ?_) (TillAll.cons rfl (fun K hK => ?_) TillAll.nil)
              · refine step_clone 30 36 im _ 3 40 Tryd.underlying30 hm hm0 hm1 hm2 rfl (by decide) rfl _ _ rfl (wr.heap.size + 1) p1.heap.size rfl em0 hg0 r.sa r.src.length r.sc (rowM r.src) rfl (flat_len encM_len _) (mts_news (HM1.out.below hf (Nat.le_refl _))) rowM_one HN1.out (by omega) (by omega) ?_
                intro va p3 own q
                obtain ⟨a5, c5, rfl, lz⟩ := LstM.of own
                replace em1 := em1.below q
                have ls0 := lz
                replace hS : RuBlk p3 wr.heap.size r ∧ XBlk p3 (w.heap.size + 1 + 1) v1 v2 pt rs := ⟨hS.1.below q, hS.2.below q⟩
                refine hK.out _ _ (fun _ => hS) ?_
                clear hK K
                replace hf := hf.trans (q.mono hf.size)
                replace hp := Nat.le_trans hp q.size
                clear q own lz em0 hg0
                refine Till.ready (l := [9, 10]) (by as_aux_lemma => kernel_rfl) (by simp) ?_
                refine TillAll.cons rfl (fun K hK => ?_) (TillAll.cons rfl (fun K hK => ?_) TillAll.nil)
                · refine step_clone 30 36 im _ 3 40 Tryd.underlying30 hm hm0 hm1 hm2 rfl (by decide) rfl _ _ rfl (wr.heap.size + 1) p0.heap.size rfl em1 hg1 r.ta r.tgt.length r.tc (rowM r.tgt) rfl (flat_len encM_len _) (mts_news (HM2.out.below hf (Nat.le_refl _))) rowM_one HN2.out (by omega) (by omega) ?_
                  intro va p4 own q
                  obtain ⟨a9, c9, rfl, lz⟩ := LstM.of own
                  replace ls0 := ls0.below q
                  have ls1 := lz
                  replace hS : RuBlk p4 wr.heap.size r ∧ XBlk p4 (w.heap.size + 1 + 1) v1 v2 pt rs := ⟨hS.1.below q, hS.2.below q⟩
                  refine hK.out _ _ (fun _ => hS) ?_
                  clear hK K
                  replace hf := hf.trans (q.mono hf.size)
                  replace hp := Nat.le_trans hp q.size
                  clear q own lz em1 hg1
                  refine Till.ready (l := [10]) (by as_aux_lemma => kernel_rfl) (by simp) ?_
                  refine TillAll.cons rfl (fun K hK => ?_) TillAll.nil
                  · go_simp
                    go_wp2_with fail
                    have q := (Below.refl p4.heap.size p4).alloc (Nat.le_refl _) (.cells #[] 9)
                    replace ls0 := ls0.below q
                    replace ls1 := ls1.below q
                    have em2 : Emp (p4.alloc (.cells #[] 9)) p4.heap.size 9 := heap_new p4 _
                    have hg2 : wr.heap.size + 1 ≤ p4.heap.size := hp
                    replace hS : RuBlk (p4.alloc (.cells #[] 9)) wr.heap.size r ∧ XBlk (p4.alloc (.cells #[] 9)) (w.heap.size + 1 + 1) v1 v2 pt rs := ⟨hS.1.below q, hS.2.below q⟩
                    refine hK.out _ _ (fun _ => hS) ?_
                    clear hK K
                    replace hf := hf.trans (q.mono hf.size)
                    replace hp := Nat.le_trans hp q.size
                    clear q
                    generalize p4.alloc (.cells #[] 9) = p5 at *
                    refine Till.ready (l := [13]) (by as_aux_lemma => kernel_rfl) (by simp) ?_
                    refine TillAll.cons rfl (fun K hK => ?_) TillAll.nil
                    · refine step_clone 31 9 is _ 1 16 Tryd.underlying31 hs hs0 hs1 hs2 rfl (by decide) rfl _ _ rfl (wr.heap.size + 1) p4.heap.size rfl em2 hg2 r.ea r.eqs.length r.ec (r.eqs.map .string) rfl (by simp) (strs_news (HM3.out.below hf (Nat.le_refl _))) strs_one HN3.out (by omega) (by omega) ?_
                      intro va p6 own q
                      obtain ⟨a13, c13, rfl, lz⟩ := LstS.of own
                      replace ls0 := ls0.below q
                      replace ls1 := ls1.below q
                      have ls2 := lz
                      replace hS : RuBlk p6 wr.heap.size r ∧ XBlk p6 (w.heap.size + 1 + 1) v1 v2 pt rs := ⟨hS.1.below q, hS.2.below q⟩
                      refine hK.out _ _ (fun _ => hS) ?_
                      clear hK K
                      replace hf := hf.trans (q.mono hf.size)
                      replace hp := Nat.le_trans hp q.size
                      clear q own lz em2 hg2
                      refine Till.take (i := 14) (some 65) (v := ?_) rfl rfl (by as_aux_lemma => kernel_rfl) (by as_aux_lemma => kernel_rfl) (by as_aux_lemma => kernel_rfl) (by as_aux_lemma => kernel_rfl) (fun _ _ _ h => h) (Or.inl ⟨by kernel_rfl, ?_⟩) hS ?_
                      rotate_left
                      · intro w hSw; have x0 := cell_heap (j := 0) hSw.1; have x1 := cell_heap (j := 1) hSw.1; have x2 := cell_heap (j := 2) hSw.1; have x3 := cell_heap (j := 1) hSw.2; simp only [List.getElem?_toArray, List.getElem?_cons_zero, List.getElem?_cons_succ] at x0 x1 x2 x3; go_simp
                        first | done | with_reducible rfl
                      refine Till.ready (l := [15]) (by as_aux_lemma => kernel_rfl) (by simp) ?_
                      refine TillAll.cons rfl (fun K hK => ?_) TillAll.nil
                      go_simp
                      go_wp2_with fail
                      have q := (Below.refl p6.heap.size p6).alloc (Nat.le_refl _) (.cells #[.slice a5 r.src.length c5, .slice a9 r.tgt.length c9, .slice a13 r.eqs.length c13] 38)
                      have gz : (p6.alloc (.cells #[.slice a5 r.src.length c5, .slice a9 r.tgt.length c9, .slice a13 r.eqs.length c13] 38)).heap[p6.heap.size]? = some (.cells (encL { r with sa := a5, sc := c5, ta := a9, tc := c9, ea := a13, ec := c13 }).toArray 38 (0, 0)) := heap_new p6 _
                      replace ls0 := ls0.below q
                      replace ls1 := ls1.below q
                      replace ls2 := ls2.below q
                      replace hS : RuBlk (p6.alloc (.cells #[.slice a5 r.src.length c5, .slice a9 r.tgt.length c9, .slice a13 r.eqs.length c13] 38)) wr.heap.size r ∧ XBlk (p6.alloc (.cells #[.slice a5 r.src.length c5, .slice a9 r.tgt.length c9, .slice a13 r.eqs.length c13] 38)) (w.heap.size + 1 + 1) v1 v2 pt rs := ⟨hS.1.below q, hS.2.below q⟩
                      refine hK.out _ _ (fun _ => hS) ?_
                      clear hK K
                      replace hf := hf.trans (q.mono hf.size)
                      replace hp := Nat.le_trans hp q.size
                      clear q
                      generalize p6.alloc (.cells #[.slice a5 r.src.length c5, .slice a9 r.tgt.length c9, .slice a13 r.eqs.length c13] 38) = p7 at *
                      refine Till.ready (l := [16]) (by as_aux_lemma => kernel_rfl) (by simp) ?_
                      refine TillAll.cons rfl (fun K hK => ?_) TillAll.nil
                      refine step_own_at rfl _ _ 23 rfl wS.heap.size 38 il _ 3 72 Tryd.underlying23 hil hil0 hil1 hil2 rfl (by decide) v2 ls'.length (ls'.flatMap encL) rfl (HCl.out.below hf).2.1 ⟨p6.heap.size, 0, none⟩ 1 1 (encL { r with sa := a5, sc := c5, ta := a9, tc := c9, ea := a13, ec := c13 }) rfl (encL_len _) (cells_of_blk gz) encL_one (by have := HLk.out; omega) (by have := HLk.out; omega) (by have := HSz.out; omega) ?_
                      intro v9 p8 own9 g9 at9
                      have kp : ∀ j, (j = wr.heap.size ∨ j = w.heap.size + 1 + 1) → p8.heap[j]? = p7.heap[j]? := fun j hj => g9.block j (by have := HSz.out; omega) (fun e => by have := HVb.out j e.symm; omega)
                      have hS9 : RuBlk p8 wr.heap.size r ∧ XBlk p8 (w.heap.size + 1 + 1) v1 v2 pt rs := ⟨(kp _ (.inl rfl)).trans hS.1, (kp _ (.inr rfl)).trans hS.2⟩
                      have hE := rule_end HG.out hXS HCl.out hlt2 (HNm.out a5 c5 a9 c9 a13 c13) hf ls0 ls1 ls2 own9 g9 at9 hS9.2
                      have HE := Lib.hid hE
                      obtain ⟨n9, hn9⟩ : ∃ n, n = ls'.length + 1 := ⟨_, rfl⟩
                      rw [← hn9] at own9
                      obtain ⟨-, h0⟩ | ⟨g, cap, cur, rfl, -⟩ := own9.2
                      · omega
                      clear hn9
                      refine hK.out _ _ (fun _ => hS9) ?_
                      clear hK K hS own9 g9 at9 kp gz ls0 ls1 ls2 hE hf hp
                      have hS := hS9
                      refine Till.take (i := 17) (some 68) (v := ?_) rfl rfl (by as_aux_lemma => kernel_rfl) (by as_aux_lemma => kernel_rfl) (by as_aux_lemma => kernel_rfl) (by as_aux_lemma => kernel_rfl) (fun _ _ _ h => h) (Or.inl ⟨by kernel_rfl, ?_⟩) hS ?_
                      rotate_left
                      · intro w hSw; have x0 := cell_heap (j := 0) hSw.1; have x1 := cell_heap (j := 1) hSw.1; have x2 := cell_heap (j := 2) hSw.1; have x3 := cell_heap (j := 1) hSw.2; simp only [List.getElem?_toArray, List.getElem?_cons_zero, List.getElem?_cons_succ] at x0 x1 x2 x3; go_simp
                        first | done | with_reducible rfl
                      refine Till.ready (l := [18]) (by as_aux_lemma => kernel_rfl) (by simp) ?_
                      refine TillAll.cons rfl (fun K hK => ?_) TillAll.nil
                      have z1 : p8.cell? ⟨w.heap.size + 1 + 1, 1, none⟩ = some v2 := cell_heap hS9.2
                      have fz : p8.frozen? ⟨w.heap.size + 1 + 1, 1, none⟩ = false := frozen_of hS9.2
                      clear hS hS9
                      go_simp
                      go_wp2_with fail
                      refine hK.out _ _ (fun h => absurd rfl h) ?_
                      clear hK K z1 fz
                      refine Till.done (by kernel_rfl) ?_ _
                      go_simp
                      go_wp2
                      go_roundw
                      case rel => exact ⟨k + 1, _, _, by omega, by go_num, Lib.hid HE.out.1, Lib.hid HE.out.2.1, Lib.hid HE.out.2.2⟩
                      case measure => simp [intOf]; omega
                · go_simp
                  go_wp2_with fail
                  have q := (Below.refl p3.heap.size p3).alloc (Nat.le_refl _) (.cells #[] 9)
                  replace ls0 := ls0.below q
                  replace em1 := em1.below q
                  have em2 : Emp (p3.alloc (.cells #[] 9)) p3.heap.size 9 := heap_new p3 _
                  have hg2 : wr.heap.size + 1 ≤ p3.heap.size := hp
                  replace hS : RuBlk (p3.alloc (.cells #[] 9)) wr.heap.size r ∧ XBlk (p3.alloc (.cells #[] 9)) (w.heap.size + 1 + 1) v1 v2 pt rs := ⟨hS.1.below q, hS.2.below q⟩
                  refine hK.out _ _ (fun _ => hS) ?_
                  clear hK K
                  replace hf := hf.trans (q.mono hf.size)
                  replace hp := Nat.le_trans hp q.size
                  clear q
                  generalize p3.alloc (.cells #[] 9) = p4 at *
                  refine Till.ready (l := [9]) (by as_aux_lemma => kernel_rfl) (by simp) ?_
                  refine TillAll.cons rfl (fun K hK => ?_) TillAll.nil
                  · refine step_clone 30 36 im _ 3 40 Tryd.underlying30 hm hm0 hm1 hm2 rfl (by decide) rfl _ _ rfl (wr.heap.size + 1) p0.heap.size rfl em1 hg1 r.ta r.tgt.length r.tc (rowM r.tgt) rfl (flat_len encM_len _) (mts_news (HM2.out.below hf (Nat.le_refl _))) rowM_one HN2.out (by omega) (by omega) ?_
                    intro va p5 own q
                    obtain ⟨a9, c9, rfl, lz⟩ := LstM.of own
                    replace ls0 := ls0.below q
                    replace em2 := em2.below q
                    have ls1 := lz
                    replace hS : RuBlk p5 wr.heap.size r ∧ XBlk p5 (w.heap.size + 1 + 1) v1 v2 pt rs := ⟨hS.1.below q, hS.2.below q⟩
                    refine hK.out _ _ (fun _ => hS) ?_
                    clear hK K
                    replace hf := hf.trans (q.mono hf.size)
                    replace hp := Nat.le_trans hp q.size
                    clear q own lz em1 hg1
                    refine Till.ready (l := [13]) (by as_aux_lemma => kernel_rfl) (by simp) ?_
                    refine TillAll.cons rfl (fun K hK => ?_) TillAll.nil
                    · refine step_clone 31 9 is _ 1 16 Tryd.underlying31 hs hs0 hs1 hs2 rfl (by decide) rfl _ _ rfl (wr.heap.size + 1) p3.heap.size rfl em2 hg2 r.ea r.eqs.length r.ec (r.eqs.map .string) rfl (by simp) (strs_news (HM3.out.below hf (Nat.le_refl _))) strs_one HN3.out (by omega) (by omega) ?_
                      intro va p6 own q
                      obtain ⟨a13, c13, rfl, lz⟩ := LstS.of own
                      replace ls0 := ls0.below q
                      replace ls1 := ls1.below q
                      have ls2 := lz
                      replace hS : RuBlk p6 wr.heap.size r ∧ XBlk p6 (w.heap.size + 1 + 1) v1 v2 pt rs := ⟨hS.1.below q, hS.2.below q⟩
                      refine hK.out _ _ (fun _ => hS) ?_
                      clear hK K
                      replace hf := hf.trans (q.mono hf.size)
                      replace hp := Nat.le_trans hp q.size
                      clear q own lz em2 hg2
                      refine Till.take (i := 14) (some 65) (v := ?_) rfl rfl (by as_aux_lemma => kernel_rfl) (by as_aux_lemma => kernel_rfl) (by as_aux_lemma => kernel_rfl) (by as_aux_lemma => kernel_rfl) (fun _ _ _ h => h) (Or.inl ⟨by kernel_rfl, ?_⟩) hS ?_
                      rotate_left
                      · intro w hSw; have x0 := cell_heap (j := 0) hSw.1; have x1 := cell_heap (j := 1) hSw.1; have x2 := cell_heap (j := 2) hSw.1; have x3 := cell_heap (j := 1) hSw.2; simp only [List.getElem?_toArray, List.getElem?_cons_zero, List.getElem?_cons_succ] at x0 x1 x2 x3; go_simp
                        first | done | with_reducible rfl
                      refine Till.ready (l := [15]) (by as_aux_lemma => kernel_rfl) (by simp) ?_
                      refine TillAll.cons rfl (fun K hK => ?_) TillAll.nil
                      go_simp
                      go_wp2_with fail
                      have q := (Below.refl p6.heap.size p6).alloc (Nat.le_refl _) (.cells #[.slice a5 r.src.length c5, .slice a9 r.tgt.length c9, .slice a13 r.eqs.length c13] 38)
                      have gz : (p6.alloc (.cells #[.slice a5 r.src.length c5, .slice a9 r.tgt.length c9, .slice a13 r.eqs.length c13] 38)).heap[p6.heap.size]? = some (.cells (encL { r with sa := a5, sc := c5, ta := a9, tc := c9, ea := a13, ec := c13 }).toArray 38 (0, 0)) := heap_new p6 _
                      replace ls0 := ls0.below q
                      replace ls1 := ls1.below q
                      replace ls2 := ls2.below q
                      replace hS : RuBlk (p6.alloc (.cells #[.slice a5 r.src.length c5, .slice a9 r.tgt.length c9, .slice a13 r.eqs.length c13] 38)) wr.heap.size r ∧ XBlk (p6.alloc (.cells #[.slice a5 r.src.length c5, .slice a9 r.tgt.length c9, .slice a13 r.eqs.length c13] 38)) (w.heap.size + 1 + 1) v1 v2 pt rs := ⟨hS.1.below q, hS.2.below q⟩
                      refine hK.out _ _ (fun _ => hS) ?_
                      clear hK K
                      replace hf := hf.trans (q.mono hf.size)
                      replace hp := Nat.le_trans hp q.size
                      clear q
                      generalize p6.alloc (.cells #[.slice a5 r.src.length c5, .slice a9 r.tgt.length c9, .slice a13 r.eqs.length c13] 38) = p7 at *
                      refine Till.ready (l := [16]) (by as_aux_lemma => kernel_rfl) (by simp) ?_
                      refine TillAll.cons rfl (fun K hK => ?_) TillAll.nil
                      refine step_own_at rfl _ _ 23 rfl wS.heap.size 38 il _ 3 72 Tryd.underlying23 hil hil0 hil1 hil2 rfl (by decide) v2 ls'.length (ls'.flatMap encL) rfl (HCl.out.below hf).2.1 ⟨p6.heap.size, 0, none⟩ 1 1 (encL { r with sa := a5, sc := c5, ta := a9, tc := c9, ea := a13, ec := c13 }) rfl (encL_len _) (cells_of_blk gz) encL_one (by have := HLk.out; omega) (by have := HLk.out; omega) (by have := HSz.out; omega) ?_
                      intro v9 p8 own9 g9 at9
                      have kp : ∀ j, (j = wr.heap.size ∨ j = w.heap.size + 1 + 1) → p8.heap[j]? = p7.heap[j]? := fun j hj => g9.block j (by have := HSz.out; omega) (fun e => by have := HVb.out j e.symm; omega)
                      have hS9 : RuBlk p8 wr.heap.size r ∧ XBlk p8 (w.heap.size + 1 + 1) v1 v2 pt rs := ⟨(kp _ (.inl rfl)).trans hS.1, (kp _ (.inr rfl)).trans hS.2⟩
                      have hE := rule_end HG.out hXS HCl.out hlt2 (HNm.out a5 c5 a9 c9 a13 c13) hf ls0 ls1 ls2 own9 g9 at9 hS9.2
                      have HE := Lib.hid hE
                      obtain ⟨n9, hn9⟩ : ∃ n, n = ls'.length + 1 := ⟨_, rfl⟩
                      rw [← hn9] at own9
                      obtain ⟨-, h0⟩ | ⟨g, cap, cur, rfl, -⟩ := own9.2
                      · omega
                      clear hn9
                      refine hK.out _ _ (fun _ => hS9) ?_
                      clear hK K hS own9 g9 at9 kp gz ls0 ls1 ls2 hE hf hp
                      have hS := hS9
                      refine Till.take (i := 17) (some 68) (v := ?_) rfl rfl (by as_aux_lemma => kernel_rfl) (by as_aux_lemma => kernel_rfl) (by as_aux_lemma => kernel_rfl) (by as_aux_lemma => kernel_rfl) (fun _ _ _ h => h) (Or.inl ⟨by kernel_rfl, ?_⟩) hS ?_
                      rotate_left
                      · intro w hSw; have x0 := cell_heap (j := 0) hSw.1; have x1 := cell_heap (j := 1) hSw.1; have x2 := cell_heap (j := 2) hSw.1; have x3 := cell_heap (j := 1) hSw.2; simp only [List.getElem?_toArray, List.getElem?_cons_zero, List.getElem?_cons_succ] at x0 x1 x2 x3; go_simp
                        first | done | with_reducible rfl
                      refine Till.ready (l := [18]) (by as_aux_lemma => kernel_rfl) (by simp) ?_
                      refine TillAll.cons rfl (fun K hK => ?_) TillAll.nil
                      have z1 : p8.cell? ⟨w.heap.size + 1 + 1, 1, none⟩ = some v2 := cell_heap hS9.2
                      have fz : p8.frozen? ⟨w.heap.size + 1 + 1, 1, none⟩ = false := frozen_of hS9.2
                      clear hS hS9
                      go_simp
                      go_wp2_with fail
                      refine hK.out _ _ (fun h => absurd rfl h) ?_
                      clear hK K z1 fz
                      refine Till.done (by kernel_rfl) ?_ _
                      go_simp
                      go_wp2
                      go_roundw
                      case rel => exact ⟨k + 1, _, _, by omega, by go_num, Lib.hid HE.out.1, Lib.hid HE.out.2.1, Lib.hid HE.out.2.2⟩
                      case measure => simp [intOf]; omega
              · go_simp
                go_wp2_with fail
                have q := (Below.refl p2.heap.size p2).alloc (Nat.le_refl _) (.cells #[] 9)
                replace em0 := em0.below q
                replace em1 := em1.below q
                have em2 : Emp (p2.alloc (.cells #[] 9)) p2.heap.size 9 := heap_new p2 _
                have hg2 : wr.heap.size + 1 ≤ p2.heap.size := hp
                replace hS : RuBlk (p2.alloc (.cells #[] 9)) wr.heap.size r ∧ XBlk (p2.alloc (.cells #[] 9)) (w.heap.size + 1 + 1) v1 v2 pt rs := ⟨hS.1.below q, hS.2.below q⟩
                refine hK.out _ _ (fun _ => hS) ?_
                clear hK K
                replace hf := hf.trans (q.mono hf.size)
                replace hp := Nat.le_trans hp q.size
                clear q
                generalize p2.alloc (.cells #[] 9) = p3 at *
                refine Till.ready (l := [5]) (by as_aux_lemma => kernel_rfl) (by simp) ?_
                refine TillAll.cons rfl (fun K hK => ?_) TillAll.nil
                · refine step_clone 30 36 im _ 3 40 Tryd.underlying30 hm hm0 hm1 hm2 rfl (by decide) rfl _ _ rfl (wr.heap.size + 1) p1.heap.size rfl em0 hg0 r.sa r.src.length r.sc (rowM r.src) rfl (flat_len encM_len _) (mts_news (HM1.out.below hf (Nat.le_refl _))) rowM_one HN1.out (by omega) (by omega) ?_
                  intro va p4 own q
                  obtain ⟨a5, c5, rfl, lz⟩ := LstM.of own
                  replace em1 := em1.below q
                  replace em2 := em2.below q
                  have ls0 := lz
                  replace hS : RuBlk p4 wr.heap.size r ∧ XBlk p4 (w.heap.size + 1 + 1) v1 v2 pt rs := ⟨hS.1.below q, hS.2.below q⟩
                  refine hK.out _ _ (fun _ => hS) ?_
                  clear hK K
                  replace hf := hf.trans (q.mono hf.size)
                  replace hp := Nat.le_trans hp q.size
                  clear q own lz em0 hg0
                  refine Till.ready (l := [9]) (by as_aux_lemma => kernel_rfl) (by simp) ?_
                  refine TillAll.cons rfl (fun K hK => ?_) TillAll.nil
                  · refine step_clone 30 36 im _ 3 40 Tryd.underlying30 hm hm0 hm1 hm2 rfl (by decide) rfl _ _ rfl (wr.heap.size + 1) p0.heap.size rfl em1 hg1 r.ta r.tgt.length r.tc (rowM r.tgt) rfl (flat_len encM_len _) (mts_news (HM2.out.below hf (Nat.le_refl _))) rowM_one HN2.out (by omega) (by omega) ?_
                    intro va p5 own q
                    obtain ⟨a9, c9, rfl, lz⟩ := LstM.of own
                    replace ls0 := ls0.below q
                    replace em2 := em2.below q
                    have ls1 := lz
                    replace hS : RuBlk p5 wr.heap.size r ∧ XBlk p5 (w.heap.size + 1 + 1) v1 v2 pt rs := ⟨hS.1.below q, hS.2.below q⟩
                    refine hK.out _ _ (fun _ => hS) ?_
                    clear hK K
                    replace hf := hf.trans (q.mono hf.size)
                    replace hp := Nat.le_trans hp q.size
                    clear q own lz em1 hg1
                    refine Till.ready (l := [13]) (by as_aux_lemma => kernel_rfl) (by simp) ?_
                    refine TillAll.cons rfl (fun K hK => ?_) TillAll.nil
                    · refine step_clone 31 9 is _ 1 16 Tryd.underlying31 hs hs0 hs1 hs2 rfl (by decide) rfl _ _ rfl (wr.heap.size + 1) p2.heap.size rfl em2 hg2 r.ea r.eqs.length r.ec (r.eqs.map .string) rfl (by simp) (strs_news (HM3.out.below hf (Nat.le_refl _))) strs_one HN3.out (by omega) (by omega) ?_
                      intro va p6 own q
                      obtain ⟨a13, c13, rfl, lz⟩ := LstS.of own
                      replace ls0 := ls0.below q
                      replace ls1 := ls1.below q
                      have ls2 := lz
                      replace hS : RuBlk p6 wr.heap.size r ∧ XBlk p6 (w.heap.size + 1 + 1) v1 v2 pt rs := ⟨hS.1.below q, hS.2.below q⟩
                      refine hK.out _ _ (fun _ => hS) ?_
                      clear hK K
                      replace hf := hf.trans (q.mono hf.size)
                      replace hp := Nat.le_trans hp q.size
                      clear q own lz em2 hg2
                      refine Till.take (i := 14) (some 65) (v := ?_) rfl rfl (by as_aux_lemma => kernel_rfl) (by as_aux_lemma => kernel_rfl) (by as_aux_lemma => kernel_rfl) (by as_aux_lemma => kernel_rfl) (fun _ _ _ h => h) (Or.inl ⟨by kernel_rfl, ?_⟩) hS ?_
                      rotate_left
                      · intro w hSw; have x0 := cell_heap (j := 0) hSw.1; have x1 := cell_heap (j := 1) hSw.1; have x2 := cell_heap (j := 2) hSw.1; have x3 := cell_heap (j := 1) hSw.2; simp only [List.getElem?_toArray, List.getElem?_cons_zero, List.getElem?_cons_succ] at x0 x1 x2 x3; go_simp
                        first | done | with_reducible rfl
                      refine Till.ready (l := [15]) (by as_aux_lemma => kernel_rfl) (by simp) ?_
                      refine TillAll.cons rfl (fun K hK => ?_) TillAll.nil
                      go_simp
                      go_wp2_with fail
                      have q := (Below.refl p6.heap.size p6).alloc (Nat.le_refl _) (.cells #[.slice a5 r.src.length c5, .slice a9 r.tgt.length c9, .slice a13 r.eqs.length c13] 38)
                      have gz : (p6.alloc (.cells #[.slice a5 r.src.length c5, .slice a9 r.tgt.length c9, .slice a13 r.eqs.length c13] 38)).heap[p6.heap.size]? = some (.cells (encL { r with sa := a5, sc := c5, ta := a9, tc := c9, ea := a13, ec := c13 }).toArray 38 (0, 0)) := heap_new p6 _
                      replace ls0 := ls0.below q
                      replace ls1 := ls1.below q
                      replace ls2 := ls2.below q
                      replace hS : RuBlk (p6.alloc (.cells #[.slice a5 r.src.length c5, .slice a9 r.tgt.length c9, .slice a13 r.eqs.length c13] 38)) wr.heap.size r ∧ XBlk (p6.alloc (.cells #[.slice a5 r.src.length c5, .slice a9 r.tgt.length c9, .slice a13 r.eqs.length c13] 38)) (w.heap.size + 1 + 1) v1 v2 pt rs := ⟨hS.1.below q, hS.2.below q⟩
                      refine hK.out _ _ (fun _ => hS) ?_
                      clear hK K
                      replace hf := hf.trans (q.mono hf.size)
                      replace hp := Nat.le_trans hp q.size
                      clear q
                      generalize p6.alloc (.cells #[.slice a5 r.src.length c5, .slice a9 r.tgt.length c9, .slice a13 r.eqs.length c13] 38) = p7 at *
                      refine Till.ready (l := [16]) (by as_aux_lemma => kernel_rfl) (by simp) ?_
                      refine TillAll.cons rfl (fun K hK => ?_) TillAll.nil
                      refine step_own_at rfl _ _ 23 rfl wS.heap.size 38 il _ 3 72 Tryd.underlying23 hil hil0 hil1 hil2 rfl (by decide) v2 ls'.length (ls'.flatMap encL) rfl (HCl.out.below hf).2.1 ⟨p6.heap.size, 0, none⟩ 1 1 (encL { r with sa := a5, sc := c5, ta := a9, tc := c9, ea := a13, ec := c13 }) rfl (encL_len _) (cells_of_blk gz) encL_one (by have := HLk.out; omega) (by have := HLk.out; omega) (by have := HSz.out; omega) ?_
                      intro v9 p8 own9 g9 at9
                      have kp : ∀ j, (j = wr.heap.size ∨ j = w.heap.size + 1 + 1) → p8.heap[j]? = p7.heap[j]? := fun j hj => g9.block j (by have := HSz.out; omega) (fun e => by have := HVb.out j e.symm; omega)
                      have hS9 : RuBlk p8 wr.heap.size r ∧ XBlk p8 (w.heap.size + 1 + 1) v1 v2 pt rs := ⟨(kp _ (.inl rfl)).trans hS.1, (kp _ (.inr rfl)).trans hS.2⟩
                      have hE := rule_end HG.out hXS HCl.out hlt2 (HNm.out a5 c5 a9 c9 a13 c13) hf ls0 ls1 ls2 own9 g9 at9 hS9.2
                      have HE := Lib.hid hE
                      obtain ⟨n9, hn9⟩ : ∃ n, n = ls'.length + 1 := ⟨_, rfl⟩
                      rw [← hn9] at own9
                      obtain ⟨-, h0⟩ | ⟨g, cap, cur, rfl, -⟩ := own9.2
                      · omega
                      clear hn9
                      refine hK.out _ _ (fun _ => hS9) ?_
                      clear hK K hS own9 g9 at9 kp gz ls0 ls1 ls2 hE hf hp
                      have hS := hS9
                      refine Till.take (i := 17) (some 68) (v := ?_) rfl rfl (by as_aux_lemma => kernel_rfl) (by as_aux_lemma => kernel_rfl) (by as_aux_lemma => kernel_rfl) (by as_aux_lemma => kernel_rfl) (fun _ _ _ h => h) (Or.inl ⟨by kernel_rfl, ?_⟩) hS ?_
                      rotate_left
                      · intro w hSw; have x0 := cell_heap (j := 0) hSw.1; have x1 := cell_heap (j := 1) hSw.1; have x2 := cell_heap (j := 2) hSw.1; have x3 := cell_heap (j := 1) hSw.2; simp only [List.getElem?_toArray, List.getElem?_cons_zero, List.getElem?_cons_succ] at x0 x1 x2 x3; go_simp
                        first | done | with_reducible rfl
                      refine Till.ready (l := [18]) (by as_aux_lemma => kernel_rfl) (by simp) ?_
                      refine TillAll.cons rfl (fun K hK => ?_) TillAll.nil
                      have z1 : p8.cell? ⟨w.heap.size + 1 + 1, 1, none⟩ = some v2 := cell_heap hS9.2
                      have fz : p8.frozen? ⟨w.heap.size + 1 + 1, 1, none⟩ = false := frozen_of hS9.2
                      clear hS hS9
                      go_simp
                      go_wp2_with fail
                      refine hK.out _ _ (fun h => absurd rfl h) ?_
                      clear hK K z1 fz
                      refine Till.done (by kernel_rfl) ?_ _
                      go_simp
                      go_wp2
                      go_roundw
                      case rel => exact ⟨k + 1, _, _, by omega, by go_num, Lib.hid HE.out.1, Lib.hid HE.out.2.1, Lib.hid HE.out.2.2⟩
                      case measure => simp [intOf]; omega
            · go_simp
              go_wp2_with fail
              have q := (Below.refl p1.heap.size p1).alloc (Nat.le_refl _) (.cells #[] 9)
              replace em1 := em1.below q
              have em2 : Emp (p1.alloc (.cells #[] 9)) p1.heap.size 9 := heap_new p1 _
              have hg2 : wr.heap.size + 1 ≤ p1.heap.size := hp
              replace hS : RuBlk (p1.alloc (.cells #[] 9)) wr.heap.size r ∧ XBlk (p1.alloc (.cells #[] 9)) (w.heap.size + 1 + 1) v1 v2 pt rs := ⟨hS.1.below q, hS.2.below q⟩
              refine hK.out _ _ (fun _ => hS) ?_
              clear hK K
              replace hf := hf.trans (q.mono hf.size)
              replace hp := Nat.le_trans hp q.size
              clear q
              generalize p1.alloc (.cells #[] 9) = p2 at *
              refine Till.ready (l := [2]) (by as_aux_lemma => kernel_rfl) (by simp) ?_
              refine TillAll.cons rfl (fun K hK => ?_) TillAll.nil
              · go_simp
                go_wp2_with fail
                have q := (Below.refl p2.heap.size p2).alloc (Nat.le_refl _) (.cells #[] 36)
                replace em1 := em1.below q
                replace em2 := em2.below q
                have em0 : Emp (p2.alloc (.cells #[] 36)) p2.heap.size 36 := heap_new p2 _
                have hg0 : wr.heap.size + 1 ≤ p2.heap.size := hp
                replace hS : RuBlk (p2.alloc (.cells #[] 36)) wr.heap.size r ∧ XBlk (p2.alloc (.cells #[] 36)) (w.heap.size + 1 + 1) v1 v2 pt rs := ⟨hS.1.below q, hS.2.below q⟩
                refine hK.out _ _ (fun _ => hS) ?_
                clear hK K
                replace hf := hf.trans (q.mono hf.size)
                replace hp := Nat.le_trans hp q.size
                clear q
                generalize p2.alloc (.cells #[] 36) = p3 at *
                refine Till.ready (l := [5]) (by as_aux_lemma => kernel_rfl) (by simp) ?_
                refine TillAll.cons rfl (fun K hK => ?_) TillAll.nil
                · refine step_clone 30 36 im _ 3 40 Tryd.underlying30 hm hm0 hm1 hm2 rfl (by decide) rfl _ _ rfl (wr.heap.size + 1) p2.heap.size rfl em0 hg0 r.sa r.src.length r.sc (rowM r.src) rfl (flat_len encM_len _) (mts_news (HM1.out.below hf (Nat.le_refl _))) rowM_one HN1.out (by omega) (by omega) ?_
                  intro va p4 own q
                  obtain ⟨a5, c5, rfl, lz⟩ := LstM.of own
                  replace em1 := em1.below q
                  replace em2 := em2.below q
                  have ls0 := lz
                  replace hS : RuBlk p4 wr.heap.size r ∧ XBlk p4 (w.heap.size + 1 + 1) v1 v2 pt rs := ⟨hS.1.below q, hS.2.below q⟩
                  refine hK.out _ _ (fun _ => hS) ?_
                  clear hK K
                  replace hf := hf.trans (q.mono hf.size)
                  replace hp := Nat.le_trans hp q.size
                  clear q own lz em0 hg0
                  refine Till.ready (l := [9]) (by as_aux_lemma => kernel_rfl) (by simp) ?_
                  refine TillAll.cons rfl (fun K hK => ?_) TillAll.nil
                  · refine step_clone 30 36 im _ 3 40 Tryd.underlying30 hm hm0 hm1 hm2 rfl (by decide) rfl _ _ rfl (wr.heap.size + 1) p0.heap.size rfl em1 hg1 r.ta r.tgt.length r.tc (rowM r.tgt) rfl (flat_len encM_len _) (mts_news (HM2.out.below hf (Nat.le_refl _))) rowM_one HN2.out (by omega) (by omega) ?_
                    intro va p5 own q
                    obtain ⟨a9, c9, rfl, lz⟩ := LstM.of own
                    replace ls0 := ls0.below q
                    replace em2 := em2.below q
                    have ls1 := lz
                    replace hS : RuBlk p5 wr.heap.size r ∧ XBlk p5 (w.heap.size + 1 + 1) v1 v2 pt rs := ⟨hS.1.below q, hS.2.below q⟩
                    refine hK.out _ _ (fun _ => hS) ?_
                    clear hK K
                    replace hf := hf.trans (q.mono hf.size)
                    replace hp := Nat.le_trans hp q.size
                    clear q own lz em1 hg1
                    refine Till.ready (l := [13]) (by as_aux_lemma => kernel_rfl) (by simp) ?_
                    refine TillAll.cons rfl (fun K hK => ?_) TillAll.nil
                    · refine step_clone 31 9 is _ 1 16 Tryd.underlying31 hs hs0 hs1 hs2 rfl (by decide) rfl _ _ rfl (wr.heap.size + 1) p1.heap.size rfl em2 hg2 r.ea r.eqs.length r.ec (r.eqs.map .string) rfl (by simp) (strs_news (HM3.out.below hf (Nat.le_refl _))) strs_one HN3.out (by omega) (by omega) ?_
                      intro va p6 own q
                      obtain ⟨a13, c13, rfl, lz⟩ := LstS.of own
                      replace ls0 := ls0.below q
                      replace ls1 := ls1.below q
                      have ls2 := lz
                      replace hS : RuBlk p6 wr.heap.size r ∧ XBlk p6 (w.heap.size + 1 + 1) v1 v2 pt rs := ⟨hS.1.below q, hS.2.below q⟩
                      refine hK.out _ _ (fun _ => hS) ?_
                      clear hK K
                      replace hf := hf.trans (q.mono hf.size)
                      replace hp := Nat.le_trans hp q.size
                      clear q own lz em2 hg2
                      refine Till.take (i := 14) (some 65) (v := ?_) rfl rfl (by as_aux_lemma => kernel_rfl) (by as_aux_lemma => kernel_rfl) (by as_aux_lemma => kernel_rfl) (by as_aux_lemma => kernel_rfl) (fun _ _ _ h => h) (Or.inl ⟨by kernel_rfl, ?_⟩) hS ?_
                      rotate_left
                      · intro w hSw; have x0 := cell_heap (j := 0) hSw.1; have x1 := cell_heap (j := 1) hSw.1; have x2 := cell_heap (j := 2) hSw.1; have x3 := cell_heap (j := 1) hSw.2; simp only [List.getElem?_toArray, List.getElem?_cons_zero, List.getElem?_cons_succ] at x0 x1 x2 x3; go_simp
                        first | done | with_reducible rfl
                      refine Till.ready (l := [15]) (by as_aux_lemma => kernel_rfl) (by simp) ?_
                      refine TillAll.cons rfl (fun K hK => ?_) TillAll.nil
                      go_simp
                      go_wp2_with fail
                      have q := (Below.refl p6.heap.size p6).alloc (Nat.le_refl _) (.cells #[.slice a5 r.src.length c5, .slice a9 r.tgt.length c9, .slice a13 r.eqs.length c13] 38)
                      have gz : (p6.alloc (.cells #[.slice a5 r.src.length c5, .slice a9 r.tgt.length c9, .slice a13 r.eqs.length c13] 38)).heap[p6.heap.size]? = some (.cells (encL { r with sa := a5, sc := c5, ta := a9, tc := c9, ea := a13, ec := c13 }).toArray 38 (0, 0)) := heap_new p6 _
                      replace ls0 := ls0.below q
                      replace ls1 := ls1.below q
                      replace ls2 := ls2.below q
                      replace hS : RuBlk (p6.alloc (.cells #[.slice a5 r.src.length c5, .slice a9 r.tgt.length c9, .slice a13 r.eqs.length c13] 38)) wr.heap.size r ∧ XBlk (p6.alloc (.cells #[.slice a5 r.src.length c5, .slice a9 r.tgt.length c9, .slice a13 r.eqs.length c13] 38)) (w.heap.size + 1 + 1) v1 v2 pt rs := ⟨hS.1.below q, hS.2.below q⟩
                      refine hK.out _ _ (fun _ => hS) ?_
                      clear hK K
                      replace hf := hf.trans (q.mono hf.size)
                      replace hp := Nat.le_trans hp q.size
                      clear q
                      generalize p6.alloc (.cells #[.slice a5 r.src.length c5, .slice a9 r.tgt.length c9, .slice a13 r.eqs.length c13] 38) = p7 at *
                      refine Till.ready (l := [16]) (by as_aux_lemma => kernel_rfl) (by simp) ?_
                      refine TillAll.cons rfl (fun K hK => ?_) TillAll.nil
                      refine step_own_at rfl _ _ 23 rfl wS.heap.size 38 il _ 3 72 Tryd.underlying23 hil hil0 hil1 hil2 rfl (by decide) v2 ls'.length (ls'.flatMap encL) rfl (HCl.out.below hf).2.1 ⟨p6.heap.size, 0, none⟩ 1 1 (encL { r with sa := a5, sc := c5, ta := a9, tc := c9, ea := a13, ec := c13 }) rfl (encL_len _) (cells_of_blk gz) encL_one (by have := HLk.out; omega) (by have := HLk.out; omega) (by have := HSz.out; omega) ?_
                      intro v9 p8 own9 g9 at9
                      have kp : ∀ j, (j = wr.heap.size ∨ j = w.heap.size + 1 + 1) → p8.heap[j]? = p7.heap[j]? := fun j hj => g9.block j (by have := HSz.out; omega) (fun e => by have := HVb.out j e.symm; omega)
                      have hS9 : RuBlk p8 wr.heap.size r ∧ XBlk p8 (w.heap.size + 1 + 1) v1 v2 pt rs := ⟨(kp _ (.inl rfl)).trans hS.1, (kp _ (.inr rfl)).trans hS.2⟩
                      have hE := rule_end HG.out hXS HCl.out hlt2 (HNm.out a5 c5 a9 c9 a13 c13) hf ls0 ls1 ls2 own9 g9 at9 hS9.2
                      have HE := Lib.hid hE
                      obtain ⟨n9, hn9⟩ : ∃ n, n = ls'.length + 1 := ⟨_, rfl⟩
                      rw [← hn9] at own9
                      obtain ⟨-, h0⟩ | ⟨g, cap, cur, rfl, -⟩ := own9.2
                      · omega
                      clear hn9
                      refine hK.out _ _ (fun _ => hS9) ?_
                      clear hK K hS own9 g9 at9 kp gz ls0 ls1 ls2 hE hf hp
                      have hS := hS9
                      refine Till.take (i := 17) (some 68) (v := ?_) rfl rfl (by as_aux_lemma => kernel_rfl) (by as_aux_lemma => kernel_rfl) (by as_aux_lemma => kernel_rfl) (by as_aux_lemma => kernel_rfl) (fun _ _ _ h => h) (Or.inl ⟨by kernel_rfl, ?_⟩) hS ?_
                      rotate_left
                      · intro w hSw; have x0 := cell_heap (j := 0) hSw.1; have x1 := cell_heap (j := 1) hSw.1; have x2 := cell_heap (j := 2) hSw.1; have x3 := cell_heap (j := 1) hSw.2; simp only [List.getElem?_toArray, List.getElem?_cons_zero, List.getElem?_cons_succ] at x0 x1 x2 x3; go_simp
                        first | done | with_reducible rfl
                      refine Till.ready (l := [18]) (by as_aux_lemma => kernel_rfl) (by simp) ?_
                      refine TillAll.cons rfl (fun K hK => ?_) TillAll.nil
                      have z1 : p8.cell? ⟨w.heap.size + 1 + 1, 1, none⟩ = some v2 := cell_heap hS9.2
                      have fz : p8.frozen? ⟨w.heap.size + 1 + 1, 1, none⟩ = false := frozen_of hS9.2
                      clear hS hS9
                      go_simp
                      go_wp2_with fail
                      refine hK.out _ _ (fun h => absurd rfl h) ?_
                      clear hK K z1 fz
                      refine Till.done (by kernel_rfl) ?_ _
                      go_simp
                      go_wp2
                      go_roundw
                      case rel => exact ⟨k + 1, _, _, by omega, by go_num, Lib.hid HE.out.1, Lib.hid HE.out.2.1, Lib.hid HE.out.2.2⟩
                      case measure => simp [intOf]; omega
          · go_simp
            go_wp2_with fail
            have q := (Below.refl p0.heap.size p0).alloc (Nat.le_refl _) (.cells #[] 9)
            have em2 : Emp (p0.alloc (.cells #[] 9)) p0.heap.size 9 := heap_new p0 _
            have hg2 : wr.heap.size + 1 ≤ p0.heap.size := hp
            replace hS : RuBlk (p0.alloc (.cells #[] 9)) wr.heap.size r ∧ XBlk (p0.alloc (.cells #[] 9)) (w.heap.size + 1 + 1) v1 v2 pt rs := ⟨hS.1.below q, hS.2.below q⟩
            refine hK.out _ _ (fun _ => hS) ?_
            clear hK K
            replace hf := hf.trans (q.mono hf.size)
            replace hp := Nat.le_trans hp q.size
            clear q
            generalize p0.alloc (.cells #[] 9) = p1 at *
            refine Till.ready (l := [2, 6]) (by as_aux_lemma => kernel_rfl) (by simp) ?_
            refine TillAll.cons rfl (fun K hK => ?_) (TillAll.cons rfl (fun K hK => ?_) TillAll.nil)
            · go_simp
              go_wp2_with fail
              have q := (Below.refl p1.heap.size p1).alloc (Nat.le_refl _) (.cells #[] 36)
              replace em2 := em2.below q
              have em0 : Emp (p1.alloc (.cells #[] 36)) p1.heap.size 36 := heap_new p1 _
              have hg0 : wr.heap.size + 1 ≤ p1.heap.size := hp
              replace hS : RuBlk (p1.alloc (.cells #[] 36)) wr.heap.size r ∧ XBlk (p1.alloc (.cells #[] 36)) (w.heap.size + 1 + 1) v1 v2 pt rs := ⟨hS.1.below q, hS.2.below q⟩
              refine hK.out _ _ (fun _ => hS) ?_
              clear hK K
              replace hf := hf.trans (q.mono hf.size)
              replace hp := Nat.le_trans hp q.size
              clear q
              generalize p1.alloc (.cells #[] 36) = p2 at *
              refine Till.ready (l := [5, 6]) (by as_aux_lemma => kernel_rfl) (by simp) ?_
              refine TillAll.cons rfl (fun K hK => ?_) (TillAll.cons rfl (fun K hK => ?_) TillAll.nil)
              · refine step_clone 30 36 im _ 3 40 Tryd.underlying30 hm hm0 hm1 hm2 rfl (by decide) rfl _ _ rfl (wr.heap.size + 1) p1.heap.size rfl em0 hg0 r.sa r.src.length r.sc (rowM r.src) rfl (flat_len encM_len _) (mts_news (HM1.out.below hf (Nat.le_refl _))) rowM_one HN1.out (by omega) (by omega) ?_
                intro va p3 own q
                obtain ⟨a5, c5, rfl, lz⟩ := LstM.of own
                replace em2 := em2.below q
                have ls0 := lz
                replace hS : RuBlk p3 wr.heap.size r ∧ XBlk p3 (w.heap.size + 1 + 1) v1 v2 pt rs := ⟨hS.1.below q, hS.2.below q⟩
                refine hK.out _ _ (fun _ => hS) ?_
                clear hK K
                replace hf := hf.trans (q.mono hf.size)
                replace hp := Nat.le_trans hp q.size
                clear q own lz em0 hg0
                refine Till.ready (l := [6]) (by as_aux_lemma => kernel_rfl) (by simp) ?_
                refine TillAll.cons rfl (fun K hK => ?_) TillAll.nil
                · go_simp
                  go_wp2_with fail
                  have q := (Below.refl p3.heap.size p3).alloc (Nat.le_refl _) (.cells #[] 36)
                  replace ls0 := ls0.below q
                  replace em2 := em2.below q
                  have em1 : Emp (p3.alloc (.cells #[] 36)) p3.heap.size 36 := heap_new p3 _
                  have hg1 : wr.heap.size + 1 ≤ p3.heap.size := hp
                  replace hS : RuBlk (p3.alloc (.cells #[] 36)) wr.heap.size r ∧ XBlk (p3.alloc (.cells #[] 36)) (w.heap.size + 1 + 1) v1 v2 pt rs := ⟨hS.1.below q, hS.2.below q⟩
                  refine hK.out _ _ (fun _ => hS) ?_
                  clear hK K
                  replace hf := hf.trans (q.mono hf.size)
                  replace hp := Nat.le_trans hp q.size
                  clear q
                  generalize p3.alloc (.cells #[] 36) = p4 at *
                  refine Till.ready (l := [9]) (by as_aux_lemma => kernel_rfl) (by simp) ?_
                  refine TillAll.cons rfl (fun K hK => ?_) TillAll.nil
                  · refine step_clone 30 36 im _ 3 40 Tryd.underlying30 hm hm0 hm1 hm2 rfl (by decide) rfl _ _ rfl (wr.heap.size + 1) p3.heap.size rfl em1 hg1 r.ta r.tgt.length r.tc (rowM r.tgt) rfl (flat_len encM_len _) (mts_news (HM2.out.below hf (Nat.le_refl _))) rowM_one HN2.out (by omega) (by omega) ?_
                    intro va p5 own q
                    obtain ⟨a9, c9, rfl, lz⟩ := LstM.of own
                    replace ls0 := ls0.below q
                    replace em2 := em2.below q
                    have ls1 := lz
                    replace hS : RuBlk p5 wr.heap.size r ∧ XBlk p5 (w.heap.size + 1 + 1) v1 v2 pt rs := ⟨hS.1.below q, hS.2.below q⟩
                    refine hK.out _ _ (fun _ => hS) ?_
                    clear hK K
                    replace hf := hf.trans (q.mono hf.size)
                    replace hp := Nat.le_trans hp q.size
                    clear q own lz em1 hg1
                    refine Till.ready (l := [13]) (by as_aux_lemma => kernel_rfl) (by simp) ?_
                    refine TillAll.cons rfl (fun K hK => ?_) TillAll.nil
                    · refine step_clone 31 9 is _ 1 16 Tryd.underlying31 hs hs0 hs1 hs2 rfl (by decide) rfl _ _ rfl (wr.heap.size + 1) p0.heap.size rfl em2 hg2 r.ea r.eqs.length r.ec (r.eqs.map .string) rfl (by simp) (strs_news (HM3.out.below hf (Nat.le_refl _))) strs_one HN3.out (by omega) (by omega) ?_
                      intro va p6 own q
                      obtain ⟨a13, c13, rfl, lz⟩ := LstS.of own
                      replace ls0 := ls0.below q
                      replace ls1 := ls1.below q
                      have ls2 := lz
                      replace hS : RuBlk p6 wr.heap.size r ∧ XBlk p6 (w.heap.size + 1 + 1) v1 v2 pt rs := ⟨hS.1.below q, hS.2.below q⟩
                      refine hK.out _ _ (fun _ => hS) ?_
                      clear hK K
                      replace hf := hf.trans (q.mono hf.size)
                      replace hp := Nat.le_trans hp q.size
                      clear q own lz em2 hg2
                      refine Till.take (i := 14) (some 65) (v := ?_) rfl rfl (by as_aux_lemma => kernel_rfl) (by as_aux_lemma => kernel_rfl) (by as_aux_lemma => kernel_rfl) (by as_aux_lemma => kernel_rfl) (fun _ _ _ h => h) (Or.inl ⟨by kernel_rfl, ?_⟩) hS ?_
                      rotate_left
                      · intro w hSw; have x0 := cell_heap (j := 0) hSw.1; have x1 := cell_heap (j := 1) hSw.1; have x2 := cell_heap (j := 2) hSw.1; have x3 := cell_heap (j := 1) hSw.2; simp only [List.getElem?_toArray, List.getElem?_cons_zero, List.getElem?_cons_succ] at x0 x1 x2 x3; go_simp
                        first | done | with_reducible rfl
                      refine Till.ready (l := [15]) (by as_aux_lemma => kernel_rfl) (by simp) ?_
                      refine TillAll.cons rfl (fun K hK => ?_) TillAll.nil
                      go_simp
                      go_wp2_with fail
                      have q := (Below.refl p6.heap.size p6).alloc (Nat.le_refl _) (.cells #[.slice a5 r.src.length c5, .slice a9 r.tgt.length c9, .slice a13 r.eqs.length c13] 38)
                      have gz : (p6.alloc (.cells #[.slice a5 r.src.length c5, .slice a9 r.tgt.length c9, .slice a13 r.eqs.length c13] 38)).heap[p6.heap.size]? = some (.cells (encL { r with sa := a5, sc := c5, ta := a9, tc := c9, ea := a13, ec := c13 }).toArray 38 (0, 0)) := heap_new p6 _
                      replace ls0 := ls0.below q
                      replace ls1 := ls1.below q
                      replace ls2 := ls2.below q
                      replace hS : RuBlk (p6.alloc (.cells #[.slice a5 r.src.length c5, .slice a9 r.tgt.length c9, .slice a13 r.eqs.length c13] 38)) wr.heap.size r ∧ XBlk (p6.alloc (.cells #[.slice a5 r.src.length c5, .slice a9 r.tgt.length c9, .slice a13 r.eqs.length c13] 38)) (w.heap.size + 1 + 1) v1 v2 pt rs := ⟨hS.1.below q, hS.2.below q⟩
                      refine hK.out _ _ (fun _ => hS) ?_
                      clear hK K
                      replace hf := hf.trans (q.mono hf.size)
                      replace hp := Nat.le_trans hp q.size
                      clear q
                      generalize p6.alloc (.cells #[.slice a5 r.src.length c5, .slice a9 r.tgt.length c9, .slice a13 r.eqs.length c13] 38) = p7 at *
                      refine Till.ready (l := [16]) (by as_aux_lemma => kernel_rfl) (by simp) ?_
                      refine TillAll.cons rfl (fun K hK => ?_) TillAll.nil
                      refine step_own_at rfl _ _ 23 rfl wS.heap.size 38 il _ 3 72 Tryd.underlying23 hil hil0 hil1 hil2 rfl (by decide) v2 ls'.length (ls'.flatMap encL) rfl (HCl.out.below hf).2.1 ⟨p6.heap.size, 0, none⟩ 1 1 (encL { r with sa := a5, sc := c5, ta := a9, tc := c9, ea := a13, ec := c13 }) rfl (encL_len _) (cells_of_blk gz) encL_one (by have := HLk.out; omega) (by have := HLk.out; omega) (by have := HSz.out; omega) ?_
                      intro v9 p8 own9 g9 at9
                      have kp : ∀ j, (j = wr.heap.size ∨ j = w.heap.size + 1 + 1) → p8.heap[j]? = p7.heap[j]? := fun j hj => g9.block j (by have := HSz.out; omega) (fun e => by have := HVb.out j e.symm; omega)
                      have hS9 : RuBlk p8 wr.heap.size r ∧ XBlk p8 (w.heap.size + 1 + 1) v1 v2 pt rs := ⟨(kp _ (.inl rfl)).trans hS.1, (kp _ (.inr rfl)).trans hS.2⟩
                      have hE := rule_end HG.out hXS HCl.out hlt2 (HNm.out a5 c5 a9 c9 a13 c13) hf ls0 ls1 ls2 own9 g9 at9 hS9.2
                      have HE := Lib.hid hE
                      obtain ⟨n9, hn9⟩ : ∃ n, n = ls'.length + 1 := ⟨_, rfl⟩
                      rw [← hn9] at own9
                      obtain ⟨-, h0⟩ | ⟨g, cap, cur, rfl, -⟩ := own9.2
                      · omega
                      clear hn9
                      refine hK.out _ _ (fun _ => hS9) ?_
                      clear hK K hS own9 g9 at9 kp gz ls0 ls1 ls2 hE hf hp
                      have hS := hS9
                      refine Till.take (i := 17) (some 68) (v := ?_) rfl rfl (by as_aux_lemma => kernel_rfl) (by as_aux_lemma => kernel_rfl) (by as_aux_lemma => kernel_rfl) (by as_aux_lemma => kernel_rfl) (fun _ _ _ h => h) (Or.inl ⟨by kernel_rfl, ?_⟩) hS ?_
                      rotate_left
                      · intro w hSw; have x0 := cell_heap (j := 0) hSw.1; have x1 := cell_heap (j := 1) hSw.1; have x2 := cell_heap (j := 2) hSw.1; have x3 := cell_heap (j := 1) hSw.2; simp only [List.getElem?_toArray, List.getElem?_cons_zero, List.getElem?_cons_succ] at x0 x1 x2 x3; go_simp
                        first | done | with_reducible rfl
                      refine Till.ready (l := [18]) (by as_aux_lemma => kernel_rfl) (by simp) ?_
                      refine TillAll.cons rfl (fun K hK => ?_) TillAll.nil
                      have z1 : p8.cell? ⟨w.heap.size + 1 + 1, 1, none⟩ = some v2 := cell_heap hS9.2
                      have fz : p8.frozen? ⟨w.heap.size + 1 + 1, 1, none⟩ = false := frozen_of hS9.2
                      clear hS hS9
                      go_simp
                      go_wp2_with fail
                      refine hK.out _ _ (fun h => absurd rfl h) ?_
                      clear hK K z1 fz
                      refine Till.done (by kernel_rfl) ?_ _
                      go_simp
                      go_wp2
                      go_roundw
                      case rel => exact ⟨k + 1, _, _, by omega, by go_num, Lib.hid HE.out.1, Lib.hid HE.out.2.1, Lib.hid HE.out.2.2⟩
                      case measure => simp [intOf]; omega
              · go_simp
                go_wp2_with fail
                have q := (Below.refl p2.heap.size p2).alloc (Nat.le_refl _) (.cells #[] 36)
                replace em0 := em0.below q
                replace em2 := em2.below q
                have em1 : Emp (p2.alloc (.cells #[] 36)) p2.heap.size 36 := heap_new p2 _
                have hg1 : wr.heap.size + 1 ≤ p2.heap.size := hp
                replace hS : RuBlk (p2.alloc (.cells #[] 36)) wr.heap.size r ∧ XBlk (p2.alloc (.cells #[] 36)) (w.heap.size + 1 + 1) v1 v2 pt rs := ⟨hS.1.below q, hS.2.below q⟩
                refine hK.out _ _ (fun _ => hS) ?_
                clear hK K
                replace hf := hf.trans (q.mono hf.size)
                replace hp := Nat.le_trans hp q.size
                clear q
                generalize p2.alloc (.cells #[] 36) = p3 at *
                refine Till.ready (l := [5]) (by as_aux_lemma => kernel_rfl) (by simp) ?_
                refine TillAll.cons rfl (fun K hK => ?_) TillAll.nil
                · refine step_clone 30 36 im _ 3 40 Tryd.underlying30 hm hm0 hm1 hm2 rfl (by decide) rfl _ _ rfl (wr.heap.size + 1) p1.heap.size rfl em0 hg0 r.sa r.src.length r.sc (rowM r.src) rfl (flat_len encM_len _) (mts_news (HM1.out.below hf (Nat.le_refl _))) rowM_one HN1.out (by omega) (by omega) ?_
                  intro va p4 own q
                  obtain ⟨a5, c5, rfl, lz⟩ := LstM.of own
                  replace em1 := em1.below q
                  replace em2 := em2.below q
                  have ls0 := lz
                  replace hS : RuBlk p4 wr.heap.size r ∧ XBlk p4 (w.heap.size + 1 + 1) v1 v2 pt rs := ⟨hS.1.below q, hS.2.below q⟩
                  refine hK.out _ _ (fun _ => hS) ?_
                  clear hK K
                  replace hf := hf.trans (q.mono hf.size)
                  replace hp := Nat.le_trans hp q.size
                  clear q own lz em0 hg0
                  refine Till.ready (l := [9]) (by as_aux_lemma => kernel_rfl) (by simp) ?_
                  refine TillAll.cons rfl (fun K hK => ?_) TillAll.nil
                  · refine step_clone 30 36 im _ 3 40 Tryd.underlying30 hm hm0 hm1 hm2 rfl (by decide) rfl _ _ rfl (wr.heap.size + 1) p2.heap.size rfl em1 hg1 r.ta r.tgt.length r.tc (rowM r.tgt) rfl (flat_len encM_len _) (mts_news (HM2.out.below hf (Nat.le_refl _))) rowM_one HN2.out (by omega) (by omega) ?_
                    intro va p5 own q
                    obtain ⟨a9, c9, rfl, lz⟩ := LstM.of own
                    replace ls0 := ls0.below q
                    replace em2 := em2.below q
                    have ls1 := lz
                    replace hS : RuBlk p5 wr.heap.size r ∧ XBlk p5 (w.heap.size + 1 + 1) v1 v2 pt rs := ⟨hS.1.below q, hS.2.below q⟩
                    refine hK.out _ _ (fun _ => hS) ?_
                    clear hK K
                    replace hf := hf.trans (q.mono hf.size)
                    replace hp := Nat.le_trans hp q.size
                    clear q own lz em1 hg1
                    refine Till.ready (l := [13]) (by as_aux_lemma => kernel_rfl) (by simp) ?_
                    refine TillAll.cons rfl (fun K hK => ?_) TillAll.nil
                    · refine step_clone 31 9 is _ 1 16 Tryd.underlying31 hs hs0 hs1 hs2 rfl (by decide) rfl _ _ rfl (wr.heap.size + 1) p0.heap.size rfl em2 hg2 r.ea r.eqs.length r.ec (r.eqs.map .string) rfl (by simp) (strs_news (HM3.out.below hf (Nat.le_refl _))) strs_one HN3.out (by omega) (by omega) ?_
                      intro va p6 own q
                      obtain ⟨a13, c13, rfl, lz⟩ := LstS.of own
                      replace ls0 := ls0.below q
                      replace ls1 := ls1.below q
                      have ls2 := lz
                      replace hS : RuBlk p6 wr.heap.size r ∧ XBlk p6 (w.heap.size + 1 + 1) v1 v2 pt rs := ⟨hS.1.below q, hS.2.below q⟩
                      refine hK.out _ _ (fun _ => hS) ?_
                      clear hK K
                      replace hf := hf.trans (q.mono hf.size)
                      replace hp := Nat.le_trans hp q.size
                      clear q own lz em2 hg2
                      refine Till.take (i := 14) (some 65) (v := ?_) rfl rfl (by as_aux_lemma => kernel_rfl) (by as_aux_lemma => kernel_rfl) (by as_aux_lemma => kernel_rfl) (by as_aux_lemma => kernel_rfl) (fun _ _ _ h => h) (Or.inl ⟨by kernel_rfl, ?_⟩) hS ?_
                      rotate_left
                      · intro w hSw; have x0 := cell_heap (j := 0) hSw.1; have x1 := cell_heap (j := 1) hSw.1; have x2 := cell_heap (j := 2) hSw.1; have x3 := cell_heap (j := 1) hSw.2; simp only [List.getElem?_toArray, List.getElem?_cons_zero, List.getElem?_cons_succ] at x0 x1 x2 x3; go_simp
                        first | done | with_reducible rfl
                      refine Till.ready (l := [15]) (by as_aux_lemma => kernel_rfl) (by simp) ?_
                      refine TillAll.cons rfl (fun K hK => ?_) TillAll.nil
                      go_simp
                      go_wp2_with fail
                      have q := (Below.refl p6.heap.size p6).alloc (Nat.le_refl _) (.cells #[.slice a5 r.src.length c5, .slice a9 r.tgt.length c9, .slice a13 r.eqs.length c13] 38)
                      have gz : (p6.alloc (.cells #[.slice a5 r.src.length c5, .slice a9 r.tgt.length c9, .slice a13 r.eqs.length c13] 38)).heap[p6.heap.size]? = some (.cells (encL { r with sa := a5, sc := c5, ta := a9, tc := c9, ea := a13, ec := c13 }).toArray 38 (0, 0)) := heap_new p6 _
                      replace ls0 := ls0.below q
                      replace ls1 := ls1.below q
                      replace ls2 := ls2.below q
                      replace hS : RuBlk (p6.alloc (.cells #[.slice a5 r.src.length c5, .slice a9 r.tgt.length c9, .slice a13 r.eqs.length c13] 38)) wr.heap.size r ∧ XBlk (p6.alloc (.cells #[.slice a5 r.src.length c5, .slice a9 r.tgt.length c9, .slice a13 r.eqs.length c13] 38)) (w.heap.size + 1 + 1) v1 v2 pt rs := ⟨hS.1.below q, hS.2.below q⟩
                      refine hK.out _ _ (fun _ => hS) ?_
                      clear hK K
                      replace hf := hf.trans (q.mono hf.size)
                      replace hp := Nat.le_trans hp q.size
                      clear q
                      generalize p6.alloc (.cells #[.slice a5 r.src.length c5, .slice a9 r.tgt.length c9, .slice a13 r.eqs.length c13] 38) = p7 at *
                      refine Till.ready (l := [16]) (by as_aux_lemma => kernel_rfl) (by simp) ?_
                      refine TillAll.cons rfl (fun K hK => ?_) TillAll.nil
                      refine step_own_at rfl _ _ 23 rfl wS.heap.size 38 il _ 3 72 Tryd.underlying23 hil hil0 hil1 hil2 rfl (by decide) v2 ls'.length (ls'.flatMap encL) rfl (HCl.out.below hf).2.1 ⟨p6.heap.size, 0, none⟩ 1 1 (encL { r with sa := a5, sc := c5, ta := a9, tc := c9, ea := a13, ec := c13 }) rfl (encL_len _) (cells_of_blk gz) encL_one (by have := HLk.out; omega) (by have := HLk.out; omega) (by have := HSz.out; omega) ?_
                      intro v9 p8 own9 g9 at9
                      have kp : ∀ j, (j = wr.heap.size ∨ j = w.heap.size + 1 + 1) → p8.heap[j]? = p7.heap[j]? := fun j hj => g9.block j (by have := HSz.out; omega) (fun e => by have := HVb.out j e.symm; omega)
                      have hS9 : RuBlk p8 wr.heap.size r ∧ XBlk p8 (w.heap.size + 1 + 1) v1 v2 pt rs := ⟨(kp _ (.inl rfl)).trans hS.1, (kp _ (.inr rfl)).trans hS.2⟩
                      have hE := rule_end HG.out hXS HCl.out hlt2 (HNm.out a5 c5 a9 c9 a13 c13) hf ls0 ls1 ls2 own9 g9 at9 hS9.2
                      have HE := Lib.hid hE
                      obtain ⟨n9, hn9⟩ : ∃ n, n = ls'.length + 1 := ⟨_, rfl⟩
                      rw [← hn9] at own9
                      obtain ⟨-, h0⟩ | ⟨g, cap, cur, rfl, -⟩ := own9.2
                      · omega
                      clear hn9
                      refine hK.out _ _ (fun _ => hS9) ?_
                      clear hK K hS own9 g9 at9 kp gz ls0 ls1 ls2 hE hf hp
                      have hS := hS9
                      refine Till.take (i := 17) (some 68) (v := ?_) rfl rfl (by as_aux_lemma => kernel_rfl) (by as_aux_lemma => kernel_rfl) (by as_aux_lemma => kernel_rfl) (by as_aux_lemma => kernel_rfl) (fun _ _ _ h => h) (Or.inl ⟨by kernel_rfl, ?_⟩) hS ?_
                      rotate_left
                      · intro w hSw; have x0 := cell_heap (j := 0) hSw.1; have x1 := cell_heap (j := 1) hSw.1; have x2 := cell_heap (j := 2) hSw.1; have x3 := cell_heap (j := 1) hSw.2; simp only [List.getElem?_toArray, List.getElem?_cons_zero, List.getElem?_cons_succ] at x0 x1 x2 x3; go_simp
                        first | done | with_reducible rfl
                      refine Till.ready (l := [18]) (by as_aux_lemma => kernel_rfl) (by simp) ?_
                      refine TillAll.cons rfl (fun K hK => ?_) TillAll.nil
                      have z1 : p8.cell? ⟨w.heap.size + 1 + 1, 1, none⟩ = some v2 := cell_heap hS9.2
                      have fz : p8.frozen? ⟨w.heap.size + 1 + 1, 1, none⟩ = false := frozen_of hS9.2
                      clear hS hS9
                      go_simp
                      go_wp2_with fail
                      refine hK.out _ _ (fun h => absurd rfl h) ?_
                      clear hK K z1 fz
                      refine Till.done (by kernel_rfl) ?_ _
                      go_simp
                      go_wp2
                      go_roundw
                      case rel => exact ⟨k + 1, _, _, by omega, by go_num, Lib.hid HE.out.1, Lib.hid HE.out.2.1, Lib.hid HE.out.2.2⟩
                      case measure => simp [intOf]; omega
            · go_simp
              go_wp2_with fail
              have q := (Below.refl p1.heap.size p1).alloc (Nat.le_refl _) (.cells #[] 36)
              replace em2 := em2.below q
              have em1 : Emp (p1.alloc (.cells #[] 36)) p1.heap.size 36 := heap_new p1 _
              have hg1 : wr.heap.size + 1 ≤ p1.heap.size := hp
              replace hS : RuBlk (p1.alloc (.cells #[] 36)) wr.heap.size r ∧ XBlk (p1.alloc (.cells #[] 36)) (w.heap.size + 1 + 1) v1 v2 pt rs := ⟨hS.1.below q, hS.2.below q⟩
              refine hK.out _ _ (fun _ => hS) ?_
              clear hK K
              replace hf := hf.trans (q.mono hf.size)
              replace hp := Nat.le_trans hp q.size
              clear q
              generalize p1.alloc (.cells #[] 36) = p2 at *
              refine Till.ready (l := [2]) (by as_aux_lemma => kernel_rfl) (by simp) ?_
              refine TillAll.cons rfl (fun K hK => ?_) TillAll.nil
              · go_simp
                go_wp2_with fail
                have q := (Below.refl p2.heap.size p2).alloc (Nat.le_refl _) (.cells #[] 36)
                replace em1 := em1.below q
                replace em2 := em2.below q
                have em0 : Emp (p2.alloc (.cells #[] 36)) p2.heap.size 36 := heap_new p2 _
                have hg0 : wr.heap.size + 1 ≤ p2.heap.size := hp
                replace hS : RuBlk (p2.alloc (.cells #[] 36)) wr.heap.size r ∧ XBlk (p2.alloc (.cells #[] 36)) (w.heap.size + 1 + 1) v1 v2 pt rs := ⟨hS.1.below q, hS.2.below q⟩
                refine hK.out _ _ (fun _ => hS) ?_
                clear hK K
                replace hf := hf.trans (q.mono hf.size)
                replace hp := Nat.le_trans hp q.size
                clear q
                generalize p2.alloc (.cells #[] 36) = p3 at *
                refine Till.ready (l := [5]) (by as_aux_lemma => kernel_rfl) (by simp) ?_
                refine TillAll.cons rfl (fun K hK => ?_) TillAll.nil
                · refine step_clone 30 36 im _ 3 40 Tryd.underlying30 hm hm0 hm1 hm2 rfl (by decide) rfl _ _ rfl (wr.heap.size + 1) p2.heap.size rfl em0 hg0 r.sa r.src.length r.sc (rowM r.src) rfl (flat_len encM_len _) (mts_news (HM1.out.below hf (Nat.le_refl _))) rowM_one HN1.out (by omega) (by omega) ?_
                  intro va p4 own q
                  obtain ⟨a5, c5, rfl, lz⟩ := LstM.of own
                  replace em1 := em1.below q
                  replace em2 := em2.below q
                  have ls0 := lz
                  replace hS : RuBlk p4 wr.heap.size r ∧ XBlk p4 (w.heap.size + 1 + 1) v1 v2 pt rs := ⟨hS.1.below q, hS.2.below q⟩
                  refine hK.out _ _ (fun _ => hS) ?_
                  clear hK K
                  replace hf := hf.trans (q.mono hf.size)
                  replace hp := Nat.le_trans hp q.size
                  clear q own lz em0 hg0
                  refine Till.ready (l := [9]) (by as_aux_lemma => kernel_rfl) (by simp) ?_
                  refine TillAll.cons rfl (fun K hK => ?_) TillAll.nil
                  · refine step_clone 30 36 im _ 3 40 Tryd.underlying30 hm hm0 hm1 hm2 rfl (by decide) rfl _ _ rfl (wr.heap.size + 1) p1.heap.size rfl em1 hg1 r.ta r.tgt.length r.tc (rowM r.tgt) rfl (flat_len encM_len _) (mts_news (HM2.out.below hf (Nat.le_refl _))) rowM_one HN2.out (by omega) (by omega) ?_
                    intro va p5 own q
                    obtain ⟨a9, c9, rfl, lz⟩ := LstM.of own
                    replace ls0 := ls0.below q
                    replace em2 := em2.below q
                    have ls1 := lz
                    replace hS : RuBlk p5 wr.heap.size r ∧ XBlk p5 (w.heap.size + 1 + 1) v1 v2 pt rs := ⟨hS.1.below q, hS.2.below q⟩
                    refine hK.out _ _ (fun _ => hS) ?_
                    clear hK K
                    replace hf := hf.trans (q.mono hf.size)
                    replace hp := Nat.le_trans hp q.size
                    clear q own lz em1 hg1
                    refine Till.ready (l := [13]) (by as_aux_lemma => kernel_rfl) (by simp) ?_
                    refine TillAll.cons rfl (fun K hK => ?_) TillAll.nil
                    · refine step_clone 31 9 is _ 1 16 Tryd.underlying31 hs hs0 hs1 hs2 rfl (by decide) rfl _ _ rfl (wr.heap.size + 1) p0.heap.size rfl em2 hg2 r.ea r.eqs.length r.ec (r.eqs.map .string) rfl (by simp) (strs_news (HM3.out.below hf (Nat.le_refl _))) strs_one HN3.out (by omega) (by omega) ?_
                      intro va p6 own q
                      obtain ⟨a13, c13, rfl, lz⟩ := LstS.of own
                      replace ls0 := ls0.below q
                      replace ls1 := ls1.below q
                      have ls2 := lz
                      replace hS : RuBlk p6 wr.heap.size r ∧ XBlk p6 (w.heap.size + 1 + 1) v1 v2 pt rs := ⟨hS.1.below q, hS.2.below q⟩
                      refine hK.out _ _ (fun _ => hS) ?_
                      clear hK K
                      replace hf := hf.trans (q.mono hf.size)
                      replace hp := Nat.le_trans hp q.size
                      clear q own lz em2 hg2
                      refine Till.take (i := 14) (some 65) (v := ?_) rfl rfl (by as_aux_lemma => kernel_rfl) (by as_aux_lemma => kernel_rfl) (by as_aux_lemma => kernel_rfl) (by as_aux_lemma => kernel_rfl) (fun _ _ _ h => h) (Or.inl ⟨by kernel_rfl, ?_⟩) hS ?_
                      rotate_left
                      · intro w hSw; have x0 := cell_heap (j := 0) hSw.1; have x1 := cell_heap (j := 1) hSw.1; have x2 := cell_heap (j := 2) hSw.1; have x3 := cell_heap (j := 1) hSw.2; simp only [List.getElem?_toArray, List.getElem?_cons_zero, List.getElem?_cons_succ] at x0 x1 x2 x3; go_simp
                        first | done | with_reducible rfl
                      refine Till.ready (l := [15]) (by as_aux_lemma => kernel_rfl) (by simp) ?_
                      refine TillAll.cons rfl (fun K hK => ?_) TillAll.nil
                      go_simp
                      go_wp2_with fail
                      have q := (Below.refl p6.heap.size p6).alloc (Nat.le_refl _) (.cells #[.slice a5 r.src.length c5, .slice a9 r.tgt.length c9, .slice a13 r.eqs.length c13] 38)
                      have gz : (p6.alloc (.cells #[.slice a5 r.src.length c5, .slice a9 r.tgt.length c9, .slice a13 r.eqs.length c13] 38)).heap[p6.heap.size]? = some (.cells (encL { r with sa := a5, sc := c5, ta := a9, tc := c9, ea := a13, ec := c13 }).toArray 38 (0, 0)) := heap_new p6 _
                      replace ls0 := ls0.below q
                      replace ls1 := ls1.below q
                      replace ls2 := ls2.below q
                      replace hS : RuBlk (p6.alloc (.cells #[.slice a5 r.src.length c5, .slice a9 r.tgt.length c9, .slice a13 r.eqs.length c13] 38)) wr.heap.size r ∧ XBlk (p6.alloc (.cells #[.slice a5 r.src.length c5, .slice a9 r.tgt.length c9, .slice a13 r.eqs.length c13] 38)) (w.heap.size + 1 + 1) v1 v2 pt rs := ⟨hS.1.below q, hS.2.below q⟩
                      refine hK.out _ _ (fun _ => hS) ?_
                      clear hK K
                      replace hf := hf.trans (q.mono hf.size)
                      replace hp := Nat.le_trans hp q.size
                      clear q
                      generalize p6.alloc (.cells #[.slice a5 r.src.length c5, .slice a9 r.tgt.length c9, .slice a13 r.eqs.length c13] 38) = p7 at *
                      refine Till.ready (l := [16]) (by as_aux_lemma => kernel_rfl) (by simp) ?_
                      refine TillAll.cons rfl (fun K hK => ?_) TillAll.nil
                      refine step_own_at rfl _ _ 23 rfl wS.heap.size 38 il _ 3 72 Tryd.underlying23 hil hil0 hil1 hil2 rfl (by decide) v2 ls'.length (ls'.flatMap encL) rfl (HCl.out.below hf).2.1 ⟨p6.heap.size, 0, none⟩ 1 1 (encL { r with sa := a5, sc := c5, ta := a9, tc := c9, ea := a13, ec := c13 }) rfl (encL_len _) (cells_of_blk gz) encL_one (by have := HLk.out; omega) (by have := HLk.out; omega) (by have := HSz.out; omega) ?_
                      intro v9 p8 own9 g9 at9
                      have kp : ∀ j, (j = wr.heap.size ∨ j = w.heap.size + 1 + 1) → p8.heap[j]? = p7.heap[j]? := fun j hj => g9.block j (by have := HSz.out; omega) (fun e => by have := HVb.out j e.symm; omega)
                      have hS9 : RuBlk p8 wr.heap.size r ∧ XBlk p8 (w.heap.size + 1 + 1) v1 v2 pt rs := ⟨(kp _ (.inl rfl)).trans hS.1, (kp _ (.inr rfl)).trans hS.2⟩
                      have hE := rule_end HG.out hXS HCl.out hlt2 (HNm.out a5 c5 a9 c9 a13 c13) hf ls0 ls1 ls2 own9 g9 at9 hS9.2
                      have HE := Lib.hid hE
                      obtain ⟨n9, hn9⟩ : ∃ n, n = ls'.length + 1 := ⟨_, rfl⟩
                      rw [← hn9] at own9
                      obtain ⟨-, h0⟩ | ⟨g, cap, cur, rfl, -⟩ := own9.2
                      · omega
                      clear hn9
                      refine hK.out _ _ (fun _ => hS9) ?_
                      clear hK K hS own9 g9 at9 kp gz ls0 ls1 ls2 hE hf hp
                      have hS := hS9
                      refine Till.take (i := 17) (some 68) (v := ?_) rfl rfl (by as_aux_lemma => kernel_rfl) (by as_aux_lemma => kernel_rfl) (by as_aux_lemma => kernel_rfl) (by as_aux_lemma => kernel_rfl) (fun _ _ _ h => h) (Or.inl ⟨by kernel_rfl, ?_⟩) hS ?_
                      rotate_left
                      · intro w hSw; have x0 := cell_heap (j := 0) hSw.1; have x1 := cell_heap (j := 1) hSw.1; have x2 := cell_heap (j := 2) hSw.1; have x3 := cell_heap (j := 1) hSw.2; simp only [List.getElem?_toArray, List.getElem?_cons_zero, List.getElem?_cons_succ] at x0 x1 x2 x3; go_simp
                        first | done | with_reducible rfl
                      refine Till.ready (l := [18]) (by as_aux_lemma => kernel_rfl) (by simp) ?_
                      refine TillAll.cons rfl (fun K hK => ?_) TillAll.nil
                      have z1 : p8.cell? ⟨w.heap.size + 1 + 1, 1, none⟩ = some v2 := cell_heap hS9.2
                      have fz : p8.frozen? ⟨w.heap.size + 1 + 1, 1, none⟩ = false := frozen_of hS9.2
                      clear hS hS9
                      go_simp
                      go_wp2_with fail
                      refine hK.out _ _ (fun h => absurd rfl h) ?_
                      clear hK K z1 fz
                      refine Till.done (by kernel_rfl) ?_ _
                      go_simp
                      go_wp2
                      go_roundw
                      case rel => exact ⟨k + 1, _, _, by omega, by go_num, Lib.hid HE.out.1, Lib.hid HE.out.2.1, Lib.hid HE.out.2.2⟩
                      case measure => simp [intOf]; omega
        · obtain rfl : k = ls.length := by omega
          have hkl : ¬ (ls.length : Int) < (ls.length : Int) := by omega
          rw [List.take_length] at HCl
          have HCr := Lib.hid (HCp.out.grown HG.out (fun j hj => by injection hj with hj; omega))
          have hv1 : ∃ a1 n1 c1, v1 = .slice a1 n1 c1 := by
            rcases HCp.out.2.1.2 with ⟨h, -⟩ | ⟨g, cp, cur, h, -⟩
            · exact ⟨_, _, _, h⟩
            · exact ⟨_, _, _, h⟩
          have hv2 : ∃ a2 n2 c2, v2 = .slice a2 n2 c2 := by
            rcases HCl.out.2.1.2 with ⟨h, -⟩ | ⟨g, cp, cur, h, -⟩
            · exact ⟨_, _, _, h⟩
            · exact ⟨_, _, _, h⟩
          have HV1 : Hid (∀ j, v1.ownBlock = some j → j < wS.heap.size) := Lib.hid fun j hj => (HCp.out.2.1.lt j hj).2
          have HS3 : Hid (w.heap.size + 1 + 1 + 1 ≤ wS.heap.size) := Lib.hid (by omega)
          have HB2 := Lib.hid B2
          have HD2 := Lib.hid D2
          have hsz : w.heap.size + 1 < wr.heap.size := lt_of_block D2
          have fz : ∀ j, wr.frozen? ⟨w.heap.size + 1, j, none⟩ = false := fun j => frozen_of D2
          have f0 := fz 0
          have f1 := fz 1
          have f2 := fz 2
          have f3 := fz 3
          have d0 : wr.cell? ⟨w.heap.size + 1, 0, none⟩ = some (.slice none 0 0) := cell_heap D2
          have d1 : wr.cell? ⟨w.heap.size + 1, 1, none⟩ = some (.slice none 0 0) := cell_heap D2
          have d2 : wr.cell? ⟨w.heap.size + 1, 2, none⟩ = some (.int .i64 0) := cell_heap D2
          have d3 : wr.cell? ⟨w.heap.size + 1, 3, none⟩ = some (.int .i64 0) := cell_heap D2
          have x0 : wr.cell? ⟨w.heap.size + 1 + 1, 0, none⟩ = some v1 := cell_heap HX2.out
          have x1 : wr.cell? ⟨w.heap.size + 1 + 1, 1, none⟩ = some v2 := cell_heap HX2.out
          have x2 : wr.cell? ⟨w.heap.size + 1 + 1, 2, none⟩ = some (.int .i64 pt) := cell_heap HX2.out
          have x3 : wr.cell? ⟨w.heap.size + 1 + 1, 3, none⟩ = some (.int .i64 rs) := cell_heap HX2.out
          clear HX HCp HG HX2 B2 D2 C2 fz HL HLS HLr HLs HZ HZL HC HD HB
          obtain ⟨a1, n1, c1, rfl⟩ := hv1
          obtain ⟨a2, n2, c2, rfl⟩ := hv2
          go_wp2
          clear x0 x1 x2 x3 d0 d1 d2 d3 f0 f1 f2 f3
          have gs := (((grown_set wr ⟨w.heap.size + 1, 0, none⟩ (.slice a1 n1 c1)).trans (grown_set _ ⟨w.heap.size + 1, 1, none⟩ (.slice a2 n2 c2))).trans (grown_set _ ⟨w.heap.size + 1, 2, none⟩ (.int .i64 pt))).trans (grown_set _ ⟨w.heap.size + 1, 3, none⟩ (.int .i64 rs))
          have hD : ((((wr.setCell ⟨w.heap.size + 1, 0, none⟩ (.slice a1 n1 c1)).setCell ⟨w.heap.size + 1, 1, none⟩ (.slice a2 n2 c2)).setCell ⟨w.heap.size + 1, 2, none⟩ (.int .i64 pt)).setCell ⟨w.heap.size + 1, 3, none⟩ (.int .i64 rs)).heap[w.heap.size + 1]? = some (.cells #[.slice a1 n1 c1, .slice a2 n2 c2, .int .i64 pt, .int .i64 rs] 25 (0, 0)) := by
            have h := HD2.out
            unfold XBlk at h
            simp [World.setCell, Array.getElem?_modify, h]
          generalize (((wr.setCell ⟨w.heap.size + 1, 0, none⟩ (.slice a1 n1 c1)).setCell ⟨w.heap.size + 1, 1, none⟩ (.slice a2 n2 c2)).setCell ⟨w.heap.size + 1, 2, none⟩ (.int .i64 pt)).setCell ⟨w.heap.size + 1, 3, none⟩ (.int .i64 rs) = w9 at *
          have y0 : w9.cell? ⟨w.heap.size + 1, 0, none⟩ = some (.slice a1 n1 c1) := cell_heap hD
          have y1 : w9.cell? ⟨w.heap.size + 1, 1, none⟩ = some (.slice a2 n2 c2) := cell_heap hD
          have y2 : w9.cell? ⟨w.heap.size + 1, 2, none⟩ = some (.int .i64 pt) := cell_heap hD
          have y3 : w9.cell? ⟨w.heap.size + 1, 3, none⟩ = some (.int .i64 rs) := cell_heap hD
          have h3 := HS3.out
          refine bodyPost_ret (v := .agg #[.slice a1 n1 c1, .slice a2 n2 c2, .int .i64 pt, .int .i64 rs]) (by simp [results, Tryd.results11, go_sem, y0, y1, y2, y3]) rfl ⟨⟨_, _, rfl, l', ls', wS.heap.size, HCr.out.grown gs (fun j hj => by injection hj with hj; simp only at hj; omega), h3, HV1.out, HCl.out.grown gs (fun j hj => by injection hj with hj; simp only at hj; omega)⟩, HB2.out.grown gs HB2.out.size (fun j hj => by injection hj with hj; simp only at hj; omega)⟩

end Go.Proofs.YthaimnmbcbhioaaDoor
