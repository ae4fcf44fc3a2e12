/-
  A queue in memory; its items put into order.
-/
import Derived.Test.YtkbonifbnbdbkaaDoorQ3
import Derived.Test.YtkbonifbnbdbkaaDoorQShelf
import Derived.Shelf.SlSortCmp.WholeK
import Derived.Shelf.SlSortCmp.NoneTotal
namespace Go.Proofs.YtkbonifbnbdbkaaDoor
open Go.RowKit

/-- One item comes ahead of another. -/
def lessQ (x y : Itm) : Prop := x.s < y.s ∨ (x.s = y.s ∧ y.q < x.q)
theorem ltQ (x y : Itm) : ltOf cmpQ x y = true ↔ lessQ x y := by
  unfold ltOf cmpQ lessQ orI
  rw [decide_eq_true_eq]
  have h1 := cmpIE_zero x.s y.s
  unfold cmpIE at *
  split <;> split <;> (try split) <;> (try split) <;> omega
theorem ltQ_false (x y : Itm) : ltOf cmpQ x y = false ↔ ¬ lessQ x y := by
  rw [← ltQ]
  simp
theorem lessQ_trans {x y z : Itm} (h1 : lessQ x y) (h2 : lessQ y z) : lessQ x z := by
  unfold lessQ at *
  omega
theorem swoQ : Sort.SWO (ltOf cmpQ) where
  irrefl x := by
    rw [ltQ_false]
    unfold lessQ
    omega
  trans x y z h1 h2 := by
    rw [ltQ] at *
    exact lessQ_trans h1 h2
  ntrans x y z h1 h2 := by
    rw [ltQ_false] at *
    unfold lessQ at *
    omega

/-- A queue's block: its items' slice, how many pushes it took, how many it lost. -/
def QBlk (w : World) (sb : Nat) (a : Option Addr) (n c : Nat) (p l : Int) : Prop := w.heap[sb]? = some (.cells #[.slice a n c, .int .i64 p, .int .i64 l] 55 (0, 0))
section
variable {w w' : World} {sb N n c B : Nat} {a : Option Addr} {p l : Int}
theorem QBlk.lt (h : QBlk w sb a n c p l) : sb < w.heap.size := ltE h
theorem QBlk.below (h : QBlk w sb a n c p l) (hb : Below N w w') (hN : sb < N) : QBlk w' sb a n c p l := (hb.block sb hN).trans h
theorem QBlk.on (h : QBlk w sb a n c p l) (hb : Below w.heap.size w w') : QBlk w' sb a n c p l := h.below hb h.lt
theorem QBlk.kept (h : QBlk w sb a n c p l) {r : Option Nat} (hg : w.grownBy w' r) (hr : some sb ≠ r) : QBlk w' sb a n c p l := (hg.block sb h.lt hr).trans h
theorem QBlk.new (w : World) (a : Option Addr) (n c : Nat) (p l : Int) : QBlk (w.alloc (.cells #[.slice a n c, .int .i64 p, .int .i64 l] 55)) w.heap.size a n c p l := newE w _
theorem QBlk.c0 (h : QBlk w sb a n c p l) : w.cell? ⟨sb, 0, none⟩ = some (.slice a n c) := cellE h
theorem QBlk.c1 (h : QBlk w sb a n c p l) : w.cell? ⟨sb, 1, none⟩ = some (.int .i64 p) := cellE h
theorem QBlk.c2 (h : QBlk w sb a n c p l) : w.cell? ⟨sb, 2, none⟩ = some (.int .i64 l) := cellE h
theorem QBlk.f (h : QBlk w sb a n c p l) (j : Nat) : w.frozen? ⟨sb, j, none⟩ = false := by
  unfold QBlk at h
  simp [World.frozen?, h]
theorem QBlk.set0 (h : QBlk w sb a n c p l) {a' : Option Addr} {n' c' : Nat} : QBlk (w.setCell ⟨sb, 0, none⟩ (.slice a' n' c')) sb a' n' c' p l := by
  unfold QBlk at h ⊢
  simp [World.setCell, Array.getElem?_modify, h]
theorem QBlk.set1 (h : QBlk w sb a n c p l) {p' : Int} : QBlk (w.setCell ⟨sb, 1, none⟩ (.int .i64 p')) sb a n c p' l := by
  unfold QBlk at h ⊢
  simp [World.setCell, Array.getElem?_modify, h]
theorem QBlk.set2 (h : QBlk w sb a n c p l) {l' : Int} : QBlk (w.setCell ⟨sb, 2, none⟩ (.int .i64 l')) sb a n c p l' := by
  unfold QBlk at h ⊢
  simp [World.setCell, Array.getElem?_modify, h]
/-- A queue's block is none of items. -/
theorem QBlk.ne (h : QBlk w sb a n c p l) {a' : Option Addr} {c' : Nat} {L : List Itm} (ho : OwnI w B a' c' L) : ∀ q, a' = some q → sb ≠ q.block := fun q e => by
  rcases ho with ⟨rfl, -⟩ | ⟨g, cur, rfl, -, h2, -⟩
  · cases e
  · obtain rfl := Option.some.inj e
    intro e2
    have e3 : sb = g := e2
    subst e3
    unfold QBlk at h
    rw [h] at h2
    simp at h2
end

/-- What a call of a queue leaves alone: all but its block and its row. -/
structure QTurn (w w' : World) (sb : Nat) (a : Option Addr) : Prop where
  os : w'.os = w.os
  tape : w'.tape = w.tape
  output : w'.output = w.output
  size : w.heap.size ≤ w'.heap.size
  block : ∀ j, j < w.heap.size → j ≠ sb → (∀ q, a = some q → j ≠ q.block) → w'.heap[j]? = w.heap[j]?
section
variable {w w' w2 : World} {sb B : Nat} {a a' : Option Addr}
theorem QTurn.refl (w : World) (sb : Nat) (a : Option Addr) : QTurn w w sb a := ⟨rfl, rfl, rfl, Nat.le_refl _, fun _ _ _ _ => rfl⟩
theorem QTurn.of (h : Below w.heap.size w w') (sb : Nat) (a : Option Addr) : QTurn w w' sb a := ⟨h.os, h.tape, h.output, h.size, fun j hj _ _ => h.block j hj⟩
theorem QTurn.grown {g : Nat} (h : w.grownBy w' (some g)) (sb : Nat) (hg : a = some ⟨g, 0, none⟩) : QTurn w w' sb a := ⟨h.os, h.tape, h.output, h.size, fun j hj _ hne => h.block j hj (fun e => hne _ hg (Option.some.inj e))⟩
theorem QTurn.none (h : w.grownBy w' none) (sb : Nat) (a : Option Addr) : QTurn w w' sb a := ⟨h.os, h.tape, h.output, h.size, fun j hj _ _ => h.block j hj (by simp)⟩
theorem QTurn.map (h : w.grownBy w' (a.map (·.block))) (sb : Nat) : QTurn w w' sb a := ⟨h.os, h.tape, h.output, h.size, fun j hj _ hne => h.block j hj (by
  cases a with
  | none => simp
  | some q => intro e; exact hne q rfl (by simpa using e))⟩
theorem QTurn.set (w : World) (sb j : Nat) (a : Option Addr) (v : Value) : QTurn w (w.setCell ⟨sb, j, .none⟩ v) sb a := ⟨rfl, rfl, rfl, by simp [World.setCell], fun k _ hk _ => Below.heap_setCell w _ _ _ (fun e => hk e)⟩
theorem QTurn.trans (h : QTurn w w' sb a) (k : QTurn w' w2 sb a') (ha : ∀ q, a' = some q → a = some q ∨ w.heap.size ≤ q.block) : QTurn w w2 sb a :=
  ⟨k.os.trans h.os, k.tape.trans h.tape, k.output.trans h.output, Nat.le_trans h.size k.size, fun j hj h1 h2 => (k.block j (Nat.lt_of_lt_of_le hj h.size) h1 (fun q e => by
    rcases ha q e with e2 | e2
    · exact h2 q e2
    · omega)).trans (h.block j hj h1 h2)⟩
theorem QTurn.step (h : QTurn w w' sb a) (k : QTurn w' w2 sb a) : QTurn w w2 sb a := h.trans k (fun _ e => .inl e)
theorem QTurn.on (h : QTurn w w' sb a) (k : Below w'.heap.size w' w2) : QTurn w w2 sb a := h.step (QTurn.of k sb a)
theorem QTurn.below (h : QTurn w w' sb a) (hs : B ≤ sb) (ha : ∀ q, a = some q → B ≤ q.block) (hB : B ≤ w.heap.size) : Below B w w' :=
  ⟨h.os, h.tape, h.output, h.size, fun j hj => h.block j (by omega) (by omega) (fun q e => by have := ha q e; omega)⟩
end
/-- A queue: its block, its items, how many pushes it took, how many it lost. -/
def QAt (w : World) (B sb : Nat) (a : Option Addr) (c : Nat) (L : List Itm) (p l : Int) : Prop := QBlk w sb a L.length c p l ∧ OwnI w B a c L
section
variable {w w' : World} {sb B c : Nat} {a : Option Addr} {L : List Itm} {p l : Int}
theorem QAt.on (h : QAt w B sb a c L p l) (hb : Below w.heap.size w w') : QAt w' B sb a c L p l := ⟨h.1.on hb, h.2.on hb⟩
theorem QAt.ne (h : QAt w B sb a c L p l) : ∀ q, a = some q → sb ≠ q.block := h.1.ne h.2
theorem QAt.has (h : QAt w B sb a c L p l) : ∀ q, a = some q → B ≤ q.block ∧ q.block < w.heap.size ∧ q = ⟨q.block, 0, none⟩ := h.2.lt
end

theorem encI_at : ∀ (G : List Itm) (i c : Nat) (hi : i < G.length) (hc : c < 7), (cellsI G)[i * 7 + c]? = some ((encI G[i])[c]'(by simpa [encI] using hc)) := fun G i c hi _ => cellsI_get G i hi c _ (List.getElem?_eq_getElem _)
theorem ownI_holds [Inhabited Itm] {w : World} {B g c : Nat} {L : List Itm} (h : OwnI w B (some ⟨g, 0, none⟩) c L) : Sort.HoldsK encI 7 w g 0 L.toArray := by
  intro j hj
  have hj' : j < L.length * 7 := by simpa [Sort.size_flatK] using hj
  have hi : j / 7 < L.length := by omega
  have hc := h.cellAt j hj'
  have e1 := encI_at L (j / 7) (j % 7) hi (Nat.mod_lt _ (by omega))
  rw [show j / 7 * 7 + j % 7 = j by omega] at e1
  rw [Nat.zero_add, Sort.get_flatK _ _ _ _ (by simpa using hj'), hc, e1, getElem!_pos L.toArray (j / 7) (by simpa using hi)]
  refine ⟨?_, h.frz j⟩
  show _ = some ((encI L[j / 7])[j % 7]!)
  rw [getElem!_pos (encI L[j / 7]) (j % 7) (by simp [encI]; omega)]
theorem sorted_heapI [Inhabited Itm] {w : World} {g n : Nat} {cur : Array Value} {d : Array Itm} {os : Array Obj} (h : w.heap[g]? = some (.cells cur 47 (0, 0))) :
    ∃ cur', (sortWorldK encI 7 w g 0 n d os).heap[g]? = some (.cells cur' 47 (0, 0)) ∧ cur'.size = cur.size := by
  have hlt : g < w.heap.size := ltE h
  refine ⟨Sort.putCells id 0 (Sort.flatK encI 7 d) cur, ?_, by simp [Sort.putCells]⟩
  unfold sortWorldK Sort.grow Sort.putRowK Sort.putRow Sort.mapBlock Sort.ahead
  show ((w.heap.modify g _) ++ os)[g]? = _
  rw [Array.getElem?_append_left (by simpa using hlt), Array.getElem?_modify, if_pos rfl, h]
  rfl
theorem grown_sortI [Inhabited Itm] {w : World} {g n : Nat} {d : Array Itm} {os : Array Obj} : w.grownBy (sortWorldK encI 7 w g 0 n d os) (some g) := by
  refine ⟨rfl, rfl, rfl, size_sortWorldK_c encI 7 w g 0 n d os, fun k hk hne => ?_⟩
  unfold sortWorldK Sort.grow Sort.putRowK Sort.putRow Sort.mapBlock Sort.ahead
  show ((w.heap.modify g _) ++ os)[k]? = _
  rw [Array.getElem?_append_left (by simp; omega), Array.getElem?_modify, if_neg (fun e => hne (by rw [e]))]
/-- slices.SortFunc at items. -/
theorem qSort_own (a : Option Addr) (c : Nat) (L : List Itm) (B : Nat) (w : World) (h : OwnI w B a c L) (hL : L.length ≤ 1000000) (n : Nat) (hn : n = L.length) :
    Calls Tryd.prog 37 #[.slice a n c, .func (.func 38) #[] #[]] w fun e w' => e = .returned (.tuple #[]) ∧ (∃ L' : List Itm, L'.Perm L ∧ (L'.Pairwise fun x y => ¬ lessQ y x) ∧ OwnI w' B a c L') ∧ w.grownBy w' (a.map (·.block)) := by
  subst hn
  have h0 := h
  rcases h with ⟨rfl, rfl, rfl⟩ | ⟨g, cur, rfl, k1, k2, k3, k4, k5, k6⟩
  · refine (AnyF.slices_SortFunc_none Tryd.lSortQ none 0 _ w).mono ?_
    rintro e w' ⟨he, rfl⟩
    exact ⟨he, ⟨[], List.Perm.refl _, List.Pairwise.nil, OwnI.nil _ _⟩, World.grownBy.refl _ _⟩
  · haveI : Inhabited Itm := ⟨⟨zeroE, 0, 0⟩⟩
    have hgl : g < w.heap.size := ltE k2
    have hH := ownI_holds h0
    have eg : ∀ args w, (callFunc 38 args).run Tryd.prog w = .ok (.enter 38 args) w := enters_of Tryd.func38 (by kernel_rfl) rfl
    have hcon := AnyQ.slices_SortFunc Tryd.lSortQ 7 Tryd.isAgg47 Tryd.sizeOf47 encI (fun _ => rfl) (fun x v hv => cellsI_one [x] v (by simpa [cellsI] using hv)) cmpQ swoQ 38 #[] g 0 c L.toArray w eg (fun _ _ _ _ x y => cmpQ_any x y _) hH hgl (by simp; omega)
    change Calls Tryd.prog 37 _ _ _ at hcon
    rw [List.size_toArray] at hcon
    refine hcon.mono ?_
    rintro e w' ⟨he, d', m, os, hp, hs, rfl⟩
    obtain ⟨hp0, -, hp2⟩ := hp
    have hp1 : d'.size = L.length := by simpa using hp0
    have hperm : d'.toList.Perm L := by
      have e1 : d'.extract 0 L.length = d' := by rw [← hp1]; exact Array.extract_size
      have e2 : L.toArray.extract 0 L.length = L.toArray := by simp
      rw [e1, e2] at hp2
      simpa using hp2
    have hgr := @grown_sortI _ w g m d' os
    have hK := holdsK_sortWorldK_c encI 7 w g 0 L.toArray d' m os hH hgl (by rw [hp1]; simp)
    obtain ⟨cur', c1, c2⟩ := @sorted_heapI _ w g m cur d' os k2
    refine ⟨he, ⟨d'.toList, hperm, ?_, .inr ⟨g, cur', rfl, k1, c1, by simpa [hp1] using k3, k4, by omega, ?_⟩⟩, hgr⟩
    · rw [List.pairwise_iff_getElem]
      intro i j hi hj hij
      simp only [Array.length_toList] at hi hj
      have := hs i j (Nat.zero_le _) hij (by omega)
      rw [getElem!_pos d' i hi, getElem!_pos d' j hj, ltQ_false] at this
      simpa using this
    · have hdl : d'.toList.length = L.length := by simpa using hp1
      refine List.ext_getElem? fun j => ?_
      by_cases hj : j < d'.toList.length * 7
      · have hjd : j / 7 < d'.size := by have : d'.toList.length = d'.size := Array.length_toList; omega
        have := (hK.cell (i := j / 7) (c := j % 7) hjd (Nat.mod_lt _ (by omega))).1
        rw [Nat.zero_add, show j / 7 * 7 + j % 7 = j by omega, cell_of_row _ g j cur' 47 (0, 0) c1] at this
        rw [List.getElem?_take_of_lt hj]
        have e1 := encI_at d'.toList (j / 7) (j % 7) (by omega) (Nat.mod_lt _ (by omega))
        rw [show j / 7 * 7 + j % 7 = j by omega] at e1
        rw [e1]
        have e2 : cur'.toList[j]? = cur'[j]? := by simp
        rw [e2, this, getElem!_pos d' (j / 7) hjd, getElem!_pos _ (j % 7) (by simp [encI]; omega)]
        simp
      · rw [List.getElem?_eq_none (by rw [List.length_take]; omega), List.getElem?_eq_none (by rw [cellsI_len]; omega)]
set_option maxHeartbeats 1000000 in
theorem qOrder_any (sb B c : Nat) (a : Option Addr) (L : List Itm) (p l : Int) (w : World) (h : QAt w B sb a c L p l) (hL : L.length ≤ 1000000) :
    Calls Tryd.prog 22 #[.pointer (some ⟨sb, 0, none⟩)] w fun e w' => e = .returned (.tuple #[]) ∧ (∃ L' : List Itm, L'.Perm L ∧ (L'.Pairwise fun x y => ¬ lessQ y x) ∧ QAt w' B sb a c L' p l) ∧ QTurn w w' sb a := by
  obtain ⟨n, hn⟩ : ∃ n, L.length = n := ⟨_, rfl⟩
  have HS := Lib.hid (qSort_own a c L B w h.2 hL n hn.symm)
  have c0 := h.1.c0
  rw [hn] at c0
  have HH := Lib.hid (And.intro h hn)
  clear h hL hn
  go_enter Tryd.func22, Tryd.ntmps22
  go_wp2_with (go_at_call 37; refine HS.out.mono ?_; rintro e w1 ⟨rfl, ⟨L', hp, hs, ho⟩, hg⟩; replace hp := Lib.hid hp; replace hs := Lib.hid hs; replace ho := Lib.hid ho; replace hg := Lib.hid hg; refine Hid.out ?_)
  refine Lib.hid ?_
  clear c0 HS
  go_wp2
  go_end0
  obtain ⟨h, hn⟩ := HH.out
  have hb : QBlk w1 sb a L.length c p l := h.1.kept hg.out (fun e => by
    cases a with
    | none => cases e
    | some q => exact h.ne q rfl (by simpa using e))
  rw [← hp.out.length_eq] at hb
  exact ⟨rfl, ⟨L', hp.out, hs.out, hb, ho.out⟩, QTurn.map hg.out sb⟩

end Go.Proofs.YtkbonifbnbdbkaaDoor
