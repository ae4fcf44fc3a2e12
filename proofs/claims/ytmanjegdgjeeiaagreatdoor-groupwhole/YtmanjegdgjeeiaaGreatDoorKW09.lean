/-
  A pattern's places in memory; what place and link do. What link does to the places, and join, repeat, either and maybe with pieces. The state of the reading of a pattern, and what a call that reads some of it must come to. inner, and an atom, as the program reads them.
-/
import Derived.Test.YtmanjegdgjeeiaaGreatDoorKW03
import Derived.Maps.AppendAt
import Derived.Laws.OwnMore
import Derived.RegionTactic
import Derived.Deep.RegionLaw
import Derived.Deep.RegionWith
namespace Go.Proofs.YtmanjegdgjeeiaaGreatDoor
open Go.RowKit

def plCells (p : Pl) : List Value := [.int .u64 (p.W 0 : Int), .int .u64 (p.W 1 : Int), .int .u64 (p.W 2 : Int), .int .u64 (p.W 3 : Int), .int .u64 (p.nx : Int)]
def cellsPl (pl : List Pl) : List Value := pl.flatMap plCells

theorem cellsPl_cons (p : Pl) (r : List Pl) : cellsPl (p :: r) = plCells p ++ cellsPl r := rfl
theorem plCells_len (p : Pl) : (plCells p).length = 5 := rfl
theorem cellsPl_len : ∀ pl : List Pl, (cellsPl pl).length = pl.length * 5
  | [] => rfl
  | p :: r => by
    rw [cellsPl_cons, List.length_append, cellsPl_len r, plCells_len, List.length_cons]
    omega
theorem cellsPl_append (a b : List Pl) : cellsPl (a ++ b) = cellsPl a ++ cellsPl b := List.flatMap_append
theorem cellsPl_get : ∀ (pl : List Pl) (i : Nat) (hi : i < pl.length) (j : Nat), j < 5 → (cellsPl pl)[i * 5 + j]? = (plCells pl[i])[j]?
  | p :: r, 0, _, j, hj => by
    rw [cellsPl_cons, List.getElem?_append_left (by rw [plCells_len]; omega)]
    simp
  | p :: r, i + 1, hi, j, hj => by
    have := cellsPl_get r i (by simpa using hi) j hj
    rw [cellsPl_cons, List.getElem?_append_right (by rw [plCells_len]; omega), plCells_len, show (i + 1) * 5 + j - 5 = i * 5 + j by omega, this]
    rfl
theorem plCells_one {p : Pl} {u : Value} (h : u ∈ plCells p) : u.oneCell' = true := by
  simp only [plCells, List.mem_cons, List.not_mem_nil, or_false] at h
  rcases h with rfl | rfl | rfl | rfl | rfl <;> rfl
theorem cellsPl_set : ∀ (pl : List Pl) (i : Nat) (hi : i < pl.length) (x : Nat), (cellsPl pl).set (i * 5 + 4) (.int .u64 (x : Int)) = cellsPl (pl.set i { pl[i] with nx := x })
  | p :: r, 0, _, x => rfl
  | p :: r, i + 1, hi, x => by
    have := cellsPl_set r i (by simpa using hi) x
    rw [cellsPl_cons, List.set_append, if_neg (by rw [plCells_len]; omega), plCells_len, show (i + 1) * 5 + 4 - 5 = i * 5 + 4 by omega, this]
    rfl

/-- The places, in memory from block B on. -/
def OwnPl (w : World) (B : Nat) (v : Value) (pl : List Pl) : Prop := w.ownsRow B 212 5 v pl.length (cellsPl pl)
theorem infoPlace : (Tryz.prog.info? 212).map (fun i => (i.zero, i.size, i.bytes)) = some (some (.agg #[.int .u64 0, .int .u64 0, .int .u64 0, .int .u64 0, .int .u64 0]), 5, 40) := by kernel_rfl

theorem OwnPl.form {w : World} {B : Nat} {v : Value} {pl : List Pl} (h : OwnPl w B v pl) : ∃ a c, v = .slice a pl.length c ∧ ∀ q, a = some q → q = ⟨q.block, 0, none⟩ := by
  rcases h.2 with ⟨rfl, h0⟩ | ⟨g, cap, cur, rfl, hg0, hg1, hcap, hmax, hcs, htk⟩
  · exact ⟨none, 0, by rw [h0], fun q hq => by cases hq⟩
  · refine ⟨_, _, rfl, fun q hq => ?_⟩
    obtain rfl := Option.some.inj hq
    rfl
/-- Where there are places they lie somewhere. -/
theorem OwnPl.at {w : World} {B : Nat} {v : Value} {pl : List Pl} (h : OwnPl w B v pl) (hn : 0 < pl.length) : ∃ g c, v = .slice (some ⟨g, 0, none⟩) pl.length c ∧ B ≤ g ∧ g < w.heap.size ∧ (∀ j, w.frozen? ⟨g, j, none⟩ = false) ∧ ∀ i (hi : i < pl.length) j, j < 5 → w.cell? ⟨g, i * 5 + j, none⟩ = (plCells pl[i])[j]? := by
  rcases h.2 with ⟨rfl, h0⟩ | ⟨g, cap, cur, rfl, hg0, hg1, hcap, hmax, hcs, htk⟩
  · omega
  · refine ⟨g, cap, rfl, hg0, (Array.getElem?_eq_some_iff.1 hg1).1, fun j => World.ownsRow.frozenAt h j, fun i hi j hj => ?_⟩
    rw [World.ownsRow.cellAt h _ (by omega), cellsPl_get pl i hi j hj]
theorem OwnPl.store {w : World} {B : Nat} {g n c : Nat} {pl : List Pl} (h : OwnPl w B (.slice (some ⟨g, 0, none⟩) n c) pl) (i : Nat) (hi : i < pl.length) (x : Nat) : OwnPl (w.setCell ⟨g, i * 5 + 4, none⟩ (.int .u64 (x : Int))) B (.slice (some ⟨g, 0, none⟩) n c) (pl.set i { pl[i] with nx := x }) := by
  obtain rfl : n = pl.length := by
    obtain ⟨a, c', hv, -⟩ := h.form
    injection hv
  have := (World.ownsRow.stored h (i * 5 + 4) (.int .u64 (x : Int))).1
  unfold OwnPl
  rw [← cellsPl_set pl i hi x, List.length_set]
  exact this

theorem run_append_pl (ty : TypeId) (w : World) (B : Nat) (v : Value) (pl : List Pl) (hown : OwnPl w B v pl) (g c : Nat) (p : Pl) (hg : ∀ j, j < 5 → w.cell? ⟨g, j, none⟩ = (plCells p)[j]?) (hb : pl.length ≤ 64) (hB : B ≤ w.heap.size) :
    ∃ a' c' w', (Builtin.append_ #[187, 187] ty #[v, .slice (some ⟨g, 0, none⟩) 1 c]).run Tryz.prog w = .ok (.slice a' (pl.length + 1) c') w' ∧ OwnPl w' B (.slice a' (pl.length + 1) c') (pl ++ [p]) ∧ w.grownBy w' v.ownBlock ∧ ((Value.slice a' (pl.length + 1) c').ownBlock = v.ownBlock ∨ (Value.slice a' (pl.length + 1) c').ownBlock = some w.heap.size) := by
  obtain ⟨i0, hi, hi0, hi1, hi2⟩ := info_parts infoPlace
  obtain ⟨v', w', hr, h1, h2, -, h4⟩ := run_append_own_at (P := Tryz.prog) w B 187 ty 212 i0 _ 5 40 Tryz.underlying187 hi hi0 hi1 hi2 rfl (by decide) v pl.length (cellsPl pl) hown ⟨g, 0, none⟩ 1 c (plCells p) rfl (fun j u hj => by
    have hj5 : j < 5 := (List.getElem?_eq_some_iff.1 hj).1
    rw [Go.WideShapes.add_plain, Nat.zero_add, hg j hj5, hj]) (fun u hu => plCells_one hu) (by unfold maxLen; omega) (by omega) hB
  have h3 : OwnPl w' B v' (pl ++ [p]) := by
    unfold OwnPl
    rw [cellsPl_append, List.length_append]
    simpa [cellsPl] using h1
  obtain ⟨a', c', hv, -⟩ := h3.form
  rw [List.length_append, List.length_singleton] at hv
  subst hv
  exact ⟨a', c', w', hr, h3, h2, h4⟩

/-- append, at a step of a region that draws its order. -/
theorem step_append_pl {w : World} {ops : Array Oper} {o : Oper} {act : Act} {K : Act → World → Prop} {Q : Exit → Act → World → Prop} {E : Prop} (hgd : o.guard = none) (s x : Operand)
    (ho : o.op = .call { callee := .builtin .append, args := #[s, x], argTypes := #[187, 187] }) (B : Nat) (v : Value) (pl : List Pl) (hs : act.eval s = v) (hown : OwnPl w B v pl)
    (g c : Nat) (p : Pl) (hx : act.eval x = .slice (some ⟨g, 0, none⟩) 1 c) (hg : ∀ j, j < 5 → w.cell? ⟨g, j, none⟩ = (plCells p)[j]?) (hb : pl.length ≤ 64) (hB : B ≤ w.heap.size)
    (h : ∀ a' c' w', OwnPl w' B (.slice a' (pl.length + 1) c') (pl ++ [p]) → w.grownBy w' v.ownBlock → ((Value.slice a' (pl.length + 1) c').ownBlock = v.ownBlock ∨ (Value.slice a' (pl.length + 1) c').ownBlock = some w.heap.size) → K (act.put o.dst (.slice a' (pl.length + 1) c')) w') :
    if Region.wanted o (yielded ops act.tmps) = true then Oper.wp Tryz.prog o act w K Q else E := by
  have hw : Region.wanted o (yielded ops act.tmps) = true := by simp [Region.wanted, hgd]
  rw [if_pos hw]
  obtain ⟨a', c', w', hr, h2, h3, h4⟩ := run_append_pl o.type w B v pl hown g c p hg hb hB
  unfold Oper.wp execOp
  simp only [ho, resolve, invoke, builtin, Sem.run_bind, Sem.run_pure, Result.andThen_ok, List.map_toArray, List.map_cons, List.map_nil, hs, hx, hr]
  exact h a' c' w' h2 h3 h4

theorem cell_heap {w : World} {b j : Nat} {cs : Array Value} {t : TypeId} {fr : Nat × Nat} (h : w.heap[b]? = some (.cells cs t fr)) : w.cell? ⟨b, j, none⟩ = cs[j]? := by simp [World.cell?, h]

/-- A pattern's block. -/
def RxBlk (w : World) (xb : Nat) (v : Value) (P : Pc) : Prop := w.heap[xb]? = some (.cells #[v, .int .u64 (P.first : Int), .int .u64 (P.last : Int), .bool P.empty] 189 (0, 0))

theorem RxBlk.cell0 {w : World} {xb : Nat} {v : Value} {P : Pc} (h : RxBlk w xb v P) : w.cell? ⟨xb, 0, none⟩ = some v := by unfold RxBlk at h; simp [World.cell?, h]
theorem RxBlk.cell1 {w : World} {xb : Nat} {v : Value} {P : Pc} (h : RxBlk w xb v P) : w.cell? ⟨xb, 1, none⟩ = some (.int .u64 (P.first : Int)) := by unfold RxBlk at h; simp [World.cell?, h]
theorem RxBlk.cell2 {w : World} {xb : Nat} {v : Value} {P : Pc} (h : RxBlk w xb v P) : w.cell? ⟨xb, 2, none⟩ = some (.int .u64 (P.last : Int)) := by unfold RxBlk at h; simp [World.cell?, h]
theorem RxBlk.cell3 {w : World} {xb : Nat} {v : Value} {P : Pc} (h : RxBlk w xb v P) : w.cell? ⟨xb, 3, none⟩ = some (.bool P.empty) := by unfold RxBlk at h; simp [World.cell?, h]
theorem RxBlk.frozen {w : World} {xb : Nat} {v : Value} {P : Pc} (h : RxBlk w xb v P) (i : Nat) : w.frozen? ⟨xb, i, none⟩ = false := by unfold RxBlk at h; simp [World.frozen?, h]
theorem RxBlk.lt {w : World} {xb : Nat} {v : Value} {P : Pc} (h : RxBlk w xb v P) : xb < w.heap.size := (Array.getElem?_eq_some_iff.1 h).1
theorem RxBlk.set0 {w : World} {xb : Nat} {v : Value} {P : Pc} (h : RxBlk w xb v P) (v' : Value) : RxBlk (w.setCell ⟨xb, 0, none⟩ v') xb v' P := by
  unfold RxBlk at h ⊢; simp [World.setCell, Array.getElem?_modify, h]
theorem RxBlk.chg {S : Nat → Prop} {w w' : World} {xb : Nat} {v : Value} {P : Pc} (h : RxBlk w xb v P) (hc : Chg S w w') (hn : ¬ S xb) : RxBlk w' xb v P := (hc.block xb h.lt hn).trans h

/-- A word that is good. -/
def GoodPl (p : Pl) : Prop := (∀ i, i < 4 → p.W i < 18446744073709551616) ∧ p.nx < 18446744073709551616

/-- A pattern that is being read: its block, and its places. -/
structure Rx (w : World) (B xb : Nat) (v : Value) (P : Pc) (pl : List Pl) : Prop where
  blk : RxBlk w xb v P
  own : OwnPl w B v pl
  apart : v.ownBlock ≠ some xb
  good : ∀ p ∈ pl, GoodPl p
  lim : pl.length ≤ 64
  le : B ≤ xb

theorem Rx.drew {w : World} {B xb : Nat} {v : Value} {P : Pc} {pl : List Pl} (h : Rx w B xb v P pl) : Rx w.drew B xb v P pl := ⟨h.blk, h.own, h.apart, h.good, h.lim, h.le⟩
theorem Rx.drewN {w : World} {B xb : Nat} {v : Value} {P : Pc} {pl : List Pl} (h : Rx w B xb v P pl) (n : Nat) : Rx (w.drewN n) B xb v P pl := ⟨h.blk, h.own, h.apart, h.good, h.lim, h.le⟩
/-- What the reading of a pattern may turn: its block, and the places. -/
def Mine (xb : Nat) (v : Value) : Nat → Prop := fun k => k = xb ∨ some k = v.ownBlock

/-- The places lie where they lay, or in a new block. -/
def Moved (w : World) (v v' : Value) : Prop := v'.ownBlock = v.ownBlock ∨ ∀ k, v'.ownBlock = some k → w.heap.size ≤ k
theorem Moved.refl (w : World) (v : Value) : Moved w v v := .inl rfl
theorem Moved.trans {w w1 : World} {v v1 v2 : Value} (h : Moved w v v1) (hs : w.heap.size ≤ w1.heap.size) (h1 : Moved w1 v1 v2) : Moved w v v2 := by
  rcases h1 with h1 | h1
  · rcases h with h | h
    · exact .inl (h1.trans h)
    · exact .inr fun k hk => h k (h1.symm.trans hk)
  · exact .inr fun k hk => Nat.le_trans hs (h1 k hk)

theorem Rx.chg {S : Nat → Prop} {w w' : World} {B xb : Nat} {v : Value} {P : Pc} {pl : List Pl} (h : Rx w B xb v P pl) (hc : Chg S w w') (hx : ¬ S xb) (hv : ∀ k, v.ownBlock = some k → ¬ S k) : Rx w' B xb v P pl := by
  refine ⟨h.blk.chg hc hx, ?_, h.apart, h.good, h.lim, h.le⟩
  refine ⟨h.own.1, ?_⟩
  rcases h.own.2 with h1 | ⟨g, cap, cur, rfl, hg0, hg1, h2⟩
  · exact .inl h1
  · exact .inr ⟨g, cap, cur, rfl, hg0, (hc.block g (Array.getElem?_eq_some_iff.1 hg1).1 (hv g rfl)).trans hg1, h2⟩

theorem place_end {B xb : Nat} {v v' : Value} {P : Pc} {pl : List Pl} {W : Nat → Nat} {w W3 w' : World} {x0 x1 x2 : Value} (h : Rx w B xb v P pl) (hW : ∀ i, i < 4 → W i < 18446744073709551616) (hl : pl.length < 64) (hb3 : Below w.heap.size w W3) (hsz : W3.heap.size = w.heap.size + 1 + 1 + 1)
    (ho' : OwnPl w' B v' (pl ++ [⟨W, 0⟩])) (hg' : W3.grownBy w' v.ownBlock) (hm' : v'.ownBlock = v.ownBlock ∨ v'.ownBlock = some W3.heap.size) :
    Rx ((((w'.setCell ⟨xb, 0, none⟩ v').setCell ⟨w.heap.size + 1, 0, none⟩ x0).setCell ⟨w.heap.size + 1, 1, none⟩ x1).setCell ⟨w.heap.size + 1, 2, none⟩ x2) B xb v' P (pl ++ [⟨W, 0⟩]) ∧
    Chg (Mine xb v) w ((((w'.setCell ⟨xb, 0, none⟩ v').setCell ⟨w.heap.size + 1, 0, none⟩ x0).setCell ⟨w.heap.size + 1, 1, none⟩ x1).setCell ⟨w.heap.size + 1, 2, none⟩ x2) ∧ Moved w v v' := by
  have hxl := h.blk.lt
  have hvl : ∀ k, v.ownBlock = some k → k < w.heap.size := fun k hk => (h.own.lt k hk).2
  have hs1 := hg'.size
  have e1 : w'.heap[xb]? = w.heap[xb]? := (hg'.block xb (by omega) h.apart.symm).trans (hb3.block xb hxl)
  have hblk : RxBlk w' xb v P := e1.trans h.blk
  have hg2 := xgrown_setCell w' xb 0 v'
  have hm1 : v'.ownBlock ≠ some xb := by
    rcases hm' with e | e
    · rw [e]; exact h.apart
    · rw [e, hsz]; simp; omega
  have hm2 : v'.ownBlock ≠ some (w.heap.size + 1) := by
    rcases hm' with e | e
    · rw [e]; intro e; have := hvl _ e; omega
    · rw [e, hsz]; simp; omega
  have hr : (w'.setCell ⟨xb, 0, none⟩ v').grownBy ((((w'.setCell ⟨xb, 0, none⟩ v').setCell ⟨w.heap.size + 1, 0, none⟩ x0).setCell ⟨w.heap.size + 1, 1, none⟩ x1).setCell ⟨w.heap.size + 1, 2, none⟩ x2) (some (w.heap.size + 1)) := xgrown_trans (xgrown_trans (xgrown_setCell _ _ _ _) (xgrown_setCell _ _ _ _)) (xgrown_setCell _ _ _ _)
  have hx2 : RxBlk (w'.setCell ⟨xb, 0, none⟩ v') xb v' P := hblk.set0 v'
  have ho2 := (ho'.kept hg2 (.inr hm1)).kept hr (.inr hm2)
  refine ⟨⟨(hr.block xb hx2.lt (by simp; omega)).trans hx2, ho2, hm1, ?_, by simp; omega, h.le⟩, ?_, ?_⟩
  · intro p hp
    rcases List.mem_append.1 hp with hp | hp
    · exact h.good p hp
    · simp only [List.mem_singleton] at hp
      subst hp
      exact ⟨hW, by show 0 < _; omega⟩
  · refine ⟨by rw [hr.os, hg2.os, hg'.os, hb3.os], by rw [hr.tape, hg2.tape, hg'.tape, hb3.tape], by rw [hr.output, hg2.output, hg'.output, hb3.output], by have := hr.size; have := hg2.size; omega, fun k hk hn => ?_⟩
    have n1 : k ≠ xb := fun e => hn (.inl e)
    have n2 : some k ≠ v.ownBlock := fun e => hn (.inr e)
    have h1 := hr.block k (by have := hg2.size; omega) (by simp; omega)
    have h2 := hg2.block k (by omega) (by simpa using n1)
    have h3 := hg'.block k (by omega) n2
    exact h1.trans (h2.trans (h3.trans (hb3.block k hk)))
  · rcases hm' with e | e
    · exact .inl e
    · exact .inr fun k hk => by rw [e, hsz] at hk; simp at hk; omega

set_option maxHeartbeats 1000000 in
theorem place_any (B xb : Nat) (v : Value) (P : Pc) (pl : List Pl) (W : Nat → Nat) (w : World) (h : Rx w B xb v P pl) (hW : ∀ i, i < 4 → W i < 18446744073709551616) (hl : pl.length < 64) :
    Calls Tryz.prog 189 #[.pointer (some ⟨xb, 0, none⟩), .agg #[.int .u64 (W 0 : Int), .int .u64 (W 1 : Int), .int .u64 (W 2 : Int), .int .u64 (W 3 : Int)]] w fun e w' => e = .returned (.agg #[.int .u64 ((2 ^ pl.length : Nat) : Int), .int .u64 ((2 ^ pl.length : Nat) : Int), .bool false]) ∧ ∃ v', Rx w' B xb v' P (pl ++ [⟨W, 0⟩]) ∧ Chg (Mine xb v) w w' ∧ Moved w v v' := by
  obtain ⟨a, c, hv, hq⟩ := h.own.form
  have hxl := h.blk.lt
  have c0 := h.blk.cell0
  have f0 := h.blk.frozen 0
  rw [hv] at c0
  have hll : (pl.length : Int) < 64 := by omega
  go_enter Tryz.func189, Tryz.ntmps189
  have hB : B ≤ w.heap.size := by have := h.le; omega
  have hsz : (((w.alloc (.cells #[.int .u64 (W 0 : Int), .int .u64 (W 1 : Int), .int .u64 (W 2 : Int), .int .u64 (W 3 : Int)] 210)).alloc (.cells #[.int .u64 0, .int .u64 0, .bool false] 186)).alloc (.cells #[.int .u64 (W 0 : Int), .int .u64 (W 1 : Int), .int .u64 (W 2 : Int), .int .u64 (W 3 : Int), .int .u64 0] 212)).heap.size = w.heap.size + 1 + 1 + 1 := by simp
  have hb3 : Below w.heap.size w (((w.alloc (.cells #[.int .u64 (W 0 : Int), .int .u64 (W 1 : Int), .int .u64 (W 2 : Int), .int .u64 (W 3 : Int)] 210)).alloc (.cells #[.int .u64 0, .int .u64 0, .bool false] 186)).alloc (.cells #[.int .u64 (W 0 : Int), .int .u64 (W 1 : Int), .int .u64 (W 2 : Int), .int .u64 (W 3 : Int), .int .u64 0] 212)) := (((Below.refl _ _).alloc (Nat.le_refl _) _).alloc (by simp) _).alloc (by simp; omega) _
  have hown : OwnPl (((w.alloc (.cells #[.int .u64 (W 0 : Int), .int .u64 (W 1 : Int), .int .u64 (W 2 : Int), .int .u64 (W 3 : Int)] 210)).alloc (.cells #[.int .u64 0, .int .u64 0, .bool false] 186)).alloc (.cells #[.int .u64 (W 0 : Int), .int .u64 (W 1 : Int), .int .u64 (W 2 : Int), .int .u64 (W 3 : Int), .int .u64 0] 212)) B (.slice a pl.length c) pl := by rw [← hv]; exact ((h.own.alloc _).alloc _).alloc _
  have hnew : ∀ j, j < 5 → (((w.alloc (.cells #[.int .u64 (W 0 : Int), .int .u64 (W 1 : Int), .int .u64 (W 2 : Int), .int .u64 (W 3 : Int)] 210)).alloc (.cells #[.int .u64 0, .int .u64 0, .bool false] 186)).alloc (.cells #[.int .u64 (W 0 : Int), .int .u64 (W 1 : Int), .int .u64 (W 2 : Int), .int .u64 (W 3 : Int), .int .u64 0] 212)).cell? ⟨w.heap.size + 1 + 1, j, none⟩ = (plCells ⟨W, 0⟩)[j]? := fun j hj => by
    have h1 := heap_new ((w.alloc (.cells #[.int .u64 (W 0 : Int), .int .u64 (W 1 : Int), .int .u64 (W 2 : Int), .int .u64 (W 3 : Int)] 210)).alloc (.cells #[.int .u64 0, .int .u64 0, .bool false] 186)) (.cells #[.int .u64 (W 0 : Int), .int .u64 (W 1 : Int), .int .u64 (W 2 : Int), .int .u64 (W 3 : Int), .int .u64 0] 212)
    rw [World.size_alloc, World.size_alloc] at h1
    rw [cell_heap h1]
    match j, hj with
    | 0, _ => rfl
    | 1, _ => rfl
    | 2, _ => rfl
    | 3, _ => rfl
    | 4, _ => rfl
  have hres : (((w.alloc (.cells #[.int .u64 (W 0 : Int), .int .u64 (W 1 : Int), .int .u64 (W 2 : Int), .int .u64 (W 3 : Int)] 210)).alloc (.cells #[.int .u64 0, .int .u64 0, .bool false] 186)).alloc (.cells #[.int .u64 (W 0 : Int), .int .u64 (W 1 : Int), .int .u64 (W 2 : Int), .int .u64 (W 3 : Int), .int .u64 0] 212)).heap[w.heap.size + 1]? = some (.cells #[.int .u64 0, .int .u64 0, .bool false] 186) := by
    have h1 := heap_new (w.alloc (.cells #[.int .u64 (W 0 : Int), .int .u64 (W 1 : Int), .int .u64 (W 2 : Int), .int .u64 (W 3 : Int)] 210)) (.cells #[.int .u64 0, .int .u64 0, .bool false] 186)
    rw [World.size_alloc] at h1
    exact (Below.heap_alloc _ _ _ (by simp)).trans h1
  generalize hW3 : ((w.alloc (.cells #[.int .u64 (W 0 : Int), .int .u64 (W 1 : Int), .int .u64 (W 2 : Int), .int .u64 (W 3 : Int)] 210)).alloc (.cells #[.int .u64 0, .int .u64 0, .bool false] 186)).alloc (.cells #[.int .u64 (W 0 : Int), .int .u64 (W 1 : Int), .int .u64 (W 2 : Int), .int .u64 (W 3 : Int), .int .u64 0] 212) = W3 at hsz hb3 hown hnew hres
  have hne : some xb ≠ (Value.slice a pl.length c).ownBlock := by rw [← hv]; exact h.apart.symm
  have hcell : ∀ w', W3.drew.grownBy w' (Value.slice a pl.length c).ownBlock → w'.cell? ⟨xb, 0, none⟩ = some (.slice a pl.length c) ∧ w'.frozen? ⟨xb, 0, none⟩ = false := fun w' hg => by
    have e : w'.heap[xb]? = w.heap[xb]? := (hg.block xb (by show xb < W3.heap.size; omega) hne).trans (hb3.block xb hxl)
    exact ⟨(World.cell?_of_block (a := ⟨xb, 0, none⟩) e).trans c0, (World.frozen?_of_block (a := ⟨xb, 0, none⟩) e).trans f0⟩
  subst hW3
  have HA := Lib.hid (And.intro hsz (And.intro hb3 (And.intro hres hne)))
  have HO := Lib.hid hown
  have HN := Lib.hid hnew
  have HC := Lib.hid hcell
  clear hsz hb3 hres hne hown hnew hcell
  have hx1 : xb < w.heap.size + 1 := by omega
  have hx2 : xb < w.heap.size + 1 + 1 := by omega
  go_wp2
  go_region_law (refine step_append_pl (by rfl) _ _ (by rfl) B (.slice a pl.length c) pl (by rfl) (by exact HO.out) _ _ ⟨W, 0⟩ (by rfl) (by exact HN.out) (by omega) (by simp; omega) ?_; intro a' c' w' ho' hg' hm'; obtain ⟨c0', f0'⟩ := HC.out w' hg')
  all_goals
    obtain ⟨hsz, hb3, hres, hne⟩ := HA.out
    have hr2 : w'.heap[w.heap.size + 1]? = some (.cells #[.int .u64 0, .int .u64 0, .bool false] 186) := (hg'.block (w.heap.size + 1) (by first | (simp; done) | (simp; omega)) (fun e => by have := (h.own.lt (w.heap.size + 1) (by rw [hv]; exact e.symm)).2; omega)).trans hres
    have d0 : w'.cell? ⟨w.heap.size + 1, 0, none⟩ = some (.int .u64 0) := cell_heap hr2
    have d1 : w'.cell? ⟨w.heap.size + 1, 1, none⟩ = some (.int .u64 0) := cell_heap hr2
    have d2 : w'.cell? ⟨w.heap.size + 1, 2, none⟩ = some (.bool false) := cell_heap hr2
    have hfz : ∀ i, w'.frozen? ⟨w.heap.size + 1, i, none⟩ = false := fun i => by simp [World.frozen?, hr2]
    have f0 := hfz 0
    have f1 := hfz 1
    have f2 := hfz 2
    have HF := Lib.hid (And.intro hsz hb3)
    clear hsz hb3 hres hne hr2 hfz HA
    go_wp2
    obtain ⟨hsz, hb3⟩ := HF.out
    have hend := place_end (x0 := .int .u64 ((2 ^ pl.length : Nat) : Int)) (x1 := .int .u64 ((2 ^ pl.length : Nat) : Int)) (x2 := .bool false) h hW hl hb3 hsz ho' (by rw [hv]; exact ⟨hg'.os, hg'.tape, hg'.output, hg'.size, hg'.block⟩) (by rw [hv]; exact hm')
    rw [wrap_pow hl]
    refine bodyPost_ret (v := .agg #[.int .u64 ((2 ^ pl.length : Nat) : Int), .int .u64 ((2 ^ pl.length : Nat) : Int), .bool false]) (by simp [results, Tryz.results189, go_sem, d0, d1, d2]) rfl ⟨rfl, _, hend⟩

end Go.Proofs.YtmanjegdgjeeiaaGreatDoor
namespace Go.Proofs.YtmanjegdgjeeiaaGreatDoor
open Go.RowKit

/-- Some of the links are made. -/
def linkS (pl : List Pl) (fr r to : Nat) : List Pl := pl.mapIdx fun i p => if fr.testBit i = true ∧ r.testBit i = false then { p with nx := p.nx ||| to } else p
theorem linkS_len (pl : List Pl) (fr r to : Nat) : (linkS pl fr r to).length = pl.length := by simp [linkS]
theorem linkS_get (pl : List Pl) (fr r to i : Nat) : (linkS pl fr r to)[i]? = (pl[i]?).map fun p => if fr.testBit i = true ∧ r.testBit i = false then { p with nx := p.nx ||| to } else p := by simp [linkS]
theorem linkS_all (pl : List Pl) (fr to : Nat) : linkS pl fr fr to = pl := by
  apply List.ext_getElem?
  intro i
  rw [linkS_get]
  cases h : pl[i]? with
  | none => rfl
  | some p =>
    rw [Option.map_some, if_neg]
    rintro ⟨h1, h2⟩
    rw [h1] at h2
    cases h2
theorem linkS_none (pl : List Pl) (fr to : Nat) : linkS pl fr 0 to = linkL pl fr to := by
  apply List.ext_getElem?
  intro i
  rw [linkS_get, linkL_get]
  simp
theorem linkS_step {pl : List Pl} {fr r to i : Nat} (hi : i < (linkS pl fr r to).length) (hf : fr.testBit i = true) (hr : r.testBit i = true) (hb : ∀ j, (r &&& (r - 1)).testBit j = true ↔ r.testBit j = true ∧ j ≠ i) : (linkS pl fr r to).set i { (linkS pl fr r to)[i] with nx := (linkS pl fr r to)[i].nx ||| to } = linkS pl fr (r &&& (r - 1)) to := by
  apply List.ext_getElem?
  intro j
  rw [List.getElem?_set]
  have hb2 : ∀ j, (r &&& (r - 1)).testBit j = (r.testBit j && decide (j ≠ i)) := fun j => by rw [Bool.eq_iff_iff, hb]; simp
  by_cases hj : i = j
  · subst hj
    rw [if_pos rfl, if_pos hi, linkS_get, hb2]
    have h1 : (linkS pl fr r to)[i]? = some (linkS pl fr r to)[i] := List.getElem?_eq_getElem hi
    rw [linkS_get] at h1
    obtain ⟨p, hp, he⟩ := Option.map_eq_some_iff.1 h1
    rw [hp, ← he]
    simp [hf, hr]
  · rw [if_neg hj, linkS_get, linkS_get, hb2]
    have hn : j ≠ i := fun e => hj e.symm
    simp [hn]
theorem linkS_good {pl : List Pl} {fr r to : Nat} (h : ∀ p ∈ pl, GoodPl p) (ht : to < 18446744073709551616) : ∀ p ∈ linkS pl fr r to, GoodPl p := by
  intro p hp
  obtain ⟨i, hi⟩ := List.getElem?_of_mem hp
  rw [linkS_get] at hi
  obtain ⟨q, hq, rfl⟩ := Option.map_eq_some_iff.1 hi
  have hg := h q (List.mem_of_getElem? hq)
  split
  · exact ⟨hg.1, or_lt hg.2 ht⟩
  · exact hg

theorem and_pred (x : Nat) (h : x < 18446744073709551616) (h0 : x ≠ 0) : bits BinOp.and IntKind.u64 (x : Int) ((x : Int) - 1) = ((x &&& (x - 1) : Nat) : Int) := by
  rw [show (x : Int) - 1 = ((x - 1 : Nat) : Int) by omega, u64_and_nat _ _ h (by omega)]

theorem Rx.store {w : World} {B xb g n c : Nat} {P : Pc} {pl : List Pl} (h : Rx w B xb (.slice (some ⟨g, 0, none⟩) n c) P pl) (i : Nat) (hi : i < pl.length) (x : Nat) (hx : x < 18446744073709551616) : Rx (w.setCell ⟨g, i * 5 + 4, none⟩ (.int .u64 (x : Int))) B xb (.slice (some ⟨g, 0, none⟩) n c) P (pl.set i { pl[i] with nx := x }) := by
  refine ⟨h.blk.chg (Chg.of_grown (xgrown_setCell _ _ _ _)) (fun e => h.apart (by rw [e]; rfl)), h.own.store i hi x, h.apart, fun p hp => ?_, by rw [List.length_set]; exact h.lim, h.le⟩
  rcases List.mem_or_eq_of_mem_set hp with h1 | h1
  · exact h.good p h1
  · rw [h1]
    exact ⟨(h.good _ (List.getElem_mem hi)).1, hx⟩

set_option maxHeartbeats 2000000 in
theorem link_any (B xb : Nat) (v : Value) (P : Pc) (pl : List Pl) (fr to : Nat) (w : World) (h : Rx w B xb v P pl) (hf : fr < 18446744073709551616) (ht : to < 18446744073709551616) (hb : ∀ i, fr.testBit i = true → i < pl.length) (htab : TabW w) (hB : 4 < B) :
    Calls Tryz.prog 183 #[.pointer (some ⟨xb, 0, none⟩), .int .u64 fr, .int .u64 to] w fun e w' => e = .returned (.tuple #[]) ∧ Rx w' B xb v P (linkL pl fr to) ∧ Chg (fun k => some k = v.ownBlock) w w' := by
  go_enter Tryz.func183, Tryz.ntmps183
  go_wp2
  go_loopw [1] (fun x wr => ∃ r : Nat, x = .int .u64 r ∧ r < 18446744073709551616 ∧ (∀ j, r.testBit j = true → fr.testBit j = true) ∧ Rx wr B xb v P (linkS pl fr r to) ∧ Chg (fun k => some k = v.ownBlock) w wr) (fun x _ => (intOf x).toNat)
  case atStart => exact ⟨fr, rfl, hf, fun j h => h, by rw [linkS_all]; exact h, Chg.refl _ _⟩
  case round =>
    obtain ⟨r, rfl, hr, hsub, hx, hc⟩ := hrel
    by_cases h0 : r = 0
    · subst h0
      go_wp2
      go_end0
      exact ⟨rfl, by rw [← linkS_none]; exact hx, hc⟩
    · obtain ⟨b1, b2, b3, b4⟩ := ctz_bits r h0 hr
      have htr : TabW wr := htab.chg hc (fun e => by have := (h.own.lt _ e.symm).1; omega)
      have HT := Lib.hid (fun w (hw : TabW w) => tz_any r hr h0 w hw)
      have hil : Lib.ctz 64 r < (linkS pl fr r to).length := by rw [linkS_len]; exact hb _ (hsub _ b2)
      have HS := Lib.hid (linkS_step hil (hsub _ b2) b2 b4)
      have HP := Lib.hid (and_pred r hr h0)
      have hne : ((r : Int) != 0) = true := by simpa using h0
      have hgd := linkS_good (fr := fr) (r := r) h.good ht
      generalize Lib.ctz 64 r = i at *
      generalize linkS pl fr r to = q at *
      obtain ⟨g, c, hv, hg1, hg2, hg3, hg4⟩ := hx.own.at (by omega)
      have c0 := hx.blk.cell0
      rw [hv] at c0
      have c4 := hg4 i hil 4 (by omega)
      have f4 := hg3 (i * 5 + 4)
      have hor := Lib.hid (u64_or_nat q[i].nx to (hgd _ (List.getElem_mem hil)).2 ht)
      have hi5 : (i : Int) < (q.length : Int) := by omega
      simp only [plCells, List.getElem?_cons_succ, List.getElem?_cons_zero] at c4
      have HB := Lib.hid (And.intro b3 b4)
      have HSUB := Lib.hid hsub
      have hnx := or_lt (hgd _ (List.getElem_mem hil)).2 ht
      have hst := Lib.hid (Rx.store (hv ▸ hx) i hil _ hnx)
      rw [← hv, HS.out] at hst
      have hst := hst
      clear b2 b3 b4 hg3 hg4 hsub
      go_wp2
      go_region_with (go_at_call 156; refine (HT.out _ (by exact htr)).mono ?_; rintro e w' ⟨rfl, rfl⟩)
      all_goals
        go_wp2
        rw [HP.out, hor.out]
        obtain ⟨b3, b4⟩ := HB.out
        refine ⟨⟨r &&& (r - 1), rfl, by omega, fun j hj => HSUB.out j ((b4 j).1 hj).1, hst.out.drew, ?_⟩, by simp [intOf]; omega⟩
        refine (hc.trans ((Chg.of_grown (xgrown_setCell wr g (i * 5 + 4) _)).mono ?_)).drew
        rintro k - rfl
        rw [hv]
        rfl

theorem either_val (a b : Pc) (ha1 : a.first < 18446744073709551616) (hb1 : b.first < 18446744073709551616) (ha2 : a.last < 18446744073709551616) (hb2 : b.last < 18446744073709551616) (w : World) :
    Calls Tryz.prog 171 #[.agg #[.int .u64 (a.first : Int), .int .u64 (a.last : Int), .bool a.empty], .agg #[.int .u64 (b.first : Int), .int .u64 (b.last : Int), .bool b.empty]] w fun e w' => e = .returned (.agg #[.int .u64 ((eitherP a b).first : Int), .int .u64 ((eitherP a b).last : Int), .bool (eitherP a b).empty]) ∧ Below w.heap.size w w' := by
  obtain ⟨a1, a2, a3⟩ := a
  obtain ⟨b1, b2, b3⟩ := b
  simp only at ha1 hb1 ha2 hb2
  have H1 := Lib.hid (u64_or_nat a1 b1 ha1 hb1)
  have H2 := Lib.hid (u64_or_nat a2 b2 ha2 hb2)
  unfold eitherP
  cases a3
  · go_enter Tryz.func171, Tryz.ntmps171
    go_wp2
    rw [H1.out, H2.out]
    exact bodyPost_ret (v := .agg #[.int .u64 ((a1 ||| b1 : Nat) : Int), .int .u64 ((a2 ||| b2 : Nat) : Int), .bool b3]) (by simp [results, Tryz.results171, go_sem]) rfl ⟨rfl, (by repeat (first | exact Below.refl _ _ | refine Below.drew ?_ | refine Below.alloc ?_ (by first | exact Nat.le_refl _ | (simp; done) | (simp; omega)) _ | refine Below.setCell ?_ (by first | exact Nat.le_refl _ | (simp; done) | (simp; omega)) _))⟩
  · go_enter Tryz.func171, Tryz.ntmps171
    go_wp2
    rw [H1.out, H2.out]
    exact bodyPost_ret (v := .agg #[.int .u64 ((a1 ||| b1 : Nat) : Int), .int .u64 ((a2 ||| b2 : Nat) : Int), .bool true]) (by simp [results, Tryz.results171, go_sem]) rfl ⟨rfl, (by repeat (first | exact Below.refl _ _ | refine Below.drew ?_ | refine Below.alloc ?_ (by first | exact Nat.le_refl _ | (simp; done) | (simp; omega)) _ | refine Below.setCell ?_ (by first | exact Nat.le_refl _ | (simp; done) | (simp; omega)) _))⟩

theorem maybe_val (a : Pc) (w : World) :
    Calls Tryz.prog 185 #[.agg #[.int .u64 (a.first : Int), .int .u64 (a.last : Int), .bool a.empty]] w fun e w' => e = .returned (.agg #[.int .u64 ((maybeP a).first : Int), .int .u64 ((maybeP a).last : Int), .bool (maybeP a).empty]) ∧ Below w.heap.size w w' := by
  obtain ⟨a1, a2, a3⟩ := a
  unfold maybeP
  go_enter Tryz.func185, Tryz.ntmps185
  go_wp2
  exact bodyPost_ret (v := .agg #[.int .u64 (a1 : Int), .int .u64 (a2 : Int), .bool true]) (by simp [results, Tryz.results185, go_sem]) rfl ⟨rfl, (by repeat (first | exact Below.refl _ _ | refine Below.drew ?_ | refine Below.alloc ?_ (by first | exact Nat.le_refl _ | (simp; done) | (simp; omega)) _ | refine Below.setCell ?_ (by first | exact Nat.le_refl _ | (simp; done) | (simp; omega)) _))⟩

/-- A piece in a block of its own. -/
def PcBlk (w : World) (b : Nat) (P : Pc) : Prop := w.heap[b]? = some (.cells #[.int .u64 (P.first : Int), .int .u64 (P.last : Int), .bool P.empty] 186 (0, 0))
theorem PcBlk.c0 {w : World} {b : Nat} {P : Pc} (h : PcBlk w b P) : w.cell? ⟨b, 0, none⟩ = some (.int .u64 (P.first : Int)) := cell_heap h
theorem PcBlk.c1 {w : World} {b : Nat} {P : Pc} (h : PcBlk w b P) : w.cell? ⟨b, 1, none⟩ = some (.int .u64 (P.last : Int)) := cell_heap h
theorem PcBlk.c2 {w : World} {b : Nat} {P : Pc} (h : PcBlk w b P) : w.cell? ⟨b, 2, none⟩ = some (.bool P.empty) := cell_heap h
theorem PcBlk.fz {w : World} {b : Nat} {P : Pc} (h : PcBlk w b P) (i : Nat) : w.frozen? ⟨b, i, none⟩ = false := by unfold PcBlk at h; simp [World.frozen?, h]
theorem PcBlk.lt {w : World} {b : Nat} {P : Pc} (h : PcBlk w b P) : b < w.heap.size := (Array.getElem?_eq_some_iff.1 h).1
theorem PcBlk.chg {S : Nat → Prop} {w w' : World} {b : Nat} {P : Pc} (h : PcBlk w b P) (hc : Chg S w w') (hn : ¬ S b) : PcBlk w' b P := (hc.block b h.lt hn).trans h
theorem PcBlk.below {w w' : World} {b : Nat} {P : Pc} (h : PcBlk w b P) (hb : Below w.heap.size w w') : PcBlk w' b P := (hb.block b h.lt).trans h
theorem pc_made (w : World) (P : Pc) : PcBlk (w.alloc (.cells #[.int .u64 (P.first : Int), .int .u64 (P.last : Int), .bool P.empty] 186)) w.heap.size P := heap_new _ _
theorem PcBlk.sets {w : World} {b : Nat} {P : Pc} (h : PcBlk w b P) (Q : Pc) : PcBlk (((w.setCell ⟨b, 0, none⟩ (.int .u64 (Q.first : Int))).setCell ⟨b, 1, none⟩ (.int .u64 (Q.last : Int))).setCell ⟨b, 2, none⟩ (.bool Q.empty)) b Q := by
  unfold PcBlk at h ⊢; simp [World.setCell, Array.getElem?_modify, h]

theorem chg_sets3 (w : World) (b : Nat) (x0 x1 x2 : Value) : Chg (· = b) w (((w.setCell ⟨b, 0, none⟩ x0).setCell ⟨b, 1, none⟩ x1).setCell ⟨b, 2, none⟩ x2) :=
  Chg.of_grown (xgrown_trans (xgrown_trans (xgrown_setCell _ _ _ _) (xgrown_setCell _ _ _ _)) (xgrown_setCell _ _ _ _))

theorem Chg.new {S : Nat → Prop} {a b c : World} {k : Nat} (h : Chg S a b) (h2 : Chg (· = k) b c) (hk : a.heap.size ≤ k) : Chg S a c :=
  ⟨h2.os.trans h.os, h2.tape.trans h.tape, h2.output.trans h.output, Nat.le_trans h.size h2.size, fun i hi hn => (h2.block i (Nat.lt_of_lt_of_le hi h.size) (by omega)).trans (h.block i hi hn)⟩

theorem Chg.alloc {S : Nat → Prop} {w w' : World} (h : Chg S w w') (o : Obj) : Chg S w (w'.alloc o) := h.trans (Chg.of_below ((Below.refl _ _).alloc (Nat.le_refl _) _))
theorem Rx.below {w w' : World} {B xb : Nat} {v : Value} {P : Pc} {pl : List Pl} (h : Rx w B xb v P pl) (hb : Below w.heap.size w w') : Rx w' B xb v P pl := h.chg (S := fun _ => False) (Chg.of_below hb) (fun h => h) (fun _ _ h => h)
theorem Rx.alloc {w : World} {B xb : Nat} {v : Value} {P : Pc} {pl : List Pl} (h : Rx w B xb v P pl) (o : Obj) : Rx (w.alloc o) B xb v P pl := h.below ((Below.refl _ _).alloc (Nat.le_refl _) _)

/-- A piece boxed, and one for the result. -/
theorem two_pcs (w : World) (a : Pc) (B xb : Nat) (v : Value) (P : Pc) (pl : List Pl) (h : Rx w B xb v P pl) :
    ∃ W, (w.alloc (.cells #[.int .u64 (a.first : Int), .int .u64 (a.last : Int), .bool a.empty] 186)).alloc (.cells #[.int .u64 0, .int .u64 0, .bool false] 186) = W ∧ Below w.heap.size w W ∧ PcBlk W w.heap.size a ∧ PcBlk W (w.heap.size + 1) ⟨0, 0, false⟩ ∧ Rx W B xb v P pl := by
  have hb : Below w.heap.size w ((w.alloc (.cells #[.int .u64 (a.first : Int), .int .u64 (a.last : Int), .bool a.empty] 186)).alloc (.cells #[.int .u64 0, .int .u64 0, .bool false] 186)) := ((Below.refl _ _).alloc (Nat.le_refl _) _).alloc (by simp) _
  refine ⟨_, rfl, hb, (pc_made w a).below ((Below.refl _ _).alloc (Nat.le_refl _) _), ?_, h.chg (S := fun _ => False) (Chg.of_below hb) (fun h => h) (fun _ _ h => h)⟩
  have := pc_made (w.alloc (.cells #[.int .u64 (a.first : Int), .int .u64 (a.last : Int), .bool a.empty] 186)) ⟨0, 0, false⟩
  rw [World.size_alloc] at this
  exact this

set_option maxHeartbeats 1000000 in
theorem repeat_any (B xb : Nat) (v : Value) (P : Pc) (pl : List Pl) (a : Pc) (w : World) (h : Rx w B xb v P pl) (h1 : a.first < 18446744073709551616) (h2 : a.last < 18446744073709551616) (hb : ∀ i, a.last.testBit i = true → i < pl.length) (htab : TabW w) (hB : 4 < B) :
    Calls Tryz.prog 186 #[.pointer (some ⟨xb, 0, none⟩), .agg #[.int .u64 (a.first : Int), .int .u64 (a.last : Int), .bool a.empty]] w fun e w' => e = .returned (.agg #[.int .u64 (a.first : Int), .int .u64 (a.last : Int), .bool a.empty]) ∧ Rx w' B xb v P (linkL pl a.last a.first) ∧ Chg (fun k => some k = v.ownBlock) w w' := by
  have hxl := h.blk.lt
  have hvl := h.own.lt
  have hlt := htab.lt
  obtain ⟨W, hW, hbW, hpa, hpr, hx⟩ := two_pcs w a B xb v P pl h
  have HL := Lib.hid (link_any B xb v P pl a.last a.first W hx h2 h1 hb (htab.on hbW hlt) hB)
  subst hW
  go_enter Tryz.func186, Tryz.ntmps186
  go_wp2_with (go_at_call 183; refine HL.out.mono ?_; rintro e w3 ⟨rfl, hx3, hc3⟩; refine Hid.out ?_)
  refine Lib.hid ?_
  have hpa3 := hpa.chg hc3 (fun e => by have := (hvl _ e.symm).2; omega)
  have hpr3 := hpr.chg hc3 (fun e => by have := (hvl _ e.symm).2; omega)
  have a0 := hpa3.c0
  have a1 := hpa3.c1
  have a2 := hpa3.c2
  have r0 := hpr3.c0
  have r1 := hpr3.c1
  have r2 := hpr3.c2
  have f0 := hpr3.fz 0
  have f1 := hpr3.fz 1
  have f2 := hpr3.fz 2
  have hc4 : Chg (fun k => some k = v.ownBlock) w w3 := (Chg.of_below hbW).trans hc3
  clear hpa3 hpr3 hpa hpr hx HL
  go_wp2
  refine bodyPost_ret (v := .agg #[.int .u64 (a.first : Int), .int .u64 (a.last : Int), .bool a.empty]) (by simp [results, Tryz.results186, go_sem, r0, r1, r2]) rfl ⟨rfl, ?_, hc4.new (chg_sets3 w3 (w.heap.size + 1) _ _ _) (by omega)⟩
  exact hx3.chg (chg_sets3 w3 (w.heap.size + 1) _ _ _) (by omega) (fun k hk e => by have := (hvl _ hk).2; omega)

/-- Two pieces boxed, and one for the result. -/
theorem three_pcs (w : World) (a b : Pc) (B xb : Nat) (v : Value) (P : Pc) (pl : List Pl) (h : Rx w B xb v P pl) :
    ∃ W, ((w.alloc (.cells #[.int .u64 (a.first : Int), .int .u64 (a.last : Int), .bool a.empty] 186)).alloc (.cells #[.int .u64 (b.first : Int), .int .u64 (b.last : Int), .bool b.empty] 186)).alloc (.cells #[.int .u64 0, .int .u64 0, .bool false] 186) = W ∧ Below w.heap.size w W ∧ PcBlk W w.heap.size a ∧ PcBlk W (w.heap.size + 1) b ∧ PcBlk W (w.heap.size + 1 + 1) ⟨0, 0, false⟩ ∧ Rx W B xb v P pl ∧ W.heap.size = w.heap.size + 1 + 1 + 1 := by
  have hb : Below w.heap.size w (((w.alloc (.cells #[.int .u64 (a.first : Int), .int .u64 (a.last : Int), .bool a.empty] 186)).alloc (.cells #[.int .u64 (b.first : Int), .int .u64 (b.last : Int), .bool b.empty] 186)).alloc (.cells #[.int .u64 0, .int .u64 0, .bool false] 186)) := (((Below.refl _ _).alloc (Nat.le_refl _) _).alloc (by simp) _).alloc (by simp; omega) _
  have h2 := pc_made (w.alloc (.cells #[.int .u64 (a.first : Int), .int .u64 (a.last : Int), .bool a.empty] 186)) b
  rw [World.size_alloc] at h2
  have h3 := pc_made ((w.alloc (.cells #[.int .u64 (a.first : Int), .int .u64 (a.last : Int), .bool a.empty] 186)).alloc (.cells #[.int .u64 (b.first : Int), .int .u64 (b.last : Int), .bool b.empty] 186)) ⟨0, 0, false⟩
  rw [World.size_alloc, World.size_alloc] at h3
  exact ⟨_, rfl, hb, ((pc_made w a).below ((Below.refl _ _).alloc (Nat.le_refl _) _)).below ((Below.refl _ _).alloc (Nat.le_refl _) _), h2.below ((Below.refl _ _).alloc (Nat.le_refl _) _), h3, h.chg (S := fun _ => False) (Chg.of_below hb) (fun h => h) (fun _ _ h => h), by simp⟩

set_option maxHeartbeats 2000000 in
theorem join_any (B xb : Nat) (v : Value) (P : Pc) (pl : List Pl) (a b : Pc) (w : World) (h : Rx w B xb v P pl) (h1 : a.first < 18446744073709551616) (h2 : a.last < 18446744073709551616) (h3 : b.first < 18446744073709551616) (h4 : b.last < 18446744073709551616) (hb : ∀ i, a.last.testBit i = true → i < pl.length) (htab : TabW w) (hB : 4 < B) :
    Calls Tryz.prog 180 #[.pointer (some ⟨xb, 0, none⟩), .agg #[.int .u64 (a.first : Int), .int .u64 (a.last : Int), .bool a.empty], .agg #[.int .u64 (b.first : Int), .int .u64 (b.last : Int), .bool b.empty]] w fun e w' => e = .returned (.agg #[.int .u64 ((joinP a b).first : Int), .int .u64 ((joinP a b).last : Int), .bool (joinP a b).empty]) ∧ Rx w' B xb v P (linkL pl a.last b.first) ∧ Chg (fun k => some k = v.ownBlock) w w' := by
  have hxl := h.blk.lt
  have hvl := h.own.lt
  have hlt := htab.lt
  obtain ⟨W, hW, hbW, hpa, hpb, hpr, hx, hsz⟩ := three_pcs w a b B xb v P pl h
  have HL := Lib.hid (link_any B xb v P pl a.last b.first W hx h2 h3 hb (htab.on hbW hlt) hB)
  subst hW
  go_enter Tryz.func180, Tryz.ntmps180
  go_wp2_with (go_at_call 183; refine HL.out.mono ?_; rintro e w3 ⟨rfl, hx3, hc3⟩; refine Hid.out ?_)
  refine Lib.hid ?_
  have hpa3 := hpa.chg hc3 (fun e => by have := (hvl _ e.symm).2; omega)
  have hpb3 := hpb.chg hc3 (fun e => by have := (hvl _ e.symm).2; omega)
  have hpr3 := hpr.chg hc3 (fun e => by have := (hvl _ e.symm).2; omega)
  have hs3 : w.heap.size + 1 + 1 < w3.heap.size := by have := hc3.size; omega
  have a0 := hpa3.c0
  have a1 := hpa3.c1
  have a2 := hpa3.c2
  have b0 := hpb3.c0
  have b1 := hpb3.c1
  have b2 := hpb3.c2
  have r0 := hpr3.c0
  have r1 := hpr3.c1
  have r2 := hpr3.c2
  have f0 := hpr3.fz 0
  have f1 := hpr3.fz 1
  have f2 := hpr3.fz 2
  have hc4 : Chg (fun k => some k = v.ownBlock) w w3 := (Chg.of_below hbW).trans hc3
  have n0 : w.heap.size < w3.heap.size := by omega
  have n1 : w.heap.size + 1 < w3.heap.size := by omega
  clear hpa3 hpr3 hpa hpb hpb3 hpr hx HL hsz hbW
  have HO1 := Lib.hid (u64_or_nat a.first b.first h1 h3)
  have HO2 := Lib.hid (u64_or_nat b.last a.last h4 h2)
  obtain ⟨A1, A2, A3⟩ := a
  obtain ⟨B1, B2, B3⟩ := b
  simp only at *
  cases A3
  · cases B3
    · go_wp2
      refine bodyPost_ret (v := .agg #[.int .u64 ((A1 : Nat) : Int), .int .u64 ((B2 : Nat) : Int), .bool false]) (by simp [results, Tryz.results180, go_sem, r0, r1, r2, hs3]) rfl ⟨rfl, ?_, (hc4.new (chg_sets3 w3 (w.heap.size + 1 + 1) _ _ _) (by omega)).alloc _⟩
      exact (hx3.chg (chg_sets3 w3 (w.heap.size + 1 + 1) _ _ _) (by omega) (fun k hk e => by have := (hvl _ hk).2; omega)).alloc _
    · go_wp2
      rw [HO2.out]
      refine bodyPost_ret (v := .agg #[.int .u64 ((A1 : Nat) : Int), .int .u64 ((B2 ||| A2 : Nat) : Int), .bool false]) (by simp [results, Tryz.results180, go_sem, r0, r1, r2, hs3]) rfl ⟨rfl, ?_, (hc4.new (chg_sets3 w3 (w.heap.size + 1 + 1) _ _ _) (by omega)).alloc _⟩
      exact (hx3.chg (chg_sets3 w3 (w.heap.size + 1 + 1) _ _ _) (by omega) (fun k hk e => by have := (hvl _ hk).2; omega)).alloc _
  · cases B3
    · go_wp2
      rw [HO1.out]
      refine bodyPost_ret (v := .agg #[.int .u64 ((A1 ||| B1 : Nat) : Int), .int .u64 ((B2 : Nat) : Int), .bool false]) (by simp [results, Tryz.results180, go_sem, r0, r1, r2, hs3]) rfl ⟨rfl, ?_, (hc4.new (chg_sets3 w3 (w.heap.size + 1 + 1) _ _ _) (by omega)).alloc _⟩
      exact (hx3.chg (chg_sets3 w3 (w.heap.size + 1 + 1) _ _ _) (by omega) (fun k hk e => by have := (hvl _ hk).2; omega)).alloc _
    · go_wp2
      rw [HO1.out, HO2.out]
      refine bodyPost_ret (v := .agg #[.int .u64 ((A1 ||| B1 : Nat) : Int), .int .u64 ((B2 ||| A2 : Nat) : Int), .bool true]) (by simp [results, Tryz.results180, go_sem, r0, r1, r2, hs3]) rfl ⟨rfl, ?_, (hc4.new (chg_sets3 w3 (w.heap.size + 1 + 1) _ _ _) (by omega)).alloc _⟩
      exact (hx3.chg (chg_sets3 w3 (w.heap.size + 1 + 1) _ _ _) (by omega) (fun k hk e => by have := (hvl _ hk).2; omega)).alloc _

end Go.Proofs.YtmanjegdgjeeiaaGreatDoor
namespace Go.Proofs.YtmanjegdgjeeiaaGreatDoor
open Go.RowKit

structure St (w : World) (B rb xb : Nat) (s : ByteArray) (k : Nat) (l : List UInt8) (v : Value) (pl : List Pl) : Prop where
  rd : XdBlk w rb xb s k
  left : Left s k l
  rx : Rx w B xb v ⟨0, 0, false⟩ pl
  ne : rb ≠ xb
  rv : v.ownBlock ≠ some rb
  B1 : B ≤ rb
  tab : TabW w
  tabB : 4 < B
  lim : pl.length + l.length ≤ 64

/-- What the reading may turn. -/
def Own3 (rb xb : Nat) (v : Value) : Nat → Prop := fun k => k = rb ∨ k = xb ∨ some k = v.ownBlock

variable {w w' w1 w2 : World} {B rb xb : Nat} {s : ByteArray} {k : Nat} {l : List UInt8} {v v1 v2 : Value} {pl : List Pl}

theorem St.vlt (h : St w B rb xb s k l v pl) : ∀ b, v.ownBlock = some b → B ≤ b ∧ b < w.heap.size := h.rx.own.lt
theorem St.rlt (h : St w B rb xb s k l v pl) : rb < w.heap.size := h.rd.lt
theorem St.xlt (h : St w B rb xb s k l v pl) : xb < w.heap.size := h.rx.blk.lt
theorem St.own3 (h : St w B rb xb s k l v pl) : ∀ b, Own3 rb xb v b → B ≤ b ∧ b < w.heap.size := by
  rintro b (rfl | rfl | e)
  · exact ⟨h.B1, h.rlt⟩
  · exact ⟨h.rx.le, h.xlt⟩
  · exact h.vlt b e.symm
theorem St.Ble (h : St w B rb xb s k l v pl) : B ≤ w.heap.size := by have := h.B1; have := h.rlt; omega

theorem St.chg {S : Nat → Prop} (h : St w B rb xb s k l v pl) (hc : Chg S w w') (hs : ∀ b, S b → ¬ Own3 rb xb v b ∧ b ≠ 4) : St w' B rb xb s k l v pl :=
  ⟨h.rd.chg hc fun e => (hs _ e).1 (.inl rfl), h.left, h.rx.chg hc (fun e => (hs _ e).1 (.inr (.inl rfl))) (fun _ hb e => (hs _ e).1 (.inr (.inr hb.symm))), h.ne, h.rv, h.B1, h.tab.chg hc fun e => (hs _ e).2 rfl, h.tabB, h.lim⟩
theorem St.below (h : St w B rb xb s k l v pl) (hb : Below w.heap.size w w') : St w' B rb xb s k l v pl := h.chg (S := fun _ => False) (Chg.of_below hb) (fun _ h => h.elim)
theorem St.drewN (h : St w B rb xb s k l v pl) (n : Nat) : St (w.drewN n) B rb xb s k l v pl := h.below (below_drawn _ _)
theorem St.drew (h : St w B rb xb s k l v pl) : St w.drew B rb xb s k l v pl := h.below ((Below.refl _ _).drew)

/-- The reader alone has turned. -/
theorem St.went {k' : Nat} {l' : List UInt8} (h : St w B rb xb s k l v pl) (hg : w.grownBy w' (some rb)) (hr : XdBlk w' rb xb s k') (hl : Left s k' l') (hle : l'.length ≤ l.length) : St w' B rb xb s k' l' v pl := by
  have hc := Chg.of_grown hg
  have hB := h.B1
  have ht := h.tabB
  have hm := h.lim
  exact ⟨hr, hl, h.rx.chg hc (fun e => h.ne e.symm) (fun _ hb e => h.rv (by rw [hb, e])), h.ne, h.rv, h.B1, h.tab.chg hc (fun e => by omega), h.tabB, by omega⟩
theorem chg_rd (hg : w.grownBy w' (some rb)) : Chg (Own3 rb xb v) w w' := (Chg.of_grown hg).mono fun _ _ e => .inl e
theorem chg_rx (hc : Chg (Mine xb v) w w') : Chg (Own3 rb xb v) w w' := hc.mono fun _ _ e => e.elim (fun e => .inr (.inl e)) (fun e => .inr (.inr e))
theorem chg_pl (hc : Chg (fun b => some b = v.ownBlock) w w') : Chg (Own3 rb xb v) w w' := hc.mono fun _ _ e => .inr (.inr e)

/-- One reading behind another. -/
theorem Chg.on (h : Chg (Own3 rb xb v) w w1) (hm : Moved w v v1) (h1 : Chg (Own3 rb xb v1) w1 w2) : Chg (Own3 rb xb v) w w2 := by
  refine ⟨h1.os.trans h.os, h1.tape.trans h.tape, h1.output.trans h.output, Nat.le_trans h.size h1.size, fun b hb hn => ?_⟩
  refine (h1.block b (Nat.lt_of_lt_of_le hb h.size) ?_).trans (h.block b hb hn)
  rintro (e | e | e)
  · exact hn (.inl e)
  · exact hn (.inr (.inl e))
  · rcases hm with hm | hm
    · exact hn (.inr (.inr (e.trans hm)))
    · have := hm b e.symm; omega
theorem St.lost (h : St w B rb xb s k l v pl) (hc : Chg (Own3 rb xb v) w w') : Below B w w' := hc.below (fun b _ hb => (h.own3 b hb).1) h.Ble

/-- What a call that has read some of a pattern leaves. -/
structure Read (w w' : World) (B rb xb : Nat) (s : ByteArray) (v : Value) (pl : List Pl) (P : Pc) (A : Lang) (l' : List UInt8) (k' : Nat) (v' : Value) (pl' : List Pl) : Prop where
  st : St w' B rb xb s k' l' v' pl'
  chg : Chg (Own3 rb xb v) w w'
  moved : Moved w v v'
  old : ∀ i, i < pl.length → pl'[i]? = pl[i]?
  frag : Frag pl' pl.length pl'.length P A

theorem Read.first {P : Pc} {A : Lang} {l' : List UInt8} {k' : Nat} {v' : Value} {pl' : List Pl} (h : Read w w' B rb xb s v pl P A l' k' v' pl') : P.first < 18446744073709551616 := bit_lt (i := 64) fun j hj => by have := (h.frag.first j hj).2; have := h.st.rx.lim; omega
theorem Read.last {P : Pc} {A : Lang} {l' : List UInt8} {k' : Nat} {v' : Value} {pl' : List Pl} (h : Read w w' B rb xb s v pl P A l' k' v' pl') : P.last < 18446744073709551616 := bit_lt (i := 64) fun j hj => by have := (h.frag.last j hj).2; have := h.st.rx.lim; omega

/-- The contract of a call that reads: it gives up, or leaves what was read. -/
def Reads (f : FuncId) (o : Option (Lang × List UInt8)) (w : World) (B rb xb : Nat) (s : ByteArray) (v : Value) (pl : List Pl) : Prop :=
  match o with
  | none => Calls Tryz.prog f #[.pointer (some ⟨rb, 0, none⟩)] w fun e w' => e = gaveUp ∧ Below B w w'
  | some (A, l') => Calls Tryz.prog f #[.pointer (some ⟨rb, 0, none⟩)] w fun e w' => ∃ P, e = .returned (.agg #[.int .u64 (P.first : Int), .int .u64 (P.last : Int), .bool P.empty]) ∧ ∃ k' v' pl', Read w w' B rb xb s v pl P A l' k' v' pl'

/-- A new piece of zeros. -/
theorem St.pc (h : St w B rb xb s k l v pl) : ∃ W, w.alloc (.cells #[.int .u64 0, .int .u64 0, .bool false] 186) = W ∧ Below w.heap.size w W ∧ PcBlk W w.heap.size ⟨0, 0, false⟩ ∧ St W B rb xb s k l v pl :=
  ⟨_, rfl, (Below.refl _ _).alloc (Nat.le_refl _) _, pc_made w ⟨0, 0, false⟩, h.below ((Below.refl _ _).alloc (Nat.le_refl _) _)⟩

/-- A result that is stored in a new block. -/
theorem Read.sets {P : Pc} {A : Lang} {l' : List UInt8} {k' : Nat} {v' : Value} {pl' : List Pl} (h : Read w w' B rb xb s v pl P A l' k' v' pl') {b : Nat} (hb : w.heap.size ≤ b) (hr : rb < w.heap.size) (hx : xb < w.heap.size) (hv : v'.ownBlock ≠ some b) (x0 x1 x2 : Value) :
    Read w (((w'.setCell ⟨b, 0, none⟩ x0).setCell ⟨b, 1, none⟩ x1).setCell ⟨b, 2, none⟩ x2) B rb xb s v pl P A l' k' v' pl' :=
  ⟨h.st.chg (chg_sets3 w' b x0 x1 x2) (by
      rintro c rfl
      refine ⟨?_, by have h1 := h.st.tabB; have h2 := h.st.B1; omega⟩
      rintro (e | e | e)
      · omega
      · omega
      · exact hv e.symm), h.chg.new (chg_sets3 w' b x0 x1 x2) hb, h.moved, h.old, h.frag⟩
theorem Read.below {P : Pc} {A : Lang} {l' : List UInt8} {k' : Nat} {v' : Value} {pl' : List Pl} (h : Read w w' B rb xb s v pl P A l' k' v' pl') (hb : Below w'.heap.size w' w2) : Read w w2 B rb xb s v pl P A l' k' v' pl' :=
  ⟨h.st.below hb, h.chg.trans (Chg.of_below hb), h.moved, h.old, h.frag⟩
/-- It began earlier, with new blocks alone between. -/
theorem Read.early {P : Pc} {A : Lang} {l' : List UInt8} {k' : Nat} {v' : Value} {pl' : List Pl} (h : Read w1 w' B rb xb s v pl P A l' k' v' pl') (hb : Below w.heap.size w w1) : Read w w' B rb xb s v pl P A l' k' v' pl' := by
  refine ⟨h.st, (Chg.of_below hb).trans h.chg, ?_, h.old, h.frag⟩
  rcases h.moved with e | e
  · exact .inl e
  · exact .inr fun c hc => Nat.le_trans hb.size (e c hc)
/-- The reader alone went on ahead of it. -/
theorem Read.ahead {P : Pc} {A : Lang} {l' : List UInt8} {k' : Nat} {v' : Value} {pl' : List Pl} (h : Read w1 w' B rb xb s v pl P A l' k' v' pl') (hg : w.grownBy w1 (some rb)) : Read w w' B rb xb s v pl P A l' k' v' pl' := by
  refine ⟨h.st, (chg_rd hg).trans h.chg, ?_, h.old, h.frag⟩
  rcases h.moved with e | e
  · exact .inl e
  · exact .inr fun c hc => Nat.le_trans hg.size (e c hc)

/-- The reader alone goes on behind it. -/
theorem Read.then {P : Pc} {A : Lang} {l' l2 : List UInt8} {k' k2 : Nat} {v' : Value} {pl' : List Pl} (h : Read w w' B rb xb s v pl P A l' k' v' pl') (hg : w'.grownBy w2 (some rb)) (hr : XdBlk w2 rb xb s k2) (hl : Left s k2 l2) (hle : l2.length ≤ l'.length) : Read w w2 B rb xb s v pl P A l2 k2 v' pl' :=
  ⟨h.st.went hg hr hl hle, h.chg.on h.moved (chg_rd hg), h.moved, h.old, h.frag⟩

/-- A block that was there, and is none of the reading's, is none of it behind. -/
theorem Read.away {P : Pc} {A : Lang} {l' : List UInt8} {k' : Nat} {v' : Value} {pl' : List Pl} (h : Read w w' B rb xb s v pl P A l' k' v' pl') {b : Nat} (hb : b < w.heap.size) (hv : v.ownBlock ≠ some b) : v'.ownBlock ≠ some b := by
  rcases h.moved with e | e
  · rw [e]; exact hv
  · intro e2; have := e b e2; omega
theorem Read.pcs {P : Pc} {A : Lang} {l' : List UInt8} {k' : Nat} {v' : Value} {pl' : List Pl} (h : Read w w' B rb xb s v pl P A l' k' v' pl') {b : Nat} {Q : Pc} (hp : PcBlk w b Q) (hr : b ≠ rb) (hx : b ≠ xb) (hv : v.ownBlock ≠ some b) : PcBlk w' b Q := hp.chg h.chg (by
  rintro (e | e | e)
  · exact hr e
  · exact hx e
  · exact hv e.symm)

end Go.Proofs.YtmanjegdgjeeiaaGreatDoor
namespace Go.Proofs.YtmanjegdgjeeiaaGreatDoor
open Go.RowKit

/-- That rows are read as they should be, of less than n bytes. -/
def RowsOk (n B rb xb : Nat) (s : ByteArray) : Prop := ∀ (w : World) (k : Nat) (l : List UInt8) (v : Value) (pl : List Pl), l.length < n → St w B rb xb s k l v pl → Reads 154 (pLoop n noL epsL l) w B rb xb s v pl

def pInner (n : Nat) (l : List UInt8) : Option (Lang × List UInt8) := match pLoop n noL epsL l with | none => none | some (A, l') => if l'.head? = some 41 then some (A, l'.drop 1) else none

variable {w : World} {B rb xb : Nat} {s : ByteArray} {k : Nat} {l : List UInt8} {v : Value} {pl : List Pl}

theorem head_form {l : List UInt8} {c : UInt8} (h : l.head? = some c) : ∃ r, l = c :: r := by
  cases l with
  | nil => cases h
  | cons d r => exact ⟨r, by simpa using h⟩

set_option maxHeartbeats 2000000 in
theorem inner_any (n : Nat) (IH : RowsOk n B rb xb s) (h : St w B rb xb s k l v pl) (hl : l.length < n) : Reads 188 (pInner n l) w B rb xb s v pl := by
  have hrl := h.rlt
  have hxl := h.xlt
  have hvl := h.vlt
  have hBl := h.Ble
  obtain ⟨W, hW, hbW, hpW, hsW⟩ := h.pc
  have HR := IH W k l v pl hl hsW
  have hPI : Hid (pInner n l = match pLoop n noL epsL l with | none => none | some (A, l') => if l'.head? = some 41 then some (A, l'.drop 1) else none) := Lib.hid rfl
  cases ho : pLoop n noL epsL l with
  | none =>
    rw [ho] at HR
    have e : pInner n l = none := by rw [hPI.out, ho]
    rw [e]
    have HR : Hid (Calls _ _ _ _ _) := Lib.hid HR
    clear hPI e ho IH
    subst hW
    show Calls Tryz.prog 188 _ w _
    go_enter Tryz.func188, Tryz.ntmps188
    go_wp2_with (go_at_call 154; refine HR.out.mono ?_; rintro e w2 ⟨rfl, hb2⟩)
    exact ⟨rfl, rfl, (hbW.mono hBl).trans hb2⟩
  | some q =>
    obtain ⟨A, l'⟩ := q
    rw [ho] at HR
    have HR : Hid (Calls _ _ _ _ _) := Lib.hid HR
    by_cases hh : l'.head? = some 41
    · obtain ⟨r, rfl⟩ := head_form hh
      have e : pInner n l = some (A, r) := by rw [hPI.out, ho]; exact if_pos hh
      rw [e]
      clear hPI e ho IH hh
      subst hW
      show Calls Tryz.prog 188 _ w _
      go_enter Tryz.func188, Tryz.ntmps188
      go_wp2_with (go_at_call 154; refine HR.out.mono ?_; rintro e w2 ⟨P, rfl, k2, v2, pl2, hR⟩; refine Hid.out ?_)
      refine Lib.hid ?_
      have hR3 := hR.below (w2 := w2.alloc (.cells #[.int .u64 (P.first : Int), .int .u64 (P.last : Int), .bool P.empty] 186)) ((Below.refl _ _).alloc (Nat.le_refl _) _)
      have hp3 := pc_made w2 P
      have hz : w.heap.size < w2.heap.size := by have := hR.chg.size; simp at this; omega
      have hq2 := hR.pcs hpW (by omega) (by omega) (fun e => by have := (hvl _ e).2; omega)
      have hq3 := hq2.below (w' := w2.alloc (.cells #[.int .u64 (P.first : Int), .int .u64 (P.last : Int), .bool P.empty] 186)) ((Below.refl _ _).alloc (Nat.le_refl _) _)
      have hvn := hR.away (b := w.heap.size) (by simp) (fun e => by have := (hvl _ e).2; omega)
      have HS := Lib.hid (skip_ok rb xb s k2 r 41 _ hR3.st.rd hR3.st.left)
      go_wp2_with (go_at_call 170; refine HS.out.mono ?_; rintro e w4 ⟨rfl, hr4, hg4⟩; refine Hid.out ?_)
      refine Lib.hid ?_
      have hR4 := (hR3.then hg4 hr4 hR3.st.left.next (by simp)).early hbW
      have hp4 := hp3.chg (Chg.of_grown hg4) (by omega)
      have hq4 := hq3.chg (Chg.of_grown hg4) (by omega)
      clear hR hR3 hp3 hq2 hq3 HS hg4 hr4 hbW hpW hsW
      have c0 := hp4.c0
      have c1 := hp4.c1
      have c2 := hp4.c2
      have r0 := hq4.c0
      have r1 := hq4.c1
      have r2 := hq4.c2
      have f0 := hq4.fz 0
      have f1 := hq4.fz 1
      have f2 := hq4.fz 2
      go_wp2
      exact bodyPost_ret (v := .agg #[.int .u64 (P.first : Int), .int .u64 (P.last : Int), .bool P.empty]) (by simp [results, Tryz.results188, go_sem, r0, r1, r2]) rfl ⟨P, rfl, _, _, _, hR4.sets (Nat.le_refl _) hrl hxl hvn _ _ _⟩
    · have hsn : seesB l' 41 = false := Bool.eq_false_iff.2 fun e => hh (sees_head.1 e)
      have e : pInner n l = none := by rw [hPI.out, ho]; exact if_neg hh
      rw [e]
      clear hPI e ho IH hh
      subst hW
      show Calls Tryz.prog 188 _ w _
      go_enter Tryz.func188, Tryz.ntmps188
      go_wp2_with (go_at_call 154; refine HR.out.mono ?_; rintro e w2 ⟨P, rfl, k2, v2, pl2, hR⟩; refine Hid.out ?_)
      refine Lib.hid ?_
      have hR3 := hR.below (w2 := w2.alloc (.cells #[.int .u64 (P.first : Int), .int .u64 (P.last : Int), .bool P.empty] 186)) ((Below.refl _ _).alloc (Nat.le_refl _) _)
      have HS := Lib.hid (skip_no rb xb s k2 l' 41 _ hR3.st.rd hR3.st.left hsn)
      have hlost := (hbW.mono hBl).trans (hsW.lost hR3.chg)
      clear hsn
      go_wp2_with (first | (go_at_call 170; refine HS.out.mono ?_; rintro e w4 ⟨rfl, nd, rfl⟩) | (go_at_call 155; refine (giveUp_any _).mono ?_; rintro e w5 ⟨rfl, rfl⟩))
      exact ⟨rfl, rfl, hlost.trans ⟨rfl, rfl, rfl, Nat.le_refl _, fun _ _ => rfl⟩⟩

end Go.Proofs.YtmanjegdgjeeiaaGreatDoor
