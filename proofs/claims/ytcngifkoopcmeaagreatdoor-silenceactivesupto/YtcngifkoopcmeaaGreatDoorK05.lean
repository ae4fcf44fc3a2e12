/-
  The library's lowest bit, and whether a byte is special. A pattern's places in memory; what place and link do.
-/
import Derived.Test.YtcngifkoopcmeaaGreatDoorK04
import Derived.Laws.Externs
import Derived.Maps.AppendAt
import Derived.Laws.OwnMore
import Derived.RegionTactic
import Derived.Deep.RegionLaw
import Derived.Deep.RegionWith
namespace Go.Proofs.YtcngifkoopcmeaaGreatDoor
open Go.RowKit

theorem cell_heap' {w : World} {b j : Nat} {cs : Array Value} {t : TypeId} {fr : Nat × Nat} (h : w.heap[b]? = some (.cells cs t fr)) : w.cell? ⟨b, j, none⟩ = cs[j]? := by simp [World.cell?, h]

/-- The table of the lowest bit. -/
def TabW (w : World) : Prop := ∀ j, j < 64 → w.cell? ⟨4, j, none⟩ = some (.int .u8 ((Lib.deBruijn64tab.getD j 0 : Nat) : Int))
theorem TabW.lt {w : World} (h : TabW w) : 4 < w.heap.size := World.block_lt_of_cell? w _ (h 0 (by omega))
theorem TabW.on {w w' : World} {B : Nat} (h : TabW w) (hb : Below B w w') (hB : 4 < B) : TabW w' := fun j hj => (hb.cell (p := ⟨4, j, none⟩) hB).trans (h j hj)
theorem TabW.chg {S : Nat → Prop} {w w' : World} (h : TabW w) (hc : Chg S w w') (hn : ¬ S 4) : TabW w' := fun j hj => (World.cell?_of_block (a := ⟨4, j, none⟩) (hc.block 4 h.lt hn)).trans (h j hj)

theorem tz_key (x : Nat) (hx : x < 18446744073709551616) (h0 : x ≠ 0) :
    IntKind.u64.wrap (bits BinOp.and IntKind.u64 (x : Int) (IntKind.u64.wrap (-(x : Int))) * 285870213051353865) / 288230376151711744 = ((2 ^ Lib.ctz 64 x * 285870213051353865 % 18446744073709551616 / 288230376151711744 : Nat) : Int) := by
  have e1 : IntKind.u64.wrap (-(x : Int)) = ((18446744073709551616 - x : Nat) : Int) := by rw [IntKind.wrap_u64]; omega
  have h1 := (Lib.lowest_bit 64 x h0 hx).1
  rw [e1, u64_and_nat x _ hx (by omega), show 18446744073709551616 - x = 2 ^ 64 - x from rfl, h1, IntKind.wrap_u64]
  generalize 2 ^ Lib.ctz 64 x = z
  omega

set_option maxHeartbeats 1000000 in
theorem tz_core (x k idx : Nat) (w : World) (hne : ((x : Int) == 0) = false)
    (key : IntKind.u64.wrap (bits BinOp.and IntKind.u64 (x : Int) (IntKind.u64.wrap (-(x : Int))) * 285870213051353865) / 288230376151711744 = (idx : Int))
    (hi : idx < 64) (hk : k < 64) (c1 : w.cell? ⟨4, idx, none⟩ = some (.int .u8 (k : Int))) :
    Calls Tryz.prog 198 #[.int .u64 x] w fun e w' => e = .returned (.int .i64 (k : Nat)) ∧ w' = w := by
  go_enter Tryz.func198, Tryz.ntmps198
  go_wp2_with (simp only [key])
  go_ret
  exact ⟨rfl, rfl⟩
theorem tz_any (x : Nat) (hx : x < 18446744073709551616) (h0 : x ≠ 0) (w : World) (ht : TabW w) :
    Calls Tryz.prog 198 #[.int .u64 x] w fun e w' => e = .returned (.int .i64 (Lib.ctz 64 x : Nat)) ∧ w' = w := by
  have hk := (ctz_bits x h0 hx).1
  obtain ⟨hi, htab⟩ := Lib.deBruijn64_at _ hk
  have c1 := ht _ hi
  rw [htab] at c1
  exact tz_core x _ _ w (by simp; omega) (tz_key x hx h0) hi hk c1

theorem spec_idx (c : UInt8) : decide (0 ≤ firstIdx ⟨#[40, 41, 91, 93, 124, 42, 43, 63, 46, 92]⟩ c) = isSpec c := by
  have h : ∀ n, n < 256 → decide (0 ≤ firstIdx ⟨#[40, 41, 91, 93, 124, 42, 43, 63, 46, 92]⟩ (UInt8.ofNat n)) = isSpec (UInt8.ofNat n) := by decide +kernel
  have := h c.toNat c.toNat_lt
  rwa [UInt8.ofNat_toNat] at this

set_option maxRecDepth 20000 in
set_option maxHeartbeats 1000000 in
theorem isSpecial_any (c : UInt8) (w : World) : Calls Tryz.prog 232 #[.int .u8 c.toNat] w fun e w' => e = .returned (.bool (isSpec c)) ∧ w' = w := by
  have hs := Lib.hid (spec_idx c)
  go_enter Tryz.func232, Tryz.ntmps232
  go_wp2
  rw [run_callFunc_extern Tryz.func239 (by kernel_rfl) (by kernel_rfl) (by kernel_rfl) (e := Extern.BytealgIndexByte.indexByte) (by kernel_rfl), run_indexByte_string]
  simp only [Result.andThen]
  rw [Oper.upon_value]
  go_wp2
  go_ret
  refine ⟨?_, rfl⟩
  rw [← hs.out]
  simp

end Go.Proofs.YtcngifkoopcmeaaGreatDoor
namespace Go.Proofs.YtcngifkoopcmeaaGreatDoor
open Go.RowKit

def plCells (p : Pl) : List Value := [.int .u64 (p.W 0 : Int), .int .u64 (p.W 1 : Int), .int .u64 (p.W 2 : Int), .int .u64 (p.W 3 : Int), .int .u64 (p.nx : Int)]
def cellsPl (pl : List Pl) : List Value := pl.flatMap plCells

theorem cellsPl_cons (p : Pl) (r : List Pl) : cellsPl (p :: r) = plCells p ++ cellsPl r := rfl
theorem plCells_len (p : Pl) : (plCells p).length = 5 := rfl
theorem cellsPl_len : ∀ pl : List Pl, (cellsPl pl).length = pl.length * 5
  | [] => rfl
  | p :: r => by
    rw [cellsPl_cons, List.length_append, cellsPl_len r, plCells_len, List.length_cons]
    omega
theorem cellsPl_append (a b : List Pl) : cellsPl (a ++ b) = cellsPl a ++ cellsPl b := List.flatMap_append
theorem cellsPl_get : ∀ (pl : List Pl) (i : Nat) (hi : i < pl.length) (j : Nat), j < 5 → (cellsPl pl)[i * 5 + j]? = (plCells pl[i])[j]?
  | p :: r, 0, _, j, hj => by
    rw [cellsPl_cons, List.getElem?_append_left (by rw [plCells_len]; omega)]
    simp
  | p :: r, i + 1, hi, j, hj => by
    have := cellsPl_get r i (by simpa using hi) j hj
    rw [cellsPl_cons, List.getElem?_append_right (by rw [plCells_len]; omega), plCells_len, show (i + 1) * 5 + j - 5 = i * 5 + j by omega, this]
    rfl
theorem plCells_one {p : Pl} {u : Value} (h : u ∈ plCells p) : u.oneCell' = true := by
  simp only [plCells, List.mem_cons, List.not_mem_nil, or_false] at h
  rcases h with rfl | rfl | rfl | rfl | rfl <;> rfl
theorem cellsPl_set : ∀ (pl : List Pl) (i : Nat) (hi : i < pl.length) (x : Nat), (cellsPl pl).set (i * 5 + 4) (.int .u64 (x : Int)) = cellsPl (pl.set i { pl[i] with nx := x })
  | p :: r, 0, _, x => rfl
  | p :: r, i + 1, hi, x => by
    have := cellsPl_set r i (by simpa using hi) x
    rw [cellsPl_cons, List.set_append, if_neg (by rw [plCells_len]; omega), plCells_len, show (i + 1) * 5 + 4 - 5 = i * 5 + 4 by omega, this]
    rfl

/-- The places, in memory from block B on. -/
def OwnPl (w : World) (B : Nat) (v : Value) (pl : List Pl) : Prop := w.ownsRow B 262 5 v pl.length (cellsPl pl)
theorem infoPlace : (Tryz.prog.info? 262).map (fun i => (i.zero, i.size, i.bytes)) = some (some (.agg #[.int .u64 0, .int .u64 0, .int .u64 0, .int .u64 0, .int .u64 0]), 5, 40) := by kernel_rfl

theorem OwnPl.form {w : World} {B : Nat} {v : Value} {pl : List Pl} (h : OwnPl w B v pl) : ∃ a c, v = .slice a pl.length c ∧ ∀ q, a = some q → q = ⟨q.block, 0, none⟩ := by
  rcases h.2 with ⟨rfl, h0⟩ | ⟨g, cap, cur, rfl, hg0, hg1, hcap, hmax, hcs, htk⟩
  · exact ⟨none, 0, by rw [h0], fun q hq => by cases hq⟩
  · refine ⟨_, _, rfl, fun q hq => ?_⟩
    obtain rfl := Option.some.inj hq
    rfl
/-- Where there are places they lie somewhere. -/
theorem OwnPl.at {w : World} {B : Nat} {v : Value} {pl : List Pl} (h : OwnPl w B v pl) (hn : 0 < pl.length) : ∃ g c, v = .slice (some ⟨g, 0, none⟩) pl.length c ∧ B ≤ g ∧ g < w.heap.size ∧ (∀ j, w.frozen? ⟨g, j, none⟩ = false) ∧ ∀ i (hi : i < pl.length) j, j < 5 → w.cell? ⟨g, i * 5 + j, none⟩ = (plCells pl[i])[j]? := by
  rcases h.2 with ⟨rfl, h0⟩ | ⟨g, cap, cur, rfl, hg0, hg1, hcap, hmax, hcs, htk⟩
  · omega
  · refine ⟨g, cap, rfl, hg0, (Array.getElem?_eq_some_iff.1 hg1).1, fun j => World.ownsRow.frozenAt h j, fun i hi j hj => ?_⟩
    rw [World.ownsRow.cellAt h _ (by omega), cellsPl_get pl i hi j hj]
theorem OwnPl.store {w : World} {B : Nat} {g n c : Nat} {pl : List Pl} (h : OwnPl w B (.slice (some ⟨g, 0, none⟩) n c) pl) (i : Nat) (hi : i < pl.length) (x : Nat) : OwnPl (w.setCell ⟨g, i * 5 + 4, none⟩ (.int .u64 (x : Int))) B (.slice (some ⟨g, 0, none⟩) n c) (pl.set i { pl[i] with nx := x }) := by
  obtain rfl : n = pl.length := by
    obtain ⟨a, c', hv, -⟩ := h.form
    injection hv
  have := (World.ownsRow.stored h (i * 5 + 4) (.int .u64 (x : Int))).1
  unfold OwnPl
  rw [← cellsPl_set pl i hi x, List.length_set]
  exact this

theorem run_append_pl (ty : TypeId) (w : World) (B : Nat) (v : Value) (pl : List Pl) (hown : OwnPl w B v pl) (g c : Nat) (p : Pl) (hg : ∀ j, j < 5 → w.cell? ⟨g, j, none⟩ = (plCells p)[j]?) (hb : pl.length ≤ 64) (hB : B ≤ w.heap.size) :
    ∃ a' c' w', (Builtin.append_ #[238, 238] ty #[v, .slice (some ⟨g, 0, none⟩) 1 c]).run Tryz.prog w = .ok (.slice a' (pl.length + 1) c') w' ∧ OwnPl w' B (.slice a' (pl.length + 1) c') (pl ++ [p]) ∧ w.grownBy w' v.ownBlock ∧ ((Value.slice a' (pl.length + 1) c').ownBlock = v.ownBlock ∨ (Value.slice a' (pl.length + 1) c').ownBlock = some w.heap.size) := by
  obtain ⟨i0, hi, hi0, hi1, hi2⟩ := info_parts infoPlace
  obtain ⟨v', w', hr, h1, h2, -, h4⟩ := run_append_own_at (P := Tryz.prog) w B 238 ty 262 i0 _ 5 40 Tryz.underlying238 hi hi0 hi1 hi2 rfl (by decide) v pl.length (cellsPl pl) hown ⟨g, 0, none⟩ 1 c (plCells p) rfl (fun j u hj => by
    have hj5 : j < 5 := (List.getElem?_eq_some_iff.1 hj).1
    rw [Go.WideShapes.add_plain, Nat.zero_add, hg j hj5, hj]) (fun u hu => plCells_one hu) (by unfold maxLen; omega) (by omega) hB
  have h3 : OwnPl w' B v' (pl ++ [p]) := by
    unfold OwnPl
    rw [cellsPl_append, List.length_append]
    simpa [cellsPl] using h1
  obtain ⟨a', c', hv, -⟩ := h3.form
  rw [List.length_append, List.length_singleton] at hv
  subst hv
  exact ⟨a', c', w', hr, h3, h2, h4⟩

/-- append, at a step of a region that draws its order. -/
theorem step_append_pl {w : World} {ops : Array Oper} {o : Oper} {act : Act} {K : Act → World → Prop} {Q : Exit → Act → World → Prop} {E : Prop} (hgd : o.guard = none) (s x : Operand)
    (ho : o.op = .call { callee := .builtin .append, args := #[s, x], argTypes := #[238, 238] }) (B : Nat) (v : Value) (pl : List Pl) (hs : act.eval s = v) (hown : OwnPl w B v pl)
    (g c : Nat) (p : Pl) (hx : act.eval x = .slice (some ⟨g, 0, none⟩) 1 c) (hg : ∀ j, j < 5 → w.cell? ⟨g, j, none⟩ = (plCells p)[j]?) (hb : pl.length ≤ 64) (hB : B ≤ w.heap.size)
    (h : ∀ a' c' w', OwnPl w' B (.slice a' (pl.length + 1) c') (pl ++ [p]) → w.grownBy w' v.ownBlock → ((Value.slice a' (pl.length + 1) c').ownBlock = v.ownBlock ∨ (Value.slice a' (pl.length + 1) c').ownBlock = some w.heap.size) → K (act.put o.dst (.slice a' (pl.length + 1) c')) w') :
    if Region.wanted o (yielded ops act.tmps) = true then Oper.wp Tryz.prog o act w K Q else E := by
  have hw : Region.wanted o (yielded ops act.tmps) = true := by simp [Region.wanted, hgd]
  rw [if_pos hw]
  obtain ⟨a', c', w', hr, h2, h3, h4⟩ := run_append_pl o.type w B v pl hown g c p hg hb hB
  unfold Oper.wp execOp
  simp only [ho, resolve, invoke, builtin, Sem.run_bind, Sem.run_pure, Result.andThen_ok, List.map_toArray, List.map_cons, List.map_nil, hs, hx, hr]
  exact h a' c' w' h2 h3 h4

theorem cell_heap {w : World} {b j : Nat} {cs : Array Value} {t : TypeId} {fr : Nat × Nat} (h : w.heap[b]? = some (.cells cs t fr)) : w.cell? ⟨b, j, none⟩ = cs[j]? := by simp [World.cell?, h]

/-- A pattern's block. -/
def RxBlk (w : World) (xb : Nat) (v : Value) (P : Pc) : Prop := w.heap[xb]? = some (.cells #[v, .int .u64 (P.first : Int), .int .u64 (P.last : Int), .bool P.empty] 240 (0, 0))

theorem RxBlk.cell0 {w : World} {xb : Nat} {v : Value} {P : Pc} (h : RxBlk w xb v P) : w.cell? ⟨xb, 0, none⟩ = some v := by unfold RxBlk at h; simp [World.cell?, h]
theorem RxBlk.cell1 {w : World} {xb : Nat} {v : Value} {P : Pc} (h : RxBlk w xb v P) : w.cell? ⟨xb, 1, none⟩ = some (.int .u64 (P.first : Int)) := by unfold RxBlk at h; simp [World.cell?, h]
theorem RxBlk.cell2 {w : World} {xb : Nat} {v : Value} {P : Pc} (h : RxBlk w xb v P) : w.cell? ⟨xb, 2, none⟩ = some (.int .u64 (P.last : Int)) := by unfold RxBlk at h; simp [World.cell?, h]
theorem RxBlk.cell3 {w : World} {xb : Nat} {v : Value} {P : Pc} (h : RxBlk w xb v P) : w.cell? ⟨xb, 3, none⟩ = some (.bool P.empty) := by unfold RxBlk at h; simp [World.cell?, h]
theorem RxBlk.frozen {w : World} {xb : Nat} {v : Value} {P : Pc} (h : RxBlk w xb v P) (i : Nat) : w.frozen? ⟨xb, i, none⟩ = false := by unfold RxBlk at h; simp [World.frozen?, h]
theorem RxBlk.lt {w : World} {xb : Nat} {v : Value} {P : Pc} (h : RxBlk w xb v P) : xb < w.heap.size := (Array.getElem?_eq_some_iff.1 h).1
theorem RxBlk.set0 {w : World} {xb : Nat} {v : Value} {P : Pc} (h : RxBlk w xb v P) (v' : Value) : RxBlk (w.setCell ⟨xb, 0, none⟩ v') xb v' P := by
  unfold RxBlk at h ⊢; simp [World.setCell, Array.getElem?_modify, h]
theorem RxBlk.chg {S : Nat → Prop} {w w' : World} {xb : Nat} {v : Value} {P : Pc} (h : RxBlk w xb v P) (hc : Chg S w w') (hn : ¬ S xb) : RxBlk w' xb v P := (hc.block xb h.lt hn).trans h

/-- A word that is good. -/
def GoodPl (p : Pl) : Prop := (∀ i, i < 4 → p.W i < 18446744073709551616) ∧ p.nx < 18446744073709551616

/-- A pattern that is being read: its block, and its places. -/
structure Rx (w : World) (B xb : Nat) (v : Value) (P : Pc) (pl : List Pl) : Prop where
  blk : RxBlk w xb v P
  own : OwnPl w B v pl
  apart : v.ownBlock ≠ some xb
  good : ∀ p ∈ pl, GoodPl p
  lim : pl.length ≤ 64
  le : B ≤ xb

theorem Rx.drew {w : World} {B xb : Nat} {v : Value} {P : Pc} {pl : List Pl} (h : Rx w B xb v P pl) : Rx w.drew B xb v P pl := ⟨h.blk, h.own, h.apart, h.good, h.lim, h.le⟩
theorem Rx.drewN {w : World} {B xb : Nat} {v : Value} {P : Pc} {pl : List Pl} (h : Rx w B xb v P pl) (n : Nat) : Rx (w.drewN n) B xb v P pl := ⟨h.blk, h.own, h.apart, h.good, h.lim, h.le⟩
/-- What the reading of a pattern may turn: its block, and the places. -/
def Mine (xb : Nat) (v : Value) : Nat → Prop := fun k => k = xb ∨ some k = v.ownBlock

/-- The places lie where they lay, or in a new block. -/
def Moved (w : World) (v v' : Value) : Prop := v'.ownBlock = v.ownBlock ∨ ∀ k, v'.ownBlock = some k → w.heap.size ≤ k
theorem Moved.refl (w : World) (v : Value) : Moved w v v := .inl rfl
theorem Moved.trans {w w1 : World} {v v1 v2 : Value} (h : Moved w v v1) (hs : w.heap.size ≤ w1.heap.size) (h1 : Moved w1 v1 v2) : Moved w v v2 := by
  rcases h1 with h1 | h1
  · rcases h with h | h
    · exact .inl (h1.trans h)
    · exact .inr fun k hk => h k (h1.symm.trans hk)
  · exact .inr fun k hk => Nat.le_trans hs (h1 k hk)

theorem Rx.chg {S : Nat → Prop} {w w' : World} {B xb : Nat} {v : Value} {P : Pc} {pl : List Pl} (h : Rx w B xb v P pl) (hc : Chg S w w') (hx : ¬ S xb) (hv : ∀ k, v.ownBlock = some k → ¬ S k) : Rx w' B xb v P pl := by
  refine ⟨h.blk.chg hc hx, ?_, h.apart, h.good, h.lim, h.le⟩
  refine ⟨h.own.1, ?_⟩
  rcases h.own.2 with h1 | ⟨g, cap, cur, rfl, hg0, hg1, h2⟩
  · exact .inl h1
  · exact .inr ⟨g, cap, cur, rfl, hg0, (hc.block g (Array.getElem?_eq_some_iff.1 hg1).1 (hv g rfl)).trans hg1, h2⟩

theorem place_end {B xb : Nat} {v v' : Value} {P : Pc} {pl : List Pl} {W : Nat → Nat} {w W3 w' : World} {x0 x1 x2 : Value} (h : Rx w B xb v P pl) (hW : ∀ i, i < 4 → W i < 18446744073709551616) (hl : pl.length < 64) (hb3 : Below w.heap.size w W3) (hsz : W3.heap.size = w.heap.size + 1 + 1 + 1)
    (ho' : OwnPl w' B v' (pl ++ [⟨W, 0⟩])) (hg' : W3.grownBy w' v.ownBlock) (hm' : v'.ownBlock = v.ownBlock ∨ v'.ownBlock = some W3.heap.size) :
    Rx ((((w'.setCell ⟨xb, 0, none⟩ v').setCell ⟨w.heap.size + 1, 0, none⟩ x0).setCell ⟨w.heap.size + 1, 1, none⟩ x1).setCell ⟨w.heap.size + 1, 2, none⟩ x2) B xb v' P (pl ++ [⟨W, 0⟩]) ∧
    Chg (Mine xb v) w ((((w'.setCell ⟨xb, 0, none⟩ v').setCell ⟨w.heap.size + 1, 0, none⟩ x0).setCell ⟨w.heap.size + 1, 1, none⟩ x1).setCell ⟨w.heap.size + 1, 2, none⟩ x2) ∧ Moved w v v' := by
  have hxl := h.blk.lt
  have hvl : ∀ k, v.ownBlock = some k → k < w.heap.size := fun k hk => (h.own.lt k hk).2
  have hs1 := hg'.size
  have e1 : w'.heap[xb]? = w.heap[xb]? := (hg'.block xb (by omega) h.apart.symm).trans (hb3.block xb hxl)
  have hblk : RxBlk w' xb v P := e1.trans h.blk
  have hg2 := xgrown_setCell w' xb 0 v'
  have hm1 : v'.ownBlock ≠ some xb := by
    rcases hm' with e | e
    · rw [e]; exact h.apart
    · rw [e, hsz]; simp; omega
  have hm2 : v'.ownBlock ≠ some (w.heap.size + 1) := by
    rcases hm' with e | e
    · rw [e]; intro e; have := hvl _ e; omega
    · rw [e, hsz]; simp; omega
  have hr : (w'.setCell ⟨xb, 0, none⟩ v').grownBy ((((w'.setCell ⟨xb, 0, none⟩ v').setCell ⟨w.heap.size + 1, 0, none⟩ x0).setCell ⟨w.heap.size + 1, 1, none⟩ x1).setCell ⟨w.heap.size + 1, 2, none⟩ x2) (some (w.heap.size + 1)) := xgrown_trans (xgrown_trans (xgrown_setCell _ _ _ _) (xgrown_setCell _ _ _ _)) (xgrown_setCell _ _ _ _)
  have hx2 : RxBlk (w'.setCell ⟨xb, 0, none⟩ v') xb v' P := hblk.set0 v'
  have ho2 := (ho'.kept hg2 (.inr hm1)).kept hr (.inr hm2)
  refine ⟨⟨(hr.block xb hx2.lt (by simp; omega)).trans hx2, ho2, hm1, ?_, by simp; omega, h.le⟩, ?_, ?_⟩
  · intro p hp
    rcases List.mem_append.1 hp with hp | hp
    · exact h.good p hp
    · simp only [List.mem_singleton] at hp
      subst hp
      exact ⟨hW, by show 0 < _; omega⟩
  · refine ⟨by rw [hr.os, hg2.os, hg'.os, hb3.os], by rw [hr.tape, hg2.tape, hg'.tape, hb3.tape], by rw [hr.output, hg2.output, hg'.output, hb3.output], by have := hr.size; have := hg2.size; omega, fun k hk hn => ?_⟩
    have n1 : k ≠ xb := fun e => hn (.inl e)
    have n2 : some k ≠ v.ownBlock := fun e => hn (.inr e)
    have h1 := hr.block k (by have := hg2.size; omega) (by simp; omega)
    have h2 := hg2.block k (by omega) (by simpa using n1)
    have h3 := hg'.block k (by omega) n2
    exact h1.trans (h2.trans (h3.trans (hb3.block k hk)))
  · rcases hm' with e | e
    · exact .inl e
    · exact .inr fun k hk => by rw [e, hsz] at hk; simp at hk; omega

set_option maxHeartbeats 1000000 in
theorem place_any (B xb : Nat) (v : Value) (P : Pc) (pl : List Pl) (W : Nat → Nat) (w : World) (h : Rx w B xb v P pl) (hW : ∀ i, i < 4 → W i < 18446744073709551616) (hl : pl.length < 64) :
    Calls Tryz.prog 229 #[.pointer (some ⟨xb, 0, none⟩), .agg #[.int .u64 (W 0 : Int), .int .u64 (W 1 : Int), .int .u64 (W 2 : Int), .int .u64 (W 3 : Int)]] w fun e w' => e = .returned (.agg #[.int .u64 ((2 ^ pl.length : Nat) : Int), .int .u64 ((2 ^ pl.length : Nat) : Int), .bool false]) ∧ ∃ v', Rx w' B xb v' P (pl ++ [⟨W, 0⟩]) ∧ Chg (Mine xb v) w w' ∧ Moved w v v' := by
  obtain ⟨a, c, hv, hq⟩ := h.own.form
  have hxl := h.blk.lt
  have c0 := h.blk.cell0
  have f0 := h.blk.frozen 0
  rw [hv] at c0
  have hll : (pl.length : Int) < 64 := by omega
  go_enter Tryz.func229, Tryz.ntmps229
  have hB : B ≤ w.heap.size := by have := h.le; omega
  have hsz : (((w.alloc (.cells #[.int .u64 (W 0 : Int), .int .u64 (W 1 : Int), .int .u64 (W 2 : Int), .int .u64 (W 3 : Int)] 260)).alloc (.cells #[.int .u64 0, .int .u64 0, .bool false] 237)).alloc (.cells #[.int .u64 (W 0 : Int), .int .u64 (W 1 : Int), .int .u64 (W 2 : Int), .int .u64 (W 3 : Int), .int .u64 0] 262)).heap.size = w.heap.size + 1 + 1 + 1 := by simp
  have hb3 : Below w.heap.size w (((w.alloc (.cells #[.int .u64 (W 0 : Int), .int .u64 (W 1 : Int), .int .u64 (W 2 : Int), .int .u64 (W 3 : Int)] 260)).alloc (.cells #[.int .u64 0, .int .u64 0, .bool false] 237)).alloc (.cells #[.int .u64 (W 0 : Int), .int .u64 (W 1 : Int), .int .u64 (W 2 : Int), .int .u64 (W 3 : Int), .int .u64 0] 262)) := (((Below.refl _ _).alloc (Nat.le_refl _) _).alloc (by simp) _).alloc (by simp; omega) _
  have hown : OwnPl (((w.alloc (.cells #[.int .u64 (W 0 : Int), .int .u64 (W 1 : Int), .int .u64 (W 2 : Int), .int .u64 (W 3 : Int)] 260)).alloc (.cells #[.int .u64 0, .int .u64 0, .bool false] 237)).alloc (.cells #[.int .u64 (W 0 : Int), .int .u64 (W 1 : Int), .int .u64 (W 2 : Int), .int .u64 (W 3 : Int), .int .u64 0] 262)) B (.slice a pl.length c) pl := by rw [← hv]; exact ((h.own.alloc _).alloc _).alloc _
  have hnew : ∀ j, j < 5 → (((w.alloc (.cells #[.int .u64 (W 0 : Int), .int .u64 (W 1 : Int), .int .u64 (W 2 : Int), .int .u64 (W 3 : Int)] 260)).alloc (.cells #[.int .u64 0, .int .u64 0, .bool false] 237)).alloc (.cells #[.int .u64 (W 0 : Int), .int .u64 (W 1 : Int), .int .u64 (W 2 : Int), .int .u64 (W 3 : Int), .int .u64 0] 262)).cell? ⟨w.heap.size + 1 + 1, j, none⟩ = (plCells ⟨W, 0⟩)[j]? := fun j hj => by
    have h1 := heap_new ((w.alloc (.cells #[.int .u64 (W 0 : Int), .int .u64 (W 1 : Int), .int .u64 (W 2 : Int), .int .u64 (W 3 : Int)] 260)).alloc (.cells #[.int .u64 0, .int .u64 0, .bool false] 237)) (.cells #[.int .u64 (W 0 : Int), .int .u64 (W 1 : Int), .int .u64 (W 2 : Int), .int .u64 (W 3 : Int), .int .u64 0] 262)
    rw [World.size_alloc, World.size_alloc] at h1
    rw [cell_heap h1]
    match j, hj with
    | 0, _ => rfl
    | 1, _ => rfl
    | 2, _ => rfl
    | 3, _ => rfl
    | 4, _ => rfl
  have hres : (((w.alloc (.cells #[.int .u64 (W 0 : Int), .int .u64 (W 1 : Int), .int .u64 (W 2 : Int), .int .u64 (W 3 : Int)] 260)).alloc (.cells #[.int .u64 0, .int .u64 0, .bool false] 237)).alloc (.cells #[.int .u64 (W 0 : Int), .int .u64 (W 1 : Int), .int .u64 (W 2 : Int), .int .u64 (W 3 : Int), .int .u64 0] 262)).heap[w.heap.size + 1]? = some (.cells #[.int .u64 0, .int .u64 0, .bool false] 237) := by
    have h1 := heap_new (w.alloc (.cells #[.int .u64 (W 0 : Int), .int .u64 (W 1 : Int), .int .u64 (W 2 : Int), .int .u64 (W 3 : Int)] 260)) (.cells #[.int .u64 0, .int .u64 0, .bool false] 237)
    rw [World.size_alloc] at h1
    exact (Below.heap_alloc _ _ _ (by simp)).trans h1
  generalize hW3 : ((w.alloc (.cells #[.int .u64 (W 0 : Int), .int .u64 (W 1 : Int), .int .u64 (W 2 : Int), .int .u64 (W 3 : Int)] 260)).alloc (.cells #[.int .u64 0, .int .u64 0, .bool false] 237)).alloc (.cells #[.int .u64 (W 0 : Int), .int .u64 (W 1 : Int), .int .u64 (W 2 : Int), .int .u64 (W 3 : Int), .int .u64 0] 262) = W3 at hsz hb3 hown hnew hres
  have hne : some xb ≠ (Value.slice a pl.length c).ownBlock := by rw [← hv]; exact h.apart.symm
  have hcell : ∀ w', W3.drew.grownBy w' (Value.slice a pl.length c).ownBlock → w'.cell? ⟨xb, 0, none⟩ = some (.slice a pl.length c) ∧ w'.frozen? ⟨xb, 0, none⟩ = false := fun w' hg => by
    have e : w'.heap[xb]? = w.heap[xb]? := (hg.block xb (by show xb < W3.heap.size; omega) hne).trans (hb3.block xb hxl)
    exact ⟨(World.cell?_of_block (a := ⟨xb, 0, none⟩) e).trans c0, (World.frozen?_of_block (a := ⟨xb, 0, none⟩) e).trans f0⟩
  subst hW3
  have HA := Lib.hid (And.intro hsz (And.intro hb3 (And.intro hres hne)))
  have HO := Lib.hid hown
  have HN := Lib.hid hnew
  have HC := Lib.hid hcell
  clear hsz hb3 hres hne hown hnew hcell
  have hx1 : xb < w.heap.size + 1 := by omega
  have hx2 : xb < w.heap.size + 1 + 1 := by omega
  go_wp2
  go_region_law (refine step_append_pl (by rfl) _ _ (by rfl) B (.slice a pl.length c) pl (by rfl) (by exact HO.out) _ _ ⟨W, 0⟩ (by rfl) (by exact HN.out) (by omega) (by simp; omega) ?_; intro a' c' w' ho' hg' hm'; obtain ⟨c0', f0'⟩ := HC.out w' hg')
  all_goals
    obtain ⟨hsz, hb3, hres, hne⟩ := HA.out
    have hr2 : w'.heap[w.heap.size + 1]? = some (.cells #[.int .u64 0, .int .u64 0, .bool false] 237) := (hg'.block (w.heap.size + 1) (by first | (simp; done) | (simp; omega)) (fun e => by have := (h.own.lt (w.heap.size + 1) (by rw [hv]; exact e.symm)).2; omega)).trans hres
    have d0 : w'.cell? ⟨w.heap.size + 1, 0, none⟩ = some (.int .u64 0) := cell_heap hr2
    have d1 : w'.cell? ⟨w.heap.size + 1, 1, none⟩ = some (.int .u64 0) := cell_heap hr2
    have d2 : w'.cell? ⟨w.heap.size + 1, 2, none⟩ = some (.bool false) := cell_heap hr2
    have hfz : ∀ i, w'.frozen? ⟨w.heap.size + 1, i, none⟩ = false := fun i => by simp [World.frozen?, hr2]
    have f0 := hfz 0
    have f1 := hfz 1
    have f2 := hfz 2
    have HF := Lib.hid (And.intro hsz hb3)
    clear hsz hb3 hres hne hr2 hfz HA
    go_wp2
    obtain ⟨hsz, hb3⟩ := HF.out
    have hend := place_end (x0 := .int .u64 ((2 ^ pl.length : Nat) : Int)) (x1 := .int .u64 ((2 ^ pl.length : Nat) : Int)) (x2 := .bool false) h hW hl hb3 hsz ho' (by rw [hv]; exact ⟨hg'.os, hg'.tape, hg'.output, hg'.size, hg'.block⟩) (by rw [hv]; exact hm')
    rw [wrap_pow hl]
    refine bodyPost_ret (v := .agg #[.int .u64 ((2 ^ pl.length : Nat) : Int), .int .u64 ((2 ^ pl.length : Nat) : Int), .bool false]) (by simp [results, Tryz.results229, go_sem, d0, d1, d2]) rfl ⟨rfl, _, hend⟩

end Go.Proofs.YtcngifkoopcmeaaGreatDoor
