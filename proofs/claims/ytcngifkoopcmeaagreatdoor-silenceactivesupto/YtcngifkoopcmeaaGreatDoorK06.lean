/-
  What link does to the places, and join, repeat, either and maybe with pieces. The state of the reading of a pattern, and what a call that reads some of it must come to.
-/
import Derived.Test.YtcngifkoopcmeaaGreatDoorK05
namespace Go.Proofs.YtcngifkoopcmeaaGreatDoor
open Go.RowKit

/-- Some of the links are made. -/
def linkS (pl : List Pl) (fr r to : Nat) : List Pl := pl.mapIdx fun i p => if fr.testBit i = true ∧ r.testBit i = false then { p with nx := p.nx ||| to } else p
theorem linkS_len (pl : List Pl) (fr r to : Nat) : (linkS pl fr r to).length = pl.length := by simp [linkS]
theorem linkS_get (pl : List Pl) (fr r to i : Nat) : (linkS pl fr r to)[i]? = (pl[i]?).map fun p => if fr.testBit i = true ∧ r.testBit i = false then { p with nx := p.nx ||| to } else p := by simp [linkS]
theorem linkS_all (pl : List Pl) (fr to : Nat) : linkS pl fr fr to = pl := by
  apply List.ext_getElem?
  intro i
  rw [linkS_get]
  cases h : pl[i]? with
  | none => rfl
  | some p =>
    rw [Option.map_some, if_neg]
    rintro ⟨h1, h2⟩
    rw [h1] at h2
    cases h2
theorem linkS_none (pl : List Pl) (fr to : Nat) : linkS pl fr 0 to = linkL pl fr to := by
  apply List.ext_getElem?
  intro i
  rw [linkS_get, linkL_get]
  simp
theorem linkS_step {pl : List Pl} {fr r to i : Nat} (hi : i < (linkS pl fr r to).length) (hf : fr.testBit i = true) (hr : r.testBit i = true) (hb : ∀ j, (r &&& (r - 1)).testBit j = true ↔ r.testBit j = true ∧ j ≠ i) : (linkS pl fr r to).set i { (linkS pl fr r to)[i] with nx := (linkS pl fr r to)[i].nx ||| to } = linkS pl fr (r &&& (r - 1)) to := by
  apply List.ext_getElem?
  intro j
  rw [List.getElem?_set]
  have hb2 : ∀ j, (r &&& (r - 1)).testBit j = (r.testBit j && decide (j ≠ i)) := fun j => by rw [Bool.eq_iff_iff, hb]; simp
  by_cases hj : i = j
  · subst hj
    rw [if_pos rfl, if_pos hi, linkS_get, hb2]
    have h1 : (linkS pl fr r to)[i]? = some (linkS pl fr r to)[i] := List.getElem?_eq_getElem hi
    rw [linkS_get] at h1
    obtain ⟨p, hp, he⟩ := Option.map_eq_some_iff.1 h1
    rw [hp, ← he]
    simp [hf, hr]
  · rw [if_neg hj, linkS_get, linkS_get, hb2]
    have hn : j ≠ i := fun e => hj e.symm
    simp [hn]
theorem linkS_good {pl : List Pl} {fr r to : Nat} (h : ∀ p ∈ pl, GoodPl p) (ht : to < 18446744073709551616) : ∀ p ∈ linkS pl fr r to, GoodPl p := by
  intro p hp
  obtain ⟨i, hi⟩ := List.getElem?_of_mem hp
  rw [linkS_get] at hi
  obtain ⟨q, hq, rfl⟩ := Option.map_eq_some_iff.1 hi
  have hg := h q (List.mem_of_getElem? hq)
  split
  · exact ⟨hg.1, or_lt hg.2 ht⟩
  · exact hg

theorem and_pred (x : Nat) (h : x < 18446744073709551616) (h0 : x ≠ 0) : bits BinOp.and IntKind.u64 (x : Int) ((x : Int) - 1) = ((x &&& (x - 1) : Nat) : Int) := by
  rw [show (x : Int) - 1 = ((x - 1 : Nat) : Int) by omega, u64_and_nat _ _ h (by omega)]

theorem Rx.store {w : World} {B xb g n c : Nat} {P : Pc} {pl : List Pl} (h : Rx w B xb (.slice (some ⟨g, 0, none⟩) n c) P pl) (i : Nat) (hi : i < pl.length) (x : Nat) (hx : x < 18446744073709551616) : Rx (w.setCell ⟨g, i * 5 + 4, none⟩ (.int .u64 (x : Int))) B xb (.slice (some ⟨g, 0, none⟩) n c) P (pl.set i { pl[i] with nx := x }) := by
  refine ⟨h.blk.chg (Chg.of_grown (xgrown_setCell _ _ _ _)) (fun e => h.apart (by rw [e]; rfl)), h.own.store i hi x, h.apart, fun p hp => ?_, by rw [List.length_set]; exact h.lim, h.le⟩
  rcases List.mem_or_eq_of_mem_set hp with h1 | h1
  · exact h.good p h1
  · rw [h1]
    exact ⟨(h.good _ (List.getElem_mem hi)).1, hx⟩

set_option maxHeartbeats 2000000 in
theorem link_any (B xb : Nat) (v : Value) (P : Pc) (pl : List Pl) (fr to : Nat) (w : World) (h : Rx w B xb v P pl) (hf : fr < 18446744073709551616) (ht : to < 18446744073709551616) (hb : ∀ i, fr.testBit i = true → i < pl.length) (htab : TabW w) (hB : 4 < B) :
    Calls Tryz.prog 223 #[.pointer (some ⟨xb, 0, none⟩), .int .u64 fr, .int .u64 to] w fun e w' => e = .returned (.tuple #[]) ∧ Rx w' B xb v P (linkL pl fr to) ∧ Chg (fun k => some k = v.ownBlock) w w' := by
  go_enter Tryz.func223, Tryz.ntmps223
  go_wp2
  go_loopw [1] (fun x wr => ∃ r : Nat, x = .int .u64 r ∧ r < 18446744073709551616 ∧ (∀ j, r.testBit j = true → fr.testBit j = true) ∧ Rx wr B xb v P (linkS pl fr r to) ∧ Chg (fun k => some k = v.ownBlock) w wr) (fun x _ => (intOf x).toNat)
  case atStart => exact ⟨fr, rfl, hf, fun j h => h, by rw [linkS_all]; exact h, Chg.refl _ _⟩
  case round =>
    obtain ⟨r, rfl, hr, hsub, hx, hc⟩ := hrel
    by_cases h0 : r = 0
    · subst h0
      go_wp2
      go_end0
      exact ⟨rfl, by rw [← linkS_none]; exact hx, hc⟩
    · obtain ⟨b1, b2, b3, b4⟩ := ctz_bits r h0 hr
      have htr : TabW wr := htab.chg hc (fun e => by have := (h.own.lt _ e.symm).1; omega)
      have HT := Lib.hid (fun w (hw : TabW w) => tz_any r hr h0 w hw)
      have hil : Lib.ctz 64 r < (linkS pl fr r to).length := by rw [linkS_len]; exact hb _ (hsub _ b2)
      have HS := Lib.hid (linkS_step hil (hsub _ b2) b2 b4)
      have HP := Lib.hid (and_pred r hr h0)
      have hne : ((r : Int) != 0) = true := by simpa using h0
      have hgd := linkS_good (fr := fr) (r := r) h.good ht
      generalize Lib.ctz 64 r = i at *
      generalize linkS pl fr r to = q at *
      obtain ⟨g, c, hv, hg1, hg2, hg3, hg4⟩ := hx.own.at (by omega)
      have c0 := hx.blk.cell0
      rw [hv] at c0
      have c4 := hg4 i hil 4 (by omega)
      have f4 := hg3 (i * 5 + 4)
      have hor := Lib.hid (u64_or_nat q[i].nx to (hgd _ (List.getElem_mem hil)).2 ht)
      have hi5 : (i : Int) < (q.length : Int) := by omega
      simp only [plCells, List.getElem?_cons_succ, List.getElem?_cons_zero] at c4
      have HB := Lib.hid (And.intro b3 b4)
      have HSUB := Lib.hid hsub
      have hnx := or_lt (hgd _ (List.getElem_mem hil)).2 ht
      have hst := Lib.hid (Rx.store (hv ▸ hx) i hil _ hnx)
      rw [← hv, HS.out] at hst
      have hst := hst
      clear b2 b3 b4 hg3 hg4 hsub
      go_wp2
      go_region_with (go_at_call 198; refine (HT.out _ (by exact htr)).mono ?_; rintro e w' ⟨rfl, rfl⟩)
      all_goals
        go_wp2
        rw [HP.out, hor.out]
        obtain ⟨b3, b4⟩ := HB.out
        refine ⟨⟨r &&& (r - 1), rfl, by omega, fun j hj => HSUB.out j ((b4 j).1 hj).1, hst.out.drew, ?_⟩, by simp [intOf]; omega⟩
        refine (hc.trans ((Chg.of_grown (xgrown_setCell wr g (i * 5 + 4) _)).mono ?_)).drew
        rintro k - rfl
        rw [hv]
        rfl

theorem either_val (a b : Pc) (ha1 : a.first < 18446744073709551616) (hb1 : b.first < 18446744073709551616) (ha2 : a.last < 18446744073709551616) (hb2 : b.last < 18446744073709551616) (w : World) :
    Calls Tryz.prog 206 #[.agg #[.int .u64 (a.first : Int), .int .u64 (a.last : Int), .bool a.empty], .agg #[.int .u64 (b.first : Int), .int .u64 (b.last : Int), .bool b.empty]] w fun e w' => e = .returned (.agg #[.int .u64 ((eitherP a b).first : Int), .int .u64 ((eitherP a b).last : Int), .bool (eitherP a b).empty]) ∧ Below w.heap.size w w' := by
  obtain ⟨a1, a2, a3⟩ := a
  obtain ⟨b1, b2, b3⟩ := b
  simp only at ha1 hb1 ha2 hb2
  have H1 := Lib.hid (u64_or_nat a1 b1 ha1 hb1)
  have H2 := Lib.hid (u64_or_nat a2 b2 ha2 hb2)
  unfold eitherP
  cases a3
  · go_enter Tryz.func206, Tryz.ntmps206
    go_wp2
    rw [H1.out, H2.out]
    exact bodyPost_ret (v := .agg #[.int .u64 ((a1 ||| b1 : Nat) : Int), .int .u64 ((a2 ||| b2 : Nat) : Int), .bool b3]) (by simp [results, Tryz.results206, go_sem]) rfl ⟨rfl, (by repeat (first | exact Below.refl _ _ | refine Below.drew ?_ | refine Below.alloc ?_ (by first | exact Nat.le_refl _ | (simp; done) | (simp; omega)) _ | refine Below.setCell ?_ (by first | exact Nat.le_refl _ | (simp; done) | (simp; omega)) _))⟩
  · go_enter Tryz.func206, Tryz.ntmps206
    go_wp2
    rw [H1.out, H2.out]
    exact bodyPost_ret (v := .agg #[.int .u64 ((a1 ||| b1 : Nat) : Int), .int .u64 ((a2 ||| b2 : Nat) : Int), .bool true]) (by simp [results, Tryz.results206, go_sem]) rfl ⟨rfl, (by repeat (first | exact Below.refl _ _ | refine Below.drew ?_ | refine Below.alloc ?_ (by first | exact Nat.le_refl _ | (simp; done) | (simp; omega)) _ | refine Below.setCell ?_ (by first | exact Nat.le_refl _ | (simp; done) | (simp; omega)) _))⟩

theorem maybe_val (a : Pc) (w : World) :
    Calls Tryz.prog 225 #[.agg #[.int .u64 (a.first : Int), .int .u64 (a.last : Int), .bool a.empty]] w fun e w' => e = .returned (.agg #[.int .u64 ((maybeP a).first : Int), .int .u64 ((maybeP a).last : Int), .bool (maybeP a).empty]) ∧ Below w.heap.size w w' := by
  obtain ⟨a1, a2, a3⟩ := a
  unfold maybeP
  go_enter Tryz.func225, Tryz.ntmps225
  go_wp2
  exact bodyPost_ret (v := .agg #[.int .u64 (a1 : Int), .int .u64 (a2 : Int), .bool true]) (by simp [results, Tryz.results225, go_sem]) rfl ⟨rfl, (by repeat (first | exact Below.refl _ _ | refine Below.drew ?_ | refine Below.alloc ?_ (by first | exact Nat.le_refl _ | (simp; done) | (simp; omega)) _ | refine Below.setCell ?_ (by first | exact Nat.le_refl _ | (simp; done) | (simp; omega)) _))⟩

/-- A piece in a block of its own. -/
def PcBlk (w : World) (b : Nat) (P : Pc) : Prop := w.heap[b]? = some (.cells #[.int .u64 (P.first : Int), .int .u64 (P.last : Int), .bool P.empty] 237 (0, 0))
theorem PcBlk.c0 {w : World} {b : Nat} {P : Pc} (h : PcBlk w b P) : w.cell? ⟨b, 0, none⟩ = some (.int .u64 (P.first : Int)) := cell_heap h
theorem PcBlk.c1 {w : World} {b : Nat} {P : Pc} (h : PcBlk w b P) : w.cell? ⟨b, 1, none⟩ = some (.int .u64 (P.last : Int)) := cell_heap h
theorem PcBlk.c2 {w : World} {b : Nat} {P : Pc} (h : PcBlk w b P) : w.cell? ⟨b, 2, none⟩ = some (.bool P.empty) := cell_heap h
theorem PcBlk.fz {w : World} {b : Nat} {P : Pc} (h : PcBlk w b P) (i : Nat) : w.frozen? ⟨b, i, none⟩ = false := by unfold PcBlk at h; simp [World.frozen?, h]
theorem PcBlk.lt {w : World} {b : Nat} {P : Pc} (h : PcBlk w b P) : b < w.heap.size := (Array.getElem?_eq_some_iff.1 h).1
theorem PcBlk.chg {S : Nat → Prop} {w w' : World} {b : Nat} {P : Pc} (h : PcBlk w b P) (hc : Chg S w w') (hn : ¬ S b) : PcBlk w' b P := (hc.block b h.lt hn).trans h
theorem PcBlk.below {w w' : World} {b : Nat} {P : Pc} (h : PcBlk w b P) (hb : Below w.heap.size w w') : PcBlk w' b P := (hb.block b h.lt).trans h
theorem pc_made (w : World) (P : Pc) : PcBlk (w.alloc (.cells #[.int .u64 (P.first : Int), .int .u64 (P.last : Int), .bool P.empty] 237)) w.heap.size P := heap_new _ _
theorem PcBlk.sets {w : World} {b : Nat} {P : Pc} (h : PcBlk w b P) (Q : Pc) : PcBlk (((w.setCell ⟨b, 0, none⟩ (.int .u64 (Q.first : Int))).setCell ⟨b, 1, none⟩ (.int .u64 (Q.last : Int))).setCell ⟨b, 2, none⟩ (.bool Q.empty)) b Q := by
  unfold PcBlk at h ⊢; simp [World.setCell, Array.getElem?_modify, h]

theorem chg_sets3 (w : World) (b : Nat) (x0 x1 x2 : Value) : Chg (· = b) w (((w.setCell ⟨b, 0, none⟩ x0).setCell ⟨b, 1, none⟩ x1).setCell ⟨b, 2, none⟩ x2) :=
  Chg.of_grown (xgrown_trans (xgrown_trans (xgrown_setCell _ _ _ _) (xgrown_setCell _ _ _ _)) (xgrown_setCell _ _ _ _))

theorem Chg.new {S : Nat → Prop} {a b c : World} {k : Nat} (h : Chg S a b) (h2 : Chg (· = k) b c) (hk : a.heap.size ≤ k) : Chg S a c :=
  ⟨h2.os.trans h.os, h2.tape.trans h.tape, h2.output.trans h.output, Nat.le_trans h.size h2.size, fun i hi hn => (h2.block i (Nat.lt_of_lt_of_le hi h.size) (by omega)).trans (h.block i hi hn)⟩

theorem Chg.alloc {S : Nat → Prop} {w w' : World} (h : Chg S w w') (o : Obj) : Chg S w (w'.alloc o) := h.trans (Chg.of_below ((Below.refl _ _).alloc (Nat.le_refl _) _))
theorem Rx.below {w w' : World} {B xb : Nat} {v : Value} {P : Pc} {pl : List Pl} (h : Rx w B xb v P pl) (hb : Below w.heap.size w w') : Rx w' B xb v P pl := h.chg (S := fun _ => False) (Chg.of_below hb) (fun h => h) (fun _ _ h => h)
theorem Rx.alloc {w : World} {B xb : Nat} {v : Value} {P : Pc} {pl : List Pl} (h : Rx w B xb v P pl) (o : Obj) : Rx (w.alloc o) B xb v P pl := h.below ((Below.refl _ _).alloc (Nat.le_refl _) _)

/-- A piece boxed, and one for the result. -/
theorem two_pcs (w : World) (a : Pc) (B xb : Nat) (v : Value) (P : Pc) (pl : List Pl) (h : Rx w B xb v P pl) :
    ∃ W, (w.alloc (.cells #[.int .u64 (a.first : Int), .int .u64 (a.last : Int), .bool a.empty] 237)).alloc (.cells #[.int .u64 0, .int .u64 0, .bool false] 237) = W ∧ Below w.heap.size w W ∧ PcBlk W w.heap.size a ∧ PcBlk W (w.heap.size + 1) ⟨0, 0, false⟩ ∧ Rx W B xb v P pl := by
  have hb : Below w.heap.size w ((w.alloc (.cells #[.int .u64 (a.first : Int), .int .u64 (a.last : Int), .bool a.empty] 237)).alloc (.cells #[.int .u64 0, .int .u64 0, .bool false] 237)) := ((Below.refl _ _).alloc (Nat.le_refl _) _).alloc (by simp) _
  refine ⟨_, rfl, hb, (pc_made w a).below ((Below.refl _ _).alloc (Nat.le_refl _) _), ?_, h.chg (S := fun _ => False) (Chg.of_below hb) (fun h => h) (fun _ _ h => h)⟩
  have := pc_made (w.alloc (.cells #[.int .u64 (a.first : Int), .int .u64 (a.last : Int), .bool a.empty] 237)) ⟨0, 0, false⟩
  rw [World.size_alloc] at this
  exact this

set_option maxHeartbeats 1000000 in
theorem repeat_any (B xb : Nat) (v : Value) (P : Pc) (pl : List Pl) (a : Pc) (w : World) (h : Rx w B xb v P pl) (h1 : a.first < 18446744073709551616) (h2 : a.last < 18446744073709551616) (hb : ∀ i, a.last.testBit i = true → i < pl.length) (htab : TabW w) (hB : 4 < B) :
    Calls Tryz.prog 226 #[.pointer (some ⟨xb, 0, none⟩), .agg #[.int .u64 (a.first : Int), .int .u64 (a.last : Int), .bool a.empty]] w fun e w' => e = .returned (.agg #[.int .u64 (a.first : Int), .int .u64 (a.last : Int), .bool a.empty]) ∧ Rx w' B xb v P (linkL pl a.last a.first) ∧ Chg (fun k => some k = v.ownBlock) w w' := by
  have hxl := h.blk.lt
  have hvl := h.own.lt
  have hlt := htab.lt
  obtain ⟨W, hW, hbW, hpa, hpr, hx⟩ := two_pcs w a B xb v P pl h
  have HL := Lib.hid (link_any B xb v P pl a.last a.first W hx h2 h1 hb (htab.on hbW hlt) hB)
  subst hW
  go_enter Tryz.func226, Tryz.ntmps226
  go_wp2_with (go_at_call 223; refine HL.out.mono ?_; rintro e w3 ⟨rfl, hx3, hc3⟩; refine Hid.out ?_)
  refine Lib.hid ?_
  have hpa3 := hpa.chg hc3 (fun e => by have := (hvl _ e.symm).2; omega)
  have hpr3 := hpr.chg hc3 (fun e => by have := (hvl _ e.symm).2; omega)
  have a0 := hpa3.c0
  have a1 := hpa3.c1
  have a2 := hpa3.c2
  have r0 := hpr3.c0
  have r1 := hpr3.c1
  have r2 := hpr3.c2
  have f0 := hpr3.fz 0
  have f1 := hpr3.fz 1
  have f2 := hpr3.fz 2
  have hc4 : Chg (fun k => some k = v.ownBlock) w w3 := (Chg.of_below hbW).trans hc3
  clear hpa3 hpr3 hpa hpr hx HL
  go_wp2
  refine bodyPost_ret (v := .agg #[.int .u64 (a.first : Int), .int .u64 (a.last : Int), .bool a.empty]) (by simp [results, Tryz.results226, go_sem, r0, r1, r2]) rfl ⟨rfl, ?_, hc4.new (chg_sets3 w3 (w.heap.size + 1) _ _ _) (by omega)⟩
  exact hx3.chg (chg_sets3 w3 (w.heap.size + 1) _ _ _) (by omega) (fun k hk e => by have := (hvl _ hk).2; omega)

/-- Two pieces boxed, and one for the result. -/
theorem three_pcs (w : World) (a b : Pc) (B xb : Nat) (v : Value) (P : Pc) (pl : List Pl) (h : Rx w B xb v P pl) :
    ∃ W, ((w.alloc (.cells #[.int .u64 (a.first : Int), .int .u64 (a.last : Int), .bool a.empty] 237)).alloc (.cells #[.int .u64 (b.first : Int), .int .u64 (b.last : Int), .bool b.empty] 237)).alloc (.cells #[.int .u64 0, .int .u64 0, .bool false] 237) = W ∧ Below w.heap.size w W ∧ PcBlk W w.heap.size a ∧ PcBlk W (w.heap.size + 1) b ∧ PcBlk W (w.heap.size + 1 + 1) ⟨0, 0, false⟩ ∧ Rx W B xb v P pl ∧ W.heap.size = w.heap.size + 1 + 1 + 1 := by
  have hb : Below w.heap.size w (((w.alloc (.cells #[.int .u64 (a.first : Int), .int .u64 (a.last : Int), .bool a.empty] 237)).alloc (.cells #[.int .u64 (b.first : Int), .int .u64 (b.last : Int), .bool b.empty] 237)).alloc (.cells #[.int .u64 0, .int .u64 0, .bool false] 237)) := (((Below.refl _ _).alloc (Nat.le_refl _) _).alloc (by simp) _).alloc (by simp; omega) _
  have h2 := pc_made (w.alloc (.cells #[.int .u64 (a.first : Int), .int .u64 (a.last : Int), .bool a.empty] 237)) b
  rw [World.size_alloc] at h2
  have h3 := pc_made ((w.alloc (.cells #[.int .u64 (a.first : Int), .int .u64 (a.last : Int), .bool a.empty] 237)).alloc (.cells #[.int .u64 (b.first : Int), .int .u64 (b.last : Int), .bool b.empty] 237)) ⟨0, 0, false⟩
  rw [World.size_alloc, World.size_alloc] at h3
  exact ⟨_, rfl, hb, ((pc_made w a).below ((Below.refl _ _).alloc (Nat.le_refl _) _)).below ((Below.refl _ _).alloc (Nat.le_refl _) _), h2.below ((Below.refl _ _).alloc (Nat.le_refl _) _), h3, h.chg (S := fun _ => False) (Chg.of_below hb) (fun h => h) (fun _ _ h => h), by simp⟩

set_option maxHeartbeats 2000000 in
theorem join_any (B xb : Nat) (v : Value) (P : Pc) (pl : List Pl) (a b : Pc) (w : World) (h : Rx w B xb v P pl) (h1 : a.first < 18446744073709551616) (h2 : a.last < 18446744073709551616) (h3 : b.first < 18446744073709551616) (h4 : b.last < 18446744073709551616) (hb : ∀ i, a.last.testBit i = true → i < pl.length) (htab : TabW w) (hB : 4 < B) :
    Calls Tryz.prog 219 #[.pointer (some ⟨xb, 0, none⟩), .agg #[.int .u64 (a.first : Int), .int .u64 (a.last : Int), .bool a.empty], .agg #[.int .u64 (b.first : Int), .int .u64 (b.last : Int), .bool b.empty]] w fun e w' => e = .returned (.agg #[.int .u64 ((joinP a b).first : Int), .int .u64 ((joinP a b).last : Int), .bool (joinP a b).empty]) ∧ Rx w' B xb v P (linkL pl a.last b.first) ∧ Chg (fun k => some k = v.ownBlock) w w' := by
  have hxl := h.blk.lt
  have hvl := h.own.lt
  have hlt := htab.lt
  obtain ⟨W, hW, hbW, hpa, hpb, hpr, hx, hsz⟩ := three_pcs w a b B xb v P pl h
  have HL := Lib.hid (link_any B xb v P pl a.last b.first W hx h2 h3 hb (htab.on hbW hlt) hB)
  subst hW
  go_enter Tryz.func219, Tryz.ntmps219
  go_wp2_with (go_at_call 223; refine HL.out.mono ?_; rintro e w3 ⟨rfl, hx3, hc3⟩; refine Hid.out ?_)
  refine Lib.hid ?_
  have hpa3 := hpa.chg hc3 (fun e => by have := (hvl _ e.symm).2; omega)
  have hpb3 := hpb.chg hc3 (fun e => by have := (hvl _ e.symm).2; omega)
  have hpr3 := hpr.chg hc3 (fun e => by have := (hvl _ e.symm).2; omega)
  have hs3 : w.heap.size + 1 + 1 < w3.heap.size := by have := hc3.size; omega
  have a0 := hpa3.c0
  have a1 := hpa3.c1
  have a2 := hpa3.c2
  have b0 := hpb3.c0
  have b1 := hpb3.c1
  have b2 := hpb3.c2
  have r0 := hpr3.c0
  have r1 := hpr3.c1
  have r2 := hpr3.c2
  have f0 := hpr3.fz 0
  have f1 := hpr3.fz 1
  have f2 := hpr3.fz 2
  have hc4 : Chg (fun k => some k = v.ownBlock) w w3 := (Chg.of_below hbW).trans hc3
  have n0 : w.heap.size < w3.heap.size := by omega
  have n1 : w.heap.size + 1 < w3.heap.size := by omega
  clear hpa3 hpr3 hpa hpb hpb3 hpr hx HL hsz hbW
  have HO1 := Lib.hid (u64_or_nat a.first b.first h1 h3)
  have HO2 := Lib.hid (u64_or_nat b.last a.last h4 h2)
  obtain ⟨A1, A2, A3⟩ := a
  obtain ⟨B1, B2, B3⟩ := b
  simp only at *
  cases A3
  · cases B3
    · go_wp2
      refine bodyPost_ret (v := .agg #[.int .u64 ((A1 : Nat) : Int), .int .u64 ((B2 : Nat) : Int), .bool false]) (by simp [results, Tryz.results219, go_sem, r0, r1, r2, hs3]) rfl ⟨rfl, ?_, (hc4.new (chg_sets3 w3 (w.heap.size + 1 + 1) _ _ _) (by omega)).alloc _⟩
      exact (hx3.chg (chg_sets3 w3 (w.heap.size + 1 + 1) _ _ _) (by omega) (fun k hk e => by have := (hvl _ hk).2; omega)).alloc _
    · go_wp2
      rw [HO2.out]
      refine bodyPost_ret (v := .agg #[.int .u64 ((A1 : Nat) : Int), .int .u64 ((B2 ||| A2 : Nat) : Int), .bool false]) (by simp [results, Tryz.results219, go_sem, r0, r1, r2, hs3]) rfl ⟨rfl, ?_, (hc4.new (chg_sets3 w3 (w.heap.size + 1 + 1) _ _ _) (by omega)).alloc _⟩
      exact (hx3.chg (chg_sets3 w3 (w.heap.size + 1 + 1) _ _ _) (by omega) (fun k hk e => by have := (hvl _ hk).2; omega)).alloc _
  · cases B3
    · go_wp2
      rw [HO1.out]
      refine bodyPost_ret (v := .agg #[.int .u64 ((A1 ||| B1 : Nat) : Int), .int .u64 ((B2 : Nat) : Int), .bool false]) (by simp [results, Tryz.results219, go_sem, r0, r1, r2, hs3]) rfl ⟨rfl, ?_, (hc4.new (chg_sets3 w3 (w.heap.size + 1 + 1) _ _ _) (by omega)).alloc _⟩
      exact (hx3.chg (chg_sets3 w3 (w.heap.size + 1 + 1) _ _ _) (by omega) (fun k hk e => by have := (hvl _ hk).2; omega)).alloc _
    · go_wp2
      rw [HO1.out, HO2.out]
      refine bodyPost_ret (v := .agg #[.int .u64 ((A1 ||| B1 : Nat) : Int), .int .u64 ((B2 ||| A2 : Nat) : Int), .bool true]) (by simp [results, Tryz.results219, go_sem, r0, r1, r2, hs3]) rfl ⟨rfl, ?_, (hc4.new (chg_sets3 w3 (w.heap.size + 1 + 1) _ _ _) (by omega)).alloc _⟩
      exact (hx3.chg (chg_sets3 w3 (w.heap.size + 1 + 1) _ _ _) (by omega) (fun k hk e => by have := (hvl _ hk).2; omega)).alloc _

end Go.Proofs.YtcngifkoopcmeaaGreatDoor
namespace Go.Proofs.YtcngifkoopcmeaaGreatDoor
open Go.RowKit

structure St (w : World) (B rb xb : Nat) (s : ByteArray) (k : Nat) (l : List UInt8) (v : Value) (pl : List Pl) : Prop where
  rd : XdBlk w rb xb s k
  left : Left s k l
  rx : Rx w B xb v ⟨0, 0, false⟩ pl
  ne : rb ≠ xb
  rv : v.ownBlock ≠ some rb
  B1 : B ≤ rb
  tab : TabW w
  tabB : 4 < B
  lim : pl.length + l.length ≤ 64

/-- What the reading may turn. -/
def Own3 (rb xb : Nat) (v : Value) : Nat → Prop := fun k => k = rb ∨ k = xb ∨ some k = v.ownBlock

variable {w w' w1 w2 : World} {B rb xb : Nat} {s : ByteArray} {k : Nat} {l : List UInt8} {v v1 v2 : Value} {pl : List Pl}

theorem St.vlt (h : St w B rb xb s k l v pl) : ∀ b, v.ownBlock = some b → B ≤ b ∧ b < w.heap.size := h.rx.own.lt
theorem St.rlt (h : St w B rb xb s k l v pl) : rb < w.heap.size := h.rd.lt
theorem St.xlt (h : St w B rb xb s k l v pl) : xb < w.heap.size := h.rx.blk.lt
theorem St.own3 (h : St w B rb xb s k l v pl) : ∀ b, Own3 rb xb v b → B ≤ b ∧ b < w.heap.size := by
  rintro b (rfl | rfl | e)
  · exact ⟨h.B1, h.rlt⟩
  · exact ⟨h.rx.le, h.xlt⟩
  · exact h.vlt b e.symm
theorem St.Ble (h : St w B rb xb s k l v pl) : B ≤ w.heap.size := by have := h.B1; have := h.rlt; omega

theorem St.chg {S : Nat → Prop} (h : St w B rb xb s k l v pl) (hc : Chg S w w') (hs : ∀ b, S b → ¬ Own3 rb xb v b ∧ b ≠ 4) : St w' B rb xb s k l v pl :=
  ⟨h.rd.chg hc fun e => (hs _ e).1 (.inl rfl), h.left, h.rx.chg hc (fun e => (hs _ e).1 (.inr (.inl rfl))) (fun _ hb e => (hs _ e).1 (.inr (.inr hb.symm))), h.ne, h.rv, h.B1, h.tab.chg hc fun e => (hs _ e).2 rfl, h.tabB, h.lim⟩
theorem St.below (h : St w B rb xb s k l v pl) (hb : Below w.heap.size w w') : St w' B rb xb s k l v pl := h.chg (S := fun _ => False) (Chg.of_below hb) (fun _ h => h.elim)
theorem St.drewN (h : St w B rb xb s k l v pl) (n : Nat) : St (w.drewN n) B rb xb s k l v pl := h.below (below_drawn _ _)
theorem St.drew (h : St w B rb xb s k l v pl) : St w.drew B rb xb s k l v pl := h.below ((Below.refl _ _).drew)

/-- The reader alone has turned. -/
theorem St.went {k' : Nat} {l' : List UInt8} (h : St w B rb xb s k l v pl) (hg : w.grownBy w' (some rb)) (hr : XdBlk w' rb xb s k') (hl : Left s k' l') (hle : l'.length ≤ l.length) : St w' B rb xb s k' l' v pl := by
  have hc := Chg.of_grown hg
  have hB := h.B1
  have ht := h.tabB
  have hm := h.lim
  exact ⟨hr, hl, h.rx.chg hc (fun e => h.ne e.symm) (fun _ hb e => h.rv (by rw [hb, e])), h.ne, h.rv, h.B1, h.tab.chg hc (fun e => by omega), h.tabB, by omega⟩
theorem chg_rd (hg : w.grownBy w' (some rb)) : Chg (Own3 rb xb v) w w' := (Chg.of_grown hg).mono fun _ _ e => .inl e
theorem chg_rx (hc : Chg (Mine xb v) w w') : Chg (Own3 rb xb v) w w' := hc.mono fun _ _ e => e.elim (fun e => .inr (.inl e)) (fun e => .inr (.inr e))
theorem chg_pl (hc : Chg (fun b => some b = v.ownBlock) w w') : Chg (Own3 rb xb v) w w' := hc.mono fun _ _ e => .inr (.inr e)

/-- One reading behind another. -/
theorem Chg.on (h : Chg (Own3 rb xb v) w w1) (hm : Moved w v v1) (h1 : Chg (Own3 rb xb v1) w1 w2) : Chg (Own3 rb xb v) w w2 := by
  refine ⟨h1.os.trans h.os, h1.tape.trans h.tape, h1.output.trans h.output, Nat.le_trans h.size h1.size, fun b hb hn => ?_⟩
  refine (h1.block b (Nat.lt_of_lt_of_le hb h.size) ?_).trans (h.block b hb hn)
  rintro (e | e | e)
  · exact hn (.inl e)
  · exact hn (.inr (.inl e))
  · rcases hm with hm | hm
    · exact hn (.inr (.inr (e.trans hm)))
    · have := hm b e.symm; omega
theorem St.lost (h : St w B rb xb s k l v pl) (hc : Chg (Own3 rb xb v) w w') : Below B w w' := hc.below (fun b _ hb => (h.own3 b hb).1) h.Ble

/-- What a call that has read some of a pattern leaves. -/
structure Read (w w' : World) (B rb xb : Nat) (s : ByteArray) (v : Value) (pl : List Pl) (P : Pc) (A : Lang) (l' : List UInt8) (k' : Nat) (v' : Value) (pl' : List Pl) : Prop where
  st : St w' B rb xb s k' l' v' pl'
  chg : Chg (Own3 rb xb v) w w'
  moved : Moved w v v'
  old : ∀ i, i < pl.length → pl'[i]? = pl[i]?
  frag : Frag pl' pl.length pl'.length P A

theorem Read.first {P : Pc} {A : Lang} {l' : List UInt8} {k' : Nat} {v' : Value} {pl' : List Pl} (h : Read w w' B rb xb s v pl P A l' k' v' pl') : P.first < 18446744073709551616 := bit_lt (i := 64) fun j hj => by have := (h.frag.first j hj).2; have := h.st.rx.lim; omega
theorem Read.last {P : Pc} {A : Lang} {l' : List UInt8} {k' : Nat} {v' : Value} {pl' : List Pl} (h : Read w w' B rb xb s v pl P A l' k' v' pl') : P.last < 18446744073709551616 := bit_lt (i := 64) fun j hj => by have := (h.frag.last j hj).2; have := h.st.rx.lim; omega

/-- The contract of a call that reads: it gives up, or leaves what was read. -/
def Reads (f : FuncId) (o : Option (Lang × List UInt8)) (w : World) (B rb xb : Nat) (s : ByteArray) (v : Value) (pl : List Pl) : Prop :=
  match o with
  | none => Calls Tryz.prog f #[.pointer (some ⟨rb, 0, none⟩)] w fun e w' => e = gaveUp ∧ Below B w w'
  | some (A, l') => Calls Tryz.prog f #[.pointer (some ⟨rb, 0, none⟩)] w fun e w' => ∃ P, e = .returned (.agg #[.int .u64 (P.first : Int), .int .u64 (P.last : Int), .bool P.empty]) ∧ ∃ k' v' pl', Read w w' B rb xb s v pl P A l' k' v' pl'

/-- A new piece of zeros. -/
theorem St.pc (h : St w B rb xb s k l v pl) : ∃ W, w.alloc (.cells #[.int .u64 0, .int .u64 0, .bool false] 237) = W ∧ Below w.heap.size w W ∧ PcBlk W w.heap.size ⟨0, 0, false⟩ ∧ St W B rb xb s k l v pl :=
  ⟨_, rfl, (Below.refl _ _).alloc (Nat.le_refl _) _, pc_made w ⟨0, 0, false⟩, h.below ((Below.refl _ _).alloc (Nat.le_refl _) _)⟩

/-- A result that is stored in a new block. -/
theorem Read.sets {P : Pc} {A : Lang} {l' : List UInt8} {k' : Nat} {v' : Value} {pl' : List Pl} (h : Read w w' B rb xb s v pl P A l' k' v' pl') {b : Nat} (hb : w.heap.size ≤ b) (hr : rb < w.heap.size) (hx : xb < w.heap.size) (hv : v'.ownBlock ≠ some b) (x0 x1 x2 : Value) :
    Read w (((w'.setCell ⟨b, 0, none⟩ x0).setCell ⟨b, 1, none⟩ x1).setCell ⟨b, 2, none⟩ x2) B rb xb s v pl P A l' k' v' pl' :=
  ⟨h.st.chg (chg_sets3 w' b x0 x1 x2) (by
      rintro c rfl
      refine ⟨?_, by have h1 := h.st.tabB; have h2 := h.st.B1; omega⟩
      rintro (e | e | e)
      · omega
      · omega
      · exact hv e.symm), h.chg.new (chg_sets3 w' b x0 x1 x2) hb, h.moved, h.old, h.frag⟩
theorem Read.below {P : Pc} {A : Lang} {l' : List UInt8} {k' : Nat} {v' : Value} {pl' : List Pl} (h : Read w w' B rb xb s v pl P A l' k' v' pl') (hb : Below w'.heap.size w' w2) : Read w w2 B rb xb s v pl P A l' k' v' pl' :=
  ⟨h.st.below hb, h.chg.trans (Chg.of_below hb), h.moved, h.old, h.frag⟩
/-- It began earlier, with new blocks alone between. -/
theorem Read.early {P : Pc} {A : Lang} {l' : List UInt8} {k' : Nat} {v' : Value} {pl' : List Pl} (h : Read w1 w' B rb xb s v pl P A l' k' v' pl') (hb : Below w.heap.size w w1) : Read w w' B rb xb s v pl P A l' k' v' pl' := by
  refine ⟨h.st, (Chg.of_below hb).trans h.chg, ?_, h.old, h.frag⟩
  rcases h.moved with e | e
  · exact .inl e
  · exact .inr fun c hc => Nat.le_trans hb.size (e c hc)
/-- The reader alone went on ahead of it. -/
theorem Read.ahead {P : Pc} {A : Lang} {l' : List UInt8} {k' : Nat} {v' : Value} {pl' : List Pl} (h : Read w1 w' B rb xb s v pl P A l' k' v' pl') (hg : w.grownBy w1 (some rb)) : Read w w' B rb xb s v pl P A l' k' v' pl' := by
  refine ⟨h.st, (chg_rd hg).trans h.chg, ?_, h.old, h.frag⟩
  rcases h.moved with e | e
  · exact .inl e
  · exact .inr fun c hc => Nat.le_trans hg.size (e c hc)

/-- The reader alone goes on behind it. -/
theorem Read.then {P : Pc} {A : Lang} {l' l2 : List UInt8} {k' k2 : Nat} {v' : Value} {pl' : List Pl} (h : Read w w' B rb xb s v pl P A l' k' v' pl') (hg : w'.grownBy w2 (some rb)) (hr : XdBlk w2 rb xb s k2) (hl : Left s k2 l2) (hle : l2.length ≤ l'.length) : Read w w2 B rb xb s v pl P A l2 k2 v' pl' :=
  ⟨h.st.went hg hr hl hle, h.chg.on h.moved (chg_rd hg), h.moved, h.old, h.frag⟩

/-- A block that was there, and is none of the reading's, is none of it behind. -/
theorem Read.away {P : Pc} {A : Lang} {l' : List UInt8} {k' : Nat} {v' : Value} {pl' : List Pl} (h : Read w w' B rb xb s v pl P A l' k' v' pl') {b : Nat} (hb : b < w.heap.size) (hv : v.ownBlock ≠ some b) : v'.ownBlock ≠ some b := by
  rcases h.moved with e | e
  · rw [e]; exact hv
  · intro e2; have := e b e2; omega
theorem Read.pcs {P : Pc} {A : Lang} {l' : List UInt8} {k' : Nat} {v' : Value} {pl' : List Pl} (h : Read w w' B rb xb s v pl P A l' k' v' pl') {b : Nat} {Q : Pc} (hp : PcBlk w b Q) (hr : b ≠ rb) (hx : b ≠ xb) (hv : v.ownBlock ≠ some b) : PcBlk w' b Q := hp.chg h.chg (by
  rintro (e | e | e)
  · exact hr e
  · exact hx e
  · exact hv e.symm)

end Go.Proofs.YtcngifkoopcmeaaGreatDoor
