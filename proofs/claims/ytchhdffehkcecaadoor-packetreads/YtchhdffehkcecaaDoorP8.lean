/-
  What Read of package packet tells.
-/
import Derived.Test.YtchhdffehkcecaaDoorP7
import Derived.Test.YtchhdffehkcecaaDoorSrc
namespace Go.Proofs.YtchhdffehkcecaaDoor
open Go Go.RowKit

set_option maxRecDepth 100000 in
set_option maxHeartbeats 4000000 in
theorem bytesEqual_any (va vb : Value) (la lb : List UInt8) (w : World) (ha : SrcAt w va la) (hb : SrcAt w vb lb) :
    Calls Tryd.prog 32 #[va, vb] w fun e w' => e = .returned (.bool (decide (la = lb))) ∧ w' = w := by
  have h1 := src_string ha
  have h2 := src_string hb
  have HE := Lib.hid (show ((⟨la.toArray⟩ : ByteArray).toList == (⟨lb.toArray⟩ : ByteArray).toList) = decide (la = lb) by
    rw [ByteArray.toList_eq, ByteArray.toList_eq, Bool.eq_iff_iff]
    simp)
  obtain ⟨a1, n1, c1, rfl⟩ : ∃ a n c, va = .slice a n c := by rcases ha with ⟨rfl, -⟩ | ⟨q, c, rfl, -⟩ <;> exact ⟨_, _, _, rfl⟩
  obtain ⟨a2, n2, c2, rfl⟩ : ∃ a n c, vb = .slice a n c := by rcases hb with ⟨rfl, -⟩ | ⟨q, c, rfl, -⟩ <;> exact ⟨_, _, _, rfl⟩
  clear ha hb
  generalize (⟨la.toArray⟩ : ByteArray) = A at *
  generalize (⟨lb.toArray⟩ : ByteArray) = B at *
  go_enter Tryd.func32, Tryd.ntmps32
  go_wp2
  go_ret
  exact ⟨by rw [← HE.out]; rfl, rfl⟩
/-- What Read finds: the packet's own lists. -/
def RYes (b : List UInt8) (w : World) (e : Ending) (w' : World) : Prop := ∃ am nm cm ae ne ce, e = .returned (.tuple #[.agg #[.int .u8 (rdPk b).k, .int .u16 (rdPk b).f, .int .u16 (rdPk b).a, .int .i64 (rdPk b).q, .slice am nm cm, .slice ae ne ce], .int .i64 0]) ∧ nm = (rdPk b).ms.length ∧ ne = (rdPk b).es.length ∧ MemsAt w' am (rdPk b).ms ∧ EntsAt w' ae (rdPk b).es ∧ Below w.heap.size w w'
set_option maxRecDepth 100000 in
set_option maxHeartbeats 4000000 in
theorem pRead_long (v : Option Addr) (n c : Nat) (w : World) (h1 : 16384 < n) :
    Calls Tryd.prog 15 #[.slice v n c] w fun e w' => e = .returned (.tuple #[.agg #[.int .u8 0, .int .u16 0, .int .u16 0, .int .i64 0, .slice none 0 0, .slice none 0 0], .int .i64 14]) ∧ Below w.heap.size w w' := by
  have d1 := (Below.refl w.heap.size w).alloc (Nat.le_refl _) (.cells #[.int .u8 0, .int .u16 0, .int .u16 0, .int .i64 0, .slice none 0 0, .slice none 0 0] 26)
  have b1 := PkBlk.new w 0 0 0 0 none 0 0 none 0 0
  have g1 : (16384 : Int) < (n : Int) := by omega
  have HF := Lib.hid b1
  have HQ := Lib.hid d1
  clear b1 d1 h1
  go_enter Tryd.func15, Tryd.ntmps15
  go_wp2
  have t0 := HF.out.c0; have t1 := HF.out.c1; have t2 := HF.out.c2; have t3 := HF.out.c3; have t4 := HF.out.c4; have t5 := HF.out.c5
  refine bodyPost_ret (v := .tuple #[.agg #[.int .u8 0, .int .u16 0, .int .u16 0, .int .i64 0, .slice none 0 0, .slice none 0 0], .int .i64 14]) (by simp [results, Tryd.results15, go_sem, t0, t1, t2, t3, t4, t5]) rfl ?_
  exact ⟨rfl, HQ.out⟩
theorem src_grownP {w0 w w' : World} {v : Value} {b : List UInt8} {rb : Nat} (h0 : SrcAt w0 v b) (h : SrcAt w v b) (hg : w.grownBy w' (some rb)) (hr : w0.heap.size ≤ rb) : SrcAt w' v b := by
  rcases h with ⟨rfl, rfl⟩ | ⟨q, c, rfl, hc⟩
  · exact .inl ⟨rfl, rfl⟩
  · refine .inr ⟨q, c, rfl, fun i hi => ?_⟩
    rcases h0 with ⟨e, -⟩ | ⟨q0, c0, e, h0⟩
    · cases e
    · simp only [Value.slice.injEq, Option.some.injEq] at e
      obtain ⟨rfl, -, -⟩ := e
      have hb := World.block_lt_of_cell? w0 _ (h0 i hi)
      rw [add_block] at hb
      exact hg.cell (hc i hi) (by rw [add_block]; simp; omega)
theorem keep_lists {w : World} {X : Nat} {am ae : Option Addr} {ms : List Mem} {es : List Ent} {k f a q : Int} {a4 : Option Addr} {n4 c4 : Nat} {a5 : Option Addr} {n5 c5 : Nat} (hm : MemsAt w am ms) (he : EntsAt w ae es) (hX : PkBlk w X k f a q a4 n4 c4 a5 n5 c5) (k' f' a' q' : Int) (m' : Option Addr) (x' y' : Nat) (e' : Option Addr) (z' u' : Nat) :
    MemsAt (stP w X k' f' a' q' m' x' y' e' z' u') am ms ∧ EntsAt (stP w X k' f' a' q' m' x' y' e' z' u') ae es := by
  have g : w.grownBy (stP w X k' f' a' q' m' x' y' e' z' u') (some X) := grownBy_trans (grownBy_trans (grownBy_trans (grownBy_trans (grownBy_trans (grownBy_setCell w X _ _) (grownBy_setCell _ X _ _)) (grownBy_setCell _ X _ _)) (grownBy_setCell _ X _ _)) (grownBy_setCell _ X _ _)) (grownBy_setCell _ X _ _)
  have hx : ∀ j, w.cell? ⟨X, j, none⟩ = (#[.int .u8 k, .int .u16 f, .int .u16 a, .int .i64 q, .slice a4 n4 c4, .slice a5 n5 c5] : Array Value)[j]? := fun j => cellE hX
  constructor
  · intro hn
    obtain ⟨b, o, rfl, hlt, hc⟩ := hm hn
    have hne : some b ≠ some X := fun e => by
      obtain rfl := Option.some.inj e
      have h1 := hc 0 hn 0 _ rfl
      have h2 := hc 0 hn 1 _ rfl
      rw [hx] at h1 h2
      rcases (by omega : o = 0 ∨ o = 1 ∨ o = 2 ∨ o = 3 ∨ o = 4 ∨ o = 5 ∨ 6 ≤ o) with rfl | rfl | rfl | rfl | rfl | rfl | h4
      · simp at h1
      · simp at h2
      · simp at h2
      · simp at h1
      · simp at h1
      · simp at h1
      · rw [Array.getElem?_eq_none (by simp; omega)] at h1
        cases h1
    exact ⟨b, o, rfl, Nat.lt_of_lt_of_le hlt g.size, fun i hi j v hv => g.cell (hc i hi j v hv) hne⟩
  · intro hn
    obtain ⟨b, o, rfl, hlt, hc⟩ := he hn
    have hne : some b ≠ some X := fun e => by
      obtain rfl := Option.some.inj e
      have h1 := hc 0 hn 0 _ rfl
      rw [hx] at h1
      rcases (by omega : o = 0 ∨ o = 1 ∨ o = 2 ∨ o = 3 ∨ o = 4 ∨ o = 5 ∨ 6 ≤ o) with rfl | rfl | rfl | rfl | rfl | rfl | h4
      · simp at h1
      · simp at h1
      · simp at h1
      · simp at h1
      · simp at h1
      · simp at h1
      · rw [Array.getElem?_eq_none (by simp; omega)] at h1
        cases h1
    exact ⟨b, o, rfl, Nat.lt_of_lt_of_le hlt g.size, fun i hi j v hv => g.cell (hc i hi j v hv) hne⟩
set_option maxRecDepth 100000 in
set_option maxHeartbeats 4000000 in
theorem pRead_err (v : Option Addr) (n c : Nat) (b : List UInt8) (B : Nat) (w : World) (hB : B ≤ w.heap.size) (hv : VarsOk B w) (hs : SrcAt w (.slice v n c) b) (h1 : b.length ≤ 16384) (h2 : checkP (rdPk b) ≠ 0) :
    Calls Tryd.prog 15 #[.slice v n c] w fun e w' => e = .returned (.tuple #[.agg #[.int .u8 0, .int .u16 0, .int .u16 0, .int .i64 0, .slice none 0 0, .slice none 0 0], .int .i64 14]) ∧ Below w.heap.size w w' := by
  have d1 := (Below.refl w.heap.size w).alloc (Nat.le_refl _) (.cells #[.int .u8 0, .int .u16 0, .int .u16 0, .int .i64 0, .slice none 0 0, .slice none 0 0] 26)
  have b1 := PkBlk.new w 0 0 0 0 none 0 0 none 0 0
  have hn : n = b.length := src_len hs
  have g1 : ¬ (16384 : Int) < (n : Int) := by omega
  have hp := rdPk_ok b
  have hs0 := hs.below d1 (Nat.le_refl _)
  have HN := Lib.hid (New_any _ b (w.alloc (.cells #[.int .u8 0, .int .u16 0, .int .u16 0, .int .i64 0, .slice none 0 0, .slice none 0 0] 26)) hs0 (by omega))
  have HV := Lib.hid (And.intro hB (And.intro hv (And.intro hs0 (And.intro h1 hp))))
  have HZ := Lib.hid (And.intro b1 d1)
  have HC := Lib.hid h2
  generalize hE : checkP (rdPk b) = E at *
  have g2 : ((E : Int) != 0) = true := by simpa using h2
  have HE := Lib.hid hE
  clear h2 hE
  have HP := Lib.hid (fun (rb : Nat) (a2 : Option Addr) (c2 : Nat) (u : World) (h : Rd u rb a2 c2 b 0) (hB : B ≤ rb) (hv : VarsOk B u) => pReadP_any rb a2 c2 b B u h hB hv (by omega))
  clear hB hv hs hs0 h1 hp b1 d1 hn
  unfold RdPPost at HP
  generalize rdPk b = P at *
  go_enter Tryd.func15, Tryd.ntmps15
  go_wp2_with (go_at_call 31; refine HN.out.mono ?_; rintro e w2 ⟨rb, a2, c2, rfl, hrd2, hrb, -, hb2⟩; refine Hid.out ?_)
  refine Lib.hid ?_
  obtain ⟨b1, d1⟩ := HZ.out
  obtain ⟨hB, hv, hs0, h1, hp⟩ := HV.out
  have d2 := d1.trans (hb2.mono d1.size)
  have hwr : w.heap.size < rb := by have := b1.lt; omega
  have HP2 := Lib.hid (HP.out rb a2 c2 w2 hrd2 (by omega) (hv.on (d2.mono hB)))
  have HZ2 := Lib.hid (And.intro (b1.on hb2) (And.intro d2 (And.intro hwr (hs0.below hb2 (Nat.le_refl _)))))
  clear HN HZ HP hB hv hs0 h1 hp b1 d1 d2 hrd2 hrb hb2 hwr
  go_wp2_with (go_at_call 30; refine HP2.out.mono ?_; rintro e w3 ⟨am, nm, cm, ae, ne, ce, rfl, hnm', hne', hM, hE, g3⟩; replace hnm' := Lib.hid hnm'; replace hne' := Lib.hid hne'; refine Hid.out ?_)
  refine Lib.hid ?_
  obtain ⟨b2, d2, hwr, hs2⟩ := HZ2.out
  obtain ⟨hB, hv, hs0, h1, hp⟩ := HV.out
  have q3 : Below w.heap.size w2 w3 := below_of_grownBy g3 (by omega) d2.size
  have d3 := d2.trans q3
  have b3 := b2.grown g3 (by simp; omega)
  have q4 := (Below.refl w3.heap.size w3).alloc (Nat.le_refl _) (.cells #[.int .u8 P.k, .int .u16 P.f, .int .u16 P.a, .int .i64 P.q, .slice am nm cm, .slice ae ne ce] 26)
  have l4 := PkBlk.new w3 P.k P.f P.a P.q am nm cm ae ne ce
  have d4 := d3.trans (q4.mono d3.size)
  have b4 := b3.on q4
  have x0 := l4.c0; have x1 := l4.c1; have x2 := l4.c2; have x3 := l4.c3; have x4 := l4.c4; have x5 := l4.c5
  have hs3 : SrcAt w3 (.slice v n c) b := src_grownP hs0 hs2 g3 (by simp; omega)
  have hs4 := hs3.below q4 (Nat.le_refl _)
  have HPut := Lib.hid (pPut_err P hp am nm cm ae ne ce hnm'.out hne'.out B _ (Nat.le_trans hB d4.size) ((hv.on (d4.mono hB)).tab) (hM.on q4) (hE.onP q4) (by rw [HE.out]; exact HC.out))
  have HZ4 := Lib.hid (And.intro b4 (And.intro d4 (And.intro l4 (And.intro hs4 (And.intro (hM.on q4) (And.intro (hE.onP q4) (And.intro hnm'.out hne'.out)))))))
  clear HZ2 HP2 HV hB hv hs0 h1 hp b2 d2 hwr hs2 q3 d3 b3 q4 l4 d4 b4 hs3 hs4 hM hE g3 hnm' hne'
  rw [HE.out] at HPut
  go_wp2_with (go_at_call 11; refine HPut.out.mono ?_; rintro e w5 ⟨rfl, q5⟩; refine Hid.out ?_)
  refine Lib.hid ?_
  have b5 := HZ4.out.1.on q5
  have d5 := HZ4.out.2.1.trans (q5.mono HZ4.out.2.1.size)
  clear x0 x1 x2 x3 x4 x5
  have y0 := b5.c0; have y1 := b5.c1; have y2 := b5.c2; have y3 := b5.c3; have y4 := b5.c4; have y5 := b5.c5
  have v0 := b5.f 0; have v1 := b5.f 1; have v2 := b5.f 2; have v3 := b5.f 3; have v4 := b5.f 4; have v5 := b5.f 5
  have HF := Lib.hid (b5.store 0 0 0 0 none 0 0 none 0 0)
  have HQ := Lib.hid (stP_below d5 (Nat.le_refl w.heap.size) 0 0 0 0 none 0 0 none 0 0)
  clear b5 d5 q5 HZ4 HPut 
  go_wp2
  unfold stP at HF HQ
  generalize (((((w5.setCell ⟨w.heap.size, 0, none⟩ (.int .u8 0)).setCell ⟨w.heap.size, 1, none⟩ (.int .u16 0)).setCell ⟨w.heap.size, 2, none⟩ (.int .u16 0)).setCell ⟨w.heap.size, 3, none⟩ (.int .i64 0)).setCell ⟨w.heap.size, 4, none⟩ (.slice none 0 0)).setCell ⟨w.heap.size, 5, none⟩ (.slice none 0 0) = wF at *
  have t0 := HF.out.c0; have t1 := HF.out.c1; have t2 := HF.out.c2; have t3 := HF.out.c3; have t4 := HF.out.c4; have t5 := HF.out.c5
  refine bodyPost_ret (v := .tuple #[.agg #[.int .u8 0, .int .u16 0, .int .u16 0, .int .i64 0, .slice none 0 0, .slice none 0 0], .int .i64 14]) (by simp [results, Tryd.results15, go_sem, t0, t1, t2, t3, t4, t5]) rfl ?_
  exact ⟨rfl, HQ.out⟩
set_option maxRecDepth 100000 in
set_option maxHeartbeats 4000000 in
theorem pRead_ne (v : Option Addr) (n c : Nat) (b : List UInt8) (B : Nat) (w : World) (hB : B ≤ w.heap.size) (hv : VarsOk B w) (hs : SrcAt w (.slice v n c) b) (h1 : b.length ≤ 16384) (h2 : checkP (rdPk b) = 0) (h3 : ¬ layPk (rdPk b) = b) :
    Calls Tryd.prog 15 #[.slice v n c] w fun e w' => e = .returned (.tuple #[.agg #[.int .u8 0, .int .u16 0, .int .u16 0, .int .i64 0, .slice none 0 0, .slice none 0 0], .int .i64 14]) ∧ Below w.heap.size w w' := by
  have d1 := (Below.refl w.heap.size w).alloc (Nat.le_refl _) (.cells #[.int .u8 0, .int .u16 0, .int .u16 0, .int .i64 0, .slice none 0 0, .slice none 0 0] 26)
  have b1 := PkBlk.new w 0 0 0 0 none 0 0 none 0 0
  have hn : n = b.length := src_len hs
  have g1 : ¬ (16384 : Int) < (n : Int) := by omega
  have hp := rdPk_ok b
  have hs0 := hs.below d1 (Nat.le_refl _)
  have HN := Lib.hid (New_any _ b (w.alloc (.cells #[.int .u8 0, .int .u16 0, .int .u16 0, .int .i64 0, .slice none 0 0, .slice none 0 0] 26)) hs0 (by omega))
  have HV := Lib.hid (And.intro hB (And.intro hv (And.intro hs0 (And.intro h1 hp))))
  have HZ := Lib.hid (And.intro b1 d1)
  have HC := Lib.hid h2
  have HLy := Lib.hid h3
  clear h2 h3
  have HP := Lib.hid (fun (rb : Nat) (a2 : Option Addr) (c2 : Nat) (u : World) (h : Rd u rb a2 c2 b 0) (hB : B ≤ rb) (hv : VarsOk B u) => pReadP_any rb a2 c2 b B u h hB hv (by omega))
  clear hB hv hs hs0 h1 hp b1 d1 hn
  unfold RdPPost at HP
  generalize rdPk b = P at *
  go_enter Tryd.func15, Tryd.ntmps15
  go_wp2_with (go_at_call 31; refine HN.out.mono ?_; rintro e w2 ⟨rb, a2, c2, rfl, hrd2, hrb, -, hb2⟩; refine Hid.out ?_)
  refine Lib.hid ?_
  obtain ⟨b1, d1⟩ := HZ.out
  obtain ⟨hB, hv, hs0, h1, hp⟩ := HV.out
  have d2 := d1.trans (hb2.mono d1.size)
  have hwr : w.heap.size < rb := by have := b1.lt; omega
  have HP2 := Lib.hid (HP.out rb a2 c2 w2 hrd2 (by omega) (hv.on (d2.mono hB)))
  have HZ2 := Lib.hid (And.intro (b1.on hb2) (And.intro d2 (And.intro hwr (hs0.below hb2 (Nat.le_refl _)))))
  clear HN HZ HP hB hv hs0 h1 hp b1 d1 d2 hrd2 hrb hb2 hwr
  go_wp2_with (go_at_call 30; refine HP2.out.mono ?_; rintro e w3 ⟨am, nm, cm, ae, ne, ce, rfl, hnm', hne', hM, hE, g3⟩; replace hnm' := Lib.hid hnm'; replace hne' := Lib.hid hne'; refine Hid.out ?_)
  refine Lib.hid ?_
  obtain ⟨b2, d2, hwr, hs2⟩ := HZ2.out
  obtain ⟨hB, hv, hs0, h1, hp⟩ := HV.out
  have q3 : Below w.heap.size w2 w3 := below_of_grownBy g3 (by omega) d2.size
  have d3 := d2.trans q3
  have b3 := b2.grown g3 (by simp; omega)
  have q4 := (Below.refl w3.heap.size w3).alloc (Nat.le_refl _) (.cells #[.int .u8 P.k, .int .u16 P.f, .int .u16 P.a, .int .i64 P.q, .slice am nm cm, .slice ae ne ce] 26)
  have l4 := PkBlk.new w3 P.k P.f P.a P.q am nm cm ae ne ce
  have d4 := d3.trans (q4.mono d3.size)
  have b4 := b3.on q4
  have x0 := l4.c0; have x1 := l4.c1; have x2 := l4.c2; have x3 := l4.c3; have x4 := l4.c4; have x5 := l4.c5
  have hs3 : SrcAt w3 (.slice v n c) b := src_grownP hs0 hs2 g3 (by simp; omega)
  have hs4 := hs3.below q4 (Nat.le_refl _)
  have HPut := Lib.hid (pPut_ok P hp am nm cm ae ne ce hnm'.out hne'.out B _ (Nat.le_trans hB d4.size) ((hv.on (d4.mono hB)).tab) (hM.on q4) (hE.onP q4) HC.out)
  have HZ4 := Lib.hid (And.intro b4 (And.intro d4 (And.intro l4 (And.intro hs4 (And.intro (hM.on q4) (And.intro (hE.onP q4) (And.intro hnm'.out hne'.out)))))))
  clear HZ2 HP2 HV hB hv hs0 h1 hp b2 d2 hwr hs2 q3 d3 b3 q4 l4 d4 b4 hs3 hs4 hM hE g3 hnm' hne'
  go_wp2_with (go_at_call 11; refine HPut.out.mono ?_; rintro e w5 ⟨a5, n5, c5, rfl, ho5, q5⟩; refine Hid.out ?_)
  refine Lib.hid ?_
  have b5 := HZ4.out.1.on q5
  have l5 := HZ4.out.2.2.1.on q5
  have d5 := HZ4.out.2.1.trans (q5.mono HZ4.out.2.1.size)
  have HEq := Lib.hid (bytesEqual_any _ _ _ _ w5 ho5.src (HZ4.out.2.2.2.1.below q5 (Nat.le_refl _)))
  rw [decide_eq_false HLy.out] at HEq
  clear x0 x1 x2 x3 x4 x5
  have x0 := l5.c0; have x1 := l5.c1; have x2 := l5.c2; have x3 := l5.c3; have x4 := l5.c4; have x5 := l5.c5
  have y0 := b5.c0; have y1 := b5.c1; have y2 := b5.c2; have y3 := b5.c3; have y4 := b5.c4; have y5 := b5.c5
  have v0 := b5.f 0; have v1 := b5.f 1; have v2 := b5.f 2; have v3 := b5.f 3; have v4 := b5.f 4; have v5 := b5.f 5
  have HF := Lib.hid (b5.store 0 0 0 0 none 0 0 none 0 0)
  have HQ := Lib.hid (stP_below d5 (Nat.le_refl w.heap.size) 0 0 0 0 none 0 0 none 0 0)
  clear b5 d5 q5 HZ4 HPut l5 ho5
  go_wp2_with (go_at_call 32; refine HEq.out.mono ?_; rintro e w6 ⟨rfl, rfl⟩)
  unfold stP at HF HQ
  generalize (((((w6.setCell ⟨w.heap.size, 0, none⟩ (.int .u8 0)).setCell ⟨w.heap.size, 1, none⟩ (.int .u16 0)).setCell ⟨w.heap.size, 2, none⟩ (.int .u16 0)).setCell ⟨w.heap.size, 3, none⟩ (.int .i64 0)).setCell ⟨w.heap.size, 4, none⟩ (.slice none 0 0)).setCell ⟨w.heap.size, 5, none⟩ (.slice none 0 0) = wF at *
  have t0 := HF.out.c0; have t1 := HF.out.c1; have t2 := HF.out.c2; have t3 := HF.out.c3; have t4 := HF.out.c4; have t5 := HF.out.c5
  refine bodyPost_ret (v := .tuple #[.agg #[.int .u8 0, .int .u16 0, .int .u16 0, .int .i64 0, .slice none 0 0, .slice none 0 0], .int .i64 14]) (by simp [results, Tryd.results15, go_sem, t0, t1, t2, t3, t4, t5]) rfl ?_
  exact ⟨rfl, HQ.out⟩
set_option maxRecDepth 100000 in
set_option maxHeartbeats 4000000 in
theorem pRead_yes (v : Option Addr) (n c : Nat) (b : List UInt8) (B : Nat) (w : World) (hB : B ≤ w.heap.size) (hv : VarsOk B w) (hs : SrcAt w (.slice v n c) b) (h1 : b.length ≤ 16384) (h2 : checkP (rdPk b) = 0) (h3 : layPk (rdPk b) = b) :
    Calls Tryd.prog 15 #[.slice v n c] w fun e w' => RYes b w e w' := by
  have d1 := (Below.refl w.heap.size w).alloc (Nat.le_refl _) (.cells #[.int .u8 0, .int .u16 0, .int .u16 0, .int .i64 0, .slice none 0 0, .slice none 0 0] 26)
  have b1 := PkBlk.new w 0 0 0 0 none 0 0 none 0 0
  have hn : n = b.length := src_len hs
  have g1 : ¬ (16384 : Int) < (n : Int) := by omega
  have hp := rdPk_ok b
  have hs0 := hs.below d1 (Nat.le_refl _)
  have HN := Lib.hid (New_any _ b (w.alloc (.cells #[.int .u8 0, .int .u16 0, .int .u16 0, .int .i64 0, .slice none 0 0, .slice none 0 0] 26)) hs0 (by omega))
  have HV := Lib.hid (And.intro hB (And.intro hv (And.intro hs0 (And.intro h1 hp))))
  have HZ := Lib.hid (And.intro b1 d1)
  have HC := Lib.hid h2
  have HLy := Lib.hid h3
  clear h2 h3
  unfold RYes
  have HP := Lib.hid (fun (rb : Nat) (a2 : Option Addr) (c2 : Nat) (u : World) (h : Rd u rb a2 c2 b 0) (hB : B ≤ rb) (hv : VarsOk B u) => pReadP_any rb a2 c2 b B u h hB hv (by omega))
  clear hB hv hs hs0 h1 hp b1 d1 hn
  unfold RdPPost at HP
  generalize rdPk b = P at *
  go_enter Tryd.func15, Tryd.ntmps15
  go_wp2_with (go_at_call 31; refine HN.out.mono ?_; rintro e w2 ⟨rb, a2, c2, rfl, hrd2, hrb, -, hb2⟩; refine Hid.out ?_)
  refine Lib.hid ?_
  obtain ⟨b1, d1⟩ := HZ.out
  obtain ⟨hB, hv, hs0, h1, hp⟩ := HV.out
  have d2 := d1.trans (hb2.mono d1.size)
  have hwr : w.heap.size < rb := by have := b1.lt; omega
  have HP2 := Lib.hid (HP.out rb a2 c2 w2 hrd2 (by omega) (hv.on (d2.mono hB)))
  have HZ2 := Lib.hid (And.intro (b1.on hb2) (And.intro d2 (And.intro hwr (hs0.below hb2 (Nat.le_refl _)))))
  clear HN HZ HP hB hv hs0 h1 hp b1 d1 d2 hrd2 hrb hb2 hwr
  go_wp2_with (go_at_call 30; refine HP2.out.mono ?_; rintro e w3 ⟨am, nm, cm, ae, ne, ce, rfl, hnm', hne', hM, hE, g3⟩; replace hnm' := Lib.hid hnm'; replace hne' := Lib.hid hne'; refine Hid.out ?_)
  refine Lib.hid ?_
  obtain ⟨b2, d2, hwr, hs2⟩ := HZ2.out
  obtain ⟨hB, hv, hs0, h1, hp⟩ := HV.out
  have q3 : Below w.heap.size w2 w3 := below_of_grownBy g3 (by omega) d2.size
  have d3 := d2.trans q3
  have b3 := b2.grown g3 (by simp; omega)
  have q4 := (Below.refl w3.heap.size w3).alloc (Nat.le_refl _) (.cells #[.int .u8 P.k, .int .u16 P.f, .int .u16 P.a, .int .i64 P.q, .slice am nm cm, .slice ae ne ce] 26)
  have l4 := PkBlk.new w3 P.k P.f P.a P.q am nm cm ae ne ce
  have d4 := d3.trans (q4.mono d3.size)
  have b4 := b3.on q4
  have x0 := l4.c0; have x1 := l4.c1; have x2 := l4.c2; have x3 := l4.c3; have x4 := l4.c4; have x5 := l4.c5
  have hs3 : SrcAt w3 (.slice v n c) b := src_grownP hs0 hs2 g3 (by simp; omega)
  have hs4 := hs3.below q4 (Nat.le_refl _)
  have HPut := Lib.hid (pPut_ok P hp am nm cm ae ne ce hnm'.out hne'.out B _ (Nat.le_trans hB d4.size) ((hv.on (d4.mono hB)).tab) (hM.on q4) (hE.onP q4) HC.out)
  have HZ4 := Lib.hid (And.intro b4 (And.intro d4 (And.intro l4 (And.intro hs4 (And.intro (hM.on q4) (And.intro (hE.onP q4) (And.intro hnm'.out hne'.out)))))))
  clear HZ2 HP2 HV hB hv hs0 h1 hp b2 d2 hwr hs2 q3 d3 b3 q4 l4 d4 b4 hs3 hs4 hM hE g3 hnm' hne'
  go_wp2_with (go_at_call 11; refine HPut.out.mono ?_; rintro e w5 ⟨a5, n5, c5, rfl, ho5, q5⟩; refine Hid.out ?_)
  refine Lib.hid ?_
  have b5 := HZ4.out.1.on q5
  have l5 := HZ4.out.2.2.1.on q5
  have d5 := HZ4.out.2.1.trans (q5.mono HZ4.out.2.1.size)
  have HEq := Lib.hid (bytesEqual_any _ _ _ _ w5 ho5.src (HZ4.out.2.2.2.1.below q5 (Nat.le_refl _)))
  rw [decide_eq_true HLy.out] at HEq
  clear x0 x1 x2 x3 x4 x5
  have x0 := l5.c0; have x1 := l5.c1; have x2 := l5.c2; have x3 := l5.c3; have x4 := l5.c4; have x5 := l5.c5
  have hme := And.intro (HZ4.out.2.2.2.2.1.on q5) (HZ4.out.2.2.2.2.2.1.onP q5)
  have HME := Lib.hid (And.intro hme (And.intro HZ4.out.2.2.2.2.2.2.1 HZ4.out.2.2.2.2.2.2.2))
  clear hme
  have y0 := b5.c0; have y1 := b5.c1; have y2 := b5.c2; have y3 := b5.c3; have y4 := b5.c4; have y5 := b5.c5
  have v0 := b5.f 0; have v1 := b5.f 1; have v2 := b5.f 2; have v3 := b5.f 3; have v4 := b5.f 4; have v5 := b5.f 5
  have HF := Lib.hid (b5.store P.k P.f P.a P.q am nm cm ae ne ce)
  have HQ := Lib.hid (stP_below d5 (Nat.le_refl w.heap.size) P.k P.f P.a P.q am nm cm ae ne ce)
  have HM5 : Hid (MemsAt (stP w5 w.heap.size P.k P.f P.a P.q am nm cm ae ne ce) am P.ms ∧ EntsAt (stP w5 w.heap.size P.k P.f P.a P.q am nm cm ae ne ce) ae P.es) := Lib.hid (keep_lists HME.out.1.1 HME.out.1.2 b5 P.k P.f P.a P.q am nm cm ae ne ce)
  clear b5 d5 q5 HZ4 HPut l5 ho5
  go_wp2_with (go_at_call 32; refine HEq.out.mono ?_; rintro e w6 ⟨rfl, rfl⟩)
  unfold stP at HF HQ HM5
  generalize (((((w6.setCell ⟨w.heap.size, 0, none⟩ (.int .u8 P.k)).setCell ⟨w.heap.size, 1, none⟩ (.int .u16 P.f)).setCell ⟨w.heap.size, 2, none⟩ (.int .u16 P.a)).setCell ⟨w.heap.size, 3, none⟩ (.int .i64 P.q)).setCell ⟨w.heap.size, 4, none⟩ (.slice am nm cm)).setCell ⟨w.heap.size, 5, none⟩ (.slice ae ne ce) = wF at *
  have t0 := HF.out.c0; have t1 := HF.out.c1; have t2 := HF.out.c2; have t3 := HF.out.c3; have t4 := HF.out.c4; have t5 := HF.out.c5
  refine bodyPost_ret (v := .tuple #[.agg #[.int .u8 P.k, .int .u16 P.f, .int .u16 P.a, .int .i64 P.q, .slice am nm cm, .slice ae ne ce], .int .i64 0]) (by simp [results, Tryd.results15, go_sem, t0, t1, t2, t3, t4, t5]) rfl ?_
  exact ⟨am, nm, cm, ae, ne, ce, rfl, HME.out.2.1, HME.out.2.2, HM5.out.1, HM5.out.2, HQ.out⟩

/-- Bytes that are no packet. -/
theorem pRead_no (v : Option Addr) (n c : Nat) (b : List UInt8) (B : Nat) (w : World) (hB : B ≤ w.heap.size) (hv : VarsOk B w) (hs : SrcAt w (.slice v n c) b) (hno : ¬ readOk b) :
    Calls Tryd.prog 15 #[.slice v n c] w fun e w' => e = .returned (.tuple #[.agg #[.int .u8 0, .int .u16 0, .int .u16 0, .int .i64 0, .slice none 0 0, .slice none 0 0], .int .i64 14]) ∧ Below w.heap.size w w' := by
  by_cases h1 : b.length ≤ 16384
  · by_cases h2 : checkP (rdPk b) = 0
    · by_cases h3 : layPk (rdPk b) = b
      · exact absurd ⟨h1, h2, h3⟩ hno
      · exact pRead_ne v n c b B w hB hv hs h1 h2 h3
    · exact pRead_err v n c b B w hB hv hs h1 h2
  · have hn := src_len hs
    exact pRead_long v n c w (by omega)

end Go.Proofs.YtchhdffehkcecaaDoor
