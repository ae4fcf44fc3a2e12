/-
  What Of of the reference tells: the silence of an entry, or none.
-/
import Derived.Test.YtcngifkoopcmeaaGreatDoorK43
namespace Go.Proofs.YtcngifkoopcmeaaGreatDoor
open Go Go.RowKit

theorem MtBlk.st0 {w : World} {B : Nat} {n v : ByteArray} {k : Nat} (h : MtBlk w B (n, k, v)) (n' : ByteArray) : MtBlk (w.setCell ⟨B, 0, none⟩ (.string n')) B (n', k, v) := by
  unfold MtBlk at h ⊢
  simp [World.setCell, Array.getElem?_modify, h]
theorem MtBlk.st1 {w : World} {B : Nat} {n v : ByteArray} {k : Nat} (h : MtBlk w B (n, k, v)) (k' : Nat) : MtBlk (w.setCell ⟨B, 1, none⟩ (.int .u8 (k' : Int))) B (n, k', v) := by
  unfold MtBlk at h ⊢
  simp [World.setCell, Array.getElem?_modify, h]
theorem MtBlk.st2 {w : World} {B : Nat} {n v : ByteArray} {k : Nat} (h : MtBlk w B (n, k, v)) (v' : ByteArray) : MtBlk (w.setCell ⟨B, 2, none⟩ (.string v')) B (n, k, v') := by
  unfold MtBlk at h ⊢
  simp [World.setCell, Array.getElem?_modify, h]
theorem MtBlk.off {w : World} {B : Nat} {m : Mt} (h : MtBlk w B m) {p : Addr} (hp : B ≠ p.block) (v : Value) : MtBlk (w.setCell p v) B m := (Below.heap_setCell w p v B hp).trans h
theorem MtBlk.fz {w : World} {B : Nat} {m : Mt} (h : MtBlk w B m) (j : Nat) : w.frozen? ⟨B, j, none⟩ = false := by
  unfold MtBlk at h
  simp [World.frozen?, h]
/-- How many bytes are left, as memory tells it. -/
def leftY (rb : Nat) (w : World) : Nat := match w.cell? ⟨rb, 0, none⟩ with | some (.slice _ n _) => n | _ => 0
theorem YR.leftY {w : World} {rb : Nat} {a : Option Addr} {c : Nat} {l : List UInt8} {e : Int} (h : YR w rb a c l e) : leftY rb w = l.length := by
  unfold Go.Proofs.YtcngifkoopcmeaaGreatDoor.leftY
  rw [h.blk.c0]
/-- What Of holds behind the loop. -/
structure YEnd (w w' : World) (R : Nat) (e : Int) (x : Ent) (id : ByteArray) (a1 : Option Addr) (c1 : Nat) (ms : List Mt) (st en : Int) : Prop where
  ent : EBlk w' w.heap.size x
  ans : SBlk w' (w.heap.size + 1) ⟨#[]⟩ none 0 0 0 0
  sil : SBlk w' (w.heap.size + 2) id a1 ms.length c1 st en
  err : w'.cell? ⟨R, 1, none⟩ = some (.int .i64 e)
  mts : MtsAt w' a1 ms
  low : Below w.heap.size w w'
  lt : w.heap.size + 2 < R ∧ R < w'.heap.size
  far : ∀ q, a1 = some q → w.heap.size ≤ q.block
theorem YEnd.on {w w' w2 : World} {R : Nat} {e : Int} {x : Ent} {id : ByteArray} {a1 : Option Addr} {c1 : Nat} {ms : List Mt} {st en : Int} (h : YEnd w w' R e x id a1 c1 ms st en) (hb : Below w'.heap.size w' w2) : YEnd w w2 R e x id a1 c1 ms st en :=
  ⟨h.ent.on hb, h.ans.on hb, h.sil.on hb, (hb.cell (p := ⟨R, 1, none⟩) h.lt.2).trans h.err, h.mts.below hb (Nat.le_refl _), h.low.trans (hb.mono h.low.size), ⟨h.lt.1, Nat.lt_of_lt_of_le h.lt.2 hb.size⟩, h.far⟩
theorem YSt.nums {w w' : World} {R : Nat} {a : Option Addr} {c : Nat} {l : List UInt8} {e : Int} {x : Ent} {id : ByteArray} {a1 : Option Addr} {c1 : Nat} {ms : List Mt} (h : YSt w w' R a c l e x id a1 c1 ms) (st en : Int) :
    YEnd w ((w'.setCell ⟨w.heap.size + 2, 2, none⟩ (.int .i64 st)).setCell ⟨w.heap.size + 2, 3, none⟩ (.int .i64 en)) R e x id a1 c1 ms st en := by
  have h1 := h.lt
  have hb : Below (w.heap.size + 2) w' ((w'.setCell ⟨w.heap.size + 2, 2, none⟩ (.int .i64 st)).setCell ⟨w.heap.size + 2, 3, none⟩ (.int .i64 en)) := ((Below.refl _ w').setCell (p := ⟨w.heap.size + 2, 2, none⟩) (Nat.le_refl _) _).setCell (p := ⟨w.heap.size + 2, 3, none⟩) (Nat.le_refl _) _
  have g1 := grownBy_setCell w' (w.heap.size + 2) 2 (.int .i64 st)
  have g2 := grownBy_setCell (w'.setCell ⟨w.heap.size + 2, 2, none⟩ (.int .i64 st)) (w.heap.size + 2) 3 (.int .i64 en)
  have k1 := World.ownsRow.kept h.row g1 (.inr fun e => by have := (World.ownsRow.lt h.row _ e).1; omega)
  have k2 := World.ownsRow.kept k1 g2 (.inr fun e => by have := (World.ownsRow.lt k1 _ e).1; omega)
  have k3 : OwnSm ((w'.setCell ⟨w.heap.size + 2, 2, none⟩ (.int .i64 st)).setCell ⟨w.heap.size + 2, 3, none⟩ (.int .i64 en)) (R + 1) (.slice a1 ms.length c1) ms := k2
  have r1 := g1.cell h.rd.blk.c1 (by show some R ≠ some (w.heap.size + 2); simp; omega)
  have r2 := g2.cell r1 (by show some R ≠ some (w.heap.size + 2); simp; omega)
  have hR := h.rd.blk.lt
  exact ⟨h.ent.below hb (by omega), h.ans.far hb (by omega), (h.sil.set2 st).set3 en, r2, k3.at.2, h.low.trans (hb.mono (by omega)), ⟨h1, Nat.lt_of_lt_of_le hR hb.size⟩, fun q hq => by have := (World.ownsRow.lt h.row q.block (by rw [hq]; rfl)).1; omega⟩

/-- What Of tells. -/
def YOf (x : Ent) (w : World) (e : Ending) (w' : World) : Prop := ((∃ s a c, IsE s x ∧ e = .returned (.tuple #[.agg #[.string s.id, .slice a s.ms.length c, .int .i64 s.st, .int .i64 s.en], .bool true]) ∧ MtsAt w' a s.ms ∧ (∀ q, a = some q → w.heap.size ≤ q.block)) ∨ ((∀ s, ¬ IsE s x) ∧ e = .returned (.tuple #[.agg #[.string ⟨#[]⟩, .slice none 0 0, .int .i64 0, .int .i64 0], .bool false]))) ∧ Below w.heap.size w w'

set_option maxRecDepth 100000 in
set_option maxHeartbeats 4000000 in
theorem yOf_k0 (x : Ent) (w : World) (h1 : x.k.size = 0) (hno : ∀ s, ¬ IsE s x) :
    Calls Tryz.prog 28 #[.agg #[.string x.k, .int .i64 x.t, .int .u16 x.o, .string x.v, .int .i64 x.u]] w (YOf x w) := by
  have d1 := (Below.refl w.heap.size w).alloc (Nat.le_refl _) (.cells #[.string x.k, .int .i64 x.t, .int .u16 x.o, .string x.v, .int .i64 x.u] 60)
  have d2 := d1.alloc (by simp) (.cells #[.string ⟨#[]⟩, .slice none 0 0, .int .i64 0, .int .i64 0] 55)
  have b1 := (EBlk.new w x).on ((Below.refl _ _).alloc (Nat.le_refl _) (.cells #[.string ⟨#[]⟩, .slice none 0 0, .int .i64 0, .int .i64 0] 55))
  have b2 := SBlk.new (w.alloc (.cells #[.string x.k, .int .i64 x.t, .int .u16 x.o, .string x.v, .int .i64 x.u] 60)) ⟨#[]⟩ none 0 0 0 0
  rw [World.size_alloc] at b2
  have g1 : (x.k.size : Int) < 1 := by omega
  have z0 := b2.c0; have z1 := b2.c1; have z2 := b2.c2; have z3 := b2.c3; have y0 := b2.f 0; have y1 := b2.f 1; have y2 := b2.f 2; have y3 := b2.f 3
  have x0 := b1.c0
  have HF := Lib.hid b2
  have HQ := Lib.hid (And.intro hno d2)
  clear d1 d2 b1 b2 hno h1
  obtain ⟨kx, tx, ox, vx, ux⟩ := x
  dsimp only at *
  go_enter Tryz.func28, Tryz.ntmps28
  go_wp2
  refine bodyPost_ret (v := .tuple #[.agg #[.string ⟨#[]⟩, .slice none 0 0, .int .i64 0, .int .i64 0], .bool false]) (by have b5 := HF.out; have z0 := b5.c0; have z1 := b5.c1; have z2 := b5.c2; have z3 := b5.c3; simp [results, Tryz.results28, go_sem, z0, z1, z2, z3]) rfl ?_
  exact ⟨.inr ⟨HQ.out.1, rfl⟩, HQ.out.2⟩
theorem index_firstY {k : ByteArray} {b0 : UInt8} {r0 : List UInt8} (hl : k.data.toList = b0 :: r0) (u : World) : (Instr.index 9 (.string k) (.int .i64 0)).run Tryz.prog u = .ok (.int .u8 (b0.toNat : Int)) u := by
  obtain ⟨d⟩ := k
  obtain ⟨l⟩ := d
  obtain rfl : l = b0 :: r0 := hl
  have us := Tryz.underlying9
  go_simp
  rfl

set_option maxRecDepth 100000 in
set_option maxHeartbeats 4000000 in
theorem yOf_k1 (x : Ent) (w : World) (h0 : x.k.size ≠ 0) (b0 : UInt8) (r0 : List UInt8) (hl : x.k.data.toList = b0 :: r0) (h1 : b0 ≠ 115) (hno : ∀ s, ¬ IsE s x) :
    Calls Tryz.prog 28 #[.agg #[.string x.k, .int .i64 x.t, .int .u16 x.o, .string x.v, .int .i64 x.u]] w (YOf x w) := by
  have d1 := (Below.refl w.heap.size w).alloc (Nat.le_refl _) (.cells #[.string x.k, .int .i64 x.t, .int .u16 x.o, .string x.v, .int .i64 x.u] 60)
  have d2 := d1.alloc (by simp) (.cells #[.string ⟨#[]⟩, .slice none 0 0, .int .i64 0, .int .i64 0] 55)
  have b1 := (EBlk.new w x).on ((Below.refl _ _).alloc (Nat.le_refl _) (.cells #[.string ⟨#[]⟩, .slice none 0 0, .int .i64 0, .int .i64 0] 55))
  have b2 := SBlk.new (w.alloc (.cells #[.string x.k, .int .i64 x.t, .int .u16 x.o, .string x.v, .int .i64 x.u] 60)) ⟨#[]⟩ none 0 0 0 0
  rw [World.size_alloc] at b2
  have g1 : ¬ (x.k.size : Int) < 1 := by omega
  have hgb : ∀ u : World, (Instr.index 9 (.string x.k) (.int .i64 0)).run Tryz.prog u = .ok (.int .u8 (b0.toNat : Int)) u := fun u => index_firstY hl u
  have g2 : ((b0.toNat : Int) != 115) = true := by
    simp only [bne_iff_ne, ne_eq]
    intro e
    exact h1 (UInt8.toNat_inj.1 (by simpa using (by omega : b0.toNat = 115)))
  have z0 := b2.c0; have z1 := b2.c1; have z2 := b2.c2; have z3 := b2.c3; have y0 := b2.f 0; have y1 := b2.f 1; have y2 := b2.f 2; have y3 := b2.f 3
  have x0 := b1.c0
  have HF := Lib.hid b2
  have HQ := Lib.hid (And.intro hno d2)
  clear d1 d2 b1 b2 hno h1 h0 hl
  obtain ⟨kx, tx, ox, vx, ux⟩ := x
  dsimp only at *
  go_enter Tryz.func28, Tryz.ntmps28
  go_wp2
  refine bodyPost_ret (v := .tuple #[.agg #[.string ⟨#[]⟩, .slice none 0 0, .int .i64 0, .int .i64 0], .bool false]) (by have b5 := HF.out; have z0 := b5.c0; have z1 := b5.c1; have z2 := b5.c2; have z3 := b5.c3; simp [results, Tryz.results28, go_sem, z0, z1, z2, z3]) rfl ?_
  exact ⟨.inr ⟨HQ.out.1, rfl⟩, HQ.out.2⟩
set_option maxRecDepth 100000 in
set_option maxHeartbeats 16000000 in
theorem yOf_main (x : Ent) (hvs : x.v.size ≤ 1048576) (hks : x.k.size ≤ 1048576) (w : World) (r0 : List UInt8) (hl : x.k.data.toList = 115 :: r0) :
    Calls Tryz.prog 28 #[.agg #[.string x.k, .int .i64 x.t, .int .u16 x.o, .string x.v, .int .i64 x.u]] w (YOf x w) := by
  have d1 := (Below.refl w.heap.size w).alloc (Nat.le_refl _) (.cells #[.string x.k, .int .i64 x.t, .int .u16 x.o, .string x.v, .int .i64 x.u] 60)
  have d2 := d1.alloc (by simp) (.cells #[.string ⟨#[]⟩, .slice none 0 0, .int .i64 0, .int .i64 0] 55)
  have b1 := (EBlk.new w x).on ((Below.refl _ _).alloc (Nat.le_refl _) (.cells #[.string ⟨#[]⟩, .slice none 0 0, .int .i64 0, .int .i64 0] 55))
  have b2 := SBlk.new (w.alloc (.cells #[.string x.k, .int .i64 x.t, .int .u16 x.o, .string x.v, .int .i64 x.u] 60)) ⟨#[]⟩ none 0 0 0 0
  rw [World.size_alloc] at b2
  have hkz : x.k.data.toList.length = x.k.size := rfl
  have h0 : 1 ≤ x.k.size := by rw [← hkz, hl]; simp
  have g1 : ¬ (x.k.size : Int) < 1 := by omega
  have hgb : ∀ u : World, (Instr.index 9 (.string x.k) (.int .i64 0)).run Tryz.prog u = .ok (.int .u8 115) u := fun u => index_firstY hl u
  obtain ⟨KT, hKT⟩ : ∃ KT, x.k.extract 1 x.k.size = KT := ⟨_, rfl⟩
  obtain ⟨i0, hi, hz0, hz1, hz2⟩ := info_parts infoMt
  have HID : Hid (∀ s, IsE s x → s.id = KT) := Lib.hid (fun s hs => by
    have := key_cut hs
    rw [← hKT]
    apply bytes_ext
    rw [extract_tail, this]
    rfl)
  have HKZ : Hid (KT.size ≤ 1048576) := Lib.hid (by rw [← hKT, ByteArray.size_extract]; omega)
  obtain ⟨a1, c1, w1, hcv, hsrc, hc1, ha1, hb1⟩ := bytes_of_stringY (((w.alloc (.cells #[.string x.k, .int .i64 x.t, .int .u16 x.o, .string x.v, .int .i64 x.u] 60)).alloc (.cells #[.string ⟨#[]⟩, .slice none 0 0, .int .i64 0, .int .i64 0] 55)).alloc (.cells #[.string KT, .slice none 0 0, .int .i64 0, .int .i64 0] 55)) x.v
  obtain ⟨l0, e0, hO⟩ : ∃ l0 e0, byteE 108 0 x.v.data.toList = (l0, e0) := ⟨_, _, rfl⟩
  have hvl : x.v.data.toList.length = x.v.size := rfl
  have hX1 : XS w1 (some a1) c1 x.v.data.toList 0 := ⟨by rw [hvl]; exact hsrc, by omega, by omega, fun h => absurd rfl h⟩
  have hB0 := refByte_full (some a1) c1 _ 108 0 w1 hX1 hO
  rw [hvl] at hB0
  have HB := Lib.hid hB0
  have n0 := byteE_err hO
  have HRD0 := Lib.hid (RdS.start hO)
  have d3 := d2.alloc (by simp; omega) (.cells #[.string KT, .slice none 0 0, .int .i64 0, .int .i64 0] 55)
  have b3 := SBlk.new ((w.alloc (.cells #[.string x.k, .int .i64 x.t, .int .u16 x.o, .string x.v, .int .i64 x.u] 60)).alloc (.cells #[.string ⟨#[]⟩, .slice none 0 0, .int .i64 0, .int .i64 0] 55)) KT none 0 0 0 0
  rw [World.size_alloc, World.size_alloc] at b3
  have o3 := (Below.refl ((w.alloc (.cells #[.string x.k, .int .i64 x.t, .int .u16 x.o, .string x.v, .int .i64 x.u] 60)).alloc (.cells #[.string ⟨#[]⟩, .slice none 0 0, .int .i64 0, .int .i64 0] 55)).heap.size ((w.alloc (.cells #[.string x.k, .int .i64 x.t, .int .u16 x.o, .string x.v, .int .i64 x.u] 60)).alloc (.cells #[.string ⟨#[]⟩, .slice none 0 0, .int .i64 0, .int .i64 0] 55))).alloc (Nat.le_refl _) (.cells #[.string KT, .slice none 0 0, .int .i64 0, .int .i64 0] 55)
  have HT0 := Lib.hid (And.intro n0.1 (show l0.length ≤ 1048576 by omega))
  have HZ := Lib.hid (And.intro ((b1.on o3).on hb1) (And.intro ((b2.on o3).on hb1) (And.intro (b3.on hb1) (And.intro (d3.trans (hb1.mono d3.size)) (And.intro ha1 hb1.size)))))
  have x0 := b1.c0
  have x3 := (b1.on o3).c3
  clear hsrc hc1 ha1 hb1 hO hX1 hB0 n0 d1 d2 d3 b1 b2 b3 o3 hvl hkz hks hvs hl
  obtain ⟨kx, tx, ox, vx, ux⟩ := x
  dsimp only at *
  go_enter Tryz.func28, Tryz.ntmps28
  go_wp2_with (go_at_call 76; refine HB.out.mono ?_; rintro e w2 ⟨⟨a2, c2, rfl, hsrc2, hcap2, hlow2⟩, hb2⟩; refine Hid.out ?_)
  refine Lib.hid ?_
  obtain ⟨b1, b2, b3, d3, ha1, hw1⟩ := HZ.out
  simp only [World.size_alloc] at ha1 hw1
  have hs2 := hb2.size
  have o1 := (Below.refl w2.heap.size w2).alloc (Nat.le_refl _) (.cells #[.slice a2 l0.length c2, .int .i64 e0] 127)
  have st : YSt w (w2.alloc (.cells #[.slice a2 l0.length c2, .int .i64 e0] 127)) w2.heap.size a2 c2 l0 e0 ⟨kx, tx, ox, vx, ux⟩ KT none 0 [] :=
    ⟨(b1.on hb2).on o1, (b2.on hb2).on o1, (b3.on hb2).on o1, World.ownsRow_nil _ _ _ _, ⟨Two.new _ _ _ _, ⟨hsrc2.below o1 (Nat.le_refl _), hcap2, by have := HT0.out; omega, HT0.out.1⟩, fun q hq => by
      obtain ⟨q0, hq0, hqb⟩ := hlow2 q hq
      obtain rfl := Option.some.inj hq0
      omega⟩, (d3.trans (hb2.mono d3.size)).alloc (by omega) _, by omega, fun q hq => by
      obtain ⟨q0, hq0, hqb⟩ := hlow2 q hq
      obtain rfl := Option.some.inj hq0
      omega⟩
  have HST := Lib.hid st
  clear HB HZ hcv b1 b2 b3 d3 ha1 hw1 hs2 o1 st hsrc2 hcap2 hlow2 hb2 x0 x3 g1 hgb hKT
  go_wp2
  generalize w2.alloc (.cells #[.slice a2 l0.length c2, .int .i64 e0] 127) = w3 at *
  generalize w2.heap.size = R at *
  go_loopw [6] (fun v6 wr => ∃ (n : Int) (a : Option Addr) (c : Nat) (l : List UInt8) (e : Int) (a1 : Option Addr) (c1 : Nat) (ms : List Mt), v6 = .int .i64 n ∧ Hid (YSt w wr R a c l e ⟨kx, tx, ox, vx, ux⟩ KT a1 c1 ms) ∧ Hid (RdS ⟨kx, tx, ox, vx, ux⟩ ms l e) ∧ Hid (l.length ≤ 1048576) ∧ Hid (ms.length ≤ 9 ∧ ∀ m ∈ ms, m.1.size ≤ 1048576)) (fun _ wr => leftY R wr)
  case atStart => exact ⟨0, a2, c2, l0, e0, none, 0, [], rfl, HST, HRD0, Lib.hid HT0.out.2, Lib.hid ⟨by simp, by simp⟩⟩
  case round =>
    obtain ⟨n, a, c, l, e, a1, c1, ms, rfl, HS, HRD, HLL, HMM⟩ := hrel
    clear HST HRD0 HT0
    have r0 := HS.out.rd.blk.c0; have r1 := HS.out.rd.blk.c1
    have HMo := Lib.hid (refMore_any a c l e wr HS.out.rd.xs.src HS.out.rd.xs.err)
    have HLe := Lib.hid HS.out.rd.leftY
    by_cases hm : moreB l = true
    · rw [hm] at HMo
      obtain ⟨y, l', hly⟩ : ∃ y l', l = y :: l' := by
        cases l with
        | nil => simp [moreB] at hm
        | cons y l' => exact ⟨y, l', rfl⟩
      obtain ⟨b, o, rfl, hcell⟩ : ∃ b o, a = some ⟨b, o, none⟩ ∧ wr.cell? ⟨b, o, none⟩ = some (.int .u8 (y.toNat : Int)) := by
        rcases HS.out.rd.xs.src with ⟨_, h0⟩ | ⟨q, c', e', hcell⟩
        · rw [hly] at h0; cases h0
        · simp only [Value.slice.injEq] at e'
          obtain ⟨rfl, -, -⟩ := e'
          have h0 := hcell 0 (by rw [hly]; simp)
          obtain ⟨b, o, s⟩ := q
          obtain rfl : s = none := by simpa [Addr.add] using World.cell?_spot h0
          rw [Go.WideShapes.add_plain] at h0
          refine ⟨b, o, rfl, ?_⟩
          simpa [hly] using h0
      have HCL := Lib.hid hcell
      have hn1 : 0 < l.length := by rw [hly]; simp
      have hLL := HLL.out
      by_cases hy : y = 105
      · have HCL : Hid (wr.cell? ⟨b, o, none⟩ = some (.int .u8 105)) := Lib.hid (by rw [hcell, hy]; rfl)
        have HEXIT : Hid (isM l = false ∨ 8 < ms.length) := Lib.hid (.inl (by rw [hly, hy]; simp [isM]))
        clear hy hly hm hcell
        go_wp2_with (go_at_call 77; refine HMo.out.mono ?_; rintro r w4 ⟨rfl, hb4⟩; refine Hid.out ?_)
        refine Lib.hid ?_
        have HS4 := Lib.hid (HS.out.on hb4)
        clear r0 r1 HMo
        have r0 := HS4.out.rd.blk.c0; have r1 := HS4.out.rd.blk.c1
        have q1 := HS4.out.sil.c1
        have hcell : w4.cell? ⟨b, o, none⟩ = some (.int .u8 105) := (hb4.cell (p := ⟨b, o, none⟩) (World.block_lt_of_cell? wr _ HCL.out)).trans HCL.out
        have hbl := World.block_lt_of_cell? w4 _ hcell
        clear hb4 HS HCL
        have s4 := HS4.out
        obtain ⟨l5, e5, va, hT5⟩ : ∃ l5 e5 va, intE e l = (l5, e5, va) := ⟨_, _, _, rfl⟩
        obtain ⟨l7, e7, vb, hT7⟩ : ∃ l7 e7 vb, intE e5 l5 = (l7, e7, vb) := ⟨_, _, _, rfl⟩
        have HU := Lib.hid (HRD.out.ends HEXIT.out hT5 hT7)
        have HT := Lib.hid (And.intro (intE_err hT5) (intE_err hT7))
        have HI1 := Lib.hid (refInt_full _ c l e w4 s4.rd.xs hT5)
        have HT7 := Lib.hid hT7
        clear hT5 hT7 s4 HRD HEXIT
        go_wp2_with (go_at_call 79; refine HI1.out.mono ?_; rintro r w5 ⟨⟨a5, c5, rfl, hsrc5, hcap5, hlow5⟩, hb5⟩; refine Hid.out ?_)
        refine Lib.hid ?_
        have s5 := HS4.out.on hb5
        clear r0 r1
        have z0 := s5.rd.blk.c0; have z1 := s5.rd.blk.c1; have z2 := s5.rd.blk.fr
        have hrl := s5.rd.blk.lt
        have s6 := s5.put hsrc5 hcap5 (by have := HT.out; have := HLL.out; omega) HT.out.1.1 hlow5
        have r0 := s6.rd.blk.c0; have r1 := s6.rd.blk.c1
        have HI2 := Lib.hid (refInt_full a5 c5 l5 e5 _ s6.rd.xs HT7.out)
        have HS6 := Lib.hid s6
        clear hsrc5 hcap5 hlow5 hb5 s5 s6 HS4 HI1 HT7
        go_wp2_with (go_at_call 79; refine HI2.out.mono ?_; rintro r w7 ⟨⟨a7, c7, rfl, hsrc7, hcap7, hlow7⟩, hb7⟩; refine Hid.out ?_)
        refine Lib.hid ?_
        have s7 := HS6.out.on hb7
        clear r0 r1 z0 z1 z2 hrl
        have z0 := s7.rd.blk.c0; have z1 := s7.rd.blk.c1; have z2 := s7.rd.blk.fr
        have hrl := s7.rd.blk.lt
        have hRw := s7.lt
        have s8 := s7.put hsrc7 hcap7 (by have := HT.out; have := HLL.out; omega) HT.out.2.1 hlow7
        have v0 := s8.sil.c0; have v1 := s8.sil.c1; have v2 := s8.sil.c2; have v3 := s8.sil.c3
        have t0 := s7.sil.c0; have t1 := s7.sil.c1; have t2 := s7.sil.c2; have t3 := s7.sil.c3
        have tf := s7.sil.f 2; have tg := s7.sil.f 3
        have vf := s8.sil.f 2; have vg := s8.sil.f 3
        have s9 := s8.nums va vb
        have HSZ := s9.lt
        have HS9 := Lib.hid s9
        have u0 := s9.sil.c0; have u1 := s9.sil.c1; have u2 := s9.sil.c2; have u3 := s9.sil.c3
        have x1 := s9.ent.c1; have x2 := s9.ent.c2
        dsimp only at x1 x2
        have HE := Lib.hid (yEntry_any ⟨KT, ms, va, vb⟩ a1 c1 tx ox _ s9.mts (by have := HMM.out.1; show ms.length ≤ 9223372036854775807; omega) (by have := HKZ.out; show KT.size ≤ 9223372036854775807; omega) (fun m hm => by have := HMM.out.2 m hm; omega) ms.length rfl)
        dsimp only at HE
        clear hsrc7 hcap7 hlow7 hb7 s7 s8 s9 HS6 HI2
        generalize hA : ansS ⟨KT, ms, va, vb⟩ tx ox = A at HE
        generalize hE : entryE ⟨KT, ms, va, vb⟩ tx = E at HE
        have HAE := Lib.hid (And.intro hA hE)
        clear hA hE
        go_wp2_with (go_at_call 24; refine HE.out.mono ?_; rintro e9 w9 ⟨rfl, q9⟩; refine Hid.out ?_)
        refine Lib.hid ?_
        have qa := (Below.refl w9.heap.size w9).alloc (Nat.le_refl _) (.cells #[.string A.k, .int .i64 A.t, .int .u16 A.o, .string A.v, .int .i64 A.u] 60)
        have ab := EBlk.new w9 A
        have sA := (HS9.out.on q9).on qa
        clear z0 z1 z2 hrl hRw v0 v1 v2 v3 t0 t1 t2 t3 tf tg vf vg u0 u1 u2 u3 x1 x2 HE HS9 q9 qa HSZ
        have z1 := sA.err
        have hUU : Hid (∀ s, IsE s ⟨kx, tx, ox, vx, ux⟩ → e7 = 0 ∧ IsE ⟨KT, ms, va, vb⟩ ⟨kx, tx, ox, vx, ux⟩) := Lib.hid (fun s hs => by
          obtain ⟨p1, p2, p3, p4⟩ := HU.out s hs
          have p5 : s.id = KT := HID.out s hs
          obtain ⟨sid, sms, sst, sen⟩ := s
          dsimp only at p2 p3 p4 p5
          subst p2 p3 p4 p5
          exact ⟨p1, hs⟩)
        have y0 := sA.ans.c0; have y1 := sA.ans.c1; have y2 := sA.ans.c2; have y3 := sA.ans.c3; have f0 := sA.ans.f 0; have f1 := sA.ans.f 1; have f2 := sA.ans.f 2; have f3 := sA.ans.f 3
        by_cases h7 : e7 = 0
        · have he7 : (e7 != 0) = false := by rw [h7]; rfl
          have H7 := Lib.hid h7
          clear h7
          by_cases hE0 : E = 0
          · subst hE0
            by_cases hAx : A = ⟨kx, tx, ox, vx, ux⟩
            · have hne := fun u => run_neE A ⟨kx, tx, ox, vx, ux⟩ u
              rw [(eqEn_iff A ⟨kx, tx, ox, vx, ux⟩).2 hAx] at hne
              dsimp only at hne
              have HIS : Hid (IsE ⟨KT, ms, va, vb⟩ ⟨kx, tx, ox, vx, ux⟩) := Lib.hid (by
                obtain ⟨p1, p2⟩ := HAE.out
                unfold ansS at p1
                rw [if_pos p2] at p1
                exact ⟨p2, p1.trans hAx⟩)
              have g0 := ab.c0; have g1 := ab.c1; have g2 := ab.c2; have g3 := ab.c3; have g4 := ab.c4
              have x0 := sA.ent.c0; have x1 := sA.ent.c1; have x2 := sA.ent.c2; have x3 := sA.ent.c3; have x4 := sA.ent.c4
              have u0 := sA.sil.c0; have u1 := sA.sil.c1; have u2 := sA.sil.c2; have u3 := sA.sil.c3
              dsimp only at x0 x1 x2 x3 x4
              have HF := Lib.hid (sA.ans.store KT a1 ms.length c1 va vb)
              have HQ := Lib.hid (stS_below sA.low (show w.heap.size ≤ w.heap.size + 1 by omega) KT a1 ms.length c1 va vb)
              have HFar := Lib.hid sA.far
              have HM := Lib.hid (MtsAt.grownS (id := KT) (a1 := a1) (n := ms.length) (c := c1) (st := va) (en := vb) sA.mts sA.ans)
              clear sA ab hAx HU hUU HAE
              go_wp2
              refine bodyPost_ret (v := .tuple #[.agg #[.string KT, .slice a1 ms.length c1, .int .i64 va, .int .i64 vb], .bool true]) (by have b5 := HF.out; have z0 := b5.c0; have z1 := b5.c1; have z2 := b5.c2; have z3 := b5.c3; unfold stS at z0 z1 z2 z3; simp [results, Tryz.results28, go_sem, z0, z1, z2, z3]) rfl ?_
              exact ⟨.inl ⟨⟨KT, ms, va, vb⟩, a1, c1, HIS.out, rfl, HM.out, HFar.out⟩, HQ.out⟩
            · have hne := fun u => run_neE A ⟨kx, tx, ox, vx, ux⟩ u
              rw [eqEn_no hAx] at hne
              dsimp only at hne
              have HNO : Hid (∀ s, ¬ IsE s ⟨kx, tx, ox, vx, ux⟩) := Lib.hid (fun s hs => by
                obtain ⟨-, p3, p4⟩ := hUU.out s hs
                obtain ⟨p1, p2⟩ := HAE.out
                unfold ansS at p1
                rw [if_pos p2] at p1
                exact hAx (p1.symm.trans p4))
              have g0 := ab.c0; have g1 := ab.c1; have g2 := ab.c2; have g3 := ab.c3; have g4 := ab.c4
              have x0 := sA.ent.c0; have x1 := sA.ent.c1; have x2 := sA.ent.c2; have x3 := sA.ent.c3; have x4 := sA.ent.c4
              dsimp only at x0 x1 x2 x3 x4
              have HF := Lib.hid (sA.ans.store ⟨#[]⟩ none 0 0 0 0)
              have HQ := Lib.hid (stS_below sA.low (show w.heap.size ≤ w.heap.size + 1 by omega) ⟨#[]⟩ none 0 0 0 0)
              clear sA ab hAx HU hUU HAE
              go_wp2
              refine bodyPost_ret (v := .tuple #[.agg #[.string ⟨#[]⟩, .slice none 0 0, .int .i64 0, .int .i64 0], .bool false]) (by have b5 := HF.out; have z0 := b5.c0; have z1 := b5.c1; have z2 := b5.c2; have z3 := b5.c3; unfold stS at z0 z1 z2 z3; simp [results, Tryz.results28, go_sem, z0, z1, z2, z3]) rfl ?_
              exact ⟨.inr ⟨HNO.out, rfl⟩, HQ.out⟩
          · have hEb : ((E : Int) != 0) = true := by simpa using hE0
            have HNO : Hid (∀ s, ¬ IsE s ⟨kx, tx, ox, vx, ux⟩) := Lib.hid (fun s hs => by
              obtain ⟨-, p3, -⟩ := hUU.out s hs
              exact hE0 (HAE.out.2.symm.trans p3))
            have HF := Lib.hid (sA.ans.store ⟨#[]⟩ none 0 0 0 0)
            have HQ := Lib.hid (stS_below sA.low (show w.heap.size ≤ w.heap.size + 1 by omega) ⟨#[]⟩ none 0 0 0 0)
            clear sA ab hE0 HU hUU HAE
            go_wp2
            refine bodyPost_ret (v := .tuple #[.agg #[.string ⟨#[]⟩, .slice none 0 0, .int .i64 0, .int .i64 0], .bool false]) (by have b5 := HF.out; have z0 := b5.c0; have z1 := b5.c1; have z2 := b5.c2; have z3 := b5.c3; unfold stS at z0 z1 z2 z3; simp [results, Tryz.results28, go_sem, z0, z1, z2, z3]) rfl ?_
            exact ⟨.inr ⟨HNO.out, rfl⟩, HQ.out⟩
        · have he7 : (e7 != 0) = true := by simpa using h7
          have HNO : Hid (∀ s, ¬ IsE s ⟨kx, tx, ox, vx, ux⟩) := Lib.hid (fun s hs => h7 (hUU.out s hs).1)
          have HF := Lib.hid (sA.ans.store ⟨#[]⟩ none 0 0 0 0)
          have HQ := Lib.hid (stS_below sA.low (show w.heap.size ≤ w.heap.size + 1 by omega) ⟨#[]⟩ none 0 0 0 0)
          clear sA ab h7 HU hUU HAE
          go_wp2
          refine bodyPost_ret (v := .tuple #[.agg #[.string ⟨#[]⟩, .slice none 0 0, .int .i64 0, .int .i64 0], .bool false]) (by have b5 := HF.out; have z0 := b5.c0; have z1 := b5.c1; have z2 := b5.c2; have z3 := b5.c3; unfold stS at z0 z1 z2 z3; simp [results, Tryz.results28, go_sem, z0, z1, z2, z3]) rfl ?_
          exact ⟨.inr ⟨HNO.out, rfl⟩, HQ.out⟩
      · have hyb : ((y.toNat : Int) != 105) = true := by
          simp only [bne_iff_ne, ne_eq]
          intro e
          exact hy (UInt8.toNat_inj.1 (by simpa using (by omega : y.toNat = 105)))
        have hisM : isM l = true := by
          rw [hly] at hm ⊢
          simp [isM, hm, hy]
        clear hy hly hm hcell
        by_cases h8 : 8 < ms.length
        · have h8' : ¬ (ms.length : Int) ≤ 8 := by omega
          have HEXIT : Hid (isM l = false ∨ 8 < ms.length) := Lib.hid (.inr h8)
          clear h8 hisM
          go_wp2_with (go_at_call 77; refine HMo.out.mono ?_; rintro r w4 ⟨rfl, hb4⟩; refine Hid.out ?_)
          refine Lib.hid ?_
          have HS4 := Lib.hid (HS.out.on hb4)
          clear r0 r1 HMo
          have r0 := HS4.out.rd.blk.c0; have r1 := HS4.out.rd.blk.c1
          have q1 := HS4.out.sil.c1
          have hcell : w4.cell? ⟨b, o, none⟩ = some (.int .u8 (y.toNat : Int)) := (hb4.cell (p := ⟨b, o, none⟩) (World.block_lt_of_cell? wr _ HCL.out)).trans HCL.out
          have hbl := World.block_lt_of_cell? w4 _ hcell
          clear hb4 HS HCL
          have s4 := HS4.out
          obtain ⟨l5, e5, va, hT5⟩ : ∃ l5 e5 va, intE e l = (l5, e5, va) := ⟨_, _, _, rfl⟩
          obtain ⟨l7, e7, vb, hT7⟩ : ∃ l7 e7 vb, intE e5 l5 = (l7, e7, vb) := ⟨_, _, _, rfl⟩
          have HU := Lib.hid (HRD.out.ends HEXIT.out hT5 hT7)
          have HT := Lib.hid (And.intro (intE_err hT5) (intE_err hT7))
          have HI1 := Lib.hid (refInt_full _ c l e w4 s4.rd.xs hT5)
          have HT7 := Lib.hid hT7
          clear hT5 hT7 s4 HRD HEXIT
          go_wp2_with (go_at_call 79; refine HI1.out.mono ?_; rintro r w5 ⟨⟨a5, c5, rfl, hsrc5, hcap5, hlow5⟩, hb5⟩; refine Hid.out ?_)
          refine Lib.hid ?_
          have s5 := HS4.out.on hb5
          clear r0 r1
          have z0 := s5.rd.blk.c0; have z1 := s5.rd.blk.c1; have z2 := s5.rd.blk.fr
          have hrl := s5.rd.blk.lt
          have s6 := s5.put hsrc5 hcap5 (by have := HT.out; have := HLL.out; omega) HT.out.1.1 hlow5
          have r0 := s6.rd.blk.c0; have r1 := s6.rd.blk.c1
          have HI2 := Lib.hid (refInt_full a5 c5 l5 e5 _ s6.rd.xs HT7.out)
          have HS6 := Lib.hid s6
          clear hsrc5 hcap5 hlow5 hb5 s5 s6 HS4 HI1 HT7
          go_wp2_with (go_at_call 79; refine HI2.out.mono ?_; rintro r w7 ⟨⟨a7, c7, rfl, hsrc7, hcap7, hlow7⟩, hb7⟩; refine Hid.out ?_)
          refine Lib.hid ?_
          have s7 := HS6.out.on hb7
          clear r0 r1 z0 z1 z2 hrl
          have z0 := s7.rd.blk.c0; have z1 := s7.rd.blk.c1; have z2 := s7.rd.blk.fr
          have hrl := s7.rd.blk.lt
          have hRw := s7.lt
          have s8 := s7.put hsrc7 hcap7 (by have := HT.out; have := HLL.out; omega) HT.out.2.1 hlow7
          have v0 := s8.sil.c0; have v1 := s8.sil.c1; have v2 := s8.sil.c2; have v3 := s8.sil.c3
          have t0 := s7.sil.c0; have t1 := s7.sil.c1; have t2 := s7.sil.c2; have t3 := s7.sil.c3
          have tf := s7.sil.f 2; have tg := s7.sil.f 3
          have vf := s8.sil.f 2; have vg := s8.sil.f 3
          have s9 := s8.nums va vb
          have HSZ := s9.lt
          have HS9 := Lib.hid s9
          have u0 := s9.sil.c0; have u1 := s9.sil.c1; have u2 := s9.sil.c2; have u3 := s9.sil.c3
          have x1 := s9.ent.c1; have x2 := s9.ent.c2
          dsimp only at x1 x2
          have HE := Lib.hid (yEntry_any ⟨KT, ms, va, vb⟩ a1 c1 tx ox _ s9.mts (by have := HMM.out.1; show ms.length ≤ 9223372036854775807; omega) (by have := HKZ.out; show KT.size ≤ 9223372036854775807; omega) (fun m hm => by have := HMM.out.2 m hm; omega) ms.length rfl)
          dsimp only at HE
          clear hsrc7 hcap7 hlow7 hb7 s7 s8 s9 HS6 HI2
          generalize hA : ansS ⟨KT, ms, va, vb⟩ tx ox = A at HE
          generalize hE : entryE ⟨KT, ms, va, vb⟩ tx = E at HE
          have HAE := Lib.hid (And.intro hA hE)
          clear hA hE
          go_wp2_with (go_at_call 24; refine HE.out.mono ?_; rintro e9 w9 ⟨rfl, q9⟩; refine Hid.out ?_)
          refine Lib.hid ?_
          have qa := (Below.refl w9.heap.size w9).alloc (Nat.le_refl _) (.cells #[.string A.k, .int .i64 A.t, .int .u16 A.o, .string A.v, .int .i64 A.u] 60)
          have ab := EBlk.new w9 A
          have sA := (HS9.out.on q9).on qa
          clear z0 z1 z2 hrl hRw v0 v1 v2 v3 t0 t1 t2 t3 tf tg vf vg u0 u1 u2 u3 x1 x2 HE HS9 q9 qa HSZ
          have z1 := sA.err
          have hUU : Hid (∀ s, IsE s ⟨kx, tx, ox, vx, ux⟩ → e7 = 0 ∧ IsE ⟨KT, ms, va, vb⟩ ⟨kx, tx, ox, vx, ux⟩) := Lib.hid (fun s hs => by
            obtain ⟨p1, p2, p3, p4⟩ := HU.out s hs
            have p5 : s.id = KT := HID.out s hs
            obtain ⟨sid, sms, sst, sen⟩ := s
            dsimp only at p2 p3 p4 p5
            subst p2 p3 p4 p5
            exact ⟨p1, hs⟩)
          have y0 := sA.ans.c0; have y1 := sA.ans.c1; have y2 := sA.ans.c2; have y3 := sA.ans.c3; have f0 := sA.ans.f 0; have f1 := sA.ans.f 1; have f2 := sA.ans.f 2; have f3 := sA.ans.f 3
          by_cases h7 : e7 = 0
          · have he7 : (e7 != 0) = false := by rw [h7]; rfl
            have H7 := Lib.hid h7
            clear h7
            by_cases hE0 : E = 0
            · subst hE0
              by_cases hAx : A = ⟨kx, tx, ox, vx, ux⟩
              · have hne := fun u => run_neE A ⟨kx, tx, ox, vx, ux⟩ u
                rw [(eqEn_iff A ⟨kx, tx, ox, vx, ux⟩).2 hAx] at hne
                dsimp only at hne
                have HIS : Hid (IsE ⟨KT, ms, va, vb⟩ ⟨kx, tx, ox, vx, ux⟩) := Lib.hid (by
                  obtain ⟨p1, p2⟩ := HAE.out
                  unfold ansS at p1
                  rw [if_pos p2] at p1
                  exact ⟨p2, p1.trans hAx⟩)
                have g0 := ab.c0; have g1 := ab.c1; have g2 := ab.c2; have g3 := ab.c3; have g4 := ab.c4
                have x0 := sA.ent.c0; have x1 := sA.ent.c1; have x2 := sA.ent.c2; have x3 := sA.ent.c3; have x4 := sA.ent.c4
                have u0 := sA.sil.c0; have u1 := sA.sil.c1; have u2 := sA.sil.c2; have u3 := sA.sil.c3
                dsimp only at x0 x1 x2 x3 x4
                have HF := Lib.hid (sA.ans.store KT a1 ms.length c1 va vb)
                have HQ := Lib.hid (stS_below sA.low (show w.heap.size ≤ w.heap.size + 1 by omega) KT a1 ms.length c1 va vb)
                have HFar := Lib.hid sA.far
                have HM := Lib.hid (MtsAt.grownS (id := KT) (a1 := a1) (n := ms.length) (c := c1) (st := va) (en := vb) sA.mts sA.ans)
                clear sA ab hAx HU hUU HAE
                go_wp2
                refine bodyPost_ret (v := .tuple #[.agg #[.string KT, .slice a1 ms.length c1, .int .i64 va, .int .i64 vb], .bool true]) (by have b5 := HF.out; have z0 := b5.c0; have z1 := b5.c1; have z2 := b5.c2; have z3 := b5.c3; unfold stS at z0 z1 z2 z3; simp [results, Tryz.results28, go_sem, z0, z1, z2, z3]) rfl ?_
                exact ⟨.inl ⟨⟨KT, ms, va, vb⟩, a1, c1, HIS.out, rfl, HM.out, HFar.out⟩, HQ.out⟩
              · have hne := fun u => run_neE A ⟨kx, tx, ox, vx, ux⟩ u
                rw [eqEn_no hAx] at hne
                dsimp only at hne
                have HNO : Hid (∀ s, ¬ IsE s ⟨kx, tx, ox, vx, ux⟩) := Lib.hid (fun s hs => by
                  obtain ⟨-, p3, p4⟩ := hUU.out s hs
                  obtain ⟨p1, p2⟩ := HAE.out
                  unfold ansS at p1
                  rw [if_pos p2] at p1
                  exact hAx (p1.symm.trans p4))
                have g0 := ab.c0; have g1 := ab.c1; have g2 := ab.c2; have g3 := ab.c3; have g4 := ab.c4
                have x0 := sA.ent.c0; have x1 := sA.ent.c1; have x2 := sA.ent.c2; have x3 := sA.ent.c3; have x4 := sA.ent.c4
                dsimp only at x0 x1 x2 x3 x4
                have HF := Lib.hid (sA.ans.store ⟨#[]⟩ none 0 0 0 0)
                have HQ := Lib.hid (stS_below sA.low (show w.heap.size ≤ w.heap.size + 1 by omega) ⟨#[]⟩ none 0 0 0 0)
                clear sA ab hAx HU hUU HAE
                go_wp2
                refine bodyPost_ret (v := .tuple #[.agg #[.string ⟨#[]⟩, .slice none 0 0, .int .i64 0, .int .i64 0], .bool false]) (by have b5 := HF.out; have z0 := b5.c0; have z1 := b5.c1; have z2 := b5.c2; have z3 := b5.c3; unfold stS at z0 z1 z2 z3; simp [results, Tryz.results28, go_sem, z0, z1, z2, z3]) rfl ?_
                exact ⟨.inr ⟨HNO.out, rfl⟩, HQ.out⟩
            · have hEb : ((E : Int) != 0) = true := by simpa using hE0
              have HNO : Hid (∀ s, ¬ IsE s ⟨kx, tx, ox, vx, ux⟩) := Lib.hid (fun s hs => by
                obtain ⟨-, p3, -⟩ := hUU.out s hs
                exact hE0 (HAE.out.2.symm.trans p3))
              have HF := Lib.hid (sA.ans.store ⟨#[]⟩ none 0 0 0 0)
              have HQ := Lib.hid (stS_below sA.low (show w.heap.size ≤ w.heap.size + 1 by omega) ⟨#[]⟩ none 0 0 0 0)
              clear sA ab hE0 HU hUU HAE
              go_wp2
              refine bodyPost_ret (v := .tuple #[.agg #[.string ⟨#[]⟩, .slice none 0 0, .int .i64 0, .int .i64 0], .bool false]) (by have b5 := HF.out; have z0 := b5.c0; have z1 := b5.c1; have z2 := b5.c2; have z3 := b5.c3; unfold stS at z0 z1 z2 z3; simp [results, Tryz.results28, go_sem, z0, z1, z2, z3]) rfl ?_
              exact ⟨.inr ⟨HNO.out, rfl⟩, HQ.out⟩
          · have he7 : (e7 != 0) = true := by simpa using h7
            have HNO : Hid (∀ s, ¬ IsE s ⟨kx, tx, ox, vx, ux⟩) := Lib.hid (fun s hs => h7 (hUU.out s hs).1)
            have HF := Lib.hid (sA.ans.store ⟨#[]⟩ none 0 0 0 0)
            have HQ := Lib.hid (stS_below sA.low (show w.heap.size ≤ w.heap.size + 1 by omega) ⟨#[]⟩ none 0 0 0 0)
            clear sA ab h7 HU hUU HAE
            go_wp2
            refine bodyPost_ret (v := .tuple #[.agg #[.string ⟨#[]⟩, .slice none 0 0, .int .i64 0, .int .i64 0], .bool false]) (by have b5 := HF.out; have z0 := b5.c0; have z1 := b5.c1; have z2 := b5.c2; have z3 := b5.c3; unfold stS at z0 z1 z2 z3; simp [results, Tryz.results28, go_sem, z0, z1, z2, z3]) rfl ?_
            exact ⟨.inr ⟨HNO.out, rfl⟩, HQ.out⟩
        · have h8' : (ms.length : Int) ≤ 8 := by omega
          have H8 := Lib.hid h8
          clear h8
          go_wp2_with (go_at_call 77; refine HMo.out.mono ?_; rintro r w4 ⟨rfl, hb4⟩; refine Hid.out ?_)
          refine Lib.hid ?_
          have HS4 := Lib.hid (HS.out.on hb4)
          clear r0 r1 HMo
          have r0 := HS4.out.rd.blk.c0; have r1 := HS4.out.rd.blk.c1
          have q1 := HS4.out.sil.c1
          have hcell : w4.cell? ⟨b, o, none⟩ = some (.int .u8 (y.toNat : Int)) := (hb4.cell (p := ⟨b, o, none⟩) (World.block_lt_of_cell? wr _ HCL.out)).trans HCL.out
          have hbl := World.block_lt_of_cell? w4 _ hcell
          have he0 : e = 0 := Classical.byContradiction fun h => by
            have h1 := HS4.out.rd.xs.err h
            have h2 := isM_cons hisM
            rw [h1] at h2
            exact absurd h2 (by simp)
          subst he0
          obtain ⟨l1, e1, s1, hT1⟩ : ∃ l1 e1 s1, textE 16 0 l = (l1, e1, s1) := ⟨_, _, _, rfl⟩
          obtain ⟨l2, e2, n2, hT2⟩ : ∃ l2 e2 n2, intE e1 l1 = (l2, e2, n2) := ⟨_, _, _, rfl⟩
          obtain ⟨l3, e3, s3, hT3⟩ : ∃ l3 e3 s3, textE 64 e2 l2 = (l3, e3, s3) := ⟨_, _, _, rfl⟩
          have HU := Lib.hid (HRD.out.more hisM hT1 hT2 hT3)
          have hless := textE_less hT1 (isM_cons hisM)
          have HT := Lib.hid (And.intro (textE_err hT1) (And.intro (intE_err hT2) (And.intro (textE_err hT3) (And.intro hless (And.intro (textY_short hT1) (textY_short hT3))))))
          obtain ⟨k8, hw8, HK8⟩ : ∃ k8 : Nat, IntKind.u8.wrap n2 = (k8 : Int) ∧ Hid ((n2 % 256).toNat = k8) := ⟨(n2 % 256).toNat, by rw [IntKind.wrap_u8]; omega, Lib.hid rfl⟩
          have s5 := HS4.out.on ((Below.refl w4.heap.size w4).alloc (Nat.le_refl _) (.cells #[.string ⟨#[]⟩, .int .u8 0, .string ⟨#[]⟩] 131))
          have m5 : MtBlk (w4.alloc (.cells #[.string ⟨#[]⟩, .int .u8 0, .string ⟨#[]⟩] 131)) w4.heap.size (⟨#[]⟩, 0, ⟨#[]⟩) := newE w4 _
          have HI1 := Lib.hid (refText_full (some ⟨b, o, none⟩) c l 0 16 _ s5.rd.xs hT1)
          have HHT := Lib.hid (And.intro hT2 hT3)
          have hMR : R < w4.heap.size := HS4.out.rd.blk.lt
          have HMX := Lib.hid (show some w4.heap.size ≠ (Value.slice a1 ms.length c1).ownBlock from fun e => by have := (World.ownsRow.lt HS4.out.row _ e.symm).2; omega)
          have HZ5 := Lib.hid (And.intro s5 m5)
          clear hT1 hT2 hT3 hless s5 m5 HRD hisM HS HS4
          go_wp2_with (go_at_call 78; refine HI1.out.mono ?_; rintro r w5 ⟨⟨a5, c5, rfl, hsrc5, hcap5, hlow5⟩, hb5⟩; refine Hid.out ?_)
          refine Lib.hid ?_
          have s6 := HZ5.out.1.on hb5
          have m6 := HZ5.out.2.below hb5
          clear r0 r1 hb4 q1 hcell hbl HCL
          have z0 := s6.rd.blk.c0; have z1 := s6.rd.blk.c1; have z2 := s6.rd.blk.fr
          have hrl := s6.rd.blk.lt
          have hml := m6.lt
          generalize w4.heap.size = M at *
          have p0 := m6.cell0; have p1 := m6.cell1; have p2 := m6.cell2; have pf := m6.fz 0
          have s7 := (s6.put hsrc5 hcap5 (by have := HT.out; have := HLL.out; omega) HT.out.1.1 hlow5).set M 0 hMR (.string ⟨s1.toArray⟩) HMX.out
          have m7 := ((m6.off (p := ⟨R, 0, none⟩) (by show M ≠ R; omega) (.slice a5 l1.length c5)).off (p := ⟨R, 1, none⟩) (by show M ≠ R; omega) (.int .i64 e1)).st0 ⟨s1.toArray⟩
          have r0 := s7.rd.blk.c0; have r1 := s7.rd.blk.c1
          have HI2 := Lib.hid (refInt_full a5 c5 l1 e1 _ s7.rd.xs HHT.out.1)
          have HZ7 := Lib.hid (And.intro s7 m7)
          clear hsrc5 hcap5 hlow5 hb5 s6 m6 s7 m7 HZ5 HI1
          go_wp2_with (go_at_call 79; refine HI2.out.mono ?_; rintro r w7 ⟨⟨a7, c7, rfl, hsrc7, hcap7, hlow7⟩, hb7⟩; refine Hid.out ?_)
          refine Lib.hid ?_
          have s8 := HZ7.out.1.on hb7
          have m8 := HZ7.out.2.below hb7
          clear r0 r1 z0 z1 z2 hrl hml p0 p1 p2 pf
          have z0 := s8.rd.blk.c0; have z1 := s8.rd.blk.c1; have z2 := s8.rd.blk.fr
          have hrl := s8.rd.blk.lt
          have s9 := s8.put hsrc7 hcap7 (by have := HT.out; have := HLL.out; omega) HT.out.2.1.1 hlow7
          have m9 := (m8.off (p := ⟨R, 0, none⟩) (by show M ≠ R; omega) (.slice a7 l2.length c7)).off (p := ⟨R, 1, none⟩) (by show M ≠ R; omega) (.int .i64 e2)
          have r0 := s9.rd.blk.c0; have r1 := s9.rd.blk.c1
          have HI3 := Lib.hid (refText_full a7 c7 l2 e2 64 _ s9.rd.xs HHT.out.2)
          have HZ9 := Lib.hid (And.intro s9 m9)
          clear hsrc7 hcap7 hlow7 hb7 s8 m8 s9 m9 HZ7 HI2 HHT
          go_wp2_with (go_at_call 78; refine HI3.out.mono ?_; rintro r w8 ⟨⟨a8, c8, rfl, hsrc8, hcap8, hlow8⟩, hb8⟩; refine Hid.out ?_)
          refine Lib.hid ?_
          have sA := HZ9.out.1.on hb8
          have mA := HZ9.out.2.below hb8
          clear r0 r1 z0 z1 z2 hrl
          have z0 := sA.rd.blk.c0; have z1 := sA.rd.blk.c1; have z2 := sA.rd.blk.fr
          have hrl := sA.rd.blk.lt
          have hml := mA.lt
          have hRw := sA.lt
          have p0 := mA.cell0; have p1 := mA.cell1; have p2 := mA.cell2; have pf := mA.fz 1; have pg := mA.fz 2
          have sB := ((sA.put hsrc8 hcap8 (by have := HT.out; have := HLL.out; omega) HT.out.2.2.1.1 hlow8).set M 2 hMR (.string ⟨s3.toArray⟩) HMX.out).set M 1 hMR (.int .u8 (k8 : Int)) HMX.out
          have mB := (((mA.off (p := ⟨R, 0, none⟩) (by show M ≠ R; omega) (.slice a8 l3.length c8)).off (p := ⟨R, 1, none⟩) (by show M ≠ R; omega) (.int .i64 e3)).st2 ⟨s3.toArray⟩).st1 k8
          have HZB := Lib.hid (And.intro sB mB)
          clear hsrc8 hcap8 hlow8 hb8 sA mA sB mB HZ9 HI3
          by_cases hbad : n2 < 0 ∨ 3 < n2
          · have HNO : Hid (∀ s, ¬ IsE s ⟨kx, tx, ox, vx, ux⟩) := Lib.hid (fun s hs => by
              obtain ⟨⟨p3, p4⟩, -⟩ := HU.out s hs
              omega)
            have sB := HZB.out.1
            have y0 := sB.ans.c0; have y1 := sB.ans.c1; have y2 := sB.ans.c2; have y3 := sB.ans.c3; have f0 := sB.ans.f 0; have f1 := sB.ans.f 1; have f2 := sB.ans.f 2; have f3 := sB.ans.f 3
            have HF := Lib.hid (sB.ans.store ⟨#[]⟩ none 0 0 0 0)
            have HQ := Lib.hid (stS_below sB.low (show w.heap.size ≤ w.heap.size + 1 by omega) ⟨#[]⟩ none 0 0 0 0)
            clear sB HZB HU
            rcases hbad with hbad | hbad
            · go_wp2
              refine bodyPost_ret (v := .tuple #[.agg #[.string ⟨#[]⟩, .slice none 0 0, .int .i64 0, .int .i64 0], .bool false]) (by have b5 := HF.out; have z0 := b5.c0; have z1 := b5.c1; have z2 := b5.c2; have z3 := b5.c3; unfold stS at z0 z1 z2 z3; simp [results, Tryz.results28, go_sem, z0, z1, z2, z3]) rfl ?_
              exact ⟨.inr ⟨HNO.out, rfl⟩, HQ.out⟩
            · have hb0 : ¬ n2 < 0 := by omega
              go_wp2
              refine bodyPost_ret (v := .tuple #[.agg #[.string ⟨#[]⟩, .slice none 0 0, .int .i64 0, .int .i64 0], .bool false]) (by have b5 := HF.out; have z0 := b5.c0; have z1 := b5.c1; have z2 := b5.c2; have z3 := b5.c3; unfold stS at z0 z1 z2 z3; simp [results, Tryz.results28, go_sem, z0, z1, z2, z3]) rfl ?_
              exact ⟨.inr ⟨HNO.out, rfl⟩, HQ.out⟩
          · have hb0 : ¬ n2 < 0 := by omega
            have hb3 : ¬ 3 < n2 := by omega
            clear hbad
            have sB := HZB.out.1
            have mB := HZB.out.2
            have y1 := sB.sil.c1; have yf := sB.sil.f 1
            have c0 := mB.cell0; have c1' := mB.cell1; have c2 := mB.cell2
            have hown := (World.ownsRow.alloc sB.row (.cells #[.string ⟨s1.toArray⟩, .int .u8 (k8 : Int), .string ⟨s3.toArray⟩] 131))
            have e5 := (Below.refl ((((w8.setCell ⟨R, 0, none⟩ (.slice a8 l3.length c8)).setCell ⟨R, 1, none⟩ (.int .i64 e3)).setCell ⟨M, 2, none⟩ (.string ⟨s3.toArray⟩)).setCell ⟨M, 1, none⟩ (.int .u8 (k8 : Int))).heap.size ((((w8.setCell ⟨R, 0, none⟩ (.slice a8 l3.length c8)).setCell ⟨R, 1, none⟩ (.int .i64 e3)).setCell ⟨M, 2, none⟩ (.string ⟨s3.toArray⟩)).setCell ⟨M, 1, none⟩ (.int .u8 (k8 : Int)))).alloc (Nat.le_refl _) (.cells #[.string ⟨s1.toArray⟩, .int .u8 (k8 : Int), .string ⟨s3.toArray⟩] 131)
            have hnew : (((((w8.setCell ⟨R, 0, none⟩ (.slice a8 l3.length c8)).setCell ⟨R, 1, none⟩ (.int .i64 e3)).setCell ⟨M, 2, none⟩ (.string ⟨s3.toArray⟩)).setCell ⟨M, 1, none⟩ (.int .u8 (k8 : Int))).alloc (.cells #[.string ⟨s1.toArray⟩, .int .u8 (k8 : Int), .string ⟨s3.toArray⟩] 131)).heap[w8.heap.size]? = some (.cells #[.string ⟨s1.toArray⟩, .int .u8 (k8 : Int), .string ⟨s3.toArray⟩] 131) := by
              have := newE ((((w8.setCell ⟨R, 0, none⟩ (.slice a8 l3.length c8)).setCell ⟨R, 1, none⟩ (.int .i64 e3)).setCell ⟨M, 2, none⟩ (.string ⟨s3.toArray⟩)).setCell ⟨M, 1, none⟩ (.int .u8 (k8 : Int))) (.cells #[.string ⟨s1.toArray⟩, .int .u8 (k8 : Int), .string ⟨s3.toArray⟩] 131)
              rwa [World.size_setCell, World.size_setCell, World.size_setCell, World.size_setCell] at this
            have hz : R + 1 ≤ (((((w8.setCell ⟨R, 0, none⟩ (.slice a8 l3.length c8)).setCell ⟨R, 1, none⟩ (.int .i64 e3)).setCell ⟨M, 2, none⟩ (.string ⟨s3.toArray⟩)).setCell ⟨M, 1, none⟩ (.int .u8 (k8 : Int))).alloc (.cells #[.string ⟨s1.toArray⟩, .int .u8 (k8 : Int), .string ⟨s3.toArray⟩] 131)).heap.size := by
              simp only [World.size_alloc, World.size_setCell]
              omega
            have hbd : ms.length + 1 ≤ 100 := by have := HMM.out.1; omega
            have HSA := Lib.hid (And.intro (sB.on e5) hz)
            clear sB mB e5
            go_wp2_with (at_builtin; refine Hid.out ?_)
            refine Lib.hid ?_
            refine wpList_append_own_at _ rfl _ _ 48 rfl (R + 1) 131 i0 (.agg #[.string ⟨#[]⟩, .int .u8 0, .string ⟨#[]⟩]) 3 40 Tryz.underlying48 hi hz0 hz1 hz2 rfl (by decide) _ _ _ rfl hown ⟨w8.heap.size, 0, none⟩ 1 1 [.string ⟨s1.toArray⟩, .int .u8 (k8 : Int), .string ⟨s3.toArray⟩] rfl rfl (World.news_of_block (cs := #[.string ⟨s1.toArray⟩, .int .u8 (k8 : Int), .string ⟨s3.toArray⟩]) hnew) (by intro u' hu'; simp at hu'; rcases hu' with rfl | rfl | rfl <;> rfl) (by unfold maxLen; omega) (by omega) hz ?_
            intro v' w9 hown9 hg9 _ _
            obtain ⟨g', cap', rfl⟩ := ownsRow_succ hown9
            obtain ⟨sA, hz⟩ := HSA.out
            have hrow : OwnSm w9 (R + 1) (.slice (some ⟨g', 0, none⟩) (ms ++ [((⟨s1.toArray⟩, k8, ⟨s3.toArray⟩) : Mt)]).length cap') (ms ++ [((⟨s1.toArray⟩, k8, ⟨s3.toArray⟩) : Mt)]) := by
              have e : cellsMs (ms ++ [((⟨s1.toArray⟩, k8, ⟨s3.toArray⟩) : Mt)]) = cellsMs ms ++ [.string ⟨s1.toArray⟩, .int .u8 (k8 : Int), .string ⟨s3.toArray⟩] := by rw [cellsMs_append]; rfl
              unfold OwnSm
              rw [e, List.length_append]
              exact hown9
            have hb9 : Below (R + 1) (((((w8.setCell ⟨R, 0, none⟩ (.slice a8 l3.length c8)).setCell ⟨R, 1, none⟩ (.int .i64 e3)).setCell ⟨M, 2, none⟩ (.string ⟨s3.toArray⟩)).setCell ⟨M, 1, none⟩ (.int .u8 (k8 : Int))).alloc (.cells #[.string ⟨s1.toArray⟩, .int .u8 (k8 : Int), .string ⟨s3.toArray⟩] 131)) w9 := (Below.refl (R + 1) _).grown hg9 hz (fun k e => (World.ownsRow.lt sA.row k e).1)
            have s9 := sA.sil.far hb9 (by omega)
            have st := sA.push hrow hg9
            rw [show (ms ++ [((⟨s1.toArray⟩, k8, ⟨s3.toArray⟩) : Mt)]).length = ms.length + 1 by simp] at st
            clear y1 yf c0 c1' c2 p0 p1 p2 pf pg z0 z1 z2 hnew hown hown9 hg9 hrow hb9 sA HSA HZB
            have y1 := s9.c1; have yf := s9.f 1
            have HST := Lib.hid st
            have HRD2 : Hid (RdS ⟨kx, tx, ox, vx, ux⟩ (ms ++ [((⟨s1.toArray⟩, k8, ⟨s3.toArray⟩) : Mt)]) l3 e3) := Lib.hid (fun s hs => by
              obtain ⟨-, p1, k, p2, p3, p4⟩ := HU.out s hs
              exact ⟨p1, k, p2, by rw [← HK8.out]; exact p3, p4⟩)
            have HML : Hid (l3.length < l.length ∧ l3.length ≤ 1048576 ∧ (ms ++ [((⟨s1.toArray⟩, k8, ⟨s3.toArray⟩) : Mt)]).length ≤ 9 ∧ ∀ m ∈ ms ++ [((⟨s1.toArray⟩, k8, ⟨s3.toArray⟩) : Mt)], m.1.size ≤ 1048576) := Lib.hid (by
              obtain ⟨⟨-, a1⟩, ⟨-, a2⟩, ⟨-, a3⟩, a4, a5, a6⟩ := HT.out
              have b1 := HLL.out
              have b2 := H8.out
              refine ⟨by omega, by omega, by simp; omega, fun m hm => ?_⟩
              rcases List.mem_append.1 hm with hm | hm
              · exact HMM.out.2 m hm
              · simp only [List.mem_singleton] at hm
                subst hm
                show s1.toArray.size ≤ 1048576
                simp
                omega)
            clear st s9 HU HT HMM HLL H8 HK8
            go_wp2
            go_roundw
            case rel => exact ⟨n2, a8, c8, l3, e3, _, _, _, rfl, HST, HRD2, Lib.hid HML.out.2.1, Lib.hid HML.out.2.2⟩
            case measure => rw [HLe.out]; exact HST.out.rd.leftY.symm ▸ HML.out.1
    · have hm' : moreB l = false := by simpa using hm
      rw [hm'] at HMo
      have HEXIT : Hid (isM l = false ∨ 8 < ms.length) := Lib.hid (.inl (by simp [isM, hm']))
      clear hm hm'
      go_wp2_with (go_at_call 77; refine HMo.out.mono ?_; rintro r w4 ⟨rfl, hb4⟩; refine Hid.out ?_)
      refine Lib.hid ?_
      have HS4 := Lib.hid (HS.out.on hb4)
      clear r0 r1 HMo
      have r0 := HS4.out.rd.blk.c0; have r1 := HS4.out.rd.blk.c1
      have q1 := HS4.out.sil.c1
      clear hb4 HS
      have s4 := HS4.out
      obtain ⟨l5, e5, va, hT5⟩ : ∃ l5 e5 va, intE e l = (l5, e5, va) := ⟨_, _, _, rfl⟩
      obtain ⟨l7, e7, vb, hT7⟩ : ∃ l7 e7 vb, intE e5 l5 = (l7, e7, vb) := ⟨_, _, _, rfl⟩
      have HU := Lib.hid (HRD.out.ends HEXIT.out hT5 hT7)
      have HT := Lib.hid (And.intro (intE_err hT5) (intE_err hT7))
      have HI1 := Lib.hid (refInt_full _ c l e w4 s4.rd.xs hT5)
      have HT7 := Lib.hid hT7
      clear hT5 hT7 s4 HRD HEXIT
      go_wp2_with (go_at_call 79; refine HI1.out.mono ?_; rintro r w5 ⟨⟨a5, c5, rfl, hsrc5, hcap5, hlow5⟩, hb5⟩; refine Hid.out ?_)
      refine Lib.hid ?_
      have s5 := HS4.out.on hb5
      clear r0 r1
      have z0 := s5.rd.blk.c0; have z1 := s5.rd.blk.c1; have z2 := s5.rd.blk.fr
      have hrl := s5.rd.blk.lt
      have s6 := s5.put hsrc5 hcap5 (by have := HT.out; have := HLL.out; omega) HT.out.1.1 hlow5
      have r0 := s6.rd.blk.c0; have r1 := s6.rd.blk.c1
      have HI2 := Lib.hid (refInt_full a5 c5 l5 e5 _ s6.rd.xs HT7.out)
      have HS6 := Lib.hid s6
      clear hsrc5 hcap5 hlow5 hb5 s5 s6 HS4 HI1 HT7
      go_wp2_with (go_at_call 79; refine HI2.out.mono ?_; rintro r w7 ⟨⟨a7, c7, rfl, hsrc7, hcap7, hlow7⟩, hb7⟩; refine Hid.out ?_)
      refine Lib.hid ?_
      have s7 := HS6.out.on hb7
      clear r0 r1 z0 z1 z2 hrl
      have z0 := s7.rd.blk.c0; have z1 := s7.rd.blk.c1; have z2 := s7.rd.blk.fr
      have hrl := s7.rd.blk.lt
      have hRw := s7.lt
      have s8 := s7.put hsrc7 hcap7 (by have := HT.out; have := HLL.out; omega) HT.out.2.1 hlow7
      have v0 := s8.sil.c0; have v1 := s8.sil.c1; have v2 := s8.sil.c2; have v3 := s8.sil.c3
      have t0 := s7.sil.c0; have t1 := s7.sil.c1; have t2 := s7.sil.c2; have t3 := s7.sil.c3
      have tf := s7.sil.f 2; have tg := s7.sil.f 3
      have vf := s8.sil.f 2; have vg := s8.sil.f 3
      have s9 := s8.nums va vb
      have HSZ := s9.lt
      have HS9 := Lib.hid s9
      have u0 := s9.sil.c0; have u1 := s9.sil.c1; have u2 := s9.sil.c2; have u3 := s9.sil.c3
      have x1 := s9.ent.c1; have x2 := s9.ent.c2
      dsimp only at x1 x2
      have HE := Lib.hid (yEntry_any ⟨KT, ms, va, vb⟩ a1 c1 tx ox _ s9.mts (by have := HMM.out.1; show ms.length ≤ 9223372036854775807; omega) (by have := HKZ.out; show KT.size ≤ 9223372036854775807; omega) (fun m hm => by have := HMM.out.2 m hm; omega) ms.length rfl)
      dsimp only at HE
      clear hsrc7 hcap7 hlow7 hb7 s7 s8 s9 HS6 HI2
      generalize hA : ansS ⟨KT, ms, va, vb⟩ tx ox = A at HE
      generalize hE : entryE ⟨KT, ms, va, vb⟩ tx = E at HE
      have HAE := Lib.hid (And.intro hA hE)
      clear hA hE
      go_wp2_with (go_at_call 24; refine HE.out.mono ?_; rintro e9 w9 ⟨rfl, q9⟩; refine Hid.out ?_)
      refine Lib.hid ?_
      have qa := (Below.refl w9.heap.size w9).alloc (Nat.le_refl _) (.cells #[.string A.k, .int .i64 A.t, .int .u16 A.o, .string A.v, .int .i64 A.u] 60)
      have ab := EBlk.new w9 A
      have sA := (HS9.out.on q9).on qa
      clear z0 z1 z2 hrl hRw v0 v1 v2 v3 t0 t1 t2 t3 tf tg vf vg u0 u1 u2 u3 x1 x2 HE HS9 q9 qa HSZ
      have z1 := sA.err
      have hUU : Hid (∀ s, IsE s ⟨kx, tx, ox, vx, ux⟩ → e7 = 0 ∧ IsE ⟨KT, ms, va, vb⟩ ⟨kx, tx, ox, vx, ux⟩) := Lib.hid (fun s hs => by
        obtain ⟨p1, p2, p3, p4⟩ := HU.out s hs
        have p5 : s.id = KT := HID.out s hs
        obtain ⟨sid, sms, sst, sen⟩ := s
        dsimp only at p2 p3 p4 p5
        subst p2 p3 p4 p5
        exact ⟨p1, hs⟩)
      have y0 := sA.ans.c0; have y1 := sA.ans.c1; have y2 := sA.ans.c2; have y3 := sA.ans.c3; have f0 := sA.ans.f 0; have f1 := sA.ans.f 1; have f2 := sA.ans.f 2; have f3 := sA.ans.f 3
      by_cases h7 : e7 = 0
      · have he7 : (e7 != 0) = false := by rw [h7]; rfl
        have H7 := Lib.hid h7
        clear h7
        by_cases hE0 : E = 0
        · subst hE0
          by_cases hAx : A = ⟨kx, tx, ox, vx, ux⟩
          · have hne := fun u => run_neE A ⟨kx, tx, ox, vx, ux⟩ u
            rw [(eqEn_iff A ⟨kx, tx, ox, vx, ux⟩).2 hAx] at hne
            dsimp only at hne
            have HIS : Hid (IsE ⟨KT, ms, va, vb⟩ ⟨kx, tx, ox, vx, ux⟩) := Lib.hid (by
              obtain ⟨p1, p2⟩ := HAE.out
              unfold ansS at p1
              rw [if_pos p2] at p1
              exact ⟨p2, p1.trans hAx⟩)
            have g0 := ab.c0; have g1 := ab.c1; have g2 := ab.c2; have g3 := ab.c3; have g4 := ab.c4
            have x0 := sA.ent.c0; have x1 := sA.ent.c1; have x2 := sA.ent.c2; have x3 := sA.ent.c3; have x4 := sA.ent.c4
            have u0 := sA.sil.c0; have u1 := sA.sil.c1; have u2 := sA.sil.c2; have u3 := sA.sil.c3
            dsimp only at x0 x1 x2 x3 x4
            have HF := Lib.hid (sA.ans.store KT a1 ms.length c1 va vb)
            have HQ := Lib.hid (stS_below sA.low (show w.heap.size ≤ w.heap.size + 1 by omega) KT a1 ms.length c1 va vb)
            have HFar := Lib.hid sA.far
            have HM := Lib.hid (MtsAt.grownS (id := KT) (a1 := a1) (n := ms.length) (c := c1) (st := va) (en := vb) sA.mts sA.ans)
            clear sA ab hAx HU hUU HAE
            go_wp2
            refine bodyPost_ret (v := .tuple #[.agg #[.string KT, .slice a1 ms.length c1, .int .i64 va, .int .i64 vb], .bool true]) (by have b5 := HF.out; have z0 := b5.c0; have z1 := b5.c1; have z2 := b5.c2; have z3 := b5.c3; unfold stS at z0 z1 z2 z3; simp [results, Tryz.results28, go_sem, z0, z1, z2, z3]) rfl ?_
            exact ⟨.inl ⟨⟨KT, ms, va, vb⟩, a1, c1, HIS.out, rfl, HM.out, HFar.out⟩, HQ.out⟩
          · have hne := fun u => run_neE A ⟨kx, tx, ox, vx, ux⟩ u
            rw [eqEn_no hAx] at hne
            dsimp only at hne
            have HNO : Hid (∀ s, ¬ IsE s ⟨kx, tx, ox, vx, ux⟩) := Lib.hid (fun s hs => by
              obtain ⟨-, p3, p4⟩ := hUU.out s hs
              obtain ⟨p1, p2⟩ := HAE.out
              unfold ansS at p1
              rw [if_pos p2] at p1
              exact hAx (p1.symm.trans p4))
            have g0 := ab.c0; have g1 := ab.c1; have g2 := ab.c2; have g3 := ab.c3; have g4 := ab.c4
            have x0 := sA.ent.c0; have x1 := sA.ent.c1; have x2 := sA.ent.c2; have x3 := sA.ent.c3; have x4 := sA.ent.c4
            dsimp only at x0 x1 x2 x3 x4
            have HF := Lib.hid (sA.ans.store ⟨#[]⟩ none 0 0 0 0)
            have HQ := Lib.hid (stS_below sA.low (show w.heap.size ≤ w.heap.size + 1 by omega) ⟨#[]⟩ none 0 0 0 0)
            clear sA ab hAx HU hUU HAE
            go_wp2
            refine bodyPost_ret (v := .tuple #[.agg #[.string ⟨#[]⟩, .slice none 0 0, .int .i64 0, .int .i64 0], .bool false]) (by have b5 := HF.out; have z0 := b5.c0; have z1 := b5.c1; have z2 := b5.c2; have z3 := b5.c3; unfold stS at z0 z1 z2 z3; simp [results, Tryz.results28, go_sem, z0, z1, z2, z3]) rfl ?_
            exact ⟨.inr ⟨HNO.out, rfl⟩, HQ.out⟩
        · have hEb : ((E : Int) != 0) = true := by simpa using hE0
          have HNO : Hid (∀ s, ¬ IsE s ⟨kx, tx, ox, vx, ux⟩) := Lib.hid (fun s hs => by
            obtain ⟨-, p3, -⟩ := hUU.out s hs
            exact hE0 (HAE.out.2.symm.trans p3))
          have HF := Lib.hid (sA.ans.store ⟨#[]⟩ none 0 0 0 0)
          have HQ := Lib.hid (stS_below sA.low (show w.heap.size ≤ w.heap.size + 1 by omega) ⟨#[]⟩ none 0 0 0 0)
          clear sA ab hE0 HU hUU HAE
          go_wp2
          refine bodyPost_ret (v := .tuple #[.agg #[.string ⟨#[]⟩, .slice none 0 0, .int .i64 0, .int .i64 0], .bool false]) (by have b5 := HF.out; have z0 := b5.c0; have z1 := b5.c1; have z2 := b5.c2; have z3 := b5.c3; unfold stS at z0 z1 z2 z3; simp [results, Tryz.results28, go_sem, z0, z1, z2, z3]) rfl ?_
          exact ⟨.inr ⟨HNO.out, rfl⟩, HQ.out⟩
      · have he7 : (e7 != 0) = true := by simpa using h7
        have HNO : Hid (∀ s, ¬ IsE s ⟨kx, tx, ox, vx, ux⟩) := Lib.hid (fun s hs => h7 (hUU.out s hs).1)
        have HF := Lib.hid (sA.ans.store ⟨#[]⟩ none 0 0 0 0)
        have HQ := Lib.hid (stS_below sA.low (show w.heap.size ≤ w.heap.size + 1 by omega) ⟨#[]⟩ none 0 0 0 0)
        clear sA ab h7 HU hUU HAE
        go_wp2
        refine bodyPost_ret (v := .tuple #[.agg #[.string ⟨#[]⟩, .slice none 0 0, .int .i64 0, .int .i64 0], .bool false]) (by have b5 := HF.out; have z0 := b5.c0; have z1 := b5.c1; have z2 := b5.c2; have z3 := b5.c3; unfold stS at z0 z1 z2 z3; simp [results, Tryz.results28, go_sem, z0, z1, z2, z3]) rfl ?_
        exact ⟨.inr ⟨HNO.out, rfl⟩, HQ.out⟩

theorem yOf_any (x : Ent) (hvs : x.v.size ≤ 1048576) (hks : x.k.size ≤ 1048576) (w : World) : Calls Tryz.prog 28 #[.agg #[.string x.k, .int .i64 x.t, .int .u16 x.o, .string x.v, .int .i64 x.u]] w (YOf x w) := by
  have hkz : x.k.data.toList.length = x.k.size := rfl
  cases hl : x.k.data.toList with
  | nil =>
    rw [hl] at hkz
    exact yOf_k0 x w hkz.symm (fun s hs => by rw [key_cut hs] at hl; cases hl)
  | cons b0 r0 =>
    by_cases hb : b0 = 115
    · rw [hb] at hl
      exact yOf_main x hvs hks w r0 hl
    · rw [hl] at hkz
      exact yOf_k1 x w (by rw [← hkz]; simp) b0 r0 hl hb (fun s hs => by
        rw [key_cut hs] at hl
        simp only [List.cons.injEq] at hl
        exact hb hl.1.symm)

end Go.Proofs.YtcngifkoopcmeaaGreatDoor
