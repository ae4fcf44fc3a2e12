/-
  What Of of package silence tells.
-/
import Derived.Test.YtfllfmdopfeecabGreatDoorSB
import Derived.Test.YtfllfmdopfeecabGreatDoorSC
import Derived.Shelf.Small.Wraps
namespace Go.Proofs.YtfllfmdopfeecabGreatDoor
open Go Go.RowKit Go.Shelf

theorem rdMs_len0 {v : List UInt8} {ms : List Mt} {st en : Int} (h : readS v = (ms, st, en)) : ms.length ≤ v.length := by
  have := rdMs_len v.length (byteE 108 0 v).2 (byteE 108 0 v).1
  have e : (readS v).1 = ms := by rw [h]
  rw [← e]
  exact this
def sB1 : ByteArray := ⟨#[115]⟩
def cutK (k : ByteArray) : ByteArray := ⟨(Lib.trimPrefix k.data.toList sB1.data.toList).toArray⟩
def hasK (k : ByteArray) : Bool := Lib.hasPrefix k.data.toList sB1.data.toList
theorem cutK_any (k : ByteArray) (w : World) : Calls Tryz.prog 24 #[.string k, .string ⟨#[115]⟩] w fun e w' => e = .returned (.tuple #[.string (cutK k), .bool (hasK k)]) ∧ w' = w :=
  Any.strings_CutPrefix Tryz.lCutPrefix k sB1 w
theorem hasK_key (id : ByteArray) : hasK (keyS id) = true ∧ cutK (keyS id) = id := by
  have e : (keyS id).data.toList = 115 :: id.data.toList := by simp [keyS]
  have e2 : sB1.data.toList = [115] := rfl
  constructor
  · unfold hasK
    rw [e, e2]
    simp [Lib.hasPrefix]
  · unfold cutK
    rw [e, e2]
    refine bytes_ext ?_
    simp [Lib.trimPrefix, Lib.hasPrefix]
theorem hasK_of {k : ByteArray} (h : hasK k = true) : k = keyS (cutK k) := by
  unfold hasK at h
  have e2 : sB1.data.toList = [115] := rfl
  rw [e2] at h
  cases hq : k.data.toList with
  | nil => rw [hq] at h; simp [Lib.hasPrefix] at h
  | cons y r =>
    rw [hq] at h
    have hy : y = 115 := by
      have h1 : (115 : UInt8) = y := by simpa [Lib.hasPrefix] using h
      exact h1.symm
    subst hy
    refine bytes_ext ?_
    have : (keyS (cutK k)).data.toList = 115 :: (cutK k).data.toList := by simp [keyS]
    rw [this, hq]
    unfold cutK
    rw [hq, e2]
    simp [Lib.trimPrefix, Lib.hasPrefix]

theorem SBlk.store {w : World} {B : Nat} {id : ByteArray} {a : Option Addr} {n c : Nat} {st en : Int} (h : SBlk w B id a n c st en) (id' : ByteArray) (a' : Option Addr) (n' c' : Nat) (st' en' : Int) :
    SBlk ((((w.setCell ⟨B, 0, none⟩ (.string id')).setCell ⟨B, 1, none⟩ (.slice a' n' c')).setCell ⟨B, 2, none⟩ (.int .i64 st')).setCell ⟨B, 3, none⟩ (.int .i64 en')) B id' a' n' c' st' en' := (((h.set0 id').set1 a' n' c').set2 st').set3 en'
def stS (w : World) (B : Nat) (id' : ByteArray) (a' : Option Addr) (n' c' : Nat) (st' en' : Int) : World := (((w.setCell ⟨B, 0, none⟩ (.string id')).setCell ⟨B, 1, none⟩ (.slice a' n' c')).setCell ⟨B, 2, none⟩ (.int .i64 st')).setCell ⟨B, 3, none⟩ (.int .i64 en')
theorem MtsAt.grownS {w : World} {a : Option Addr} {ms : List Mt} {B : Nat} {id0 : ByteArray} {a0 : Option Addr} {n0 c0 : Nat} {st0 en0 : Int} {id : ByteArray} {a1 : Option Addr} {n c : Nat} {st en : Int} (h : MtsAt w a ms) (hs : SBlk w B id0 a0 n0 c0 st0 en0) : MtsAt (stS w B id a1 n c st en) a ms := fun hn => by
  obtain ⟨b, o, rfl, hb, hc⟩ := h hn
  have hne : some b ≠ some B := fun e => by
    obtain rfl := Option.some.inj e
    obtain ⟨h1, h2, -⟩ := hc 0 hn
    have e1 : w.cell? ⟨b, o + 0 * 3, none⟩ = (#[.string id0, .slice a0 n0 c0, .int .i64 st0, .int .i64 en0] : Array Value)[o + 0 * 3]? := cellE hs
    have e2 : w.cell? ⟨b, o + 0 * 3 + 1, none⟩ = (#[.string id0, .slice a0 n0 c0, .int .i64 st0, .int .i64 en0] : Array Value)[o + 0 * 3 + 1]? := cellE hs
    rw [e1] at h1
    rw [e2] at h2
    rcases (by omega : o = 0 ∨ o = 1 ∨ o = 2 ∨ o = 3 ∨ 4 ≤ o) with rfl | rfl | rfl | rfl | h4
    · simp at h2
    · simp at h1
    · simp at h1
    · simp at h1
    · rw [Array.getElem?_eq_none (by simp; omega)] at h1
      cases h1
  have g : w.grownBy (stS w B id a1 n c st en) (some B) := grownBy_trans (grownBy_trans (grownBy_trans (grownBy_setCell _ _ _ _) (grownBy_setCell _ _ _ _)) (grownBy_setCell _ _ _ _)) (grownBy_setCell _ _ _ _)
  refine ⟨b, o, rfl, Nat.lt_of_lt_of_le hb g.size, fun i hi => ?_⟩
  obtain ⟨h1, h2, h3⟩ := hc i hi
  exact ⟨g.cell h1 hne, g.cell h2 hne, g.cell h3 hne⟩
theorem stS_below {N B : Nat} {u w : World} (h : Below N u w) (hB : N ≤ B) (id' : ByteArray) (a' : Option Addr) (n' c' : Nat) (st' en' : Int) : Below N u (stS w B id' a' n' c' st' en') :=
  (((h.setCell (p := ⟨B, 0, none⟩) hB _).setCell (p := ⟨B, 1, none⟩) hB _).setCell (p := ⟨B, 2, none⟩) hB _).setCell (p := ⟨B, 3, none⟩) hB _

set_option maxRecDepth 100000 in
set_option maxHeartbeats 4000000 in
theorem sOf_cut (x : Ent) (w : World) (hk : hasK x.k = false) :
    Calls Tryz.prog 8 #[.agg #[.string x.k, .int .i64 x.t, .int .u16 x.o, .string x.v, .int .i64 x.u]] w fun e w' => e = .returned (.tuple #[.agg #[.string ⟨#[]⟩, .slice none 0 0, .int .i64 0, .int .i64 0], .bool false]) ∧ Below w.heap.size w w' := by
  have d1 := (Below.refl w.heap.size w).alloc (Nat.le_refl _) (.cells #[.string x.k, .int .i64 x.t, .int .u16 x.o, .string x.v, .int .i64 x.u] 24)
  have d2 := d1.alloc (by simp) (.cells #[.string ⟨#[]⟩, .slice none 0 0, .int .i64 0, .int .i64 0] 27)
  have b2 := SBlk.new (w.alloc (.cells #[.string x.k, .int .i64 x.t, .int .u16 x.o, .string x.v, .int .i64 x.u] 24)) ⟨#[]⟩ none 0 0 0 0
  rw [World.size_alloc] at b2
  have hC := cutK_any x.k ((w.alloc (.cells #[.string x.k, .int .i64 x.t, .int .u16 x.o, .string x.v, .int .i64 x.u] 24)).alloc (.cells #[.string ⟨#[]⟩, .slice none 0 0, .int .i64 0, .int .i64 0] 27))
  rw [hk] at hC
  have HC := Lib.hid hC
  have HB4 := Lib.hid b2
  have HQ := Lib.hid d2
  clear d1 d2 b2 hC hk
  generalize cutK x.k = ck at *
  obtain ⟨kx, tx, ox, vx, ux⟩ := x
  dsimp only at *
  go_enter Tryz.func8, Tryz.ntmps8
  go_wp2_with (go_at_call 24; refine HC.out.mono ?_; rintro e w1 ⟨rfl, rfl⟩)
  refine bodyPost_ret (v := .tuple #[.agg #[.string ⟨#[]⟩, .slice none 0 0, .int .i64 0, .int .i64 0], .bool false]) (by have b5 := HB4.out; have z0 := b5.c0; have z1 := b5.c1; have z2 := b5.c2; have z3 := b5.c3; simp [results, Tryz.results8, go_sem, z0, z1, z2, z3]) rfl ?_
  exact ⟨rfl, HQ.out⟩
set_option maxRecDepth 100000 in
set_option maxHeartbeats 4000000 in
theorem sOf_err (x : Ent) (hvs : x.v.size ≤ 1048576) (B : Nat) (w : World) (hB : B ≤ w.heap.size) (hv : VarsOk B w) (htab : TabW w) (id : ByteArray) (ms : List Mt) (st en : Int) (hk : hasK x.k = true) (hci : cutK x.k = id) (hr : readS x.v.data.toList = (ms, st, en)) (he : entryE ⟨id, ms, st, en⟩ x.t ≠ 0) :
    Calls Tryz.prog 8 #[.agg #[.string x.k, .int .i64 x.t, .int .u16 x.o, .string x.v, .int .i64 x.u]] w fun e w' => e = .returned (.tuple #[.agg #[.string ⟨#[]⟩, .slice none 0 0, .int .i64 0, .int .i64 0], .bool false]) ∧ Below w.heap.size w w' := by
  have d1 := (Below.refl w.heap.size w).alloc (Nat.le_refl _) (.cells #[.string x.k, .int .i64 x.t, .int .u16 x.o, .string x.v, .int .i64 x.u] 24)
  have d2 := d1.alloc (by simp) (.cells #[.string ⟨#[]⟩, .slice none 0 0, .int .i64 0, .int .i64 0] 27)
  have b1 := (EBlk.new w x).on ((Below.refl _ _).alloc (Nat.le_refl _) (.cells #[.string ⟨#[]⟩, .slice none 0 0, .int .i64 0, .int .i64 0] 27))
  have b2 := SBlk.new (w.alloc (.cells #[.string x.k, .int .i64 x.t, .int .u16 x.o, .string x.v, .int .i64 x.u] 24)) ⟨#[]⟩ none 0 0 0 0
  rw [World.size_alloc] at b2
  have HML : Hid (ms.length ≤ 9223372036854775807) := Lib.hid (by have := rdMs_len0 hr; have h9 : x.v.data.toList.length = x.v.size := rfl; omega)
  have hC := cutK_any x.k ((w.alloc (.cells #[.string x.k, .int .i64 x.t, .int .u16 x.o, .string x.v, .int .i64 x.u] 24)).alloc (.cells #[.string ⟨#[]⟩, .slice none 0 0, .int .i64 0, .int .i64 0] 27))
  rw [hk, hci] at hC
  have HC := Lib.hid hC
  have HR := Lib.hid (sread_any x.v hvs B ((w.alloc (.cells #[.string x.k, .int .i64 x.t, .int .u16 x.o, .string x.v, .int .i64 x.u] 24)).alloc (.cells #[.string ⟨#[]⟩, .slice none 0 0, .int .i64 0, .int .i64 0] 27)) (Nat.le_trans hB d2.size) (hv.on (d2.mono hB)) ms st en hr)
  have HB := Lib.hid (And.intro b1 (And.intro b2 d2))
  have HV := Lib.hid (And.intro hB (And.intro hv htab))
  have HE := Lib.hid he
  obtain ⟨n, hn⟩ : ∃ n, n = ms.length := ⟨_, rfl⟩
  have HNN := Lib.hid hn
  rw [← hn] at HR
  clear d1 d2 b1 b2 hC hk hci hv htab hr he hn hB
  obtain ⟨kx, tx, ox, vx, ux⟩ := x
  dsimp only at *
  have htl := HV.out.2.2.lt
  go_enter Tryz.func8, Tryz.ntmps8
  go_wp2_with (go_at_call 24; refine HC.out.mono ?_; rintro e w1 ⟨rfl, rfl⟩)
  go_wp2_with (go_at_call 25; refine HR.out.mono ?_; rintro e w2 ⟨a, c, rfl, hm, hlw, q2⟩; have HLW := Lib.hid hlw; clear hlw; refine Hid.out ?_)
  refine Lib.hid ?_
  obtain ⟨b1, b2, d2⟩ := HB.out
  have c1 := b1.on q2
  have c2 := b2.on q2
  have D2 : Below w.heap.size w w2 := d2.trans (q2.mono d2.size)
  have e3 := (Below.refl w2.heap.size w2).alloc (Nat.le_refl _) (.cells #[.string id, .slice a n c, .int .i64 st, .int .i64 en] 27)
  have D3 : Below w.heap.size w (w2.alloc (.cells #[.string id, .slice a n c, .int .i64 st, .int .i64 en] 27)) := D2.trans (e3.mono D2.size)
  have hm3 := hm.below e3 (Nat.le_refl _)
  have b3 := SBlk.new w2 id a n c st en
  have j1 := c1.on e3
  have j2 := c2.on e3
  have t1 := (j1.c1)
  have t2 := (j1.c2)
  have HF := Lib.hid (And.intro j1 (And.intro j2 (And.intro b3 (And.intro D3 hm3))))
  have hen := sEntry_err ⟨id, ms, st, en⟩ a c tx ox _ (HV.out.2.2.on D3 htl) hm3 HML.out HE.out n HNN.out
  have hEb : ((entryE ⟨id, ms, st, en⟩ tx : Int) != 0) = true := by simpa using HE.out
  dsimp only at hen
  generalize entryE ⟨id, ms, st, en⟩ tx = E at *
  have HEn := Lib.hid hen
  clear hen
  clear b1 b2 d2 c1 c2 D2 e3 D3 hm3 b3 j1 j2 hm q2 HB HR HC
  dsimp only at t1 t2
  go_wp2_with (go_at_call 20; refine HEn.out.mono ?_; rintro e w4 ⟨rfl, q4⟩; refine Hid.out ?_)
  refine Lib.hid ?_
  obtain ⟨j1, j2, b3, D3, hm3⟩ := HF.out
  have l2 := j2.on q4
  have D4 : Below w.heap.size w w4 := D3.trans (q4.mono D3.size)
  have e5 := (Below.refl w4.heap.size w4).alloc (Nat.le_refl _) (.cells #[.string ⟨#[]⟩, .int .i64 0, .int .u16 0, .string ⟨#[]⟩, .int .i64 0] 24)
  have l3 := l2.on e5
  have HB4 := Lib.hid (l3.store ⟨#[]⟩ none 0 0 0 0)
  have HQ := Lib.hid (stS_below (D4.trans (e5.mono D4.size)) (show w.heap.size ≤ w.heap.size + 1 by omega) ⟨#[]⟩ none 0 0 0 0)
  have z0 := l3.c0; have z1 := l3.c1; have z2 := l3.c2; have z3 := l3.c3
  have y0 := l3.f 0; have y1 := l3.f 1; have y2 := l3.f 2; have y3 := l3.f 3
  clear j1 j2 b3 D3 hm3 q4 l2 D4 e5 l3 HF HEn t1 t2
  go_wp2
  refine bodyPost_ret (v := .tuple #[.agg #[.string ⟨#[]⟩, .slice none 0 0, .int .i64 0, .int .i64 0], .bool false]) (by have b5 := HB4.out; have z0 := b5.c0; have z1 := b5.c1; have z2 := b5.c2; have z3 := b5.c3; unfold stS at z0 z1 z2 z3; simp [results, Tryz.results8, go_sem, z0, z1, z2, z3]) rfl ?_
  exact ⟨rfl, HQ.out⟩
set_option maxRecDepth 100000 in
set_option maxHeartbeats 4000000 in
theorem sOf_other (x : Ent) (hvs : x.v.size ≤ 1048576) (B : Nat) (w : World) (hB : B ≤ w.heap.size) (hv : VarsOk B w) (htab : TabW w) (id : ByteArray) (ms : List Mt) (st en : Int) (hk : hasK x.k = true) (hci : cutK x.k = id) (hr : readS x.v.data.toList = (ms, st, en)) (he : entryE ⟨id, ms, st, en⟩ x.t = 0) (hx : entS ⟨id, ms, st, en⟩ x.t x.o ≠ x) :
    Calls Tryz.prog 8 #[.agg #[.string x.k, .int .i64 x.t, .int .u16 x.o, .string x.v, .int .i64 x.u]] w fun e w' => e = .returned (.tuple #[.agg #[.string ⟨#[]⟩, .slice none 0 0, .int .i64 0, .int .i64 0], .bool false]) ∧ Below w.heap.size w w' := by
  have d1 := (Below.refl w.heap.size w).alloc (Nat.le_refl _) (.cells #[.string x.k, .int .i64 x.t, .int .u16 x.o, .string x.v, .int .i64 x.u] 24)
  have d2 := d1.alloc (by simp) (.cells #[.string ⟨#[]⟩, .slice none 0 0, .int .i64 0, .int .i64 0] 27)
  have b1 := (EBlk.new w x).on ((Below.refl _ _).alloc (Nat.le_refl _) (.cells #[.string ⟨#[]⟩, .slice none 0 0, .int .i64 0, .int .i64 0] 27))
  have b2 := SBlk.new (w.alloc (.cells #[.string x.k, .int .i64 x.t, .int .u16 x.o, .string x.v, .int .i64 x.u] 24)) ⟨#[]⟩ none 0 0 0 0
  rw [World.size_alloc] at b2
  have HX := Lib.hid hx
  clear hx
  have hC := cutK_any x.k ((w.alloc (.cells #[.string x.k, .int .i64 x.t, .int .u16 x.o, .string x.v, .int .i64 x.u] 24)).alloc (.cells #[.string ⟨#[]⟩, .slice none 0 0, .int .i64 0, .int .i64 0] 27))
  rw [hk, hci] at hC
  have HC := Lib.hid hC
  have HR := Lib.hid (sread_any x.v hvs B ((w.alloc (.cells #[.string x.k, .int .i64 x.t, .int .u16 x.o, .string x.v, .int .i64 x.u] 24)).alloc (.cells #[.string ⟨#[]⟩, .slice none 0 0, .int .i64 0, .int .i64 0] 27)) (Nat.le_trans hB d2.size) (hv.on (d2.mono hB)) ms st en hr)
  have HB := Lib.hid (And.intro b1 (And.intro b2 d2))
  have HV := Lib.hid (And.intro hB (And.intro hv htab))
  have HE := Lib.hid he
  obtain ⟨n, hn⟩ : ∃ n, n = ms.length := ⟨_, rfl⟩
  have HNN := Lib.hid hn
  rw [← hn] at HR
  clear d1 d2 b1 b2 hC hk hci hv htab hr he hn hB
  obtain ⟨kx, tx, ox, vx, ux⟩ := x
  dsimp only at *
  have htl := HV.out.2.2.lt
  go_enter Tryz.func8, Tryz.ntmps8
  go_wp2_with (go_at_call 24; refine HC.out.mono ?_; rintro e w1 ⟨rfl, rfl⟩)
  go_wp2_with (go_at_call 25; refine HR.out.mono ?_; rintro e w2 ⟨a, c, rfl, hm, hlw, q2⟩; have HLW := Lib.hid hlw; clear hlw; refine Hid.out ?_)
  refine Lib.hid ?_
  obtain ⟨b1, b2, d2⟩ := HB.out
  have c1 := b1.on q2
  have c2 := b2.on q2
  have D2 : Below w.heap.size w w2 := d2.trans (q2.mono d2.size)
  have e3 := (Below.refl w2.heap.size w2).alloc (Nat.le_refl _) (.cells #[.string id, .slice a n c, .int .i64 st, .int .i64 en] 27)
  have D3 : Below w.heap.size w (w2.alloc (.cells #[.string id, .slice a n c, .int .i64 st, .int .i64 en] 27)) := D2.trans (e3.mono D2.size)
  have hm3 := hm.below e3 (Nat.le_refl _)
  have b3 := SBlk.new w2 id a n c st en
  have j1 := c1.on e3
  have j2 := c2.on e3
  have t1 := (j1.c1)
  have t2 := (j1.c2)
  have HF := Lib.hid (And.intro j1 (And.intro j2 (And.intro b3 (And.intro D3 hm3))))
  have hen := sEntry_ok ⟨id, ms, st, en⟩ a c tx ox _ (HV.out.2.2.on D3 htl) hm3 HE.out B (Nat.le_trans HV.out.1 D3.size) (HV.out.2.1.on (D3.mono HV.out.1)) n HNN.out
  dsimp only at hen
  obtain ⟨LV, hLV⟩ : ∃ LV, LV = layS ms st en := ⟨_, rfl⟩
  obtain ⟨KS, hKS⟩ : ∃ KS, KS = keyS id := ⟨_, rfl⟩
  obtain ⟨MX, hMX⟩ : ∃ MX, MX = max en tx := ⟨_, rfl⟩
  rw [← hLV, ← hKS, ← hMX] at hen
  have HLV := Lib.hid (And.intro hLV (And.intro hKS hMX))
  have HEn := Lib.hid hen
  clear hen hLV hKS hMX
  clear b1 b2 d2 c1 c2 D2 e3 D3 hm3 b3 j1 j2 hm q2 HB HR HC
  dsimp only at t1 t2
  go_wp2_with (go_at_call 20; refine HEn.out.mono ?_; rintro e w4 ⟨rfl, q4⟩; refine Hid.out ?_)
  refine Lib.hid ?_
  obtain ⟨j1, j2, b3, D3, hm3⟩ := HF.out
  have hEQ : eqEn ⟨KS, tx, ox, ⟨LV.toArray⟩, MX⟩ ⟨kx, tx, ox, vx, ux⟩ = false := eqEn_no (fun e => HX.out (by
    obtain ⟨e1, e2, e3⟩ := HLV.out
    rw [← e]
    unfold entS
    rw [e1, e2, e3]))
  have l1 := j1.on q4
  have l2 := j2.on q4
  have l5 := b3.on q4
  have D4 : Below w.heap.size w w4 := D3.trans (q4.mono D3.size)
  have e5 := (Below.refl w4.heap.size w4).alloc (Nat.le_refl _) (.cells #[.string KS, .int .i64 tx, .int .u16 ox, .string ⟨LV.toArray⟩, .int .i64 MX] 24)
  have m1 := l1.on e5
  have m2 := l2.on e5
  have m5 := l5.on e5
  have hne := fun u => run_neE ⟨KS, tx, ox, ⟨LV.toArray⟩, MX⟩ ⟨kx, tx, ox, vx, ux⟩ u
  rw [hEQ] at hne
  dsimp only at hne
  have HB4 := Lib.hid (m2.store ⟨#[]⟩ none 0 0 0 0)
  have HQ := Lib.hid (stS_below (D4.trans (e5.mono D4.size)) (show w.heap.size ≤ w.heap.size + 1 by omega) ⟨#[]⟩ none 0 0 0 0)
  have z0 := m2.c0; have z1 := m2.c1; have z2 := m2.c2; have z3 := m2.c3
  have y0 := m2.f 0; have y1 := m2.f 1; have y2 := m2.f 2; have y3 := m2.f 3
  have x0 := m1.c0; have x1 := m1.c1; have x2 := m1.c2; have x3 := m1.c3; have x4 := m1.c4
  dsimp only at x0 x1 x2 x3 x4
  clear j1 j2 b3 D3 hm3 q4 l1 l2 l5 D4 e5 m1 m2 m5 HF HEn t1 t2 hEQ
  go_wp2
  refine bodyPost_ret (v := .tuple #[.agg #[.string ⟨#[]⟩, .slice none 0 0, .int .i64 0, .int .i64 0], .bool false]) (by have b5 := HB4.out; have z0 := b5.c0; have z1 := b5.c1; have z2 := b5.c2; have z3 := b5.c3; unfold stS at z0 z1 z2 z3; simp [results, Tryz.results8, go_sem, z0, z1, z2, z3]) rfl ?_
  exact ⟨rfl, HQ.out⟩
set_option maxRecDepth 100000 in
set_option maxHeartbeats 4000000 in
theorem sOf_yes0 (x : Ent) (hvs : x.v.size ≤ 1048576) (B : Nat) (w : World) (hB : B ≤ w.heap.size) (hv : VarsOk B w) (htab : TabW w) (id : ByteArray) (ms : List Mt) (st en : Int) (hk : hasK x.k = true) (hci : cutK x.k = id) (hr : readS x.v.data.toList = (ms, st, en)) (he : entryE ⟨id, ms, st, en⟩ x.t = 0) (hx : entS ⟨id, ms, st, en⟩ x.t x.o = x) :
    Calls Tryz.prog 8 #[.agg #[.string x.k, .int .i64 x.t, .int .u16 x.o, .string x.v, .int .i64 x.u]] w fun e w' => ∃ a c, e = .returned (.tuple #[.agg #[.string id, .slice a ms.length c, .int .i64 st, .int .i64 en], .bool true]) ∧ MtsAt w' a ms ∧ (∀ q, a = some q → w.heap.size ≤ q.block) ∧ Below w.heap.size w w' := by
  have d1 := (Below.refl w.heap.size w).alloc (Nat.le_refl _) (.cells #[.string x.k, .int .i64 x.t, .int .u16 x.o, .string x.v, .int .i64 x.u] 24)
  have d2 := d1.alloc (by simp) (.cells #[.string ⟨#[]⟩, .slice none 0 0, .int .i64 0, .int .i64 0] 27)
  have b1 := (EBlk.new w x).on ((Below.refl _ _).alloc (Nat.le_refl _) (.cells #[.string ⟨#[]⟩, .slice none 0 0, .int .i64 0, .int .i64 0] 27))
  have b2 := SBlk.new (w.alloc (.cells #[.string x.k, .int .i64 x.t, .int .u16 x.o, .string x.v, .int .i64 x.u] 24)) ⟨#[]⟩ none 0 0 0 0
  rw [World.size_alloc] at b2
  have HX := Lib.hid hx
  clear hx
  have hC := cutK_any x.k ((w.alloc (.cells #[.string x.k, .int .i64 x.t, .int .u16 x.o, .string x.v, .int .i64 x.u] 24)).alloc (.cells #[.string ⟨#[]⟩, .slice none 0 0, .int .i64 0, .int .i64 0] 27))
  rw [hk, hci] at hC
  have HC := Lib.hid hC
  have HR := Lib.hid (sread_any x.v hvs B ((w.alloc (.cells #[.string x.k, .int .i64 x.t, .int .u16 x.o, .string x.v, .int .i64 x.u] 24)).alloc (.cells #[.string ⟨#[]⟩, .slice none 0 0, .int .i64 0, .int .i64 0] 27)) (Nat.le_trans hB d2.size) (hv.on (d2.mono hB)) ms st en hr)
  have HB := Lib.hid (And.intro b1 (And.intro b2 d2))
  have HV := Lib.hid (And.intro hB (And.intro hv htab))
  have HE := Lib.hid he
  obtain ⟨n, hn⟩ : ∃ n, n = ms.length := ⟨_, rfl⟩
  have HNN := Lib.hid hn
  rw [← hn] at HR
  clear d1 d2 b1 b2 hC hk hci hv htab hr he hn hB
  obtain ⟨kx, tx, ox, vx, ux⟩ := x
  dsimp only at *
  have htl := HV.out.2.2.lt
  go_enter Tryz.func8, Tryz.ntmps8
  go_wp2_with (go_at_call 24; refine HC.out.mono ?_; rintro e w1 ⟨rfl, rfl⟩)
  go_wp2_with (go_at_call 25; refine HR.out.mono ?_; rintro e w2 ⟨a, c, rfl, hm, hlw, q2⟩; have HLW := Lib.hid hlw; clear hlw; refine Hid.out ?_)
  refine Lib.hid ?_
  obtain ⟨b1, b2, d2⟩ := HB.out
  have c1 := b1.on q2
  have c2 := b2.on q2
  have D2 : Below w.heap.size w w2 := d2.trans (q2.mono d2.size)
  have e3 := (Below.refl w2.heap.size w2).alloc (Nat.le_refl _) (.cells #[.string id, .slice a n c, .int .i64 st, .int .i64 en] 27)
  have D3 : Below w.heap.size w (w2.alloc (.cells #[.string id, .slice a n c, .int .i64 st, .int .i64 en] 27)) := D2.trans (e3.mono D2.size)
  have hm3 := hm.below e3 (Nat.le_refl _)
  have b3 := SBlk.new w2 id a n c st en
  have j1 := c1.on e3
  have j2 := c2.on e3
  have t1 := (j1.c1)
  have t2 := (j1.c2)
  have HF := Lib.hid (And.intro j1 (And.intro j2 (And.intro b3 (And.intro D3 hm3))))
  have hen := sEntry_ok ⟨id, ms, st, en⟩ a c tx ox _ (HV.out.2.2.on D3 htl) hm3 HE.out B (Nat.le_trans HV.out.1 D3.size) (HV.out.2.1.on (D3.mono HV.out.1)) n HNN.out
  dsimp only at hen
  obtain ⟨LV, hLV⟩ : ∃ LV, LV = layS ms st en := ⟨_, rfl⟩
  obtain ⟨KS, hKS⟩ : ∃ KS, KS = keyS id := ⟨_, rfl⟩
  obtain ⟨MX, hMX⟩ : ∃ MX, MX = max en tx := ⟨_, rfl⟩
  rw [← hLV, ← hKS, ← hMX] at hen
  have HLV := Lib.hid (And.intro hLV (And.intro hKS hMX))
  have HEn := Lib.hid hen
  clear hen hLV hKS hMX
  clear b1 b2 d2 c1 c2 D2 e3 D3 hm3 b3 j1 j2 hm q2 HB HR HC
  dsimp only at t1 t2
  go_wp2_with (go_at_call 20; refine HEn.out.mono ?_; rintro e w4 ⟨rfl, q4⟩; refine Hid.out ?_)
  refine Lib.hid ?_
  obtain ⟨j1, j2, b3, D3, hm3⟩ := HF.out
  have hEQ : eqEn ⟨KS, tx, ox, ⟨LV.toArray⟩, MX⟩ ⟨kx, tx, ox, vx, ux⟩ = true := (eqEn_iff _ _).2 (by
    obtain ⟨e1, e2, e3⟩ := HLV.out
    rw [← HX.out]
    unfold entS
    rw [e1, e2, e3])
  have l1 := j1.on q4
  have l2 := j2.on q4
  have l5 := b3.on q4
  have D4 : Below w.heap.size w w4 := D3.trans (q4.mono D3.size)
  have e5 := (Below.refl w4.heap.size w4).alloc (Nat.le_refl _) (.cells #[.string KS, .int .i64 tx, .int .u16 ox, .string ⟨LV.toArray⟩, .int .i64 MX] 24)
  have m1 := l1.on e5
  have m2 := l2.on e5
  have m5 := l5.on e5
  have hne := fun u => run_neE ⟨KS, tx, ox, ⟨LV.toArray⟩, MX⟩ ⟨kx, tx, ox, vx, ux⟩ u
  rw [hEQ] at hne
  dsimp only at hne
  have HB4 := Lib.hid (m2.store id a n c st en)
  have D5 := D4.trans (e5.mono D4.size)
  have HQ := Lib.hid (stS_below D5 (show w.heap.size ≤ w.heap.size + 1 by omega) id a n c st en)
  have HMt : Hid (MtsAt (stS (w4.alloc (.cells #[.string KS, .int .i64 tx, .int .u16 ox, .string ⟨LV.toArray⟩, .int .i64 MX] 24)) (w.heap.size + 1) id a n c st en) a ms) := Lib.hid (MtsAt.grownS ((hm3.below q4 (Nat.le_refl _)).below e5 (Nat.le_refl _)) m2)
  have z0 := m2.c0; have z1 := m2.c1; have z2 := m2.c2; have z3 := m2.c3
  have y0 := m2.f 0; have y1 := m2.f 1; have y2 := m2.f 2; have y3 := m2.f 3
  have x0 := m1.c0; have x1 := m1.c1; have x2 := m1.c2; have x3 := m1.c3; have x4 := m1.c4
  have u0 := m5.c0; have u1 := m5.c1; have u2 := m5.c2; have u3 := m5.c3
  dsimp only at x0 x1 x2 x3 x4
  clear j1 j2 b3 D3 hm3 q4 l1 l2 l5 D4 e5 m1 m2 m5 HF HEn t1 t2 hEQ D5
  go_wp2
  refine bodyPost_ret (v := .tuple #[.agg #[.string id, .slice a n c, .int .i64 st, .int .i64 en], .bool true]) (by have b5 := HB4.out; have z0 := b5.c0; have z1 := b5.c1; have z2 := b5.c2; have z3 := b5.c3; simp [results, Tryz.results8, go_sem, z0, z1, z2, z3]) rfl ?_
  exact ⟨a, c, by rw [HNN.out], HMt.out, (fun q hq => by have h9 := HLW.out q hq; simp at h9; omega), HQ.out⟩

/-- Of tells the silence of an entry. -/
theorem sOf_yes (x : Ent) (hvs : x.v.size ≤ 1048576) (B : Nat) (w : World) (hB : B ≤ w.heap.size) (hv : VarsOk B w) (htab : TabW w) (s : Sil) (hs : IsE s x) :
    Calls Tryz.prog 8 #[.agg #[.string x.k, .int .i64 x.t, .int .u16 x.o, .string x.v, .int .i64 x.u]] w fun e w' => ∃ a c, e = .returned (.tuple #[.agg #[.string s.id, .slice a s.ms.length c, .int .i64 s.st, .int .i64 s.en], .bool true]) ∧ MtsAt w' a s.ms ∧ (∀ q, a = some q → w.heap.size ≤ q.block) ∧ Below w.heap.size w w' := by
  obtain ⟨hk, ht⟩ := hs.tell
  have e := hasK_key s.id
  rw [← hk] at e
  have hr : readS x.v.data.toList = (s.ms, s.st, s.en) := by
    have e1 := congrArg Sil.ms ht
    have e2 := congrArg Sil.st ht
    have e3 := congrArg Sil.en ht
    simp only [tellS] at e1 e2 e3
    rw [← e1, ← e2, ← e3]
  exact sOf_yes0 x hvs B w hB hv htab s.id s.ms s.st s.en e.1 e.2 hr hs.1 hs.2
/-- Of tells that there is none. -/
theorem sOf_no (x : Ent) (hvs : x.v.size ≤ 1048576) (B : Nat) (w : World) (hB : B ≤ w.heap.size) (hv : VarsOk B w) (htab : TabW w) (hno : ∀ s, ¬ IsE s x) :
    Calls Tryz.prog 8 #[.agg #[.string x.k, .int .i64 x.t, .int .u16 x.o, .string x.v, .int .i64 x.u]] w fun e w' => e = .returned (.tuple #[.agg #[.string ⟨#[]⟩, .slice none 0 0, .int .i64 0, .int .i64 0], .bool false]) ∧ Below w.heap.size w w' := by
  cases hk : hasK x.k with
  | false => exact sOf_cut x w hk
  | true =>
    rcases hr : readS x.v.data.toList with ⟨ms, st, en⟩
    by_cases he : entryE ⟨cutK x.k, ms, st, en⟩ x.t = 0
    · exact sOf_other x hvs B w hB hv htab _ ms st en hk rfl hr he (fun e => hno _ ⟨he, e⟩)
    · exact sOf_err x hvs B w hB hv htab _ ms st en hk rfl hr he

end Go.Proofs.YtfllfmdopfeecabGreatDoor
