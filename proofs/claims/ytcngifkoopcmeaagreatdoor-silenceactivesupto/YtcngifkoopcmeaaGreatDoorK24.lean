/-
  What Of of package silence tells. Arguments of layers 9 and 10, opened: an entry, and a list of entries.
-/
import Derived.Test.YtcngifkoopcmeaaGreatDoorK22
import Derived.Test.YtcngifkoopcmeaaGreatDoorK23
import Derived.Shelf.Small.Wraps
import Derived.Test.YtcngifkoopcmeaaGreatDoorK20
import Derived.Deep.Strs
import Derived.Deep.Slices
import Derived.ProofKit
import Derived.OpenShut
namespace Go.Proofs.YtcngifkoopcmeaaGreatDoor
open Go Go.RowKit Go.Shelf

theorem rdMs_len0 {v : List UInt8} {ms : List Mt} {st en : Int} (h : readS v = (ms, st, en)) : ms.length ≤ v.length := by
  have := rdMs_len v.length (byteE 108 0 v).2 (byteE 108 0 v).1
  have e : (readS v).1 = ms := by rw [h]
  rw [← e]
  exact this
def sB1 : ByteArray := ⟨#[115]⟩
def cutK (k : ByteArray) : ByteArray := ⟨(Lib.trimPrefix k.data.toList sB1.data.toList).toArray⟩
def hasK (k : ByteArray) : Bool := Lib.hasPrefix k.data.toList sB1.data.toList
theorem cutK_any (k : ByteArray) (w : World) : Calls Tryz.prog 74 #[.string k, .string ⟨#[115]⟩] w fun e w' => e = .returned (.tuple #[.string (cutK k), .bool (hasK k)]) ∧ w' = w :=
  Any.strings_CutPrefix Tryz.lCutPrefix k sB1 w
theorem hasK_key (id : ByteArray) : hasK (keyS id) = true ∧ cutK (keyS id) = id := by
  have e : (keyS id).data.toList = 115 :: id.data.toList := by simp [keyS]
  have e2 : sB1.data.toList = [115] := rfl
  constructor
  · unfold hasK
    rw [e, e2]
    simp [Lib.hasPrefix]
  · unfold cutK
    rw [e, e2]
    refine bytes_ext ?_
    simp [Lib.trimPrefix, Lib.hasPrefix]
theorem hasK_of {k : ByteArray} (h : hasK k = true) : k = keyS (cutK k) := by
  unfold hasK at h
  have e2 : sB1.data.toList = [115] := rfl
  rw [e2] at h
  cases hq : k.data.toList with
  | nil => rw [hq] at h; simp [Lib.hasPrefix] at h
  | cons y r =>
    rw [hq] at h
    have hy : y = 115 := by
      have h1 : (115 : UInt8) = y := by simpa [Lib.hasPrefix] using h
      exact h1.symm
    subst hy
    refine bytes_ext ?_
    have : (keyS (cutK k)).data.toList = 115 :: (cutK k).data.toList := by simp [keyS]
    rw [this, hq]
    unfold cutK
    rw [hq, e2]
    simp [Lib.trimPrefix, Lib.hasPrefix]

theorem SBlk.store {w : World} {B : Nat} {id : ByteArray} {a : Option Addr} {n c : Nat} {st en : Int} (h : SBlk w B id a n c st en) (id' : ByteArray) (a' : Option Addr) (n' c' : Nat) (st' en' : Int) :
    SBlk ((((w.setCell ⟨B, 0, none⟩ (.string id')).setCell ⟨B, 1, none⟩ (.slice a' n' c')).setCell ⟨B, 2, none⟩ (.int .i64 st')).setCell ⟨B, 3, none⟩ (.int .i64 en')) B id' a' n' c' st' en' := (((h.set0 id').set1 a' n' c').set2 st').set3 en'
def stS (w : World) (B : Nat) (id' : ByteArray) (a' : Option Addr) (n' c' : Nat) (st' en' : Int) : World := (((w.setCell ⟨B, 0, none⟩ (.string id')).setCell ⟨B, 1, none⟩ (.slice a' n' c')).setCell ⟨B, 2, none⟩ (.int .i64 st')).setCell ⟨B, 3, none⟩ (.int .i64 en')
theorem MtsAt.grownS {w : World} {a : Option Addr} {ms : List Mt} {B : Nat} {id0 : ByteArray} {a0 : Option Addr} {n0 c0 : Nat} {st0 en0 : Int} {id : ByteArray} {a1 : Option Addr} {n c : Nat} {st en : Int} (h : MtsAt w a ms) (hs : SBlk w B id0 a0 n0 c0 st0 en0) : MtsAt (stS w B id a1 n c st en) a ms := fun hn => by
  obtain ⟨b, o, rfl, hb, hc⟩ := h hn
  have hne : some b ≠ some B := fun e => by
    obtain rfl := Option.some.inj e
    obtain ⟨h1, h2, -⟩ := hc 0 hn
    have e1 : w.cell? ⟨b, o + 0 * 3, none⟩ = (#[.string id0, .slice a0 n0 c0, .int .i64 st0, .int .i64 en0] : Array Value)[o + 0 * 3]? := cellE hs
    have e2 : w.cell? ⟨b, o + 0 * 3 + 1, none⟩ = (#[.string id0, .slice a0 n0 c0, .int .i64 st0, .int .i64 en0] : Array Value)[o + 0 * 3 + 1]? := cellE hs
    rw [e1] at h1
    rw [e2] at h2
    rcases (by omega : o = 0 ∨ o = 1 ∨ o = 2 ∨ o = 3 ∨ 4 ≤ o) with rfl | rfl | rfl | rfl | h4
    · simp at h2
    · simp at h1
    · simp at h1
    · simp at h1
    · rw [Array.getElem?_eq_none (by simp; omega)] at h1
      cases h1
  have g : w.grownBy (stS w B id a1 n c st en) (some B) := grownBy_trans (grownBy_trans (grownBy_trans (grownBy_setCell _ _ _ _) (grownBy_setCell _ _ _ _)) (grownBy_setCell _ _ _ _)) (grownBy_setCell _ _ _ _)
  refine ⟨b, o, rfl, Nat.lt_of_lt_of_le hb g.size, fun i hi => ?_⟩
  obtain ⟨h1, h2, h3⟩ := hc i hi
  exact ⟨g.cell h1 hne, g.cell h2 hne, g.cell h3 hne⟩
theorem stS_below {N B : Nat} {u w : World} (h : Below N u w) (hB : N ≤ B) (id' : ByteArray) (a' : Option Addr) (n' c' : Nat) (st' en' : Int) : Below N u (stS w B id' a' n' c' st' en') :=
  (((h.setCell (p := ⟨B, 0, none⟩) hB _).setCell (p := ⟨B, 1, none⟩) hB _).setCell (p := ⟨B, 2, none⟩) hB _).setCell (p := ⟨B, 3, none⟩) hB _

set_option maxRecDepth 100000 in
set_option maxHeartbeats 4000000 in
theorem sOf_cut (x : Ent) (w : World) (hk : hasK x.k = false) :
    Calls Tryz.prog 27 #[.agg #[.string x.k, .int .i64 x.t, .int .u16 x.o, .string x.v, .int .i64 x.u]] w fun e w' => e = .returned (.tuple #[.agg #[.string ⟨#[]⟩, .slice none 0 0, .int .i64 0, .int .i64 0], .bool false]) ∧ Below w.heap.size w w' := by
  have d1 := (Below.refl w.heap.size w).alloc (Nat.le_refl _) (.cells #[.string x.k, .int .i64 x.t, .int .u16 x.o, .string x.v, .int .i64 x.u] 60)
  have d2 := d1.alloc (by simp) (.cells #[.string ⟨#[]⟩, .slice none 0 0, .int .i64 0, .int .i64 0] 55)
  have b2 := SBlk.new (w.alloc (.cells #[.string x.k, .int .i64 x.t, .int .u16 x.o, .string x.v, .int .i64 x.u] 60)) ⟨#[]⟩ none 0 0 0 0
  rw [World.size_alloc] at b2
  have hC := cutK_any x.k ((w.alloc (.cells #[.string x.k, .int .i64 x.t, .int .u16 x.o, .string x.v, .int .i64 x.u] 60)).alloc (.cells #[.string ⟨#[]⟩, .slice none 0 0, .int .i64 0, .int .i64 0] 55))
  rw [hk] at hC
  have HC := Lib.hid hC
  have HB4 := Lib.hid b2
  have HQ := Lib.hid d2
  clear d1 d2 b2 hC hk
  generalize cutK x.k = ck at *
  obtain ⟨kx, tx, ox, vx, ux⟩ := x
  dsimp only at *
  go_enter Tryz.func27, Tryz.ntmps27
  go_wp2_with (go_at_call 74; refine HC.out.mono ?_; rintro e w1 ⟨rfl, rfl⟩)
  refine bodyPost_ret (v := .tuple #[.agg #[.string ⟨#[]⟩, .slice none 0 0, .int .i64 0, .int .i64 0], .bool false]) (by have b5 := HB4.out; have z0 := b5.c0; have z1 := b5.c1; have z2 := b5.c2; have z3 := b5.c3; simp [results, Tryz.results27, go_sem, z0, z1, z2, z3]) rfl ?_
  exact ⟨rfl, HQ.out⟩
set_option maxRecDepth 100000 in
set_option maxHeartbeats 4000000 in
theorem sOf_err (x : Ent) (hvs : x.v.size ≤ 1048576) (B : Nat) (w : World) (hB : B ≤ w.heap.size) (hv : VarsOk B w) (htab : TabW w) (id : ByteArray) (ms : List Mt) (st en : Int) (hk : hasK x.k = true) (hci : cutK x.k = id) (hr : readS x.v.data.toList = (ms, st, en)) (he : entryE ⟨id, ms, st, en⟩ x.t ≠ 0) :
    Calls Tryz.prog 27 #[.agg #[.string x.k, .int .i64 x.t, .int .u16 x.o, .string x.v, .int .i64 x.u]] w fun e w' => e = .returned (.tuple #[.agg #[.string ⟨#[]⟩, .slice none 0 0, .int .i64 0, .int .i64 0], .bool false]) ∧ Below w.heap.size w w' := by
  have d1 := (Below.refl w.heap.size w).alloc (Nat.le_refl _) (.cells #[.string x.k, .int .i64 x.t, .int .u16 x.o, .string x.v, .int .i64 x.u] 60)
  have d2 := d1.alloc (by simp) (.cells #[.string ⟨#[]⟩, .slice none 0 0, .int .i64 0, .int .i64 0] 55)
  have b1 := (EBlk.new w x).on ((Below.refl _ _).alloc (Nat.le_refl _) (.cells #[.string ⟨#[]⟩, .slice none 0 0, .int .i64 0, .int .i64 0] 55))
  have b2 := SBlk.new (w.alloc (.cells #[.string x.k, .int .i64 x.t, .int .u16 x.o, .string x.v, .int .i64 x.u] 60)) ⟨#[]⟩ none 0 0 0 0
  rw [World.size_alloc] at b2
  have HML : Hid (ms.length ≤ 9223372036854775807) := Lib.hid (by have := rdMs_len0 hr; have h9 : x.v.data.toList.length = x.v.size := rfl; omega)
  have hC := cutK_any x.k ((w.alloc (.cells #[.string x.k, .int .i64 x.t, .int .u16 x.o, .string x.v, .int .i64 x.u] 60)).alloc (.cells #[.string ⟨#[]⟩, .slice none 0 0, .int .i64 0, .int .i64 0] 55))
  rw [hk, hci] at hC
  have HC := Lib.hid hC
  have HR := Lib.hid (sread_any x.v hvs B ((w.alloc (.cells #[.string x.k, .int .i64 x.t, .int .u16 x.o, .string x.v, .int .i64 x.u] 60)).alloc (.cells #[.string ⟨#[]⟩, .slice none 0 0, .int .i64 0, .int .i64 0] 55)) (Nat.le_trans hB d2.size) (hv.on (d2.mono hB)) ms st en hr)
  have HB := Lib.hid (And.intro b1 (And.intro b2 d2))
  have HV := Lib.hid (And.intro hB (And.intro hv htab))
  have HE := Lib.hid he
  obtain ⟨n, hn⟩ : ∃ n, n = ms.length := ⟨_, rfl⟩
  have HNN := Lib.hid hn
  rw [← hn] at HR
  clear d1 d2 b1 b2 hC hk hci hv htab hr he hn hB
  obtain ⟨kx, tx, ox, vx, ux⟩ := x
  dsimp only at *
  have htl := HV.out.2.2.lt
  go_enter Tryz.func27, Tryz.ntmps27
  go_wp2_with (go_at_call 74; refine HC.out.mono ?_; rintro e w1 ⟨rfl, rfl⟩)
  go_wp2_with (go_at_call 75; refine HR.out.mono ?_; rintro e w2 ⟨a, c, rfl, hm, hlw, q2⟩; have HLW := Lib.hid hlw; clear hlw; refine Hid.out ?_)
  refine Lib.hid ?_
  obtain ⟨b1, b2, d2⟩ := HB.out
  have c1 := b1.on q2
  have c2 := b2.on q2
  have D2 : Below w.heap.size w w2 := d2.trans (q2.mono d2.size)
  have e3 := (Below.refl w2.heap.size w2).alloc (Nat.le_refl _) (.cells #[.string id, .slice a n c, .int .i64 st, .int .i64 en] 55)
  have D3 : Below w.heap.size w (w2.alloc (.cells #[.string id, .slice a n c, .int .i64 st, .int .i64 en] 55)) := D2.trans (e3.mono D2.size)
  have hm3 := hm.below e3 (Nat.le_refl _)
  have b3 := SBlk.new w2 id a n c st en
  have j1 := c1.on e3
  have j2 := c2.on e3
  have t1 := (j1.c1)
  have t2 := (j1.c2)
  have HF := Lib.hid (And.intro j1 (And.intro j2 (And.intro b3 (And.intro D3 hm3))))
  have hen := sEntry_err ⟨id, ms, st, en⟩ a c tx ox _ (HV.out.2.2.on D3 htl) hm3 HML.out HE.out n HNN.out
  have hEb : ((entryE ⟨id, ms, st, en⟩ tx : Int) != 0) = true := by simpa using HE.out
  dsimp only at hen
  generalize entryE ⟨id, ms, st, en⟩ tx = E at *
  have HEn := Lib.hid hen
  clear hen
  clear b1 b2 d2 c1 c2 D2 e3 D3 hm3 b3 j1 j2 hm q2 HB HR HC
  dsimp only at t1 t2
  go_wp2_with (go_at_call 23; refine HEn.out.mono ?_; rintro e w4 ⟨rfl, q4⟩; refine Hid.out ?_)
  refine Lib.hid ?_
  obtain ⟨j1, j2, b3, D3, hm3⟩ := HF.out
  have l2 := j2.on q4
  have D4 : Below w.heap.size w w4 := D3.trans (q4.mono D3.size)
  have e5 := (Below.refl w4.heap.size w4).alloc (Nat.le_refl _) (.cells #[.string ⟨#[]⟩, .int .i64 0, .int .u16 0, .string ⟨#[]⟩, .int .i64 0] 60)
  have l3 := l2.on e5
  have HB4 := Lib.hid (l3.store ⟨#[]⟩ none 0 0 0 0)
  have HQ := Lib.hid (stS_below (D4.trans (e5.mono D4.size)) (show w.heap.size ≤ w.heap.size + 1 by omega) ⟨#[]⟩ none 0 0 0 0)
  have z0 := l3.c0; have z1 := l3.c1; have z2 := l3.c2; have z3 := l3.c3
  have y0 := l3.f 0; have y1 := l3.f 1; have y2 := l3.f 2; have y3 := l3.f 3
  clear j1 j2 b3 D3 hm3 q4 l2 D4 e5 l3 HF HEn t1 t2
  go_wp2
  refine bodyPost_ret (v := .tuple #[.agg #[.string ⟨#[]⟩, .slice none 0 0, .int .i64 0, .int .i64 0], .bool false]) (by have b5 := HB4.out; have z0 := b5.c0; have z1 := b5.c1; have z2 := b5.c2; have z3 := b5.c3; unfold stS at z0 z1 z2 z3; simp [results, Tryz.results27, go_sem, z0, z1, z2, z3]) rfl ?_
  exact ⟨rfl, HQ.out⟩
set_option maxRecDepth 100000 in
set_option maxHeartbeats 4000000 in
theorem sOf_other (x : Ent) (hvs : x.v.size ≤ 1048576) (B : Nat) (w : World) (hB : B ≤ w.heap.size) (hv : VarsOk B w) (htab : TabW w) (id : ByteArray) (ms : List Mt) (st en : Int) (hk : hasK x.k = true) (hci : cutK x.k = id) (hr : readS x.v.data.toList = (ms, st, en)) (he : entryE ⟨id, ms, st, en⟩ x.t = 0) (hx : entS ⟨id, ms, st, en⟩ x.t x.o ≠ x) :
    Calls Tryz.prog 27 #[.agg #[.string x.k, .int .i64 x.t, .int .u16 x.o, .string x.v, .int .i64 x.u]] w fun e w' => e = .returned (.tuple #[.agg #[.string ⟨#[]⟩, .slice none 0 0, .int .i64 0, .int .i64 0], .bool false]) ∧ Below w.heap.size w w' := by
  have d1 := (Below.refl w.heap.size w).alloc (Nat.le_refl _) (.cells #[.string x.k, .int .i64 x.t, .int .u16 x.o, .string x.v, .int .i64 x.u] 60)
  have d2 := d1.alloc (by simp) (.cells #[.string ⟨#[]⟩, .slice none 0 0, .int .i64 0, .int .i64 0] 55)
  have b1 := (EBlk.new w x).on ((Below.refl _ _).alloc (Nat.le_refl _) (.cells #[.string ⟨#[]⟩, .slice none 0 0, .int .i64 0, .int .i64 0] 55))
  have b2 := SBlk.new (w.alloc (.cells #[.string x.k, .int .i64 x.t, .int .u16 x.o, .string x.v, .int .i64 x.u] 60)) ⟨#[]⟩ none 0 0 0 0
  rw [World.size_alloc] at b2
  have HX := Lib.hid hx
  clear hx
  have hC := cutK_any x.k ((w.alloc (.cells #[.string x.k, .int .i64 x.t, .int .u16 x.o, .string x.v, .int .i64 x.u] 60)).alloc (.cells #[.string ⟨#[]⟩, .slice none 0 0, .int .i64 0, .int .i64 0] 55))
  rw [hk, hci] at hC
  have HC := Lib.hid hC
  have HR := Lib.hid (sread_any x.v hvs B ((w.alloc (.cells #[.string x.k, .int .i64 x.t, .int .u16 x.o, .string x.v, .int .i64 x.u] 60)).alloc (.cells #[.string ⟨#[]⟩, .slice none 0 0, .int .i64 0, .int .i64 0] 55)) (Nat.le_trans hB d2.size) (hv.on (d2.mono hB)) ms st en hr)
  have HB := Lib.hid (And.intro b1 (And.intro b2 d2))
  have HV := Lib.hid (And.intro hB (And.intro hv htab))
  have HE := Lib.hid he
  obtain ⟨n, hn⟩ : ∃ n, n = ms.length := ⟨_, rfl⟩
  have HNN := Lib.hid hn
  rw [← hn] at HR
  clear d1 d2 b1 b2 hC hk hci hv htab hr he hn hB
  obtain ⟨kx, tx, ox, vx, ux⟩ := x
  dsimp only at *
  have htl := HV.out.2.2.lt
  go_enter Tryz.func27, Tryz.ntmps27
  go_wp2_with (go_at_call 74; refine HC.out.mono ?_; rintro e w1 ⟨rfl, rfl⟩)
  go_wp2_with (go_at_call 75; refine HR.out.mono ?_; rintro e w2 ⟨a, c, rfl, hm, hlw, q2⟩; have HLW := Lib.hid hlw; clear hlw; refine Hid.out ?_)
  refine Lib.hid ?_
  obtain ⟨b1, b2, d2⟩ := HB.out
  have c1 := b1.on q2
  have c2 := b2.on q2
  have D2 : Below w.heap.size w w2 := d2.trans (q2.mono d2.size)
  have e3 := (Below.refl w2.heap.size w2).alloc (Nat.le_refl _) (.cells #[.string id, .slice a n c, .int .i64 st, .int .i64 en] 55)
  have D3 : Below w.heap.size w (w2.alloc (.cells #[.string id, .slice a n c, .int .i64 st, .int .i64 en] 55)) := D2.trans (e3.mono D2.size)
  have hm3 := hm.below e3 (Nat.le_refl _)
  have b3 := SBlk.new w2 id a n c st en
  have j1 := c1.on e3
  have j2 := c2.on e3
  have t1 := (j1.c1)
  have t2 := (j1.c2)
  have HF := Lib.hid (And.intro j1 (And.intro j2 (And.intro b3 (And.intro D3 hm3))))
  have hen := sEntry_ok ⟨id, ms, st, en⟩ a c tx ox _ (HV.out.2.2.on D3 htl) hm3 HE.out B (Nat.le_trans HV.out.1 D3.size) (HV.out.2.1.on (D3.mono HV.out.1)) n HNN.out
  dsimp only at hen
  obtain ⟨LV, hLV⟩ : ∃ LV, LV = layS ms st en := ⟨_, rfl⟩
  obtain ⟨KS, hKS⟩ : ∃ KS, KS = keyS id := ⟨_, rfl⟩
  obtain ⟨MX, hMX⟩ : ∃ MX, MX = max en tx := ⟨_, rfl⟩
  rw [← hLV, ← hKS, ← hMX] at hen
  have HLV := Lib.hid (And.intro hLV (And.intro hKS hMX))
  have HEn := Lib.hid hen
  clear hen hLV hKS hMX
  clear b1 b2 d2 c1 c2 D2 e3 D3 hm3 b3 j1 j2 hm q2 HB HR HC
  dsimp only at t1 t2
  go_wp2_with (go_at_call 23; refine HEn.out.mono ?_; rintro e w4 ⟨rfl, q4⟩; refine Hid.out ?_)
  refine Lib.hid ?_
  obtain ⟨j1, j2, b3, D3, hm3⟩ := HF.out
  have hEQ : eqEn ⟨KS, tx, ox, ⟨LV.toArray⟩, MX⟩ ⟨kx, tx, ox, vx, ux⟩ = false := eqEn_no (fun e => HX.out (by
    obtain ⟨e1, e2, e3⟩ := HLV.out
    rw [← e]
    unfold entS
    rw [e1, e2, e3]))
  have l1 := j1.on q4
  have l2 := j2.on q4
  have l5 := b3.on q4
  have D4 : Below w.heap.size w w4 := D3.trans (q4.mono D3.size)
  have e5 := (Below.refl w4.heap.size w4).alloc (Nat.le_refl _) (.cells #[.string KS, .int .i64 tx, .int .u16 ox, .string ⟨LV.toArray⟩, .int .i64 MX] 60)
  have m1 := l1.on e5
  have m2 := l2.on e5
  have m5 := l5.on e5
  have hne := fun u => run_neE ⟨KS, tx, ox, ⟨LV.toArray⟩, MX⟩ ⟨kx, tx, ox, vx, ux⟩ u
  rw [hEQ] at hne
  dsimp only at hne
  have HB4 := Lib.hid (m2.store ⟨#[]⟩ none 0 0 0 0)
  have HQ := Lib.hid (stS_below (D4.trans (e5.mono D4.size)) (show w.heap.size ≤ w.heap.size + 1 by omega) ⟨#[]⟩ none 0 0 0 0)
  have z0 := m2.c0; have z1 := m2.c1; have z2 := m2.c2; have z3 := m2.c3
  have y0 := m2.f 0; have y1 := m2.f 1; have y2 := m2.f 2; have y3 := m2.f 3
  have x0 := m1.c0; have x1 := m1.c1; have x2 := m1.c2; have x3 := m1.c3; have x4 := m1.c4
  dsimp only at x0 x1 x2 x3 x4
  clear j1 j2 b3 D3 hm3 q4 l1 l2 l5 D4 e5 m1 m2 m5 HF HEn t1 t2 hEQ
  go_wp2
  refine bodyPost_ret (v := .tuple #[.agg #[.string ⟨#[]⟩, .slice none 0 0, .int .i64 0, .int .i64 0], .bool false]) (by have b5 := HB4.out; have z0 := b5.c0; have z1 := b5.c1; have z2 := b5.c2; have z3 := b5.c3; unfold stS at z0 z1 z2 z3; simp [results, Tryz.results27, go_sem, z0, z1, z2, z3]) rfl ?_
  exact ⟨rfl, HQ.out⟩
set_option maxRecDepth 100000 in
set_option maxHeartbeats 4000000 in
theorem sOf_yes0 (x : Ent) (hvs : x.v.size ≤ 1048576) (B : Nat) (w : World) (hB : B ≤ w.heap.size) (hv : VarsOk B w) (htab : TabW w) (id : ByteArray) (ms : List Mt) (st en : Int) (hk : hasK x.k = true) (hci : cutK x.k = id) (hr : readS x.v.data.toList = (ms, st, en)) (he : entryE ⟨id, ms, st, en⟩ x.t = 0) (hx : entS ⟨id, ms, st, en⟩ x.t x.o = x) :
    Calls Tryz.prog 27 #[.agg #[.string x.k, .int .i64 x.t, .int .u16 x.o, .string x.v, .int .i64 x.u]] w fun e w' => ∃ a c, e = .returned (.tuple #[.agg #[.string id, .slice a ms.length c, .int .i64 st, .int .i64 en], .bool true]) ∧ MtsAt w' a ms ∧ (∀ q, a = some q → w.heap.size ≤ q.block) ∧ Below w.heap.size w w' := by
  have d1 := (Below.refl w.heap.size w).alloc (Nat.le_refl _) (.cells #[.string x.k, .int .i64 x.t, .int .u16 x.o, .string x.v, .int .i64 x.u] 60)
  have d2 := d1.alloc (by simp) (.cells #[.string ⟨#[]⟩, .slice none 0 0, .int .i64 0, .int .i64 0] 55)
  have b1 := (EBlk.new w x).on ((Below.refl _ _).alloc (Nat.le_refl _) (.cells #[.string ⟨#[]⟩, .slice none 0 0, .int .i64 0, .int .i64 0] 55))
  have b2 := SBlk.new (w.alloc (.cells #[.string x.k, .int .i64 x.t, .int .u16 x.o, .string x.v, .int .i64 x.u] 60)) ⟨#[]⟩ none 0 0 0 0
  rw [World.size_alloc] at b2
  have HX := Lib.hid hx
  clear hx
  have hC := cutK_any x.k ((w.alloc (.cells #[.string x.k, .int .i64 x.t, .int .u16 x.o, .string x.v, .int .i64 x.u] 60)).alloc (.cells #[.string ⟨#[]⟩, .slice none 0 0, .int .i64 0, .int .i64 0] 55))
  rw [hk, hci] at hC
  have HC := Lib.hid hC
  have HR := Lib.hid (sread_any x.v hvs B ((w.alloc (.cells #[.string x.k, .int .i64 x.t, .int .u16 x.o, .string x.v, .int .i64 x.u] 60)).alloc (.cells #[.string ⟨#[]⟩, .slice none 0 0, .int .i64 0, .int .i64 0] 55)) (Nat.le_trans hB d2.size) (hv.on (d2.mono hB)) ms st en hr)
  have HB := Lib.hid (And.intro b1 (And.intro b2 d2))
  have HV := Lib.hid (And.intro hB (And.intro hv htab))
  have HE := Lib.hid he
  obtain ⟨n, hn⟩ : ∃ n, n = ms.length := ⟨_, rfl⟩
  have HNN := Lib.hid hn
  rw [← hn] at HR
  clear d1 d2 b1 b2 hC hk hci hv htab hr he hn hB
  obtain ⟨kx, tx, ox, vx, ux⟩ := x
  dsimp only at *
  have htl := HV.out.2.2.lt
  go_enter Tryz.func27, Tryz.ntmps27
  go_wp2_with (go_at_call 74; refine HC.out.mono ?_; rintro e w1 ⟨rfl, rfl⟩)
  go_wp2_with (go_at_call 75; refine HR.out.mono ?_; rintro e w2 ⟨a, c, rfl, hm, hlw, q2⟩; have HLW := Lib.hid hlw; clear hlw; refine Hid.out ?_)
  refine Lib.hid ?_
  obtain ⟨b1, b2, d2⟩ := HB.out
  have c1 := b1.on q2
  have c2 := b2.on q2
  have D2 : Below w.heap.size w w2 := d2.trans (q2.mono d2.size)
  have e3 := (Below.refl w2.heap.size w2).alloc (Nat.le_refl _) (.cells #[.string id, .slice a n c, .int .i64 st, .int .i64 en] 55)
  have D3 : Below w.heap.size w (w2.alloc (.cells #[.string id, .slice a n c, .int .i64 st, .int .i64 en] 55)) := D2.trans (e3.mono D2.size)
  have hm3 := hm.below e3 (Nat.le_refl _)
  have b3 := SBlk.new w2 id a n c st en
  have j1 := c1.on e3
  have j2 := c2.on e3
  have t1 := (j1.c1)
  have t2 := (j1.c2)
  have HF := Lib.hid (And.intro j1 (And.intro j2 (And.intro b3 (And.intro D3 hm3))))
  have hen := sEntry_ok ⟨id, ms, st, en⟩ a c tx ox _ (HV.out.2.2.on D3 htl) hm3 HE.out B (Nat.le_trans HV.out.1 D3.size) (HV.out.2.1.on (D3.mono HV.out.1)) n HNN.out
  dsimp only at hen
  obtain ⟨LV, hLV⟩ : ∃ LV, LV = layS ms st en := ⟨_, rfl⟩
  obtain ⟨KS, hKS⟩ : ∃ KS, KS = keyS id := ⟨_, rfl⟩
  obtain ⟨MX, hMX⟩ : ∃ MX, MX = max en tx := ⟨_, rfl⟩
  rw [← hLV, ← hKS, ← hMX] at hen
  have HLV := Lib.hid (And.intro hLV (And.intro hKS hMX))
  have HEn := Lib.hid hen
  clear hen hLV hKS hMX
  clear b1 b2 d2 c1 c2 D2 e3 D3 hm3 b3 j1 j2 hm q2 HB HR HC
  dsimp only at t1 t2
  go_wp2_with (go_at_call 23; refine HEn.out.mono ?_; rintro e w4 ⟨rfl, q4⟩; refine Hid.out ?_)
  refine Lib.hid ?_
  obtain ⟨j1, j2, b3, D3, hm3⟩ := HF.out
  have hEQ : eqEn ⟨KS, tx, ox, ⟨LV.toArray⟩, MX⟩ ⟨kx, tx, ox, vx, ux⟩ = true := (eqEn_iff _ _).2 (by
    obtain ⟨e1, e2, e3⟩ := HLV.out
    rw [← HX.out]
    unfold entS
    rw [e1, e2, e3])
  have l1 := j1.on q4
  have l2 := j2.on q4
  have l5 := b3.on q4
  have D4 : Below w.heap.size w w4 := D3.trans (q4.mono D3.size)
  have e5 := (Below.refl w4.heap.size w4).alloc (Nat.le_refl _) (.cells #[.string KS, .int .i64 tx, .int .u16 ox, .string ⟨LV.toArray⟩, .int .i64 MX] 60)
  have m1 := l1.on e5
  have m2 := l2.on e5
  have m5 := l5.on e5
  have hne := fun u => run_neE ⟨KS, tx, ox, ⟨LV.toArray⟩, MX⟩ ⟨kx, tx, ox, vx, ux⟩ u
  rw [hEQ] at hne
  dsimp only at hne
  have HB4 := Lib.hid (m2.store id a n c st en)
  have D5 := D4.trans (e5.mono D4.size)
  have HQ := Lib.hid (stS_below D5 (show w.heap.size ≤ w.heap.size + 1 by omega) id a n c st en)
  have HMt : Hid (MtsAt (stS (w4.alloc (.cells #[.string KS, .int .i64 tx, .int .u16 ox, .string ⟨LV.toArray⟩, .int .i64 MX] 60)) (w.heap.size + 1) id a n c st en) a ms) := Lib.hid (MtsAt.grownS ((hm3.below q4 (Nat.le_refl _)).below e5 (Nat.le_refl _)) m2)
  have z0 := m2.c0; have z1 := m2.c1; have z2 := m2.c2; have z3 := m2.c3
  have y0 := m2.f 0; have y1 := m2.f 1; have y2 := m2.f 2; have y3 := m2.f 3
  have x0 := m1.c0; have x1 := m1.c1; have x2 := m1.c2; have x3 := m1.c3; have x4 := m1.c4
  have u0 := m5.c0; have u1 := m5.c1; have u2 := m5.c2; have u3 := m5.c3
  dsimp only at x0 x1 x2 x3 x4
  clear j1 j2 b3 D3 hm3 q4 l1 l2 l5 D4 e5 m1 m2 m5 HF HEn t1 t2 hEQ D5
  go_wp2
  refine bodyPost_ret (v := .tuple #[.agg #[.string id, .slice a n c, .int .i64 st, .int .i64 en], .bool true]) (by have b5 := HB4.out; have z0 := b5.c0; have z1 := b5.c1; have z2 := b5.c2; have z3 := b5.c3; simp [results, Tryz.results27, go_sem, z0, z1, z2, z3]) rfl ?_
  exact ⟨a, c, by rw [HNN.out], HMt.out, (fun q hq => by have h9 := HLW.out q hq; simp at h9; omega), HQ.out⟩

/-- Of tells the silence of an entry. -/
theorem sOf_yes (x : Ent) (hvs : x.v.size ≤ 1048576) (B : Nat) (w : World) (hB : B ≤ w.heap.size) (hv : VarsOk B w) (htab : TabW w) (s : Sil) (hs : IsE s x) :
    Calls Tryz.prog 27 #[.agg #[.string x.k, .int .i64 x.t, .int .u16 x.o, .string x.v, .int .i64 x.u]] w fun e w' => ∃ a c, e = .returned (.tuple #[.agg #[.string s.id, .slice a s.ms.length c, .int .i64 s.st, .int .i64 s.en], .bool true]) ∧ MtsAt w' a s.ms ∧ (∀ q, a = some q → w.heap.size ≤ q.block) ∧ Below w.heap.size w w' := by
  obtain ⟨hk, ht⟩ := hs.tell
  have e := hasK_key s.id
  rw [← hk] at e
  have hr : readS x.v.data.toList = (s.ms, s.st, s.en) := by
    have e1 := congrArg Sil.ms ht
    have e2 := congrArg Sil.st ht
    have e3 := congrArg Sil.en ht
    simp only [tellS] at e1 e2 e3
    rw [← e1, ← e2, ← e3]
  exact sOf_yes0 x hvs B w hB hv htab s.id s.ms s.st s.en e.1 e.2 hr hs.1 hs.2
/-- Of tells that there is none. -/
theorem sOf_no (x : Ent) (hvs : x.v.size ≤ 1048576) (B : Nat) (w : World) (hB : B ≤ w.heap.size) (hv : VarsOk B w) (htab : TabW w) (hno : ∀ s, ¬ IsE s x) :
    Calls Tryz.prog 27 #[.agg #[.string x.k, .int .i64 x.t, .int .u16 x.o, .string x.v, .int .i64 x.u]] w fun e w' => e = .returned (.tuple #[.agg #[.string ⟨#[]⟩, .slice none 0 0, .int .i64 0, .int .i64 0], .bool false]) ∧ Below w.heap.size w w' := by
  cases hk : hasK x.k with
  | false => exact sOf_cut x w hk
  | true =>
    rcases hr : readS x.v.data.toList with ⟨ms, st, en⟩
    by_cases he : entryE ⟨cutK x.k, ms, st, en⟩ x.t = 0
    · exact sOf_other x hvs B w hB hv htab _ ms st en hk rfl hr he (fun e => hno _ ⟨he, e⟩)
    · exact sOf_err x hvs B w hB hv htab _ ms st en hk rfl hr he

end Go.Proofs.YtcngifkoopcmeaaGreatDoor
namespace Go.Proofs.YtcngifkoopcmeaaGreatDoor
open Go.ChangeShapes Go.WideShapes Go.ChangeAt Go.RowKit Go.Deep

/-- An entry's five cells. -/
def encE (x : Ent) : List Value := [.string x.k, .int .i64 x.t, .int .u16 x.o, .string x.v, .int .i64 x.u]
/-- Its texts and numbers, as they fit. -/
def EntFit (x : Ent) : Prop := (x.k.size ≤ 9223372036854775807 ∧ x.v.size ≤ 9223372036854775807) ∧ (-9223372036854775808 ≤ x.t ∧ x.t ≤ 9223372036854775807) ∧ (0 ≤ x.o ∧ x.o ≤ 65535) ∧ (-9223372036854775808 ≤ x.u ∧ x.u ≤ 9223372036854775807)
/-- An entry as it is read. -/
def datE {H : Type} (x : Ent) : DataW H := .agg [.lit (.string x.k.data.toList), .lit (.int .i64 x.t), .lit (.int .u16 x.o), .lit (.string x.v.data.toList), .lit (.int .i64 x.u)]

section
variable {H : Type} {enc : TypeId × Value → H} {W : World} {base : Nat} {sp : Nat → Bool} {held : Bool} {fuel : Nat} {x : DataW H × List MemPlace}

theorem trod_five {t : TypeId} {f0 f1 f2 f3 f4 : Field} {cs : List Value} (ht : Tryz.prog.underlying t = some (.struct #[f0, f1, f2, f3, f4])) (h : DataW.trod enc Tryz.prog W base sp held fuel t cs = some x) :
    ∃ y0 y1 y2 y3 y4 n, x = (.agg [y0.1, y1.1, y2.1, y3.1, y4.1], y0.2 ++ (y1.2 ++ (y2.2 ++ (y3.2 ++ y4.2)))) ∧ cs.length = Tryz.prog.cellsOf t ∧ DataW.trod enc Tryz.prog W base sp held n f0.type ((cs.drop f0.offset).take (Tryz.prog.cellsOf f0.type)) = some y0 ∧
      DataW.trod enc Tryz.prog W base sp held n f1.type ((cs.drop f1.offset).take (Tryz.prog.cellsOf f1.type)) = some y1 ∧ DataW.trod enc Tryz.prog W base sp held n f2.type ((cs.drop f2.offset).take (Tryz.prog.cellsOf f2.type)) = some y2 ∧
      DataW.trod enc Tryz.prog W base sp held n f3.type ((cs.drop f3.offset).take (Tryz.prog.cellsOf f3.type)) = some y3 ∧ DataW.trod enc Tryz.prog W base sp held n f4.type ((cs.drop f4.offset).take (Tryz.prog.cellsOf f4.type)) = some y4 := by
  obtain ⟨xs, n, _, rfl, hl, hlen, hf⟩ := DataW.trod_struct ht h
  match xs, hlen with
  | [y0, y1, y2, y3, y4], _ => exact ⟨y0, y1, y2, y3, y4, n, by simp, hl, by simpa using hf 0 f0 rfl, by simpa using hf 1 f1 rfl, by simpa using hf 2 f2 rfl, by simpa using hf 3 f3 rfl, by simpa using hf 4 f4 rfl⟩
theorem arrayFive {cs : Array Value} (h : cs.size = 5) : ∃ c0 c1 c2 c3 c4, cs = #[c0, c1, c2, c3, c4] := by
  obtain ⟨l⟩ := cs
  match l, h with
  | [c0, c1, c2, c3, c4], _ => exact ⟨c0, c1, c2, c3, c4, rfl⟩
theorem cellsEn : Tryz.prog.cellsOf 60 = 5 := by kernel_rfl
theorem cellsInE : Tryz.prog.cellsOf 3 = 1 := by kernel_rfl
theorem cellsU16E : Tryz.prog.cellsOf 56 = 1 := by kernel_rfl
theorem cellsStE : Tryz.prog.cellsOf 9 = 1 := by kernel_rfl

set_option maxRecDepth 20000 in
theorem open_entryC {cs : List Value} (h : DataW.trod enc Tryz.prog W base sp held fuel 60 cs = some x) : ∃ r : Ent, cs = encE r ∧ EntFit r ∧ x = (datE r, []) := by
  obtain ⟨y0, y1, y2, y3, y4, n, hx, hl, h0, h1, h2, h3, h4⟩ := trod_five Tryz.underlying60 h
  rw [cellsEn] at hl
  match cs, hl with
  | [v0, v1, v2, v3, v4], _ =>
    simp [cellsInE, cellsU16E, cellsStE] at h0 h1 h2 h3 h4
    obtain ⟨z0, e0, f0, g0⟩ := DataW.trod_string Tryz.underlying9 h0
    obtain ⟨z1, e1, f1, g1⟩ := DataW.trod_int Tryz.underlying3 h1
    obtain ⟨z2, e2, f2, g2⟩ := DataW.trod_int Tryz.underlying56 h2
    obtain ⟨z3, e3, f3, g3⟩ := DataW.trod_string Tryz.underlying9 h3
    obtain ⟨z4, e4, f4, g4⟩ := DataW.trod_int Tryz.underlying3 h4
    simp only [List.cons.injEq, and_true] at e0 e1 e2 e3 e4
    subst e0 e1 e2 e3 e4
    have q3 : IntKind.i64.min = -9223372036854775808 := rfl
    have q4 : IntKind.i64.max = 9223372036854775807 := rfl
    have q5 : IntKind.u16.min = 0 := rfl
    have q6 : IntKind.u16.max = 65535 := rfl
    have q7 : maxLen = 9223372036854775807 := rfl
    simp only [Lit.wf, Bool.and_eq_true, decide_eq_true_eq] at g1 g2 g4
    refine ⟨⟨z0, z1, z2, z3, z4⟩, rfl, ⟨⟨by dsimp only; omega, by dsimp only; omega⟩, ⟨by dsimp only; omega, by dsimp only; omega⟩, ⟨by dsimp only; omega, by dsimp only; omega⟩, by dsimp only; omega, by dsimp only; omega⟩, ?_⟩
    rw [hx, f0, f1, f2, f3, f4]
    rfl
set_option maxRecDepth 20000 in
theorem open_entry {base' : Nat} {r0 : Reach} {v : Value} (hv : Value.okWide Tryz.prog W r0 base' 60 v) (h : DataW.trod enc Tryz.prog W base sp held fuel 60 v.cells.toList = some x) :
    ∃ r : Ent, v = .agg #[.string r.k, .int .i64 r.t, .int .u16 r.o, .string r.v, .int .i64 r.u] ∧ EntFit r ∧ x = (datE r, []) := by
  obtain ⟨cs, rfl, hsz⟩ := okWide_struct Tryz.underlying60 hv
  obtain ⟨v0, v1, v2, v3, v4, rfl⟩ := arrayFive (hsz.trans cellsEn)
  obtain ⟨r, e, h1, h2⟩ := open_entryC h
  simp only [Value.cells, encE, List.cons.injEq, and_true] at e
  obtain ⟨rfl, rfl, rfl, rfl, rfl⟩ := e
  exact ⟨r, rfl, h1, h2⟩
end

/-- Entries in a row somewhere. -/
def EntsAt (w : World) (a : Option Addr) (l : List Ent) : Prop := 0 < l.length → ∃ b o, a = some ⟨b, o, none⟩ ∧ b < w.heap.size ∧ ∀ i (hi : i < l.length), ∀ j v, (encE l[i])[j]? = some v → w.cell? ⟨b, o + i * 5 + j, none⟩ = some v
section
variable {H : Type} {enc : TypeId × Value → H} {W : World} {base : Nat} {sp : Nat → Bool} {held : Bool} {fuel : Nat} {x : DataW H × List MemPlace}
set_option maxRecDepth 20000 in
theorem open_entries {a : Option Addr} {len cap : Nat} (h : DataW.trod enc Tryz.prog W base sp held fuel 72 [.slice a len cap] = some x) :
    ∃ l : List Ent, l.length = len ∧ EntsAt W a l ∧ l.length ≤ 9223372036854775807 ∧ ∀ y ∈ l, EntFit y := by
  have kM : maxLen = 9223372036854775807 := rfl
  rcases open_slice Tryz.underlying72 h with ⟨hcs, -⟩ | ⟨q, len', cap', m, n, D, Pl, hcs, hb, hl, hm, hmm, -, hc⟩
  · simp only [List.cons.injEq, Value.slice.injEq, and_true] at hcs
    obtain ⟨rfl, rfl, rfl⟩ := hcs
    exact ⟨[], rfl, fun hi => absurd hi (by simp), Nat.zero_le _, fun p hp => by cases hp⟩
  · simp only [List.cons.injEq, Value.slice.injEq, and_true] at hcs
    obtain ⟨rfl, rfl, rfl⟩ := hcs
    rw [cellsEn] at hc
    haveI : Inhabited Ent := ⟨zeroE⟩
    have each : ∀ i, i < m → ∃ y : Ent, W.cells? base (q.add (i * 5)) 5 = some (encE y) ∧ EntFit y := fun i hi => by
      obtain ⟨cs', h1, h2⟩ := hc i hi
      obtain ⟨y, rfl, h3, -⟩ := open_entryC h2
      exact ⟨y, h1, h3⟩
    obtain ⟨f, hf⟩ := choose_lt each
    have hlm : len ≤ m := by split at hmm <;> omega
    refine ⟨(List.range len).map f, by simp, fun hn => ?_, by simp; omega, fun y hy => ?_⟩
    · simp only [List.length_map, List.length_range] at hn
      obtain ⟨hc0, -⟩ := hf 0 (by omega)
      have hc00 := (World.cells?_some hc0).2.2 0 (by decide)
      obtain ⟨b, o, s⟩ := q
      obtain rfl : s = none := by simpa [Addr.add] using World.cell?_spot hc00
      refine ⟨b, o, rfl, ?_, fun i hi => ?_⟩
      · have := World.block_lt_of_cell? W _ hc00
        simpa [Addr.add] using this
      · simp only [List.length_map, List.length_range] at hi
        obtain ⟨c0, -⟩ := hf i (by omega)
        simp only [List.getElem_map, List.getElem_range]
        intro j v hv
        obtain ⟨-, hk, hcell⟩ := World.cells?_some c0
        have hj := (List.getElem?_eq_some_iff.1 hv).1
        have := (hcell j (by omega)).trans hv
        rw [Go.WideShapes.add_plain, Go.WideShapes.add_plain] at this
        exact this
    · obtain ⟨i, hi, rfl⟩ := List.mem_map.1 hy
      exact (hf i (by have := List.mem_range.1 hi; omega)).2
end

end Go.Proofs.YtcngifkoopcmeaaGreatDoor
