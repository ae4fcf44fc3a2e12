/-
  What Of of package nflog tells.
-/
import Derived.Test.YtieepbjngolaoaaDoorN6
import Derived.Test.YtieepbjngolaoaaDoorMShelf
import Derived.Shelf.Small.Wraps
namespace Go.Proofs.YtieepbjngolaoaaDoor
open Go Go.RowKit Go.Shelf

/-- The byte ahead of a sending's key. -/
def nB1 : ByteArray := ⟨#[110]⟩
def cutN (k : ByteArray) : List UInt8 := Lib.trimPrefix k.data.toList nB1.data.toList
def hasN (k : ByteArray) : Bool := Lib.hasPrefix k.data.toList nB1.data.toList
theorem cutN_any (k : ByteArray) (w : World) : Calls Tryd.prog 31 #[.string k, .string ⟨#[110]⟩] w fun e w' => e = .returned (.tuple #[.string ⟨(cutN k).toArray⟩, .bool (hasN k)]) ∧ w' = w :=
  Any.strings_CutPrefix Tryd.lCutPrefix k nB1 w
theorem hasN_cons {k : ByteArray} (h : hasN k = true) : k.data.toList = 110 :: cutN k := by
  unfold hasN at h
  have e2 : nB1.data.toList = [110] := rfl
  rw [e2] at h
  unfold cutN
  rw [e2]
  cases hq : k.data.toList with
  | nil => rw [hq] at h; simp [Lib.hasPrefix] at h
  | cons y r =>
    rw [hq] at h
    have hy : y = 110 := by
      have h1 : (110 : UInt8) = y := by simpa [Lib.hasPrefix] using h
      exact h1.symm
    subst hy
    simp [Lib.trimPrefix, Lib.hasPrefix]
theorem keyN_list (r g : ByteArray) : (keyN r g).data.toList = 110 :: putList (partsN r g) := by simp [keyN]
theorem hasN_key (r g : ByteArray) : hasN (keyN r g) = true ∧ cutN (keyN r g) = putList (partsN r g) := by
  have e2 : nB1.data.toList = [110] := rfl
  constructor
  · unfold hasN
    rw [keyN_list, e2]
    simp [Lib.hasPrefix]
  · unfold cutN
    rw [keyN_list, e2]
    simp [Lib.trimPrefix, Lib.hasPrefix]
theorem textE_short {most e e1 : Int} {l l1 s : List UInt8} (h : textE most e l = (l1, e1, s)) : s.length ≤ l.length ∧ (e1 ≠ 0 → s = []) := by
  unfold textE at h
  split at h
  · by_cases he : e1 = 0
    · subst he
      have := rdText_laid h
      rw [this]
      exact ⟨by simp only [putText, List.length_append, List.length_cons]; omega, fun h => absurd rfl h⟩
    · have := rdText_err h he
      subst this
      exact ⟨by simp, fun _ => rfl⟩
  · simp only [Prod.mk.injEq] at h
    obtain ⟨-, -, rfl⟩ := h
    exact ⟨by simp, fun _ => rfl⟩
/-- What is read of a key: the receiver, then the group. -/
def rdR (l : List UInt8) : List UInt8 × Int × List UInt8 := textE 1024 (byteE 108 0 l).2 (byteE 108 0 l).1
def rdG (l : List UInt8) : List UInt8 × Int × List UInt8 := textE 1024 (rdR l).2.1 (rdR l).1
def sndN (x : Ent) (l : List UInt8) : Snd := ⟨⟨(rdR l).2.2.toArray⟩, ⟨(rdG l).2.2.toArray⟩, x.v, x.t⟩
def keepN (x : Ent) : Int := IntKind.i64.wrap (x.u - x.t)
def zeroN : Snd := ⟨⟨#[]⟩, ⟨#[]⟩, ⟨#[]⟩, 0⟩
/-- An entry is a sending. -/
def okN (x : Ent) : Bool := hasN x.k && (decide (errN (sndN x (cutN x.k)) (keepN x) = 0) && eqEn (ansN (sndN x (cutN x.k)) x.o (keepN x)) x)
def ofN (x : Ent) : Snd := if okN x = true then sndN x (cutN x.k) else zeroN
theorem ofN_no {x : Ent} (h : okN x = false) : ofN x = zeroN := if_neg (by rw [h]; simp)
theorem ofN_ok {x : Ent} (h : okN x = true) : ofN x = sndN x (cutN x.k) := if_pos h
theorem okN_iff (x : Ent) : okN x = true ↔ hasN x.k = true ∧ errN (sndN x (cutN x.k)) (keepN x) = 0 ∧ ansN (sndN x (cutN x.k)) x.o (keepN x) = x := by
  unfold okN
  simp only [Bool.and_eq_true, decide_eq_true_eq, eqEn_iff]
theorem okN_no1 {x : Ent} (h : hasN x.k = false) : okN x = false := by
  rw [Bool.eq_false_iff]; intro h2; rw [((okN_iff x).1 h2).1] at h; cases h
theorem okN_no2 {x : Ent} (h : errN (sndN x (cutN x.k)) (keepN x) ≠ 0) : okN x = false := by
  rw [Bool.eq_false_iff]; intro h2; exact h ((okN_iff x).1 h2).2.1
theorem okN_no3 {x : Ent} (h : eqEn (ansN (sndN x (cutN x.k)) x.o (keepN x)) x = false) : okN x = false := by
  rw [Bool.eq_false_iff]; intro h2; rw [(eqEn_iff _ _).2 ((okN_iff x).1 h2).2.2] at h; cases h
theorem rdK_short (l : List UInt8) (x : Ent) : (sndN x l).r.size ≤ l.length ∧ (sndN x l).k.size ≤ l.length := by
  obtain ⟨l0, e0, hO⟩ : ∃ l0 e0, byteE 108 0 l = (l0, e0) := ⟨_, _, rfl⟩
  obtain ⟨l1, e1, s1, hT1⟩ : ∃ l1 e1 s1, textE 1024 e0 l0 = (l1, e1, s1) := ⟨_, _, _, rfl⟩
  obtain ⟨l2, e2, s2, hT2⟩ : ∃ l2 e2 s2, textE 1024 e1 l1 = (l2, e2, s2) := ⟨_, _, _, rfl⟩
  have a0 := (byteE_err hO).2
  have a1 := (textE_short hT1).1
  have a2 := (textE_short hT2).1
  have a3 := (textE_err hT1).2
  simp only [sndN, rdG, rdR, hO, hT1, hT2]
  have z1 : (⟨s1.toArray⟩ : ByteArray).size = s1.length := by show s1.toArray.size = _; simp
  have z2 : (⟨s2.toArray⟩ : ByteArray).size = s2.length := by show s2.toArray.size = _; simp
  rw [z1, z2]
  omega
theorem cutN_short (k : ByteArray) : (cutN k).length ≤ k.size := by
  have h0 : k.data.toList.length = k.size := rfl
  cases h : hasN k with
  | true =>
    have h1 := hasN_cons h
    rw [h1] at h0
    simp only [List.length_cons] at h0
    omega
  | false =>
    unfold hasN at h
    unfold cutN Lib.trimPrefix
    rw [h]
    simp

/-- A block stored into, cell by cell. -/
def stN (w : World) (B : Nat) (y : Snd) : World := (((w.setCell ⟨B, 0, none⟩ (.string y.r)).setCell ⟨B, 1, none⟩ (.string y.k)).setCell ⟨B, 2, none⟩ (.string y.v)).setCell ⟨B, 3, none⟩ (.int .i64 y.t)
theorem SnBlk.store {w : World} {B : Nat} {x : Snd} (h : SnBlk w B x) (y : Snd) : SnBlk (stN w B y) B y := by
  unfold SnBlk at h ⊢
  unfold stN
  simp [World.setCell, Array.getElem?_modify, h]
theorem stN_below {a w : World} {N B : Nat} (h : Below N a w) (hB : N ≤ B) (y : Snd) : Below N a (stN w B y) :=
  (((h.setCell (p := ⟨B, 0, none⟩) hB _).setCell (p := ⟨B, 1, none⟩) hB _).setCell (p := ⟨B, 2, none⟩) hB _).setCell (p := ⟨B, 3, none⟩) hB _
theorem SnBlk.grown {w w' : World} {B : Nat} {s : Snd} {r : Option Nat} (h : SnBlk w B s) (hg : w.grownBy w' r) (hr : some B ≠ r) : SnBlk w' B s := (hg.block B h.lt hr).trans h
theorem EBlk.grown {w w' : World} {B : Nat} {s : Ent} {r : Option Nat} (h : EBlk w B s) (hg : w.grownBy w' r) (hr : some B ≠ r) : EBlk w' B s := (hg.block B h.lt hr).trans h

set_option maxRecDepth 100000 in
set_option maxHeartbeats 4000000 in
theorem fOf_no1 (x : Ent) (w : World) (h1 : hasN x.k = false) :
    Calls Tryd.prog 14 #[.agg #[.string x.k, .int .i64 x.t, .int .u16 x.o, .string x.v, .int .i64 x.u]] w fun e w' => e = .returned (.tuple #[.agg #[.string ⟨#[]⟩, .string ⟨#[]⟩, .string ⟨#[]⟩, .int .i64 0], .bool false]) ∧ Below w.heap.size w w' := by
  have d1 := (Below.refl w.heap.size w).alloc (Nat.le_refl _) (.cells #[.string x.k, .int .i64 x.t, .int .u16 x.o, .string x.v, .int .i64 x.u] 24)
  have d2 := d1.alloc (by simp) (.cells #[.string ⟨#[]⟩, .string ⟨#[]⟩, .string ⟨#[]⟩, .int .i64 0] 33)
  have b1 := (EBlk.new w x).on ((Below.refl _ _).alloc (Nat.le_refl _) (.cells #[.string ⟨#[]⟩, .string ⟨#[]⟩, .string ⟨#[]⟩, .int .i64 0] 33))
  have b2 := SnBlk.new (w.alloc (.cells #[.string x.k, .int .i64 x.t, .int .u16 x.o, .string x.v, .int .i64 x.u] 24)) zeroN
  rw [World.size_alloc] at b2
  dsimp only [zeroN] at b2
  have hC := cutN_any x.k ((w.alloc (.cells #[.string x.k, .int .i64 x.t, .int .u16 x.o, .string x.v, .int .i64 x.u] 24)).alloc (.cells #[.string ⟨#[]⟩, .string ⟨#[]⟩, .string ⟨#[]⟩, .int .i64 0] 33))
  rw [h1] at hC
  have HC := Lib.hid hC
  have z0 := b2.c0; have z1 := b2.c1; have z2 := b2.c2; have z3 := b2.c3; have y0 := b2.f 0; have y1 := b2.f 1; have y2 := b2.f 2; have y3 := b2.f 3
  have x0 := b1.c0
  have HF := Lib.hid b2
  have HQ := Lib.hid d2
  clear d1 d2 b1 b2 hC h1
  generalize cutN x.k = ck at *
  obtain ⟨kx, tx, ox, vx, ux⟩ := x
  dsimp only at *
  go_enter Tryd.func14, Tryd.ntmps14
  go_wp2_with (go_at_call 31; refine HC.out.mono ?_; rintro e w1 ⟨rfl, rfl⟩)
  refine bodyPost_ret (v := .tuple #[.agg #[.string ⟨#[]⟩, .string ⟨#[]⟩, .string ⟨#[]⟩, .int .i64 0], .bool false]) (by have b5 := HF.out; have z0 := b5.c0; have z1 := b5.c1; have z2 := b5.c2; have z3 := b5.c3; try unfold stN at z0 z1 z2 z3; simp [results, Tryd.results14, go_sem, z0, z1, z2, z3]) rfl ?_
  exact ⟨rfl, HQ.out⟩
set_option maxRecDepth 100000 in
set_option maxHeartbeats 4000000 in
theorem fOf_no2 (x : Ent) (hk : x.k.size ≤ 1048576) (B : Nat) (w : World) (hB : B ≤ w.heap.size) (hv : VarsOk B w) (h1 : hasN x.k = true) (h2 : errN (sndN x (cutN x.k)) (keepN x) ≠ 0) :
    Calls Tryd.prog 14 #[.agg #[.string x.k, .int .i64 x.t, .int .u16 x.o, .string x.v, .int .i64 x.u]] w fun e w' => e = .returned (.tuple #[.agg #[.string ⟨#[]⟩, .string ⟨#[]⟩, .string ⟨#[]⟩, .int .i64 0], .bool false]) ∧ Below w.heap.size w w' := by
  have d1 := (Below.refl w.heap.size w).alloc (Nat.le_refl _) (.cells #[.string x.k, .int .i64 x.t, .int .u16 x.o, .string x.v, .int .i64 x.u] 24)
  have d2 := d1.alloc (by simp) (.cells #[.string ⟨#[]⟩, .string ⟨#[]⟩, .string ⟨#[]⟩, .int .i64 0] 33)
  have b1 := (EBlk.new w x).on ((Below.refl _ _).alloc (Nat.le_refl _) (.cells #[.string ⟨#[]⟩, .string ⟨#[]⟩, .string ⟨#[]⟩, .int .i64 0] 33))
  have b2 := SnBlk.new (w.alloc (.cells #[.string x.k, .int .i64 x.t, .int .u16 x.o, .string x.v, .int .i64 x.u] 24)) zeroN
  rw [World.size_alloc] at b2
  dsimp only [zeroN] at b2
  have hC := cutN_any x.k ((w.alloc (.cells #[.string x.k, .int .i64 x.t, .int .u16 x.o, .string x.v, .int .i64 x.u] 24)).alloc (.cells #[.string ⟨#[]⟩, .string ⟨#[]⟩, .string ⟨#[]⟩, .int .i64 0] 33))
  rw [h1] at hC
  have hcl := cutN_short x.k
  have hsh := rdK_short (cutN x.k) x
  have hL0 : (cutN x.k).length ≤ 1048576 := by omega
  have HE0 : Hid (∀ u, Below w.heap.size w u → Calls Tryd.prog 10 #[.agg #[.string (sndN x (cutN x.k)).r, .string (sndN x (cutN x.k)).k, .string x.v, .int .i64 x.t], .int .u16 x.o, .int .i64 (keepN x)] u fun e w' => e = .returned (.tuple #[.agg #[.string (ansN (sndN x (cutN x.k)) x.o (keepN x)).k, .int .i64 (ansN (sndN x (cutN x.k)) x.o (keepN x)).t, .int .u16 (ansN (sndN x (cutN x.k)) x.o (keepN x)).o, .string (ansN (sndN x (cutN x.k)) x.o (keepN x)).v, .int .i64 (ansN (sndN x (cutN x.k)) x.o (keepN x)).u], .int .i64 (errN (sndN x (cutN x.k)) (keepN x))]) ∧ Below u.heap.size u w') := Lib.hid (fun u hu => fEntry_any (sndN x (cutN x.k)) x.o (keepN x) B u (Nat.le_trans hB hu.size) (hv.on (hu.mono hB)) (by omega) (by omega))
  generalize hE : errN (sndN x (cutN x.k)) (keepN x) = E at *
  have hEb : ((E : Int) != 0) = true := by simpa using h2
  clear hE
  generalize ansN (sndN x (cutN x.k)) x.o (keepN x) = A at *
  obtain ⟨kp, hkp⟩ : ∃ kp, keepN x = kp := ⟨_, rfl⟩
  rw [hkp] at HE0
  generalize cutN x.k = L at *
  obtain ⟨l0, e0, hO⟩ : ∃ l0 e0, byteE 108 0 L = (l0, e0) := ⟨_, _, rfl⟩
  obtain ⟨l1, e1, s1, hT1⟩ : ∃ l1 e1 s1, textE 1024 e0 l0 = (l1, e1, s1) := ⟨_, _, _, rfl⟩
  obtain ⟨l2, e2, s2, hT2⟩ : ∃ l2 e2 s2, textE 1024 e1 l1 = (l2, e2, s2) := ⟨_, _, _, rfl⟩
  have hS : sndN x L = ⟨⟨s1.toArray⟩, ⟨s2.toArray⟩, x.v, x.t⟩ := by simp only [sndN, rdG, rdR, hO, hT1, hT2]
  rw [hS] at HE0
  dsimp only at HE0
  have HC := Lib.hid hC
  obtain ⟨a1, c1, w1, hcv, hsrc, -, hb1⟩ := bytes_of_str ((w.alloc (.cells #[.string x.k, .int .i64 x.t, .int .u16 x.o, .string x.v, .int .i64 x.u] 24)).alloc (.cells #[.string ⟨#[]⟩, .string ⟨#[]⟩, .string ⟨#[]⟩, .int .i64 0] 33)) L
  have HN := Lib.hid (New_any _ L w1 hsrc (by omega))
  have HT := Lib.hid (And.intro hO (And.intro hT1 hT2))
  have HZ := Lib.hid (And.intro (b1.on hb1) (And.intro (b2.on hb1) (d2.trans (hb1.mono d2.size))))
  have HV := Lib.hid (And.intro hB hv)
  have hkq : IntKind.i64.wrap (x.u - x.t) = kp := hkp
  have x0 := b1.c0
  clear h1 h2  hk hB hv hC hcl hsh hL0 hO hT1 hT2 hS d1 d2 b1 b2 hsrc hb1 hkp
  generalize L.length = nL at *
  obtain ⟨kx, tx, ox, vx, ux⟩ := x
  dsimp only at *
  go_enter Tryd.func14, Tryd.ntmps14
  go_wp2_with (go_at_call 31; refine HC.out.mono ?_; rintro e w1 ⟨rfl, rfl⟩)
  go_wp2_with (go_at_call 17; refine HN.out.mono ?_; rintro e w2 ⟨rb, a2, c2, rfl, hrd2, hrb, -, hb2⟩; refine Hid.out ?_)
  refine Lib.hid ?_
  obtain ⟨b1, b2, d2⟩ := HZ.out
  have b12 := b1.on hb2
  have b22 := b2.on hb2
  have d22 := d2.trans (hb2.mono d2.size)
  have hB1 := b1.lt
  have hB2 := b2.lt
  have HO := Lib.hid (Open_full rb a2 c2 L 0 w2 hrd2 HT.out.1)
  have HZ2 := Lib.hid (And.intro b12 (And.intro b22 (And.intro d22 (And.intro (show w.heap.size ≤ rb by omega) (And.intro (show w.heap.size ≠ rb by omega) (show w.heap.size + 1 ≠ rb by omega))))))
  clear HC HN HZ hcv x0 b1 b2 d2 b12 b22 d22 hrd2 hrb hb2 hB1 hB2
  go_wp2_with (go_at_call 18; refine HO.out.mono ?_; rintro e w3 ⟨rfl, ⟨a3, c3, hrd3⟩, hg3⟩; refine Hid.out ?_)
  refine Lib.hid ?_
  obtain ⟨b1, b2, d2, n1, n2, n3⟩ := HZ2.out
  have d3 : Below w.heap.size w w3 := d2.trans (below_of_grownBy hg3 n1 d2.size)
  have HZ3 := Lib.hid (And.intro (b1.grown hg3 (by simpa using n2)) (And.intro (b2.grown hg3 (by simpa using n3)) (And.intro d3 (And.intro n1 (And.intro n2 n3)))))
  have HT1 := Lib.hid (rText_full rb a3 c3 l0 e0 1024 B w3 hrd3 (Nat.le_trans HV.out.1 n1) (HV.out.2.on (d3.mono HV.out.1)) HT.out.2.1)
  clear HO HZ2 b1 b2 d2 n1 n2 n3 d3 hg3 hrd3
  go_wp2_with (go_at_call 20; refine HT1.out.mono ?_; rintro e w4 ⟨rfl, ⟨a4, c4, hrd4⟩, hg4⟩; refine Hid.out ?_)
  refine Lib.hid ?_
  obtain ⟨b1, b2, d2, n1, n2, n3⟩ := HZ3.out
  have d4 : Below w.heap.size w w4 := d2.trans (below_of_grownBy hg4 n1 d2.size)
  have HZ4 := Lib.hid (And.intro (b1.grown hg4 (by simpa using n2)) (And.intro (b2.grown hg4 (by simpa using n3)) (And.intro d4 (And.intro n1 (And.intro n2 n3)))))
  have HT2 := Lib.hid (rText_full rb a4 c4 l1 e1 1024 B w4 hrd4 (Nat.le_trans HV.out.1 n1) (HV.out.2.on (d4.mono HV.out.1)) HT.out.2.2)
  clear HT1 HZ3 b1 b2 d2 n1 n2 n3 d4 hg4 hrd4
  go_wp2_with (go_at_call 20; refine HT2.out.mono ?_; rintro e w5 ⟨rfl, ⟨a5, c5, hrd5⟩, hg5⟩; refine Hid.out ?_)
  refine Lib.hid ?_
  obtain ⟨b1, b2, d2, n1, n2, n3⟩ := HZ4.out
  have d5 : Below w.heap.size w w5 := d2.trans (below_of_grownBy hg5 n1 d2.size)
  have b15 := b1.grown hg5 (by simpa using n2)
  have b25 := b2.grown hg5 (by simpa using n3)
  have q5 := (Below.refl w5.heap.size w5).alloc (Nat.le_refl _) (.cells #[.string ⟨s1.toArray⟩, .string ⟨s2.toArray⟩, .string vx, .int .i64 tx] 33)
  have nb := SnBlk.new w5 ⟨⟨s1.toArray⟩, ⟨s2.toArray⟩, vx, tx⟩
  dsimp only at nb
  have b16 := b15.on q5
  have b26 := b25.on q5
  have d6 := d5.trans (q5.mono d5.size)
  have x1 := b15.c1; have x3 := b15.c3
  have t1 := b16.c1; have t2 := b16.c2; have t4 := b16.c4
  have HE := Lib.hid (HE0.out _ d6)
  have HZ6 := Lib.hid (And.intro b16 (And.intro b26 (And.intro nb d6)))
  clear HT2 HZ4 b1 b2 d2 n1 n2 n3 d5 hg5 hrd5 b15 b25 q5 nb b16 b26 d6 HE0 HT HV
  dsimp only at x1 x3 t1 t2 t4
  go_wp2_with (go_at_call 10; refine HE.out.mono ?_; rintro e w7 ⟨rfl, q7⟩; refine Hid.out ?_)
  refine Lib.hid ?_
  obtain ⟨b1, b2, nb, d6⟩ := HZ6.out
  have q8 := (Below.refl w7.heap.size w7).alloc (Nat.le_refl _) (.cells #[.string A.k, .int .i64 A.t, .int .u16 A.o, .string A.v, .int .i64 A.u] 24)
  have ab := EBlk.new w7 A
  have b18 := (b1.on q7).on q8
  have b28 := (b2.on q7).on q8
  have nb8 := (nb.on q7).on q8
  have d7 := d6.trans (q7.mono d6.size)
  have d8 := d7.trans (q8.mono d7.size)
  clear x1 x3 t1 t2 t4 HE HZ6 b1 b2 nb d6 d7 q7 q8
  have z0 := b28.c0; have z1 := b28.c1; have z2 := b28.c2; have z3 := b28.c3; have y0 := b28.f 0; have y1 := b28.f 1; have y2 := b28.f 2; have y3 := b28.f 3
  dsimp only at z0 z1 z2 z3
  have HF := Lib.hid (b28.store zeroN)
  have HQ := Lib.hid (stN_below d8 (show w.heap.size ≤ w.heap.size + 1 by omega) zeroN)
  try dsimp only [zeroN] at HF HQ
  clear b18 b28 nb8 d8 ab
  go_wp2
  refine bodyPost_ret (v := .tuple #[.agg #[.string ⟨#[]⟩, .string ⟨#[]⟩, .string ⟨#[]⟩, .int .i64 0], .bool false]) (by have b5 := HF.out; have z0 := b5.c0; have z1 := b5.c1; have z2 := b5.c2; have z3 := b5.c3; try unfold stN at z0 z1 z2 z3; simp [results, Tryd.results14, go_sem, z0, z1, z2, z3]) rfl ?_
  exact ⟨rfl, HQ.out⟩
set_option maxRecDepth 100000 in
set_option maxHeartbeats 4000000 in
theorem fOf_no3 (x : Ent) (hk : x.k.size ≤ 1048576) (B : Nat) (w : World) (hB : B ≤ w.heap.size) (hv : VarsOk B w) (h1 : hasN x.k = true) (h2 : errN (sndN x (cutN x.k)) (keepN x) = 0) (h3 : eqEn (ansN (sndN x (cutN x.k)) x.o (keepN x)) x = false) :
    Calls Tryd.prog 14 #[.agg #[.string x.k, .int .i64 x.t, .int .u16 x.o, .string x.v, .int .i64 x.u]] w fun e w' => e = .returned (.tuple #[.agg #[.string ⟨#[]⟩, .string ⟨#[]⟩, .string ⟨#[]⟩, .int .i64 0], .bool false]) ∧ Below w.heap.size w w' := by
  have d1 := (Below.refl w.heap.size w).alloc (Nat.le_refl _) (.cells #[.string x.k, .int .i64 x.t, .int .u16 x.o, .string x.v, .int .i64 x.u] 24)
  have d2 := d1.alloc (by simp) (.cells #[.string ⟨#[]⟩, .string ⟨#[]⟩, .string ⟨#[]⟩, .int .i64 0] 33)
  have b1 := (EBlk.new w x).on ((Below.refl _ _).alloc (Nat.le_refl _) (.cells #[.string ⟨#[]⟩, .string ⟨#[]⟩, .string ⟨#[]⟩, .int .i64 0] 33))
  have b2 := SnBlk.new (w.alloc (.cells #[.string x.k, .int .i64 x.t, .int .u16 x.o, .string x.v, .int .i64 x.u] 24)) zeroN
  rw [World.size_alloc] at b2
  dsimp only [zeroN] at b2
  have hC := cutN_any x.k ((w.alloc (.cells #[.string x.k, .int .i64 x.t, .int .u16 x.o, .string x.v, .int .i64 x.u] 24)).alloc (.cells #[.string ⟨#[]⟩, .string ⟨#[]⟩, .string ⟨#[]⟩, .int .i64 0] 33))
  rw [h1] at hC
  have hcl := cutN_short x.k
  have hsh := rdK_short (cutN x.k) x
  have hL0 : (cutN x.k).length ≤ 1048576 := by omega
  have HE0 : Hid (∀ u, Below w.heap.size w u → Calls Tryd.prog 10 #[.agg #[.string (sndN x (cutN x.k)).r, .string (sndN x (cutN x.k)).k, .string x.v, .int .i64 x.t], .int .u16 x.o, .int .i64 (keepN x)] u fun e w' => e = .returned (.tuple #[.agg #[.string (ansN (sndN x (cutN x.k)) x.o (keepN x)).k, .int .i64 (ansN (sndN x (cutN x.k)) x.o (keepN x)).t, .int .u16 (ansN (sndN x (cutN x.k)) x.o (keepN x)).o, .string (ansN (sndN x (cutN x.k)) x.o (keepN x)).v, .int .i64 (ansN (sndN x (cutN x.k)) x.o (keepN x)).u], .int .i64 (errN (sndN x (cutN x.k)) (keepN x))]) ∧ Below u.heap.size u w') := Lib.hid (fun u hu => fEntry_any (sndN x (cutN x.k)) x.o (keepN x) B u (Nat.le_trans hB hu.size) (hv.on (hu.mono hB)) (by omega) (by omega))
  rw [h2] at HE0
  generalize ansN (sndN x (cutN x.k)) x.o (keepN x) = A at *
  have HNE := Lib.hid (fun u => run_neE A x u)
  rw [h3] at HNE
  obtain ⟨kp, hkp⟩ : ∃ kp, keepN x = kp := ⟨_, rfl⟩
  rw [hkp] at HE0
  generalize cutN x.k = L at *
  obtain ⟨l0, e0, hO⟩ : ∃ l0 e0, byteE 108 0 L = (l0, e0) := ⟨_, _, rfl⟩
  obtain ⟨l1, e1, s1, hT1⟩ : ∃ l1 e1 s1, textE 1024 e0 l0 = (l1, e1, s1) := ⟨_, _, _, rfl⟩
  obtain ⟨l2, e2, s2, hT2⟩ : ∃ l2 e2 s2, textE 1024 e1 l1 = (l2, e2, s2) := ⟨_, _, _, rfl⟩
  have hS : sndN x L = ⟨⟨s1.toArray⟩, ⟨s2.toArray⟩, x.v, x.t⟩ := by simp only [sndN, rdG, rdR, hO, hT1, hT2]
  rw [hS] at HE0
  dsimp only at HE0
  have HC := Lib.hid hC
  obtain ⟨a1, c1, w1, hcv, hsrc, -, hb1⟩ := bytes_of_str ((w.alloc (.cells #[.string x.k, .int .i64 x.t, .int .u16 x.o, .string x.v, .int .i64 x.u] 24)).alloc (.cells #[.string ⟨#[]⟩, .string ⟨#[]⟩, .string ⟨#[]⟩, .int .i64 0] 33)) L
  have HN := Lib.hid (New_any _ L w1 hsrc (by omega))
  have HT := Lib.hid (And.intro hO (And.intro hT1 hT2))
  have HZ := Lib.hid (And.intro (b1.on hb1) (And.intro (b2.on hb1) (d2.trans (hb1.mono d2.size))))
  have HV := Lib.hid (And.intro hB hv)
  have hkq : IntKind.i64.wrap (x.u - x.t) = kp := hkp
  have x0 := b1.c0
  clear h1 h2 h3 hk hB hv hC hcl hsh hL0 hO hT1 hT2 hS d1 d2 b1 b2 hsrc hb1 hkp
  generalize L.length = nL at *
  obtain ⟨kx, tx, ox, vx, ux⟩ := x
  dsimp only at *
  go_enter Tryd.func14, Tryd.ntmps14
  go_wp2_with (go_at_call 31; refine HC.out.mono ?_; rintro e w1 ⟨rfl, rfl⟩)
  go_wp2_with (go_at_call 17; refine HN.out.mono ?_; rintro e w2 ⟨rb, a2, c2, rfl, hrd2, hrb, -, hb2⟩; refine Hid.out ?_)
  refine Lib.hid ?_
  obtain ⟨b1, b2, d2⟩ := HZ.out
  have b12 := b1.on hb2
  have b22 := b2.on hb2
  have d22 := d2.trans (hb2.mono d2.size)
  have hB1 := b1.lt
  have hB2 := b2.lt
  have HO := Lib.hid (Open_full rb a2 c2 L 0 w2 hrd2 HT.out.1)
  have HZ2 := Lib.hid (And.intro b12 (And.intro b22 (And.intro d22 (And.intro (show w.heap.size ≤ rb by omega) (And.intro (show w.heap.size ≠ rb by omega) (show w.heap.size + 1 ≠ rb by omega))))))
  clear HC HN HZ hcv x0 b1 b2 d2 b12 b22 d22 hrd2 hrb hb2 hB1 hB2
  go_wp2_with (go_at_call 18; refine HO.out.mono ?_; rintro e w3 ⟨rfl, ⟨a3, c3, hrd3⟩, hg3⟩; refine Hid.out ?_)
  refine Lib.hid ?_
  obtain ⟨b1, b2, d2, n1, n2, n3⟩ := HZ2.out
  have d3 : Below w.heap.size w w3 := d2.trans (below_of_grownBy hg3 n1 d2.size)
  have HZ3 := Lib.hid (And.intro (b1.grown hg3 (by simpa using n2)) (And.intro (b2.grown hg3 (by simpa using n3)) (And.intro d3 (And.intro n1 (And.intro n2 n3)))))
  have HT1 := Lib.hid (rText_full rb a3 c3 l0 e0 1024 B w3 hrd3 (Nat.le_trans HV.out.1 n1) (HV.out.2.on (d3.mono HV.out.1)) HT.out.2.1)
  clear HO HZ2 b1 b2 d2 n1 n2 n3 d3 hg3 hrd3
  go_wp2_with (go_at_call 20; refine HT1.out.mono ?_; rintro e w4 ⟨rfl, ⟨a4, c4, hrd4⟩, hg4⟩; refine Hid.out ?_)
  refine Lib.hid ?_
  obtain ⟨b1, b2, d2, n1, n2, n3⟩ := HZ3.out
  have d4 : Below w.heap.size w w4 := d2.trans (below_of_grownBy hg4 n1 d2.size)
  have HZ4 := Lib.hid (And.intro (b1.grown hg4 (by simpa using n2)) (And.intro (b2.grown hg4 (by simpa using n3)) (And.intro d4 (And.intro n1 (And.intro n2 n3)))))
  have HT2 := Lib.hid (rText_full rb a4 c4 l1 e1 1024 B w4 hrd4 (Nat.le_trans HV.out.1 n1) (HV.out.2.on (d4.mono HV.out.1)) HT.out.2.2)
  clear HT1 HZ3 b1 b2 d2 n1 n2 n3 d4 hg4 hrd4
  go_wp2_with (go_at_call 20; refine HT2.out.mono ?_; rintro e w5 ⟨rfl, ⟨a5, c5, hrd5⟩, hg5⟩; refine Hid.out ?_)
  refine Lib.hid ?_
  obtain ⟨b1, b2, d2, n1, n2, n3⟩ := HZ4.out
  have d5 : Below w.heap.size w w5 := d2.trans (below_of_grownBy hg5 n1 d2.size)
  have b15 := b1.grown hg5 (by simpa using n2)
  have b25 := b2.grown hg5 (by simpa using n3)
  have q5 := (Below.refl w5.heap.size w5).alloc (Nat.le_refl _) (.cells #[.string ⟨s1.toArray⟩, .string ⟨s2.toArray⟩, .string vx, .int .i64 tx] 33)
  have nb := SnBlk.new w5 ⟨⟨s1.toArray⟩, ⟨s2.toArray⟩, vx, tx⟩
  dsimp only at nb
  have b16 := b15.on q5
  have b26 := b25.on q5
  have d6 := d5.trans (q5.mono d5.size)
  have x1 := b15.c1; have x3 := b15.c3
  have t1 := b16.c1; have t2 := b16.c2; have t4 := b16.c4
  have HE := Lib.hid (HE0.out _ d6)
  have HZ6 := Lib.hid (And.intro b16 (And.intro b26 (And.intro nb d6)))
  clear HT2 HZ4 b1 b2 d2 n1 n2 n3 d5 hg5 hrd5 b15 b25 q5 nb b16 b26 d6 HE0 HT HV
  dsimp only at x1 x3 t1 t2 t4
  go_wp2_with (go_at_call 10; refine HE.out.mono ?_; rintro e w7 ⟨rfl, q7⟩; refine Hid.out ?_)
  refine Lib.hid ?_
  obtain ⟨b1, b2, nb, d6⟩ := HZ6.out
  have q8 := (Below.refl w7.heap.size w7).alloc (Nat.le_refl _) (.cells #[.string A.k, .int .i64 A.t, .int .u16 A.o, .string A.v, .int .i64 A.u] 24)
  have ab := EBlk.new w7 A
  have b18 := (b1.on q7).on q8
  have b28 := (b2.on q7).on q8
  have nb8 := (nb.on q7).on q8
  have d7 := d6.trans (q7.mono d6.size)
  have d8 := d7.trans (q8.mono d7.size)
  clear x1 x3 t1 t2 t4 HE HZ6 b1 b2 nb d6 d7 q7 q8
  have x0 := b18.c0; have x1 := b18.c1; have x2 := b18.c2; have x3 := b18.c3; have x4 := b18.c4
  dsimp only at x0 x1 x2 x3 x4
  have v0 := ab.c0; have v1 := ab.c1; have v2 := ab.c2; have v3 := ab.c3; have v4 := ab.c4
  have hne := HNE.out
  have z0 := b28.c0; have z1 := b28.c1; have z2 := b28.c2; have z3 := b28.c3; have y0 := b28.f 0; have y1 := b28.f 1; have y2 := b28.f 2; have y3 := b28.f 3
  dsimp only at z0 z1 z2 z3
  have HF := Lib.hid (b28.store zeroN)
  have HQ := Lib.hid (stN_below d8 (show w.heap.size ≤ w.heap.size + 1 by omega) zeroN)
  try dsimp only [zeroN] at HF HQ
  clear b18 b28 nb8 d8 ab
  go_wp2
  refine bodyPost_ret (v := .tuple #[.agg #[.string ⟨#[]⟩, .string ⟨#[]⟩, .string ⟨#[]⟩, .int .i64 0], .bool false]) (by have b5 := HF.out; have z0 := b5.c0; have z1 := b5.c1; have z2 := b5.c2; have z3 := b5.c3; try unfold stN at z0 z1 z2 z3; simp [results, Tryd.results14, go_sem, z0, z1, z2, z3]) rfl ?_
  exact ⟨rfl, HQ.out⟩
set_option maxRecDepth 100000 in
set_option maxHeartbeats 4000000 in
theorem fOf_yes (x : Ent) (hk : x.k.size ≤ 1048576) (B : Nat) (w : World) (hB : B ≤ w.heap.size) (hv : VarsOk B w) (h1 : hasN x.k = true) (h2 : errN (sndN x (cutN x.k)) (keepN x) = 0) (h3 : eqEn (ansN (sndN x (cutN x.k)) x.o (keepN x)) x = true) :
    Calls Tryd.prog 14 #[.agg #[.string x.k, .int .i64 x.t, .int .u16 x.o, .string x.v, .int .i64 x.u]] w fun e w' => e = .returned (.tuple #[.agg #[.string (sndN x (cutN x.k)).r, .string (sndN x (cutN x.k)).k, .string x.v, .int .i64 x.t], .bool true]) ∧ Below w.heap.size w w' := by
  have d1 := (Below.refl w.heap.size w).alloc (Nat.le_refl _) (.cells #[.string x.k, .int .i64 x.t, .int .u16 x.o, .string x.v, .int .i64 x.u] 24)
  have d2 := d1.alloc (by simp) (.cells #[.string ⟨#[]⟩, .string ⟨#[]⟩, .string ⟨#[]⟩, .int .i64 0] 33)
  have b1 := (EBlk.new w x).on ((Below.refl _ _).alloc (Nat.le_refl _) (.cells #[.string ⟨#[]⟩, .string ⟨#[]⟩, .string ⟨#[]⟩, .int .i64 0] 33))
  have b2 := SnBlk.new (w.alloc (.cells #[.string x.k, .int .i64 x.t, .int .u16 x.o, .string x.v, .int .i64 x.u] 24)) zeroN
  rw [World.size_alloc] at b2
  dsimp only [zeroN] at b2
  have hC := cutN_any x.k ((w.alloc (.cells #[.string x.k, .int .i64 x.t, .int .u16 x.o, .string x.v, .int .i64 x.u] 24)).alloc (.cells #[.string ⟨#[]⟩, .string ⟨#[]⟩, .string ⟨#[]⟩, .int .i64 0] 33))
  rw [h1] at hC
  have hcl := cutN_short x.k
  have hsh := rdK_short (cutN x.k) x
  have hL0 : (cutN x.k).length ≤ 1048576 := by omega
  have HE0 : Hid (∀ u, Below w.heap.size w u → Calls Tryd.prog 10 #[.agg #[.string (sndN x (cutN x.k)).r, .string (sndN x (cutN x.k)).k, .string x.v, .int .i64 x.t], .int .u16 x.o, .int .i64 (keepN x)] u fun e w' => e = .returned (.tuple #[.agg #[.string (ansN (sndN x (cutN x.k)) x.o (keepN x)).k, .int .i64 (ansN (sndN x (cutN x.k)) x.o (keepN x)).t, .int .u16 (ansN (sndN x (cutN x.k)) x.o (keepN x)).o, .string (ansN (sndN x (cutN x.k)) x.o (keepN x)).v, .int .i64 (ansN (sndN x (cutN x.k)) x.o (keepN x)).u], .int .i64 (errN (sndN x (cutN x.k)) (keepN x))]) ∧ Below u.heap.size u w') := Lib.hid (fun u hu => fEntry_any (sndN x (cutN x.k)) x.o (keepN x) B u (Nat.le_trans hB hu.size) (hv.on (hu.mono hB)) (by omega) (by omega))
  rw [h2] at HE0
  generalize ansN (sndN x (cutN x.k)) x.o (keepN x) = A at *
  have HNE := Lib.hid (fun u => run_neE A x u)
  rw [h3] at HNE
  obtain ⟨kp, hkp⟩ : ∃ kp, keepN x = kp := ⟨_, rfl⟩
  rw [hkp] at HE0
  generalize cutN x.k = L at *
  obtain ⟨l0, e0, hO⟩ : ∃ l0 e0, byteE 108 0 L = (l0, e0) := ⟨_, _, rfl⟩
  obtain ⟨l1, e1, s1, hT1⟩ : ∃ l1 e1 s1, textE 1024 e0 l0 = (l1, e1, s1) := ⟨_, _, _, rfl⟩
  obtain ⟨l2, e2, s2, hT2⟩ : ∃ l2 e2 s2, textE 1024 e1 l1 = (l2, e2, s2) := ⟨_, _, _, rfl⟩
  have hS : sndN x L = ⟨⟨s1.toArray⟩, ⟨s2.toArray⟩, x.v, x.t⟩ := by simp only [sndN, rdG, rdR, hO, hT1, hT2]
  rw [hS] at HE0 ⊢
  dsimp only at HE0 ⊢
  have HC := Lib.hid hC
  obtain ⟨a1, c1, w1, hcv, hsrc, -, hb1⟩ := bytes_of_str ((w.alloc (.cells #[.string x.k, .int .i64 x.t, .int .u16 x.o, .string x.v, .int .i64 x.u] 24)).alloc (.cells #[.string ⟨#[]⟩, .string ⟨#[]⟩, .string ⟨#[]⟩, .int .i64 0] 33)) L
  have HN := Lib.hid (New_any _ L w1 hsrc (by omega))
  have HT := Lib.hid (And.intro hO (And.intro hT1 hT2))
  have HZ := Lib.hid (And.intro (b1.on hb1) (And.intro (b2.on hb1) (d2.trans (hb1.mono d2.size))))
  have HV := Lib.hid (And.intro hB hv)
  have hkq : IntKind.i64.wrap (x.u - x.t) = kp := hkp
  have x0 := b1.c0
  clear h1 h2 h3 hk hB hv hC hcl hsh hL0 hO hT1 hT2 hS d1 d2 b1 b2 hsrc hb1 hkp
  generalize L.length = nL at *
  obtain ⟨kx, tx, ox, vx, ux⟩ := x
  dsimp only at *
  go_enter Tryd.func14, Tryd.ntmps14
  go_wp2_with (go_at_call 31; refine HC.out.mono ?_; rintro e w1 ⟨rfl, rfl⟩)
  go_wp2_with (go_at_call 17; refine HN.out.mono ?_; rintro e w2 ⟨rb, a2, c2, rfl, hrd2, hrb, -, hb2⟩; refine Hid.out ?_)
  refine Lib.hid ?_
  obtain ⟨b1, b2, d2⟩ := HZ.out
  have b12 := b1.on hb2
  have b22 := b2.on hb2
  have d22 := d2.trans (hb2.mono d2.size)
  have hB1 := b1.lt
  have hB2 := b2.lt
  have HO := Lib.hid (Open_full rb a2 c2 L 0 w2 hrd2 HT.out.1)
  have HZ2 := Lib.hid (And.intro b12 (And.intro b22 (And.intro d22 (And.intro (show w.heap.size ≤ rb by omega) (And.intro (show w.heap.size ≠ rb by omega) (show w.heap.size + 1 ≠ rb by omega))))))
  clear HC HN HZ hcv x0 b1 b2 d2 b12 b22 d22 hrd2 hrb hb2 hB1 hB2
  go_wp2_with (go_at_call 18; refine HO.out.mono ?_; rintro e w3 ⟨rfl, ⟨a3, c3, hrd3⟩, hg3⟩; refine Hid.out ?_)
  refine Lib.hid ?_
  obtain ⟨b1, b2, d2, n1, n2, n3⟩ := HZ2.out
  have d3 : Below w.heap.size w w3 := d2.trans (below_of_grownBy hg3 n1 d2.size)
  have HZ3 := Lib.hid (And.intro (b1.grown hg3 (by simpa using n2)) (And.intro (b2.grown hg3 (by simpa using n3)) (And.intro d3 (And.intro n1 (And.intro n2 n3)))))
  have HT1 := Lib.hid (rText_full rb a3 c3 l0 e0 1024 B w3 hrd3 (Nat.le_trans HV.out.1 n1) (HV.out.2.on (d3.mono HV.out.1)) HT.out.2.1)
  clear HO HZ2 b1 b2 d2 n1 n2 n3 d3 hg3 hrd3
  go_wp2_with (go_at_call 20; refine HT1.out.mono ?_; rintro e w4 ⟨rfl, ⟨a4, c4, hrd4⟩, hg4⟩; refine Hid.out ?_)
  refine Lib.hid ?_
  obtain ⟨b1, b2, d2, n1, n2, n3⟩ := HZ3.out
  have d4 : Below w.heap.size w w4 := d2.trans (below_of_grownBy hg4 n1 d2.size)
  have HZ4 := Lib.hid (And.intro (b1.grown hg4 (by simpa using n2)) (And.intro (b2.grown hg4 (by simpa using n3)) (And.intro d4 (And.intro n1 (And.intro n2 n3)))))
  have HT2 := Lib.hid (rText_full rb a4 c4 l1 e1 1024 B w4 hrd4 (Nat.le_trans HV.out.1 n1) (HV.out.2.on (d4.mono HV.out.1)) HT.out.2.2)
  clear HT1 HZ3 b1 b2 d2 n1 n2 n3 d4 hg4 hrd4
  go_wp2_with (go_at_call 20; refine HT2.out.mono ?_; rintro e w5 ⟨rfl, ⟨a5, c5, hrd5⟩, hg5⟩; refine Hid.out ?_)
  refine Lib.hid ?_
  obtain ⟨b1, b2, d2, n1, n2, n3⟩ := HZ4.out
  have d5 : Below w.heap.size w w5 := d2.trans (below_of_grownBy hg5 n1 d2.size)
  have b15 := b1.grown hg5 (by simpa using n2)
  have b25 := b2.grown hg5 (by simpa using n3)
  have q5 := (Below.refl w5.heap.size w5).alloc (Nat.le_refl _) (.cells #[.string ⟨s1.toArray⟩, .string ⟨s2.toArray⟩, .string vx, .int .i64 tx] 33)
  have nb := SnBlk.new w5 ⟨⟨s1.toArray⟩, ⟨s2.toArray⟩, vx, tx⟩
  dsimp only at nb
  have b16 := b15.on q5
  have b26 := b25.on q5
  have d6 := d5.trans (q5.mono d5.size)
  have x1 := b15.c1; have x3 := b15.c3
  have t1 := b16.c1; have t2 := b16.c2; have t4 := b16.c4
  have HE := Lib.hid (HE0.out _ d6)
  have HZ6 := Lib.hid (And.intro b16 (And.intro b26 (And.intro nb d6)))
  clear HT2 HZ4 b1 b2 d2 n1 n2 n3 d5 hg5 hrd5 b15 b25 q5 nb b16 b26 d6 HE0 HT HV
  dsimp only at x1 x3 t1 t2 t4
  go_wp2_with (go_at_call 10; refine HE.out.mono ?_; rintro e w7 ⟨rfl, q7⟩; refine Hid.out ?_)
  refine Lib.hid ?_
  obtain ⟨b1, b2, nb, d6⟩ := HZ6.out
  have q8 := (Below.refl w7.heap.size w7).alloc (Nat.le_refl _) (.cells #[.string A.k, .int .i64 A.t, .int .u16 A.o, .string A.v, .int .i64 A.u] 24)
  have ab := EBlk.new w7 A
  have b18 := (b1.on q7).on q8
  have b28 := (b2.on q7).on q8
  have nb8 := (nb.on q7).on q8
  have d7 := d6.trans (q7.mono d6.size)
  have d8 := d7.trans (q8.mono d7.size)
  clear x1 x3 t1 t2 t4 HE HZ6 b1 b2 nb d6 d7 q7 q8
  have x0 := b18.c0; have x1 := b18.c1; have x2 := b18.c2; have x3 := b18.c3; have x4 := b18.c4
  dsimp only at x0 x1 x2 x3 x4
  have v0 := ab.c0; have v1 := ab.c1; have v2 := ab.c2; have v3 := ab.c3; have v4 := ab.c4
  have hne := HNE.out
  have u0 := nb8.c0; have u1 := nb8.c1; have u2 := nb8.c2; have u3 := nb8.c3
  dsimp only at u0 u1 u2 u3
  have z0 := b28.c0; have z1 := b28.c1; have z2 := b28.c2; have z3 := b28.c3; have y0 := b28.f 0; have y1 := b28.f 1; have y2 := b28.f 2; have y3 := b28.f 3
  dsimp only at z0 z1 z2 z3
  have HF := Lib.hid (b28.store ⟨⟨s1.toArray⟩, ⟨s2.toArray⟩, vx, tx⟩)
  have HQ := Lib.hid (stN_below d8 (show w.heap.size ≤ w.heap.size + 1 by omega) ⟨⟨s1.toArray⟩, ⟨s2.toArray⟩, vx, tx⟩)
  try dsimp only [zeroN] at HF HQ
  clear b18 b28 nb8 d8 ab
  go_wp2
  refine bodyPost_ret (v := .tuple #[.agg #[.string ⟨s1.toArray⟩, .string ⟨s2.toArray⟩, .string vx, .int .i64 tx], .bool true]) (by have b5 := HF.out; have z0 := b5.c0; have z1 := b5.c1; have z2 := b5.c2; have z3 := b5.c3; try unfold stN at z0 z1 z2 z3; simp [results, Tryd.results14, go_sem, z0, z1, z2, z3]) rfl ?_
  exact ⟨rfl, HQ.out⟩

theorem fOf_any (x : Ent) (hk : x.k.size ≤ 1048576) (B : Nat) (w : World) (hB : B ≤ w.heap.size) (hv : VarsOk B w) :
    Calls Tryd.prog 14 #[.agg #[.string x.k, .int .i64 x.t, .int .u16 x.o, .string x.v, .int .i64 x.u]] w fun e w' => e = .returned (.tuple #[.agg #[.string (ofN x).r, .string (ofN x).k, .string (ofN x).v, .int .i64 (ofN x).t], .bool (okN x)]) ∧ Below w.heap.size w w' := by
  by_cases h1 : hasN x.k = true
  · by_cases h2 : errN (sndN x (cutN x.k)) (keepN x) = 0
    · cases h3 : eqEn (ansN (sndN x (cutN x.k)) x.o (keepN x)) x with
      | true =>
        have ho : okN x = true := (okN_iff x).2 ⟨h1, h2, (eqEn_iff _ _).1 h3⟩
        rw [ofN_ok ho, ho]
        exact fOf_yes x hk B w hB hv h1 h2 h3
      | false =>
        have ho := okN_no3 h3
        rw [ofN_no ho, ho]
        exact fOf_no3 x hk B w hB hv h1 h2 h3
    · have ho := okN_no2 h2
      rw [ofN_no ho, ho]
      exact fOf_no2 x hk B w hB hv h1 h2
  · have h1' : hasN x.k = false := by simpa using h1
    have ho := okN_no1 h1'
    rw [ofN_no ho, ho]
    exact fOf_no1 x w h1'

end Go.Proofs.YtieepbjngolaoaaDoor
