/-
  Copy of package route.
-/
import Derived.Test.YthaimnmbcbhioaaDoorRCopyU
namespace Go.Proofs.YthaimnmbcbhioaaDoor
open Go.RowKit

/-- A configuration's lists, copied; those of its routes ahead of its rules. -/
def TCopied (w' : World) (B : Nat) (l : List Rt) (ls : List Rl) (v1 v2 : Value) : Prop := ∃ (L : List Rt) (Ls : List Rl) (S : Nat), CopyR w' B v1 l L ∧ B ≤ S ∧ (∀ j, v1.ownBlock = some j → j < S) ∧ (∀ r ∈ L, (∀ ad, r.ma = some ad → ad.block < S) ∧ ∀ ad, r.ba = some ad → ad.block < S) ∧ CopyL w' S v2 ls Ls ∧ (∀ r ∈ L, FrR w' r) ∧ ∀ r ∈ Ls, FrL w' r
/-- Half way through the routes. -/
def MidR (w : World) (B : Nat) (v : Value) (l : List Rt) (k : Nat) : Prop := (l.length = 0 ∧ CopyR w B v l []) ∨ ∃ g cap L, v = .slice (some ⟨g, 0, none⟩) l.length cap ∧ MixR w B g l.length cap l L k ∧ ∀ i (hi : i < L.length), i < k → FrR w L[i]
theorem MidR.start {w : World} {B : Nat} {v : Value} {l : List Rt} (h : w.ownsRow B 33 8 v l.length (l.flatMap encR)) : MidR w B v l 0 := by
  by_cases h0 : l.length = 0
  · obtain rfl := List.eq_nil_of_length_eq_zero h0
    exact .inl ⟨rfl, rfl, h, fun r hr => by cases hr⟩
  · rcases h.2 with ⟨-, h1⟩ | ⟨g, cap, cur, rfl, -⟩
    · exact absurd h1 h0
    · exact .inr ⟨g, cap, l, rfl, ⟨rfl, rfl, h, (fun i hi hk => absurd hk (Nat.not_lt_zero _)), fun i hi hi' _ => rfl⟩, fun i hi hk => absurd hk (Nat.not_lt_zero _)⟩
theorem MidR.done {w : World} {B : Nat} {v : Value} {l : List Rt} (h : MidR w B v l l.length) : ∃ L, CopyR w B v l L ∧ ∀ r ∈ L, FrR w r := by
  rcases h with ⟨-, h⟩ | ⟨g, cap, L, rfl, ⟨h1, h2, h3, h4, h5⟩, h6⟩
  · exact ⟨_, h, fun r hr => by cases hr⟩
  · refine ⟨L, ⟨h1, by rw [h2]; exact h3, fun r hr => ?_⟩, fun r hr => ?_⟩
    · obtain ⟨i, hi, rfl⟩ := List.getElem_of_mem hr
      exact h4 i hi (by omega)
    · obtain ⟨i, hi, rfl⟩ := List.getElem_of_mem hr
      exact h6 i hi (by omega)
theorem MidR.grown {w w' : World} {B : Nat} {v : Value} {l : List Rt} {k X : Nat} (h : MidR w B v l k) (hg : w.grownBy w' (some X)) (hX : X < B) : MidR w' B v l k := by
  rcases h with ⟨h0, h⟩ | ⟨g, cap, L, rfl, ⟨h1, h2, h3, h4, h5⟩, h6⟩
  · exact .inl ⟨h0, h.grown hg (fun j hj => by injection hj with hj; omega)⟩
  · have hgl := h3.lt g rfl
    refine .inr ⟨g, cap, L, rfl, ⟨h1, h2, h3.kept hg (.inr fun e => by injection e with e; simp only at e; omega), fun i hi hik => ?_, h5⟩, fun i hi hik => ⟨(h6 i hi hik).1.grown hg (fun ad e x => by injection x with x; have := ((h4 i hi hik).1.2.2 ad e).1; omega), (h6 i hi hik).2.grown hg (fun ad e x => by injection x with x; have := ((h4 i hi hik).2.2.2.2 ad e).1; omega)⟩⟩
    obtain ⟨⟨k1, k2, k3⟩, k4, k5, k6, k7⟩ := h4 i hi hik
    have ap : ∀ a, Apart w B (some g) a → Apart w B (some X) a := fun a ha ad e => ⟨(ha ad e).1, (ha ad e).2.1, fun x => by injection x with x; have := (ha ad e).1; omega⟩
    have ap' : ∀ a, Apart w B (some g) a → Apart w' B (some g) a := fun a ha ad e => ⟨(ha ad e).1, Nat.lt_of_lt_of_le (ha ad e).2.1 hg.size, (ha ad e).2.2⟩
    exact ⟨⟨k1.grown hg (ap _ k3), k2, ap' _ k3⟩, k4.grown hg (ap _ k7), k5, k6, ap' _ k7⟩
def MidL (w : World) (B : Nat) (v : Value) (l : List Rl) (k : Nat) : Prop := (l.length = 0 ∧ CopyL w B v l []) ∨ ∃ g cap L, v = .slice (some ⟨g, 0, none⟩) l.length cap ∧ MixL w B g l.length cap l L k ∧ ∀ i (hi : i < L.length), i < k → FrL w L[i]
theorem MidL.start {w : World} {B : Nat} {v : Value} {l : List Rl} (h : w.ownsRow B 38 3 v l.length (l.flatMap encL)) : MidL w B v l 0 := by
  by_cases h0 : l.length = 0
  · obtain rfl := List.eq_nil_of_length_eq_zero h0
    exact .inl ⟨rfl, rfl, h, fun r hr => by cases hr⟩
  · rcases h.2 with ⟨-, h1⟩ | ⟨g, cap, cur, rfl, -⟩
    · exact absurd h1 h0
    · exact .inr ⟨g, cap, l, rfl, ⟨rfl, rfl, h, (fun i hi hk => absurd hk (Nat.not_lt_zero _)), fun i hi hi' _ => rfl⟩, fun i hi hk => absurd hk (Nat.not_lt_zero _)⟩
theorem MidL.done {w : World} {B : Nat} {v : Value} {l : List Rl} (h : MidL w B v l l.length) : ∃ L, CopyL w B v l L ∧ ∀ r ∈ L, FrL w r := by
  rcases h with ⟨-, h⟩ | ⟨g, cap, L, rfl, ⟨h1, h2, h3, h4, h5⟩, h6⟩
  · exact ⟨_, h, fun r hr => by cases hr⟩
  · refine ⟨L, ⟨h1, by rw [h2]; exact h3, fun r hr => ?_⟩, fun r hr => ?_⟩
    · obtain ⟨i, hi, rfl⟩ := List.getElem_of_mem hr
      exact h4 i hi (by omega)
    · obtain ⟨i, hi, rfl⟩ := List.getElem_of_mem hr
      exact h6 i hi (by omega)
theorem MidL.grown {w w' : World} {B : Nat} {v : Value} {l : List Rl} {k X : Nat} (h : MidL w B v l k) (hg : w.grownBy w' (some X)) (hX : X < B) : MidL w' B v l k := by
  rcases h with ⟨h0, h⟩ | ⟨g, cap, L, rfl, ⟨h1, h2, h3, h4, h5⟩, h6⟩
  · exact .inl ⟨h0, h.grown hg (fun j hj => by injection hj with hj; omega)⟩
  · have hgl := h3.lt g rfl
    refine .inr ⟨g, cap, L, rfl, ⟨h1, h2, h3.kept hg (.inr fun e => by injection e with e; simp only at e; omega), fun i hi hik => ?_, h5⟩, fun i hi hik => Fr.grown (h6 i hi hik) hg (fun ad e x => by injection x with x; have := ((h4 i hi hik).2.2.2.2.2 ad e).1; omega)⟩
    obtain ⟨⟨k1, k2, k3⟩, ⟨j1, j2, j3⟩, k4, k5, k6, k7⟩ := h4 i hi hik
    have ap : ∀ a, Apart w B (some g) a → Apart w B (some X) a := fun a ha ad e => ⟨(ha ad e).1, (ha ad e).2.1, fun x => by injection x with x; have := (ha ad e).1; omega⟩
    have ap' : ∀ a, Apart w B (some g) a → Apart w' B (some g) a := fun a ha ad e => ⟨(ha ad e).1, Nat.lt_of_lt_of_le (ha ad e).2.1 hg.size, (ha ad e).2.2⟩
    exact ⟨⟨k1.grown hg (ap _ k3), k2, ap' _ k3⟩, ⟨j1.grown hg (ap _ j3), j2, ap' _ j3⟩, k4.grown hg (ap _ k7), k5, k6, ap' _ k7⟩
theorem grownBy_below {x y z : World} {row : Option Nat} (h : x.grownBy y row) (hb : Below y.heap.size y z) : x.grownBy z row := ⟨hb.os.trans h.os, hb.tape.trans h.tape, hb.output.trans h.output, Nat.le_trans h.size hb.size, fun k hk hne => (hb.block k (Nat.lt_of_lt_of_le hk h.size)).trans (h.block k hk hne)⟩
theorem grownBy_set {x y : World} {row : Option Nat} (h : x.grownBy y row) (p : Addr) (v : Value) (hp : x.heap.size ≤ p.block ∨ row = some p.block) : x.grownBy (y.setCell p v) row := ⟨h.os, h.tape, h.output, by rw [size_set]; exact h.size, fun k hk hne => by
  rw [Below.heap_setCell y p v k (fun e => by
    rcases hp with hp | hp
    · omega
    · exact hne (by rw [e, hp]))]
  exact h.block k hk hne⟩
theorem XBlk.other {w : World} {X : Nat} {v1 v2 : Value} {pt rs : Int} (h : XBlk w X v1 v2 pt rs) {p : Addr} (hp : X ≠ p.block) (v : Value) : XBlk (w.setCell p v) X v1 v2 pt rs := (Below.heap_setCell w p v X hp).trans h
theorem own_slice {w : World} {B : Nat} {e : TypeId} {size n : Nat} {v : Value} {xs : List Value} (h : w.ownsRow B e size v n xs) : ∃ a c, v = .slice a n c := by
  rcases h.2 with ⟨rfl, rfl⟩ | ⟨g, cap, cur, rfl, -⟩
  · exact ⟨none, 0, rfl⟩
  · exact ⟨_, _, rfl⟩

set_option maxRecDepth 20000 in
set_option maxHeartbeats 8000000 in
theorem tCopy_any (a : Option Addr) (c : Nat) (l : List Rt) (b : Option Addr) (d : Nat) (ls : List Rl) (pt rs : Int) (w : World) (hl : RtsAt w a l) (hls : RlsAt w b ls) (hLi : LightC l ls) (hz : ∀ r ∈ l, (r.ma = none → r.mc = 0) ∧ (r.ba = none → r.bc = 0)) (hzl : ∀ r ∈ ls, (r.sa = none → r.sc = 0) ∧ (r.ta = none → r.tc = 0) ∧ (r.ea = none → r.ec = 0)) (hza : a = none → c = 0) (hzb : b = none → d = 0) :
    Calls Tryd.prog 12 #[.agg #[.slice a l.length c, .slice b ls.length d, .int .i64 pt, .int .i64 rs]] w fun e w' => (∃ v1 v2, e = .returned (.agg #[v1, v2, .int .i64 pt, .int .i64 rs]) ∧ TCopied w' (w.heap.size + 1 + 1) l ls v1 v2) ∧ Below w.heap.size w w' := by
  obtain ⟨hl20, hls12, HLr, HLs⟩ := hLi
  have HLr := Lib.hid HLr
  have HLs := Lib.hid HLs
  have HL := Lib.hid hl
  have HLS := Lib.hid hls
  have HZ := Lib.hid hz
  have HZL := Lib.hid hzl
  have HZB := Lib.hid hzb
  obtain ⟨w1, hw1⟩ : ∃ x, x = w.alloc (.cells #[.slice a l.length c, .slice b ls.length d, .int .i64 pt, .int .i64 rs] 25) := ⟨_, rfl⟩
  obtain ⟨w2, hw2⟩ : ∃ x, x = w1.alloc (.cells #[.slice none 0 0, .slice none 0 0, .int .i64 0, .int .i64 0] 25) := ⟨_, rfl⟩
  have s1 : w1.heap.size = w.heap.size + 1 := by rw [hw1]; simp
  have s2 : w2.heap.size = w.heap.size + 1 + 1 := by rw [hw2]; simp [s1]
  have d1 : Below w.heap.size w w1 := by rw [hw1]; exact (Below.refl w.heap.size w).alloc (Nat.le_refl _) _
  have d2 : Below w1.heap.size w1 w2 := by rw [hw2]; exact (Below.refl w1.heap.size w1).alloc (Nat.le_refl _) _
  have k1 : XBlk w1 w.heap.size (.slice a l.length c) (.slice b ls.length d) pt rs := by rw [hw1]; exact heap_new w _
  have k2 : XBlk w2 (w.heap.size + 1) (.slice none 0 0) (.slice none 0 0) 0 0 := by rw [hw2, ← s1]; exact heap_new w1 _
  have e2 := d1.trans (d2.mono d1.size)
  have H1 := Lib.hid (cloneR_any a c l w2 (hl.below e2 (Nat.le_refl _)) hza (by omega))
  rw [s2] at H1
  have E2 := Lib.hid e2
  have K1 := Lib.hid (k1.below d2)
  have K2 := Lib.hid k2
  have S2 := Lib.hid s2
  clear d1 d2 k1 k2 e2 s1 s2 hl hls hz hzl hza hzb
  subst hw2
  subst hw1
  go_enter Tryd.func12, Tryd.ntmps12
  go_wp2_with (go_at_call 27; refine H1.out.mono ?_; rintro e w3 ⟨⟨v1, rfl, own1⟩, q3⟩; obtain ⟨av, cv, rfl⟩ := own_slice own1; have HO1 := Lib.hid own1; clear own1; refine Hid.out ?_)
  refine Lib.hid ?_
  rw [← S2.out] at q3
  have x3 := K1.out.below q3
  have z3 := K2.out.below q3
  have e3 := E2.out.trans (q3.mono E2.out.size)
  have hsz3 : w.heap.size + 1 + 1 ≤ w3.heap.size := by have := q3.size; have := S2.out; omega
  obtain ⟨w4, hw4⟩ : ∃ x, x = w3.setCell ⟨w.heap.size, 0, none⟩ (.slice av l.length cv) := ⟨_, rfl⟩
  have gs := grown_set w3 ⟨w.heap.size, 0, none⟩ (.slice av l.length cv)
  rw [← hw4] at gs
  have HB0 : Hid (Below w.heap.size w w4) := Lib.hid (e3.grown gs e3.size (fun j hj => by injection hj with hj; simp only at hj; omega))
  have HX0 : Hid (XBlk w4 w.heap.size (.slice av l.length cv) (.slice b ls.length d) pt rs) := Lib.hid (by rw [hw4]; exact x3.set0)
  have HD0 : Hid (XBlk w4 (w.heap.size + 1) (.slice none 0 0) (.slice none 0 0) 0 0) := Lib.hid ((gs.block _ (by omega) (fun e => by injection e with e; simp only at e; omega)).trans z3)
  have HM0 : Hid (MidR w4 (w.heap.size + 1 + 1) (.slice av l.length cv) l 0) := Lib.hid ((MidR.start HO1.out).grown gs (by show w.heap.size < _; omega))
  have fr : w3.frozen? ⟨w.heap.size, 0, none⟩ = false := frozen_of x3
  have y0 : w3.cell? ⟨w.heap.size, 0, none⟩ = some (.slice a l.length c) := cell_heap x3
  clear q3 x3 z3 e3 gs HO1 H1 E2 K1 K2 S2
  subst hw4
  go_wp2
  clear fr y0
  generalize w3.setCell ⟨w.heap.size, 0, none⟩ (.slice av l.length cv) = w4 at *
  go_loopg [3, 4, 14] l.length (fun gg _ _ s14 wr => ∃ k : Nat, k ≤ l.length ∧ l.length - k ≤ gg ∧ s14 = .int .i64 k ∧ Hid (Below w.heap.size w wr) ∧ Hid (XBlk wr w.heap.size (.slice av l.length cv) (.slice b ls.length d) pt rs) ∧ Hid (XBlk wr (w.heap.size + 1) (.slice none 0 0) (.slice none 0 0) 0 0) ∧ Hid (MidR wr (w.heap.size + 1 + 1) (.slice av l.length cv) l k))
  case atStart => exact ⟨0, Nat.zero_le _, by omega, rfl, HB0, HX0, HD0, HM0⟩
  case round =>
    clear HB0 HX0 HD0 HM0
    obtain ⟨k, hk, hg, rfl, HB, HX, HD, HM⟩ := hrel
    by_cases hlt : k < l.length
    · have hkl : (k : Int) < (l.length : Int) := by omega
      obtain ⟨h0, -⟩ | ⟨g, cap, L, ev, hmix, hfr⟩ := HM.out
      · omega
      have HFr := Lib.hid hfr
      clear hfr
      simp only [Value.slice.injEq, true_and] at ev
      obtain ⟨rfl, rfl⟩ := ev
      have hgl := hmix.2.2.1.lt g rfl
      obtain ⟨hln1, hln2⟩ := HLr.out k hlt
      obtain ⟨hz1, hz2⟩ := HZ.out _ (List.getElem_mem hlt)
      obtain ⟨rb, ro, hae, hrb, hrr⟩ := HL.out (by omega)
      obtain ⟨-, hmt, hst⟩ := hrr k hlt
      have hkL : k < L.length := by have := hmix.2.1; omega
      have hLk := hmix.2.2.2.2 k hkL hlt (Nat.le_refl _)
      have row : ∀ j, j < 8 → wr.cell? ⟨g, k * 8 + j, none⟩ = (encR l[k])[j]? := fun j hj => by
        rw [World.ownsRow.cellAt hmix.2.2.1 _ (by omega), flat_get encR_len L k hkL j hj, hLk]
      have e1 : wr.cell? ⟨g, k * 8 + 1, none⟩ = some (.slice l[k].ma l[k].ms.length l[k].mc) := row 1 (by omega)
      have x0 : wr.cell? ⟨w.heap.size, 0, none⟩ = some (.slice (some ⟨g, 0, none⟩) l.length cv) := cell_heap HX.out
      have HC1 := Lib.hid (cloneM_any l[k].ma l[k].mc l[k].ms wr (hmt.below HB.out (Nat.le_refl _)) hz1 (by omega))
      have HRow := Lib.hid row
      have HMx := Lib.hid hmix
      have HSt := Lib.hid hst
      have HZ2 := Lib.hid hz2
      clear hmt hst hrr hae hrb hLk hkL row hmix hz1 hz2 HM
      go_wp2_with (go_at_call 28; refine HC1.out.mono ?_; rintro e u1 ⟨⟨v3, rfl, own3⟩, q1⟩; obtain ⟨a1, c1, rfl, m1⟩ := LstM.of own3; have HM1 := Lib.hid m1; have HF3 := Lib.hid (Fr.of own3); clear own3 m1; refine Hid.out ?_)
      refine Lib.hid ?_
      have o1 := own_keep HMx.out.2.2.1 q1
      have hq1 := q1.size
      have fr1 : u1.frozen? ⟨g, k * 8 + 1, none⟩ = false := World.ownsRow.frozenAt o1 _
      have y1 : u1.cell? ⟨g, k * 8 + 1, none⟩ = some (.slice l[k].ma l[k].ms.length l[k].mc) := (q1.cell (p := ⟨g, k * 8 + 1, none⟩) hgl.2).trans (HRow.out 1 (by omega))
      have y3 : u1.cell? ⟨g, k * 8 + 3, none⟩ = some (.slice l[k].ba l[k].bys.length l[k].bc) := (q1.cell (p := ⟨g, k * 8 + 3, none⟩) hgl.2).trans (HRow.out 3 (by omega))
      obtain ⟨u2, hu2⟩ : ∃ x, x = u1.setCell ⟨g, k * 8 + 1, none⟩ (.slice a1 l[k].ms.length c1) := ⟨_, rfl⟩
      have gs2 := grown_set u1 ⟨g, k * 8 + 1, none⟩ (.slice a1 l[k].ms.length c1)
      rw [← hu2] at gs2
      have sz2 : u2.heap.size = u1.heap.size := by rw [hu2]; exact size_set _ _ _
      have b1 := HB.out.trans (q1.mono HB.out.size)
      have b2 : Below w.heap.size w u2 := b1.grown gs2 b1.size (fun j hj => by injection hj with hj; simp only at hj; omega)
      have X2 : Hid (XBlk u2 w.heap.size (.slice (some ⟨g, 0, none⟩) l.length cv) (.slice b ls.length d) pt rs) := Lib.hid ((gs2.block _ (by omega) (fun e => by injection e with e; simp only at e; omega)).trans (HX.out.below q1))
      have D2 : Hid (XBlk u2 (w.heap.size + 1) (.slice none 0 0) (.slice none 0 0) 0 0) := Lib.hid ((gs2.block _ (by omega) (fun e => by injection e with e; simp only at e; omega)).trans (HD.out.below q1))
      have z3 : u2.cell? ⟨g, k * 8 + 3, none⟩ = some (.slice l[k].ba l[k].bys.length l[k].bc) := by rw [hu2, World.cell?_setCell_other _ _ _ _ (by simp)]; exact y3
      have o2 := (World.ownsRow.stored o1 (k * 8 + 1) (.slice a1 l[k].ms.length c1)).1
      rw [← hu2] at o2
      have HC2 := Lib.hid (cloneS_any l[k].ba l[k].bc l[k].bys u2 (HSt.out.below b2 (Nat.le_refl _)) HZ2.out (by omega))
      have HB2 := Lib.hid b2
      have HO2 := Lib.hid o2
      have HQ1 := Lib.hid q1
      have HU2 := Lib.hid hu2
      have HZ3 := Lib.hid z3
      clear o1 o2 gs2 b1 b2 q1 HC1 e1 x0 HSt HZ2 HB HX HD
      subst hu2
      have z3 := HZ3.out
      go_wp2_with (go_at_call 29; refine HC2.out.mono ?_; rintro e u3 ⟨⟨v4, rfl, own4⟩, q3⟩; obtain ⟨a3, c3, rfl, m3⟩ := LstS.of own4; have HM3 := Lib.hid m3; have HF4 := Lib.hid (Fr.of own4); clear own4 m3; refine Hid.out ?_)
      refine Lib.hid ?_
      clear y1 y3 z3 fr1
      have o3 := own_keep HO2.out q3
      have hq3 := q3.size
      have fr3 : u3.frozen? ⟨g, k * 8 + 3, none⟩ = false := World.ownsRow.frozenAt o3 _
      have y3 : u3.cell? ⟨g, k * 8 + 3, none⟩ = some (.slice l[k].ba l[k].bys.length l[k].bc) := (q3.cell (p := ⟨g, k * 8 + 3, none⟩) (by show g < _; omega)).trans HZ3.out
      obtain ⟨u4, hu4⟩ : ∃ x, x = u3.setCell ⟨g, k * 8 + 3, none⟩ (.slice a3 l[k].bys.length c3) := ⟨_, rfl⟩
      have gs4 := grown_set u3 ⟨g, k * 8 + 3, none⟩ (.slice a3 l[k].bys.length c3)
      rw [← hu4] at gs4
      have b3 := HB2.out.trans (q3.mono HB2.out.size)
      have HB4 : Hid (Below w.heap.size w u4) := Lib.hid (b3.grown gs4 b3.size (fun j hj => by injection hj with hj; simp only at hj; omega))
      have HX4 : Hid (XBlk u4 w.heap.size (.slice (some ⟨g, 0, none⟩) l.length cv) (.slice b ls.length d) pt rs) := Lib.hid ((gs4.block _ (by omega) (fun e => by injection e with e; simp only at e; omega)).trans (X2.out.below q3))
      have HD4 : Hid (XBlk u4 (w.heap.size + 1) (.slice none 0 0) (.slice none 0 0) 0 0) := Lib.hid ((gs4.block _ (by omega) (fun e => by injection e with e; simp only at e; omega)).trans (D2.out.below q3))
      have HM4 : Hid (MidR u4 (w.heap.size + 1 + 1) (.slice (some ⟨g, 0, none⟩) l.length cv) l (k + 1)) := Lib.hid (by
        rw [hu4]
        refine .inr ⟨g, cv, _, rfl, mixR_step HMx.out hlt HQ1.out HM1.out q3 HM3.out, fun i hi hik => ?_⟩
        rw [List.length_set] at hi
        rw [List.getElem_set]
        split
        · exact ⟨((HF3.out.set g (k * 8 + 1) _).below q3).set g (k * 8 + 3) _, HF4.out.set g (k * 8 + 3) _⟩
        · obtain ⟨y1, y2⟩ := HFr.out i hi (by omega)
          exact ⟨(((y1.below HQ1.out).set g (k * 8 + 1) _).below q3).set g (k * 8 + 3) _, (((y2.below HQ1.out).set g (k * 8 + 1) _).below q3).set g (k * 8 + 3) _⟩)
      clear o3 gs4 b3 q3 HC2 HO2 HB2 X2 D2 HQ1 HU2 HM1 HM3 HMx HRow HZ3 sz2 hq1 hq3 HFr HF3 HF4
      subst hu4
      go_wp2
      go_roundg (l.length - (k + 1))
      case measure => omega
      case rel => exact ⟨k + 1, by omega, by omega, by go_num, HB4, HX4, HD4, HM4⟩
    · obtain rfl : k = l.length := by omega
      have hkl : ¬ (l.length : Int) < (l.length : Int) := by omega
      obtain ⟨L, hcr, hfrL⟩ := HM.out.done
      obtain ⟨wS, hwS⟩ : ∃ x, x = wr := ⟨_, rfl⟩
      rw [← hwS] at HB HX HD HM hcr hfrL ⊢
      clear hwS HM
      have HFL := Lib.hid hfrL
      clear hfrL
      have hCr := Lib.hid hcr
      have hszS : w.heap.size + 1 < wS.heap.size := lt_of_block HD.out
      have x1 : wS.cell? ⟨w.heap.size, 1, none⟩ = some (.slice b ls.length d) := cell_heap HX.out
      have HC := Lib.hid (cloneL_any b d ls wS (HLS.out.below HB.out (Nat.le_refl _)) HZB.out (by omega))
      clear hcr
      go_wp2_with (go_at_call 30; refine HC.out.mono ?_; rintro e w5 ⟨⟨v2, rfl, own2⟩, q5⟩; obtain ⟨bv, dv, rfl⟩ := own_slice own2; have HO2 := Lib.hid own2; clear own2; refine Hid.out ?_)
      refine Lib.hid ?_
      have x5 := HX.out.below q5
      have hq5 := q5.size
      have g5 : wS.grownBy w5 (some w.heap.size) := Below.kept q5 _
      obtain ⟨w6, hw6⟩ : ∃ x, x = w5.setCell ⟨w.heap.size, 1, none⟩ (.slice bv ls.length dv) := ⟨_, rfl⟩
      have HG0 : Hid (wS.grownBy w6 (some w.heap.size)) := Lib.hid (by rw [hw6]; exact grownBy_set g5 _ _ (.inr rfl))
      have HX0 : Hid (XBlk w6 w.heap.size (.slice av l.length cv) (.slice bv ls.length dv) pt rs) := Lib.hid (by rw [hw6]; exact x5.set1)
      have HM0 : Hid (MidL w6 wS.heap.size (.slice bv ls.length dv) ls 0) := Lib.hid (by rw [hw6]; exact (MidL.start HO2.out).grown (grown_set w5 ⟨w.heap.size, 1, none⟩ _) (by show w.heap.size < _; omega))
      have fr : w5.frozen? ⟨w.heap.size, 1, none⟩ = false := frozen_of x5
      have y1 : w5.cell? ⟨w.heap.size, 1, none⟩ = some (.slice b ls.length d) := cell_heap x5
      clear q5 x5 g5 HO2 HC x1 HX
      subst hw6
      go_wp2
      clear fr y1
      generalize w5.setCell ⟨w.heap.size, 1, none⟩ (.slice bv ls.length dv) = w6 at *
      go_loopg [5, 6, 45] ls.length (fun gg _ _ s45 wr => ∃ k : Nat, k ≤ ls.length ∧ ls.length - k ≤ gg ∧ s45 = .int .i64 k ∧ Hid (wS.grownBy wr (some w.heap.size)) ∧ Hid (XBlk wr w.heap.size (.slice av l.length cv) (.slice bv ls.length dv) pt rs) ∧ Hid (MidL wr wS.heap.size (.slice bv ls.length dv) ls k))
      case atStart => exact ⟨0, Nat.zero_le _, by omega, rfl, HG0, HX0, HM0⟩
      case round =>
        clear HG0 HX0 HM0
        obtain ⟨k, hk2, hg2, rfl, HG, HX, HM⟩ := hrel
        have hGs := HG.out.size
        have B0 : Below w.heap.size w wr := HB.out.grown HG.out HB.out.size (fun j hj => by injection hj with hj; omega)
        by_cases hlt2 : k < ls.length
        · have hkl2 : (k : Int) < (ls.length : Int) := by omega
          obtain ⟨h0, -⟩ | ⟨g, cap, Ls, ev, hmix, hfr⟩ := HM.out
          · omega
          have HFr := Lib.hid hfr
          clear hfr
          simp only [Value.slice.injEq, true_and] at ev
          obtain ⟨rfl, rfl⟩ := ev
          have hgl := hmix.2.2.1.lt g rfl
          obtain ⟨hln1, hln2, hln3⟩ := HLs.out k hlt2
          obtain ⟨hz1, hz2, hz3⟩ := HZL.out _ (List.getElem_mem hlt2)
          obtain ⟨rb, ro, hae, hrb, hrr⟩ := HLS.out (by omega)
          obtain ⟨-, hmt1, hmt2, hst⟩ := hrr k hlt2
          have hkL : k < Ls.length := by have := hmix.2.1; omega
          have hLk := hmix.2.2.2.2 k hkL hlt2 (Nat.le_refl _)
          have row : ∀ j, j < 3 → wr.cell? ⟨g, k * 3 + j, none⟩ = (encL ls[k])[j]? := fun j hj => by
            rw [World.ownsRow.cellAt hmix.2.2.1 _ (by omega), flat_get encL_len Ls k hkL j hj, hLk]
          have e0 : wr.cell? ⟨g, k * 3, none⟩ = some (.slice ls[k].sa ls[k].src.length ls[k].sc) := row 0 (by omega)
          have x0 : wr.cell? ⟨w.heap.size, 1, none⟩ = some (.slice (some ⟨g, 0, none⟩) ls.length dv) := cell_heap HX.out
          have HC1 := Lib.hid (cloneM_any ls[k].sa ls[k].sc ls[k].src wr (hmt1.below B0 (Nat.le_refl _)) hz1 (by omega))
          have HRow := Lib.hid row
          have HMx := Lib.hid hmix
          have HMt2 := Lib.hid hmt2
          have HSt := Lib.hid hst
          have HZ2 := Lib.hid hz2
          have HZ3 := Lib.hid hz3
          have HB0 := Lib.hid B0
          clear hmt1 hmt2 hst hrr hae hrb hLk hkL row hmix hz1 hz2 hz3 HM B0
          go_wp2_with (go_at_call 28; refine HC1.out.mono ?_; rintro e u1 ⟨⟨v3, rfl, own3⟩, q1⟩; obtain ⟨a1, c1, rfl, m1⟩ := LstM.of own3; have HM1 := Lib.hid m1; clear own3 m1; refine Hid.out ?_)
          refine Lib.hid ?_
          have o1 := own_keep HMx.out.2.2.1 q1
          have hq1 := q1.size
          have fr1 : u1.frozen? ⟨g, k * 3, none⟩ = false := World.ownsRow.frozenAt o1 _
          have y0 : u1.cell? ⟨g, k * 3, none⟩ = some (.slice ls[k].sa ls[k].src.length ls[k].sc) := (q1.cell (p := ⟨g, k * 3, none⟩) hgl.2).trans (HRow.out 0 (by omega))
          have y1 : u1.cell? ⟨g, k * 3 + 1, none⟩ = some (.slice ls[k].ta ls[k].tgt.length ls[k].tc) := (q1.cell (p := ⟨g, k * 3 + 1, none⟩) hgl.2).trans (HRow.out 1 (by omega))
          have y2 : u1.cell? ⟨g, k * 3 + 2, none⟩ = some (.slice ls[k].ea ls[k].eqs.length ls[k].ec) := (q1.cell (p := ⟨g, k * 3 + 2, none⟩) hgl.2).trans (HRow.out 2 (by omega))
          obtain ⟨u2, hu2⟩ : ∃ x, x = u1.setCell ⟨g, k * 3, none⟩ (.slice a1 ls[k].src.length c1) := ⟨_, rfl⟩
          have sz2 : u2.heap.size = u1.heap.size := by rw [hu2]; exact size_set _ _ _
          have G2 : wS.grownBy u2 (some w.heap.size) := by rw [hu2]; exact grownBy_set (grownBy_below HG.out q1) _ _ (.inl (by show wS.heap.size ≤ g; omega))
          have b2 : Below w.heap.size w u2 := HB.out.grown G2 HB.out.size (fun j hj => by injection hj with hj; omega)
          have X2 : Hid (XBlk u2 w.heap.size (.slice av l.length cv) (.slice (some ⟨g, 0, none⟩) ls.length dv) pt rs) := Lib.hid (by rw [hu2]; exact (HX.out.below q1).other (by show w.heap.size ≠ g; omega) _)
          have z1 : u2.cell? ⟨g, k * 3 + 1, none⟩ = some (.slice ls[k].ta ls[k].tgt.length ls[k].tc) := by rw [hu2, World.cell?_setCell_other _ _ _ _ (by simp)]; exact y1
          have z2 : u2.cell? ⟨g, k * 3 + 2, none⟩ = some (.slice ls[k].ea ls[k].eqs.length ls[k].ec) := by rw [hu2, World.cell?_setCell_other _ _ _ _ (by simp)]; exact y2
          have o2 := (World.ownsRow.stored o1 (k * 3) (.slice a1 ls[k].src.length c1)).1
          rw [← hu2] at o2
          have HC2 := Lib.hid (cloneM_any ls[k].ta ls[k].tc ls[k].tgt u2 (HMt2.out.below b2 (Nat.le_refl _)) HZ2.out (by omega))
          have HO2 := Lib.hid o2
          have HG2 := Lib.hid G2
          have HQ1 := Lib.hid q1
          have HZZ1 := Lib.hid z1
          have HZZ2 := Lib.hid z2
          clear o1 o2 b2 q1 HC1 e0 x0 HMt2 HZ2 HG HX G2
          subst hu2
          go_wp2_with (go_at_call 28; refine HC2.out.mono ?_; rintro e u3 ⟨⟨v4, rfl, own4⟩, q3⟩; obtain ⟨a3, c3, rfl, m3⟩ := LstM.of own4; have HM3 := Lib.hid m3; clear own4 m3; refine Hid.out ?_)
          refine Lib.hid ?_
          clear y0 y1 y2 z1 z2 fr1
          have o3 := own_keep HO2.out q3
          have hq3 := q3.size
          have fr3 : u3.frozen? ⟨g, k * 3 + 1, none⟩ = false := World.ownsRow.frozenAt o3 _
          have y1 : u3.cell? ⟨g, k * 3 + 1, none⟩ = some (.slice ls[k].ta ls[k].tgt.length ls[k].tc) := (q3.cell (p := ⟨g, k * 3 + 1, none⟩) (by show g < _; omega)).trans HZZ1.out
          have y2 : u3.cell? ⟨g, k * 3 + 2, none⟩ = some (.slice ls[k].ea ls[k].eqs.length ls[k].ec) := (q3.cell (p := ⟨g, k * 3 + 2, none⟩) (by show g < _; omega)).trans HZZ2.out
          obtain ⟨u4, hu4⟩ : ∃ x, x = u3.setCell ⟨g, k * 3 + 1, none⟩ (.slice a3 ls[k].tgt.length c3) := ⟨_, rfl⟩
          have sz4 : u4.heap.size = u3.heap.size := by rw [hu4]; exact size_set _ _ _
          have G4 : wS.grownBy u4 (some w.heap.size) := by rw [hu4]; exact grownBy_set (grownBy_below HG2.out q3) _ _ (.inl (by show wS.heap.size ≤ g; omega))
          have b4 : Below w.heap.size w u4 := HB.out.grown G4 HB.out.size (fun j hj => by injection hj with hj; omega)
          have X4 : Hid (XBlk u4 w.heap.size (.slice av l.length cv) (.slice (some ⟨g, 0, none⟩) ls.length dv) pt rs) := Lib.hid (by rw [hu4]; exact (X2.out.below q3).other (by show w.heap.size ≠ g; omega) _)
          have z2 : u4.cell? ⟨g, k * 3 + 2, none⟩ = some (.slice ls[k].ea ls[k].eqs.length ls[k].ec) := by rw [hu4, World.cell?_setCell_other _ _ _ _ (by simp)]; exact y2
          have o4 := (World.ownsRow.stored o3 (k * 3 + 1) (.slice a3 ls[k].tgt.length c3)).1
          rw [← hu4] at o4
          have HC3 := Lib.hid (cloneS_any ls[k].ea ls[k].ec ls[k].eqs u4 (HSt.out.below b4 (Nat.le_refl _)) HZ3.out (by omega))
          have HO4 := Lib.hid o4
          have HG4 := Lib.hid G4
          have HQ3 := Lib.hid q3
          have HZZ4 := Lib.hid z2
          clear o3 o4 b4 q3 HC2 HSt HZ3 HG2 X2 G4 HZZ1 HZZ2 HO2
          subst hu4
          go_wp2_with (go_at_call 29; refine HC3.out.mono ?_; rintro e u5 ⟨⟨v5, rfl, own5⟩, q5⟩; obtain ⟨a5, c5, rfl, m5⟩ := LstS.of own5; have HM5 := Lib.hid m5; have HF5 := Lib.hid (Fr.of own5); clear own5 m5; refine Hid.out ?_)
          refine Lib.hid ?_
          clear y1 y2 z2 fr3
          have o5 := own_keep HO4.out q5
          have hq5' := q5.size
          have fr5 : u5.frozen? ⟨g, k * 3 + 2, none⟩ = false := World.ownsRow.frozenAt o5 _
          have y2 : u5.cell? ⟨g, k * 3 + 2, none⟩ = some (.slice ls[k].ea ls[k].eqs.length ls[k].ec) := (q5.cell (p := ⟨g, k * 3 + 2, none⟩) (by show g < _; omega)).trans HZZ4.out
          obtain ⟨u6, hu6⟩ : ∃ x, x = u5.setCell ⟨g, k * 3 + 2, none⟩ (.slice a5 ls[k].eqs.length c5) := ⟨_, rfl⟩
          have HG6 : Hid (wS.grownBy u6 (some w.heap.size)) := Lib.hid (by rw [hu6]; exact grownBy_set (grownBy_below HG4.out q5) _ _ (.inl (by show wS.heap.size ≤ g; omega)))
          have HX6 : Hid (XBlk u6 w.heap.size (.slice av l.length cv) (.slice (some ⟨g, 0, none⟩) ls.length dv) pt rs) := Lib.hid (by rw [hu6]; exact (X4.out.below q5).other (by show w.heap.size ≠ g; omega) _)
          have HM6 : Hid (MidL u6 wS.heap.size (.slice (some ⟨g, 0, none⟩) ls.length dv) ls (k + 1)) := Lib.hid (by
            rw [hu6]
            refine .inr ⟨g, dv, _, rfl, mixL_step HMx.out hlt2 HQ1.out HM1.out HQ3.out HM3.out q5 HM5.out, fun i hi hik => ?_⟩
            rw [List.length_set] at hi
            rw [List.getElem_set]
            split
            · exact HF5.out.set g (k * 3 + 2) _
            · have y1 := HFr.out i hi (by omega)
              exact Fr.set (Fr.below (Fr.set (Fr.below (Fr.set (Fr.below y1 HQ1.out) g (k * 3) _) HQ3.out) g (k * 3 + 1) _) q5) g (k * 3 + 2) _)
          clear o5 q5 HC3 HO4 X4 HQ1 HQ3 HM1 HM3 HM5 HMx HRow HZZ4 sz2 sz4 hq1 hq3 hq5' HG4 HFr HF5
          subst hu6
          go_wp2
          go_roundg (ls.length - (k + 1))
          case measure => omega
          case rel => exact ⟨k + 1, by omega, by omega, by go_num, HG6, HX6, HM6⟩
        · obtain rfl : k = ls.length := by omega
          have hkl2 : ¬ (ls.length : Int) < (ls.length : Int) := by omega
          obtain ⟨Ls, hcl, hfrS⟩ := HM.out.done
          have HFS := Lib.hid hfrS
          clear hfrS
          have HFL2 : Hid (∀ r ∈ L, FrR wr r) := Lib.hid fun r hr => ⟨(HFL.out r hr).1.grown HG.out (fun ad e x => by injection x with x; have := ((hCr.out.2.2 r hr).1.2.2 ad e).1; omega), (HFL.out r hr).2.grown HG.out (fun ad e x => by injection x with x; have := ((hCr.out.2.2 r hr).2.2.2.2 ad e).1; omega)⟩
          have HLA := Lib.hid hCr.out.2.2
          have D2 : XBlk wr (w.heap.size + 1) (.slice none 0 0) (.slice none 0 0) 0 0 := (HG.out.block _ hszS (fun e => by injection e with e; omega)).trans HD.out
          have HCl := Lib.hid hcl
          have HCr := Lib.hid (hCr.out.grown HG.out (fun j hj => by injection hj with hj; omega))
          have HV1 : Hid (∀ j, (Value.slice av l.length cv).ownBlock = some j → j < wS.heap.size) := Lib.hid fun j hj => (hCr.out.2.1.lt j hj).2
          have HLb : Hid (∀ r ∈ L, (∀ ad, r.ma = some ad → ad.block < wS.heap.size) ∧ ∀ ad, r.ba = some ad → ad.block < wS.heap.size) := Lib.hid fun r hr => ⟨fun ad e => ((hCr.out.2.2 r hr).1.2.2 ad e).2.1, fun ad e => ((hCr.out.2.2 r hr).2.2.2.2 ad e).2.1⟩
          have HB2 := Lib.hid B0
          have HD2 := Lib.hid D2
          have fz : ∀ j, wr.frozen? ⟨w.heap.size + 1, j, none⟩ = false := fun j => frozen_of D2
          have f0 := fz 0
          have f1 := fz 1
          have f2 := fz 2
          have f3 := fz 3
          have d0 : wr.cell? ⟨w.heap.size + 1, 0, none⟩ = some (.slice none 0 0) := cell_heap D2
          have d1 : wr.cell? ⟨w.heap.size + 1, 1, none⟩ = some (.slice none 0 0) := cell_heap D2
          have d2 : wr.cell? ⟨w.heap.size + 1, 2, none⟩ = some (.int .i64 0) := cell_heap D2
          have d3 : wr.cell? ⟨w.heap.size + 1, 3, none⟩ = some (.int .i64 0) := cell_heap D2
          have x0 : wr.cell? ⟨w.heap.size, 0, none⟩ = some (.slice av l.length cv) := cell_heap HX.out
          have x1 : wr.cell? ⟨w.heap.size, 1, none⟩ = some (.slice bv ls.length dv) := cell_heap HX.out
          have x2 : wr.cell? ⟨w.heap.size, 2, none⟩ = some (.int .i64 pt) := cell_heap HX.out
          have x3 : wr.cell? ⟨w.heap.size, 3, none⟩ = some (.int .i64 rs) := cell_heap HX.out
          clear HX HG HM hcl B0 D2 fz HL HLS HLr HLs HZ HZL HZB HD HB hCr
          go_wp2
          clear x0 x1 x2 x3 d0 d1 d2 d3 f0 f1 f2 f3
          have gs := (((grown_set wr ⟨w.heap.size + 1, 0, none⟩ (.slice av l.length cv)).trans (grown_set _ ⟨w.heap.size + 1, 1, none⟩ (.slice bv ls.length dv))).trans (grown_set _ ⟨w.heap.size + 1, 2, none⟩ (.int .i64 pt))).trans (grown_set _ ⟨w.heap.size + 1, 3, none⟩ (.int .i64 rs))
          have hD : ((((wr.setCell ⟨w.heap.size + 1, 0, none⟩ (.slice av l.length cv)).setCell ⟨w.heap.size + 1, 1, none⟩ (.slice bv ls.length dv)).setCell ⟨w.heap.size + 1, 2, none⟩ (.int .i64 pt)).setCell ⟨w.heap.size + 1, 3, none⟩ (.int .i64 rs)).heap[w.heap.size + 1]? = some (.cells #[.slice av l.length cv, .slice bv ls.length dv, .int .i64 pt, .int .i64 rs] 25 (0, 0)) := by
            have h := HD2.out
            unfold XBlk at h
            simp [World.setCell, Array.getElem?_modify, h]
          generalize (((wr.setCell ⟨w.heap.size + 1, 0, none⟩ (.slice av l.length cv)).setCell ⟨w.heap.size + 1, 1, none⟩ (.slice bv ls.length dv)).setCell ⟨w.heap.size + 1, 2, none⟩ (.int .i64 pt)).setCell ⟨w.heap.size + 1, 3, none⟩ (.int .i64 rs) = w9 at *
          have y0 : w9.cell? ⟨w.heap.size + 1, 0, none⟩ = some (.slice av l.length cv) := cell_heap hD
          have y1 : w9.cell? ⟨w.heap.size + 1, 1, none⟩ = some (.slice bv ls.length dv) := cell_heap hD
          have y2 : w9.cell? ⟨w.heap.size + 1, 2, none⟩ = some (.int .i64 pt) := cell_heap hD
          have y3 : w9.cell? ⟨w.heap.size + 1, 3, none⟩ = some (.int .i64 rs) := cell_heap hD
          refine bodyPost_ret (v := .agg #[.slice av l.length cv, .slice bv ls.length dv, .int .i64 pt, .int .i64 rs]) (by simp [results, Tryd.results12, go_sem, y0, y1, y2, y3]) rfl ⟨⟨_, _, rfl, L, Ls, wS.heap.size, HCr.out.grown gs (fun j hj => by injection hj with hj; simp only at hj; omega), by omega, HV1.out, HLb.out, HCl.out.grown gs (fun j hj => by injection hj with hj; simp only at hj; omega), (fun r hr => ⟨(HFL2.out r hr).1.grown gs (fun ad e x => by injection x with x; simp only at x; have := ((HCr.out.2.2 r hr).1.2.2 ad e).1; omega), (HFL2.out r hr).2.grown gs (fun ad e x => by injection x with x; simp only at x; have := ((HCr.out.2.2 r hr).2.2.2.2 ad e).1; omega)⟩), fun r hr => Fr.grown (HFS.out r hr) gs (fun ad e x => by injection x with x; simp only at x; have := ((HCl.out.2.2 r hr).2.2.2.2.2 ad e).1; omega)⟩, HB2.out.grown gs HB2.out.size (fun j hj => by injection hj with hj; simp only at hj; omega)⟩

end Go.Proofs.YthaimnmbcbhioaaDoor
