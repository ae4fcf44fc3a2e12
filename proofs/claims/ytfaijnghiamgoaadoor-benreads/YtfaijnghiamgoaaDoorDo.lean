/-
  A call on both readers (do), walked: they stay alike.
-/
import Derived.Test.YtfaijnghiamgoaaDoorFull
import Derived.Deep.RegionHeld3
import Derived.Deep.AppendLies
namespace Go.Proofs.YtfaijnghiamgoaaDoor
open Go.RowKit

theorem grown_new {w w' : World} {r : Option Nat} (h : w.grownBy w' r) {b : Nat} (hb : w.heap.size ≤ b) (i : Nat) (v : Value) : w.grownBy (w'.setCell ⟨b, i, none⟩ v) r :=
  ⟨h.os, h.tape, h.output, by simpa [World.setCell] using h.size, fun k hk hr => (heap_setCell_other w' ⟨b, i, none⟩ k v (show k ≠ b by omega)).trans (h.block k hk hr)⟩
theorem grown_alloc {w w' : World} {r : Option Nat} (h : w.grownBy w' r) (o : Obj) : w.grownBy (w'.alloc o) r :=
  grownBy_trans h (grownBy_of_below ((Below.refl _ _).alloc (Nat.le_refl _) o))
theorem keep_far3 {w w' : World} {b x y : Nat} {r : Option Nat} {v1 v2 : Value} (hg : w.grownBy w' r) (hx : b < w.heap.size) (h : w.cell? ⟨b, x, none⟩ = some v1 ∧ w.cell? ⟨b, y, none⟩ = some v2) (hne : some b ≠ r) : w'.cell? ⟨b, x, none⟩ = some v1 ∧ w'.cell? ⟨b, y, none⟩ = some v2 :=
  ⟨by rw [hg.cell_far ⟨b, x, none⟩ hx hne]; exact h.1, by rw [hg.cell_far ⟨b, y, none⟩ hx hne]; exact h.2⟩
theorem below_drewN3 {B : Nat} {a w : World} (h : Below B a w) (n : Nat) : Below B a (w.drewN n) := h.trans ⟨rfl, rfl, rfl, Nat.le_refl _, fun _ _ => rfl⟩

theorem keep_set {w : World} {b x y b' i : Nat} {v1 v2 v : Value} (h : w.cell? ⟨b, x, none⟩ = some v1 ∧ w.cell? ⟨b, y, none⟩ = some v2) (hne : b ≠ b') : (w.setCell ⟨b', i, none⟩ v).cell? ⟨b, x, none⟩ = some v1 ∧ (w.setCell ⟨b', i, none⟩ v).cell? ⟨b, y, none⟩ = some v2 :=
  ⟨by rw [World.cell?_setCell_far w ⟨b', i, none⟩ ⟨b, x, none⟩ v (fun e => hne e.symm)]; exact h.1, by rw [World.cell?_setCell_far w ⟨b', i, none⟩ ⟨b, y, none⟩ v (fun e => hne e.symm)]; exact h.2⟩

theorem keep_farT {w w' : World} {b x y b5 z : Nat} {r : Option Nat} {v1 v2 v3 : Value} (hg : w.grownBy w' r) (hx : b < w.heap.size) (hx5 : b5 < w.heap.size) (h : w.cell? ⟨b, x, none⟩ = some v1 ∧ w.cell? ⟨b, y, none⟩ = some v2 ∧ w.cell? ⟨b5, z, none⟩ = some v3) (hne : some b ≠ r) (hne5 : some b5 ≠ r) :
    w'.cell? ⟨b, x, none⟩ = some v1 ∧ w'.cell? ⟨b, y, none⟩ = some v2 ∧ w'.cell? ⟨b5, z, none⟩ = some v3 :=
  ⟨by rw [hg.cell_far ⟨b, x, none⟩ hx hne]; exact h.1, by rw [hg.cell_far ⟨b, y, none⟩ hx hne]; exact h.2.1, by rw [hg.cell_far ⟨b5, z, none⟩ hx5 hne5]; exact h.2.2⟩
theorem keep_setT {w : World} {b x y b5 z b' i : Nat} {v1 v2 v3 v : Value} (h : w.cell? ⟨b, x, none⟩ = some v1 ∧ w.cell? ⟨b, y, none⟩ = some v2 ∧ w.cell? ⟨b5, z, none⟩ = some v3) (hne : b ≠ b') (hne5 : b5 ≠ b') :
    (w.setCell ⟨b', i, none⟩ v).cell? ⟨b, x, none⟩ = some v1 ∧ (w.setCell ⟨b', i, none⟩ v).cell? ⟨b, y, none⟩ = some v2 ∧ (w.setCell ⟨b', i, none⟩ v).cell? ⟨b5, z, none⟩ = some v3 :=
  ⟨(keep_set ⟨h.1, h.2.1⟩ hne).1, (keep_set ⟨h.1, h.2.1⟩ hne).2, (keep_set ⟨h.2.2, h.2.2⟩ hne5).1⟩

/-- Both readers behind a call: alike. -/
def DoAns (w w' : World) (rb : Nat) (r : Ending) (l1 : List UInt8) (e1 : Int) : Prop :=
  (∃ a c, Rd w' rb a c l1 e1) ∧ (∃ ax cx, r = .returned (.tuple #[.agg #[.slice ax l1.length cx, .int .i64 e1], .bool true]) ∧ XS w' ax cx l1 e1 ∧ ∀ q, ax = some q → q.block < rb) ∧ w.grownBy w' (some rb)

set_option maxHeartbeats 2000000 in
set_option maxRecDepth 100000 in
theorem do_int (rb : Nat) (a : Option Addr) (c : Nat) (ax : Option Addr) (cx : Nat) (l : List UInt8) (e : Int) (k : Nat) (most : Int) (B : Nat) (w : World) (h : Rd w rb a c l e) (hx : XS w ax cx l e) (hlow : ∀ q, ax = some q → q.block < rb) (hB : B ≤ rb) (hBw : B ≤ w.heap.size) (hv : VarsOk B w) (hk : k < 256) (hm : k % 5 = 0) (l1 : List UInt8) (e1 n : Int) (hT : intE e l = (l1, e1, n)) :
    Calls Tryd.prog 5 #[.pointer (some ⟨rb, 0, none⟩), .agg #[.slice ax l.length cx, .int .i64 e], .agg #[.int .u8 (k : Int), .int .i64 most]] w fun r w' => DoAns w w' rb r l1 e1 := by
  have hm1 : (k : Int) % 5 = 0 := by omega
  have hm2 : Int.tmod (k : Int) 5 = 0 := by rw [Int.tmod_eq_emod_of_nonneg (by omega)]; exact hm1
  have hrl := h.blk.lt
  have hb0 : Below w.heap.size w (((w.alloc (.cells #[.slice ax l.length cx, .int .i64 e] 27)).alloc (.cells #[.int .u8 (k : Int), .int .i64 most] 31)).alloc (.cells #[.slice none 0 0, .int .i64 0] 27)) := (((Below.refl w.heap.size w).alloc (Nat.le_refl _) _).alloc (by simp) _).alloc (by simp; omega) _
  have hT6 : Two (((w.alloc (.cells #[.slice ax l.length cx, .int .i64 e] 27)).alloc (.cells #[.int .u8 (k : Int), .int .i64 most] 31)).alloc (.cells #[.slice none 0 0, .int .i64 0] 27)) (w.heap.size + 1 + 1) 27 (.slice none 0 0) (.int .i64 0) := by
    have := Two.new ((w.alloc (.cells #[.slice ax l.length cx, .int .i64 e] 27)).alloc (.cells #[.int .u8 (k : Int), .int .i64 most] 31)) 27 (.slice none 0 0) (.int .i64 0)
    simpa using this
  have hT4 : Two (((w.alloc (.cells #[.slice ax l.length cx, .int .i64 e] 27)).alloc (.cells #[.int .u8 (k : Int), .int .i64 most] 31)).alloc (.cells #[.slice none 0 0, .int .i64 0] 27)) w.heap.size 27 (.slice ax l.length cx) (.int .i64 e) := ((Two.new w 27 (.slice ax l.length cx) (.int .i64 e)).below ((Below.refl _ _).alloc (Nat.le_refl _) _) (by simp)).below ((Below.refl _ _).alloc (Nat.le_refl _) _) (by simp; omega)
  have hT5 : Two (((w.alloc (.cells #[.slice ax l.length cx, .int .i64 e] 27)).alloc (.cells #[.int .u8 (k : Int), .int .i64 most] 31)).alloc (.cells #[.slice none 0 0, .int .i64 0] 27)) (w.heap.size + 1) 31 (.int .u8 (k : Int)) (.int .i64 most) := by
    have := (Two.new (w.alloc (.cells #[.slice ax l.length cx, .int .i64 e] 27)) 31 (.int .u8 (k : Int)) (.int .i64 most)).below ((Below.refl _ _).alloc (Nat.le_refl _) (.cells #[.slice none 0 0, .int .i64 0] 27)) (by simp)
    simpa using this
  have hxs0 := hx.below hb0
  have hrd0 := h.below hb0
  have hv0 := hv.on (hb0.mono hBw)
  have hsz0 : (((w.alloc (.cells #[.slice ax l.length cx, .int .i64 e] 27)).alloc (.cells #[.int .u8 (k : Int), .int .i64 most] 31)).alloc (.cells #[.slice none 0 0, .int .i64 0] 27)).heap.size = w.heap.size + 1 + 1 + 1 := by simp
  have HSZ := Lib.hid hsz0
  have hszl : w.heap.size + 1 + 1 < (((w.alloc (.cells #[.slice ax l.length cx, .int .i64 e] 27)).alloc (.cells #[.int .u8 (k : Int), .int .i64 most] 31)).alloc (.cells #[.slice none 0 0, .int .i64 0] 27)).heap.size := by rw [hsz0]; omega
  clear hsz0
  have hne : (n == n) = true := by simp
  obtain ⟨herr1, hlen1⟩ := intE_err hT
  have hlim := hx.lim
  have HRF := Lib.hid (fun W (hx : XS W ax cx l e) => refInt_full ax cx l e W hx hT)
  have HRD := Lib.hid (fun W (h : Rd W rb a c l e) (hv : VarsOk B W) => rInt_full rb a c l e B W h hB hv hT)
  clear hT
  have c40 := hT4.c0
  have c41 := hT4.c1
  have c50 := hT5.c0
  have c51 := hT5.c1
  go_enter Tryd.func5, Tryd.ntmps5
  go_wp2_with fail
  generalize ((w.alloc (.cells #[.slice ax l.length cx, .int .i64 e] 27)).alloc (.cells #[.int .u8 (k : Int), .int .i64 most] 31)).alloc (.cells #[.slice none 0 0, .int .i64 0] 27) = W0 at *
  go_wp2_with (go_at_call 10; refine (HRF.out _ hxs0).mono ?_; rintro r w1 ⟨⟨a1, c1, rfl, hsrc1, hcap1, hlow1⟩, hb1⟩; refine Hid.out ?_)
  refine Lib.hid ?_
  have hs1 := hb1.size
  have hlow1' : ∀ q, a1 = some q → q.block < rb := fun q hq => by
    obtain ⟨q0, hq0, hqb⟩ := hlow1 q hq
    have := hlow q0 hq0
    omega
  have hT8 := Two.new w1 27 (.slice a1 l1.length c1) (.int .i64 e1)
  have hbA : Below w1.heap.size w1 (w1.alloc (.cells #[.slice a1 l1.length c1, .int .i64 e1] 27)) := (Below.refl _ _).alloc (Nat.le_refl _) _
  have hT6a := (hT6.below hb1 hszl).below hbA (by omega)
  have hT5a := (hT5.below hb1 (by omega)).below hbA (by omega)
  have hrdA := (hrd0.below hb1).below hbA
  have hnA := (hb0.trans (hb1.mono hb0.size)).trans (hbA.mono (by omega))
  have hvA := hv.on (hnA.mono hBw)
  have hsrcA := hsrc1.below hbA (Nat.le_refl _)
  have hszA : w1.heap.size < (w1.alloc (.cells #[.slice a1 l1.length c1, .int .i64 e1] 27)).heap.size := by simp
  have d0 := hT8.c0
  have d1 := hT8.c1
  have d50 := hT5a.c0
  have d51 := hT5a.c1
  have hgA : w.grownBy (w1.alloc (.cells #[.slice a1 l1.length c1, .int .i64 e1] 27)) (some rb) := grownBy_of_below hnA
  clear c40 c41 c50 c51 hT4 hT5 hT6 hxs0 hrd0 hb0 hbA hb1 hT8 hsrc1 hnA
  go_wp2_with fail
  generalize w1.alloc (.cells #[.slice a1 l1.length c1, .int .i64 e1] 27) = WA at *
  generalize hb8 : w1.heap.size = b8 at *
  clear hb8
  have hne86 : b8 ≠ w.heap.size + 1 + 1 := by omega
  go_region_held3 (fun w' => w'.cell? ⟨b8, 0, none⟩ = some (.slice a1 l1.length c1) ∧ w'.cell? ⟨b8, 1, none⟩ = some (.int .i64 e1)) (first | (go_keep; done) | (exact keep_far3 hg3 (by simp; omega) (by assumption) (by simp; omega)) | (exact keep_set (keep_set (by assumption) hne86) hne86))
    (first
      | (go_at_call 11; refine (HRD.out _ (hrdA.below (Below.refl _ _).drew) (hvA.on (Below.refl _ _).drew)).mono ?_; rintro r w3 ⟨rfl, ⟨a3, c3, hrd3⟩, hg3⟩; have hT63 := (hT6a.below (B := WA.heap.size) (Below.refl _ _).drew (by omega)).grown hg3 (by simp; omega); have f0 := hT63.c0; have f1 := hT63.c1; have f2 := hT63.fr))
  go_wp2
  have hs3 := hg3.size
  have hgw : w.grownBy w3 (some rb) := grownBy_trans hgA (grownBy_trans (grownBy_of_below (Below.refl _ _).drew) hg3)
  have hlo : Below rb WA w3 := ((Below.refl rb WA).drew).trans (below_of_grownBy hg3 (Nat.le_refl _) (by simp; omega))
  refine bodyPost_ret (v := .tuple #[.agg #[.slice a1 l1.length c1, .int .i64 e1], .bool true]) (by simp [results, Tryd.results5, go_sem, f0, f1]) rfl ⟨⟨a3, c3, ?_⟩, ⟨a1, c1, rfl, ⟨?_, hcap1, by omega, herr1⟩, hlow1'⟩, ?_⟩
  · exact (hrd3.above (grownBy_setCell _ _ _ _) (fun j hj => by simp at hj; omega)).above (grownBy_setCell _ _ _ _) (fun j hj => by simp at hj; omega)
  · exact hsrcA.low ((hlo.setCell (p := ⟨w.heap.size + 1 + 1, 0, none⟩) (show rb ≤ w.heap.size + 1 + 1 by omega) _).setCell (p := ⟨w.heap.size + 1 + 1, 1, none⟩) (show rb ≤ w.heap.size + 1 + 1 by omega) _) hlow1'
  · exact grown_new (grown_new hgw (by omega) _ _) (by omega) _ _

set_option maxHeartbeats 2000000 in
set_option maxRecDepth 100000 in
theorem do_text (rb : Nat) (a : Option Addr) (c : Nat) (ax : Option Addr) (cx : Nat) (l : List UInt8) (e : Int) (k : Nat) (most : Int) (B : Nat) (w : World) (h : Rd w rb a c l e) (hx : XS w ax cx l e) (hlow : ∀ q, ax = some q → q.block < rb) (hB : B ≤ rb) (hBw : B ≤ w.heap.size) (hv : VarsOk B w) (hk : k < 256) (hm : k % 5 = 1) (l1 s : List UInt8) (e1 : Int) (hT : textE most e l = (l1, e1, s)) :
    Calls Tryd.prog 5 #[.pointer (some ⟨rb, 0, none⟩), .agg #[.slice ax l.length cx, .int .i64 e], .agg #[.int .u8 (k : Int), .int .i64 most]] w fun r w' => DoAns w w' rb r l1 e1 := by
  have hm1 : (k : Int) % 5 = 1 := by omega
  have hm2 : Int.tmod (k : Int) 5 = 1 := by rw [Int.tmod_eq_emod_of_nonneg (by omega)]; exact hm1
  have hrl := h.blk.lt
  have hb0 : Below w.heap.size w (((w.alloc (.cells #[.slice ax l.length cx, .int .i64 e] 27)).alloc (.cells #[.int .u8 (k : Int), .int .i64 most] 31)).alloc (.cells #[.slice none 0 0, .int .i64 0] 27)) := (((Below.refl w.heap.size w).alloc (Nat.le_refl _) _).alloc (by simp) _).alloc (by simp; omega) _
  have hT6 : Two (((w.alloc (.cells #[.slice ax l.length cx, .int .i64 e] 27)).alloc (.cells #[.int .u8 (k : Int), .int .i64 most] 31)).alloc (.cells #[.slice none 0 0, .int .i64 0] 27)) (w.heap.size + 1 + 1) 27 (.slice none 0 0) (.int .i64 0) := by
    have := Two.new ((w.alloc (.cells #[.slice ax l.length cx, .int .i64 e] 27)).alloc (.cells #[.int .u8 (k : Int), .int .i64 most] 31)) 27 (.slice none 0 0) (.int .i64 0)
    simpa using this
  have hT4 : Two (((w.alloc (.cells #[.slice ax l.length cx, .int .i64 e] 27)).alloc (.cells #[.int .u8 (k : Int), .int .i64 most] 31)).alloc (.cells #[.slice none 0 0, .int .i64 0] 27)) w.heap.size 27 (.slice ax l.length cx) (.int .i64 e) := ((Two.new w 27 (.slice ax l.length cx) (.int .i64 e)).below ((Below.refl _ _).alloc (Nat.le_refl _) _) (by simp)).below ((Below.refl _ _).alloc (Nat.le_refl _) _) (by simp; omega)
  have hT5 : Two (((w.alloc (.cells #[.slice ax l.length cx, .int .i64 e] 27)).alloc (.cells #[.int .u8 (k : Int), .int .i64 most] 31)).alloc (.cells #[.slice none 0 0, .int .i64 0] 27)) (w.heap.size + 1) 31 (.int .u8 (k : Int)) (.int .i64 most) := by
    have := (Two.new (w.alloc (.cells #[.slice ax l.length cx, .int .i64 e] 27)) 31 (.int .u8 (k : Int)) (.int .i64 most)).below ((Below.refl _ _).alloc (Nat.le_refl _) (.cells #[.slice none 0 0, .int .i64 0] 27)) (by simp)
    simpa using this
  have hxs0 := hx.below hb0
  have hrd0 := h.below hb0
  have hv0 := hv.on (hb0.mono hBw)
  have hsz0 : (((w.alloc (.cells #[.slice ax l.length cx, .int .i64 e] 27)).alloc (.cells #[.int .u8 (k : Int), .int .i64 most] 31)).alloc (.cells #[.slice none 0 0, .int .i64 0] 27)).heap.size = w.heap.size + 1 + 1 + 1 := by simp
  have HSZ := Lib.hid hsz0
  have hszl : w.heap.size + 1 + 1 < (((w.alloc (.cells #[.slice ax l.length cx, .int .i64 e] 27)).alloc (.cells #[.int .u8 (k : Int), .int .i64 most] 31)).alloc (.cells #[.slice none 0 0, .int .i64 0] 27)).heap.size := by rw [hsz0]; omega
  clear hsz0
  have hne : ((⟨s.toArray⟩ : ByteArray).toList == (⟨s.toArray⟩ : ByteArray).toList) = true := by simp
  obtain ⟨herr1, hlen1⟩ := textE_err hT
  have hlim := hx.lim
  have HRF := Lib.hid (fun W (hx : XS W ax cx l e) => refText_full ax cx l e most W hx hT)
  have HRD := Lib.hid (fun W (h : Rd W rb a c l e) (hv : VarsOk B W) => rText_full rb a c l e most B W h hB hv hT)
  clear hT
  have c40 := hT4.c0
  have c41 := hT4.c1
  have c50 := hT5.c0
  have c51 := hT5.c1
  go_enter Tryd.func5, Tryd.ntmps5
  go_wp2_with fail
  generalize ((w.alloc (.cells #[.slice ax l.length cx, .int .i64 e] 27)).alloc (.cells #[.int .u8 (k : Int), .int .i64 most] 31)).alloc (.cells #[.slice none 0 0, .int .i64 0] 27) = W0 at *
  go_wp2_with (go_at_call 12; refine (HRF.out _ hxs0).mono ?_; rintro r w1 ⟨⟨a1, c1, rfl, hsrc1, hcap1, hlow1⟩, hb1⟩; refine Hid.out ?_)
  refine Lib.hid ?_
  have hs1 := hb1.size
  have hlow1' : ∀ q, a1 = some q → q.block < rb := fun q hq => by
    obtain ⟨q0, hq0, hqb⟩ := hlow1 q hq
    have := hlow q0 hq0
    omega
  have hT8 := Two.new w1 27 (.slice a1 l1.length c1) (.int .i64 e1)
  have hbA : Below w1.heap.size w1 (w1.alloc (.cells #[.slice a1 l1.length c1, .int .i64 e1] 27)) := (Below.refl _ _).alloc (Nat.le_refl _) _
  have hT6a := (hT6.below hb1 hszl).below hbA (by omega)
  have hT5a := (hT5.below hb1 (by omega)).below hbA (by omega)
  have hrdA := (hrd0.below hb1).below hbA
  have hnA := (hb0.trans (hb1.mono hb0.size)).trans (hbA.mono (by omega))
  have hvA := hv.on (hnA.mono hBw)
  have hsrcA := hsrc1.below hbA (Nat.le_refl _)
  have hszA : w1.heap.size < (w1.alloc (.cells #[.slice a1 l1.length c1, .int .i64 e1] 27)).heap.size := by simp
  have d0 := hT8.c0
  have d1 := hT8.c1
  have d50 := hT5a.c0
  have d51 := hT5a.c1
  have hgA : w.grownBy (w1.alloc (.cells #[.slice a1 l1.length c1, .int .i64 e1] 27)) (some rb) := grownBy_of_below hnA
  clear c40 c41 c50 c51 hT4 hT5 hT6 hxs0 hrd0 hb0 hbA hb1 hT8 hsrc1 hnA
  go_wp2_with fail
  generalize w1.alloc (.cells #[.slice a1 l1.length c1, .int .i64 e1] 27) = WA at *
  generalize hb8 : w1.heap.size = b8 at *
  clear hb8
  have hne86 : b8 ≠ w.heap.size + 1 + 1 := by omega
  have hne56 : w.heap.size + 1 ≠ w.heap.size + 1 + 1 := by omega
  go_region_held3 (fun w' => w'.cell? ⟨b8, 0, none⟩ = some (.slice a1 l1.length c1) ∧ w'.cell? ⟨b8, 1, none⟩ = some (.int .i64 e1) ∧ w'.cell? ⟨w.heap.size + 1, 1, none⟩ = some (.int .i64 most)) (first | (go_keep; done) | (exact keep_farT hg3 (by simp; omega) (by simp; omega) (by assumption) (by simp; omega) (by simp; omega)) | (exact keep_setT (keep_setT (by assumption) hne86 hne56) hne86 hne56))
    (first
      | (go_at_call 13; refine (HRD.out _ (hrdA.below (Below.refl _ _).drew) (hvA.on (Below.refl _ _).drew)).mono ?_; rintro r w3 ⟨rfl, ⟨a3, c3, hrd3⟩, hg3⟩; have hT63 := (hT6a.below (B := WA.heap.size) (Below.refl _ _).drew (by omega)).grown hg3 (by simp; omega); have f0 := hT63.c0; have f1 := hT63.c1; have f2 := hT63.fr))
  go_wp2
  have hs3 := hg3.size
  have hgw : w.grownBy w3 (some rb) := grownBy_trans hgA (grownBy_trans (grownBy_of_below (Below.refl _ _).drew) hg3)
  have hlo : Below rb WA w3 := ((Below.refl rb WA).drew).trans (below_of_grownBy hg3 (Nat.le_refl _) (by simp; omega))
  refine bodyPost_ret (v := .tuple #[.agg #[.slice a1 l1.length c1, .int .i64 e1], .bool true]) (by simp [results, Tryd.results5, go_sem, f0, f1]) rfl ⟨⟨a3, c3, ?_⟩, ⟨a1, c1, rfl, ⟨?_, hcap1, by omega, herr1⟩, hlow1'⟩, ?_⟩
  · exact (hrd3.above (grownBy_setCell _ _ _ _) (fun j hj => by simp at hj; omega)).above (grownBy_setCell _ _ _ _) (fun j hj => by simp at hj; omega)
  · exact hsrcA.low ((hlo.setCell (p := ⟨w.heap.size + 1 + 1, 0, none⟩) (show rb ≤ w.heap.size + 1 + 1 by omega) _).setCell (p := ⟨w.heap.size + 1 + 1, 1, none⟩) (show rb ≤ w.heap.size + 1 + 1 by omega) _) hlow1'
  · exact grown_new (grown_new hgw (by omega) _ _) (by omega) _ _

set_option maxHeartbeats 2000000 in
set_option maxRecDepth 100000 in
theorem do_open (rb : Nat) (a : Option Addr) (c : Nat) (ax : Option Addr) (cx : Nat) (l : List UInt8) (e : Int) (k : Nat) (most : Int) (B : Nat) (w : World) (h : Rd w rb a c l e) (hx : XS w ax cx l e) (hlow : ∀ q, ax = some q → q.block < rb) (_hB : B ≤ rb) (hBw : B ≤ w.heap.size) (hv : VarsOk B w) (hk : k < 256) (hm : k % 5 = 2) (l1 : List UInt8) (e1 : Int) (hT : byteE 108 e l = (l1, e1)) :
    Calls Tryd.prog 5 #[.pointer (some ⟨rb, 0, none⟩), .agg #[.slice ax l.length cx, .int .i64 e], .agg #[.int .u8 (k : Int), .int .i64 most]] w fun r w' => DoAns w w' rb r l1 e1 := by
  have hm1 : (k : Int) % 5 = 2 := by omega
  have hm2 : Int.tmod (k : Int) 5 = 2 := by rw [Int.tmod_eq_emod_of_nonneg (by omega)]; exact hm1
  have hrl := h.blk.lt
  have hb0 : Below w.heap.size w (((w.alloc (.cells #[.slice ax l.length cx, .int .i64 e] 27)).alloc (.cells #[.int .u8 (k : Int), .int .i64 most] 31)).alloc (.cells #[.slice none 0 0, .int .i64 0] 27)) := (((Below.refl w.heap.size w).alloc (Nat.le_refl _) _).alloc (by simp) _).alloc (by simp; omega) _
  have hT6 : Two (((w.alloc (.cells #[.slice ax l.length cx, .int .i64 e] 27)).alloc (.cells #[.int .u8 (k : Int), .int .i64 most] 31)).alloc (.cells #[.slice none 0 0, .int .i64 0] 27)) (w.heap.size + 1 + 1) 27 (.slice none 0 0) (.int .i64 0) := by
    have := Two.new ((w.alloc (.cells #[.slice ax l.length cx, .int .i64 e] 27)).alloc (.cells #[.int .u8 (k : Int), .int .i64 most] 31)) 27 (.slice none 0 0) (.int .i64 0)
    simpa using this
  have hT4 : Two (((w.alloc (.cells #[.slice ax l.length cx, .int .i64 e] 27)).alloc (.cells #[.int .u8 (k : Int), .int .i64 most] 31)).alloc (.cells #[.slice none 0 0, .int .i64 0] 27)) w.heap.size 27 (.slice ax l.length cx) (.int .i64 e) := ((Two.new w 27 (.slice ax l.length cx) (.int .i64 e)).below ((Below.refl _ _).alloc (Nat.le_refl _) _) (by simp)).below ((Below.refl _ _).alloc (Nat.le_refl _) _) (by simp; omega)
  have hT5 : Two (((w.alloc (.cells #[.slice ax l.length cx, .int .i64 e] 27)).alloc (.cells #[.int .u8 (k : Int), .int .i64 most] 31)).alloc (.cells #[.slice none 0 0, .int .i64 0] 27)) (w.heap.size + 1) 31 (.int .u8 (k : Int)) (.int .i64 most) := by
    have := (Two.new (w.alloc (.cells #[.slice ax l.length cx, .int .i64 e] 27)) 31 (.int .u8 (k : Int)) (.int .i64 most)).below ((Below.refl _ _).alloc (Nat.le_refl _) (.cells #[.slice none 0 0, .int .i64 0] 27)) (by simp)
    simpa using this
  have hxs0 := hx.below hb0
  have hrd0 := h.below hb0
  have hv0 := hv.on (hb0.mono hBw)
  have hsz0 : (((w.alloc (.cells #[.slice ax l.length cx, .int .i64 e] 27)).alloc (.cells #[.int .u8 (k : Int), .int .i64 most] 31)).alloc (.cells #[.slice none 0 0, .int .i64 0] 27)).heap.size = w.heap.size + 1 + 1 + 1 := by simp
  have HSZ := Lib.hid hsz0
  have hszl : w.heap.size + 1 + 1 < (((w.alloc (.cells #[.slice ax l.length cx, .int .i64 e] 27)).alloc (.cells #[.int .u8 (k : Int), .int .i64 most] 31)).alloc (.cells #[.slice none 0 0, .int .i64 0] 27)).heap.size := by rw [hsz0]; omega
  clear hsz0
  obtain ⟨herr1, hlen1⟩ := byteE_err hT
  have hlim := hx.lim
  have HRF := Lib.hid (fun W (hx : XS W ax cx l e) => refByte_full ax cx l 108 e W hx hT)
  have HRD := Lib.hid (fun W (h : Rd W rb a c l e) => Open_full rb a c l e W h hT)
  clear hT
  have c50 := hT5.c0
  go_enter Tryd.func5, Tryd.ntmps5
  go_wp2_with fail
  generalize ((w.alloc (.cells #[.slice ax l.length cx, .int .i64 e] 27)).alloc (.cells #[.int .u8 (k : Int), .int .i64 most] 31)).alloc (.cells #[.slice none 0 0, .int .i64 0] 27) = W0 at *
  go_wp2_with (go_at_call 14; refine (HRD.out _ hrd0).mono ?_; rintro r w1 ⟨rfl, ⟨a1, c1, hrd1⟩, hg1⟩; refine Hid.out ?_)
  refine Lib.hid ?_
  have hs1 := hg1.size
  have hT41 := hT4.grown hg1 (by simp; omega)
  have hT61 := hT6.grown hg1 (by simp; omega)
  have hlo1 : Below rb W0 w1 := below_of_grownBy hg1 (Nat.le_refl _) (by omega)
  have hxs1 := hxs0.low hlo1 hlow
  have c40 := hT41.c0
  have c41 := hT41.c1
  have hgw1 : w.grownBy w1 (some rb) := grownBy_trans (grownBy_of_below hb0) hg1
  clear c50 hT4 hT5 hT6 hxs0 hrd0 hb0 hg1
  go_wp2_with (go_at_call 15; refine (HRF.out _ hxs1).mono ?_; rintro r w3 ⟨⟨a3, c3, rfl, hsrc3, hcap3, hlow3⟩, hb3⟩; refine Hid.out ?_)
  refine Lib.hid ?_
  have hs3 := hb3.size
  have hlow3' : ∀ q, a3 = some q → q.block < rb := fun q hq => by
    obtain ⟨q0, hq0, hqb⟩ := hlow3 q hq
    have := hlow q0 hq0
    omega
  have hT63 := hT61.below hb3 (by omega)
  have f0 := hT63.c0
  have f1 := hT63.c1
  have f2 := hT63.fr
  have hrd3 := hrd1.below hb3
  have hgw : w.grownBy w3 (some rb) := grownBy_trans hgw1 (grownBy_of_below hb3)
  clear c40 c41
  go_wp2
  refine bodyPost_ret (v := .tuple #[.agg #[.slice a3 l1.length c3, .int .i64 e1], .bool true]) (by simp [results, Tryd.results5, go_sem, f0, f1]) rfl ⟨⟨a1, c1, ?_⟩, ⟨a3, c3, rfl, ⟨?_, hcap3, by omega, herr1⟩, hlow3'⟩, ?_⟩
  · exact (hrd3.above (grownBy_setCell _ _ _ _) (fun j hj => by simp at hj; omega)).above (grownBy_setCell _ _ _ _) (fun j hj => by simp at hj; omega)
  · exact hsrc3.low (((Below.refl rb w3).setCell (p := ⟨w.heap.size + 1 + 1, 0, none⟩) (show rb ≤ w.heap.size + 1 + 1 by omega) _).setCell (p := ⟨w.heap.size + 1 + 1, 1, none⟩) (show rb ≤ w.heap.size + 1 + 1 by omega) _) hlow3'
  · exact grown_new (grown_new hgw (by omega) _ _) (by omega) _ _

set_option maxHeartbeats 2000000 in
set_option maxRecDepth 100000 in
theorem do_close (rb : Nat) (a : Option Addr) (c : Nat) (ax : Option Addr) (cx : Nat) (l : List UInt8) (e : Int) (k : Nat) (most : Int) (B : Nat) (w : World) (h : Rd w rb a c l e) (hx : XS w ax cx l e) (hlow : ∀ q, ax = some q → q.block < rb) (_hB : B ≤ rb) (hBw : B ≤ w.heap.size) (hv : VarsOk B w) (hk : k < 256) (hm : k % 5 = 4) (l1 : List UInt8) (e1 : Int) (hT : byteE 101 e l = (l1, e1)) :
    Calls Tryd.prog 5 #[.pointer (some ⟨rb, 0, none⟩), .agg #[.slice ax l.length cx, .int .i64 e], .agg #[.int .u8 (k : Int), .int .i64 most]] w fun r w' => DoAns w w' rb r l1 e1 := by
  have hm1 : (k : Int) % 5 = 4 := by omega
  have hm2 : Int.tmod (k : Int) 5 = 4 := by rw [Int.tmod_eq_emod_of_nonneg (by omega)]; exact hm1
  have hrl := h.blk.lt
  have hb0 : Below w.heap.size w (((w.alloc (.cells #[.slice ax l.length cx, .int .i64 e] 27)).alloc (.cells #[.int .u8 (k : Int), .int .i64 most] 31)).alloc (.cells #[.slice none 0 0, .int .i64 0] 27)) := (((Below.refl w.heap.size w).alloc (Nat.le_refl _) _).alloc (by simp) _).alloc (by simp; omega) _
  have hT6 : Two (((w.alloc (.cells #[.slice ax l.length cx, .int .i64 e] 27)).alloc (.cells #[.int .u8 (k : Int), .int .i64 most] 31)).alloc (.cells #[.slice none 0 0, .int .i64 0] 27)) (w.heap.size + 1 + 1) 27 (.slice none 0 0) (.int .i64 0) := by
    have := Two.new ((w.alloc (.cells #[.slice ax l.length cx, .int .i64 e] 27)).alloc (.cells #[.int .u8 (k : Int), .int .i64 most] 31)) 27 (.slice none 0 0) (.int .i64 0)
    simpa using this
  have hT4 : Two (((w.alloc (.cells #[.slice ax l.length cx, .int .i64 e] 27)).alloc (.cells #[.int .u8 (k : Int), .int .i64 most] 31)).alloc (.cells #[.slice none 0 0, .int .i64 0] 27)) w.heap.size 27 (.slice ax l.length cx) (.int .i64 e) := ((Two.new w 27 (.slice ax l.length cx) (.int .i64 e)).below ((Below.refl _ _).alloc (Nat.le_refl _) _) (by simp)).below ((Below.refl _ _).alloc (Nat.le_refl _) _) (by simp; omega)
  have hT5 : Two (((w.alloc (.cells #[.slice ax l.length cx, .int .i64 e] 27)).alloc (.cells #[.int .u8 (k : Int), .int .i64 most] 31)).alloc (.cells #[.slice none 0 0, .int .i64 0] 27)) (w.heap.size + 1) 31 (.int .u8 (k : Int)) (.int .i64 most) := by
    have := (Two.new (w.alloc (.cells #[.slice ax l.length cx, .int .i64 e] 27)) 31 (.int .u8 (k : Int)) (.int .i64 most)).below ((Below.refl _ _).alloc (Nat.le_refl _) (.cells #[.slice none 0 0, .int .i64 0] 27)) (by simp)
    simpa using this
  have hxs0 := hx.below hb0
  have hrd0 := h.below hb0
  have hv0 := hv.on (hb0.mono hBw)
  have hsz0 : (((w.alloc (.cells #[.slice ax l.length cx, .int .i64 e] 27)).alloc (.cells #[.int .u8 (k : Int), .int .i64 most] 31)).alloc (.cells #[.slice none 0 0, .int .i64 0] 27)).heap.size = w.heap.size + 1 + 1 + 1 := by simp
  have HSZ := Lib.hid hsz0
  have hszl : w.heap.size + 1 + 1 < (((w.alloc (.cells #[.slice ax l.length cx, .int .i64 e] 27)).alloc (.cells #[.int .u8 (k : Int), .int .i64 most] 31)).alloc (.cells #[.slice none 0 0, .int .i64 0] 27)).heap.size := by rw [hsz0]; omega
  clear hsz0
  obtain ⟨herr1, hlen1⟩ := byteE_err hT
  have hlim := hx.lim
  have HRF := Lib.hid (fun W (hx : XS W ax cx l e) => refByte_full ax cx l 101 e W hx hT)
  have HRD := Lib.hid (fun W (h : Rd W rb a c l e) => Close_full rb a c l e W h hT)
  clear hT
  have c50 := hT5.c0
  go_enter Tryd.func5, Tryd.ntmps5
  go_wp2_with fail
  generalize ((w.alloc (.cells #[.slice ax l.length cx, .int .i64 e] 27)).alloc (.cells #[.int .u8 (k : Int), .int .i64 most] 31)).alloc (.cells #[.slice none 0 0, .int .i64 0] 27) = W0 at *
  go_wp2_with (go_at_call 18; refine (HRD.out _ hrd0).mono ?_; rintro r w1 ⟨rfl, ⟨a1, c1, hrd1⟩, hg1⟩; refine Hid.out ?_)
  refine Lib.hid ?_
  have hs1 := hg1.size
  have hT41 := hT4.grown hg1 (by simp; omega)
  have hT61 := hT6.grown hg1 (by simp; omega)
  have hlo1 : Below rb W0 w1 := below_of_grownBy hg1 (Nat.le_refl _) (by omega)
  have hxs1 := hxs0.low hlo1 hlow
  have c40 := hT41.c0
  have c41 := hT41.c1
  have hgw1 : w.grownBy w1 (some rb) := grownBy_trans (grownBy_of_below hb0) hg1
  clear c50 hT4 hT5 hT6 hxs0 hrd0 hb0 hg1
  go_wp2_with (go_at_call 15; refine (HRF.out _ hxs1).mono ?_; rintro r w3 ⟨⟨a3, c3, rfl, hsrc3, hcap3, hlow3⟩, hb3⟩; refine Hid.out ?_)
  refine Lib.hid ?_
  have hs3 := hb3.size
  have hlow3' : ∀ q, a3 = some q → q.block < rb := fun q hq => by
    obtain ⟨q0, hq0, hqb⟩ := hlow3 q hq
    have := hlow q0 hq0
    omega
  have hT63 := hT61.below hb3 (by omega)
  have f0 := hT63.c0
  have f1 := hT63.c1
  have f2 := hT63.fr
  have hrd3 := hrd1.below hb3
  have hgw : w.grownBy w3 (some rb) := grownBy_trans hgw1 (grownBy_of_below hb3)
  clear c40 c41
  go_wp2
  refine bodyPost_ret (v := .tuple #[.agg #[.slice a3 l1.length c3, .int .i64 e1], .bool true]) (by simp [results, Tryd.results5, go_sem, f0, f1]) rfl ⟨⟨a1, c1, ?_⟩, ⟨a3, c3, rfl, ⟨?_, hcap3, by omega, herr1⟩, hlow3'⟩, ?_⟩
  · exact (hrd3.above (grownBy_setCell _ _ _ _) (fun j hj => by simp at hj; omega)).above (grownBy_setCell _ _ _ _) (fun j hj => by simp at hj; omega)
  · exact hsrc3.low (((Below.refl rb w3).setCell (p := ⟨w.heap.size + 1 + 1, 0, none⟩) (show rb ≤ w.heap.size + 1 + 1 by omega) _).setCell (p := ⟨w.heap.size + 1 + 1, 1, none⟩) (show rb ≤ w.heap.size + 1 + 1 by omega) _) hlow3'
  · exact grown_new (grown_new hgw (by omega) _ _) (by omega) _ _

set_option maxHeartbeats 2000000 in
set_option maxRecDepth 100000 in
theorem do_more (rb : Nat) (a : Option Addr) (c : Nat) (ax : Option Addr) (cx : Nat) (l : List UInt8) (e : Int) (k : Nat) (most : Int) (B : Nat) (w : World) (h : Rd w rb a c l e) (hx : XS w ax cx l e) (hlow : ∀ q, ax = some q → q.block < rb) (_hB : B ≤ rb) (hBw : B ≤ w.heap.size) (hv : VarsOk B w) (hk : k < 256) (hm : k % 5 = 3) :
    Calls Tryd.prog 5 #[.pointer (some ⟨rb, 0, none⟩), .agg #[.slice ax l.length cx, .int .i64 e], .agg #[.int .u8 (k : Int), .int .i64 most]] w fun r w' => DoAns w w' rb r l e := by
  have hm1 : (k : Int) % 5 = 3 := by omega
  have hm2 : Int.tmod (k : Int) 5 = 3 := by rw [Int.tmod_eq_emod_of_nonneg (by omega)]; exact hm1
  have hrl := h.blk.lt
  have hb0 : Below w.heap.size w (((w.alloc (.cells #[.slice ax l.length cx, .int .i64 e] 27)).alloc (.cells #[.int .u8 (k : Int), .int .i64 most] 31)).alloc (.cells #[.slice none 0 0, .int .i64 0] 27)) := (((Below.refl w.heap.size w).alloc (Nat.le_refl _) _).alloc (by simp) _).alloc (by simp; omega) _
  have hT6 : Two (((w.alloc (.cells #[.slice ax l.length cx, .int .i64 e] 27)).alloc (.cells #[.int .u8 (k : Int), .int .i64 most] 31)).alloc (.cells #[.slice none 0 0, .int .i64 0] 27)) (w.heap.size + 1 + 1) 27 (.slice none 0 0) (.int .i64 0) := by
    have := Two.new ((w.alloc (.cells #[.slice ax l.length cx, .int .i64 e] 27)).alloc (.cells #[.int .u8 (k : Int), .int .i64 most] 31)) 27 (.slice none 0 0) (.int .i64 0)
    simpa using this
  have hT4 : Two (((w.alloc (.cells #[.slice ax l.length cx, .int .i64 e] 27)).alloc (.cells #[.int .u8 (k : Int), .int .i64 most] 31)).alloc (.cells #[.slice none 0 0, .int .i64 0] 27)) w.heap.size 27 (.slice ax l.length cx) (.int .i64 e) := ((Two.new w 27 (.slice ax l.length cx) (.int .i64 e)).below ((Below.refl _ _).alloc (Nat.le_refl _) _) (by simp)).below ((Below.refl _ _).alloc (Nat.le_refl _) _) (by simp; omega)
  have hT5 : Two (((w.alloc (.cells #[.slice ax l.length cx, .int .i64 e] 27)).alloc (.cells #[.int .u8 (k : Int), .int .i64 most] 31)).alloc (.cells #[.slice none 0 0, .int .i64 0] 27)) (w.heap.size + 1) 31 (.int .u8 (k : Int)) (.int .i64 most) := by
    have := (Two.new (w.alloc (.cells #[.slice ax l.length cx, .int .i64 e] 27)) 31 (.int .u8 (k : Int)) (.int .i64 most)).below ((Below.refl _ _).alloc (Nat.le_refl _) (.cells #[.slice none 0 0, .int .i64 0] 27)) (by simp)
    simpa using this
  have hxs0 := hx.below hb0
  have hrd0 := h.below hb0
  have hv0 := hv.on (hb0.mono hBw)
  have hsz0 : (((w.alloc (.cells #[.slice ax l.length cx, .int .i64 e] 27)).alloc (.cells #[.int .u8 (k : Int), .int .i64 most] 31)).alloc (.cells #[.slice none 0 0, .int .i64 0] 27)).heap.size = w.heap.size + 1 + 1 + 1 := by simp
  have HSZ := Lib.hid hsz0
  have hszl : w.heap.size + 1 + 1 < (((w.alloc (.cells #[.slice ax l.length cx, .int .i64 e] 27)).alloc (.cells #[.int .u8 (k : Int), .int .i64 most] 31)).alloc (.cells #[.slice none 0 0, .int .i64 0] 27)).heap.size := by rw [hsz0]; omega
  clear hsz0
  have hbe : ∀ (b : Bool) (w : World), (binOp .eql 4 (.bool b) (.bool b)).run Tryd.prog w = .ok (.bool true) w := fun b w => by
    cases b <;> kernel_rfl
  have HRF := Lib.hid (fun W (hx : XS W ax cx l e) => refMore_any ax cx l e W hx.src hx.err)
  have HRD := Lib.hid (fun W (h : Rd W rb a c l e) => More_any rb a c l e W h)
  generalize moreB l = mb at HRF HRD
  have hlim := hx.lim
  have c40 := hT4.c0
  have c41 := hT4.c1
  have c50 := hT5.c0
  go_enter Tryd.func5, Tryd.ntmps5
  go_wp2_with fail
  generalize ((w.alloc (.cells #[.slice ax l.length cx, .int .i64 e] 27)).alloc (.cells #[.int .u8 (k : Int), .int .i64 most] 31)).alloc (.cells #[.slice none 0 0, .int .i64 0] 27) = W0 at *
  have hne46 : w.heap.size ≠ w.heap.size + 1 + 1 := by omega
  go_region_held3 (fun w' => w'.cell? ⟨w.heap.size, 0, none⟩ = some (.slice ax l.length cx) ∧ w'.cell? ⟨w.heap.size, 1, none⟩ = some (.int .i64 e)) (first | (go_keep; done) | (exact keep_far3 (grownBy_of_below (r := none) hb3) (by simp; omega) (by assumption) (by simp)) | (exact keep_set (keep_set (by assumption) hne46) hne46))
    (first
      | (go_at_call 16; refine (HRD.out _ (hrd0.below (Below.refl _ _).drew)).mono ?_; rintro r w1 ⟨rfl, rfl⟩)
      | (go_at_call 17; refine (HRF.out _ (hxs0.below (Below.refl _ _).drew)).mono ?_; rintro r w3 ⟨rfl, hb3⟩; have hT63 := (hT6.below (B := W0.heap.size) (Below.refl _ _).drew (by omega)).below hb3 (by simp; omega); have f0 := hT63.c0; have f1 := hT63.c1; have f2 := hT63.fr))
  go_wp2
  have hb03 : Below W0.heap.size W0 w3 := ((Below.refl W0.heap.size W0).drew).trans (hb3.mono (by simp))
  have hs3 := hb03.size
  have hrd3 := hrd0.below hb03
  have hxs3 := hxs0.below hb03
  have hgw : w.grownBy w3 (some rb) := grownBy_trans (grownBy_of_below hb0) (grownBy_of_below hb03)
  refine bodyPost_ret (v := .tuple #[.agg #[.slice ax l.length cx, .int .i64 e], .bool true]) (by simp [results, Tryd.results5, go_sem, f0, f1]) rfl ⟨⟨a, c, ?_⟩, ⟨ax, cx, rfl, ?_, hlow⟩, ?_⟩
  · exact (hrd3.above (grownBy_setCell _ _ _ _) (fun j hj => by simp at hj; omega)).above (grownBy_setCell _ _ _ _) (fun j hj => by simp at hj; omega)
  · exact hxs3.low (((Below.refl rb w3).setCell (p := ⟨w.heap.size + 1 + 1, 0, none⟩) (show rb ≤ w.heap.size + 1 + 1 by omega) _).setCell (p := ⟨w.heap.size + 1 + 1, 1, none⟩) (show rb ≤ w.heap.size + 1 + 1 by omega) _) hlow
  · exact grown_new (grown_new hgw (by omega) _ _) (by omega) _ _

end Go.Proofs.YtfaijnghiamgoaaDoor
