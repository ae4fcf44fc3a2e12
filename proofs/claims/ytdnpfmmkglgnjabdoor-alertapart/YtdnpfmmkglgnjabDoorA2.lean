/-
  What the small calls of package alert do: Fires, meet, own, check, New, Len.
-/
import Derived.Test.YtdnpfmmkglgnjabDoorA1
import Derived.Test.YtdnpfmmkglgnjabDoorLab4
import Derived.Test.YtdnpfmmkglgnjabDoorLRPlain
namespace Go.Proofs.YtdnpfmmkglgnjabDoor
open Go.RowKit

/-- A block of one alert. -/
def AlBlk (w : World) (B : Nat) (a : Option Addr) (n c : Nat) (s e : Int) : Prop := w.heap[B]? = some (.cells #[.slice a n c, .int .i64 s, .int .i64 e] 25 (0, 0))

def firesP (s e now : Int) : Bool := decide (s ≤ now) && decide (now < e)
set_option maxHeartbeats 400000 in
theorem aFires_any (a : Option Addr) (n c : Nat) (s e now : Int) (w : World) : Calls Tryd.prog 26 #[.agg #[.slice a n c, .int .i64 s, .int .i64 e], .int .i64 now] w fun r w' => r = .returned (.bool (firesP s e now)) ∧ Below w.heap.size w w' := by
  have d1 := (Below.refl w.heap.size w).alloc (Nat.le_refl _) (.cells #[.slice a n c, .int .i64 s, .int .i64 e] 25)
  unfold firesP
  by_cases h1 : s ≤ now
  · go_enter Tryd.func26, Tryd.ntmps26
    go_wp2
    go_ret
    exact ⟨by simp [h1], d1⟩
  · go_enter Tryd.func26, Tryd.ntmps26
    go_wp2
    go_ret
    exact ⟨by simp; omega, d1⟩

/-- Whether no tick lies between two alerts. -/
def meetP (s1 e1 s2 e2 : Int) : Bool := decide (s2 ≤ e1) && decide (s1 ≤ e2)
set_option maxHeartbeats 400000 in
theorem aMeet_any (a b : Option Addr) (n c m d : Nat) (s1 e1 s2 e2 : Int) (w : World) : Calls Tryd.prog 21 #[.agg #[.slice a n c, .int .i64 s1, .int .i64 e1], .agg #[.slice b m d, .int .i64 s2, .int .i64 e2]] w fun r w' => r = .returned (.bool (meetP s1 e1 s2 e2)) ∧ Below w.heap.size w w' := by
  have d1 := (Below.refl w.heap.size w).alloc (Nat.le_refl _) (.cells #[.slice a n c, .int .i64 s1, .int .i64 e1] 25)
  have d2 := d1.alloc (by simp) (.cells #[.slice b m d, .int .i64 s2, .int .i64 e2] 25)
  unfold meetP
  by_cases h1 : s2 ≤ e1
  · go_enter Tryd.func21, Tryd.ntmps21
    go_wp2
    go_ret
    exact ⟨by simp [h1], d2⟩
  · go_enter Tryd.func21, Tryd.ntmps21
    go_wp2
    go_ret
    exact ⟨by simp; omega, d2⟩

set_option maxHeartbeats 1000000 in
theorem aNew_any (w : World) : Calls Tryd.prog 6 #[] w fun e w' => e = .returned (.pointer (some ⟨w.heap.size + 1, 0, none⟩)) ∧ w' = (w.alloc (.map #[] 0)).alloc (.cells #[.map (some w.heap.size)] 47) := by
  have hmm := @run_makeMap Tryd.prog
  go_enter Tryd.func6, Tryd.ntmps6
  go_wp2
  go_ret
  exact ⟨by simp, rfl⟩

theorem AlBlk.below {w w' : World} {B N : Nat} {a : Option Addr} {n c : Nat} {s e : Int} (h : AlBlk w B a n c s e) (hb : Below N w w') (hN : B < N) : AlBlk w' B a n c s e := (hb.block B hN).trans h
theorem AlBlk.c0 {w : World} {B : Nat} {a : Option Addr} {n c : Nat} {s e : Int} (h : AlBlk w B a n c s e) : w.cell? ⟨B, 0, none⟩ = some (.slice a n c) := cellA h
theorem AlBlk.c1 {w : World} {B : Nat} {a : Option Addr} {n c : Nat} {s e : Int} (h : AlBlk w B a n c s e) : w.cell? ⟨B, 1, none⟩ = some (.int .i64 s) := cellA h
theorem AlBlk.c2 {w : World} {B : Nat} {a : Option Addr} {n c : Nat} {s e : Int} (h : AlBlk w B a n c s e) : w.cell? ⟨B, 2, none⟩ = some (.int .i64 e) := cellA h
theorem AlBlk.f {w : World} {B : Nat} {a : Option Addr} {n c : Nat} {s e : Int} (h : AlBlk w B a n c s e) (j : Nat) : w.frozen? ⟨B, j, none⟩ = false := by
  unfold AlBlk at h
  simp [World.frozen?, h]
theorem AlBlk.set0 {w : World} {B : Nat} {a a' : Option Addr} {n c n' c' : Nat} {s e : Int} (h : AlBlk w B a n c s e) : AlBlk (w.setCell ⟨B, 0, none⟩ (.slice a' n' c')) B a' n' c' s e := by
  unfold AlBlk at h ⊢
  simp [World.setCell, Array.getElem?_modify, h]
theorem AlBlk.set1 {w : World} {B : Nat} {a : Option Addr} {n c : Nat} {s e x : Int} (h : AlBlk w B a n c s e) : AlBlk (w.setCell ⟨B, 1, none⟩ (.int .i64 x)) B a n c x e := by
  unfold AlBlk at h ⊢
  simp [World.setCell, Array.getElem?_modify, h]
theorem AlBlk.set2 {w : World} {B : Nat} {a : Option Addr} {n c : Nat} {s e x : Int} (h : AlBlk w B a n c s e) : AlBlk (w.setCell ⟨B, 2, none⟩ (.int .i64 x)) B a n c s x := by
  unfold AlBlk at h ⊢
  simp [World.setCell, Array.getElem?_modify, h]
theorem AlBlk.other {w : World} {B : Nat} {a : Option Addr} {n c : Nat} {s e : Int} (h : AlBlk w B a n c s e) {p : Addr} (hp : B ≠ p.block) (v : Value) : AlBlk (w.setCell p v) B a n c s e := (Below.heap_setCell w p v B hp).trans h
theorem AlBlk.new (w : World) (a : Option Addr) (n c : Nat) (s e : Int) : AlBlk (w.alloc (.cells #[.slice a n c, .int .i64 s, .int .i64 e] 25)) w.heap.size a n c s e := newA w _

set_option maxHeartbeats 1000000 in
theorem aOwn_any (a : Option Addr) (c : Nat) (ps : List Pr) (s e : Int) (w : World) (h : PairsAt w a ps) (hn : ps.length ≤ 4398046511103) (n : Nat) (hnl : n = ps.length) :
    Calls Tryd.prog 22 #[.agg #[.slice a n c, .int .i64 s, .int .i64 e]] w fun r w' => ∃ a' c', r = .returned (.agg #[.slice a' n c', .int .i64 s, .int .i64 e]) ∧ OwnP w' w.heap.size (.slice a' n c') ps ∧ Below w.heap.size w w' := by
  have d1 := (Below.refl w.heap.size w).alloc (Nat.le_refl _) (.cells #[.slice a n c, .int .i64 s, .int .i64 e] 25)
  have d2 := d1.alloc (by simp) (.cells #[.slice none 0 0, .int .i64 0, .int .i64 0] 25)
  have k1 := AlBlk.new w a n c s e
  have k2 := k1.below ((Below.refl _ _).alloc (Nat.le_refl _) (.cells #[.slice none 0 0, .int .i64 0, .int .i64 0] 25)) (by simp)
  have j2 := AlBlk.new (w.alloc (.cells #[.slice a n c, .int .i64 s, .int .i64 e] 25)) none 0 0 0 0
  have HC := Lib.hid (Clone_any a c ps _ (h.below d2 (Nat.le_refl _)) hn)
  rw [← hnl] at HC
  have s2 : ((w.alloc (.cells #[.slice a n c, .int .i64 s, .int .i64 e] 25)).alloc (.cells #[.slice none 0 0, .int .i64 0, .int .i64 0] 25)).heap.size = w.heap.size + 1 + 1 := by simp
  have s1 : (w.alloc (.cells #[.slice a n c, .int .i64 s, .int .i64 e] 25)).heap.size = w.heap.size + 1 := by simp
  rw [s1] at j2
  have HH := Lib.hid (And.intro d2 (And.intro k2 (And.intro j2 (And.intro s2 hnl))))
  clear d1 d2 k1 k2 j2 s1 s2 h hn hnl
  go_enter Tryd.func22, Tryd.ntmps22
  go_wp2_with (go_at_call 35; refine HC.out.mono ?_; rintro e w' ⟨v, rfl, hv, hb⟩; refine Hid.out ?_)
  obtain ⟨d2, k2, j2, s2, hnl⟩ := HH.out
  rw [s2] at hv hb
  obtain ⟨a', c', rfl, -, -, hq⟩ := hv.form
  have k3 := k2.below hb (by omega)
  have j3 := j2.below hb (by omega)
  have c0 := k3.c0; have f0 := k3.f 0
  have k4 : AlBlk (w'.setCell ⟨w.heap.size, 0, none⟩ (.slice a' ps.length c')) w.heap.size a' ps.length c' s e := k3.set0
  have j4 : AlBlk (w'.setCell ⟨w.heap.size, 0, none⟩ (.slice a' ps.length c')) (w.heap.size + 1) none 0 0 0 0 := j3.other (by simp) _
  have d0 := k4.c0; have d1 := k4.c1; have d2' := k4.c2
  have e0 := j4.c0; have e1 := j4.c1; have e2 := j4.c2
  have g0 := j4.f 0; have g1 := j4.f 1; have g2 := j4.f 2
  have hB : Below w.heap.size w ((((w'.setCell ⟨w.heap.size, 0, none⟩ (.slice a' ps.length c')).setCell ⟨w.heap.size + 1, 0, none⟩ (.slice a' ps.length c')).setCell ⟨w.heap.size + 1, 1, none⟩ (.int .i64 s)).setCell ⟨w.heap.size + 1, 2, none⟩ (.int .i64 e)) :=
    ((((d2.trans (hb.mono (by omega))).setCell (p := ⟨w.heap.size, 0, none⟩) (Nat.le_refl _) _).setCell (p := ⟨w.heap.size + 1, 0, none⟩) (Nat.le_succ _) _).setCell (p := ⟨w.heap.size + 1, 1, none⟩) (Nat.le_succ _) _).setCell (p := ⟨w.heap.size + 1, 2, none⟩) (Nat.le_succ _) _
  have hO : OwnP ((((w'.setCell ⟨w.heap.size, 0, none⟩ (.slice a' ps.length c')).setCell ⟨w.heap.size + 1, 0, none⟩ (.slice a' ps.length c')).setCell ⟨w.heap.size + 1, 1, none⟩ (.int .i64 s)).setCell ⟨w.heap.size + 1, 2, none⟩ (.int .i64 e)) (w.heap.size + 1 + 1) (.slice a' ps.length c') ps :=
    ownsRow_setCell_below (ownsRow_setCell_below (ownsRow_setCell_below (ownsRow_setCell_below hv (by show w.heap.size < _; omega) _) (by show w.heap.size + 1 < _; omega) _) (by show w.heap.size + 1 < _; omega) _) (by show w.heap.size + 1 < _; omega) _
  have HB := Lib.hid hB
  have HO : Hid (OwnP _ w.heap.size (.slice a' ps.length c') ps) := Lib.hid (baseA hO (show w.heap.size ≤ w.heap.size + 1 + 1 by omega))
  have j5 := j4
  clear hB hO k3 j3 k4 j4 hb hv hq k2 j2 d2 s2 HC HH
  rw [← hnl] at *
  refine Lib.hid ?_
  have r0 := (((j5.set0 (a' := a') (n' := n) (c' := c')).set1 (x := s)).set2 (x := e)).c0
  have r1 := (((j5.set0 (a' := a') (n' := n) (c' := c')).set1 (x := s)).set2 (x := e)).c1
  have r2 := (((j5.set0 (a' := a') (n' := n) (c' := c')).set1 (x := s)).set2 (x := e)).c2
  clear j5
  go_wp2
  exact bodyPost_ret (v := .agg #[.slice a' n c', .int .i64 s, .int .i64 e]) (by simp [results, Tryd.results22, go_sem, r0, r1, r2]) rfl ⟨a', c', rfl, HO.out, HB.out⟩

/-- Why an alert may not be told (0: it may). -/
def alE (ps : List Pr) (s e : Int) : Int := if checkE ps ≠ 0 then checkE ps else if ps.length = 0 then 6 else if s < 0 ∨ e ≤ s ∨ 1099511627776 < e then 13 else 0

set_option maxHeartbeats 1000000 in
theorem aCheck_any (a : Option Addr) (c : Nat) (ps : List Pr) (s e : Int) (w : World) (h : PairsAt w a ps) (n : Nat) (hnl : n = ps.length) :
    Calls Tryd.prog 19 #[.agg #[.slice a n c, .int .i64 s, .int .i64 e]] w fun r w' => r = .returned (.int .i64 (alE ps s e)) ∧ Below w.heap.size w w' := by
  have d1 := (Below.refl w.heap.size w).alloc (Nat.le_refl _) (.cells #[.slice a n c, .int .i64 s, .int .i64 e] 25)
  have k1 := AlBlk.new w a n c s e
  have HC := Lib.hid (Check_any a c ps _ (h.below d1 (Nat.le_refl _)))
  rw [← hnl] at HC
  have s1 : (w.alloc (.cells #[.slice a n c, .int .i64 s, .int .i64 e] 25)).heap.size = w.heap.size + 1 := by simp
  have HH := Lib.hid (And.intro d1 (And.intro k1 s1))
  have HE : Hid (alE ps s e = if checkE ps ≠ 0 then checkE ps else if n = 0 then 6 else if s < 0 ∨ e ≤ s ∨ 1099511627776 < e then 13 else 0) := Lib.hid (by rw [hnl]; rfl)
  generalize alE ps s e = R at *
  generalize checkE ps = E at *
  clear d1 k1 s1 h hnl
  by_cases hE : E = 0
  · subst hE
    obtain ⟨w1, hw1⟩ : ∃ x, x = w.alloc (.cells #[.slice a n c, .int .i64 s, .int .i64 e] 25) := ⟨_, rfl⟩
    by_cases hn : n = 0
    · subst hn
      have hR : R = 6 := by rw [HE.out]; simp
      subst hR
      clear HE
      go_enter Tryd.func19, Tryd.ntmps19
      go_wp2_with (go_at_call 32; refine HC.out.mono ?_; rintro r w' ⟨rfl, hb⟩; refine Hid.out ?_)
      refine Lib.hid ?_
      obtain ⟨d1, k1, s1⟩ := HH.out
      have k2 := k1.below hb (by omega)
      have c0 := k2.c0; have c1 := k2.c1; have c2 := k2.c2
      have HB := Lib.hid (d1.trans (hb.mono (by omega)))
      clear k1 k2 d1 hb HC HH s1
      go_wp2
      go_ret
      exact ⟨rfl, HB.out⟩
    · have hnz : ¬ (n : Int) = 0 := by omega
      have HE2 : Hid (R = if s < 0 ∨ e ≤ s ∨ 1099511627776 < e then 13 else 0) := Lib.hid (by rw [HE.out, if_neg (by simp), if_neg hn])
      clear HE
      by_cases h1 : s < 0
      · obtain rfl : R = 13 := by rw [HE2.out]; simp [h1]
        clear HE2
        go_enter Tryd.func19, Tryd.ntmps19
        go_wp2_with (go_at_call 32; refine HC.out.mono ?_; rintro r w' ⟨rfl, hb⟩; refine Hid.out ?_)
        refine Lib.hid ?_
        obtain ⟨d1, k1, s1⟩ := HH.out
        have k2 := k1.below hb (by omega)
        have c0 := k2.c0; have c1 := k2.c1; have c2 := k2.c2
        have HB := Lib.hid (d1.trans (hb.mono (by omega)))
        clear k1 k2 d1 hb HC HH s1
        go_wp2
        go_ret
        exact ⟨rfl, HB.out⟩
      · by_cases h2 : e ≤ s
        · obtain rfl : R = 13 := by rw [HE2.out]; simp [h2]
          clear HE2
          go_enter Tryd.func19, Tryd.ntmps19
          go_wp2_with (go_at_call 32; refine HC.out.mono ?_; rintro r w' ⟨rfl, hb⟩; refine Hid.out ?_)
          refine Lib.hid ?_
          obtain ⟨d1, k1, s1⟩ := HH.out
          have k2 := k1.below hb (by omega)
          have c0 := k2.c0; have c1 := k2.c1; have c2 := k2.c2
          have HB := Lib.hid (d1.trans (hb.mono (by omega)))
          clear k1 k2 d1 hb HC HH s1
          go_wp2
          go_ret
          exact ⟨rfl, HB.out⟩
        · by_cases h3 : 1099511627776 < e
          · obtain rfl : R = 13 := by rw [HE2.out]; simp [h3]
            clear HE2
            go_enter Tryd.func19, Tryd.ntmps19
            go_wp2_with (go_at_call 32; refine HC.out.mono ?_; rintro r w' ⟨rfl, hb⟩; refine Hid.out ?_)
            refine Lib.hid ?_
            obtain ⟨d1, k1, s1⟩ := HH.out
            have k2 := k1.below hb (by omega)
            have c0 := k2.c0; have c1 := k2.c1; have c2 := k2.c2
            have HB := Lib.hid (d1.trans (hb.mono (by omega)))
            clear k1 k2 d1 hb HC HH s1
            go_wp2
            go_ret
            exact ⟨rfl, HB.out⟩
          · obtain rfl : R = 0 := by rw [HE2.out, if_neg (by omega)]
            clear HE2
            go_enter Tryd.func19, Tryd.ntmps19
            go_wp2_with (go_at_call 32; refine HC.out.mono ?_; rintro r w' ⟨rfl, hb⟩; refine Hid.out ?_)
            refine Lib.hid ?_
            obtain ⟨d1, k1, s1⟩ := HH.out
            have k2 := k1.below hb (by omega)
            have c0 := k2.c0; have c1 := k2.c1; have c2 := k2.c2
            have HB := Lib.hid (d1.trans (hb.mono (by omega)))
            clear k1 k2 d1 hb HC HH s1
            go_wp2
            go_ret
            exact ⟨rfl, HB.out⟩
  · obtain rfl : R = E := by rw [HE.out, if_pos hE]
    clear HE
    go_enter Tryd.func19, Tryd.ntmps19
    go_wp2_with (go_at_call 32; refine HC.out.mono ?_; rintro r w' ⟨rfl, hb⟩; refine Hid.out ?_)
    refine Lib.hid ?_
    obtain ⟨d1, k1, s1⟩ := HH.out
    have HB := Lib.hid (d1.trans (hb.mono (by omega)))
    clear k1 d1 hb HC HH s1
    go_wp2
    go_ret
    exact ⟨rfl, HB.out⟩

/-- Block sb holds a store whose map is block bm. -/
def StBlk (w : World) (sb bm : Nat) : Prop := w.heap[sb]? = some (.cells #[.map (some bm)] 47 (0, 0))
theorem StBlk.c0 {w : World} {sb bm : Nat} (h : StBlk w sb bm) : w.cell? ⟨sb, 0, none⟩ = some (.map (some bm)) := cellA h
theorem StBlk.below {w w' : World} {sb bm B : Nat} (h : StBlk w sb bm) (hb : Below B w w') (hB : sb < B) : StBlk w' sb bm := (hb.block sb hB).trans h
theorem StBlk.kept {w w' : World} {sb bm : Nat} {row : Option Nat} (h : StBlk w sb bm) (hg : w.grownBy w' row) (hne : some sb ≠ row) : StBlk w' sb bm := (hg.block sb (ltA h) hne).trans h

end Go.Proofs.YtdnpfmmkglgnjabDoor
