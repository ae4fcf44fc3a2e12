/-
  What Get of package alert and of the reference does; the calls of a store that is not there.
-/
import Derived.Test.YtinohakjemjkhaaDoorA16
namespace Go.Proofs.YtinohakjemjkhaaDoor
open Go.RowKit

/-- The alert of a key, and whether it is there. -/
def gotR (S : List Rw) (k : List UInt8) : Al × Bool := match S.find? (fun r => r.key == k) with | some r => (r.al, true) | none => (([], 0, 0), false)
theorem Sim.got {S R : List Rw} (h : Sim S R) (k : List UInt8) : gotR S k = gotR R k := by
  have := h.find k
  unfold gotR
  cases h1 : S.find? (fun r => r.key == k) <;> cases h2 : R.find? (fun r => r.key == k) <;> rw [h1, h2] at this <;> simp at this ⊢
  exact this
def GetPost (w : World) (v : Al) (b : Bool) (e : Ending) (w' : World) : Prop :=
  ∃ y : Rw, e = .returned (.tuple #[.agg #[.slice y.ad y.ps.length y.cp, .int .i64 y.st, .int .i64 y.en], .bool b]) ∧ y.al = v ∧ PairsAt w' y.ad y.ps ∧ Below w.heap.size w w'
theorem al_len {y : Rw} {v : Al} (h : y.al = v) : y.ps.length = v.1.length := by rw [← h]; rfl

set_option maxRecDepth 20000 in
set_option maxHeartbeats 2000000 in
theorem aGet_core (sb bm : Nat) (kk : List UInt8) (y : Rw) (b : Bool) (w : World) (h : StBlk w sb bm)
    (hl : ∀ u, Below w.heap.size w u → (Instr.lookup 59 (.map (some bm)) (.string ⟨kk.toArray⟩) true).run Tryd.prog u = .ok (.tuple #[.agg #[.slice y.ad y.ps.length y.cp, .int .i64 y.st, .int .i64 y.en], .bool b]) u)
    (hp : PairsAt w y.ad y.ps) (hn : y.ps.length ≤ 4398046511103) :
    Calls Tryd.prog 15 #[.pointer (some ⟨sb, 0, none⟩), .string ⟨kk.toArray⟩] w (GetPost w y.al b) := by
  have d1 := (Below.refl w.heap.size w).alloc (Nat.le_refl _) (.cells #[.slice none 0 0, .int .i64 0, .int .i64 0] 34)
  have s1 : (w.alloc (.cells #[.slice none 0 0, .int .i64 0, .int .i64 0] 34)).heap.size = w.heap.size + 1 := by simp
  have h1 := h.below d1 (ltA h)
  have m0 := h1.c0
  have hl1 := hl _ d1
  have d2 := d1.alloc (by simp) (.cells #[.slice y.ad y.ps.length y.cp, .int .i64 y.st, .int .i64 y.en] 34)
  have j1 := AlBlk.new w none 0 0 0 0
  have j2 := j1.below ((Below.refl _ _).alloc (Nat.le_refl _) (.cells #[.slice y.ad y.ps.length y.cp, .int .i64 y.st, .int .i64 y.en] 34)) (by simp)
  have k2 := AlBlk.new (w.alloc (.cells #[.slice none 0 0, .int .i64 0, .int .i64 0] 34)) y.ad y.ps.length y.cp y.st y.en
  rw [s1] at k2
  have HO := Lib.hid (aOwn_any y.ad y.cp y.ps y.st y.en _ (hp.below d2 (Nat.le_refl _)) hn _ rfl)
  have s2 : ((w.alloc (.cells #[.slice none 0 0, .int .i64 0, .int .i64 0] 34)).alloc (.cells #[.slice y.ad y.ps.length y.cp, .int .i64 y.st, .int .i64 y.en] 34)).heap.size = w.heap.size + 1 + 1 := by simp
  have c0 := k2.c0; have c1 := k2.c1; have c2 := k2.c2
  have HH := Lib.hid (And.intro d2 (And.intro j2 s2))
  unfold GetPost
  obtain ⟨n, hnl⟩ : ∃ n, n = y.ps.length := ⟨_, rfl⟩
  rw [← hnl] at HO HH hl1 c0 c1 c2
  obtain ⟨st, hst⟩ : ∃ n, n = y.st := ⟨_, rfl⟩
  rw [← hst] at HO HH hl1 c0 c1 c2
  obtain ⟨en, hen⟩ : ∃ n, n = y.en := ⟨_, rfl⟩
  rw [← hen] at HO HH hl1 c0 c1 c2
  have HE := Lib.hid (And.intro hnl (And.intro hst hen))
  clear hnl hst hen d1 d2 j1 j2 k2 s1 s2 h1 h hl hp hn
  go_enter Tryd.func15, Tryd.ntmps15
  go_wp2_with (go_at_call 34; refine HO.out.mono ?_; rintro e w' ⟨a', c', rfl, ho, hb⟩; refine Hid.out ?_)
  refine Lib.hid ?_
  obtain ⟨d2, j2, s2⟩ := HH.out
  rw [s2] at hb ho
  have j3 := j2.below hb (by omega)
  have g0 := j3.f 0; have g1 := j3.f 1; have g2 := j3.f 2
  have e0 := j3.c0; have e1 := j3.c1; have e2 := j3.c2
  have hB : Below w.heap.size w (((w'.setCell ⟨w.heap.size, 0, none⟩ (.slice a' n c')).setCell ⟨w.heap.size, 1, none⟩ (.int .i64 st)).setCell ⟨w.heap.size, 2, none⟩ (.int .i64 en)) :=
    (((d2.trans (hb.mono (by omega))).setCell (p := ⟨w.heap.size, 0, none⟩) (Nat.le_refl _) _).setCell (p := ⟨w.heap.size, 1, none⟩) (Nat.le_refl _) _).setCell (p := ⟨w.heap.size, 2, none⟩) (Nat.le_refl _) _
  have hO : OwnP (((w'.setCell ⟨w.heap.size, 0, none⟩ (.slice a' n c')).setCell ⟨w.heap.size, 1, none⟩ (.int .i64 st)).setCell ⟨w.heap.size, 2, none⟩ (.int .i64 en)) (w.heap.size + 1 + 1) (.slice a' n c') y.ps :=
    ownsRow_setCell_below (ownsRow_setCell_below (ownsRow_setCell_below ho (by show w.heap.size < _; omega) _) (by show w.heap.size < _; omega) _) (by show w.heap.size < _; omega) _
  have HB := Lib.hid hB
  have HO2 := Lib.hid (OwnP.at hO)
  have r0 := (((j3.set0 (a' := a') (n' := n) (c' := c')).set1 (x := st)).set2 (x := en)).c0
  have r1 := (((j3.set0 (a' := a') (n' := n) (c' := c')).set1 (x := st)).set2 (x := en)).c1
  have r2 := (((j3.set0 (a' := a') (n' := n) (c' := c')).set1 (x := st)).set2 (x := en)).c2
  clear hB hO j2 j3 ho hb d2 s2 HO HH m0 hl1 c0 c1 c2
  go_wp2
  obtain ⟨rfl, rfl, rfl⟩ := HE.out
  exact bodyPost_ret (v := .tuple #[.agg #[.slice a' y.ps.length c', .int .i64 y.st, .int .i64 y.en], .bool b]) (by simp [results, Tryd.results15, go_sem, r0, r1, r2]) rfl ⟨⟨y.ps, y.st, y.en, a', c'⟩, rfl, rfl, HO2.out, HB.out⟩

theorem aGet_any (sb bm : Nat) (S : List Rw) (kk : List UInt8) (w : World) (h : StAt w sb bm S) (hk : kk.length ≤ maxLen) :
    Calls Tryd.prog 15 #[.pointer (some ⟨sb, 0, none⟩), .string ⟨kk.toArray⟩] w (GetPost w (gotR S kk).1 (gotR S kk).2) := by
  unfold gotR
  cases hf : S.find? (fun r => r.key == kk) with
  | some r =>
    have hr := List.mem_of_find?_eq_some hf
    have hrk : r.key = kk := by simpa using List.find?_some hf
    subst hrk
    exact aGet_core sb bm _ r true w h.1 (fun u q => (h.below q (Nat.le_refl _)).2.1.look_yes hr hk true) (h.2.2 r hr).1 (by have := acheck_len (alE_zero (h.2.2 r hr).2).1; omega)
  | none =>
    exact aGet_core sb bm kk ⟨[], 0, 0, none, 0⟩ false w h.1 (fun u q => (h.below q (Nat.le_refl _)).2.1.look_no hk (fun r hr e => by have := List.find?_eq_none.1 hf r hr; simp [e] at this) true) (pairs_nil w) (by simp)

set_option maxRecDepth 20000 in
set_option maxHeartbeats 2000000 in
theorem arGet_any (a : Option Addr) (c : Nat) (S : List Rw) (kk : List UInt8) (w : World) (h : RsAt w a c S) (hn : S.length ≤ 64) :
    Calls Tryd.prog 16 #[.agg #[.slice a S.length c], .string ⟨kk.toArray⟩] w (GetPost w (gotR S kk).1 (gotR S kk).2) := by
  have hfp := find_place kk h.2.2.2.2
  have d1 := (Below.refl w.heap.size w).alloc (Nat.le_refl _) (.cells #[.slice a S.length c] 29)
  have d2 := d1.alloc (by simp) (.cells #[.slice none 0 0, .int .i64 0, .int .i64 0] 34)
  have k1 := (RsBlk.new w a S.length c).below ((Below.refl _ _).alloc (Nat.le_refl _) (.cells #[.slice none 0 0, .int .i64 0, .int .i64 0] 34)) (by simp)
  have j2 := AlBlk.new (w.alloc (.cells #[.slice a S.length c] 29)) none 0 0 0 0
  have s1 : (w.alloc (.cells #[.slice a S.length c] 29)).heap.size = w.heap.size + 1 := by simp
  have s2 : ((w.alloc (.cells #[.slice a S.length c] 29)).alloc (.cells #[.slice none 0 0, .int .i64 0, .int .i64 0] 34)).heap.size = w.heap.size + 1 + 1 := by simp
  rw [s1] at j2
  have HP := Lib.hid (arPlace_any a c S kk _ (h.1.below d2 (Nat.le_refl _)) h.2.2.2.1 (by omega))
  have c0 := k1.c0
  have hpl := place_le S kk
  cases hi : isAt S kk with
  | false =>
    have hg : gotR S kk = (([], 0, 0), false) := by unfold gotR; rw [hfp, hi]; rfl
    rw [hg]
    rw [hi] at HP
    generalize placeN S kk = P at *
    have HH := Lib.hid (And.intro d2 (And.intro j2 s2))
    clear d1 d2 k1 j2 s1 s2 h hfp hg
    generalize S.length = n at *
    unfold GetPost
    go_enter Tryd.func16, Tryd.ntmps16
    go_wp2_with (go_at_call 35; refine HP.out.mono ?_; rintro e w' ⟨rfl, hb⟩; refine Hid.out ?_)
    refine Lib.hid ?_
    obtain ⟨d2, j2, s2⟩ := HH.out
    rw [s2] at hb
    have j3 := j2.below hb (by omega)
    have g0 := j3.f 0; have g1 := j3.f 1; have g2 := j3.f 2
    have e0 := j3.c0; have e1 := j3.c1; have e2 := j3.c2
    have hB : Below w.heap.size w (((w'.setCell ⟨w.heap.size + 1, 0, none⟩ (.slice none 0 0)).setCell ⟨w.heap.size + 1, 1, none⟩ (.int .i64 0)).setCell ⟨w.heap.size + 1, 2, none⟩ (.int .i64 0)) :=
      (((d2.trans (hb.mono (by omega))).setCell (p := ⟨w.heap.size + 1, 0, none⟩) (Nat.le_succ _) _).setCell (p := ⟨w.heap.size + 1, 1, none⟩) (Nat.le_succ _) _).setCell (p := ⟨w.heap.size + 1, 2, none⟩) (Nat.le_succ _) _
    have HB := Lib.hid hB
    have r0 := (((j3.set0 (a' := none) (n' := 0) (c' := 0)).set1 (x := 0)).set2 (x := 0)).c0
    have r1 := (((j3.set0 (a' := none) (n' := 0) (c' := 0)).set1 (x := 0)).set2 (x := 0)).c1
    have r2 := (((j3.set0 (a' := none) (n' := 0) (c' := 0)).set1 (x := 0)).set2 (x := 0)).c2
    clear hB j2 j3 hb d2 s2 HP HH c0
    go_wp2
    exact bodyPost_ret (v := .tuple #[.agg #[.slice none 0 0, .int .i64 0, .int .i64 0], .bool false]) (by simp [results, Tryd.results16, go_sem, r0, r1, r2]) rfl ⟨⟨[], 0, 0, none, 0⟩, rfl, rfl, pairs_nil _, HB.out⟩
  | true =>
    have hlt : placeN S kk < S.length := by
      unfold isAt at hi
      cases hx : S[placeN S kk]? with
      | none => rw [hx] at hi; cases hi
      | some r => exact (List.getElem?_eq_some_iff.1 hx).1
    have hg : gotR S kk = (S[placeN S kk].al, true) := by unfold gotR; rw [hfp, hi]; simp [List.getElem?_eq_getElem hlt]
    rw [hg]
    rw [hi] at HP
    obtain ⟨b1, o1, rfl, hC, hpp⟩ := h.1.c _ hlt
    have hS0 := h.1
    generalize S[placeN S kk] = y at *
    generalize placeN S kk = P at *
    have HH := Lib.hid (And.intro d2 (And.intro j2 (And.intro s2 (And.intro k1 (And.intro hC hpp)))))
    have hPn : (P : Int) < (S.length : Int) := by omega
    clear d1 d2 k1 j2 s1 s2 h hfp hg hC hpp hS0 c0
    generalize S.length = n at *
    unfold GetPost
    go_enter Tryd.func16, Tryd.ntmps16
    go_wp2_with (go_at_call 35; refine HP.out.mono ?_; rintro e w' ⟨rfl, hb⟩; refine Hid.out ?_)
    refine Lib.hid ?_
    obtain ⟨d2, j2, s2, k1, hC, hpp⟩ := HH.out
    rw [s2] at hb
    have j3 := j2.below hb (by omega)
    have c0 := (k1.below hb (by omega)).c0
    have q := d2.trans (hb.mono (by omega))
    have hC3 := hC.below q (Nat.le_refl _)
    have e0 := hC3.2.1; have e1 := hC3.2.2.1; have e2 := hC3.2.2.2
    have g0 := j3.f 0; have g1 := j3.f 1; have g2 := j3.f 2
    have i0 := j3.c0; have i1 := j3.c1; have i2 := j3.c2
    have hB : Below w.heap.size w (((w'.setCell ⟨w.heap.size + 1, 0, none⟩ (.slice y.ad y.ps.length y.cp)).setCell ⟨w.heap.size + 1, 1, none⟩ (.int .i64 y.st)).setCell ⟨w.heap.size + 1, 2, none⟩ (.int .i64 y.en)) :=
      ((q.setCell (p := ⟨w.heap.size + 1, 0, none⟩) (Nat.le_succ _) _).setCell (p := ⟨w.heap.size + 1, 1, none⟩) (Nat.le_succ _) _).setCell (p := ⟨w.heap.size + 1, 2, none⟩) (Nat.le_succ _) _
    have HB := Lib.hid (And.intro hB (hpp.below hB (Nat.le_refl _)))
    have r0 := (((j3.set0 (a' := y.ad) (n' := y.ps.length) (c' := y.cp)).set1 (x := y.st)).set2 (x := y.en)).c0
    have r1 := (((j3.set0 (a' := y.ad) (n' := y.ps.length) (c' := y.cp)).set1 (x := y.st)).set2 (x := y.en)).c1
    have r2 := (((j3.set0 (a' := y.ad) (n' := y.ps.length) (c' := y.cp)).set1 (x := y.st)).set2 (x := y.en)).c2
    clear hB j2 j3 hb d2 s2 HP HH hC hC3 hpp k1 q
    go_wp2
    exact bodyPost_ret (v := .tuple #[.agg #[.slice y.ad y.ps.length y.cp, .int .i64 y.st, .int .i64 y.en], .bool true]) (by simp [results, Tryd.results16, go_sem, r0, r1, r2]) rfl ⟨y, rfl, rfl, HB.out.2, HB.out.1⟩

/-- A store that is not there has nothing. -/
theorem nGet_any (kk : List UInt8) (w : World) : Calls Tryd.prog 15 #[.pointer none, .string ⟨kk.toArray⟩] w (GetPost w ([], 0, 0) false) := by
  have d1 := (Below.refl w.heap.size w).alloc (Nat.le_refl _) (.cells #[.slice none 0 0, .int .i64 0, .int .i64 0] 34)
  have j3 := AlBlk.new w none 0 0 0 0
  have g0 := j3.f 0; have g1 := j3.f 1; have g2 := j3.f 2
  have e0 := j3.c0; have e1 := j3.c1; have e2 := j3.c2
  have hB := ((d1.setCell (p := ⟨w.heap.size, 0, none⟩) (Nat.le_refl _) (.slice none 0 0)).setCell (p := ⟨w.heap.size, 1, none⟩) (Nat.le_refl _) (.int .i64 0)).setCell (p := ⟨w.heap.size, 2, none⟩) (Nat.le_refl _) (.int .i64 0)
  have HB := Lib.hid d1
  have r0 := (((j3.set0 (a' := none) (n' := 0) (c' := 0)).set1 (x := 0)).set2 (x := 0)).c0
  have r1 := (((j3.set0 (a' := none) (n' := 0) (c' := 0)).set1 (x := 0)).set2 (x := 0)).c1
  have r2 := (((j3.set0 (a' := none) (n' := 0) (c' := 0)).set1 (x := 0)).set2 (x := 0)).c2
  clear hB j3 d1 r0 r1 r2
  unfold GetPost
  go_enter Tryd.func15, Tryd.ntmps15
  go_wp2
  exact bodyPost_ret (v := .tuple #[.agg #[.slice none 0 0, .int .i64 0, .int .i64 0], .bool false]) (by simp [results, Tryd.results15, go_sem, e0, e1, e2]) rfl ⟨⟨[], 0, 0, none, 0⟩, rfl, rfl, pairs_nil _, HB.out⟩
theorem nPut_any (a : Option Addr) (n c : Nat) (s e : Int) (w : World) : Calls Tryd.prog 17 #[.pointer none, .agg #[.slice a n c, .int .i64 s, .int .i64 e]] w fun r w' => r = .returned (.int .i64 1) ∧ Below w.heap.size w w' := by
  have HB := Lib.hid ((Below.refl w.heap.size w).alloc (Nat.le_refl _) (.cells #[.slice a n c, .int .i64 s, .int .i64 e] 34))
  go_enter Tryd.func17, Tryd.ntmps17
  go_wp2
  go_ret
  exact ⟨rfl, HB.out⟩
theorem nPick_any (f : Value) (w : World) : Calls Tryd.prog 39 #[.pointer none, f] w fun r w' => r = .returned (.slice none 0 0) ∧ w' = w := by
  go_enter Tryd.func39, Tryd.ntmps39
  go_wp2
  go_ret
  exact ⟨rfl, rfl⟩
theorem nAll_any (w : World) : Calls Tryd.prog 18 #[.pointer none] w fun r w' => r = .returned (.slice none 0 0) ∧ Below w.heap.size w w' := by
  have HP := Lib.hid (fun f u => nPick_any f u)
  go_enter Tryd.func18, Tryd.ntmps18
  go_wp2_with (go_at_call 39; refine (HP.out _ _).mono ?_; rintro e w' ⟨rfl, rfl⟩)
  go_ret
  exact ⟨rfl, Below.refl _ _⟩
theorem nFiring_any (now : Int) (w : World) : Calls Tryd.prog 19 #[.pointer none, .int .i64 now] w fun r w' => r = .returned (.slice none 0 0) ∧ Below w.heap.size w w' := by
  have HP := Lib.hid (fun f u => nPick_any f u)
  have HB := Lib.hid ((Below.refl w.heap.size w).alloc (Nat.le_refl _) (.cells #[.int .i64 now] 3))
  go_enter Tryd.func19, Tryd.ntmps19
  go_wp2_with (go_at_call 39; refine (HP.out _ _).mono ?_; rintro e w' ⟨rfl, rfl⟩)
  go_ret
  exact ⟨rfl, HB.out⟩
theorem nDrop_any (now : Int) (w : World) : Calls Tryd.prog 20 #[.pointer none, .int .i64 now] w fun r w' => r = .returned (.int .i64 0) ∧ w' = w := by
  go_enter Tryd.func20, Tryd.ntmps20
  go_wp2
  go_ret
  exact ⟨rfl, rfl⟩
theorem nLen_any (w : World) : Calls Tryd.prog 21 #[.pointer none] w fun r w' => r = .returned (.int .i64 0) ∧ w' = w := by
  go_enter Tryd.func21, Tryd.ntmps21
  go_wp2
  go_ret
  exact ⟨rfl, rfl⟩
theorem nFork_any (w : World) : Calls Tryd.prog 22 #[.pointer none] w fun r w' => r = .returned (.pointer none) ∧ w' = w := by
  go_enter Tryd.func22, Tryd.ntmps22
  go_wp2
  go_ret
  exact ⟨rfl, rfl⟩

end Go.Proofs.YtinohakjemjkhaaDoor
