/-
  The reference's Put.
-/
import Derived.Test.YtdnpfmmkglgnjabDoorA8
import Derived.Test.YtdnpfmmkglgnjabDoorLApp
namespace Go.Proofs.YtdnpfmmkglgnjabDoor
open Go.RowKit

theorem place_cons_lt {y : Rw} {l : List Rw} {k : List UInt8} (h : y.key < k) : placeN (y :: l) k = placeN l k + 1 ∧ isAt (y :: l) k = isAt l k := by
  have e : placeN (y :: l) k = placeN l k + 1 := by
    unfold placeN
    rw [List.takeWhile_cons]
    simp [h]
  refine ⟨e, ?_⟩
  unfold isAt
  rw [e, List.getElem?_cons_succ]
theorem place_cons_not {y : Rw} {l : List Rw} {k : List UInt8} (h : ¬ y.key < k) : placeN (y :: l) k = 0 ∧ isAt (y :: l) k = decide (y.key = k) := by
  have e : placeN (y :: l) k = 0 := by
    unfold placeN
    rw [List.takeWhile_cons]
    simp [h]
  refine ⟨e, ?_⟩
  unfold isAt
  rw [e, List.getElem?_cons_zero]
theorem above_all {y : Rw} {l : List Rw} {k : List UInt8} (hR : Rising (y :: l)) (h : ¬ y.key < k) : ∀ r ∈ l, k < r.key := fun r hr => by
  have h1 := (List.pairwise_cons.1 hR).1 r hr
  by_cases e : y.key = k
  · rw [← e]; exact h1
  · rcases key_total e with h2 | h2
    · exact absurd h2 h
    · exact key_trans h2 h1
theorem filter_above {l : List Rw} {k : List UInt8} (h : ∀ r ∈ l, k < r.key) : l.filter (fun y => !(y.key == k)) = l := List.filter_eq_self.2 fun r hr => by
  have := h r hr
  simp only [Bool.not_eq_true', beq_eq_false_iff_ne]
  intro e
  rw [e] at this
  exact key_irrefl _ this
theorem ins_above {x : Rw} : ∀ {l : List Rw}, (∀ r ∈ l, x.key < r.key) → insR x l = x :: l
  | [], _ => rfl
  | y :: l, h => by rw [insR, if_pos (h y (by simp))]
theorem put_split {x : Rw} : ∀ {S : List Rw}, Rising S → putR x S = S.take (placeN S x.key) ++ x :: S.drop (if isAt S x.key then placeN S x.key + 1 else placeN S x.key)
  | [], _ => rfl
  | y :: l, hR => by
    have hl := (List.pairwise_cons.1 hR).2
    by_cases h : y.key < x.key
    · obtain ⟨e1, e2⟩ := place_cons_lt (l := l) h
      have ih := put_split (x := x) hl
      have hne : (y.key == x.key) = false := beq_eq_false_iff_ne.2 fun e => by rw [e] at h; exact key_irrefl _ h
      have ep : putR x (y :: l) = y :: putR x l := by
        unfold putR
        rw [List.filter_cons, hne]
        simp only [Bool.not_false, if_true]
        rw [insR, if_neg (key_asymm h)]
      rw [ep, ih, e1, e2, List.take_succ_cons, List.cons_append]
      congr 2
      split <;> rw [List.drop_succ_cons]
    · obtain ⟨e1, e2⟩ := place_cons_not (l := l) h
      have ha := above_all hR h
      rw [e1, e2]
      by_cases e : y.key = x.key
      · have hb : (y.key == x.key) = true := by simp [e]
        unfold putR
        rw [List.filter_cons, hb]
        simp only [Bool.not_true, Bool.false_eq_true, if_false, e, decide_true, if_true]
        rw [filter_above ha, ins_above ha]
        rfl
      · have hb : (y.key == x.key) = false := beq_eq_false_iff_ne.2 e
        have hlt : x.key < y.key := (key_total e).resolve_left h
        unfold putR
        rw [List.filter_cons, hb]
        simp only [Bool.not_false, if_true, e, decide_false, Bool.false_eq_true, if_false]
        rw [filter_above ha, insR, if_pos hlt]
        rfl
theorem find_place : ∀ {S : List Rw} (k : List UInt8), Rising S → S.find? (fun r => r.key == k) = if isAt S k then S[placeN S k]? else none
  | [], k, _ => by simp [isAt]
  | y :: l, k, hR => by
    have hl := (List.pairwise_cons.1 hR).2
    by_cases h : y.key < k
    · obtain ⟨e1, e2⟩ := place_cons_lt (l := l) h
      have hne : (y.key == k) = false := beq_eq_false_iff_ne.2 fun e => by rw [e] at h; exact key_irrefl _ h
      rw [List.find?_cons, hne, find_place k hl, e1, e2, List.getElem?_cons_succ]
    · obtain ⟨e1, e2⟩ := place_cons_not (l := l) h
      rw [e1, e2, List.find?_cons]
      by_cases e : y.key = k
      · have hb : (y.key == k) = true := by simp [e]
        rw [hb]
        simp [e]
      · have hb : (y.key == k) = false := beq_eq_false_iff_ne.2 e
        rw [hb]
        simp only [e, decide_false, Bool.false_eq_true, if_false]
        exact List.find?_eq_none.2 fun r hr e' => by
          have := above_all hR h r hr
          rw [show r.key = k by simpa using e'] at this
          exact key_irrefl _ this

/-- A reference's store: where its alerts lie. -/
def RsAt (w : World) (a : Option Addr) (c : Nat) (S : List Rw) : Prop := AlsAt w a S ∧ S.length ≤ c ∧ (a = none → c = 0) ∧ (∀ r ∈ S, alE r.ps r.st r.en = 0) ∧ Rising S
theorem RsAt.below {w w' : World} {a : Option Addr} {c : Nat} {S : List Rw} {B : Nat} (h : RsAt w a c S) (hb : Below B w w') (hB : w.heap.size ≤ B) : RsAt w' a c S := ⟨h.1.below hb hB, h.2⟩
theorem OwnA.at {w : World} {B : Nat} {v : Value} {L : List Rw} (h : OwnA w B v L) (hp : ∀ r ∈ L, PairsAt w r.ad r.ps) : ∃ a c, v = .slice a L.length c ∧ AlsAt w a L ∧ L.length ≤ c ∧ (a = none → c = 0) := by
  obtain ⟨a, c, rfl, hn, hq, hc⟩ := h.form
  refine ⟨a, c, rfl, fun h0 => ?_, ?_, hn⟩
  · obtain ⟨g, rfl, -⟩ := hc 0 h0
    refine ⟨g, 0, rfl, (hq _ rfl).2.1, fun i hi => ?_⟩
    obtain ⟨g', e, h1, h2, h3⟩ := hc i hi
    obtain rfl : g = g' := by simpa using e
    rw [Nat.zero_add]
    exact ⟨h1, h2, h3, hp _ (List.getElem_mem hi)⟩
  · rcases h.2 with ⟨hv, h0⟩ | ⟨g, cap, cur, hv, -, -, hcap, -⟩
    · omega
    · simp only [Value.slice.injEq] at hv
      omega
theorem rising_map {S R : List Rw} (h : S.map Rw.al = R.map Rw.al) (hR : Rising S) : Rising R := by
  have e : ∀ L : List Rw, Rising L ↔ (L.map Rw.al).Pairwise (fun x y => keyL x.1 < keyL y.1) := fun L => by
    unfold Rising
    rw [List.pairwise_map]
    exact Iff.rfl
  rw [e, ← h, ← e]
  exact hR

theorem OwnP.at {w : World} {B : Nat} {a : Option Addr} {n c : Nat} {ps : List Pr} (h : OwnP w B (.slice a n c) ps) : PairsAt w a ps := by
  obtain ⟨a', c', hv, hat, -⟩ := h.form
  simp only [Value.slice.injEq] at hv
  obtain ⟨rfl, -, -⟩ := hv
  exact hat
theorem alsAt_one (w : World) (r : Rw) (h : PairsAt (w.alloc (.cells #[.slice r.ad r.ps.length r.cp, .int .i64 r.st, .int .i64 r.en] 25)) r.ad r.ps) : AlsAt (w.alloc (.cells #[.slice r.ad r.ps.length r.cp, .int .i64 r.st, .int .i64 r.en] 25)) (some ⟨w.heap.size, 0, none⟩) [r] := fun _ => ⟨_, 0, rfl, by simp, fun i hi => by
  obtain rfl : i = 0 := by simp at hi; omega
  have c := newA w (.cells #[.slice r.ad r.ps.length r.cp, .int .i64 r.st, .int .i64 r.en] 25)
  exact ⟨cellA c, cellA c, cellA c, h⟩⟩

theorem PairsAt.past {w w' : World} {a : Option Addr} {ps : List Pr} {X : Nat} {a' : Option Addr} {n' c' : Nat} (h : PairsAt w a ps) (hg : w.grownBy w' (some X)) (hX : RsBlk w X a' n' c') : PairsAt w' a ps := fun hn => by
  obtain ⟨b, o, rfl, hc⟩ := h hn
  refine ⟨b, o, rfl, fun i hi => ?_⟩
  obtain ⟨h1, h2⟩ := hc i hi
  have hne : b ≠ X := fun e => by
    subst e
    rw [cellA hX] at h2
    simp at h2
  have e := hg.block b (World.block_lt_of_cell? w _ h1) (fun e => hne (Option.some.inj e))
  rw [World.cell?_of_block (a := ⟨b, o + i * 2, none⟩) e, World.cell?_of_block (a := ⟨b, o + i * 2 + 1, none⟩) e]
  exact ⟨h1, h2⟩
theorem OwnP.setAl {w : World} {B : Nat} {v : Value} {ps : List Pr} {X : Nat} {a' : Option Addr} {n' c' : Nat} {s' e' : Int} (h : OwnP w B v ps) (hX : AlBlk w X a' n' c' s' e') {j : Nat} {u : Value} : OwnP (w.setCell ⟨X, j, none⟩ u) B v ps := by
  have hg : w.grownBy (w.setCell ⟨X, j, none⟩ u) (some X) := ⟨rfl, rfl, rfl, by simp [World.setCell], fun k _ hk => Below.heap_setCell w _ _ _ (fun e => hk (by rw [e]))⟩
  refine World.ownsRow.kept h hg ?_
  rcases h.2 with ⟨rfl, -⟩ | ⟨g, cap, cur, rfl, -, hg1, -⟩
  · exact .inl rfl
  · refine .inr fun e => ?_
    obtain rfl : g = X := by simpa [Value.ownBlock] using e
    unfold AlBlk at hX
    rw [hg1] at hX
    simp at hX
theorem AlsAt.past {w w' : World} {a : Option Addr} {L : List Rw} {X : Nat} {a' : Option Addr} {n' c' : Nat} (h : AlsAt w a L) (hg : w.grownBy w' (some X)) (hX : RsBlk w X a' n' c') : AlsAt w' a L := fun hn => by
  obtain ⟨b, o, rfl, hb, hc⟩ := h hn
  refine ⟨b, o, rfl, Nat.lt_of_lt_of_le hb hg.size, fun i hi => ?_⟩
  obtain ⟨h1, h2, h3, h4⟩ := hc i hi
  have hne : b ≠ X := fun e => by
    subst e
    rw [cellA hX] at h2
    simp at h2
  have e := hg.block b hb (fun e => hne (Option.some.inj e))
  rw [World.cell?_of_block (a := ⟨b, o + i * 3, none⟩) e, World.cell?_of_block (a := ⟨b, o + i * 3 + 1, none⟩) e, World.cell?_of_block (a := ⟨b, o + i * 3 + 2, none⟩) e]
  exact ⟨h1, h2, h3, h4.past hg hX⟩
theorem AlsAt.dropA {w : World} {q : Addr} {L : List Rw} (h : AlsAt w (some q) L) (k : Nat) : AlsAt w (some (q.add (k * 3))) (L.drop k) := fun hn => by
  obtain ⟨b, o, e, -⟩ := h (by rw [List.length_drop] at hn; omega)
  obtain rfl := Option.some.inj e
  rw [Go.WideShapes.add_plain]
  exact AlsAt.drop h k hn
theorem RsAt.pairs {w : World} {a : Option Addr} {c : Nat} {S : List Rw} (h : RsAt w a c S) : ∀ r ∈ S, PairsAt w r.ad r.ps := fun r hr => by
  obtain ⟨i, hi, rfl⟩ := List.getElem_of_mem hr
  obtain ⟨b, o, -, -, hp⟩ := h.1.c i hi
  exact hp
theorem rising_ins {x : Rw} : ∀ {S : List Rw}, Rising S → (∀ y ∈ S, y.key ≠ x.key) → Rising (insR x S)
  | [], _, _ => List.pairwise_singleton _ _
  | y :: l, hR, hne => by
    have hl := List.pairwise_cons.1 hR
    rw [insR]
    by_cases h : x.key < y.key
    · rw [if_pos h]
      refine List.pairwise_cons.2 ⟨fun z hz => ?_, hR⟩
      rcases List.mem_cons.1 hz with rfl | hz
      · exact h
      · exact key_trans h (hl.1 z hz)
    · rw [if_neg h]
      have hyx : y.key < x.key := (key_total (hne y (by simp))).resolve_right h
      refine List.pairwise_cons.2 ⟨fun z hz => ?_, rising_ins hl.2 fun z hz => hne z (List.mem_cons_of_mem _ hz)⟩
      rcases mem_insR.1 hz with rfl | hz
      · exact hyx
      · exact hl.1 z hz
theorem rising_put {x : Rw} {S : List Rw} (hR : Rising S) : Rising (putR x S) := rising_ins (List.Pairwise.filter _ hR) fun y hy => by
  have := (List.mem_filter.1 hy).2
  simpa using this
/-- Where the reference's Put ends. -/
theorem rput_end {w w7 w10 w12 : World} {a : Option Addr} {c : Nat} {S : List Rw} (h : RsAt w a c S) (b7 : Below w.heap.size w w7) (X : Nat) (hX : RsBlk w7 X none 0 0) (hXw : w.heap.size ≤ X) {x : Rw} (q10 : Below w7.heap.size w7 w10) {v10 : Value} {A : List Rw}
    (own10 : OwnA w10 w7.heap.size v10 A) (ownx : OwnP w10 w.heap.size (.slice x.ad x.ps.length x.cp) x.ps) {v12 : Value} {R : List Rw} (own12 : OwnA w12 w7.heap.size v12 R) (g12 : w10.grownBy w12 v10.ownBlock) (hR : R = putR x S) (hx : alE x.ps x.st x.en = 0) :
    ∃ a12 c12, v12 = .slice a12 R.length c12 ∧ RsBlk w12 X none 0 0 ∧ RsAt (w12.setCell ⟨X, 0, none⟩ (.slice a12 R.length c12)) a12 c12 R ∧ Below w.heap.size w (w12.setCell ⟨X, 0, none⟩ (.slice a12 R.length c12)) := by
  have q12 : Below w7.heap.size w7 w12 := q10.grown g12 q10.size (fun j e => (World.ownsRow.lt own10 j e).1)
  have b12 := b7.trans (q12.mono b7.size)
  have k12 := hX.below q12 (ltA hX)
  have hps : ∀ r ∈ R, PairsAt w12 r.ad r.ps := fun r hr => by
    subst hR
    rcases mem_putR hr with rfl | hr
    · exact OwnP.at (OwnP.past ownx own10 g12)
    · exact (h.pairs r hr).below b12 (Nat.le_refl _)
  obtain ⟨a12, c12, rfl, h1, h2, h3⟩ := OwnA.at own12 hps
  have hg : w12.grownBy (w12.setCell ⟨X, 0, none⟩ (.slice a12 R.length c12)) (some X) := ⟨rfl, rfl, rfl, by simp [World.setCell], fun k _ hk => Below.heap_setCell w12 _ _ _ (fun e => hk (by rw [e]))⟩
  refine ⟨a12, c12, rfl, k12, ⟨h1.past hg k12, h2, h3, ?_, ?_⟩, b12.setCell (p := ⟨X, 0, none⟩) hXw _⟩
  · intro r hr
    subst hR
    rcases mem_putR hr with rfl | hr
    · exact hx
    · exact h.2.2.2.1 r hr
  · subst hR
    exact rising_put h.2.2.2.2

/-- What the reference's Put tells. -/
def RPutPost (w : World) (S : List Rw) (ps : List Pr) (s e : Int) (r : Ending) (w' : World) : Prop :=
  ∃ a' c' S', r = .returned (.tuple #[.agg #[.slice a' S'.length c'], .int .i64 (putE S ps s e)]) ∧ RsAt w' a' c' S' ∧ (putE S ps s e ≠ 0 → S' = S) ∧ (putE S ps s e = 0 → ∃ ad cp, S' = putR ⟨ps, startA S ps s e, e, ad, cp⟩ S) ∧ Below w.heap.size w w'

set_option maxRecDepth 100000 in
set_option maxHeartbeats 4000000 in
theorem arPut_err (a : Option Addr) (c : Nat) (S : List Rw) (a1 : Option Addr) (c1 : Nat) (ps : List Pr) (s e : Int) (w : World) (h : RsAt w a c S) (hp : PairsAt w a1 ps) (hsz : ∀ p ∈ ps, p.1.size ≤ 9223372036854775807) (n1 : Nat) (hn1 : n1 = ps.length) (hE : alE ps s e ≠ 0) : Calls Tryd.prog 16 #[.agg #[.slice a S.length c], .agg #[.slice a1 n1 c1, .int .i64 s, .int .i64 e]] w (RPutPost w S ps s e) := by
  have hR : putE S ps s e = alE ps s e := if_pos hE
  obtain ⟨n, hnl⟩ : ∃ n, n = S.length := ⟨_, rfl⟩
  rw [← hnl]
  have HNL := Lib.hid hnl
  have d1 := (Below.refl w.heap.size w).alloc (Nat.le_refl _) (.cells #[.slice a n c] 32)
  have d2 := d1.alloc (by simp) (.cells #[.slice a1 n1 c1, .int .i64 s, .int .i64 e] 25)
  have d3 := d2.alloc (by simp; omega) (.cells #[.slice none 0 0] 32)
  have s1 : (w.alloc (.cells #[.slice a n c] 32)).heap.size = w.heap.size + 1 := by simp
  have s2 : ((w.alloc (.cells #[.slice a n c] 32)).alloc (.cells #[.slice a1 n1 c1, .int .i64 s, .int .i64 e] 25)).heap.size = w.heap.size + 1 + 1 := by simp
  have s3 : (((w.alloc (.cells #[.slice a n c] 32)).alloc (.cells #[.slice a1 n1 c1, .int .i64 s, .int .i64 e] 25)).alloc (.cells #[.slice none 0 0] 32)).heap.size = w.heap.size + 1 + 1 + 1 := by simp
  have k1 := RsBlk.new w a n c
  have k2 := AlBlk.new (w.alloc (.cells #[.slice a n c] 32)) a1 n1 c1 s e
  have k3 := RsBlk.new ((w.alloc (.cells #[.slice a n c] 32)).alloc (.cells #[.slice a1 n1 c1, .int .i64 s, .int .i64 e] 25)) none 0 0
  rw [s1] at k2
  rw [s2] at k3
  replace k1 := (k1.below ((Below.refl _ _).alloc (Nat.le_refl _) (.cells #[.slice a1 n1 c1, .int .i64 s, .int .i64 e] 25)) (by simp)).below ((Below.refl _ _).alloc (Nat.le_refl _) (.cells #[.slice none 0 0] 32)) (by simp; omega)
  replace k2 := k2.below ((Below.refl _ _).alloc (Nat.le_refl _) (.cells #[.slice none 0 0] 32)) (by simp)
  have HC := Lib.hid (arCheck_any a1 c1 ps s e (((w.alloc (.cells #[.slice a n c] 32)).alloc (.cells #[.slice a1 n1 c1, .int .i64 s, .int .i64 e] 25)).alloc (.cells #[.slice none 0 0] 32)) (hp.below d3 (Nat.le_refl _)) hsz n1 hn1)
  have HW := Lib.hid (And.intro d3 (And.intro s3 (And.intro k1 (And.intro k2 k3))))
  have HH := Lib.hid h
  have HPA := Lib.hid hp
  have HN1 := Lib.hid hn1
  clear d1 d2 d3 s1 s2 s3 k1 k2 k3 hnl hn1 hsz
  unfold RPutPost
  rw [hR]
  have hE2 := hE
  generalize alE ps s e = E at *
  clear h hp hR
  go_enter Tryd.func16, Tryd.ntmps16
  go_wp2_with (go_at_call 27; refine HC.out.mono ?_; rintro r w2 ⟨rfl, q2⟩; refine Hid.out ?_)
  refine Lib.hid ?_
  obtain ⟨d3, s3, k1, k2, k3⟩ := HW.out
  rw [s3] at q2
  have k1' := k1.below q2 (by omega)
  have k3' := k3.below q2 (by omega)
  have c0 := k1'.c0
  have c3 := k3'.c0; have f3 := k3'.f 0
  have r0 := (k3'.set (a' := a) (n' := n) (c' := c)).c0
  have b2 := d3.trans (q2.mono (by omega))
  have b3 := b2.setCell (p := ⟨w.heap.size + 1 + 1, 0, none⟩) (by show w.heap.size ≤ w.heap.size + 1 + 1; omega) (.slice a n c)
  have HF := Lib.hid (And.intro (HH.out.below b3 (Nat.le_refl _)) b3)
  clear d3 s3 k1 k2 k3 k1' k3' q2 b2 b3 HC HW
  go_wp2
  exact bodyPost_ret (v := .tuple #[.agg #[.slice a n c], .int .i64 E]) (by simp [results, Tryd.results16, go_sem, r0]) rfl ⟨a, c, S, by rw [HNL.out], HF.out.1, fun _ => rfl, fun e => absurd e hE2, HF.out.2⟩

set_option maxRecDepth 100000 in
set_option maxHeartbeats 4000000 in
theorem arPut_full (a : Option Addr) (c : Nat) (S : List Rw) (a1 : Option Addr) (c1 : Nat) (ps : List Pr) (s e : Int) (w : World) (h : RsAt w a c S) (hp : PairsAt w a1 ps) (hsz : ∀ p ∈ ps, p.1.size ≤ 9223372036854775807) (n1 : Nat) (hn1 : n1 = ps.length) (hn : S.length ≤ 64) (hE : alE ps s e = 0) (hno : isAt S (keyL ps) = false) (h64 : 64 ≤ S.length) : Calls Tryd.prog 16 #[.agg #[.slice a S.length c], .agg #[.slice a1 n1 c1, .int .i64 s, .int .i64 e]] w (RPutPost w S ps s e) := by
  have hfi := find_place (keyL ps) h.2.2.2.2
  rw [hno] at hfi
  have hR : putE S ps s e = 11 := by unfold putE; rw [if_neg (by simp [hE]), if_pos (by rw [hfi]; exact ⟨rfl, h64⟩)]
  obtain ⟨hck, hln, -, -, -⟩ := alE_zero hE
  obtain ⟨n, hnl⟩ : ∃ n, n = S.length := ⟨_, rfl⟩
  rw [← hnl]
  have HNL := Lib.hid hnl
  have d1 := (Below.refl w.heap.size w).alloc (Nat.le_refl _) (.cells #[.slice a n c] 32)
  have d2 := d1.alloc (by simp) (.cells #[.slice a1 n1 c1, .int .i64 s, .int .i64 e] 25)
  have d3 := d2.alloc (by simp; omega) (.cells #[.slice none 0 0] 32)
  have s1 : (w.alloc (.cells #[.slice a n c] 32)).heap.size = w.heap.size + 1 := by simp
  have s2 : ((w.alloc (.cells #[.slice a n c] 32)).alloc (.cells #[.slice a1 n1 c1, .int .i64 s, .int .i64 e] 25)).heap.size = w.heap.size + 1 + 1 := by simp
  have s3 : (((w.alloc (.cells #[.slice a n c] 32)).alloc (.cells #[.slice a1 n1 c1, .int .i64 s, .int .i64 e] 25)).alloc (.cells #[.slice none 0 0] 32)).heap.size = w.heap.size + 1 + 1 + 1 := by simp
  have k1 := RsBlk.new w a n c
  have k2 := AlBlk.new (w.alloc (.cells #[.slice a n c] 32)) a1 n1 c1 s e
  have k3 := RsBlk.new ((w.alloc (.cells #[.slice a n c] 32)).alloc (.cells #[.slice a1 n1 c1, .int .i64 s, .int .i64 e] 25)) none 0 0
  rw [s1] at k2
  rw [s2] at k3
  replace k1 := (k1.below ((Below.refl _ _).alloc (Nat.le_refl _) (.cells #[.slice a1 n1 c1, .int .i64 s, .int .i64 e] 25)) (by simp)).below ((Below.refl _ _).alloc (Nat.le_refl _) (.cells #[.slice none 0 0] 32)) (by simp; omega)
  replace k2 := k2.below ((Below.refl _ _).alloc (Nat.le_refl _) (.cells #[.slice none 0 0] 32)) (by simp)
  have HC := Lib.hid (arCheck_any a1 c1 ps s e (((w.alloc (.cells #[.slice a n c] 32)).alloc (.cells #[.slice a1 n1 c1, .int .i64 s, .int .i64 e] 25)).alloc (.cells #[.slice none 0 0] 32)) (hp.below d3 (Nat.le_refl _)) hsz n1 hn1)
  have HW := Lib.hid (And.intro d3 (And.intro s3 (And.intro k1 (And.intro k2 k3))))
  have HH := Lib.hid h
  have HPA := Lib.hid hp
  have HN1 := Lib.hid hn1
  clear d1 d2 d3 s1 s2 s3 k1 k2 k3 hnl hn1 hsz
  rw [hE] at HC
  have HK0 := Lib.hid (fun u (hb : Below w.heap.size w u) => arKey_ok a1 c1 ps u (hp.below hb (Nat.le_refl _)) hck n1 HN1.out)
  have HPl := Lib.hid (fun u (hb : Below w.heap.size w u) => arPlace_any a c S (keyL ps) u (h.1.below hb (Nat.le_refl _)) h.2.2.2.1 (by omega))
  rw [← HNL.out] at HPl
  have hc := h.2.1
  rw [← HNL.out] at hc hn
  have hps8 := acheck_len hck
  rw [hno] at HPl
  have h64' : (64 : Int) ≤ (n : Int) := by rw [HNL.out]; omega
  have HR := Lib.hid hR
  unfold RPutPost
  obtain ⟨P, HP⟩ : ∃ P, Hid (placeN S (keyL ps) = P) := ⟨_, Lib.hid rfl⟩
  have hPn : P ≤ n := by rw [← HP.out, HNL.out]; exact place_le _ _
  rw [HP.out] at HPl
  obtain ⟨kk, HKK⟩ : ∃ k, Hid (keyL ps = k) := ⟨_, Lib.hid rfl⟩
  rw [HKK.out] at HK0 HPl
  have HE := Lib.hid hE
  clear h hp hE hck hln hfi hR
  go_enter Tryd.func16, Tryd.ntmps16
  go_wp2_with (go_at_call 27; refine HC.out.mono ?_; rintro r w2 ⟨rfl, q2⟩; refine Hid.out ?_)
  refine Lib.hid ?_
  obtain ⟨d3, s3, k1, k2, k3⟩ := HW.out
  rw [s3] at q2
  replace k1 := k1.below q2 (by omega)
  replace k2 := k2.below q2 (by omega)
  replace k3 := k3.below q2 (by omega)
  have b2 := d3.trans (q2.mono (by omega))
  have b2' : Below w.heap.size w w2.drew := b2.drew
  have HK := Lib.hid (HK0.out w2.drew b2')
  clear d3 s3 q2 HC HW HK0
  go_wp2_with fail
  refine wp_region_any (by kernel_rfl) ?_
  change wpAny _ _ _ _ _ _ _ (World.drew _)
  have hS : (fun w' : World => RsBlk w' w.heap.size a n c ∧ AlBlk w' (w.heap.size + 1) a1 n1 c1 s e ∧ RsBlk w' (w.heap.size + 1 + 1) none 0 0) w2.drew := ⟨k1, k2, k3⟩
  refine wpAny_of_held (S := fun w' => RsBlk w' w.heap.size a n c ∧ AlBlk w' (w.heap.size + 1) a1 n1 c1 s e ∧ RsBlk w' (w.heap.size + 1 + 1) none 0 0) _ _ _ _ ?_
  refine wpAnyH_takeA (i := 0) (some 19) (v := ?_) rfl rfl (by as_aux_lemma => kernel_rfl) (by as_aux_lemma => kernel_rfl) (by as_aux_lemma => kernel_rfl) (fun _ _ _ h => h) (Or.inl ⟨by kernel_rfl, ?_⟩) hS ?_
  rotate_left
  · intro w hSw; have c0 := hSw.1.c0; have c1 := hSw.2.1.c0; have c2 := hSw.2.1.c1; have c3 := hSw.2.1.c2; go_simp
    first | done | with_reducible rfl
  refine wpAnyH_takeA (i := 1) (some 20) (v := ?_) rfl rfl (by as_aux_lemma => kernel_rfl) (by as_aux_lemma => kernel_rfl) (by as_aux_lemma => kernel_rfl) (fun _ _ _ h => h) (Or.inl ⟨by kernel_rfl, ?_⟩) hS ?_
  rotate_left
  · intro w hSw; have c0 := hSw.1.c0; have c1 := hSw.2.1.c0; have c2 := hSw.2.1.c1; have c3 := hSw.2.1.c2; go_simp
    first | done | with_reducible rfl
  refine wpAnyH_takeA (i := 2) (some 21) (v := ?_) rfl rfl (by as_aux_lemma => kernel_rfl) (by as_aux_lemma => kernel_rfl) (by as_aux_lemma => kernel_rfl) (fun _ _ _ h => h) (Or.inl ⟨by kernel_rfl, ?_⟩) hS ?_
  rotate_left
  · intro w hSw; have c0 := hSw.1.c0; have c1 := hSw.2.1.c0; have c2 := hSw.2.1.c1; have c3 := hSw.2.1.c2; go_simp
    first | done | with_reducible rfl
  refine wpAnyH_ready (rs := [3]) (by as_aux_lemma => kernel_rfl) (by simp) ?_
  refine AllReadyH.cons rfl (fun K hK => ?_) AllReadyH.nil
  go_simp
  go_wp2_with (go_at_call 29; refine HK.out.mono ?_; rintro r w3 ⟨rfl, q3⟩)
  refine hK.out _ _ ?_ (fun hS => ?_)
  · exact ⟨hS.1.below q3 (ltA hS.1), hS.2.1.below q3 (ltA hS.2.1), hS.2.2.below q3 (ltA hS.2.2)⟩
  clear hK K
  have HPl2 := Lib.hid (HPl.out w3 (b2'.trans (q3.mono b2'.size)))
  refine wpAnyH_ready (rs := [4]) (by as_aux_lemma => kernel_rfl) (by simp) ?_
  refine AllReadyH.cons rfl (fun K hK => ?_) AllReadyH.nil
  go_simp
  go_wp2_with (go_at_call 28; refine HPl2.out.mono ?_; rintro r w4 ⟨rfl, q4⟩)
  refine hK.out _ _ ?_ (fun hS => ?_)
  · exact ⟨hS.1.below q4 (ltA hS.1), hS.2.1.below q4 (ltA hS.2.1), hS.2.2.below q4 (ltA hS.2.2)⟩
  clear hK K
  refine wpAnyH_takeA (i := 5) (some 18) (v := ?_) rfl rfl (by as_aux_lemma => kernel_rfl) (by as_aux_lemma => kernel_rfl) (by as_aux_lemma => kernel_rfl) (fun _ _ _ h => h) (Or.inl ⟨by kernel_rfl, ?_⟩) hS ?_
  rotate_left
  · intro w hSw; have c0 := hSw.1.c0; have c1 := hSw.2.1.c0; have c2 := hSw.2.1.c1; have c3 := hSw.2.1.c2; go_simp
    first | done | with_reducible rfl
  refine wpAnyH_takeA (i := 6) (some 24) (v := ?_) rfl rfl (by as_aux_lemma => kernel_rfl) (by as_aux_lemma => kernel_rfl) (by as_aux_lemma => kernel_rfl) (fun _ _ _ h => h) (Or.inl ⟨by kernel_rfl, ?_⟩) hS ?_
  rotate_left
  · intro w hSw; have c0 := hSw.1.c0; have c1 := hSw.2.1.c0; have c2 := hSw.2.1.c1; have c3 := hSw.2.1.c2; go_simp
    first | done | with_reducible rfl
  refine wpAnyH_takeA (i := 7) (some 25) (v := ?_) rfl rfl (by as_aux_lemma => kernel_rfl) (by as_aux_lemma => kernel_rfl) (by as_aux_lemma => kernel_rfl) (fun _ _ _ h => h) (Or.inl ⟨by kernel_rfl, ?_⟩) hS ?_
  rotate_left
  · intro w hSw; have c0 := hSw.1.c0; have c1 := hSw.2.1.c0; have c2 := hSw.2.1.c1; have c3 := hSw.2.1.c2; go_simp
    first | done | with_reducible rfl
  refine wpAnyH_takeA (i := 8) (some 7) (v := ?_) rfl rfl (by as_aux_lemma => kernel_rfl) (by as_aux_lemma => kernel_rfl) (by as_aux_lemma => kernel_rfl) (fun _ _ _ h => h) (Or.inl ⟨by kernel_rfl, ?_⟩) hS ?_
  rotate_left
  · intro w hSw; have c0 := hSw.1.c0; have c1 := hSw.2.1.c0; have c2 := hSw.2.1.c1; have c3 := hSw.2.1.c2; go_simp
    first | done | with_reducible rfl
  refine wpAnyH_takeA (i := 9) (some 8) (v := ?_) rfl rfl (by as_aux_lemma => kernel_rfl) (by as_aux_lemma => kernel_rfl) (by as_aux_lemma => kernel_rfl) (fun _ _ _ h => h) (Or.inl ⟨by kernel_rfl, ?_⟩) hS ?_
  rotate_left
  · intro w hSw; have c0 := hSw.1.c0; have c1 := hSw.2.1.c0; have c2 := hSw.2.1.c1; have c3 := hSw.2.1.c2; go_simp
    first | done | with_reducible rfl
  refine wpAnyH_done (by kernel_rfl) ?_ _
  have b4 : Below w.heap.size w w4 := (b2'.trans (q3.mono b2'.size)).trans (q4.mono (Nat.le_trans b2'.size q3.size))
  obtain ⟨k1, k2, k3⟩ := hS
  clear q3 q4 HK HPl HPl2 b2'
  go_simp
  have c0 := k1.c0
  have c3 := k3.c0; have f3 := k3.f 0
  have r0 := (k3.set (a' := a) (n' := n) (c' := c)).c0
  have b5 := b4.setCell (p := ⟨w.heap.size + 1 + 1, 0, none⟩) (by show w.heap.size ≤ w.heap.size + 1 + 1; omega) (.slice a n c)
  have HF := Lib.hid (And.intro (HH.out.below b5 (Nat.le_refl _)) b5)
  clear k1 k2 k3 b4 b5
  go_wp2
  exact bodyPost_ret (v := .tuple #[.agg #[.slice a n c], .int .i64 11]) (by simp [results, Tryd.results16, go_sem, r0]) rfl ⟨a, c, S, by rw [HNL.out, HR.out], HF.out.1, fun _ => rfl, (fun e => by rw [HR.out] at e; cases e), HF.out.2⟩

end Go.Proofs.YtdnpfmmkglgnjabDoor
