/-
  What the statements of layer 6 begin with; the walk of InhibitSelf.
-/
import Derived.Test.YthaimnmbcbhioaaDoorI2
namespace Go.Proofs.YthaimnmbcbhioaaDoor
open Go.RowKit

theorem rls_one {w : World} {B : Nat} {r : Rl} (h : RlBlk w B r) (hr : RlAt w r) : RlsAt w (some ⟨B, 0, none⟩) [r] := fun _ => ⟨B, 0, rfl, lt_of_block h, fun i hi => by
  obtain rfl : i = 0 := by simpa using hi
  refine ⟨fun j v hv => ?_, hr⟩
  have hj : j < 3 := (List.getElem?_eq_some_iff.1 hv).1
  rcases (by omega : j = 0 ∨ j = 1 ∨ j = 2) with rfl | rfl | rfl
  · rw [← hv]; exact h.c0
  · rw [← hv]; exact h.c1
  · rw [← hv]; exact h.c2⟩
theorem lbs_one {w : World} {B : Nat} {x : Lb} (h : w.heap[B]? = some (.cells #[.slice x.a x.ps.length x.c] 39 (0, 0))) (hx : PairsAt w x.a x.ps) : LbsAt w (some ⟨B, 0, none⟩) [x] := fun _ => ⟨B, 0, rfl, lt_of_block h, fun i hi => by
  obtain rfl : i = 0 := by simpa using hi
  exact ⟨cell_heap h, hx⟩⟩
theorem lbs_two {w : World} {B : Nat} {x y : Lb} (h : w.heap[B]? = some (.cells #[.slice x.a x.ps.length x.c, .slice y.a y.ps.length y.c] 39 (0, 0))) (hx : PairsAt w x.a x.ps) (hy : PairsAt w y.a y.ps) : LbsAt w (some ⟨B, 0, none⟩) [x, y] := fun _ => ⟨B, 0, rfl, lt_of_block h, fun i hi => by
  rcases (by simp at hi; omega : i = 0 ∨ i = 1) with rfl | rfl
  · exact ⟨cell_heap h, hx⟩
  · exact ⟨cell_heap h, hy⟩⟩
/-- What is light, of a rule and two. -/
theorem light_two {r : Rl} {x y : Lb} (h : LightI [r] [x, y]) : (∀ p ∈ x.ps, p.2.size ≤ 200) ∧ ∀ p ∈ y.ps, p.2.size ≤ 200 := ⟨(h.2.2.1 0 (by simp)).2.2, (h.2.2.1 1 (by simp)).2.2⟩
theorem by_self (r : Rl) (ps : List Pr) : ¬ byP r ps ps := fun ⟨_, h1, h2, h3⟩ => h3 ⟨h2, h1⟩
theorem by_both {r : Rl} {ps qs : List Pr} (h : byP r ps qs) : ¬ byP r qs ps := fun ⟨_, h1, h2, _⟩ => h.2.2.2 ⟨h2, h1⟩

set_option maxRecDepth 20000 in
set_option maxHeartbeats 4000000 in
theorem self_walk (r : Rl) (sa : Option Addr) (sc : Nat) (ps : List Pr) (ta : Option Addr) (tc : Nat) (qs : List Pr) (w : World) (htab : TabW w) (hr : RlAt w r) (okr : RlOk r) (hp : PairsAt w sa ps) (hq : PairsAt w ta qs) (hpn : ps.length ≤ 9223372036854775807) (hqn : qs.length ≤ 9223372036854775807) :
    Calls Tryd.prog 7 #[.agg #[.slice r.sa r.src.length r.sc, .slice r.ta r.tgt.length r.tc, .slice r.ea r.eqs.length r.ec], .slice sa ps.length sc, .slice ta qs.length tc] w fun e w' => e = .returned (.bool true) ∧ Below w.heap.size w w' := by
  have htl := htab.lt
  obtain ⟨w1, hw1⟩ : ∃ x, x = w.alloc (.cells #[.slice r.sa r.src.length r.sc, .slice r.ta r.tgt.length r.tc, .slice r.ea r.eqs.length r.ec] 38) := ⟨_, rfl⟩
  obtain ⟨w2, hw2⟩ : ∃ x, x = w1.alloc (.cells #[.slice r.sa r.src.length r.sc, .slice r.ta r.tgt.length r.tc, .slice r.ea r.eqs.length r.ec] 38) := ⟨_, rfl⟩
  obtain ⟨w3, hw3⟩ : ∃ x, x = w2.alloc (.cells #[.slice sa ps.length sc, .slice ta qs.length tc] 39) := ⟨_, rfl⟩
  have s1 : w1.heap.size = w.heap.size + 1 := by rw [hw1]; simp
  have s2 : w2.heap.size = w.heap.size + 1 + 1 := by rw [hw2]; simp [s1]
  have d1 : Below w.heap.size w w1 := by rw [hw1]; exact (Below.refl w.heap.size w).alloc (Nat.le_refl _) _
  have d2 : Below w1.heap.size w1 w2 := by rw [hw2]; exact (Below.refl w1.heap.size w1).alloc (Nat.le_refl _) _
  have d3 : Below w2.heap.size w2 w3 := by rw [hw3]; exact (Below.refl w2.heap.size w2).alloc (Nat.le_refl _) _
  have k1 : RlBlk w1 w.heap.size r := by rw [hw1]; exact heap_new w _
  have k2 : RlBlk w2 (w.heap.size + 1) r := by rw [hw2, ← s1]; exact heap_new w1 _
  have d23 := d2.trans (d3.mono d2.size)
  have e3 : Below w.heap.size w w3 := d1.trans (d23.mono d1.size)
  have K3 := Lib.hid (k1.below d23)
  have E3 := Lib.hid e3
  have l3 : LbsAt w3 (some ⟨w.heap.size + 1 + 1, 0, none⟩) [⟨sa, sc, ps⟩, ⟨ta, tc, qs⟩] := by
    refine lbs_two (x := ⟨sa, sc, ps⟩) (y := ⟨ta, tc, qs⟩) ?_ (hp.below e3 (Nat.le_refl _)) (hq.below e3 (Nat.le_refl _))
    rw [hw3, ← s2]; exact heap_new w2 _
  have H1 := Lib.hid (vLight_any (some ⟨w.heap.size + 1, 0, none⟩) 1 [r] (some ⟨w.heap.size + 1 + 1, 0, none⟩) 2 [⟨sa, sc, ps⟩, ⟨ta, tc, qs⟩] w3 (rls_one (k2.below d3) (hr.below e3 (Nat.le_refl _))) l3 (by simp) (by simp) (fun x hx => by
    simp only [List.mem_cons, List.not_mem_nil, or_false] at hx
    rcases hx with rfl | rfl
    · exact hpn
    · exact hqn))
  have HW := Lib.hid (fun u (hb : Below w.heap.size w u) => iawake_any u (htab.on hb htl))
  have HBy := Lib.hid (fun (hL : LightI [r] [⟨sa, sc, ps⟩, ⟨ta, tc, qs⟩]) u (hb : Below w.heap.size w u) => iBy_any r sa sc ps sa sc ps u (htab.on hb htl) (hr.below hb (Nat.le_refl _)) okr (hp.below hb (Nat.le_refl _)) (hp.below hb (Nat.le_refl _)) hpn hpn (fun p hp => by have := (light_two hL).1 p hp; omega) (fun p hp => by have := (light_two hL).1 p hp; omega))
  have HBy2 := Lib.hid (fun (hL : LightI [r] [⟨sa, sc, ps⟩, ⟨ta, tc, qs⟩]) u (hb : Below w.heap.size w u) => iBy_any r sa sc ps ta tc qs u (htab.on hb htl) (hr.below hb (Nat.le_refl _)) okr (hp.below hb (Nat.le_refl _)) (hq.below hb (Nat.le_refl _)) hpn hqn (fun p hp => by have := (light_two hL).1 p hp; omega) (fun p hp => by have := (light_two hL).2 p hp; omega))
  have HBy3 := Lib.hid (fun (hL : LightI [r] [⟨sa, sc, ps⟩, ⟨ta, tc, qs⟩]) u (hb : Below w.heap.size w u) => iBy_any r ta tc qs sa sc ps u (htab.on hb htl) (hr.below hb (Nat.le_refl _)) okr (hq.below hb (Nat.le_refl _)) (hp.below hb (Nat.le_refl _)) hqn hpn (fun p hp => by have := (light_two hL).2 p hp; omega) (fun p hp => by have := (light_two hL).1 p hp; omega))
  have HN1 := Lib.hid (by_self r ps)
  have HN2 := Lib.hid (fun h => by_both (r := r) (ps := ps) (qs := qs) h)
  generalize byP r ps ps = P1 at *
  generalize byP r ps qs = P2 at *
  generalize byP r qs ps = P3 at *
  clear l3 e3 d23 k1 k2 d1 d2 d3 s1 s2 hr okr hp hq htab htl
  rw [show ([r] : List Rl).length = 1 from rfl, show ([⟨sa, sc, ps⟩, ⟨ta, tc, qs⟩] : List Lb).length = 2 from rfl] at H1
  subst hw3 hw2 hw1
  go_enter Tryd.func7, Tryd.ntmps7
  go_wp2_with (go_at_call 19; refine H1.out.mono ?_; rintro e w4 ⟨⟨b4, rfl, hb4⟩, q4⟩; have HL := Lib.hid hb4; clear hb4; refine Hid.out ?_)
  refine Lib.hid ?_
  have E4 := Lib.hid (E3.out.trans (q4.mono E3.out.size))
  have K4 := Lib.hid (K3.out.below q4)
  clear E3 K3 q4 H1
  cases b4 with
  | false =>
    have HW4 := Lib.hid (HW.out _ E4.out)
    clear HL HBy HBy2 HBy3 HN1 HN2
    go_wp2_with (go_at_call 20; refine HW4.out.mono ?_; rintro e w5 ⟨rfl, q5⟩)
    go_ret
    exact ⟨rfl, E4.out.trans (q5.mono E4.out.size)⟩
  | true =>
  have HL2 := Lib.hid (HL.out.1 rfl)
  clear HL
  have c0 := K4.out.c0
  have c1 := K4.out.c1
  have c2 := K4.out.c2
  have B1 := Lib.hid (HBy.out HL2.out _ E4.out)
  go_wp2_with (go_at_call 21; refine B1.out.mono ?_; rintro e w5 ⟨ht, q5⟩; obtain rfl := tells_no ht HN1.out; clear ht; refine Hid.out ?_)
  refine Lib.hid ?_
  have E5 := Lib.hid (E4.out.trans (q5.mono E4.out.size))
  have K5 := Lib.hid (K4.out.below q5)
  clear E4 K4 q5 B1 c0 c1 c2 HBy
  have c0 := K5.out.c0
  have c1 := K5.out.c1
  have c2 := K5.out.c2
  have B2 := Lib.hid (HBy2.out HL2.out _ E5.out)
  go_wp2_with (go_at_call 21; refine B2.out.mono ?_; rintro e w6 ⟨⟨b6, rfl, hb6⟩, q6⟩; have HT := Lib.hid hb6; clear hb6; refine Hid.out ?_)
  refine Lib.hid ?_
  have E6 := Lib.hid (E5.out.trans (q6.mono E5.out.size))
  have K6 := Lib.hid (K5.out.below q6)
  clear E5 K5 q6 B2 c0 c1 c2 HBy2
  cases b6 with
  | false =>
    have HW4 := Lib.hid (HW.out _ E6.out)
    clear HT HBy3 HN1 HN2 HL2
    go_wp2_with (go_at_call 20; refine HW4.out.mono ?_; rintro e w5 ⟨rfl, q5⟩)
    go_ret
    exact ⟨rfl, E6.out.trans (q5.mono E6.out.size)⟩
  | true =>
  have HN3 := Lib.hid (HN2.out (HT.out.1 rfl))
  have c0 := K6.out.c0
  have c1 := K6.out.c1
  have c2 := K6.out.c2
  have B3 := Lib.hid (HBy3.out HL2.out _ E6.out)
  clear HT HN2
  go_wp2_with (go_at_call 21; refine B3.out.mono ?_; rintro e w7 ⟨ht, q7⟩; obtain rfl := tells_no ht HN3.out; clear ht; refine Hid.out ?_)
  refine Lib.hid ?_
  have E7 := Lib.hid (E6.out.trans (q7.mono E6.out.size))
  have HW7 := Lib.hid (HW.out _ E7.out)
  clear E6 K6 q7 B3 c0 c1 c2
  go_wp2_with (go_at_call 20; refine HW7.out.mono ?_; rintro e w8 ⟨rfl, q8⟩)
  go_ret
  exact ⟨rfl, E7.out.trans (q8.mono E7.out.size)⟩

end Go.Proofs.YthaimnmbcbhioaaDoor
