/-
  The closed case of every statement of layer 5: it answers true, whatever else lies in memory. The closed case of every statement of layer 5: the walk.
-/
import Derived.Test.YthaimnmbcbhioaaDoorRWalk
import Derived.Test.YthaimnmbcbhioaaDoorRCheck
import Derived.Test.YthaimnmbcbhioaaDoorM4
namespace Go.Proofs.YthaimnmbcbhioaaDoor
open Go.RowKit

set_option maxRecDepth 20000 in
set_option maxHeartbeats 2000000 in
theorem plain_none (p : Int) (co : Bool) (w : World) : Calls Tryd.prog 26 #[.int .i64 p, .string ⟨#[]⟩, .bool co] w fun e w' => e = .returned (.agg #[.int .i64 p, .slice none 0 0, .bool co, .slice none 0 0, .string ⟨#[114]⟩, .int .i64 0, .int .i64 1, .int .i64 1]) ∧ Below w.heap.size w w' := by
  go_enter Tryd.func26, Tryd.ntmps26
  go_wp2
  exact bodyPost_ret (v := .agg #[.int .i64 p, .slice none 0 0, .bool co, .slice none 0 0, .string ⟨#[114]⟩, .int .i64 0, .int .i64 1, .int .i64 1]) (by simp [results, Tryd.results26, go_sem]) rfl ⟨rfl, ((Below.refl w.heap.size w).alloc (Nat.le_refl _) _).alloc (by simp) _⟩

set_option maxRecDepth 20000 in
set_option maxHeartbeats 2000000 in
theorem plain_some (p : Int) (x : UInt8) (co : Bool) (w : World) : Calls Tryd.prog 26 #[.int .i64 p, .string ⟨#[x]⟩, .bool co] w fun e w' => (∃ ma mc, e = .returned (.agg #[.int .i64 p, .slice ma 1 mc, .bool co, .slice none 0 0, .string ⟨#[114]⟩, .int .i64 0, .int .i64 1, .int .i64 1]) ∧ MtsAt w' ma [(⟨#[97]⟩, 0, ⟨#[x]⟩)]) ∧ Below w.heap.size w w' := by
  go_enter Tryd.func26, Tryd.ntmps26
  go_wp2
  have hs : ∀ o1 o2 : Obj, ((w.alloc o1).alloc o2).heap.size = w.heap.size + 1 + 1 := fun o1 o2 => by simp
  refine bodyPost_ret (v := .agg #[.int .i64 p, .slice (some ⟨w.heap.size + 1 + 1, 0, none⟩) 1 1, .bool co, .slice none 0 0, .string ⟨#[114]⟩, .int .i64 0, .int .i64 1, .int .i64 1]) (by simp [results, Tryd.results26, go_sem]) rfl ⟨⟨some ⟨w.heap.size + 1 + 1, 0, none⟩, 1, rfl, fun _ => ⟨w.heap.size + 1 + 1, 0, rfl, by simp, fun i hi => ?_⟩⟩, (((Below.refl w.heap.size w).alloc (Nat.le_refl _) _).alloc (by simp) _).alloc (by simp; omega) _⟩
  obtain rfl : i = 0 := by simpa using hi
  have hb := fun o1 o2 => heap_new ((w.alloc o1).alloc o2) (.cells #[.string ⟨#[97]⟩, .int .u8 0, .string ⟨#[x]⟩] 36)
  simp only [hs] at hb
  exact ⟨cell_heap (hb _ _), cell_heap (hb _ _), cell_heap (hb _ _)⟩

/-- The routes of the closed case. -/
def rtA (p : Int) (ma : Option Addr) (mc : Nat) (ms : List Mt) (co : Bool) : Rt := ⟨p, ma, mc, ms, co, none, 0, [], ⟨#[114]⟩, 0, 1, 1⟩
def rtsA (a1 : Option Addr) (c1 : Nat) (a2 : Option Addr) (c2 : Nat) (a3 : Option Addr) (c3 : Nat) : List Rt := [rtA (-1) none 0 [] false, rtA 0 a1 c1 [(⟨#[97]⟩, 0, ⟨#[49]⟩)] true, rtA 0 a2 c2 [(⟨#[97]⟩, 0, ⟨#[49]⟩)] false, rtA 0 a3 c3 [(⟨#[97]⟩, 0, ⟨#[50]⟩)] false]

theorem err0 (x : UInt8) : mErr (⟨#[97]⟩, 0, ⟨#[x]⟩) = 0 := by
  unfold mErr
  rw [if_neg (Classical.not_not.2 nameA)]
  rfl
theorem ask1 : mAsk psA (⟨#[97]⟩, 0, ⟨#[49]⟩) := ⟨err0 49, .inl ⟨rfl, by rw [gv1]⟩⟩
theorem ask2 : ¬ mAsk psA (⟨#[97]⟩, 0, ⟨#[50]⟩) := by
  rintro ⟨-, ⟨-, h⟩ | ⟨h, -⟩ | ⟨h, -⟩ | ⟨h, -⟩⟩
  · rw [gv1, ByteArray.toList_eq, ByteArray.toList_eq] at h
    revert h
    decide
  · cases h
  · cases h
  · cases h
theorem ask0 (x : UInt8) : ¬ mAsk [] (⟨#[97]⟩, 0, ⟨#[x]⟩) := by
  rintro ⟨-, ⟨-, h⟩ | ⟨h, -⟩ | ⟨h, -⟩ | ⟨h, -⟩⟩
  · rw [ByteArray.toList_eq, ByteArray.toList_eq] at h
    simp [getV] at h
  · cases h
  · cases h
  · cases h

section
variable (a1 : Option Addr) (c1 : Nat) (a2 : Option Addr) (c2 : Nat) (a3 : Option Addr) (c3 : Nat)
theorem kidsA0 : kidsP (rtsA a1 c1 a2 c2 a3 c3) 0 = [1, 2, 3] := rfl
theorem kidsA1 : kidsP (rtsA a1 c1 a2 c2 a3 c3) 1 = [] := rfl
theorem kidsA2 : kidsP (rtsA a1 c1 a2 c2 a3 c3) 2 = [] := rfl
theorem kidsA3 : kidsP (rtsA a1 c1 a2 c2 a3 c3) 3 = [] := rfl
theorem tkA0 {ps : List Pr} {tk : Nat → Bool} (h : TkOk (rtsA a1 c1 a2 c2 a3 c3) ps tk) : tk 0 = true := (h 0 (by decide : 0 < 4)).2 fun m hm => by cases hm
theorem tk_one {l : List Rt} {ps : List Pr} {tk : Nat → Bool} (h : TkOk l ps tk) {i : Nat} (hi : i < l.length) {m : Mt} (he : l[i].ms = [m]) (hm : mAsk ps m) : tk i = true := (h i hi).2 fun x hx => by
  rw [he] at hx
  rw [List.mem_singleton.1 hx]
  exact hm
theorem tk_not {l : List Rt} {ps : List Pr} {tk : Nat → Bool} (h : TkOk l ps tk) {i : Nat} (hi : i < l.length) {m : Mt} (he : l[i].ms = [m]) (hm : ¬ mAsk ps m) : tk i = false := Bool.eq_false_iff.2 fun k => hm ((h i hi).1 k m (by rw [he]; simp))
theorem walkA1 {tk : Nat → Bool} (h : TkOk (rtsA a1 c1 a2 c2 a3 c3) psA tk) : walkL (rtsA a1 c1 a2 c2 a3 c3) tk = [1, 2] := by
  have t0 := tkA0 a1 c1 a2 c2 a3 c3 h
  have t1 := tk_one h (i := 1) (by decide : 1 < 4) rfl ask1
  have t2 := tk_one h (i := 2) (by decide : 2 < 4) rfl ask1
  have e1 : coP (rtsA a1 c1 a2 c2 a3 c3) 1 = true := rfl
  have e2 : coP (rtsA a1 c1 a2 c2 a3 c3) 2 = false := rfl
  have hl : (rtsA a1 c1 a2 c2 a3 c3).length = 4 := rfl
  unfold walkL
  rw [hl]
  simp [walkP, runKids, kidsA0, kidsA1, kidsA2, t0, t1, t2, e1, e2]
theorem walkA0 {tk : Nat → Bool} (h : TkOk (rtsA a1 c1 a2 c2 a3 c3) [] tk) : walkL (rtsA a1 c1 a2 c2 a3 c3) tk = [0] := by
  have t0 := tkA0 a1 c1 a2 c2 a3 c3 h
  have t1 := tk_not h (i := 1) (by decide : 1 < 4) rfl (ask0 49)
  have t2 := tk_not h (i := 2) (by decide : 2 < 4) rfl (ask0 49)
  have t3 := tk_not h (i := 3) (by decide : 3 < 4) rfl (ask0 50)
  have hl : (rtsA a1 c1 a2 c2 a3 c3).length = 4 := rfl
  unfold walkL
  rw [hl]
  simp [walkP, runKids, kidsA0, t0, t1, t2, t3]
theorem namesE_nil : namesE [] = 0 := namesE_ok (by decide) fun i ⟨h, _⟩ => absurd h (by simp)
theorem routeA (p : Int) (a : Option Addr) (c : Nat) (ms : List Mt) (co : Bool) (h : checkAllE ms = 0) : routeE (rtA p a c ms co) = 0 := by
  unfold routeE rtA
  simp only
  rw [h, namesE_nil, if_neg (by decide), if_neg (by decide), if_neg (by decide), if_neg (Classical.not_not.2 ⟨Or.inl rfl, (by decide : SpanOk 1), (by decide : SpanOk 1)⟩)]
theorem checkA1 (x : UInt8) : checkAllE [(⟨#[97]⟩, 0, ⟨#[x]⟩)] = 0 := by
  unfold checkAllE allE allE
  rw [if_neg (by simp), if_neg (by rw [err0]; decide)]
theorem treeA : TreeOk (rtsA a1 c1 a2 c2 a3 c3) := by
  refine ⟨⟨(by decide : 0 < 4), rfl, rfl⟩, fun i h h1 => ?_⟩
  have h4 : i < 4 := h
  rcases (by omega : i = 1 ∨ i = 2 ∨ i = 3) with rfl | rfl | rfl <;> exact ⟨Int.le_refl 0, by show (0 : Int) < _; omega⟩
theorem confA : confE (rtsA a1 c1 a2 c2 a3 c3) [] 1 1 = 0 := by
  unfold confE
  rw [if_neg (by show ¬ (16 < 4 ∨ 8 < 0); decide)]
  refine (if_pos ((treeB_iff _).2 (treeA a1 c1 a2 c2 a3 c3))).trans ?_
  have h : firstE routeE (rtsA a1 c1 a2 c2 a3 c3) = 0 := firstE_none fun i hi => by
    have h4 : i < 4 := hi
    rcases (by omega : i = 0 ∨ i = 1 ∨ i = 2 ∨ i = 3) with rfl | rfl | rfl | rfl
    · exact routeA _ _ _ _ _ rfl
    · exact routeA _ _ _ _ _ (checkA1 49)
    · exact routeA _ _ _ _ _ (checkA1 49)
    · exact routeA _ _ _ _ _ (checkA1 50)
  rw [h]
  decide
theorem confA0 : confE [] [] 0 0 = 10 := by
  unfold confE
  rw [if_neg (by decide)]
  rfl
end


/-- The cells of the four routes. -/
theorem rtsA_at {w : World} {B : Nat} {a1 a2 a3 : Option Addr} {c1 c2 c3 : Nat} {cs : Array Value} (h : w.heap[B]? = some (.cells cs 33 (0, 0))) (hc : cs.toList = (rtsA a1 c1 a2 c2 a3 c3).flatMap encR)
    (h1 : MtsAt w a1 [(⟨#[97]⟩, 0, ⟨#[49]⟩)]) (h2 : MtsAt w a2 [(⟨#[97]⟩, 0, ⟨#[49]⟩)]) (h3 : MtsAt w a3 [(⟨#[97]⟩, 0, ⟨#[50]⟩)]) : RtsAt w (some ⟨B, 0, none⟩) (rtsA a1 c1 a2 c2 a3 c3) := fun _ => by
  refine ⟨B, 0, rfl, lt_of_block h, fun i hi => ⟨fun j v hv => ?_, ?_, fun hn => ?_⟩⟩
  · have hi4 : i < 4 := hi
    have hj : j < 8 := (List.getElem?_eq_some_iff.1 hv).1
    rw [cell_heap h, ← Array.getElem?_toList, hc]
    rcases (by omega : i = 0 ∨ i = 1 ∨ i = 2 ∨ i = 3) with rfl | rfl | rfl | rfl <;>
    rcases (by omega : j = 0 ∨ j = 1 ∨ j = 2 ∨ j = 3 ∨ j = 4 ∨ j = 5 ∨ j = 6 ∨ j = 7) with rfl | rfl | rfl | rfl | rfl | rfl | rfl | rfl <;> exact hv
  · have hi4 : i < 4 := hi
    rcases (by omega : i = 0 ∨ i = 1 ∨ i = 2 ∨ i = 3) with rfl | rfl | rfl | rfl
    · exact fun hn => absurd hn (by show ¬ 0 < 0; decide)
    · exact h1
    · exact h2
    · exact h3
  · have hi4 : i < 4 := hi
    rcases (by omega : i = 0 ∨ i = 1 ∨ i = 2 ∨ i = 3) with rfl | rfl | rfl | rfl <;> exact absurd hn (by show ¬ 0 < 0; decide)
theorem rtsA_ok (a1 : Option Addr) (c1 : Nat) (a2 : Option Addr) (c2 : Nat) (a3 : Option Addr) (c3 : Nat) : ∀ r ∈ rtsA a1 c1 a2 c2 a3 c3, RtOk r := by
  intro r hr
  have k : maxLen = 9223372036854775807 := rfl
  have one : ∀ (m : Mt), m.1.size ≤ 1 → m.2.2.size ≤ 1 → MtsOk [m] := fun m h1 h2 => ⟨by simp; omega, fun x hx => by rw [List.mem_singleton.1 hx]; omega⟩
  have two : ∀ p a c ms co, MtsOk ms → RtOk (rtA p a c ms co) := fun p a c ms co h => ⟨h, ⟨⟨Nat.zero_le _, fun s hs => by cases hs⟩, Nat.le_refl _⟩, by show (1 : Nat) ≤ maxLen; omega⟩
  simp only [rtsA, List.mem_cons, List.not_mem_nil, or_false] at hr
  rcases hr with rfl | rfl | rfl | rfl
  · exact two _ _ _ _ _ ⟨Nat.zero_le _, fun s hs => by cases hs⟩
  · exact two _ _ _ _ _ (one _ (by decide) (by decide))
  · exact two _ _ _ _ _ (one _ (by decide) (by decide))
  · exact two _ _ _ _ _ (one _ (by decide) (by decide))
theorem one_at {w : World} {a : Option Addr} {L : List Nat} (h : IntsAt w a L) (n : Nat) (hn : L.length = n) (h0 : 0 < n) : ∃ b o, a = some ⟨b, o, none⟩ ∧ b < w.heap.size ∧ ∀ i (hi : i < L.length), w.cell? ⟨b, o + i, none⟩ = some (.int .i64 ((L[i] : Nat) : Int)) := h (by omega)

set_option maxRecDepth 20000 in
set_option maxHeartbeats 8000000 in
theorem tawake_any (w : World) (htab : TabW w) : Calls Tryd.prog 10 #[] w fun e w' => e = .returned (.bool true) ∧ Below w.heap.size w w' := by
  have htl := htab.lt
  have H0 := Lib.hid (fun p co u => plain_none p co u)
  have H1 := Lib.hid (fun p x co u => plain_some p x co u)
  have HW := Lib.hid (fun a1 c1 a2 c2 a3 c3 (B : Nat) (d : Option Addr) (pc : Nat) (ps : List Pr) (tk : Nat → Bool) (htk : TkOk (rtsA a1 c1 a2 c2 a3 c3) ps tk) u (hb : Below w.heap.size w u) (hl : RtsAt u (some ⟨B, 0, none⟩) (rtsA a1 c1 a2 c2 a3 c3)) (hps : PairsAt u d ps) (hp1 : ps.length ≤ 1) (hpv : ∀ q ∈ ps, q.2.size ≤ 9223372036854775807) => tWalk_any (some ⟨B, 0, none⟩) 4 (rtsA a1 c1 a2 c2 a3 c3) d pc ps tk htk u (htab.on hb htl) hl hps (by show (4 : Nat) ≤ 1000; decide) (fun r hr => (rtsA_ok a1 c1 a2 c2 a3 c3 r hr).1.1) (by omega) hpv)
  have HC := Lib.hid (fun a1 c1 a2 c2 a3 c3 (B : Nat) u (hb : Below w.heap.size w u) (hl : RtsAt u (some ⟨B, 0, none⟩) (rtsA a1 c1 a2 c2 a3 c3)) => tCheck_any (some ⟨B, 0, none⟩) 4 (rtsA a1 c1 a2 c2 a3 c3) none 0 [] 1 1 u (htab.on hb htl) hl (fun h => absurd h (by simp)) (rtsA_ok a1 c1 a2 c2 a3 c3) (fun r hr => by cases hr) (by show (4 : Nat) ≤ _; decide) (by decide))
  have HC0 := Lib.hid (fun u (hb : Below w.heap.size w u) => tCheck_any none 0 [] none 0 [] 0 0 u (htab.on hb htl) (fun h => absurd h (by simp)) (fun h => absurd h (by simp)) (fun r hr => by cases hr) (fun r hr => by cases hr) (by decide) (by decide))
  have lenA : ∀ a1 c1 a2 c2 a3 c3, (rtsA a1 c1 a2 c2 a3 c3).length = 4 := fun _ _ _ _ _ _ => rfl
  simp only [confA, confA0, List.length_nil, lenA] at HC HC0 HW
  clear htab lenA
  go_enter Tryd.func10, Tryd.ntmps10
  go_wp2_with (go_at_call 26; refine (H0.out _ _ _).mono ?_; rintro e w1 ⟨rfl, q1⟩; refine Hid.out ?_)
  refine Lib.hid ?_
  go_wp2_with (go_at_call 26; refine (H1.out _ _ _ _).mono ?_; rintro e w2 ⟨⟨a1, c1, rfl, m1⟩, q2⟩; refine Hid.out ?_)
  refine Lib.hid ?_
  have b2 := q1.trans (q2.mono q1.size)
  clear q1 q2
  go_wp2_with (go_at_call 26; refine (H1.out _ _ _ _).mono ?_; rintro e w3 ⟨⟨a2, c2, rfl, m2⟩, q3⟩; refine Hid.out ?_)
  refine Lib.hid ?_
  have b3 := b2.trans (q3.mono b2.size)
  have m1' := m1.below q3 (Nat.le_refl _)
  clear b2 q3 m1
  go_wp2_with (go_at_call 26; refine (H1.out _ _ _ _).mono ?_; rintro e w4 ⟨⟨a3, c3, rfl, m3⟩, q4⟩; refine Hid.out ?_)
  refine Lib.hid ?_
  have b4 := b3.trans (q4.mono b3.size)
  have m1'' := m1'.below q4 (Nat.le_refl _)
  have m2' := m2.below q4 (Nat.le_refl _)
  clear b3 q4 m1' m2 H0 H1
  have d5 := (Below.refl w4.heap.size w4).alloc (Nat.le_refl _) (.cells #[.int .i64 (-1), .slice none 0 0, .bool false, .slice none 0 0, .string ⟨#[114]⟩, .int .i64 0, .int .i64 1, .int .i64 1, .int .i64 0, .slice a1 1 c1, .bool true, .slice none 0 0, .string ⟨#[114]⟩, .int .i64 0, .int .i64 1, .int .i64 1, .int .i64 0, .slice a2 1 c2, .bool false, .slice none 0 0, .string ⟨#[114]⟩, .int .i64 0, .int .i64 1, .int .i64 1, .int .i64 0, .slice a3 1 c3, .bool false, .slice none 0 0, .string ⟨#[114]⟩, .int .i64 0, .int .i64 1, .int .i64 1] 33)
  have r5 : RtsAt (w4.alloc (.cells #[.int .i64 (-1), .slice none 0 0, .bool false, .slice none 0 0, .string ⟨#[114]⟩, .int .i64 0, .int .i64 1, .int .i64 1, .int .i64 0, .slice a1 1 c1, .bool true, .slice none 0 0, .string ⟨#[114]⟩, .int .i64 0, .int .i64 1, .int .i64 1, .int .i64 0, .slice a2 1 c2, .bool false, .slice none 0 0, .string ⟨#[114]⟩, .int .i64 0, .int .i64 1, .int .i64 1, .int .i64 0, .slice a3 1 c3, .bool false, .slice none 0 0, .string ⟨#[114]⟩, .int .i64 0, .int .i64 1, .int .i64 1] 33)) (some ⟨w4.heap.size, 0, none⟩) (rtsA a1 c1 a2 c2 a3 c3) := rtsA_at (heap_new w4 _) rfl (m1''.below d5 (Nat.le_refl _)) (m2'.below d5 (Nat.le_refl _)) (m3.below d5 (Nat.le_refl _))
  have b5 := b4.trans (d5.mono b4.size)
  have hs5 : (w4.alloc (.cells #[.int .i64 (-1), .slice none 0 0, .bool false, .slice none 0 0, .string ⟨#[114]⟩, .int .i64 0, .int .i64 1, .int .i64 1, .int .i64 0, .slice a1 1 c1, .bool true, .slice none 0 0, .string ⟨#[114]⟩, .int .i64 0, .int .i64 1, .int .i64 1, .int .i64 0, .slice a2 1 c2, .bool false, .slice none 0 0, .string ⟨#[114]⟩, .int .i64 0, .int .i64 1, .int .i64 1, .int .i64 0, .slice a3 1 c3, .bool false, .slice none 0 0, .string ⟨#[114]⟩, .int .i64 0, .int .i64 1, .int .i64 1] 33)).heap.size = w4.heap.size + 1 := by simp
  clear m1'' m2' m3 d5 b4
  go_wp2_with fail
  generalize w4.alloc (.cells #[.int .i64 (-1), .slice none 0 0, .bool false, .slice none 0 0, .string ⟨#[114]⟩, .int .i64 0, .int .i64 1, .int .i64 1, .int .i64 0, .slice a1 1 c1, .bool true, .slice none 0 0, .string ⟨#[114]⟩, .int .i64 0, .int .i64 1, .int .i64 1, .int .i64 0, .slice a2 1 c2, .bool false, .slice none 0 0, .string ⟨#[114]⟩, .int .i64 0, .int .i64 1, .int .i64 1, .int .i64 0, .slice a3 1 c3, .bool false, .slice none 0 0, .string ⟨#[114]⟩, .int .i64 0, .int .i64 1, .int .i64 1] 33) = w5 at *
  have d6 := (Below.refl w5.heap.size w5).alloc (Nat.le_refl _) (.cells #[.string ⟨#[97]⟩, .string ⟨#[49]⟩] 55)
  have hP : PairsAt (w5.alloc (.cells #[.string ⟨#[97]⟩, .string ⟨#[49]⟩] 55)) (some ⟨w4.heap.size + 1, 0, none⟩) psA := fun _ => ⟨w4.heap.size + 1, 0, rfl, fun i hi => by
    obtain rfl : i = 0 := by simpa [psA] using hi
    have := heap_new w5 (.cells #[.string ⟨#[97]⟩, .string ⟨#[49]⟩] 55)
    rw [hs5] at this
    exact ⟨cell_heap this, cell_heap this⟩⟩
  have r6 := r5.below d6 (Nat.le_refl _)
  have b6 := b5.trans (d6.mono b5.size)
  obtain ⟨tk1, htk1⟩ := tk_ex (rtsA a1 c1 a2 c2 a3 c3) psA
  have H1 := Lib.hid (HW.out a1 c1 a2 c2 a3 c3 w4.heap.size (some ⟨w4.heap.size + 1, 0, none⟩) 1 psA tk1 htk1 _ b6 r6 hP (by decide) (by decide))
  rw [walkA1 _ _ _ _ _ _ htk1, show psA.length = 1 from rfl] at H1
  generalize w5.alloc (.cells #[.string ⟨#[97]⟩, .string ⟨#[49]⟩] 55) = w6 at *
  clear r5 b5 d6 hP hs5
  generalize w4.heap.size = B at *
  go_wp2_with (go_at_call 18; refine H1.out.mono ?_; rintro e w7 ⟨⟨ta, tc, rfl, i7⟩, q7⟩; refine Hid.out ?_)
  refine Lib.hid ?_
  have b7 := b6.trans (q7.mono b6.size)
  have r7 := r6.below q7 (Nat.le_refl _)
  clear b6 r6 q7 H1
  obtain ⟨tk0, htk0⟩ := tk_ex (rtsA a1 c1 a2 c2 a3 c3) []
  have H2 := Lib.hid (HW.out a1 c1 a2 c2 a3 c3 B none 0 [] tk0 htk0 _ b7 r7 (fun h => absurd h (by simp)) (by decide) (fun q hq => by cases hq))
  rw [walkA0 _ _ _ _ _ _ htk0, List.length_nil] at H2
  clear htk0 htk1
  go_wp2_with (go_at_call 18; refine H2.out.mono ?_; rintro e w8 ⟨⟨tb, td, rfl, i8⟩, q8⟩; refine Hid.out ?_)
  refine Lib.hid ?_
  have b8 := b7.trans (q8.mono b7.size)
  have r8 := r7.below q8 (Nat.le_refl _)
  obtain ⟨xb, xo, rfl, hxl, hx⟩ := one_at (i7.below q8 (Nat.le_refl _)) 2 rfl (by decide)
  obtain ⟨yb, yo, rfl, hyl, hy⟩ := one_at i8 1 rfl (by decide)
  have x0 : w8.cell? ⟨xb, xo, none⟩ = some (.int .i64 1) := hx 0 (by decide)
  have x1 : w8.cell? ⟨xb, xo + 1, none⟩ = some (.int .i64 2) := hx 1 (by decide)
  have y0 : w8.cell? ⟨yb, yo, none⟩ = some (.int .i64 0) := hy 0 (by decide)
  have H3 := Lib.hid (HC.out a1 c1 a2 c2 a3 c3 B _ b8 r8)
  clear b7 r7 q8 H2 hx hy i7 i8
  go_wp2_with (go_at_call 16; refine H3.out.mono ?_; rintro e w9 ⟨rfl, q9⟩; refine Hid.out ?_)
  refine Lib.hid ?_
  have b9 := b8.trans (q9.mono b8.size)
  have H4 := Lib.hid (HC0.out _ b9)
  clear x0 x1 y0 b8 r8 q9 H3
  go_wp2_with (go_at_call 16; refine H4.out.mono ?_; rintro e w10 ⟨rfl, q10⟩)
  go_ret
  exact ⟨rfl, b9.trans (q10.mono b9.size)⟩

end Go.Proofs.YthaimnmbcbhioaaDoor
