/-
  The walk of CrdtOrder.
-/
import Derived.Test.YtjkhonelidhakabC8
namespace Go.Proofs.Ytjkhonelidhakab
open Go.RowKit Go.Maps

theorem order_pureC (a b : List Ent) (h : a.length + b.length ≤ 250) : mergeS [] (b ++ a) = mergeS [] (a ++ b) ∧ mergeS [] ((a ++ b) ++ a) = mergeS [] (a ++ b) ∧ mergeS [] a.reverse = mergeS [] a ∧ mergeN (mergeS [] (a ++ b)) (mergeS [] (a ++ b)) = 0 ∧ mergeS (mergeS [] (a ++ b)) (mergeS [] (a ++ b)) = mergeS [] (a ++ b) := by
  have hU : (a ++ b).length ≤ 256 := by simp; omega
  have hA := best_of (l := a) hU (fun y hy => by simp [hy])
  have hR := best_of (l := a.reverse) hU (fun y hy => by simp at hy; simp [hy])
  have hX := best_of (l := a ++ b) hU (fun y hy => hy)
  have hY := best_of (l := b ++ a) hU (fun y hy => by simp at hy; simp; exact hy.symm)
  have hZ := best_of (l := (a ++ b) ++ a) hU (fun y hy => by simp at hy; simp; rcases hy with h | h | h <;> simp [h])
  have h0 := mergeN_zero (mergeS [] (a ++ b)) (mergeS [] (a ++ b)) fun y hy => stays_of hX (hX.2.1 y hy)
  refine ⟨best_same hY hX fun x => ?_, best_same hZ hX fun x => ?_, best_same hR hA fun x => by simp, h0.1, h0.2⟩
  · simp only [List.mem_append]
    constructor <;> (rintro ⟨h | h, k⟩ <;> simp [h, k])
  · simp only [List.mem_append]
    constructor
    · rintro ⟨(h | h) | h, k⟩ <;> simp [h, k]
    · rintro ⟨h | h, k⟩ <;> simp [h, k]
theorem back_succ (l : List Ent) (k : Nat) (hk : k < l.length) : (l.drop (k + 1)).reverse ++ [l[k]] = (l.drop k).reverse := by
  rw [List.drop_eq_getElem_cons hk, List.reverse_cons]

set_option maxRecDepth 100000 in
set_option maxHeartbeats 8000000 in
theorem ord_walk (aA : Option Addr) (cA : Nat) (lA : List Ent) (aB : Option Addr) (cB : Nat) (lB : List Ent) (W : World) (heA : EntsAt W aA lA) (heB : EntsAt W aB lB) (hcA : aA = none → cA = 0) (hcB : aB = none → cB = 0) (nA nB : Nat) (hA : nA = lA.length) (hB : nB = lB.length) (hzA : lA.length ≤ 140737488351232) (hzB : lB.length ≤ 140737488351232) :
    Calls Try.prog 4 #[.slice aA nA cA, .slice aB nB cB] W fun e w' => e = .returned (.bool true) ∧ Below W.heap.size W w' := by
  have gw : IntKind.i64.wrap ((nA : Int) + (nB : Int)) = (nA : Int) + (nB : Int) := by rw [IntKind.wrap_i64]; omega
  by_cases h1 : 250 < nA + nB
  · have gd1 : (250 : Int) < (nA : Int) + (nB : Int) := by omega
    go_enter Try.func4, Try.ntmps4
    go_wp2_with (go_at_call 10; refine (cawake_any _).mono ?_; rintro e w1 ⟨rfl, q⟩)
    go_ret
    exact ⟨rfl, q⟩
  have gd1 : ¬ (250 : Int) < (nA : Int) + (nB : Int) := by omega
  have hp := order_pureC lA lB (by omega)
  have HNA := Lib.hid hA
  have HNB := Lib.hid hB
  have HLA : Hid (lA.length ≤ 9223372036854775807) := Lib.hid (by omega)
  have HLB : Hid (lB.length ≤ 9223372036854775807) := Lib.hid (by omega)
  have HSA : Hid (lA.length ≤ 250) := Lib.hid (by omega)
  have HSB : Hid (lB.length ≤ 250) := Lib.hid (by omega)
  have hnA : nA ≤ 250 := by omega
  have HCA := Lib.hid hcA
  have HCB := Lib.hid hcB
  clear h1 hA hB hcA hcB hzA hzB
  obtain ⟨X, eX⟩ : ∃ S, mergeS [] (lA ++ lB) = S := ⟨_, rfl⟩
  obtain ⟨A1, eA⟩ : ∃ S, mergeS [] lA = S := ⟨_, rfl⟩
  rw [eX, eA] at hp
  obtain ⟨p1, p2, p3, p4, p5⟩ := hp
  have HEX := Lib.hid eX; have HEA := Lib.hid eA
  have HEY := Lib.hid p1; have HEZ := Lib.hid p2; have HEB := Lib.hid p3; have HP4 := Lib.hid p4; have HP5 := Lib.hid p5
  clear eX eA p1 p2 p3 p4 p5
  have HS1 : Hid (EntsAt W aA lA ∧ EntsAt W aB lB ∧ Below W.heap.size W W) := Lib.hid ⟨heA, heB, Below.refl _ _⟩
  clear heA heB
  go_enter Try.func4, Try.ntmps4
  obtain ⟨x0, x1, q0⟩ := HS1.out
  have d0 := (Below.refl W.heap.size W).alloc (Nat.le_refl _) (.cells #[] 39)
  have HO := Lib.hid (OwnC.none W W.heap.size (Nat.le_refl _))
  have HD := Lib.hid d0
  have HY0 := Lib.hid x0
  have HY1 := Lib.hid x1
  clear d0 x0 x1 q0
  go_wp2_with (at_builtin; refine wpList_append_ents _ rfl _ _ rfl W.heap.size _ [] rfl HO.out aA nA cA lA rfl HNA.out (HY0.out.on HD.out) HCA.out (by have := HSA.out; simp; omega) HD.out.size ?_; intro v u2_0 o1 g1; refine Hid.out ?_)
  refine Lib.hid ?_
  have q1 := HD.out.grown g1 HD.out.size (fun j hj => (World.ownsRow.lt HO.out j hj).1)
  rw [List.nil_append] at o1
  obtain ⟨aP_0, cP_0, rfl, hc0, -, he⟩ := o1.form
  replace HO := Lib.hid o1
  replace HD := Lib.hid q1
  have HE := Lib.hid he
  have HC0 := Lib.hid hc0
  clear o1 g1 q1 he hc0
  clear HE HC0
  go_wp2_with (at_builtin; refine wpList_append_ents _ rfl _ _ rfl W.heap.size _ lA rfl HO.out aB nB cB lB rfl HNB.out (HY1.out.on HD.out) HCB.out (by have := HSB.out; have := HSA.out; simp; omega) HD.out.size ?_; intro v w2 o1 g1; refine Hid.out ?_)
  refine Lib.hid ?_
  have q1 := HD.out.grown g1 HD.out.size (fun j hj => (World.ownsRow.lt HO.out j hj).1)
  obtain ⟨aP_1, cP_1, rfl, hc0, -, he⟩ := o1.form
  replace HO := Lib.hid o1
  replace HD := Lib.hid q1
  have HE := Lib.hid he
  have HC0 := Lib.hid hc0
  clear o1 g1 q1 he hc0
  obtain ⟨nP, hnP⟩ : ∃ n, n = (lA ++ lB).length := ⟨_, rfl⟩
  rw [← hnP]
  have HNP := Lib.hid hnP
  have HLeP : Hid ((lA ++ lB).length ≤ 9223372036854775807) := Lib.hid (by have := HSA.out; have := HSB.out; simp only [List.length_append]; omega)
  clear hnP
  have hq := HD.out
  have he := HE.out
  clear HD HE HO HC0 HY0 HY1
  obtain ⟨x0, x1, q0⟩ := HS1.out
  have HS3 : Hid (EntsAt w2 aA lA ∧ EntsAt w2 aB lB ∧ EntsAt w2 aP_1 (lA ++ lB) ∧ Below W.heap.size W w2) := Lib.hid ⟨x0.on hq, x1.on hq, he, q0.trans (hq.mono q0.size)⟩
  clear x0 x1 q0 HS1
  clear he hq
  obtain ⟨x0, x1, x2, q0⟩ := HS3.out
  have HC4 := Lib.hid (cof_any aP_1 cP_1 (lA ++ lB) w2 x2 HLeP.out nP HNP.out)
  clear x0 x1 x2 q0
  go_wp2_with (go_at_call 24; refine HC4.out.mono ?_; rintro e w4 ⟨sb4, bm4, rfl, hm, hge, q⟩; refine Hid.out ?_)
  refine Lib.hid ?_
  rw [HEX.out] at hm
  obtain ⟨x0, x1, x2, q0⟩ := HS3.out
  have HGE_0 : Hid (W.heap.size ≤ bm4) := Lib.hid (Nat.le_trans q0.size hge.2)
  clear x0 x1 x2 q0
  obtain ⟨x0, x1, x2, q0⟩ := HS3.out
  have HS5 : Hid (CAt w4 sb4 bm4 X ∧ EntsAt w4 aA lA ∧ EntsAt w4 aB lB ∧ EntsAt w4 aP_1 (lA ++ lB) ∧ Below W.heap.size W w4) := Lib.hid ⟨hm, x0.on q, x1.on q, x2.on q, q0.trans (q.mono q0.size)⟩
  clear x0 x1 x2 q0 HS3
  clear hm hge q HC4
  obtain ⟨m0, x0, x1, x2, q0⟩ := HS5.out
  have HS6 : Hid (CAt w4 sb4 bm4 X ∧ EntsAt w4 aA lA ∧ EntsAt w4 aB lB ∧ Below W.heap.size W w4) := Lib.hid ⟨m0, x0, x1, q0⟩
  clear m0 x0 x1 x2 q0 HS5
  obtain ⟨m0, x0, x1, q0⟩ := HS6.out
  have d0 := (Below.refl w4.heap.size w4).alloc (Nat.le_refl _) (.cells #[] 39)
  have HO := Lib.hid (OwnC.none w4 w4.heap.size (Nat.le_refl _))
  have HD := Lib.hid d0
  have HY0 := Lib.hid x1
  have HY1 := Lib.hid x0
  clear d0 m0 x0 x1 q0
  go_wp2_with (at_builtin; refine wpList_append_ents _ rfl _ _ rfl w4.heap.size _ [] rfl HO.out aB nB cB lB rfl HNB.out (HY0.out.on HD.out) HCB.out (by have := HSB.out; simp; omega) HD.out.size ?_; intro v u7_0 o1 g1; refine Hid.out ?_)
  refine Lib.hid ?_
  have q1 := HD.out.grown g1 HD.out.size (fun j hj => (World.ownsRow.lt HO.out j hj).1)
  rw [List.nil_append] at o1
  obtain ⟨aQ_0, cQ_0, rfl, hc0, -, he⟩ := o1.form
  replace HO := Lib.hid o1
  replace HD := Lib.hid q1
  have HE := Lib.hid he
  have HC0 := Lib.hid hc0
  clear o1 g1 q1 he hc0
  clear HE HC0
  go_wp2_with (at_builtin; refine wpList_append_ents _ rfl _ _ rfl w4.heap.size _ lB rfl HO.out aA nA cA lA rfl HNA.out (HY1.out.on HD.out) HCA.out (by have := HSA.out; have := HSB.out; simp; omega) HD.out.size ?_; intro v w7 o1 g1; refine Hid.out ?_)
  refine Lib.hid ?_
  have q1 := HD.out.grown g1 HD.out.size (fun j hj => (World.ownsRow.lt HO.out j hj).1)
  obtain ⟨aQ_1, cQ_1, rfl, hc0, -, he⟩ := o1.form
  replace HO := Lib.hid o1
  replace HD := Lib.hid q1
  have HE := Lib.hid he
  have HC0 := Lib.hid hc0
  clear o1 g1 q1 he hc0
  obtain ⟨nQ, hnQ⟩ : ∃ n, n = (lB ++ lA).length := ⟨_, rfl⟩
  rw [← hnQ]
  have HNQ := Lib.hid hnQ
  have HLeQ : Hid ((lB ++ lA).length ≤ 9223372036854775807) := Lib.hid (by have := HSB.out; have := HSA.out; simp only [List.length_append]; omega)
  clear hnQ
  have hq := HD.out
  have he := HE.out
  clear HD HE HO HC0 HY0 HY1
  obtain ⟨m0, x0, x1, q0⟩ := HS6.out
  have HS8 : Hid (CAt w7 sb4 bm4 X ∧ EntsAt w7 aA lA ∧ EntsAt w7 aB lB ∧ EntsAt w7 aQ_1 (lB ++ lA) ∧ Below W.heap.size W w7) := Lib.hid ⟨m0.on hq, x0.on hq, x1.on hq, he, q0.trans (hq.mono q0.size)⟩
  clear m0 x0 x1 q0 HS6
  clear he hq
  obtain ⟨m0, x0, x1, x2, q0⟩ := HS8.out
  have HC9 := Lib.hid (cof_any aQ_1 cQ_1 (lB ++ lA) w7 x2 HLeQ.out nQ HNQ.out)
  clear m0 x0 x1 x2 q0
  go_wp2_with (go_at_call 24; refine HC9.out.mono ?_; rintro e w9 ⟨sb9, bm9, rfl, hm, hge, q⟩; refine Hid.out ?_)
  refine Lib.hid ?_
  rw [HEY.out] at hm
  obtain ⟨m0, x0, x1, x2, q0⟩ := HS8.out
  have HNE_0_1 : Hid (bm4 ≠ bm9) := Lib.hid (by have := m0.2.1.lt; omega)
  have HGE_1 : Hid (W.heap.size ≤ bm9) := Lib.hid (Nat.le_trans q0.size hge.2)
  clear m0 x0 x1 x2 q0
  obtain ⟨m0, x0, x1, x2, q0⟩ := HS8.out
  have HS10 : Hid (CAt w9 sb4 bm4 X ∧ CAt w9 sb9 bm9 X ∧ EntsAt w9 aA lA ∧ EntsAt w9 aB lB ∧ EntsAt w9 aQ_1 (lB ++ lA) ∧ Below W.heap.size W w9) := Lib.hid ⟨m0.on q, hm, x0.on q, x1.on q, x2.on q, q0.trans (q.mono q0.size)⟩
  clear m0 x0 x1 x2 q0 HS8
  clear hm hge q HC9
  obtain ⟨m0, m1, x0, x1, x2, q0⟩ := HS10.out
  have HS11 : Hid (CAt w9 sb4 bm4 X ∧ CAt w9 sb9 bm9 X ∧ EntsAt w9 aA lA ∧ EntsAt w9 aB lB ∧ Below W.heap.size W w9) := Lib.hid ⟨m0, m1, x0, x1, q0⟩
  clear m0 m1 x0 x1 x2 q0 HS10
  obtain ⟨m0, m1, x0, x1, q0⟩ := HS11.out
  have d0 := (Below.refl w9.heap.size w9).alloc (Nat.le_refl _) (.cells #[] 39)
  have HO := Lib.hid (OwnC.none w9 w9.heap.size (Nat.le_refl _))
  have HD := Lib.hid d0
  have HY0 := Lib.hid x0
  have HY1 := Lib.hid x1
  have HY2 := Lib.hid x0
  clear d0 m0 m1 x0 x1 q0
  go_wp2_with (at_builtin; refine wpList_append_ents _ rfl _ _ rfl w9.heap.size _ [] rfl HO.out aA nA cA lA rfl HNA.out (HY0.out.on HD.out) HCA.out (by have := HSA.out; simp; omega) HD.out.size ?_; intro v u12_0 o1 g1; refine Hid.out ?_)
  refine Lib.hid ?_
  have q1 := HD.out.grown g1 HD.out.size (fun j hj => (World.ownsRow.lt HO.out j hj).1)
  rw [List.nil_append] at o1
  obtain ⟨aR_0, cR_0, rfl, hc0, -, he⟩ := o1.form
  replace HO := Lib.hid o1
  replace HD := Lib.hid q1
  have HE := Lib.hid he
  have HC0 := Lib.hid hc0
  clear o1 g1 q1 he hc0
  clear HE HC0
  go_wp2_with (at_builtin; refine wpList_append_ents _ rfl _ _ rfl w9.heap.size _ lA rfl HO.out aB nB cB lB rfl HNB.out (HY1.out.on HD.out) HCB.out (by have := HSB.out; have := HSA.out; simp; omega) HD.out.size ?_; intro v u12_1 o1 g1; refine Hid.out ?_)
  refine Lib.hid ?_
  have q1 := HD.out.grown g1 HD.out.size (fun j hj => (World.ownsRow.lt HO.out j hj).1)
  obtain ⟨aR_1, cR_1, rfl, hc0, -, he⟩ := o1.form
  replace HO := Lib.hid o1
  replace HD := Lib.hid q1
  have HE := Lib.hid he
  have HC0 := Lib.hid hc0
  clear o1 g1 q1 he hc0
  clear HE HC0
  go_wp2_with (at_builtin; refine wpList_append_ents _ rfl _ _ rfl w9.heap.size _ (lA ++ lB) rfl HO.out aA nA cA lA rfl HNA.out (HY2.out.on HD.out) HCA.out (by have := HSA.out; have := HSA.out; have := HSB.out; simp; omega) HD.out.size ?_; intro v w12 o1 g1; refine Hid.out ?_)
  refine Lib.hid ?_
  have q1 := HD.out.grown g1 HD.out.size (fun j hj => (World.ownsRow.lt HO.out j hj).1)
  obtain ⟨aR_2, cR_2, rfl, hc0, -, he⟩ := o1.form
  replace HO := Lib.hid o1
  replace HD := Lib.hid q1
  have HE := Lib.hid he
  have HC0 := Lib.hid hc0
  clear o1 g1 q1 he hc0
  obtain ⟨nR, hnR⟩ : ∃ n, n = ((lA ++ lB) ++ lA).length := ⟨_, rfl⟩
  rw [← hnR]
  have HNR := Lib.hid hnR
  have HLeR : Hid (((lA ++ lB) ++ lA).length ≤ 9223372036854775807) := Lib.hid (by have := HSA.out; have := HSB.out; have := HSA.out; simp only [List.length_append]; omega)
  clear hnR
  have hq := HD.out
  have he := HE.out
  clear HD HE HO HC0 HY0 HY1 HY2
  obtain ⟨m0, m1, x0, x1, q0⟩ := HS11.out
  have HS13 : Hid (CAt w12 sb4 bm4 X ∧ CAt w12 sb9 bm9 X ∧ EntsAt w12 aA lA ∧ EntsAt w12 aB lB ∧ EntsAt w12 aR_2 ((lA ++ lB) ++ lA) ∧ Below W.heap.size W w12) := Lib.hid ⟨m0.on hq, m1.on hq, x0.on hq, x1.on hq, he, q0.trans (hq.mono q0.size)⟩
  clear m0 m1 x0 x1 q0 HS11
  clear he hq
  obtain ⟨m0, m1, x0, x1, x2, q0⟩ := HS13.out
  have HC14 := Lib.hid (cof_any aR_2 cR_2 ((lA ++ lB) ++ lA) w12 x2 HLeR.out nR HNR.out)
  clear m0 m1 x0 x1 x2 q0
  go_wp2_with (go_at_call 24; refine HC14.out.mono ?_; rintro e w14 ⟨sb14, bm14, rfl, hm, hge, q⟩; refine Hid.out ?_)
  refine Lib.hid ?_
  rw [HEZ.out] at hm
  obtain ⟨m0, m1, x0, x1, x2, q0⟩ := HS13.out
  have HNE_0_2 : Hid (bm4 ≠ bm14) := Lib.hid (by have := m0.2.1.lt; omega)
  have HNE_1_2 : Hid (bm9 ≠ bm14) := Lib.hid (by have := m1.2.1.lt; omega)
  have HGE_2 : Hid (W.heap.size ≤ bm14) := Lib.hid (Nat.le_trans q0.size hge.2)
  clear m0 m1 x0 x1 x2 q0
  obtain ⟨m0, m1, x0, x1, x2, q0⟩ := HS13.out
  have HS15 : Hid (CAt w14 sb4 bm4 X ∧ CAt w14 sb9 bm9 X ∧ CAt w14 sb14 bm14 X ∧ EntsAt w14 aA lA ∧ EntsAt w14 aB lB ∧ EntsAt w14 aR_2 ((lA ++ lB) ++ lA) ∧ Below W.heap.size W w14) := Lib.hid ⟨m0.on q, m1.on q, hm, x0.on q, x1.on q, x2.on q, q0.trans (q.mono q0.size)⟩
  clear m0 m1 x0 x1 x2 q0 HS13
  clear hm hge q HC14
  obtain ⟨m0, m1, m2, x0, x1, x2, q0⟩ := HS15.out
  have HS16 : Hid (CAt w14 sb4 bm4 X ∧ CAt w14 sb9 bm9 X ∧ CAt w14 sb14 bm14 X ∧ EntsAt w14 aA lA ∧ EntsAt w14 aB lB ∧ Below W.heap.size W w14) := Lib.hid ⟨m0, m1, m2, x0, x1, q0⟩
  clear m0 m1 m2 x0 x1 x2 q0 HS15
  go_wp2
  obtain ⟨i0, hi, hi0, hi1, hi2⟩ := info_parts infoEn
  go_loopw [8, 9] (fun v i wr => ∃ (k : Nat) (a5 : Option Addr) (n5 c5 : Nat), k ≤ nA ∧ i = .int .i64 ((k : Int) - 1) ∧ v = .slice a5 n5 c5 ∧ Hid (OwnC wr w14.heap.size (.slice a5 n5 c5) (lA.drop k).reverse) ∧ Hid (Below w14.heap.size w14 wr)) (fun _ i _ => (intOf i + 1).toNat)
  case atStart => exact ⟨nA, none, 0, 0, Nat.le_refl _, by go_num, rfl, Lib.hid (by rw [List.drop_of_length_le (by rw [HNA.out]; exact Nat.le_refl _)]; exact World.ownsRow_nil _ _ _ _), Lib.hid (Below.refl _ _)⟩
  case round =>
    obtain ⟨k, a5, n5, c5, hk, rfl, rfl, HL, HB⟩ := hrel
    by_cases hlt : 0 < k
    · obtain ⟨k, rfl⟩ : ∃ j, k = j + 1 := ⟨k - 1, by omega⟩
      have hkl : (0 : Int) ≤ ((k + 1 : Nat) : Int) - 1 := by omega
      have ek : (((k + 1 : Nat) : Int) - 1) = (k : Int) := by omega
      rw [ek] at hkl
      rw [ek]
      clear ek hlt
      have hkx : k < lA.length := by have := HNA.out; omega
      have hkn : k < nA := by omega
      have hki : (k : Int) < (nA : Int) := by omega
      obtain ⟨m0, m1, m2, x0, x1, q0⟩ := HS16.out
      obtain ⟨b, o, ea, hb, d0, d1, d2, d3, d4⟩ := (x0.on HB.out).cells k hkx
      have HT := Lib.hid (back_succ lA k hkx)
      have hown3 := HL.out
      obtain ⟨M, hM⟩ : ∃ M, M = (lA.drop (k + 1)).reverse := ⟨_, rfl⟩
      rw [← hM] at hown3 HT
      have hMl : M.length ≤ 250 := by rw [hM, List.length_reverse, List.length_drop]; have := HSA.out; omega
      have hwK : w14.heap.size ≤ wr.heap.size := HB.out.size
      generalize lA[k] = r0 at *
      clear m0 m1 m2 x0 x1 q0 hM HL hkx hb
      subst ea
      go_wp2_with (at_builtin; refine wpList_append_own _ rfl _ _ 22 rfl w14.heap.size 39 i0 _ 5 56 Try.underlying22 hi hi0 hi1 hi2 rfl (by decide) _ _ _ rfl (World.ownsRow.alloc hown3 _) ⟨_, 0, none⟩ 1 1 [.string r0.k, .int .i64 r0.t, .int .u16 r0.o, .string r0.v, .int .i64 r0.u] rfl rfl (World.news_of_block (cs := #[.string r0.k, .int .i64 r0.t, .int .u16 r0.o, .string r0.v, .int .i64 r0.u]) (newE _ _)) (by intro u' hu'; simp at hu'; rcases hu' with rfl | rfl | rfl | rfl | rfl <;> rfl) (by unfold maxLen; omega) (by omega) (by simp; omega) ?_; refine Hid.out ?_)
      refine Lib.hid ?_
      intro v5 w5 hown5 hg5 _
      have hA5 : OwnC w5 w14.heap.size v5 (lA.drop k).reverse := by rw [← HT.out]; exact OwnC.push hown5
      obtain ⟨a6, c6, rfl, -, -, -⟩ := hA5.form
      have HB5 : Hid (Below w14.heap.size w14 w5) := Lib.hid ((HB.out.alloc HB.out.size _).grown hg5 (by simp; omega) (fun j hj => (World.ownsRow.lt hown3 j hj).1))
      have HL5 := Lib.hid hA5
      clear hA5 hown5 hg5 hown3 hwK HB d0 d1 d2 d3 d4
      generalize (lA.drop k).reverse.length = n6 at *
      go_wp2
      go_roundw
      case rel => exact ⟨k, _, _, _, by omega, by go_num, rfl, HL5, HB5⟩
      case measure => simp [intOf]
    · obtain rfl : k = 0 := by omega
      have hkl : ¬ (0 : Int) ≤ ((0 : Nat) : Int) - 1 := by omega
      have ho := HL.out
      rw [List.drop_zero] at ho
      obtain ⟨aK, cK, ev, -, -, he⟩ := ho.form
      obtain ⟨rfl, rfl, rfl⟩ := Value.slice.inj ev
      obtain ⟨nK, hnK⟩ : ∃ n, n = lA.reverse.length := ⟨_, rfl⟩
      rw [← hnK]
      have HNK := Lib.hid hnK
      have HLeK : Hid (lA.reverse.length ≤ 9223372036854775807) := Lib.hid (by rw [List.length_reverse]; exact HLA.out)
      have q := HB.out
      clear hnK ev ho HL HB hlt
      obtain ⟨m0, m1, m2, x0, x1, q0⟩ := HS16.out
      have HS17 : Hid (CAt wr sb4 bm4 X ∧ CAt wr sb9 bm9 X ∧ CAt wr sb14 bm14 X ∧ EntsAt wr aA lA ∧ EntsAt wr aB lB ∧ EntsAt wr a5 lA.reverse ∧ Below W.heap.size W wr) := Lib.hid ⟨m0.on q, m1.on q, m2.on q, x0.on q, x1.on q, he, q0.trans (q.mono q0.size)⟩
      clear m0 m1 m2 x0 x1 q0 HS16
      clear q he
      obtain ⟨m0, m1, m2, x0, x1, x2, q0⟩ := HS17.out
      have HFkS : Hid (∀ y ∈ X, y.k.size ≤ 9223372036854775807) := Lib.hid (fun y hy => by have := checkEn_zero (m0.2.2.1 y hy); omega)
      clear m0 m1 m2 x0 x1 x2 q0
      obtain ⟨m0, m1, m2, x0, x1, x2, q0⟩ := HS17.out
      have HC18 := Lib.hid (cList_any sb4 bm4 X wr m0)
      have HL18 := Lib.hid m0.2.2.2
      clear m0 m1 m2 x0 x1 x2 q0
      go_wp2_with (go_at_call 19; refine HC18.out.mono ?_; rintro e w18 ⟨v, rfl, ho, q⟩; refine Hid.out ?_)
      refine Lib.hid ?_
      obtain ⟨aS, cS, rfl, -, -, he⟩ := ho.form
      obtain ⟨nS, hnS⟩ : ∃ n, n = (X).length := ⟨_, rfl⟩
      rw [← hnS]
      have HNS := Lib.hid hnS
      have HLeS : Hid ((X).length ≤ 9223372036854775807) := Lib.hid (by have := HL18.out; omega)
      clear hnS
      obtain ⟨m0, m1, m2, x0, x1, x2, q0⟩ := HS17.out
      have HS19 : Hid (CAt w18 sb4 bm4 X ∧ CAt w18 sb9 bm9 X ∧ CAt w18 sb14 bm14 X ∧ EntsAt w18 aA lA ∧ EntsAt w18 aB lB ∧ EntsAt w18 a5 lA.reverse ∧ EntsAt w18 aS X ∧ Below W.heap.size W w18) := Lib.hid ⟨m0.on q, m1.on q, m2.on q, x0.on q, x1.on q, x2.on q, he, q0.trans (q.mono q0.size)⟩
      clear m0 m1 m2 x0 x1 x2 q0 HS17
      clear he q ho HC18 HL18
      obtain ⟨m0, m1, m2, x0, x1, x2, x3, q0⟩ := HS19.out
      have HFkT : Hid (∀ y ∈ X, y.k.size ≤ 9223372036854775807) := Lib.hid (fun y hy => by have := checkEn_zero (m1.2.2.1 y hy); omega)
      clear m0 m1 m2 x0 x1 x2 x3 q0
      obtain ⟨m0, m1, m2, x0, x1, x2, x3, q0⟩ := HS19.out
      have HC20 := Lib.hid (cList_any sb9 bm9 X w18 m1)
      have HL20 := Lib.hid m1.2.2.2
      clear m0 m1 m2 x0 x1 x2 x3 q0
      go_wp2_with (go_at_call 19; refine HC20.out.mono ?_; rintro e w20 ⟨v, rfl, ho, q⟩; refine Hid.out ?_)
      refine Lib.hid ?_
      obtain ⟨aT, cT, rfl, -, -, he⟩ := ho.form
      obtain ⟨nT, hnT⟩ : ∃ n, n = (X).length := ⟨_, rfl⟩
      rw [← hnT]
      have HNT := Lib.hid hnT
      have HLeT : Hid ((X).length ≤ 9223372036854775807) := Lib.hid (by have := HL20.out; omega)
      clear hnT
      obtain ⟨m0, m1, m2, x0, x1, x2, x3, q0⟩ := HS19.out
      have HS21 : Hid (CAt w20 sb4 bm4 X ∧ CAt w20 sb9 bm9 X ∧ CAt w20 sb14 bm14 X ∧ EntsAt w20 aA lA ∧ EntsAt w20 aB lB ∧ EntsAt w20 a5 lA.reverse ∧ EntsAt w20 aS X ∧ EntsAt w20 aT X ∧ Below W.heap.size W w20) := Lib.hid ⟨m0.on q, m1.on q, m2.on q, x0.on q, x1.on q, x2.on q, x3.on q, he, q0.trans (q.mono q0.size)⟩
      clear m0 m1 m2 x0 x1 x2 x3 q0 HS19
      clear he q ho HC20 HL20
      obtain ⟨m0, m1, m2, x0, x1, x2, x3, x4, q0⟩ := HS21.out
      have HC22 := Lib.hid (cSame_any aS aT cS cT X X w20 x3 x4 HLeS.out nS nT HNS.out HNT.out)
      rw [sameC_refl] at HC22
      clear m0 m1 m2 x0 x1 x2 x3 x4 q0
      go_wp2_with (go_at_call 25; refine HC22.out.mono ?_; rintro e w22 ⟨rfl, q⟩; refine Hid.out ?_)
      refine Lib.hid ?_
      obtain ⟨m0, m1, m2, x0, x1, x2, x3, x4, q0⟩ := HS21.out
      have HS23 : Hid (CAt w22 sb4 bm4 X ∧ CAt w22 sb9 bm9 X ∧ CAt w22 sb14 bm14 X ∧ EntsAt w22 aA lA ∧ EntsAt w22 aB lB ∧ EntsAt w22 a5 lA.reverse ∧ EntsAt w22 aS X ∧ EntsAt w22 aT X ∧ Below W.heap.size W w22) := Lib.hid ⟨m0.on q, m1.on q, m2.on q, x0.on q, x1.on q, x2.on q, x3.on q, x4.on q, q0.trans (q.mono q0.size)⟩
      clear m0 m1 m2 x0 x1 x2 x3 x4 q0 HS21
      clear q HC22
      obtain ⟨m0, m1, m2, x0, x1, x2, x3, x4, q0⟩ := HS23.out
      have HS24 : Hid (CAt w22 sb4 bm4 X ∧ CAt w22 sb9 bm9 X ∧ CAt w22 sb14 bm14 X ∧ EntsAt w22 aA lA ∧ EntsAt w22 aB lB ∧ EntsAt w22 a5 lA.reverse ∧ Below W.heap.size W w22) := Lib.hid ⟨m0, m1, m2, x0, x1, x2, q0⟩
      clear m0 m1 m2 x0 x1 x2 x3 x4 q0 HS23
      obtain ⟨m0, m1, m2, x0, x1, x2, q0⟩ := HS24.out
      have HFkU : Hid (∀ y ∈ X, y.k.size ≤ 9223372036854775807) := Lib.hid (fun y hy => by have := checkEn_zero (m0.2.2.1 y hy); omega)
      clear m0 m1 m2 x0 x1 x2 q0
      obtain ⟨m0, m1, m2, x0, x1, x2, q0⟩ := HS24.out
      have HC25 := Lib.hid (cList_any sb4 bm4 X w22 m0)
      have HL25 := Lib.hid m0.2.2.2
      clear m0 m1 m2 x0 x1 x2 q0
      go_wp2_with (go_at_call 19; refine HC25.out.mono ?_; rintro e w25 ⟨v, rfl, ho, q⟩; refine Hid.out ?_)
      refine Lib.hid ?_
      obtain ⟨aU, cU, rfl, -, -, he⟩ := ho.form
      obtain ⟨nU, hnU⟩ : ∃ n, n = (X).length := ⟨_, rfl⟩
      rw [← hnU]
      have HNU := Lib.hid hnU
      have HLeU : Hid ((X).length ≤ 9223372036854775807) := Lib.hid (by have := HL25.out; omega)
      clear hnU
      obtain ⟨m0, m1, m2, x0, x1, x2, q0⟩ := HS24.out
      have HS26 : Hid (CAt w25 sb4 bm4 X ∧ CAt w25 sb9 bm9 X ∧ CAt w25 sb14 bm14 X ∧ EntsAt w25 aA lA ∧ EntsAt w25 aB lB ∧ EntsAt w25 a5 lA.reverse ∧ EntsAt w25 aU X ∧ Below W.heap.size W w25) := Lib.hid ⟨m0.on q, m1.on q, m2.on q, x0.on q, x1.on q, x2.on q, he, q0.trans (q.mono q0.size)⟩
      clear m0 m1 m2 x0 x1 x2 q0 HS24
      clear he q ho HC25 HL25
      obtain ⟨m0, m1, m2, x0, x1, x2, x3, q0⟩ := HS26.out
      have HFkV : Hid (∀ y ∈ X, y.k.size ≤ 9223372036854775807) := Lib.hid (fun y hy => by have := checkEn_zero (m2.2.2.1 y hy); omega)
      clear m0 m1 m2 x0 x1 x2 x3 q0
      obtain ⟨m0, m1, m2, x0, x1, x2, x3, q0⟩ := HS26.out
      have HC27 := Lib.hid (cList_any sb14 bm14 X w25 m2)
      have HL27 := Lib.hid m2.2.2.2
      clear m0 m1 m2 x0 x1 x2 x3 q0
      go_wp2_with (go_at_call 19; refine HC27.out.mono ?_; rintro e w27 ⟨v, rfl, ho, q⟩; refine Hid.out ?_)
      refine Lib.hid ?_
      obtain ⟨aV, cV, rfl, -, -, he⟩ := ho.form
      obtain ⟨nV, hnV⟩ : ∃ n, n = (X).length := ⟨_, rfl⟩
      rw [← hnV]
      have HNV := Lib.hid hnV
      have HLeV : Hid ((X).length ≤ 9223372036854775807) := Lib.hid (by have := HL27.out; omega)
      clear hnV
      obtain ⟨m0, m1, m2, x0, x1, x2, x3, q0⟩ := HS26.out
      have HS28 : Hid (CAt w27 sb4 bm4 X ∧ CAt w27 sb9 bm9 X ∧ CAt w27 sb14 bm14 X ∧ EntsAt w27 aA lA ∧ EntsAt w27 aB lB ∧ EntsAt w27 a5 lA.reverse ∧ EntsAt w27 aU X ∧ EntsAt w27 aV X ∧ Below W.heap.size W w27) := Lib.hid ⟨m0.on q, m1.on q, m2.on q, x0.on q, x1.on q, x2.on q, x3.on q, he, q0.trans (q.mono q0.size)⟩
      clear m0 m1 m2 x0 x1 x2 x3 q0 HS26
      clear he q ho HC27 HL27
      obtain ⟨m0, m1, m2, x0, x1, x2, x3, x4, q0⟩ := HS28.out
      have HC29 := Lib.hid (cSame_any aU aV cU cV X X w27 x3 x4 HLeU.out nU nV HNU.out HNV.out)
      rw [sameC_refl] at HC29
      clear m0 m1 m2 x0 x1 x2 x3 x4 q0
      go_wp2_with (go_at_call 25; refine HC29.out.mono ?_; rintro e w29 ⟨rfl, q⟩; refine Hid.out ?_)
      refine Lib.hid ?_
      obtain ⟨m0, m1, m2, x0, x1, x2, x3, x4, q0⟩ := HS28.out
      have HS30 : Hid (CAt w29 sb4 bm4 X ∧ CAt w29 sb9 bm9 X ∧ CAt w29 sb14 bm14 X ∧ EntsAt w29 aA lA ∧ EntsAt w29 aB lB ∧ EntsAt w29 a5 lA.reverse ∧ EntsAt w29 aU X ∧ EntsAt w29 aV X ∧ Below W.heap.size W w29) := Lib.hid ⟨m0.on q, m1.on q, m2.on q, x0.on q, x1.on q, x2.on q, x3.on q, x4.on q, q0.trans (q.mono q0.size)⟩
      clear m0 m1 m2 x0 x1 x2 x3 x4 q0 HS28
      clear q HC29
      obtain ⟨m0, m1, m2, x0, x1, x2, x3, x4, q0⟩ := HS30.out
      have HS31 : Hid (CAt w29 sb4 bm4 X ∧ CAt w29 sb9 bm9 X ∧ CAt w29 sb14 bm14 X ∧ EntsAt w29 aA lA ∧ EntsAt w29 aB lB ∧ EntsAt w29 a5 lA.reverse ∧ Below W.heap.size W w29) := Lib.hid ⟨m0, m1, m2, x0, x1, x2, q0⟩
      clear m0 m1 m2 x0 x1 x2 x3 x4 q0 HS30
      obtain ⟨m0, m1, m2, x0, x1, x2, q0⟩ := HS31.out
      have HC32 := Lib.hid (cof_any aA cA lA w29 x0 HLA.out nA HNA.out)
      clear m0 m1 m2 x0 x1 x2 q0
      go_wp2_with (go_at_call 24; refine HC32.out.mono ?_; rintro e w32 ⟨sb32, bm32, rfl, hm, hge, q⟩; refine Hid.out ?_)
      refine Lib.hid ?_
      rw [HEA.out] at hm
      obtain ⟨m0, m1, m2, x0, x1, x2, q0⟩ := HS31.out
      have HNE_0_3 : Hid (bm4 ≠ bm32) := Lib.hid (by have := m0.2.1.lt; omega)
      have HNE_1_3 : Hid (bm9 ≠ bm32) := Lib.hid (by have := m1.2.1.lt; omega)
      have HNE_2_3 : Hid (bm14 ≠ bm32) := Lib.hid (by have := m2.2.1.lt; omega)
      have HGE_3 : Hid (W.heap.size ≤ bm32) := Lib.hid (Nat.le_trans q0.size hge.2)
      clear m0 m1 m2 x0 x1 x2 q0
      obtain ⟨m0, m1, m2, x0, x1, x2, q0⟩ := HS31.out
      have HS33 : Hid (CAt w32 sb4 bm4 X ∧ CAt w32 sb9 bm9 X ∧ CAt w32 sb14 bm14 X ∧ CAt w32 sb32 bm32 A1 ∧ EntsAt w32 aA lA ∧ EntsAt w32 aB lB ∧ EntsAt w32 a5 lA.reverse ∧ Below W.heap.size W w32) := Lib.hid ⟨m0.on q, m1.on q, m2.on q, hm, x0.on q, x1.on q, x2.on q, q0.trans (q.mono q0.size)⟩
      clear m0 m1 m2 x0 x1 x2 q0 HS31
      clear hm hge q HC32
      obtain ⟨m0, m1, m2, m3, x0, x1, x2, q0⟩ := HS33.out
      have HFkX : Hid (∀ y ∈ A1, y.k.size ≤ 9223372036854775807) := Lib.hid (fun y hy => by have := checkEn_zero (m3.2.2.1 y hy); omega)
      clear m0 m1 m2 m3 x0 x1 x2 q0
      obtain ⟨m0, m1, m2, m3, x0, x1, x2, q0⟩ := HS33.out
      have HC34 := Lib.hid (cList_any sb32 bm32 A1 w32 m3)
      have HL34 := Lib.hid m3.2.2.2
      clear m0 m1 m2 m3 x0 x1 x2 q0
      go_wp2_with (go_at_call 19; refine HC34.out.mono ?_; rintro e w34 ⟨v, rfl, ho, q⟩; refine Hid.out ?_)
      refine Lib.hid ?_
      obtain ⟨aX, cX, rfl, -, -, he⟩ := ho.form
      obtain ⟨nX, hnX⟩ : ∃ n, n = (A1).length := ⟨_, rfl⟩
      rw [← hnX]
      have HNX := Lib.hid hnX
      have HLeX : Hid ((A1).length ≤ 9223372036854775807) := Lib.hid (by have := HL34.out; omega)
      clear hnX
      obtain ⟨m0, m1, m2, m3, x0, x1, x2, q0⟩ := HS33.out
      have HS35 : Hid (CAt w34 sb4 bm4 X ∧ CAt w34 sb9 bm9 X ∧ CAt w34 sb14 bm14 X ∧ CAt w34 sb32 bm32 A1 ∧ EntsAt w34 aA lA ∧ EntsAt w34 aB lB ∧ EntsAt w34 a5 lA.reverse ∧ EntsAt w34 aX A1 ∧ Below W.heap.size W w34) := Lib.hid ⟨m0.on q, m1.on q, m2.on q, m3.on q, x0.on q, x1.on q, x2.on q, he, q0.trans (q.mono q0.size)⟩
      clear m0 m1 m2 m3 x0 x1 x2 q0 HS33
      clear he q ho HC34 HL34
      obtain ⟨m0, m1, m2, m3, x0, x1, x2, x3, q0⟩ := HS35.out
      have HC36 := Lib.hid (cof_any a5 c5 lA.reverse w34 x2 HLeK.out nK HNK.out)
      clear m0 m1 m2 m3 x0 x1 x2 x3 q0
      go_wp2_with (go_at_call 24; refine HC36.out.mono ?_; rintro e w36 ⟨sb36, bm36, rfl, hm, hge, q⟩; refine Hid.out ?_)
      refine Lib.hid ?_
      rw [HEB.out] at hm
      obtain ⟨m0, m1, m2, m3, x0, x1, x2, x3, q0⟩ := HS35.out
      have HNE_0_4 : Hid (bm4 ≠ bm36) := Lib.hid (by have := m0.2.1.lt; omega)
      have HNE_1_4 : Hid (bm9 ≠ bm36) := Lib.hid (by have := m1.2.1.lt; omega)
      have HNE_2_4 : Hid (bm14 ≠ bm36) := Lib.hid (by have := m2.2.1.lt; omega)
      have HNE_3_4 : Hid (bm32 ≠ bm36) := Lib.hid (by have := m3.2.1.lt; omega)
      have HGE_4 : Hid (W.heap.size ≤ bm36) := Lib.hid (Nat.le_trans q0.size hge.2)
      clear m0 m1 m2 m3 x0 x1 x2 x3 q0
      obtain ⟨m0, m1, m2, m3, x0, x1, x2, x3, q0⟩ := HS35.out
      have HS37 : Hid (CAt w36 sb4 bm4 X ∧ CAt w36 sb9 bm9 X ∧ CAt w36 sb14 bm14 X ∧ CAt w36 sb32 bm32 A1 ∧ CAt w36 sb36 bm36 A1 ∧ EntsAt w36 aA lA ∧ EntsAt w36 aB lB ∧ EntsAt w36 a5 lA.reverse ∧ EntsAt w36 aX A1 ∧ Below W.heap.size W w36) := Lib.hid ⟨m0.on q, m1.on q, m2.on q, m3.on q, hm, x0.on q, x1.on q, x2.on q, x3.on q, q0.trans (q.mono q0.size)⟩
      clear m0 m1 m2 m3 x0 x1 x2 x3 q0 HS35
      clear hm hge q HC36
      obtain ⟨m0, m1, m2, m3, m4, x0, x1, x2, x3, q0⟩ := HS37.out
      have HFkY : Hid (∀ y ∈ A1, y.k.size ≤ 9223372036854775807) := Lib.hid (fun y hy => by have := checkEn_zero (m4.2.2.1 y hy); omega)
      clear m0 m1 m2 m3 m4 x0 x1 x2 x3 q0
      obtain ⟨m0, m1, m2, m3, m4, x0, x1, x2, x3, q0⟩ := HS37.out
      have HC38 := Lib.hid (cList_any sb36 bm36 A1 w36 m4)
      have HL38 := Lib.hid m4.2.2.2
      clear m0 m1 m2 m3 m4 x0 x1 x2 x3 q0
      go_wp2_with (go_at_call 19; refine HC38.out.mono ?_; rintro e w38 ⟨v, rfl, ho, q⟩; refine Hid.out ?_)
      refine Lib.hid ?_
      obtain ⟨aY, cY, rfl, -, -, he⟩ := ho.form
      obtain ⟨nY, hnY⟩ : ∃ n, n = (A1).length := ⟨_, rfl⟩
      rw [← hnY]
      have HNY := Lib.hid hnY
      have HLeY : Hid ((A1).length ≤ 9223372036854775807) := Lib.hid (by have := HL38.out; omega)
      clear hnY
      obtain ⟨m0, m1, m2, m3, m4, x0, x1, x2, x3, q0⟩ := HS37.out
      have HS39 : Hid (CAt w38 sb4 bm4 X ∧ CAt w38 sb9 bm9 X ∧ CAt w38 sb14 bm14 X ∧ CAt w38 sb32 bm32 A1 ∧ CAt w38 sb36 bm36 A1 ∧ EntsAt w38 aA lA ∧ EntsAt w38 aB lB ∧ EntsAt w38 a5 lA.reverse ∧ EntsAt w38 aX A1 ∧ EntsAt w38 aY A1 ∧ Below W.heap.size W w38) := Lib.hid ⟨m0.on q, m1.on q, m2.on q, m3.on q, m4.on q, x0.on q, x1.on q, x2.on q, x3.on q, he, q0.trans (q.mono q0.size)⟩
      clear m0 m1 m2 m3 m4 x0 x1 x2 x3 q0 HS37
      clear he q ho HC38 HL38
      obtain ⟨m0, m1, m2, m3, m4, x0, x1, x2, x3, x4, q0⟩ := HS39.out
      have HC40 := Lib.hid (cSame_any aX aY cX cY A1 A1 w38 x3 x4 HLeX.out nX nY HNX.out HNY.out)
      rw [sameC_refl] at HC40
      clear m0 m1 m2 m3 m4 x0 x1 x2 x3 x4 q0
      go_wp2_with (go_at_call 25; refine HC40.out.mono ?_; rintro e w40 ⟨rfl, q⟩; refine Hid.out ?_)
      refine Lib.hid ?_
      obtain ⟨m0, m1, m2, m3, m4, x0, x1, x2, x3, x4, q0⟩ := HS39.out
      have HS41 : Hid (CAt w40 sb4 bm4 X ∧ CAt w40 sb9 bm9 X ∧ CAt w40 sb14 bm14 X ∧ CAt w40 sb32 bm32 A1 ∧ CAt w40 sb36 bm36 A1 ∧ EntsAt w40 aA lA ∧ EntsAt w40 aB lB ∧ EntsAt w40 a5 lA.reverse ∧ EntsAt w40 aX A1 ∧ EntsAt w40 aY A1 ∧ Below W.heap.size W w40) := Lib.hid ⟨m0.on q, m1.on q, m2.on q, m3.on q, m4.on q, x0.on q, x1.on q, x2.on q, x3.on q, x4.on q, q0.trans (q.mono q0.size)⟩
      clear m0 m1 m2 m3 m4 x0 x1 x2 x3 x4 q0 HS39
      clear q HC40
      obtain ⟨m0, m1, m2, m3, m4, x0, x1, x2, x3, x4, q0⟩ := HS41.out
      have HS42 : Hid (CAt w40 sb4 bm4 X ∧ CAt w40 sb9 bm9 X ∧ CAt w40 sb14 bm14 X ∧ CAt w40 sb32 bm32 A1 ∧ CAt w40 sb36 bm36 A1 ∧ EntsAt w40 aA lA ∧ EntsAt w40 aB lB ∧ Below W.heap.size W w40) := Lib.hid ⟨m0, m1, m2, m3, m4, x0, x1, q0⟩
      clear m0 m1 m2 m3 m4 x0 x1 x2 x3 x4 q0 HS41
      obtain ⟨m0, m1, m2, m3, m4, x0, x1, q0⟩ := HS42.out
      have HFkZ : Hid (∀ y ∈ X, y.k.size ≤ 9223372036854775807) := Lib.hid (fun y hy => by have := checkEn_zero (m0.2.2.1 y hy); omega)
      clear m0 m1 m2 m3 m4 x0 x1 q0
      obtain ⟨m0, m1, m2, m3, m4, x0, x1, q0⟩ := HS42.out
      have HC43 := Lib.hid (cList_any sb4 bm4 X w40 m0)
      have HL43 := Lib.hid m0.2.2.2
      clear m0 m1 m2 m3 m4 x0 x1 q0
      go_wp2_with (go_at_call 19; refine HC43.out.mono ?_; rintro e w43 ⟨v, rfl, ho, q⟩; refine Hid.out ?_)
      refine Lib.hid ?_
      obtain ⟨aZ, cZ, rfl, -, -, he⟩ := ho.form
      obtain ⟨nZ, hnZ⟩ : ∃ n, n = (X).length := ⟨_, rfl⟩
      rw [← hnZ]
      have HNZ := Lib.hid hnZ
      have HLeZ : Hid ((X).length ≤ 9223372036854775807) := Lib.hid (by have := HL43.out; omega)
      clear hnZ
      obtain ⟨m0, m1, m2, m3, m4, x0, x1, q0⟩ := HS42.out
      have HS44 : Hid (CAt w43 sb4 bm4 X ∧ CAt w43 sb9 bm9 X ∧ CAt w43 sb14 bm14 X ∧ CAt w43 sb32 bm32 A1 ∧ CAt w43 sb36 bm36 A1 ∧ EntsAt w43 aA lA ∧ EntsAt w43 aB lB ∧ EntsAt w43 aZ X ∧ Below W.heap.size W w43) := Lib.hid ⟨m0.on q, m1.on q, m2.on q, m3.on q, m4.on q, x0.on q, x1.on q, he, q0.trans (q.mono q0.size)⟩
      clear m0 m1 m2 m3 m4 x0 x1 q0 HS42
      clear he q ho HC43 HL43
      obtain ⟨m0, m1, m2, m3, m4, x0, x1, x2, q0⟩ := HS44.out
      have HC45 := Lib.hid (cMerge_any sb14 bm14 X aZ cZ X w43 m2 x2 HLeZ.out nZ HNZ.out)
      clear m0 m1 m2 m3 m4 x0 x1 x2 q0
      rw [HP4.out] at HC45
      go_wp2_with (go_at_call 12; refine HC45.out.mono ?_; rintro e w45 ⟨rfl, hm, hg⟩; refine Hid.out ?_)
      refine Lib.hid ?_
      rw [HP5.out] at hm
      obtain ⟨m0, m1, m2, m3, m4, x0, x1, x2, q0⟩ := HS44.out
      have HS46 : Hid (CAt w45 sb4 bm4 X ∧ CAt w45 sb9 bm9 X ∧ CAt w45 sb14 bm14 X ∧ CAt w45 sb32 bm32 A1 ∧ CAt w45 sb36 bm36 A1 ∧ EntsAt w45 aA lA ∧ EntsAt w45 aB lB ∧ EntsAt w45 aZ X ∧ Below W.heap.size W w45) := Lib.hid ⟨m0.apart2 m2.2.1 hg (HNE_0_2.out), m1.apart2 m2.2.1 hg (HNE_1_2.out), hm, m3.apart2 m2.2.1 hg (fun e => HNE_2_3.out e.symm), m4.apart2 m2.2.1 hg (fun e => HNE_2_4.out e.symm), x0.turn hg m2.2.1, x1.turn hg m2.2.1, x2.turn hg m2.2.1, q0.grown hg q0.size (fun j hj => by cases hj; exact HGE_2.out)⟩
      clear m0 m1 m2 m3 m4 x0 x1 x2 q0 HS44
      clear hm hg HC45
      go_wp2_with (go_at_call 10; refine (cawake_any _).mono ?_; rintro e w47 ⟨rfl, q⟩)
      obtain ⟨m0, m1, m2, m3, m4, x0, x1, x2, q0⟩ := HS46.out
      go_ret
      exact ⟨rfl, q0.trans (q.mono q0.size)⟩

end Go.Proofs.Ytjkhonelidhakab
