/-
  The walk of CrdtDelta.
-/
import Derived.Test.YtjkhonelidhakabC8
namespace Go.Proofs.Ytjkhonelidhakab
open Go.RowKit Go.Maps

set_option maxRecDepth 100000 in
set_option maxHeartbeats 8000000 in
theorem delta_walk (aA : Option Addr) (cA : Nat) (lA : List Ent) (aB : Option Addr) (cB : Nat) (lB : List Ent) (W : World) (heA : EntsAt W aA lA) (heB : EntsAt W aB lB) (hcA : aA = none → cA = 0) (hcB : aB = none → cB = 0) (nA nB : Nat) (hA : nA = lA.length) (hB : nB = lB.length) :
    Calls Try.prog 6 #[.slice aA nA cA, .slice aB nB cB] W fun e w' => e = .returned (.bool true) ∧ Below W.heap.size W w' := by
  by_cases h1 : 120 < nA
  · have g1 : (120 : Int) < (nA : Int) := by omega
    go_enter Try.func6, Try.ntmps6
    go_wp2_with (go_at_call 10; refine (cawake_any _).mono ?_; rintro e w1 ⟨rfl, q⟩)
    go_ret
    exact ⟨rfl, q⟩
  by_cases h2 : 120 < nB
  · have g1 : ¬ (120 : Int) < (nA : Int) := by omega
    have g2 : (120 : Int) < (nB : Int) := by omega
    go_enter Try.func6, Try.ntmps6
    go_wp2_with (go_at_call 10; refine (cawake_any _).mono ?_; rintro e w1 ⟨rfl, q⟩)
    go_ret
    exact ⟨rfl, q⟩
  have g1 : ¬ (120 : Int) < (nA : Int) := by omega
  have g2 : ¬ (120 : Int) < (nB : Int) := by omega
  have hp := delta_pure lA lB (by omega) (by omega)
  have HNA := Lib.hid hA
  have HNB := Lib.hid hB
  have HLA : Hid (lA.length ≤ 9223372036854775807) := Lib.hid (by omega)
  have HLB : Hid (lB.length ≤ 9223372036854775807) := Lib.hid (by omega)
  have HSA : Hid (lA.length ≤ 120) := Lib.hid (by omega)
  have HSB : Hid (lB.length ≤ 120) := Lib.hid (by omega)
  have HCA := Lib.hid hcA
  have HCB := Lib.hid hcB
  clear h1 h2 hA hB hcA hcB
  obtain ⟨X, eX⟩ : ∃ S, mergeS [] lA = S := ⟨_, rfl⟩
  obtain ⟨Y, eY⟩ : ∃ S, mergeS [] lB = S := ⟨_, rfl⟩
  obtain ⟨Z, eZ⟩ : ∃ S, mergeS [] (lA ++ lB) = S := ⟨_, rfl⟩
  rw [eX, eY, eZ] at hp
  obtain ⟨xs, exs⟩ : ∃ S, deltaS X Y = S := ⟨_, rfl⟩
  obtain ⟨ys, eys⟩ : ∃ S, deltaS Y X = S := ⟨_, rfl⟩
  rw [exs, eys] at hp
  obtain ⟨p1, p2, p3, p4⟩ := hp
  have HEX := Lib.hid eX; have HEY := Lib.hid eY; have HEZ := Lib.hid eZ; have HXS := Lib.hid exs; have HYS := Lib.hid eys
  have HP1 := Lib.hid p1; have HP2 := Lib.hid p2; have HP3 := Lib.hid p3; have HP4 := Lib.hid p4
  have HP5 := Lib.hid (deltaS_self Z)
  clear eX eY eZ exs eys p1 p2 p3 p4
  have HS1 : Hid (EntsAt W aA lA ∧ EntsAt W aB lB ∧ Below W.heap.size W W) := Lib.hid ⟨heA, heB, Below.refl _ _⟩
  clear heA heB
  go_enter Try.func6, Try.ntmps6
  obtain ⟨x0, x1, q0⟩ := HS1.out
  have HC2 := Lib.hid (cof_any aA cA lA W x0 HLA.out nA HNA.out)
  clear x0 x1 q0
  go_wp2_with (go_at_call 24; refine HC2.out.mono ?_; rintro e w2 ⟨sb2, bm2, rfl, hm, hge, q⟩; refine Hid.out ?_)
  refine Lib.hid ?_
  rw [HEX.out] at hm
  obtain ⟨x0, x1, q0⟩ := HS1.out
  have HGE_0 : Hid (W.heap.size ≤ bm2) := Lib.hid (Nat.le_trans q0.size hge.2)
  clear x0 x1 q0
  obtain ⟨x0, x1, q0⟩ := HS1.out
  have HS3 : Hid (CAt w2 sb2 bm2 X ∧ EntsAt w2 aA lA ∧ EntsAt w2 aB lB ∧ Below W.heap.size W w2) := Lib.hid ⟨hm, x0.on q, x1.on q, q0.trans (q.mono q0.size)⟩
  clear x0 x1 q0 HS1
  clear hm hge q HC2
  obtain ⟨m0, x0, x1, q0⟩ := HS3.out
  have HC4 := Lib.hid (cof_any aB cB lB w2 x1 HLB.out nB HNB.out)
  clear m0 x0 x1 q0
  go_wp2_with (go_at_call 24; refine HC4.out.mono ?_; rintro e w4 ⟨sb4, bm4, rfl, hm, hge, q⟩; refine Hid.out ?_)
  refine Lib.hid ?_
  rw [HEY.out] at hm
  obtain ⟨m0, x0, x1, q0⟩ := HS3.out
  have HNE_0_1 : Hid (bm2 ≠ bm4) := Lib.hid (by have := m0.2.1.lt; omega)
  have HGE_1 : Hid (W.heap.size ≤ bm4) := Lib.hid (Nat.le_trans q0.size hge.2)
  clear m0 x0 x1 q0
  obtain ⟨m0, x0, x1, q0⟩ := HS3.out
  have HS5 : Hid (CAt w4 sb2 bm2 X ∧ CAt w4 sb4 bm4 Y ∧ EntsAt w4 aA lA ∧ EntsAt w4 aB lB ∧ Below W.heap.size W w4) := Lib.hid ⟨m0.on q, hm, x0.on q, x1.on q, q0.trans (q.mono q0.size)⟩
  clear m0 x0 x1 q0 HS3
  clear hm hge q HC4
  obtain ⟨m0, m1, x0, x1, q0⟩ := HS5.out
  have HFkP : Hid (∀ y ∈ Y, y.k.size ≤ 9223372036854775807) := Lib.hid (fun y hy => by have := checkEn_zero (m1.2.2.1 y hy); omega)
  clear m0 m1 x0 x1 q0
  obtain ⟨m0, m1, x0, x1, q0⟩ := HS5.out
  have HC6 := Lib.hid (cList_any sb4 bm4 Y w4 m1)
  have HL6 := Lib.hid m1.2.2.2
  clear m0 m1 x0 x1 q0
  go_wp2_with (go_at_call 19; refine HC6.out.mono ?_; rintro e w6 ⟨v, rfl, ho, q⟩; refine Hid.out ?_)
  refine Lib.hid ?_
  obtain ⟨aP, cP, rfl, -, -, he⟩ := ho.form
  obtain ⟨nP, hnP⟩ : ∃ n, n = (Y).length := ⟨_, rfl⟩
  rw [← hnP]
  have HNP := Lib.hid hnP
  have HLeP : Hid ((Y).length ≤ 9223372036854775807) := Lib.hid (by have := HL6.out; omega)
  clear hnP
  obtain ⟨m0, m1, x0, x1, q0⟩ := HS5.out
  have HS7 : Hid (CAt w6 sb2 bm2 X ∧ CAt w6 sb4 bm4 Y ∧ EntsAt w6 aA lA ∧ EntsAt w6 aB lB ∧ EntsAt w6 aP Y ∧ Below W.heap.size W w6) := Lib.hid ⟨m0.on q, m1.on q, x0.on q, x1.on q, he, q0.trans (q.mono q0.size)⟩
  clear m0 m1 x0 x1 q0 HS5
  clear he q ho HC6 HL6
  obtain ⟨m0, m1, x0, x1, x2, q0⟩ := HS7.out
  have HC8 := Lib.hid (cDelta_any sb2 bm2 X aP cP Y w6 m0 x2 HFkP.out HLeP.out nP HNP.out)
  rw [HXS.out] at HC8
  have HL8 : Hid ((xs).length ≤ 256) := Lib.hid (by rw [← HXS.out]; exact Nat.le_trans (List.length_filter_le _ _) m0.2.2.2)
  clear m0 m1 x0 x1 x2 q0
  go_wp2_with (go_at_call 21; refine HC8.out.mono ?_; rintro e w8 ⟨v, rfl, ho, q⟩; refine Hid.out ?_)
  refine Lib.hid ?_
  obtain ⟨aQ, cQ, rfl, -, -, he⟩ := ho.form
  obtain ⟨nQ, hnQ⟩ : ∃ n, n = (xs).length := ⟨_, rfl⟩
  rw [← hnQ]
  have HNQ := Lib.hid hnQ
  have HLeQ : Hid ((xs).length ≤ 9223372036854775807) := Lib.hid (by have := HL8.out; omega)
  clear hnQ
  obtain ⟨m0, m1, x0, x1, x2, q0⟩ := HS7.out
  have HS9 : Hid (CAt w8 sb2 bm2 X ∧ CAt w8 sb4 bm4 Y ∧ EntsAt w8 aA lA ∧ EntsAt w8 aB lB ∧ EntsAt w8 aP Y ∧ EntsAt w8 aQ xs ∧ Below W.heap.size W w8) := Lib.hid ⟨m0.on q, m1.on q, x0.on q, x1.on q, x2.on q, he, q0.trans (q.mono q0.size)⟩
  clear m0 m1 x0 x1 x2 q0 HS7
  clear he q ho HC8 HL8
  obtain ⟨m0, m1, x0, x1, x2, x3, q0⟩ := HS9.out
  have HS10 : Hid (CAt w8 sb2 bm2 X ∧ CAt w8 sb4 bm4 Y ∧ EntsAt w8 aA lA ∧ EntsAt w8 aB lB ∧ EntsAt w8 aQ xs ∧ Below W.heap.size W w8) := Lib.hid ⟨m0, m1, x0, x1, x3, q0⟩
  clear m0 m1 x0 x1 x2 x3 q0 HS9
  obtain ⟨m0, m1, x0, x1, x2, q0⟩ := HS10.out
  have HFkR : Hid (∀ y ∈ X, y.k.size ≤ 9223372036854775807) := Lib.hid (fun y hy => by have := checkEn_zero (m0.2.2.1 y hy); omega)
  clear m0 m1 x0 x1 x2 q0
  obtain ⟨m0, m1, x0, x1, x2, q0⟩ := HS10.out
  have HC11 := Lib.hid (cList_any sb2 bm2 X w8 m0)
  have HL11 := Lib.hid m0.2.2.2
  clear m0 m1 x0 x1 x2 q0
  go_wp2_with (go_at_call 19; refine HC11.out.mono ?_; rintro e w11 ⟨v, rfl, ho, q⟩; refine Hid.out ?_)
  refine Lib.hid ?_
  obtain ⟨aR, cR, rfl, -, -, he⟩ := ho.form
  obtain ⟨nR, hnR⟩ : ∃ n, n = (X).length := ⟨_, rfl⟩
  rw [← hnR]
  have HNR := Lib.hid hnR
  have HLeR : Hid ((X).length ≤ 9223372036854775807) := Lib.hid (by have := HL11.out; omega)
  clear hnR
  obtain ⟨m0, m1, x0, x1, x2, q0⟩ := HS10.out
  have HS12 : Hid (CAt w11 sb2 bm2 X ∧ CAt w11 sb4 bm4 Y ∧ EntsAt w11 aA lA ∧ EntsAt w11 aB lB ∧ EntsAt w11 aQ xs ∧ EntsAt w11 aR X ∧ Below W.heap.size W w11) := Lib.hid ⟨m0.on q, m1.on q, x0.on q, x1.on q, x2.on q, he, q0.trans (q.mono q0.size)⟩
  clear m0 m1 x0 x1 x2 q0 HS10
  clear he q ho HC11 HL11
  obtain ⟨m0, m1, x0, x1, x2, x3, q0⟩ := HS12.out
  have HC13 := Lib.hid (cDelta_any sb4 bm4 Y aR cR X w11 m1 x3 HFkR.out HLeR.out nR HNR.out)
  rw [HYS.out] at HC13
  have HL13 : Hid ((ys).length ≤ 256) := Lib.hid (by rw [← HYS.out]; exact Nat.le_trans (List.length_filter_le _ _) m1.2.2.2)
  clear m0 m1 x0 x1 x2 x3 q0
  go_wp2_with (go_at_call 21; refine HC13.out.mono ?_; rintro e w13 ⟨v, rfl, ho, q⟩; refine Hid.out ?_)
  refine Lib.hid ?_
  obtain ⟨aT, cT, rfl, -, -, he⟩ := ho.form
  obtain ⟨nT, hnT⟩ : ∃ n, n = (ys).length := ⟨_, rfl⟩
  rw [← hnT]
  have HNT := Lib.hid hnT
  have HLeT : Hid ((ys).length ≤ 9223372036854775807) := Lib.hid (by have := HL13.out; omega)
  clear hnT
  obtain ⟨m0, m1, x0, x1, x2, x3, q0⟩ := HS12.out
  have HS14 : Hid (CAt w13 sb2 bm2 X ∧ CAt w13 sb4 bm4 Y ∧ EntsAt w13 aA lA ∧ EntsAt w13 aB lB ∧ EntsAt w13 aQ xs ∧ EntsAt w13 aR X ∧ EntsAt w13 aT ys ∧ Below W.heap.size W w13) := Lib.hid ⟨m0.on q, m1.on q, x0.on q, x1.on q, x2.on q, x3.on q, he, q0.trans (q.mono q0.size)⟩
  clear m0 m1 x0 x1 x2 x3 q0 HS12
  clear he q ho HC13 HL13
  obtain ⟨m0, m1, x0, x1, x2, x3, x4, q0⟩ := HS14.out
  have HS15 : Hid (CAt w13 sb2 bm2 X ∧ CAt w13 sb4 bm4 Y ∧ EntsAt w13 aA lA ∧ EntsAt w13 aB lB ∧ EntsAt w13 aQ xs ∧ EntsAt w13 aT ys ∧ Below W.heap.size W w13) := Lib.hid ⟨m0, m1, x0, x1, x2, x4, q0⟩
  clear m0 m1 x0 x1 x2 x3 x4 q0 HS14
  obtain ⟨m0, m1, x0, x1, x2, x3, q0⟩ := HS15.out
  have HC16 := Lib.hid (cMerge_any sb2 bm2 X aT cT ys w13 m0 x3 HLeT.out nT HNT.out)
  clear m0 m1 x0 x1 x2 x3 q0
  rw [HP1.out, ← HNT.out] at HC16
  go_wp2_with (go_at_call 12; refine HC16.out.mono ?_; rintro e w16 ⟨rfl, hm, hg⟩; refine Hid.out ?_)
  refine Lib.hid ?_
  rw [HP3.out] at hm
  obtain ⟨m0, m1, x0, x1, x2, x3, q0⟩ := HS15.out
  have HS17 : Hid (CAt w16 sb2 bm2 Z ∧ CAt w16 sb4 bm4 Y ∧ EntsAt w16 aA lA ∧ EntsAt w16 aB lB ∧ EntsAt w16 aQ xs ∧ EntsAt w16 aT ys ∧ Below W.heap.size W w16) := Lib.hid ⟨hm, m1.apart2 m0.2.1 hg (fun e => HNE_0_1.out e.symm), x0.turn hg m0.2.1, x1.turn hg m0.2.1, x2.turn hg m0.2.1, x3.turn hg m0.2.1, q0.grown hg q0.size (fun j hj => by cases hj; exact HGE_0.out)⟩
  clear m0 m1 x0 x1 x2 x3 q0 HS15
  clear hm hg HC16
  obtain ⟨m0, m1, x0, x1, x2, x3, q0⟩ := HS17.out
  have HC18 := Lib.hid (cMerge_any sb4 bm4 Y aQ cQ xs w16 m1 x2 HLeQ.out nQ HNQ.out)
  clear m0 m1 x0 x1 x2 x3 q0
  rw [HP2.out, ← HNQ.out] at HC18
  go_wp2_with (go_at_call 12; refine HC18.out.mono ?_; rintro e w18 ⟨rfl, hm, hg⟩; refine Hid.out ?_)
  refine Lib.hid ?_
  rw [HP4.out] at hm
  obtain ⟨m0, m1, x0, x1, x2, x3, q0⟩ := HS17.out
  have HS19 : Hid (CAt w18 sb2 bm2 Z ∧ CAt w18 sb4 bm4 Z ∧ EntsAt w18 aA lA ∧ EntsAt w18 aB lB ∧ EntsAt w18 aQ xs ∧ EntsAt w18 aT ys ∧ Below W.heap.size W w18) := Lib.hid ⟨m0.apart2 m1.2.1 hg (HNE_0_1.out), hm, x0.turn hg m1.2.1, x1.turn hg m1.2.1, x2.turn hg m1.2.1, x3.turn hg m1.2.1, q0.grown hg q0.size (fun j hj => by cases hj; exact HGE_1.out)⟩
  clear m0 m1 x0 x1 x2 x3 q0 HS17
  clear hm hg HC18
  obtain ⟨m0, m1, x0, x1, x2, x3, q0⟩ := HS19.out
  have HS20 : Hid (CAt w18 sb2 bm2 Z ∧ CAt w18 sb4 bm4 Z ∧ EntsAt w18 aA lA ∧ EntsAt w18 aB lB ∧ Below W.heap.size W w18) := Lib.hid ⟨m0, m1, x0, x1, q0⟩
  clear m0 m1 x0 x1 x2 x3 q0 HS19
  obtain ⟨m0, m1, x0, x1, q0⟩ := HS20.out
  have d0 := (Below.refl w18.heap.size w18).alloc (Nat.le_refl _) (.cells #[] 39)
  have HO := Lib.hid (OwnC.none w18 w18.heap.size (Nat.le_refl _))
  have HD := Lib.hid d0
  have HY0 := Lib.hid x0
  have HY1 := Lib.hid x1
  clear d0 m0 m1 x0 x1 q0
  go_wp2_with (at_builtin; refine wpList_append_ents _ rfl _ _ rfl w18.heap.size _ [] rfl HO.out aA nA cA lA rfl HNA.out (HY0.out.on HD.out) HCA.out (by have := HSA.out; simp; omega) HD.out.size ?_; intro v u21_0 o1 g1; refine Hid.out ?_)
  refine Lib.hid ?_
  have q1 := HD.out.grown g1 HD.out.size (fun j hj => (World.ownsRow.lt HO.out j hj).1)
  rw [List.nil_append] at o1
  obtain ⟨aU_0, cU_0, rfl, hc0, -, he⟩ := o1.form
  replace HO := Lib.hid o1
  replace HD := Lib.hid q1
  have HE := Lib.hid he
  have HC0 := Lib.hid hc0
  clear o1 g1 q1 he hc0
  clear HE HC0
  go_wp2_with (at_builtin; refine wpList_append_ents _ rfl _ _ rfl w18.heap.size _ lA rfl HO.out aB nB cB lB rfl HNB.out (HY1.out.on HD.out) HCB.out (by have := HSB.out; have := HSA.out; simp; omega) HD.out.size ?_; intro v w21 o1 g1; refine Hid.out ?_)
  refine Lib.hid ?_
  have q1 := HD.out.grown g1 HD.out.size (fun j hj => (World.ownsRow.lt HO.out j hj).1)
  obtain ⟨aU_1, cU_1, rfl, hc0, -, he⟩ := o1.form
  replace HO := Lib.hid o1
  replace HD := Lib.hid q1
  have HE := Lib.hid he
  have HC0 := Lib.hid hc0
  clear o1 g1 q1 he hc0
  obtain ⟨nU, hnU⟩ : ∃ n, n = (lA ++ lB).length := ⟨_, rfl⟩
  rw [← hnU]
  have HNU := Lib.hid hnU
  have HLeU : Hid ((lA ++ lB).length ≤ 9223372036854775807) := Lib.hid (by have := HSA.out; have := HSB.out; simp only [List.length_append]; omega)
  clear hnU
  have hq := HD.out
  have he := HE.out
  clear HD HE HO HC0 HY0 HY1
  obtain ⟨m0, m1, x0, x1, q0⟩ := HS20.out
  have HS22 : Hid (CAt w21 sb2 bm2 Z ∧ CAt w21 sb4 bm4 Z ∧ EntsAt w21 aA lA ∧ EntsAt w21 aB lB ∧ EntsAt w21 aU_1 (lA ++ lB) ∧ Below W.heap.size W w21) := Lib.hid ⟨m0.on hq, m1.on hq, x0.on hq, x1.on hq, he, q0.trans (hq.mono q0.size)⟩
  clear m0 m1 x0 x1 q0 HS20
  clear he hq
  obtain ⟨m0, m1, x0, x1, x2, q0⟩ := HS22.out
  have HC23 := Lib.hid (cof_any aU_1 cU_1 (lA ++ lB) w21 x2 HLeU.out nU HNU.out)
  clear m0 m1 x0 x1 x2 q0
  go_wp2_with (go_at_call 24; refine HC23.out.mono ?_; rintro e w23 ⟨sb23, bm23, rfl, hm, hge, q⟩; refine Hid.out ?_)
  refine Lib.hid ?_
  rw [HEZ.out] at hm
  obtain ⟨m0, m1, x0, x1, x2, q0⟩ := HS22.out
  have HNE_0_2 : Hid (bm2 ≠ bm23) := Lib.hid (by have := m0.2.1.lt; omega)
  have HNE_1_2 : Hid (bm4 ≠ bm23) := Lib.hid (by have := m1.2.1.lt; omega)
  have HGE_2 : Hid (W.heap.size ≤ bm23) := Lib.hid (Nat.le_trans q0.size hge.2)
  clear m0 m1 x0 x1 x2 q0
  obtain ⟨m0, m1, x0, x1, x2, q0⟩ := HS22.out
  have HS24 : Hid (CAt w23 sb2 bm2 Z ∧ CAt w23 sb4 bm4 Z ∧ CAt w23 sb23 bm23 Z ∧ EntsAt w23 aA lA ∧ EntsAt w23 aB lB ∧ EntsAt w23 aU_1 (lA ++ lB) ∧ Below W.heap.size W w23) := Lib.hid ⟨m0.on q, m1.on q, hm, x0.on q, x1.on q, x2.on q, q0.trans (q.mono q0.size)⟩
  clear m0 m1 x0 x1 x2 q0 HS22
  clear hm hge q HC23
  obtain ⟨m0, m1, m2, x0, x1, x2, q0⟩ := HS24.out
  have HS25 : Hid (CAt w23 sb2 bm2 Z ∧ CAt w23 sb4 bm4 Z ∧ CAt w23 sb23 bm23 Z ∧ EntsAt w23 aA lA ∧ EntsAt w23 aB lB ∧ Below W.heap.size W w23) := Lib.hid ⟨m0, m1, m2, x0, x1, q0⟩
  clear m0 m1 m2 x0 x1 x2 q0 HS24
  obtain ⟨m0, m1, m2, x0, x1, q0⟩ := HS25.out
  have HFkV : Hid (∀ y ∈ Z, y.k.size ≤ 9223372036854775807) := Lib.hid (fun y hy => by have := checkEn_zero (m0.2.2.1 y hy); omega)
  clear m0 m1 m2 x0 x1 q0
  obtain ⟨m0, m1, m2, x0, x1, q0⟩ := HS25.out
  have HC26 := Lib.hid (cList_any sb2 bm2 Z w23 m0)
  have HL26 := Lib.hid m0.2.2.2
  clear m0 m1 m2 x0 x1 q0
  go_wp2_with (go_at_call 19; refine HC26.out.mono ?_; rintro e w26 ⟨v, rfl, ho, q⟩; refine Hid.out ?_)
  refine Lib.hid ?_
  obtain ⟨aV, cV, rfl, -, -, he⟩ := ho.form
  obtain ⟨nV, hnV⟩ : ∃ n, n = (Z).length := ⟨_, rfl⟩
  rw [← hnV]
  have HNV := Lib.hid hnV
  have HLeV : Hid ((Z).length ≤ 9223372036854775807) := Lib.hid (by have := HL26.out; omega)
  clear hnV
  obtain ⟨m0, m1, m2, x0, x1, q0⟩ := HS25.out
  have HS27 : Hid (CAt w26 sb2 bm2 Z ∧ CAt w26 sb4 bm4 Z ∧ CAt w26 sb23 bm23 Z ∧ EntsAt w26 aA lA ∧ EntsAt w26 aB lB ∧ EntsAt w26 aV Z ∧ Below W.heap.size W w26) := Lib.hid ⟨m0.on q, m1.on q, m2.on q, x0.on q, x1.on q, he, q0.trans (q.mono q0.size)⟩
  clear m0 m1 m2 x0 x1 q0 HS25
  clear he q ho HC26 HL26
  obtain ⟨m0, m1, m2, x0, x1, x2, q0⟩ := HS27.out
  have HFkX : Hid (∀ y ∈ Z, y.k.size ≤ 9223372036854775807) := Lib.hid (fun y hy => by have := checkEn_zero (m1.2.2.1 y hy); omega)
  clear m0 m1 m2 x0 x1 x2 q0
  obtain ⟨m0, m1, m2, x0, x1, x2, q0⟩ := HS27.out
  have HC28 := Lib.hid (cList_any sb4 bm4 Z w26 m1)
  have HL28 := Lib.hid m1.2.2.2
  clear m0 m1 m2 x0 x1 x2 q0
  go_wp2_with (go_at_call 19; refine HC28.out.mono ?_; rintro e w28 ⟨v, rfl, ho, q⟩; refine Hid.out ?_)
  refine Lib.hid ?_
  obtain ⟨aX, cX, rfl, -, -, he⟩ := ho.form
  obtain ⟨nX, hnX⟩ : ∃ n, n = (Z).length := ⟨_, rfl⟩
  rw [← hnX]
  have HNX := Lib.hid hnX
  have HLeX : Hid ((Z).length ≤ 9223372036854775807) := Lib.hid (by have := HL28.out; omega)
  clear hnX
  obtain ⟨m0, m1, m2, x0, x1, x2, q0⟩ := HS27.out
  have HS29 : Hid (CAt w28 sb2 bm2 Z ∧ CAt w28 sb4 bm4 Z ∧ CAt w28 sb23 bm23 Z ∧ EntsAt w28 aA lA ∧ EntsAt w28 aB lB ∧ EntsAt w28 aV Z ∧ EntsAt w28 aX Z ∧ Below W.heap.size W w28) := Lib.hid ⟨m0.on q, m1.on q, m2.on q, x0.on q, x1.on q, x2.on q, he, q0.trans (q.mono q0.size)⟩
  clear m0 m1 m2 x0 x1 x2 q0 HS27
  clear he q ho HC28 HL28
  obtain ⟨m0, m1, m2, x0, x1, x2, x3, q0⟩ := HS29.out
  have HC30 := Lib.hid (cSame_any aV aX cV cX Z Z w28 x2 x3 HLeV.out nV nX HNV.out HNX.out)
  rw [sameC_refl] at HC30
  clear m0 m1 m2 x0 x1 x2 x3 q0
  go_wp2_with (go_at_call 25; refine HC30.out.mono ?_; rintro e w30 ⟨rfl, q⟩; refine Hid.out ?_)
  refine Lib.hid ?_
  obtain ⟨m0, m1, m2, x0, x1, x2, x3, q0⟩ := HS29.out
  have HS31 : Hid (CAt w30 sb2 bm2 Z ∧ CAt w30 sb4 bm4 Z ∧ CAt w30 sb23 bm23 Z ∧ EntsAt w30 aA lA ∧ EntsAt w30 aB lB ∧ EntsAt w30 aV Z ∧ EntsAt w30 aX Z ∧ Below W.heap.size W w30) := Lib.hid ⟨m0.on q, m1.on q, m2.on q, x0.on q, x1.on q, x2.on q, x3.on q, q0.trans (q.mono q0.size)⟩
  clear m0 m1 m2 x0 x1 x2 x3 q0 HS29
  clear q HC30
  obtain ⟨m0, m1, m2, x0, x1, x2, x3, q0⟩ := HS31.out
  have HS32 : Hid (CAt w30 sb2 bm2 Z ∧ CAt w30 sb4 bm4 Z ∧ CAt w30 sb23 bm23 Z ∧ EntsAt w30 aA lA ∧ EntsAt w30 aB lB ∧ Below W.heap.size W w30) := Lib.hid ⟨m0, m1, m2, x0, x1, q0⟩
  clear m0 m1 m2 x0 x1 x2 x3 q0 HS31
  obtain ⟨m0, m1, m2, x0, x1, q0⟩ := HS32.out
  have HFkY : Hid (∀ y ∈ Z, y.k.size ≤ 9223372036854775807) := Lib.hid (fun y hy => by have := checkEn_zero (m0.2.2.1 y hy); omega)
  clear m0 m1 m2 x0 x1 q0
  obtain ⟨m0, m1, m2, x0, x1, q0⟩ := HS32.out
  have HC33 := Lib.hid (cList_any sb2 bm2 Z w30 m0)
  have HL33 := Lib.hid m0.2.2.2
  clear m0 m1 m2 x0 x1 q0
  go_wp2_with (go_at_call 19; refine HC33.out.mono ?_; rintro e w33 ⟨v, rfl, ho, q⟩; refine Hid.out ?_)
  refine Lib.hid ?_
  obtain ⟨aY, cY, rfl, -, -, he⟩ := ho.form
  obtain ⟨nY, hnY⟩ : ∃ n, n = (Z).length := ⟨_, rfl⟩
  rw [← hnY]
  have HNY := Lib.hid hnY
  have HLeY : Hid ((Z).length ≤ 9223372036854775807) := Lib.hid (by have := HL33.out; omega)
  clear hnY
  obtain ⟨m0, m1, m2, x0, x1, q0⟩ := HS32.out
  have HS34 : Hid (CAt w33 sb2 bm2 Z ∧ CAt w33 sb4 bm4 Z ∧ CAt w33 sb23 bm23 Z ∧ EntsAt w33 aA lA ∧ EntsAt w33 aB lB ∧ EntsAt w33 aY Z ∧ Below W.heap.size W w33) := Lib.hid ⟨m0.on q, m1.on q, m2.on q, x0.on q, x1.on q, he, q0.trans (q.mono q0.size)⟩
  clear m0 m1 m2 x0 x1 q0 HS32
  clear he q ho HC33 HL33
  obtain ⟨m0, m1, m2, x0, x1, x2, q0⟩ := HS34.out
  have HFkZ : Hid (∀ y ∈ Z, y.k.size ≤ 9223372036854775807) := Lib.hid (fun y hy => by have := checkEn_zero (m2.2.2.1 y hy); omega)
  clear m0 m1 m2 x0 x1 x2 q0
  obtain ⟨m0, m1, m2, x0, x1, x2, q0⟩ := HS34.out
  have HC35 := Lib.hid (cList_any sb23 bm23 Z w33 m2)
  have HL35 := Lib.hid m2.2.2.2
  clear m0 m1 m2 x0 x1 x2 q0
  go_wp2_with (go_at_call 19; refine HC35.out.mono ?_; rintro e w35 ⟨v, rfl, ho, q⟩; refine Hid.out ?_)
  refine Lib.hid ?_
  obtain ⟨aZ, cZ, rfl, -, -, he⟩ := ho.form
  obtain ⟨nZ, hnZ⟩ : ∃ n, n = (Z).length := ⟨_, rfl⟩
  rw [← hnZ]
  have HNZ := Lib.hid hnZ
  have HLeZ : Hid ((Z).length ≤ 9223372036854775807) := Lib.hid (by have := HL35.out; omega)
  clear hnZ
  obtain ⟨m0, m1, m2, x0, x1, x2, q0⟩ := HS34.out
  have HS36 : Hid (CAt w35 sb2 bm2 Z ∧ CAt w35 sb4 bm4 Z ∧ CAt w35 sb23 bm23 Z ∧ EntsAt w35 aA lA ∧ EntsAt w35 aB lB ∧ EntsAt w35 aY Z ∧ EntsAt w35 aZ Z ∧ Below W.heap.size W w35) := Lib.hid ⟨m0.on q, m1.on q, m2.on q, x0.on q, x1.on q, x2.on q, he, q0.trans (q.mono q0.size)⟩
  clear m0 m1 m2 x0 x1 x2 q0 HS34
  clear he q ho HC35 HL35
  obtain ⟨m0, m1, m2, x0, x1, x2, x3, q0⟩ := HS36.out
  have HC37 := Lib.hid (cSame_any aY aZ cY cZ Z Z w35 x2 x3 HLeY.out nY nZ HNY.out HNZ.out)
  rw [sameC_refl] at HC37
  clear m0 m1 m2 x0 x1 x2 x3 q0
  go_wp2_with (go_at_call 25; refine HC37.out.mono ?_; rintro e w37 ⟨rfl, q⟩; refine Hid.out ?_)
  refine Lib.hid ?_
  obtain ⟨m0, m1, m2, x0, x1, x2, x3, q0⟩ := HS36.out
  have HS38 : Hid (CAt w37 sb2 bm2 Z ∧ CAt w37 sb4 bm4 Z ∧ CAt w37 sb23 bm23 Z ∧ EntsAt w37 aA lA ∧ EntsAt w37 aB lB ∧ EntsAt w37 aY Z ∧ EntsAt w37 aZ Z ∧ Below W.heap.size W w37) := Lib.hid ⟨m0.on q, m1.on q, m2.on q, x0.on q, x1.on q, x2.on q, x3.on q, q0.trans (q.mono q0.size)⟩
  clear m0 m1 m2 x0 x1 x2 x3 q0 HS36
  clear q HC37
  obtain ⟨m0, m1, m2, x0, x1, x2, x3, q0⟩ := HS38.out
  have HS39 : Hid (CAt w37 sb2 bm2 Z ∧ CAt w37 sb4 bm4 Z ∧ CAt w37 sb23 bm23 Z ∧ EntsAt w37 aA lA ∧ EntsAt w37 aB lB ∧ Below W.heap.size W w37) := Lib.hid ⟨m0, m1, m2, x0, x1, q0⟩
  clear m0 m1 m2 x0 x1 x2 x3 q0 HS38
  obtain ⟨m0, m1, m2, x0, x1, q0⟩ := HS39.out
  have HFkK : Hid (∀ y ∈ Z, y.k.size ≤ 9223372036854775807) := Lib.hid (fun y hy => by have := checkEn_zero (m1.2.2.1 y hy); omega)
  clear m0 m1 m2 x0 x1 q0
  obtain ⟨m0, m1, m2, x0, x1, q0⟩ := HS39.out
  have HC40 := Lib.hid (cList_any sb4 bm4 Z w37 m1)
  have HL40 := Lib.hid m1.2.2.2
  clear m0 m1 m2 x0 x1 q0
  go_wp2_with (go_at_call 19; refine HC40.out.mono ?_; rintro e w40 ⟨v, rfl, ho, q⟩; refine Hid.out ?_)
  refine Lib.hid ?_
  obtain ⟨aK, cK, rfl, -, -, he⟩ := ho.form
  obtain ⟨nK, hnK⟩ : ∃ n, n = (Z).length := ⟨_, rfl⟩
  rw [← hnK]
  have HNK := Lib.hid hnK
  have HLeK : Hid ((Z).length ≤ 9223372036854775807) := Lib.hid (by have := HL40.out; omega)
  clear hnK
  obtain ⟨m0, m1, m2, x0, x1, q0⟩ := HS39.out
  have HS41 : Hid (CAt w40 sb2 bm2 Z ∧ CAt w40 sb4 bm4 Z ∧ CAt w40 sb23 bm23 Z ∧ EntsAt w40 aA lA ∧ EntsAt w40 aB lB ∧ EntsAt w40 aK Z ∧ Below W.heap.size W w40) := Lib.hid ⟨m0.on q, m1.on q, m2.on q, x0.on q, x1.on q, he, q0.trans (q.mono q0.size)⟩
  clear m0 m1 m2 x0 x1 q0 HS39
  clear he q ho HC40 HL40
  obtain ⟨m0, m1, m2, x0, x1, x2, q0⟩ := HS41.out
  have HC42 := Lib.hid (cDelta_any sb2 bm2 Z aK cK Z w40 m0 x2 HFkK.out HLeK.out nK HNK.out)
  rw [HP5.out] at HC42
  have HL42 : Hid (([]).length ≤ 256) := Lib.hid (by rw [← HP5.out]; exact Nat.le_trans (List.length_filter_le _ _) m0.2.2.2)
  clear m0 m1 m2 x0 x1 x2 q0
  go_wp2_with (go_at_call 21; refine HC42.out.mono ?_; rintro e w42 ⟨v, rfl, ho, q⟩; refine Hid.out ?_)
  refine Lib.hid ?_
  obtain ⟨aL, cL, rfl, -, -, he⟩ := ho.form
  rw [List.length_nil]
  obtain ⟨m0, m1, m2, x0, x1, x2, q0⟩ := HS41.out
  have HS43 : Hid (CAt w42 sb2 bm2 Z ∧ CAt w42 sb4 bm4 Z ∧ CAt w42 sb23 bm23 Z ∧ EntsAt w42 aA lA ∧ EntsAt w42 aB lB ∧ EntsAt w42 aK Z ∧ Below W.heap.size W w42) := Lib.hid ⟨m0.on q, m1.on q, m2.on q, x0.on q, x1.on q, x2.on q, q0.trans (q.mono q0.size)⟩
  clear m0 m1 m2 x0 x1 x2 q0 HS41
  clear he q ho HC42 HL42
  go_wp2_with (go_at_call 10; refine (cawake_any _).mono ?_; rintro e w44 ⟨rfl, q⟩)
  obtain ⟨m0, m1, m2, x0, x1, x2, q0⟩ := HS43.out
  go_ret
  exact ⟨rfl, q0.trans (q.mono q0.size)⟩

end Go.Proofs.Ytjkhonelidhakab
