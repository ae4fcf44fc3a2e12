/-
  The walk of CrdtLattice.
-/
import Derived.Test.YtjkhonelidhakabC7
namespace Go.Proofs.Ytjkhonelidhakab
open Go.RowKit Go.Maps

theorem CAt.apart2 {w w' : World} {sb bm bx : Nat} {S T : List Ent} (h : CAt w sb bm S) (hx : CMap w bx T) (hg : w.grownBy w' (some bx)) (h2 : bm ≠ bx) : CAt w' sb bm S :=
  h.apart hg (fun e => by
    obtain ⟨es, clock, hb, -⟩ := hx
    have h1 := h.1
    unfold CmBlk at h1
    rw [e, hb] at h1
    cases h1) h2

/-- What the maps of three lists are. -/
theorem lattice_pure (a b c : List Ent) (ha : a.length ≤ 80) (hb : b.length ≤ 80) (hc : c.length ≤ 80) :
    mergeS (mergeS (mergeS [] a) (mergeS [] b)) (mergeS [] c) = mergeS (mergeS [] a) (mergeS (mergeS [] b) (mergeS [] c)) ∧
    (mergeN (mergeS (mergeS (mergeS [] a) (mergeS [] b)) (mergeS [] c)) (mergeS (mergeS (mergeS [] a) (mergeS [] b)) (mergeS [] c)) = 0 ∧ mergeS (mergeS (mergeS (mergeS [] a) (mergeS [] b)) (mergeS [] c)) (mergeS (mergeS (mergeS [] a) (mergeS [] b)) (mergeS [] c)) = mergeS (mergeS (mergeS [] a) (mergeS [] b)) (mergeS [] c)) ∧
    (mergeN (mergeS (mergeS (mergeS [] a) (mergeS [] b)) (mergeS [] c)) a = 0 ∧ mergeS (mergeS (mergeS (mergeS [] a) (mergeS [] b)) (mergeS [] c)) a = mergeS (mergeS (mergeS [] a) (mergeS [] b)) (mergeS [] c)) := by
  have hU : (a ++ (b ++ c)).length ≤ 256 := by simp; omega
  have sa : ∀ y ∈ a, y ∈ a ++ (b ++ c) := fun y hy => by simp [hy]
  have sb : ∀ y ∈ b, y ∈ a ++ (b ++ c) := fun y hy => by simp [hy]
  have sc : ∀ y ∈ c, y ∈ a ++ (b ++ c) := fun y hy => by simp [hy]
  have hA := best_of hU sa
  have hB := best_of hU sb
  have hC := best_of hU sc
  have hAB := best_merge hU (mergeS [] b) _ _ hA (fun y hy => sa y hy.1) (fun y hy => sb y (hB.2.1 y hy).1)
  have hBC := best_merge hU (mergeS [] c) _ _ hB (fun y hy => sb y hy.1) (fun y hy => sc y (hC.2.1 y hy).1)
  have sAB : ∀ y, (y ∈ a ∧ checkEn y = 0 ∨ y ∈ mergeS [] b ∧ checkEn y = 0) → y ∈ a ++ (b ++ c) := fun y hy => hy.elim (fun h => sa y h.1) (fun h => sb y (hB.2.1 y h.1).1)
  have sBC : ∀ y, (y ∈ b ∧ checkEn y = 0 ∨ y ∈ mergeS [] c ∧ checkEn y = 0) → y ∈ a ++ (b ++ c) := fun y hy => hy.elim (fun h => sb y h.1) (fun h => sc y (hC.2.1 y h.1).1)
  have hL := best_merge hU (mergeS [] c) _ _ hAB sAB (fun y hy => sc y (hC.2.1 y hy).1)
  have hR := best_merge hU (mergeS (mergeS [] b) (mergeS [] c)) _ _ hA (fun y hy => sa y hy.1) (fun y hy => sBC y (hBC.2.1 y hy))
  generalize hX : mergeS (mergeS (mergeS [] a) (mergeS [] b)) (mergeS [] c) = X at *
  generalize hY : mergeS (mergeS [] a) (mergeS (mergeS [] b) (mergeS [] c)) = Y at *
  -- what the left one has is told on the right, or dominated there
  have dom : ∀ y, (y ∈ a ∨ y ∈ b ∨ y ∈ c) → checkEn y = 0 → (∃ x ∈ X, x.key = y.key ∧ aboveE y x = false) ∧ (∃ x ∈ Y, x.key = y.key ∧ aboveE y x = false) := fun y hy hk => by
    rcases hy with hy | hy | hy
    · exact ⟨hL.2.2 y (.inl (.inl ⟨hy, hk⟩)), hR.2.2 y (.inl ⟨hy, hk⟩)⟩
    · obtain ⟨z, hz, e, az⟩ := hB.2.2 y ⟨hy, hk⟩
      have kz := (hB.2.1 z hz).2
      constructor
      · obtain ⟨x, hx, e2, a2⟩ := hL.2.2 z (.inl (.inr ⟨hz, kz⟩))
        exact ⟨x, hx, e2.trans e, nabove_trans e.symm e2.symm az a2⟩
      · obtain ⟨u, hu, e3, a3⟩ := hBC.2.2 z (.inl ⟨(hB.2.1 z hz).1, kz⟩)
        have ku : checkEn u = 0 := (hBC.2.1 u hu).elim (fun h => h.2) (fun h => h.2)
        obtain ⟨x, hx, e2, a2⟩ := hR.2.2 u (.inr ⟨hu, ku⟩)
        exact ⟨x, hx, e2.trans (e3.trans e), nabove_trans e.symm (e3.symm.trans e2.symm) az (nabove_trans e3.symm e2.symm a3 a2)⟩
    · obtain ⟨z, hz, e, az⟩ := hC.2.2 y ⟨hy, hk⟩
      have kz := (hC.2.1 z hz).2
      constructor
      · obtain ⟨x, hx, e2, a2⟩ := hL.2.2 z (.inr ⟨hz, kz⟩)
        exact ⟨x, hx, e2.trans e, nabove_trans e.symm e2.symm az a2⟩
      · obtain ⟨u, hu, e3, a3⟩ := hBC.2.2 z (.inr ⟨hz, kz⟩)
        have ku : checkEn u = 0 := (hBC.2.1 u hu).elim (fun h => h.2) (fun h => h.2)
        obtain ⟨x, hx, e2, a2⟩ := hR.2.2 u (.inr ⟨hu, ku⟩)
        exact ⟨x, hx, e2.trans (e3.trans e), nabove_trans e.symm (e3.symm.trans e2.symm) az (nabove_trans e3.symm e2.symm a3 a2)⟩
  have inX : ∀ x ∈ X, (x ∈ a ∨ x ∈ b ∨ x ∈ c) ∧ checkEn x = 0 := fun x hx => by
    rcases hL.2.1 x hx with (h | h) | h
    · exact ⟨.inl h.1, h.2⟩
    · exact ⟨.inr (.inl (hB.2.1 x h.1).1), h.2⟩
    · exact ⟨.inr (.inr (hC.2.1 x h.1).1), h.2⟩
  have inY : ∀ x ∈ Y, (x ∈ a ∨ x ∈ b ∨ x ∈ c) ∧ checkEn x = 0 := fun x hx => by
    rcases hR.2.1 x hx with h | ⟨h, k⟩
    · exact ⟨.inl h.1, h.2⟩
    · rcases hBC.2.1 x h with h | h
      · exact ⟨.inr (.inl h.1), k⟩
      · exact ⟨.inr (.inr (hC.2.1 x h.1).1), k⟩
  have bX : Best (fun y => (y ∈ a ∨ y ∈ b ∨ y ∈ c) ∧ checkEn y = 0) X := ⟨hL.1, inX, fun y hy => (dom y hy.1 hy.2).1⟩
  have bY : Best (fun y => (y ∈ a ∨ y ∈ b ∨ y ∈ c) ∧ checkEn y = 0) Y := ⟨hR.1, inY, fun y hy => (dom y hy.1 hy.2).2⟩
  refine ⟨best_same bX bY fun x => Iff.rfl, mergeN_zero X X fun y hy => stays_of bX (inX y hy), mergeN_zero a X fun y hy => ?_⟩
  by_cases hk : checkEn y = 0
  · exact stays_of bX ⟨.inl hy, hk⟩
  · exact bad_stays hk

set_option maxRecDepth 100000 in
set_option maxHeartbeats 8000000 in
theorem lattice_walk (aA : Option Addr) (cA : Nat) (lA : List Ent) (aB : Option Addr) (cB : Nat) (lB : List Ent) (aC : Option Addr) (cC : Nat) (lC : List Ent) (W : World) (heA : EntsAt W aA lA) (heB : EntsAt W aB lB) (heC : EntsAt W aC lC) (nA nB nC : Nat) (hA : nA = lA.length) (hB : nB = lB.length) (hC : nC = lC.length) :
    Calls Try.prog 7 #[.slice aA nA cA, .slice aB nB cB, .slice aC nC cC] W fun e w' => e = .returned (.bool true) ∧ Below W.heap.size W w' := by
  by_cases h1 : 80 < nA
  · have g1 : (80 : Int) < (nA : Int) := by omega
    go_enter Try.func7, Try.ntmps7
    go_wp2_with (go_at_call 10; refine (cawake_any _).mono ?_; rintro e w1 ⟨rfl, q⟩)
    go_ret
    exact ⟨rfl, q⟩
  by_cases h2 : 80 < nB
  · have g1 : ¬ (80 : Int) < (nA : Int) := by omega
    have g2 : (80 : Int) < (nB : Int) := by omega
    go_enter Try.func7, Try.ntmps7
    go_wp2_with (go_at_call 10; refine (cawake_any _).mono ?_; rintro e w1 ⟨rfl, q⟩)
    go_ret
    exact ⟨rfl, q⟩
  by_cases h3 : 80 < nC
  · have g1 : ¬ (80 : Int) < (nA : Int) := by omega
    have g2 : ¬ (80 : Int) < (nB : Int) := by omega
    have g3 : (80 : Int) < (nC : Int) := by omega
    go_enter Try.func7, Try.ntmps7
    go_wp2_with (go_at_call 10; refine (cawake_any _).mono ?_; rintro e w1 ⟨rfl, q⟩)
    go_ret
    exact ⟨rfl, q⟩
  have g1 : ¬ (80 : Int) < (nA : Int) := by omega
  have g2 : ¬ (80 : Int) < (nB : Int) := by omega
  have g3 : ¬ (80 : Int) < (nC : Int) := by omega
  have hp := lattice_pure lA lB lC (by omega) (by omega) (by omega)
  have HNA := Lib.hid hA
  have HNB := Lib.hid hB
  have HNC := Lib.hid hC
  have HLA : Hid (lA.length ≤ 9223372036854775807) := Lib.hid (by omega)
  have HLB : Hid (lB.length ≤ 9223372036854775807) := Lib.hid (by omega)
  have HLC : Hid (lC.length ≤ 9223372036854775807) := Lib.hid (by omega)
  clear h1 h2 h3 hA hB hC
  obtain ⟨SA, eA⟩ : ∃ S, mergeS [] lA = S := ⟨_, rfl⟩
  obtain ⟨SB, eB⟩ : ∃ S, mergeS [] lB = S := ⟨_, rfl⟩
  obtain ⟨SC, eC⟩ : ∃ S, mergeS [] lC = S := ⟨_, rfl⟩
  rw [eA, eB, eC] at hp
  obtain ⟨S1, e1⟩ : ∃ S, mergeS SA SB = S := ⟨_, rfl⟩
  obtain ⟨S2, e2⟩ : ∃ S, mergeS SB SC = S := ⟨_, rfl⟩
  rw [e1, e2] at hp
  obtain ⟨S3, e3⟩ : ∃ S, mergeS S1 SC = S := ⟨_, rfl⟩
  rw [e3] at hp
  obtain ⟨p1, ⟨p2, p3⟩, p4, p5⟩ := hp
  have HEA := Lib.hid eA; have HEB := Lib.hid eB; have HEC := Lib.hid eC; have HE1 := Lib.hid e1; have HE2 := Lib.hid e2; have HE3 := Lib.hid e3
  have HE4 : Hid (mergeS SA S2 = S3) := Lib.hid p1.symm
  have HP2 := Lib.hid p2; have HP3 := Lib.hid p3; have HP4 := Lib.hid p4; have HP5 := Lib.hid p5
  clear eA eB eC e1 e2 e3 p1 p2 p3 p4 p5
  have HS1 : Hid (EntsAt W aA lA ∧ EntsAt W aB lB ∧ EntsAt W aC lC ∧ Below W.heap.size W W) := Lib.hid ⟨heA, heB, heC, Below.refl _ _⟩
  clear heA heB heC
  go_enter Try.func7, Try.ntmps7
  obtain ⟨x0, x1, x2, q0⟩ := HS1.out
  have HC2 := Lib.hid (cof_any aA cA lA W x0 HLA.out nA HNA.out)
  clear x0 x1 x2 q0
  go_wp2_with (go_at_call 24; refine HC2.out.mono ?_; rintro e w2 ⟨sb2, bm2, rfl, hm, hge, q⟩; refine Hid.out ?_)
  refine Lib.hid ?_
  rw [HEA.out] at hm
  obtain ⟨x0, x1, x2, q0⟩ := HS1.out
  have HGE_0 : Hid (W.heap.size ≤ bm2) := Lib.hid (Nat.le_trans q0.size hge.2)
  clear x0 x1 x2 q0
  obtain ⟨x0, x1, x2, q0⟩ := HS1.out
  have HS3 : Hid (CAt w2 sb2 bm2 SA ∧ EntsAt w2 aA lA ∧ EntsAt w2 aB lB ∧ EntsAt w2 aC lC ∧ Below W.heap.size W w2) := Lib.hid ⟨hm, x0.on q, x1.on q, x2.on q, q0.trans (q.mono q0.size)⟩
  clear x0 x1 x2 q0 HS1
  clear hm hge q HC2
  obtain ⟨m0, x0, x1, x2, q0⟩ := HS3.out
  have HC4 := Lib.hid (cof_any aB cB lB w2 x1 HLB.out nB HNB.out)
  clear m0 x0 x1 x2 q0
  go_wp2_with (go_at_call 24; refine HC4.out.mono ?_; rintro e w4 ⟨sb4, bm4, rfl, hm, hge, q⟩; refine Hid.out ?_)
  refine Lib.hid ?_
  rw [HEB.out] at hm
  obtain ⟨m0, x0, x1, x2, q0⟩ := HS3.out
  have HNE_0_1 : Hid (bm2 ≠ bm4) := Lib.hid (by have := m0.2.1.lt; omega)
  have HGE_1 : Hid (W.heap.size ≤ bm4) := Lib.hid (Nat.le_trans q0.size hge.2)
  clear m0 x0 x1 x2 q0
  obtain ⟨m0, x0, x1, x2, q0⟩ := HS3.out
  have HS5 : Hid (CAt w4 sb2 bm2 SA ∧ CAt w4 sb4 bm4 SB ∧ EntsAt w4 aA lA ∧ EntsAt w4 aB lB ∧ EntsAt w4 aC lC ∧ Below W.heap.size W w4) := Lib.hid ⟨m0.on q, hm, x0.on q, x1.on q, x2.on q, q0.trans (q.mono q0.size)⟩
  clear m0 x0 x1 x2 q0 HS3
  clear hm hge q HC4
  obtain ⟨m0, m1, x0, x1, x2, q0⟩ := HS5.out
  have HC6 := Lib.hid (cof_any aB cB lB w4 x1 HLB.out nB HNB.out)
  clear m0 m1 x0 x1 x2 q0
  go_wp2_with (go_at_call 24; refine HC6.out.mono ?_; rintro e w6 ⟨sb6, bm6, rfl, hm, hge, q⟩; refine Hid.out ?_)
  refine Lib.hid ?_
  rw [HEB.out] at hm
  obtain ⟨m0, m1, x0, x1, x2, q0⟩ := HS5.out
  have HNE_0_2 : Hid (bm2 ≠ bm6) := Lib.hid (by have := m0.2.1.lt; omega)
  have HNE_1_2 : Hid (bm4 ≠ bm6) := Lib.hid (by have := m1.2.1.lt; omega)
  have HGE_2 : Hid (W.heap.size ≤ bm6) := Lib.hid (Nat.le_trans q0.size hge.2)
  clear m0 m1 x0 x1 x2 q0
  obtain ⟨m0, m1, x0, x1, x2, q0⟩ := HS5.out
  have HS7 : Hid (CAt w6 sb2 bm2 SA ∧ CAt w6 sb4 bm4 SB ∧ CAt w6 sb6 bm6 SB ∧ EntsAt w6 aA lA ∧ EntsAt w6 aB lB ∧ EntsAt w6 aC lC ∧ Below W.heap.size W w6) := Lib.hid ⟨m0.on q, m1.on q, hm, x0.on q, x1.on q, x2.on q, q0.trans (q.mono q0.size)⟩
  clear m0 m1 x0 x1 x2 q0 HS5
  clear hm hge q HC6
  obtain ⟨m0, m1, m2, x0, x1, x2, q0⟩ := HS7.out
  have HC8 := Lib.hid (cList_any sb6 bm6 SB w6 m2)
  have HL8 := Lib.hid m2.2.2.2
  clear m0 m1 m2 x0 x1 x2 q0
  go_wp2_with (go_at_call 19; refine HC8.out.mono ?_; rintro e w8 ⟨v, rfl, ho, q⟩; refine Hid.out ?_)
  refine Lib.hid ?_
  obtain ⟨aP, cP, rfl, -, -, he⟩ := ho.form
  obtain ⟨nP, hnP⟩ : ∃ n, n = (SB).length := ⟨_, rfl⟩
  rw [← hnP]
  have HNP := Lib.hid hnP
  have HLeP : Hid ((SB).length ≤ 9223372036854775807) := Lib.hid (by have := HL8.out; omega)
  clear hnP
  obtain ⟨m0, m1, m2, x0, x1, x2, q0⟩ := HS7.out
  have HS9 : Hid (CAt w8 sb2 bm2 SA ∧ CAt w8 sb4 bm4 SB ∧ CAt w8 sb6 bm6 SB ∧ EntsAt w8 aA lA ∧ EntsAt w8 aB lB ∧ EntsAt w8 aC lC ∧ EntsAt w8 aP SB ∧ Below W.heap.size W w8) := Lib.hid ⟨m0.on q, m1.on q, m2.on q, x0.on q, x1.on q, x2.on q, he, q0.trans (q.mono q0.size)⟩
  clear m0 m1 m2 x0 x1 x2 q0 HS7
  clear he q ho HC8 HL8
  obtain ⟨m0, m1, m2, x0, x1, x2, x3, q0⟩ := HS9.out
  have HC10 := Lib.hid (cMerge_any sb2 bm2 SA aP cP SB w8 m0 x3 HLeP.out nP HNP.out)
  clear m0 m1 m2 x0 x1 x2 x3 q0
  generalize mergeN SA SB = cn10 at *
  go_wp2_with (go_at_call 12; refine HC10.out.mono ?_; rintro e w10 ⟨rfl, hm, hg⟩; refine Hid.out ?_)
  refine Lib.hid ?_
  rw [HE1.out] at hm
  obtain ⟨m0, m1, m2, x0, x1, x2, x3, q0⟩ := HS9.out
  have HS11 : Hid (CAt w10 sb2 bm2 S1 ∧ CAt w10 sb4 bm4 SB ∧ CAt w10 sb6 bm6 SB ∧ EntsAt w10 aA lA ∧ EntsAt w10 aB lB ∧ EntsAt w10 aC lC ∧ EntsAt w10 aP SB ∧ Below W.heap.size W w10) := Lib.hid ⟨hm, m1.apart2 m0.2.1 hg (fun e => HNE_0_1.out e.symm), m2.apart2 m0.2.1 hg (fun e => HNE_0_2.out e.symm), x0.turn hg m0.2.1, x1.turn hg m0.2.1, x2.turn hg m0.2.1, x3.turn hg m0.2.1, q0.grown hg q0.size (fun j hj => by cases hj; exact HGE_0.out)⟩
  clear m0 m1 m2 x0 x1 x2 x3 q0 HS9
  clear hm hg HC10
  obtain ⟨m0, m1, m2, x0, x1, x2, x3, q0⟩ := HS11.out
  have HS12 : Hid (CAt w10 sb2 bm2 S1 ∧ CAt w10 sb4 bm4 SB ∧ CAt w10 sb6 bm6 SB ∧ EntsAt w10 aA lA ∧ EntsAt w10 aB lB ∧ EntsAt w10 aC lC ∧ Below W.heap.size W w10) := Lib.hid ⟨m0, m1, m2, x0, x1, x2, q0⟩
  clear m0 m1 m2 x0 x1 x2 x3 q0 HS11
  obtain ⟨m0, m1, m2, x0, x1, x2, q0⟩ := HS12.out
  have HC13 := Lib.hid (cof_any aC cC lC w10 x2 HLC.out nC HNC.out)
  clear m0 m1 m2 x0 x1 x2 q0
  go_wp2_with (go_at_call 24; refine HC13.out.mono ?_; rintro e w13 ⟨sb13, bm13, rfl, hm, hge, q⟩; refine Hid.out ?_)
  refine Lib.hid ?_
  rw [HEC.out] at hm
  obtain ⟨m0, m1, m2, x0, x1, x2, q0⟩ := HS12.out
  have HNE_0_3 : Hid (bm2 ≠ bm13) := Lib.hid (by have := m0.2.1.lt; omega)
  have HNE_1_3 : Hid (bm4 ≠ bm13) := Lib.hid (by have := m1.2.1.lt; omega)
  have HNE_2_3 : Hid (bm6 ≠ bm13) := Lib.hid (by have := m2.2.1.lt; omega)
  have HGE_3 : Hid (W.heap.size ≤ bm13) := Lib.hid (Nat.le_trans q0.size hge.2)
  clear m0 m1 m2 x0 x1 x2 q0
  obtain ⟨m0, m1, m2, x0, x1, x2, q0⟩ := HS12.out
  have HS14 : Hid (CAt w13 sb2 bm2 S1 ∧ CAt w13 sb4 bm4 SB ∧ CAt w13 sb6 bm6 SB ∧ CAt w13 sb13 bm13 SC ∧ EntsAt w13 aA lA ∧ EntsAt w13 aB lB ∧ EntsAt w13 aC lC ∧ Below W.heap.size W w13) := Lib.hid ⟨m0.on q, m1.on q, m2.on q, hm, x0.on q, x1.on q, x2.on q, q0.trans (q.mono q0.size)⟩
  clear m0 m1 m2 x0 x1 x2 q0 HS12
  clear hm hge q HC13
  obtain ⟨m0, m1, m2, m3, x0, x1, x2, q0⟩ := HS14.out
  have HC15 := Lib.hid (cList_any sb13 bm13 SC w13 m3)
  have HL15 := Lib.hid m3.2.2.2
  clear m0 m1 m2 m3 x0 x1 x2 q0
  go_wp2_with (go_at_call 19; refine HC15.out.mono ?_; rintro e w15 ⟨v, rfl, ho, q⟩; refine Hid.out ?_)
  refine Lib.hid ?_
  obtain ⟨aR, cR, rfl, -, -, he⟩ := ho.form
  obtain ⟨nR, hnR⟩ : ∃ n, n = (SC).length := ⟨_, rfl⟩
  rw [← hnR]
  have HNR := Lib.hid hnR
  have HLeR : Hid ((SC).length ≤ 9223372036854775807) := Lib.hid (by have := HL15.out; omega)
  clear hnR
  obtain ⟨m0, m1, m2, m3, x0, x1, x2, q0⟩ := HS14.out
  have HS16 : Hid (CAt w15 sb2 bm2 S1 ∧ CAt w15 sb4 bm4 SB ∧ CAt w15 sb6 bm6 SB ∧ CAt w15 sb13 bm13 SC ∧ EntsAt w15 aA lA ∧ EntsAt w15 aB lB ∧ EntsAt w15 aC lC ∧ EntsAt w15 aR SC ∧ Below W.heap.size W w15) := Lib.hid ⟨m0.on q, m1.on q, m2.on q, m3.on q, x0.on q, x1.on q, x2.on q, he, q0.trans (q.mono q0.size)⟩
  clear m0 m1 m2 m3 x0 x1 x2 q0 HS14
  clear he q ho HC15 HL15
  obtain ⟨m0, m1, m2, m3, x0, x1, x2, x3, q0⟩ := HS16.out
  have HC17 := Lib.hid (cMerge_any sb4 bm4 SB aR cR SC w15 m1 x3 HLeR.out nR HNR.out)
  clear m0 m1 m2 m3 x0 x1 x2 x3 q0
  generalize mergeN SB SC = cn17 at *
  go_wp2_with (go_at_call 12; refine HC17.out.mono ?_; rintro e w17 ⟨rfl, hm, hg⟩; refine Hid.out ?_)
  refine Lib.hid ?_
  rw [HE2.out] at hm
  obtain ⟨m0, m1, m2, m3, x0, x1, x2, x3, q0⟩ := HS16.out
  have HS18 : Hid (CAt w17 sb2 bm2 S1 ∧ CAt w17 sb4 bm4 S2 ∧ CAt w17 sb6 bm6 SB ∧ CAt w17 sb13 bm13 SC ∧ EntsAt w17 aA lA ∧ EntsAt w17 aB lB ∧ EntsAt w17 aC lC ∧ EntsAt w17 aR SC ∧ Below W.heap.size W w17) := Lib.hid ⟨m0.apart2 m1.2.1 hg (HNE_0_1.out), hm, m2.apart2 m1.2.1 hg (fun e => HNE_1_2.out e.symm), m3.apart2 m1.2.1 hg (fun e => HNE_1_3.out e.symm), x0.turn hg m1.2.1, x1.turn hg m1.2.1, x2.turn hg m1.2.1, x3.turn hg m1.2.1, q0.grown hg q0.size (fun j hj => by cases hj; exact HGE_1.out)⟩
  clear m0 m1 m2 m3 x0 x1 x2 x3 q0 HS16
  clear hm hg HC17
  obtain ⟨m0, m1, m2, m3, x0, x1, x2, x3, q0⟩ := HS18.out
  have HS19 : Hid (CAt w17 sb2 bm2 S1 ∧ CAt w17 sb4 bm4 S2 ∧ CAt w17 sb6 bm6 SB ∧ CAt w17 sb13 bm13 SC ∧ EntsAt w17 aA lA ∧ EntsAt w17 aB lB ∧ EntsAt w17 aC lC ∧ Below W.heap.size W w17) := Lib.hid ⟨m0, m1, m2, m3, x0, x1, x2, q0⟩
  clear m0 m1 m2 m3 x0 x1 x2 x3 q0 HS18
  obtain ⟨m0, m1, m2, m3, x0, x1, x2, q0⟩ := HS19.out
  have HC20 := Lib.hid (cof_any aC cC lC w17 x2 HLC.out nC HNC.out)
  clear m0 m1 m2 m3 x0 x1 x2 q0
  go_wp2_with (go_at_call 24; refine HC20.out.mono ?_; rintro e w20 ⟨sb20, bm20, rfl, hm, hge, q⟩; refine Hid.out ?_)
  refine Lib.hid ?_
  rw [HEC.out] at hm
  obtain ⟨m0, m1, m2, m3, x0, x1, x2, q0⟩ := HS19.out
  have HNE_0_4 : Hid (bm2 ≠ bm20) := Lib.hid (by have := m0.2.1.lt; omega)
  have HNE_1_4 : Hid (bm4 ≠ bm20) := Lib.hid (by have := m1.2.1.lt; omega)
  have HNE_2_4 : Hid (bm6 ≠ bm20) := Lib.hid (by have := m2.2.1.lt; omega)
  have HNE_3_4 : Hid (bm13 ≠ bm20) := Lib.hid (by have := m3.2.1.lt; omega)
  have HGE_4 : Hid (W.heap.size ≤ bm20) := Lib.hid (Nat.le_trans q0.size hge.2)
  clear m0 m1 m2 m3 x0 x1 x2 q0
  obtain ⟨m0, m1, m2, m3, x0, x1, x2, q0⟩ := HS19.out
  have HS21 : Hid (CAt w20 sb2 bm2 S1 ∧ CAt w20 sb4 bm4 S2 ∧ CAt w20 sb6 bm6 SB ∧ CAt w20 sb13 bm13 SC ∧ CAt w20 sb20 bm20 SC ∧ EntsAt w20 aA lA ∧ EntsAt w20 aB lB ∧ EntsAt w20 aC lC ∧ Below W.heap.size W w20) := Lib.hid ⟨m0.on q, m1.on q, m2.on q, m3.on q, hm, x0.on q, x1.on q, x2.on q, q0.trans (q.mono q0.size)⟩
  clear m0 m1 m2 m3 x0 x1 x2 q0 HS19
  clear hm hge q HC20
  obtain ⟨m0, m1, m2, m3, m4, x0, x1, x2, q0⟩ := HS21.out
  have HC22 := Lib.hid (cList_any sb20 bm20 SC w20 m4)
  have HL22 := Lib.hid m4.2.2.2
  clear m0 m1 m2 m3 m4 x0 x1 x2 q0
  go_wp2_with (go_at_call 19; refine HC22.out.mono ?_; rintro e w22 ⟨v, rfl, ho, q⟩; refine Hid.out ?_)
  refine Lib.hid ?_
  obtain ⟨aQ, cQ, rfl, -, -, he⟩ := ho.form
  obtain ⟨nQ, hnQ⟩ : ∃ n, n = (SC).length := ⟨_, rfl⟩
  rw [← hnQ]
  have HNQ := Lib.hid hnQ
  have HLeQ : Hid ((SC).length ≤ 9223372036854775807) := Lib.hid (by have := HL22.out; omega)
  clear hnQ
  obtain ⟨m0, m1, m2, m3, m4, x0, x1, x2, q0⟩ := HS21.out
  have HS23 : Hid (CAt w22 sb2 bm2 S1 ∧ CAt w22 sb4 bm4 S2 ∧ CAt w22 sb6 bm6 SB ∧ CAt w22 sb13 bm13 SC ∧ CAt w22 sb20 bm20 SC ∧ EntsAt w22 aA lA ∧ EntsAt w22 aB lB ∧ EntsAt w22 aC lC ∧ EntsAt w22 aQ SC ∧ Below W.heap.size W w22) := Lib.hid ⟨m0.on q, m1.on q, m2.on q, m3.on q, m4.on q, x0.on q, x1.on q, x2.on q, he, q0.trans (q.mono q0.size)⟩
  clear m0 m1 m2 m3 m4 x0 x1 x2 q0 HS21
  clear he q ho HC22 HL22
  obtain ⟨m0, m1, m2, m3, m4, x0, x1, x2, x3, q0⟩ := HS23.out
  have HC24 := Lib.hid (cMerge_any sb2 bm2 S1 aQ cQ SC w22 m0 x3 HLeQ.out nQ HNQ.out)
  clear m0 m1 m2 m3 m4 x0 x1 x2 x3 q0
  generalize mergeN S1 SC = cn24 at *
  go_wp2_with (go_at_call 12; refine HC24.out.mono ?_; rintro e w24 ⟨rfl, hm, hg⟩; refine Hid.out ?_)
  refine Lib.hid ?_
  rw [HE3.out] at hm
  obtain ⟨m0, m1, m2, m3, m4, x0, x1, x2, x3, q0⟩ := HS23.out
  have HS25 : Hid (CAt w24 sb2 bm2 S3 ∧ CAt w24 sb4 bm4 S2 ∧ CAt w24 sb6 bm6 SB ∧ CAt w24 sb13 bm13 SC ∧ CAt w24 sb20 bm20 SC ∧ EntsAt w24 aA lA ∧ EntsAt w24 aB lB ∧ EntsAt w24 aC lC ∧ EntsAt w24 aQ SC ∧ Below W.heap.size W w24) := Lib.hid ⟨hm, m1.apart2 m0.2.1 hg (fun e => HNE_0_1.out e.symm), m2.apart2 m0.2.1 hg (fun e => HNE_0_2.out e.symm), m3.apart2 m0.2.1 hg (fun e => HNE_0_3.out e.symm), m4.apart2 m0.2.1 hg (fun e => HNE_0_4.out e.symm), x0.turn hg m0.2.1, x1.turn hg m0.2.1, x2.turn hg m0.2.1, x3.turn hg m0.2.1, q0.grown hg q0.size (fun j hj => by cases hj; exact HGE_0.out)⟩
  clear m0 m1 m2 m3 m4 x0 x1 x2 x3 q0 HS23
  clear hm hg HC24
  obtain ⟨m0, m1, m2, m3, m4, x0, x1, x2, x3, q0⟩ := HS25.out
  have HS26 : Hid (CAt w24 sb2 bm2 S3 ∧ CAt w24 sb4 bm4 S2 ∧ CAt w24 sb6 bm6 SB ∧ CAt w24 sb13 bm13 SC ∧ CAt w24 sb20 bm20 SC ∧ EntsAt w24 aA lA ∧ EntsAt w24 aB lB ∧ EntsAt w24 aC lC ∧ Below W.heap.size W w24) := Lib.hid ⟨m0, m1, m2, m3, m4, x0, x1, x2, q0⟩
  clear m0 m1 m2 m3 m4 x0 x1 x2 x3 q0 HS25
  obtain ⟨m0, m1, m2, m3, m4, x0, x1, x2, q0⟩ := HS26.out
  have HC27 := Lib.hid (cList_any sb2 bm2 S3 w24 m0)
  have HL27 := Lib.hid m0.2.2.2
  clear m0 m1 m2 m3 m4 x0 x1 x2 q0
  go_wp2_with (go_at_call 19; refine HC27.out.mono ?_; rintro e w27 ⟨v, rfl, ho, q⟩; refine Hid.out ?_)
  refine Lib.hid ?_
  obtain ⟨aT, cT, rfl, -, -, he⟩ := ho.form
  obtain ⟨nT, hnT⟩ : ∃ n, n = (S3).length := ⟨_, rfl⟩
  rw [← hnT]
  have HNT := Lib.hid hnT
  have HLeT : Hid ((S3).length ≤ 9223372036854775807) := Lib.hid (by have := HL27.out; omega)
  clear hnT
  obtain ⟨m0, m1, m2, m3, m4, x0, x1, x2, q0⟩ := HS26.out
  have HS28 : Hid (CAt w27 sb2 bm2 S3 ∧ CAt w27 sb4 bm4 S2 ∧ CAt w27 sb6 bm6 SB ∧ CAt w27 sb13 bm13 SC ∧ CAt w27 sb20 bm20 SC ∧ EntsAt w27 aA lA ∧ EntsAt w27 aB lB ∧ EntsAt w27 aC lC ∧ EntsAt w27 aT S3 ∧ Below W.heap.size W w27) := Lib.hid ⟨m0.on q, m1.on q, m2.on q, m3.on q, m4.on q, x0.on q, x1.on q, x2.on q, he, q0.trans (q.mono q0.size)⟩
  clear m0 m1 m2 m3 m4 x0 x1 x2 q0 HS26
  clear he q ho HC27 HL27
  obtain ⟨m0, m1, m2, m3, m4, x0, x1, x2, x3, q0⟩ := HS28.out
  have HC29 := Lib.hid (cof_any aA cA lA w27 x0 HLA.out nA HNA.out)
  clear m0 m1 m2 m3 m4 x0 x1 x2 x3 q0
  go_wp2_with (go_at_call 24; refine HC29.out.mono ?_; rintro e w29 ⟨sb29, bm29, rfl, hm, hge, q⟩; refine Hid.out ?_)
  refine Lib.hid ?_
  rw [HEA.out] at hm
  obtain ⟨m0, m1, m2, m3, m4, x0, x1, x2, x3, q0⟩ := HS28.out
  have HNE_0_5 : Hid (bm2 ≠ bm29) := Lib.hid (by have := m0.2.1.lt; omega)
  have HNE_1_5 : Hid (bm4 ≠ bm29) := Lib.hid (by have := m1.2.1.lt; omega)
  have HNE_2_5 : Hid (bm6 ≠ bm29) := Lib.hid (by have := m2.2.1.lt; omega)
  have HNE_3_5 : Hid (bm13 ≠ bm29) := Lib.hid (by have := m3.2.1.lt; omega)
  have HNE_4_5 : Hid (bm20 ≠ bm29) := Lib.hid (by have := m4.2.1.lt; omega)
  have HGE_5 : Hid (W.heap.size ≤ bm29) := Lib.hid (Nat.le_trans q0.size hge.2)
  clear m0 m1 m2 m3 m4 x0 x1 x2 x3 q0
  obtain ⟨m0, m1, m2, m3, m4, x0, x1, x2, x3, q0⟩ := HS28.out
  have HS30 : Hid (CAt w29 sb2 bm2 S3 ∧ CAt w29 sb4 bm4 S2 ∧ CAt w29 sb6 bm6 SB ∧ CAt w29 sb13 bm13 SC ∧ CAt w29 sb20 bm20 SC ∧ CAt w29 sb29 bm29 SA ∧ EntsAt w29 aA lA ∧ EntsAt w29 aB lB ∧ EntsAt w29 aC lC ∧ EntsAt w29 aT S3 ∧ Below W.heap.size W w29) := Lib.hid ⟨m0.on q, m1.on q, m2.on q, m3.on q, m4.on q, hm, x0.on q, x1.on q, x2.on q, x3.on q, q0.trans (q.mono q0.size)⟩
  clear m0 m1 m2 m3 m4 x0 x1 x2 x3 q0 HS28
  clear hm hge q HC29
  obtain ⟨m0, m1, m2, m3, m4, m5, x0, x1, x2, x3, q0⟩ := HS30.out
  have HC31 := Lib.hid (cList_any sb4 bm4 S2 w29 m1)
  have HL31 := Lib.hid m1.2.2.2
  clear m0 m1 m2 m3 m4 m5 x0 x1 x2 x3 q0
  go_wp2_with (go_at_call 19; refine HC31.out.mono ?_; rintro e w31 ⟨v, rfl, ho, q⟩; refine Hid.out ?_)
  refine Lib.hid ?_
  obtain ⟨aU, cU, rfl, -, -, he⟩ := ho.form
  obtain ⟨nU, hnU⟩ : ∃ n, n = (S2).length := ⟨_, rfl⟩
  rw [← hnU]
  have HNU := Lib.hid hnU
  have HLeU : Hid ((S2).length ≤ 9223372036854775807) := Lib.hid (by have := HL31.out; omega)
  clear hnU
  obtain ⟨m0, m1, m2, m3, m4, m5, x0, x1, x2, x3, q0⟩ := HS30.out
  have HS32 : Hid (CAt w31 sb2 bm2 S3 ∧ CAt w31 sb4 bm4 S2 ∧ CAt w31 sb6 bm6 SB ∧ CAt w31 sb13 bm13 SC ∧ CAt w31 sb20 bm20 SC ∧ CAt w31 sb29 bm29 SA ∧ EntsAt w31 aA lA ∧ EntsAt w31 aB lB ∧ EntsAt w31 aC lC ∧ EntsAt w31 aT S3 ∧ EntsAt w31 aU S2 ∧ Below W.heap.size W w31) := Lib.hid ⟨m0.on q, m1.on q, m2.on q, m3.on q, m4.on q, m5.on q, x0.on q, x1.on q, x2.on q, x3.on q, he, q0.trans (q.mono q0.size)⟩
  clear m0 m1 m2 m3 m4 m5 x0 x1 x2 x3 q0 HS30
  clear he q ho HC31 HL31
  obtain ⟨m0, m1, m2, m3, m4, m5, x0, x1, x2, x3, x4, q0⟩ := HS32.out
  have HC33 := Lib.hid (cMerge_any sb29 bm29 SA aU cU S2 w31 m5 x4 HLeU.out nU HNU.out)
  clear m0 m1 m2 m3 m4 m5 x0 x1 x2 x3 x4 q0
  generalize mergeN SA S2 = cn33 at *
  go_wp2_with (go_at_call 12; refine HC33.out.mono ?_; rintro e w33 ⟨rfl, hm, hg⟩; refine Hid.out ?_)
  refine Lib.hid ?_
  rw [HE4.out] at hm
  obtain ⟨m0, m1, m2, m3, m4, m5, x0, x1, x2, x3, x4, q0⟩ := HS32.out
  have HS34 : Hid (CAt w33 sb2 bm2 S3 ∧ CAt w33 sb4 bm4 S2 ∧ CAt w33 sb6 bm6 SB ∧ CAt w33 sb13 bm13 SC ∧ CAt w33 sb20 bm20 SC ∧ CAt w33 sb29 bm29 S3 ∧ EntsAt w33 aA lA ∧ EntsAt w33 aB lB ∧ EntsAt w33 aC lC ∧ EntsAt w33 aT S3 ∧ EntsAt w33 aU S2 ∧ Below W.heap.size W w33) := Lib.hid ⟨m0.apart2 m5.2.1 hg (HNE_0_5.out), m1.apart2 m5.2.1 hg (HNE_1_5.out), m2.apart2 m5.2.1 hg (HNE_2_5.out), m3.apart2 m5.2.1 hg (HNE_3_5.out), m4.apart2 m5.2.1 hg (HNE_4_5.out), hm, x0.turn hg m5.2.1, x1.turn hg m5.2.1, x2.turn hg m5.2.1, x3.turn hg m5.2.1, x4.turn hg m5.2.1, q0.grown hg q0.size (fun j hj => by cases hj; exact HGE_5.out)⟩
  clear m0 m1 m2 m3 m4 m5 x0 x1 x2 x3 x4 q0 HS32
  clear hm hg HC33
  obtain ⟨m0, m1, m2, m3, m4, m5, x0, x1, x2, x3, x4, q0⟩ := HS34.out
  have HS35 : Hid (CAt w33 sb2 bm2 S3 ∧ CAt w33 sb4 bm4 S2 ∧ CAt w33 sb6 bm6 SB ∧ CAt w33 sb13 bm13 SC ∧ CAt w33 sb20 bm20 SC ∧ CAt w33 sb29 bm29 S3 ∧ EntsAt w33 aA lA ∧ EntsAt w33 aB lB ∧ EntsAt w33 aC lC ∧ EntsAt w33 aT S3 ∧ Below W.heap.size W w33) := Lib.hid ⟨m0, m1, m2, m3, m4, m5, x0, x1, x2, x3, q0⟩
  clear m0 m1 m2 m3 m4 m5 x0 x1 x2 x3 x4 q0 HS34
  obtain ⟨m0, m1, m2, m3, m4, m5, x0, x1, x2, x3, q0⟩ := HS35.out
  have HC36 := Lib.hid (cList_any sb29 bm29 S3 w33 m5)
  have HL36 := Lib.hid m5.2.2.2
  clear m0 m1 m2 m3 m4 m5 x0 x1 x2 x3 q0
  go_wp2_with (go_at_call 19; refine HC36.out.mono ?_; rintro e w36 ⟨v, rfl, ho, q⟩; refine Hid.out ?_)
  refine Lib.hid ?_
  obtain ⟨aV, cV, rfl, -, -, he⟩ := ho.form
  obtain ⟨nV, hnV⟩ : ∃ n, n = (S3).length := ⟨_, rfl⟩
  rw [← hnV]
  have HNV := Lib.hid hnV
  have HLeV : Hid ((S3).length ≤ 9223372036854775807) := Lib.hid (by have := HL36.out; omega)
  clear hnV
  obtain ⟨m0, m1, m2, m3, m4, m5, x0, x1, x2, x3, q0⟩ := HS35.out
  have HS37 : Hid (CAt w36 sb2 bm2 S3 ∧ CAt w36 sb4 bm4 S2 ∧ CAt w36 sb6 bm6 SB ∧ CAt w36 sb13 bm13 SC ∧ CAt w36 sb20 bm20 SC ∧ CAt w36 sb29 bm29 S3 ∧ EntsAt w36 aA lA ∧ EntsAt w36 aB lB ∧ EntsAt w36 aC lC ∧ EntsAt w36 aT S3 ∧ EntsAt w36 aV S3 ∧ Below W.heap.size W w36) := Lib.hid ⟨m0.on q, m1.on q, m2.on q, m3.on q, m4.on q, m5.on q, x0.on q, x1.on q, x2.on q, x3.on q, he, q0.trans (q.mono q0.size)⟩
  clear m0 m1 m2 m3 m4 m5 x0 x1 x2 x3 q0 HS35
  clear he q ho HC36 HL36
  obtain ⟨m0, m1, m2, m3, m4, m5, x0, x1, x2, x3, x4, q0⟩ := HS37.out
  have HC38 := Lib.hid (cSame_any aT aV cT cV S3 S3 w36 x3 x4 HLeT.out nT nV HNT.out HNV.out)
  rw [sameC_refl] at HC38
  clear m0 m1 m2 m3 m4 m5 x0 x1 x2 x3 x4 q0
  go_wp2_with (go_at_call 25; refine HC38.out.mono ?_; rintro e w38 ⟨rfl, q⟩; refine Hid.out ?_)
  refine Lib.hid ?_
  obtain ⟨m0, m1, m2, m3, m4, m5, x0, x1, x2, x3, x4, q0⟩ := HS37.out
  have HS39 : Hid (CAt w38 sb2 bm2 S3 ∧ CAt w38 sb4 bm4 S2 ∧ CAt w38 sb6 bm6 SB ∧ CAt w38 sb13 bm13 SC ∧ CAt w38 sb20 bm20 SC ∧ CAt w38 sb29 bm29 S3 ∧ EntsAt w38 aA lA ∧ EntsAt w38 aB lB ∧ EntsAt w38 aC lC ∧ EntsAt w38 aT S3 ∧ EntsAt w38 aV S3 ∧ Below W.heap.size W w38) := Lib.hid ⟨m0.on q, m1.on q, m2.on q, m3.on q, m4.on q, m5.on q, x0.on q, x1.on q, x2.on q, x3.on q, x4.on q, q0.trans (q.mono q0.size)⟩
  clear m0 m1 m2 m3 m4 m5 x0 x1 x2 x3 x4 q0 HS37
  clear q HC38
  obtain ⟨m0, m1, m2, m3, m4, m5, x0, x1, x2, x3, x4, q0⟩ := HS39.out
  have HC40 := Lib.hid (cMerge_any sb2 bm2 S3 aT cT S3 w38 m0 x3 HLeT.out nT HNT.out)
  clear m0 m1 m2 m3 m4 m5 x0 x1 x2 x3 x4 q0
  rw [HP2.out] at HC40
  go_wp2_with (go_at_call 12; refine HC40.out.mono ?_; rintro e w40 ⟨rfl, hm, hg⟩; refine Hid.out ?_)
  refine Lib.hid ?_
  rw [HP3.out] at hm
  obtain ⟨m0, m1, m2, m3, m4, m5, x0, x1, x2, x3, x4, q0⟩ := HS39.out
  have HS41 : Hid (CAt w40 sb2 bm2 S3 ∧ CAt w40 sb4 bm4 S2 ∧ CAt w40 sb6 bm6 SB ∧ CAt w40 sb13 bm13 SC ∧ CAt w40 sb20 bm20 SC ∧ CAt w40 sb29 bm29 S3 ∧ EntsAt w40 aA lA ∧ EntsAt w40 aB lB ∧ EntsAt w40 aC lC ∧ EntsAt w40 aT S3 ∧ EntsAt w40 aV S3 ∧ Below W.heap.size W w40) := Lib.hid ⟨hm, m1.apart2 m0.2.1 hg (fun e => HNE_0_1.out e.symm), m2.apart2 m0.2.1 hg (fun e => HNE_0_2.out e.symm), m3.apart2 m0.2.1 hg (fun e => HNE_0_3.out e.symm), m4.apart2 m0.2.1 hg (fun e => HNE_0_4.out e.symm), m5.apart2 m0.2.1 hg (fun e => HNE_0_5.out e.symm), x0.turn hg m0.2.1, x1.turn hg m0.2.1, x2.turn hg m0.2.1, x3.turn hg m0.2.1, x4.turn hg m0.2.1, q0.grown hg q0.size (fun j hj => by cases hj; exact HGE_0.out)⟩
  clear m0 m1 m2 m3 m4 m5 x0 x1 x2 x3 x4 q0 HS39
  clear hm hg HC40
  obtain ⟨m0, m1, m2, m3, m4, m5, x0, x1, x2, x3, x4, q0⟩ := HS41.out
  have HC42 := Lib.hid (cMerge_any sb2 bm2 S3 aA cA lA w40 m0 x0 HLA.out nA HNA.out)
  clear m0 m1 m2 m3 m4 m5 x0 x1 x2 x3 x4 q0
  rw [HP4.out] at HC42
  go_wp2_with (go_at_call 12; refine HC42.out.mono ?_; rintro e w42 ⟨rfl, hm, hg⟩; refine Hid.out ?_)
  refine Lib.hid ?_
  rw [HP5.out] at hm
  obtain ⟨m0, m1, m2, m3, m4, m5, x0, x1, x2, x3, x4, q0⟩ := HS41.out
  have HS43 : Hid (CAt w42 sb2 bm2 S3 ∧ CAt w42 sb4 bm4 S2 ∧ CAt w42 sb6 bm6 SB ∧ CAt w42 sb13 bm13 SC ∧ CAt w42 sb20 bm20 SC ∧ CAt w42 sb29 bm29 S3 ∧ EntsAt w42 aA lA ∧ EntsAt w42 aB lB ∧ EntsAt w42 aC lC ∧ EntsAt w42 aT S3 ∧ EntsAt w42 aV S3 ∧ Below W.heap.size W w42) := Lib.hid ⟨hm, m1.apart2 m0.2.1 hg (fun e => HNE_0_1.out e.symm), m2.apart2 m0.2.1 hg (fun e => HNE_0_2.out e.symm), m3.apart2 m0.2.1 hg (fun e => HNE_0_3.out e.symm), m4.apart2 m0.2.1 hg (fun e => HNE_0_4.out e.symm), m5.apart2 m0.2.1 hg (fun e => HNE_0_5.out e.symm), x0.turn hg m0.2.1, x1.turn hg m0.2.1, x2.turn hg m0.2.1, x3.turn hg m0.2.1, x4.turn hg m0.2.1, q0.grown hg q0.size (fun j hj => by cases hj; exact HGE_0.out)⟩
  clear m0 m1 m2 m3 m4 m5 x0 x1 x2 x3 x4 q0 HS41
  clear hm hg HC42
  go_wp2_with (go_at_call 10; refine (cawake_any _).mono ?_; rintro e w44 ⟨rfl, q⟩)
  obtain ⟨m0, m1, m2, m3, m4, m5, x0, x1, x2, x3, x4, q0⟩ := HS43.out
  go_ret
  exact ⟨rfl, q0.trans (q.mono q0.size)⟩

end Go.Proofs.Ytjkhonelidhakab
