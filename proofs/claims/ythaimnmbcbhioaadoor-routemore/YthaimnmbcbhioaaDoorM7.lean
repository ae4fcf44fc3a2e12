/-
  The reference's Check and CheckAll. The reference's One and All.
-/
import Derived.Test.YthaimnmbcbhioaaDoorM6a
import Derived.Test.YthaimnmbcbhioaaDoorLRef1
import Derived.Test.YthaimnmbcbhioaaDoorXPr
import Derived.Test.YthaimnmbcbhioaaDoorXEnds
namespace Go.Proofs.YthaimnmbcbhioaaDoor
open Go.RowKit Go.Shelf

set_option maxRecDepth 20000 in
set_option maxHeartbeats 2000000 in
theorem nCheck_any (n : ByteArray) (o : Nat) (v : ByteArray) (w : World) (hn : n.size ≤ 9223372036854775807) :
    Calls Tryd.prog 68 #[.agg #[.string n, .int .u8 (o : Int), .string v]] w fun e w' => e = .returned (.int .i64 (mErr (n, o, v))) ∧ Below w.heap.size w w' := by
  have HN := Lib.hid (fun u => refName_any n u hn)
  have kz := zero_tree
  have kn := treeC_size
  have hA := Lib.hid (fun (o : Obj) => (Below.refl w.heap.size w).alloc (Nat.le_refl _) o)
  unfold mErr
  by_cases h1 : NameOk n
  · rw [decide_eq_true h1] at HN
    rw [if_neg (Classical.not_not.2 h1)]
    clear h1
    by_cases h2 : 3 < o
    · rw [if_pos h2]
      have h2' : (3 : Int) < (o : Int) := by omega
      clear h2
      go_enter Tryd.func68, Tryd.ntmps68
      go_wp2_with (go_at_call 73; refine (HN.out _).mono ?_; rintro e w1 ⟨rfl, rfl⟩)
      go_ret
      exact ⟨rfl, hA.out _⟩
    · rw [if_neg h2]
      have h2' : ¬ (3 : Int) < (o : Int) := by omega
      by_cases h3 : 64 < v.size
      · rw [if_pos h3]
        have h3' : (64 : Int) < (v.size : Int) := by omega
        clear h2 h3
        go_enter Tryd.func68, Tryd.ntmps68
        go_wp2_with (go_at_call 73; refine (HN.out _).mono ?_; rintro e w1 ⟨rfl, rfl⟩)
        go_ret
        exact ⟨rfl, hA.out _⟩
      · rw [if_neg h3]
        have h3' : ¬ (64 : Int) < (v.size : Int) := by omega
        by_cases h4 : 2 ≤ o
        · rw [if_pos h4]
          have hPE : ∀ u, Calls Tryd.prog 74 #[.string v] u fun e w' => (∃ t, e = .returned (.tuple #[.agg (treeC t), .int .i64 (errE v.data.toList)])) ∧ Below u.heap.size u w' := fun u => by
            by_cases h5 : errE v.data.toList = 0
            · rw [h5]
              obtain ⟨h6, A, hA⟩ := errE_zero h5
              exact (eParse_ok v u (by omega) A hA).mono fun e w' ⟨⟨t, ht, _⟩, hb⟩ => ⟨⟨t, ht⟩, hb⟩
            · exact eParse_err v u h5
          have HP := Lib.hid hPE
          generalize errE v.data.toList = E at *
          clear hPE
          rcases (by omega : o = 2 ∨ o = 3) with rfl | rfl
          all_goals
            clear h4 h3 h2
            go_enter Tryd.func68, Tryd.ntmps68
            go_wp2_with (first | (go_at_call 73; refine (HN.out _).mono ?_; rintro e w1 ⟨rfl, rfl⟩) | (go_at_call 74; refine (HP.out _).mono ?_; rintro e w1 ⟨⟨t, rfl⟩, hb1⟩; refine Hid.out ?_))
            refine Lib.hid ?_
            have ks0 := store_last w1 w1.heap.size rfl (noT 0) t
            have hb2 := ((hA.out _).trans (hb1.mono (by simp))).alloc (Nat.le_trans (hA.out _).size hb1.size) (.cells (treeC t) 102)
            go_wp2
            go_ret
            exact ⟨rfl, hb2⟩
        · rw [if_neg h4]
          rcases (by omega : o = 0 ∨ o = 1) with rfl | rfl
          all_goals
            clear h4 h3 h2
            go_enter Tryd.func68, Tryd.ntmps68
            go_wp2_with (go_at_call 73; refine (HN.out _).mono ?_; rintro e w1 ⟨rfl, rfl⟩)
            go_ret
            exact ⟨rfl, hA.out _⟩
  · rw [decide_eq_false h1] at HN
    rw [if_pos h1]
    clear h1
    go_enter Tryd.func68, Tryd.ntmps68
    go_wp2_with (go_at_call 73; refine (HN.out _).mono ?_; rintro e w1 ⟨rfl, rfl⟩)
    go_ret
    exact ⟨rfl, hA.out _⟩

set_option maxHeartbeats 1000000 in
theorem refGet_any (a : Option Addr) (c : Nat) (ps : List Pr) (s : ByteArray) (w : World) (h : PairsAt w a ps) (hn : ps.length ≤ 9223372036854775807) (n : Nat) (hnl : n = ps.length) :
    Calls Tryd.prog 48 #[.slice a n c, .string s] w fun e w' => e = .returned (.string (getV ps s.toList)) ∧ w' = w := by
  subst hnl
  go_enter Tryd.func48, Tryd.ntmps48
  go_wp2
  go_loop [5] (fun i => ∃ k : Nat, k ≤ ps.length ∧ i = .int .i64 k ∧ ∀ j, j < k → ∀ hj : j < ps.length, nm ps[j] ≠ s.toList) (fun i => ps.length - (intOf i).toNat)
  case atStart => exact ⟨0, Nat.zero_le _, rfl, fun j hj => absurd hj (Nat.not_lt_zero _)⟩
  case round =>
    obtain ⟨k, hk, rfl, hall⟩ := hrel
    by_cases hlt : k < ps.length
    · have hkl : (k : Int) < (ps.length : Int) := by omega
      obtain ⟨b, o, rfl, hc⟩ := h (by omega)
      obtain ⟨hc1, hc2⟩ := hc k hlt
      clear hc h
      by_cases hE : nm ps[k] = s.toList
      · have hE' : (ps[k].1.toList == s.toList) = true := beq_iff_eq.2 hE
        have HV := Lib.hid (getV_hit ps s.toList k hlt hall hE)
        clear hall hE
        go_wp2
        go_ret
        exact ⟨by rw [HV.out]; rfl, rfl⟩
      · have hE' : (ps[k].1.toList == s.toList) = false := beq_eq_false_iff_ne.2 hE
        have HA := Lib.hid (upto_succ hall fun _ => hE)
        clear hall hE
        go_wp2
        go_round
        case rel => exact ⟨k + 1, by omega, by go_num, HA.out⟩
        case measure => simp [intOf]; omega
    · obtain rfl : k = ps.length := by omega
      have HV : Hid (getV ps s.toList = ⟨#[]⟩) := by
        rw [getV_skip ps s.toList ps.length (Nat.le_refl _) hall, List.drop_length]
        exact rfl
      clear hall
      go_wp2
      go_ret
      exact ⟨by rw [HV.out]; rfl, rfl⟩

set_option maxRecDepth 20000 in
set_option maxHeartbeats 2000000 in
theorem nOne_any (n : ByteArray) (o : Nat) (v : ByteArray) (a : Option Addr) (c : Nat) (ps : List Pr) (w : World) (hns : n.size ≤ 9223372036854775807) (h : PairsAt w a ps) (hn : ps.length ≤ 9223372036854775807) (hv : ∀ p ∈ ps, p.2.size ≤ 1000) (k : Nat) (hk : k = ps.length) :
    Calls Tryd.prog 60 #[.agg #[.string n, .int .u8 (o : Int), .string v], .slice a k c] w fun e w' => Tells (mAsk ps (n, o, v)) e ∧ Below w.heap.size w w' := by
  subst hk
  have HC := Lib.hid (fun u => nCheck_any n o v u hns)
  have hbA := Lib.hid (fun (o : Obj) => (Below.refl w.heap.size w).alloc (Nat.le_refl _) o)
  by_cases he : mErr (n, o, v) = 0
  · rw [he] at HC
    obtain ⟨-, ho, h64, hE⟩ := mErr_zero he
    simp only at ho h64 hE
    have hA : mAsk ps (n, o, v) ↔ mHas (n, o, v) (getV ps n.toList) := by unfold mAsk; simp [he]
    have hvg : (getV ps n.toList).size ≤ 1000 := by
      unfold getV
      split
      · rename_i p hp
        exact hv p (List.mem_of_find?_eq_some hp)
      · decide
    have HG := Lib.hid (fun u (hu : PairsAt u a ps) => refGet_any a c ps n u hu hn _ rfl)
    generalize getV ps n.toList = V at *
    simp only [hA]
    clear hA hv
    go_enter Tryd.func60, Tryd.ntmps60
    go_wp2_with (go_at_call 68; refine (HC.out _).mono ?_; rintro e w1 ⟨rfl, hb1⟩; refine Hid.out ?_)
    refine Lib.hid ?_
    have hb1' := (hbA.out _).trans (hb1.mono (by simp))
    have HG1 := Lib.hid (HG.out w1 (h.below hb1' (Nat.le_refl _)))
    have hm0 : MtBlk w1 w.heap.size (n, o, v) := (hb1.block w.heap.size (by simp)).trans (heap_new w _)
    have c0 : w1.cell? ⟨w.heap.size, 0, none⟩ = some (.string n) := hm0.cell0
    go_wp2_with (go_at_call 48; refine HG1.out.mono ?_; rintro e w2 ⟨rfl, rfl⟩; refine Hid.out ?_)
    refine Lib.hid ?_
    have hb2' := hb1'
    have hm2 := hm0
    have c1 : w2.cell? ⟨w.heap.size, 1, none⟩ = some (.int .u8 (o : Int)) := hm2.cell1
    have c2 : w2.cell? ⟨w.heap.size, 2, none⟩ = some (.string v) := hm2.cell2
    clear c0 HG HG1 HC hb1 hm0 hb1' hbA
    rcases (by omega : o = 0 ∨ o = 1 ∨ o = 2 ∨ o = 3) with rfl | rfl | rfl | rfl
    · have HF : Hid ((V.toList == v.toList) = true ↔ mHas (n, 0, v) V) := Lib.hid (by unfold mHas; simp)
      go_wp2_with fail
      go_ret
      exact ⟨tells_of HF.out, hb2'⟩
    · go_wp2_with fail
      go_ret
      exact ⟨tells_of (by unfold mHas; simp), hb2'⟩
    all_goals
      obtain ⟨h6, A, hA⟩ := errE_zero (hE (by decide))
      have HL := Lib.hid (eLike_ok v V w2 h64 A hA hvg)
      have HP := Lib.hid (likeP_of hA V.data.toList)
      clear hA hE h6
    · go_wp2_with (go_at_call 69; refine HL.out.mono ?_; rintro e w3 ⟨⟨b, rfl, hb⟩, hb3⟩; have HB := Lib.hid hb; clear hb; refine Hid.out ?_)
      refine Lib.hid ?_
      have c1' : w3.cell? ⟨w.heap.size, 1, none⟩ = some (.int .u8 2) := (hb3.cell (p := ⟨w.heap.size, 1, none⟩) hm2.lt).trans c1
      clear c1 c2 HL
      go_wp2_with fail
      go_ret
      refine ⟨tells_of ?_, hb2'.trans (hb3.mono hb2'.size)⟩
      unfold mHas
      simp [HP.out, HB.out]
    · go_wp2_with (go_at_call 69; refine HL.out.mono ?_; rintro e w3 ⟨⟨b, rfl, hb⟩, hb3⟩; have HB := Lib.hid hb; clear hb; refine Hid.out ?_)
      refine Lib.hid ?_
      have c1' : w3.cell? ⟨w.heap.size, 1, none⟩ = some (.int .u8 3) := (hb3.cell (p := ⟨w.heap.size, 1, none⟩) hm2.lt).trans c1
      clear c1 c2 HL
      go_wp2_with fail
      go_ret
      refine ⟨tells_of ?_, hb2'.trans (hb3.mono hb2'.size)⟩
      unfold mHas
      simp [HP.out, ← HB.out]
  · have HN := Lib.hid (mAsk_no (ps := ps) he)
    have hb : ((mErr (n, o, v) : Int) != 0) = true := by simpa using he
    generalize mErr (n, o, v) = Er at *
    clear he
    go_enter Tryd.func60, Tryd.ntmps60
    go_wp2_with (go_at_call 68; refine (HC.out _).mono ?_; rintro e w1 ⟨rfl, hb1⟩)
    go_ret
    exact ⟨⟨false, rfl, by simpa using HN.out⟩, (hbA.out _).trans (hb1.mono (by simp))⟩


set_option maxRecDepth 20000 in
set_option maxHeartbeats 2000000 in
theorem nAll_any (a : Option Addr) (c : Nat) (ms : List Mt) (b : Option Addr) (d : Nat) (ps : List Pr) (w : World) (hm : MtsAt w a ms) (hml : ms.length ≤ 9223372036854775807) (hz : ∀ m ∈ ms, m.1.size ≤ 9223372036854775807) (h : PairsAt w b ps) (hn : ps.length ≤ 9223372036854775807) (hv : ∀ q ∈ ps, q.2.size ≤ 1000) :
    Calls Tryd.prog 47 #[.slice a ms.length c, .slice b ps.length d] w fun e w' => Tells (∀ m ∈ ms, mAsk ps m) e ∧ Below w.heap.size w w' := by
  go_enter Tryd.func47, Tryd.ntmps47
  go_wp2
  go_loopw [5] (fun i wr => ∃ k : Nat, k ≤ ms.length ∧ i = .int .i64 k ∧ Below w.heap.size w wr ∧ Hid (∀ j (_ : j < k) (hj : j < ms.length), mAsk ps ms[j])) (fun i _ => ms.length - (intOf i).toNat)
  case atStart => exact ⟨0, Nat.zero_le _, rfl, Below.refl _ _, Lib.hid fun j hj => absurd hj (Nat.not_lt_zero _)⟩
  case round =>
    obtain ⟨k, hk, rfl, hb, HA⟩ := hrel
    by_cases hlt : k < ms.length
    · have hkl : (k : Int) < (ms.length : Int) := by omega
      obtain ⟨mb, mo, rfl, hmb, hc⟩ := hm (by omega)
      obtain ⟨d0, d1, d2⟩ := hc k hlt
      rw [← hb.cell (p := ⟨mb, mo + k * 3, none⟩) hmb] at d0
      rw [← hb.cell (p := ⟨mb, mo + k * 3 + 1, none⟩) hmb] at d1
      rw [← hb.cell (p := ⟨mb, mo + k * 3 + 2, none⟩) hmb] at d2
      have HK1 := Lib.hid (nOne_any ms[k].1 ms[k].2.1 ms[k].2.2 b d ps wr (hz _ (List.getElem_mem hlt)) (h.below hb (Nat.le_refl _)) hn hv _ rfl)
      rw [show ((ms[k].1, ms[k].2.1, ms[k].2.2) : Mt) = ms[k] from rfl] at HK1
      clear hc hm hz h hv
      by_cases he : mAsk ps ms[k]
      · have HA2 : Hid (∀ j (_ : j < k + 1) (hj : j < ms.length), mAsk ps ms[j]) := Lib.hid fun j hj hl => by
          by_cases e : j = k
          · subst e; exact he
          · exact HA.out j (by omega) hl
        have HE := Lib.hid he
        clear he HA
        generalize ms[k].1 = n at *
        generalize ms[k].2.1 = o at *
        generalize ms[k].2.2 = v at *
        go_wp2_with (go_at_call 60; refine HK1.out.mono ?_; rintro e w2 ⟨ht, q2⟩; obtain rfl := tells_true ht HE.out; clear ht)
        go_roundw
        case rel => exact ⟨k + 1, by omega, by go_num, hb.trans (q2.mono hb.size), HA2⟩
        case measure => simp [intOf]; omega
      · have HR : Hid (¬ ∀ m ∈ ms, mAsk ps m) := Lib.hid fun k' => he (k' _ (List.getElem_mem hlt))
        have HE := Lib.hid he
        clear he HA
        generalize ms[k].1 = n at *
        generalize ms[k].2.1 = o at *
        generalize ms[k].2.2 = v at *
        go_wp2_with (go_at_call 60; refine HK1.out.mono ?_; rintro e w2 ⟨ht, q2⟩; obtain rfl := tells_false ht HE.out; clear ht)
        go_ret
        exact ⟨⟨false, rfl, by simpa using HR.out⟩, hb.trans (q2.mono hb.size)⟩
    · obtain rfl : k = ms.length := by omega
      have HR : Hid (∀ m ∈ ms, mAsk ps m) := Lib.hid (fun m hm => by
        obtain ⟨i, hi, rfl⟩ := List.getElem_of_mem hm
        exact HA.out i hi hi)
      clear HA
      go_wp2
      go_ret
      exact ⟨⟨true, rfl, by simpa using HR.out⟩, hb⟩

end Go.Proofs.YthaimnmbcbhioaaDoor
