/-
  The reference's Check and CheckAll. The reference's One and All. The document's answer for P1.1, walked: told, Told, Int, Text, List of the reference.
-/
import Derived.Test.YtcngifkoopcmeaaGreatDoorK14
import Derived.Test.YtcngifkoopcmeaaGreatDoorK27
import Derived.Test.YtcngifkoopcmeaaGreatDoorK34
import Derived.Test.YtcngifkoopcmeaaGreatDoorK35
import Derived.Test.YtcngifkoopcmeaaGreatDoorK19
import Derived.Lib.SlBytesConst
namespace Go.Proofs.YtcngifkoopcmeaaGreatDoor
open Go.RowKit Go.Shelf

set_option maxRecDepth 20000 in
set_option maxHeartbeats 2000000 in
theorem nCheck_any (n : ByteArray) (o : Nat) (v : ByteArray) (w : World) (hn : n.size ≤ 9223372036854775807) :
    Calls Tryz.prog 122 #[.agg #[.string n, .int .u8 (o : Int), .string v]] w fun e w' => e = .returned (.int .i64 (mErr (n, o, v))) ∧ Below w.heap.size w w' := by
  have HN := Lib.hid (fun u => refName_any n u hn)
  have kz := zero_tree
  have kn := treeC_size
  have hA := Lib.hid (fun (o : Obj) => (Below.refl w.heap.size w).alloc (Nat.le_refl _) o)
  unfold mErr
  by_cases h1 : NameOk n
  · rw [decide_eq_true h1] at HN
    rw [if_neg (Classical.not_not.2 h1)]
    clear h1
    by_cases h2 : 3 < o
    · rw [if_pos h2]
      have h2' : (3 : Int) < (o : Int) := by omega
      clear h2
      go_enter Tryz.func122, Tryz.ntmps122
      go_wp2_with (go_at_call 72; refine (HN.out _).mono ?_; rintro e w1 ⟨rfl, rfl⟩)
      go_ret
      exact ⟨rfl, hA.out _⟩
    · rw [if_neg h2]
      have h2' : ¬ (3 : Int) < (o : Int) := by omega
      by_cases h3 : 64 < v.size
      · rw [if_pos h3]
        have h3' : (64 : Int) < (v.size : Int) := by omega
        clear h2 h3
        go_enter Tryz.func122, Tryz.ntmps122
        go_wp2_with (go_at_call 72; refine (HN.out _).mono ?_; rintro e w1 ⟨rfl, rfl⟩)
        go_ret
        exact ⟨rfl, hA.out _⟩
      · rw [if_neg h3]
        have h3' : ¬ (64 : Int) < (v.size : Int) := by omega
        by_cases h4 : 2 ≤ o
        · rw [if_pos h4]
          have hPE : ∀ u, Calls Tryz.prog 154 #[.string v] u fun e w' => (∃ t, e = .returned (.tuple #[.agg (treeC t), .int .i64 (errE v.data.toList)])) ∧ Below u.heap.size u w' := fun u => by
            by_cases h5 : errE v.data.toList = 0
            · rw [h5]
              obtain ⟨h6, A, hA⟩ := errE_zero h5
              exact (eParse_ok v u (by omega) A hA).mono fun e w' ⟨⟨t, ht, _⟩, hb⟩ => ⟨⟨t, ht⟩, hb⟩
            · exact eParse_err v u h5
          have HP := Lib.hid hPE
          generalize errE v.data.toList = E at *
          clear hPE
          rcases (by omega : o = 2 ∨ o = 3) with rfl | rfl
          all_goals
            clear h4 h3 h2
            go_enter Tryz.func122, Tryz.ntmps122
            go_wp2_with (first | (go_at_call 72; refine (HN.out _).mono ?_; rintro e w1 ⟨rfl, rfl⟩) | (go_at_call 154; refine (HP.out _).mono ?_; rintro e w1 ⟨⟨t, rfl⟩, hb1⟩; refine Hid.out ?_))
            refine Lib.hid ?_
            have ks0 := store_last w1 w1.heap.size rfl (noT 0) t
            have hb2 := ((hA.out _).trans (hb1.mono (by simp))).alloc (Nat.le_trans (hA.out _).size hb1.size) (.cells (treeC t) 207)
            go_wp2
            go_ret
            exact ⟨rfl, hb2⟩
        · rw [if_neg h4]
          rcases (by omega : o = 0 ∨ o = 1) with rfl | rfl
          all_goals
            clear h4 h3 h2
            go_enter Tryz.func122, Tryz.ntmps122
            go_wp2_with (go_at_call 72; refine (HN.out _).mono ?_; rintro e w1 ⟨rfl, rfl⟩)
            go_ret
            exact ⟨rfl, hA.out _⟩
  · rw [decide_eq_false h1] at HN
    rw [if_pos h1]
    clear h1
    go_enter Tryz.func122, Tryz.ntmps122
    go_wp2_with (go_at_call 72; refine (HN.out _).mono ?_; rintro e w1 ⟨rfl, rfl⟩)
    go_ret
    exact ⟨rfl, hA.out _⟩

set_option maxRecDepth 20000 in
set_option maxHeartbeats 2000000 in
theorem nCheckAll_any (a : Option Addr) (c : Nat) (ms : List Mt) (w : World) (hm : MtsAt w a ms) (hml : ms.length ≤ 9223372036854775807) (hz : ∀ m ∈ ms, m.1.size ≤ 9223372036854775807) :
    Calls Tryz.prog 73 #[.slice a ms.length c] w fun e w' => e = .returned (.int .i64 (checkAllE ms)) ∧ Below w.heap.size w w' := by
  unfold checkAllE
  by_cases h8 : 8 < ms.length
  · have h8' : (8 : Int) < (ms.length : Int) := by omega
    rw [if_pos h8]
    clear h8
    go_enter Tryz.func73, Tryz.ntmps73
    go_wp2
    go_ret
    exact ⟨rfl, Below.refl _ _⟩
  have h8' : ¬ (8 : Int) < (ms.length : Int) := by omega
  rw [if_neg h8]
  obtain ⟨E, HE⟩ : ∃ E, Hid (allE ms = E) := ⟨_, Lib.hid rfl⟩
  rw [HE.out]
  go_enter Tryz.func73, Tryz.ntmps73
  go_wp2
  go_loopw [3] (fun i wr => ∃ k : Nat, k ≤ ms.length ∧ i = .int .i64 k ∧ Below w.heap.size w wr ∧ Hid (∀ j (_ : j < k) (hj : j < ms.length), mErr ms[j] = 0)) (fun i _ => ms.length - (intOf i).toNat)
  case atStart => exact ⟨0, Nat.zero_le _, rfl, Below.refl _ _, Lib.hid fun j hj => absurd hj (Nat.not_lt_zero _)⟩
  case round =>
    obtain ⟨k, hk, rfl, hb, HA⟩ := hrel
    by_cases hlt : k < ms.length
    · have hkl : (k : Int) < (ms.length : Int) := by omega
      obtain ⟨mb, mo, rfl, hmb, hc⟩ := hm (by omega)
      obtain ⟨d0, d1, d2⟩ := hc k hlt
      rw [← hb.cell (p := ⟨mb, mo + k * 3, none⟩) hmb] at d0
      rw [← hb.cell (p := ⟨mb, mo + k * 3 + 1, none⟩) hmb] at d1
      rw [← hb.cell (p := ⟨mb, mo + k * 3 + 2, none⟩) hmb] at d2
      have HK1 := Lib.hid (nCheck_any ms[k].1 ms[k].2.1 ms[k].2.2 wr (hz _ (List.getElem_mem hlt)))
      rw [show ((ms[k].1, ms[k].2.1, ms[k].2.2) : Mt) = ms[k] from rfl] at HK1
      clear hc hm hz
      by_cases he : mErr ms[k] = 0
      · have HA2 : Hid (∀ j (_ : j < k + 1) (hj : j < ms.length), mErr ms[j] = 0) := Lib.hid fun j hj hl => by
          by_cases e : j = k
          · subst e; exact he
          · exact HA.out j (by omega) hl
        rw [he] at HK1
        clear he HA
        generalize ms[k].1 = n at *
        generalize ms[k].2.1 = o at *
        generalize ms[k].2.2 = v at *
        go_wp2_with (go_at_call 122; refine HK1.out.mono ?_; rintro e w2 ⟨rfl, q2⟩)
        go_roundw
        case rel => exact ⟨k + 1, by omega, by go_num, hb.trans (q2.mono hb.size), HA2⟩
        case measure => simp [intOf]; omega
      · have HR := Lib.hid (allE_hit hlt HA.out he)
        have hne : ((mErr ms[k] : Int) != 0) = true := by simpa using he
        clear he HA
        rw [← HR.out, HE.out] at HK1 hne
        clear HR
        generalize ms[k].1 = n at *
        generalize ms[k].2.1 = o at *
        generalize ms[k].2.2 = v at *
        go_wp2_with (go_at_call 122; refine HK1.out.mono ?_; rintro e w2 ⟨rfl, q2⟩)
        go_ret
        exact ⟨rfl, hb.trans (q2.mono hb.size)⟩
    · obtain rfl : k = ms.length := by omega
      have HR : Hid (allE ms = 0) := Lib.hid (allE_none fun m hm => by
        obtain ⟨i, hi, rfl⟩ := List.getElem_of_mem hm
        exact HA.out i hi hi)
      clear HA
      obtain rfl : E = 0 := HE.out.symm.trans HR.out
      go_wp2
      go_ret
      exact ⟨rfl, hb⟩


set_option maxHeartbeats 1000000 in
theorem refGet_any (a : Option Addr) (c : Nat) (ps : List Pr) (s : ByteArray) (w : World) (h : PairsAt w a ps) (hn : ps.length ≤ 9223372036854775807) (n : Nat) (hnl : n = ps.length) :
    Calls Tryz.prog 157 #[.slice a n c, .string s] w fun e w' => e = .returned (.string (getV ps s.toList)) ∧ w' = w := by
  subst hnl
  go_enter Tryz.func157, Tryz.ntmps157
  go_wp2
  go_loop [5] (fun i => ∃ k : Nat, k ≤ ps.length ∧ i = .int .i64 k ∧ ∀ j, j < k → ∀ hj : j < ps.length, nm ps[j] ≠ s.toList) (fun i => ps.length - (intOf i).toNat)
  case atStart => exact ⟨0, Nat.zero_le _, rfl, fun j hj => absurd hj (Nat.not_lt_zero _)⟩
  case round =>
    obtain ⟨k, hk, rfl, hall⟩ := hrel
    by_cases hlt : k < ps.length
    · have hkl : (k : Int) < (ps.length : Int) := by omega
      obtain ⟨b, o, rfl, hc⟩ := h (by omega)
      obtain ⟨hc1, hc2⟩ := hc k hlt
      clear hc h
      by_cases hE : nm ps[k] = s.toList
      · have hE' : (ps[k].1.toList == s.toList) = true := beq_iff_eq.2 hE
        have HV := Lib.hid (getV_hit ps s.toList k hlt hall hE)
        clear hall hE
        go_wp2
        go_ret
        exact ⟨by rw [HV.out]; rfl, rfl⟩
      · have hE' : (ps[k].1.toList == s.toList) = false := beq_eq_false_iff_ne.2 hE
        have HA := Lib.hid (upto_succ hall fun _ => hE)
        clear hall hE
        go_wp2
        go_round
        case rel => exact ⟨k + 1, by omega, by go_num, HA.out⟩
        case measure => simp [intOf]; omega
    · obtain rfl : k = ps.length := by omega
      have HV : Hid (getV ps s.toList = ⟨#[]⟩) := by
        rw [getV_skip ps s.toList ps.length (Nat.le_refl _) hall, List.drop_length]
        exact rfl
      clear hall
      go_wp2
      go_ret
      exact ⟨by rw [HV.out]; rfl, rfl⟩

set_option maxRecDepth 20000 in
set_option maxHeartbeats 2000000 in
theorem nOne_any (n : ByteArray) (o : Nat) (v : ByteArray) (a : Option Addr) (c : Nat) (ps : List Pr) (w : World) (hns : n.size ≤ 9223372036854775807) (h : PairsAt w a ps) (hn : ps.length ≤ 9223372036854775807) (hv : ∀ p ∈ ps, p.2.size ≤ 1000) (k : Nat) (hk : k = ps.length) :
    Calls Tryz.prog 129 #[.agg #[.string n, .int .u8 (o : Int), .string v], .slice a k c] w fun e w' => Tells (mAsk ps (n, o, v)) e ∧ Below w.heap.size w w' := by
  subst hk
  have HC := Lib.hid (fun u => nCheck_any n o v u hns)
  have hbA := Lib.hid (fun (o : Obj) => (Below.refl w.heap.size w).alloc (Nat.le_refl _) o)
  by_cases he : mErr (n, o, v) = 0
  · rw [he] at HC
    obtain ⟨-, ho, h64, hE⟩ := mErr_zero he
    simp only at ho h64 hE
    have hA : mAsk ps (n, o, v) ↔ mHas (n, o, v) (getV ps n.toList) := by unfold mAsk; simp [he]
    have hvg : (getV ps n.toList).size ≤ 1000 := by
      unfold getV
      split
      · rename_i p hp
        exact hv p (List.mem_of_find?_eq_some hp)
      · decide
    have HG := Lib.hid (fun u (hu : PairsAt u a ps) => refGet_any a c ps n u hu hn _ rfl)
    generalize getV ps n.toList = V at *
    simp only [hA]
    clear hA hv
    go_enter Tryz.func129, Tryz.ntmps129
    go_wp2_with (go_at_call 122; refine (HC.out _).mono ?_; rintro e w1 ⟨rfl, hb1⟩; refine Hid.out ?_)
    refine Lib.hid ?_
    have hb1' := (hbA.out _).trans (hb1.mono (by simp))
    have HG1 := Lib.hid (HG.out w1 (h.below hb1' (Nat.le_refl _)))
    have hm0 : MtBlk w1 w.heap.size (n, o, v) := (hb1.block w.heap.size (by simp)).trans (heap_new w _)
    have c0 : w1.cell? ⟨w.heap.size, 0, none⟩ = some (.string n) := hm0.cell0
    go_wp2_with (go_at_call 157; refine HG1.out.mono ?_; rintro e w2 ⟨rfl, rfl⟩; refine Hid.out ?_)
    refine Lib.hid ?_
    have hb2' := hb1'
    have hm2 := hm0
    have c1 : w2.cell? ⟨w.heap.size, 1, none⟩ = some (.int .u8 (o : Int)) := hm2.cell1
    have c2 : w2.cell? ⟨w.heap.size, 2, none⟩ = some (.string v) := hm2.cell2
    clear c0 HG HG1 HC hb1 hm0 hb1' hbA
    rcases (by omega : o = 0 ∨ o = 1 ∨ o = 2 ∨ o = 3) with rfl | rfl | rfl | rfl
    · have HF : Hid ((V.toList == v.toList) = true ↔ mHas (n, 0, v) V) := Lib.hid (by unfold mHas; simp)
      go_wp2_with fail
      go_ret
      exact ⟨tells_of HF.out, hb2'⟩
    · go_wp2_with fail
      go_ret
      exact ⟨tells_of (by unfold mHas; simp), hb2'⟩
    all_goals
      obtain ⟨h6, A, hA⟩ := errE_zero (hE (by decide))
      have HL := Lib.hid (eLike_ok v V w2 h64 A hA hvg)
      have HP := Lib.hid (likeP_of hA V.data.toList)
      clear hA hE h6
    · go_wp2_with (go_at_call 158; refine HL.out.mono ?_; rintro e w3 ⟨⟨b, rfl, hb⟩, hb3⟩; have HB := Lib.hid hb; clear hb; refine Hid.out ?_)
      refine Lib.hid ?_
      have c1' : w3.cell? ⟨w.heap.size, 1, none⟩ = some (.int .u8 2) := (hb3.cell (p := ⟨w.heap.size, 1, none⟩) hm2.lt).trans c1
      clear c1 c2 HL
      go_wp2_with fail
      go_ret
      refine ⟨tells_of ?_, hb2'.trans (hb3.mono hb2'.size)⟩
      unfold mHas
      simp [HP.out, HB.out]
    · go_wp2_with (go_at_call 158; refine HL.out.mono ?_; rintro e w3 ⟨⟨b, rfl, hb⟩, hb3⟩; have HB := Lib.hid hb; clear hb; refine Hid.out ?_)
      refine Lib.hid ?_
      have c1' : w3.cell? ⟨w.heap.size, 1, none⟩ = some (.int .u8 3) := (hb3.cell (p := ⟨w.heap.size, 1, none⟩) hm2.lt).trans c1
      clear c1 c2 HL
      go_wp2_with fail
      go_ret
      refine ⟨tells_of ?_, hb2'.trans (hb3.mono hb2'.size)⟩
      unfold mHas
      simp [HP.out, ← HB.out]
  · have HN := Lib.hid (mAsk_no (ps := ps) he)
    have hb : ((mErr (n, o, v) : Int) != 0) = true := by simpa using he
    generalize mErr (n, o, v) = Er at *
    clear he
    go_enter Tryz.func129, Tryz.ntmps129
    go_wp2_with (go_at_call 122; refine (HC.out _).mono ?_; rintro e w1 ⟨rfl, hb1⟩)
    go_ret
    exact ⟨⟨false, rfl, by simpa using HN.out⟩, (hbA.out _).trans (hb1.mono (by simp))⟩


set_option maxRecDepth 20000 in
set_option maxHeartbeats 2000000 in
theorem nAll_any (a : Option Addr) (c : Nat) (ms : List Mt) (b : Option Addr) (d : Nat) (ps : List Pr) (w : World) (hm : MtsAt w a ms) (hml : ms.length ≤ 9223372036854775807) (hz : ∀ m ∈ ms, m.1.size ≤ 9223372036854775807) (h : PairsAt w b ps) (hn : ps.length ≤ 9223372036854775807) (hv : ∀ q ∈ ps, q.2.size ≤ 1000) :
    Calls Tryz.prog 84 #[.slice a ms.length c, .slice b ps.length d] w fun e w' => Tells (∀ m ∈ ms, mAsk ps m) e ∧ Below w.heap.size w w' := by
  go_enter Tryz.func84, Tryz.ntmps84
  go_wp2
  go_loopw [5] (fun i wr => ∃ k : Nat, k ≤ ms.length ∧ i = .int .i64 k ∧ Below w.heap.size w wr ∧ Hid (∀ j (_ : j < k) (hj : j < ms.length), mAsk ps ms[j])) (fun i _ => ms.length - (intOf i).toNat)
  case atStart => exact ⟨0, Nat.zero_le _, rfl, Below.refl _ _, Lib.hid fun j hj => absurd hj (Nat.not_lt_zero _)⟩
  case round =>
    obtain ⟨k, hk, rfl, hb, HA⟩ := hrel
    by_cases hlt : k < ms.length
    · have hkl : (k : Int) < (ms.length : Int) := by omega
      obtain ⟨mb, mo, rfl, hmb, hc⟩ := hm (by omega)
      obtain ⟨d0, d1, d2⟩ := hc k hlt
      rw [← hb.cell (p := ⟨mb, mo + k * 3, none⟩) hmb] at d0
      rw [← hb.cell (p := ⟨mb, mo + k * 3 + 1, none⟩) hmb] at d1
      rw [← hb.cell (p := ⟨mb, mo + k * 3 + 2, none⟩) hmb] at d2
      have HK1 := Lib.hid (nOne_any ms[k].1 ms[k].2.1 ms[k].2.2 b d ps wr (hz _ (List.getElem_mem hlt)) (h.below hb (Nat.le_refl _)) hn hv _ rfl)
      rw [show ((ms[k].1, ms[k].2.1, ms[k].2.2) : Mt) = ms[k] from rfl] at HK1
      clear hc hm hz h hv
      by_cases he : mAsk ps ms[k]
      · have HA2 : Hid (∀ j (_ : j < k + 1) (hj : j < ms.length), mAsk ps ms[j]) := Lib.hid fun j hj hl => by
          by_cases e : j = k
          · subst e; exact he
          · exact HA.out j (by omega) hl
        have HE := Lib.hid he
        clear he HA
        generalize ms[k].1 = n at *
        generalize ms[k].2.1 = o at *
        generalize ms[k].2.2 = v at *
        go_wp2_with (go_at_call 129; refine HK1.out.mono ?_; rintro e w2 ⟨ht, q2⟩; obtain rfl := tells_true ht HE.out; clear ht)
        go_roundw
        case rel => exact ⟨k + 1, by omega, by go_num, hb.trans (q2.mono hb.size), HA2⟩
        case measure => simp [intOf]; omega
      · have HR : Hid (¬ ∀ m ∈ ms, mAsk ps m) := Lib.hid fun k' => he (k' _ (List.getElem_mem hlt))
        have HE := Lib.hid he
        clear he HA
        generalize ms[k].1 = n at *
        generalize ms[k].2.1 = o at *
        generalize ms[k].2.2 = v at *
        go_wp2_with (go_at_call 129; refine HK1.out.mono ?_; rintro e w2 ⟨ht, q2⟩; obtain rfl := tells_false ht HE.out; clear ht)
        go_ret
        exact ⟨⟨false, rfl, by simpa using HR.out⟩, hb.trans (q2.mono hb.size)⟩
    · obtain rfl : k = ms.length := by omega
      have HR : Hid (∀ m ∈ ms, mAsk ps m) := Lib.hid (fun m hm => by
        obtain ⟨i, hi, rfl⟩ := List.getElem_of_mem hm
        exact HA.out i hi hi)
      clear HA
      go_wp2
      go_ret
      exact ⟨⟨true, rfl, by simpa using HR.out⟩, hb⟩

end Go.Proofs.YtcngifkoopcmeaaGreatDoor
namespace Go.Proofs.YtcngifkoopcmeaaGreatDoor
open Go.RowKit

theorem digit_slice (x : Int) (h0 : 0 ≤ x) (h1 : x < 10) (W : World) :
    (Instr.slice 9 (.string ⟨#[48, 49, 50, 51, 52, 53, 54, 55, 56, 57]⟩) (some (.int .u64 x)) (some (.int .u64 (x + 1))) none).run Tryz.prog W = .ok (.string ⟨#[UInt8.ofNat (48 + x.toNat)]⟩) W := by
  have h : x = 0 ∨ x = 1 ∨ x = 2 ∨ x = 3 ∨ x = 4 ∨ x = 5 ∨ x = 6 ∨ x = 7 ∨ x = 8 ∨ x = 9 := by omega
  rcases h with rfl | rfl | rfl | rfl | rfl | rfl | rfl | rfl | rfl | rfl <;> (show _ = _; kernel_rfl)

theorem str_append (a b : List UInt8) : (⟨a.toArray⟩ ++ ⟨b.toArray⟩ : ByteArray) = ⟨(a ++ b).toArray⟩ := by
  apply ByteArray.ext; simp

/-- One digit more ahead. -/
theorem digit_step {u : Nat} {m : Int} {l : List UInt8} (h0 : 0 ≤ m) (h : (l = [] ∧ m = u) ∨ (0 < m ∧ Lib.decDigits u = Lib.decDigits m.toNat ++ l)) :
    (m / 10 = 0 → Lib.decDigits u = UInt8.ofNat (48 + (m % 10).toNat) :: l) ∧ (m / 10 ≠ 0 → Lib.decDigits u = Lib.decDigits (m / 10).toNat ++ (UInt8.ofNat (48 + (m % 10).toNat) :: l)) := by
  have hd : Lib.decDigits u = Lib.decDigits m.toNat ++ l := by
    rcases h with ⟨rfl, rfl⟩ | ⟨_, h⟩
    · simp
    · exact h
  refine ⟨fun hz => ?_, fun hz => ?_⟩
  · rw [hd, Lib.decDigits, dif_pos (by omega), show (m % 10).toNat = m.toNat by omega]; rfl
  · rw [hd, Lib.decDigits, dif_neg (by omega), show m.toNat / 10 = (m / 10).toNat by omega, show m.toNat % 10 = (m % 10).toNat by omega, List.append_assoc]; rfl

set_option maxHeartbeats 1000000 in
set_option maxRecDepth 100000 in
theorem told_any (u : Nat) (hu : u < 18446744073709551616) (w : World) :
    Calls Tryz.prog 169 #[.int .u64 u] w fun e w' => e = .returned (.string ⟨(Lib.decDigits u).toArray⟩) ∧ w' = w := by
  go_enter Tryz.func169, Tryz.ntmps169
  go_wp2
  go_loop [0, 3] (fun n s => ∃ (m : Int) (l : List UInt8), n = .int .u64 m ∧ s = .string ⟨l.toArray⟩ ∧ 0 ≤ m ∧ m ≤ 18446744073709551615 ∧ l.length ≤ 20 ∧ Hid ((l = [] ∧ m = u) ∨ (0 < m ∧ Lib.decDigits u = Lib.decDigits m.toNat ++ l))) (fun n _ => (intOf n).toNat)
  case atStart => exact ⟨u, [], rfl, rfl, by omega, by omega, by simp, .inl ⟨rfl, rfl⟩⟩
  case round =>
    obtain ⟨m, l, rfl, rfl, h0, h1, hl, H⟩ := hrel
    have hst := digit_step h0 H.out
    have hds := fun W => digit_slice (m % 10) (Int.emod_nonneg _ (by decide)) (Int.emod_lt_of_pos _ (by decide)) W
    have hlen : (Lib.decDigits u).length ≤ 20 := by rw [Lib.decDigits_length]; exact Lib.nDigits_le20 u hu
    generalize UInt8.ofNat (48 + (m % 10).toNat) = dg at *
    have HS := Lib.hid hst
    have HL := Lib.hid hlen
    clear hst hlen
    by_cases hz : m / 10 = 0
    · have hzb : (m / 10 == 0) = true := by rw [hz]; rfl
      have HZ := Lib.hid hz
      clear hz
      go_wp2
      go_ret
      refine ⟨?_, rfl⟩
      rw [HS.out.1 HZ.out]
      congr 2
    · have hzb : (m / 10 == 0) = false := by simpa using hz
      have HZ := Lib.hid hz
      clear hz
      go_wp2
      go_round
      case rel =>
        refine ⟨m / 10, dg :: l, rfl, congrArg Value.string (str_append [dg] l), by omega, by omega, ?_, .inr ⟨?_, HS.out.2 HZ.out⟩⟩
        · have h1 := HL.out
          rw [HS.out.2 HZ.out, List.length_append] at h1
          omega
        · have := HZ.out; omega
      case measure =>
        have := HZ.out
        simp [intOf]; omega

theorem told_int (x : Int) (h0 : 0 ≤ x) (h1 : x ≤ 18446744073709551615) (w : World) :
    Calls Tryz.prog 169 #[.int .u64 x] w fun e w' => e = .returned (.string ⟨(Lib.decDigits x.toNat).toArray⟩) ∧ w' = w := by
  have := told_any x.toNat (by omega) w
  rw [Int.toNat_of_nonneg h0] at this
  exact this

set_option maxHeartbeats 1000000 in
set_option maxRecDepth 100000 in
theorem Told_any (n : Int) (h0 : -9223372036854775808 ≤ n) (h1 : n ≤ 9223372036854775807) (w : World) :
    Calls Tryz.prog 149 #[.int .i64 n] w fun e w' => e = .returned (.string ⟨(Lib.itoa n).toArray⟩) ∧ w' = w := by
  have hlen := itoa_len20 n h0 h1
  by_cases hn : n < 0
  · have hit : Lib.itoa n = 45 :: Lib.decDigits n.natAbs := by unfold Lib.itoa; rw [if_pos hn]
    rw [hit] at hlen
    simp only [List.length_cons] at hlen
    have HI := Lib.hid hit
    clear hit
    go_enter Tryz.func149, Tryz.ntmps149
    go_wp2_with (go_at_call 169; refine (told_int (-(n + 1) + 1) (by omega) (by omega) _).mono ?_; rintro e w1 ⟨rfl, rfl⟩; refine Hid.out ?_)
    refine Lib.hid ?_
    rw [show (-(n + 1) + 1).toNat = n.natAbs by omega]
    generalize Lib.decDigits n.natAbs = d at *
    go_wp2
    go_ret
    refine ⟨?_, rfl⟩
    rw [HI.out]
    exact congrArg (fun x => Ending.returned (Value.string x)) (str_append [45] d)
  · have hit : Lib.itoa n = Lib.decDigits n.toNat := by unfold Lib.itoa; rw [if_neg hn]
    have HI := Lib.hid hit
    clear hit
    go_enter Tryz.func149, Tryz.ntmps149
    go_wp2_with (go_at_call 169; refine (told_int n (by omega) (by omega) _).mono ?_; rintro e w1 ⟨rfl, rfl⟩)
    go_ret
    exact ⟨by rw [HI.out]; simp, rfl⟩

/-- []byte(s) of a text that is made. -/
theorem bytes_of_str (w : World) (l : List UInt8) : ∃ a c w', (convert 9 111 (.string ⟨l.toArray⟩)).run Tryz.prog w = .ok (.slice (some a) l.length c) w' ∧ SrcAt w' (.slice (some a) l.length c) l ∧ w.heap.size ≤ a.block ∧ Below w.heap.size w w' := by
  refine ⟨⟨w.heap.size, 0, none⟩, _, _, Lib.run_convert_string_bytes w 9 111 5 ⟨l.toArray⟩ Tryz.underlying9 Tryz.underlying111 Tryz.underlying5, .inr ⟨_, _, rfl, fun i hi => ?_⟩, Nat.le_refl _, Lib.bytesWorld_below _ _ _⟩
  rw [Go.WideShapes.add_plain, Nat.zero_add, Lib.bytesWorld_cell w 5 ⟨l.toArray⟩ i (by show i < l.toArray.size; simpa using hi)]
  simp [List.getD, hi]

set_option maxHeartbeats 1000000 in
set_option maxRecDepth 100000 in
theorem refInt_any (n : Int) (h0 : -9223372036854775808 ≤ n) (h1 : n ≤ 9223372036854775807) (w : World) :
    Calls Tryz.prog 108 #[.int .i64 n] w fun e w' => ∃ a k c, e = .returned (.slice (some a) k c) ∧ SrcAt w' (.slice (some a) k c) (putInt n) ∧ w.heap.size ≤ a.block ∧ Below w.heap.size w w' := by
  have hlen := itoa_len20 n h0 h1
  obtain ⟨a, c, w', hcv, hsrc, hab, hb⟩ := bytes_of_str w (putInt n)
  have e1 : (⟨(putInt n).toArray⟩ : ByteArray) = ⟨#[105]⟩ ++ ⟨(Lib.itoa n).toArray⟩ ++ ⟨#[101]⟩ := by apply ByteArray.ext; simp [putInt]
  rw [e1] at hcv
  have HS := Lib.hid hsrc
  have HT := Lib.hid (Told_any n h0 h1 w)
  clear hsrc e1
  generalize hk : (putInt n).length = k at *
  have HK := Lib.hid hk
  clear hk
  generalize Lib.itoa n = d at *
  go_enter Tryz.func108, Tryz.ntmps108
  go_wp2_with (go_at_call 149; refine HT.out.mono ?_; rintro e w1 ⟨rfl, rfl⟩)
  go_ret
  exact ⟨a, k, c, rfl, HS.out, hab, hb⟩

set_option maxHeartbeats 1000000 in
set_option maxRecDepth 100000 in
theorem refText_any (s : ByteArray) (hs : s.size ≤ 140737488351232) (w : World) :
    Calls Tryz.prog 109 #[.string s] w fun e w' => ∃ a k c, e = .returned (.slice (some a) k c) ∧ SrcAt w' (.slice (some a) k c) (putText s.data.toList) ∧ w.heap.size ≤ a.block ∧ Below w.heap.size w w' := by
  have hlen := itoa_len20 s.size (by omega) (by omega)
  obtain ⟨a, c, w', hcv, hsrc, hab, hb⟩ := bytes_of_str w (putText s.data.toList)
  have e1 : (⟨(putText s.data.toList).toArray⟩ : ByteArray) = ⟨(Lib.itoa s.size).toArray⟩ ++ ⟨#[58]⟩ ++ s := by
    apply ByteArray.ext
    simp [putText]
  rw [e1] at hcv
  have HS := Lib.hid hsrc
  have HT := Lib.hid (Told_any s.size (by omega) (by omega) w)
  clear hsrc e1
  generalize hk : (putText s.data.toList).length = k at *
  have HK := Lib.hid hk
  clear hk
  generalize Lib.itoa s.size = d at *
  go_enter Tryz.func109, Tryz.ntmps109
  go_wp2_with (go_at_call 149; refine HT.out.mono ?_; rintro e w1 ⟨rfl, rfl⟩)
  go_ret
  exact ⟨a, k, c, rfl, HS.out, hab, hb⟩

end Go.Proofs.YtcngifkoopcmeaaGreatDoor
