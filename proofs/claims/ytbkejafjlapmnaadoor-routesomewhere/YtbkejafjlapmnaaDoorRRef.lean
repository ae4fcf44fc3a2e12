/-
  The reference's answers on names and on the tree of routes. The reference's answers on one route and one rule. The reference's Check and Light.
-/
import Derived.Test.YtbkejafjlapmnaaDoorRCheck
import Derived.Test.YtbkejafjlapmnaaDoorLRef1
namespace Go.Proofs.YtbkejafjlapmnaaDoor
open Go.RowKit

set_option maxRecDepth 20000 in
set_option maxHeartbeats 2000000 in
theorem utree_any (a : Option Addr) (c : Nat) (l : List Rt) (w : World) (h : RtsAt w a l) (hn : l.length ≤ 9223372036854775807) :
    Calls Tryd.prog 44 #[.slice a l.length c] w fun e w' => Tells (TreeOk l) e ∧ w' = w := by
  by_cases h0 : l.length = 0
  · have HF : Hid (¬ TreeOk l) := Lib.hid fun ⟨⟨k, _⟩, _⟩ => by omega
    have h0' : ((l.length : Int) == 0) = true := by simp [h0]
    clear h0 h
    go_enter Tryd.func44, Tryd.ntmps44
    go_wp2
    go_ret
    exact ⟨⟨false, rfl, by simp [HF.out]⟩, rfl⟩
  have h0' : ((l.length : Int) == 0) = false := by simp [h0]
  have h0p : (0 : Int) < (l.length : Int) := by omega
  obtain ⟨b, o, rfl, hb, hc⟩ := h (by omega)
  have HC := Lib.hid (fun i (hi : i < l.length) => RtsAt.at hi (hc i hi).1)
  obtain ⟨d0, d1⟩ := HC.out 0 (by omega)
  rw [Nat.zero_mul, Nat.add_zero] at d0 d1
  have hpos : 0 < l.length := by omega
  have HT1 : Hid (TreeOk l → l[0].par = -1 ∧ l[0].ms.length = 0) := Lib.hid fun ⟨⟨_, k⟩, _⟩ => k
  have HT2 : Hid (TreeOk l → ∀ i (h : i < l.length), 1 ≤ i → 0 ≤ l[i].par ∧ l[i].par < (i : Int)) := Lib.hid fun k => k.2
  have HT3 : Hid ((l[0].par = -1 ∧ l[0].ms.length = 0) → (∀ i (h : i < l.length), 1 ≤ i → 0 ≤ l[i].par ∧ l[i].par < (i : Int)) → TreeOk l) := Lib.hid fun k1 k2 => ⟨⟨hpos, k1⟩, k2⟩
  clear hc h
  generalize hp0 : l[0].par = p0 at *
  generalize hm0 : l[0].ms.length = m0 at *
  generalize l[0].ma = x0 at *
  generalize l[0].mc = x1 at *
  clear hp0 hm0
  by_cases h1 : p0 = -1
  · subst h1
    by_cases h2 : m0 = 0
    · subst h2
      go_enter Tryd.func44, Tryd.ntmps44
      go_wp2
      clear d0 d1
      go_loop [3] (fun i => ∃ k : Nat, 1 ≤ k ∧ k ≤ l.length ∧ i = .int .i64 k ∧ Hid (∀ j (hj : j < l.length), 1 ≤ j → j < k → 0 ≤ l[j].par ∧ l[j].par < (j : Int))) (fun i => l.length - (intOf i).toNat)
      case atStart => exact ⟨1, by omega, by omega, rfl, Lib.hid fun j _ h1 h2 => by omega⟩
      case round =>
        obtain ⟨k, hk1, hk, rfl, HA⟩ := hrel
        by_cases hlt : k < l.length
        · have hkl : (k : Int) < (l.length : Int) := by omega
          obtain ⟨d0, -⟩ := HC.out k hlt
          by_cases g1 : l[k].par < 0
          · have HF : Hid (¬ TreeOk l) := Lib.hid fun ht => by have := (HT2.out ht k hlt hk1).1; omega
            clear HA HT1 HT2 HT3 HC
            generalize l[k].par = q at *
            go_wp2
            go_ret
            exact ⟨⟨false, rfl, by simp [HF.out]⟩, rfl⟩
          · by_cases g2 : (k : Int) ≤ l[k].par
            · have HF : Hid (¬ TreeOk l) := Lib.hid fun ht => by have := (HT2.out ht k hlt hk1).2; omega
              clear HA HT1 HT2 HT3 HC
              generalize l[k].par = q at *
              go_wp2
              go_ret
              exact ⟨⟨false, rfl, by simp [HF.out]⟩, rfl⟩
            · have HA2 : Hid (∀ j (hj : j < l.length), 1 ≤ j → j < k + 1 → 0 ≤ l[j].par ∧ l[j].par < (j : Int)) := Lib.hid fun j hj h1 h2 => by
                by_cases e : j = k
                · subst e; exact ⟨by omega, by omega⟩
                · exact HA.out j hj h1 (by omega)
              clear HA
              generalize l[k].par = q at *
              go_wp2
              go_round
              case rel => exact ⟨k + 1, by omega, by omega, by go_num, HA2⟩
              case measure => simp [intOf]; omega
        · obtain rfl : k = l.length := by omega
          have HT : Hid (TreeOk l) := Lib.hid (HT3.out (by simp) fun i hi h1 => HA.out i hi h1 hi)
          clear HA
          go_wp2
          go_ret
          exact ⟨⟨true, rfl, by simp [HT.out]⟩, rfl⟩
    · have HF : Hid (¬ TreeOk l) := Lib.hid fun ht => h2 (HT1.out ht).2
      have h2' : (0 : Int) < (m0 : Int) := by omega
      clear HC HT1 HT2 HT3
      go_enter Tryd.func44, Tryd.ntmps44
      go_wp2
      go_ret
      exact ⟨⟨false, rfl, by simp [HF.out]⟩, rfl⟩
  · have HF : Hid (¬ TreeOk l) := Lib.hid fun ht => h1 (HT1.out ht).1
    clear HC HT1 HT2 HT3
    go_enter Tryd.func44, Tryd.ntmps44
    go_wp2
    go_ret
    exact ⟨⟨false, rfl, by simp [HF.out]⟩, rfl⟩

set_option maxHeartbeats 1000000 in
theorem uIn_any (a : Option Addr) (c : Nat) (l : List ByteArray) (s : ByteArray) (w : World) (h : StrsAt w a l) (hn : l.length ≤ 9223372036854775807) (n : Nat) (hnl : n = l.length) :
    Calls Tryd.prog 94 #[.slice a n c, .string s] w fun e w' => e = .returned (.bool (@decide (s ∈ l) (Classical.propDecidable _))) ∧ w' = w := by
  subst hnl
  obtain ⟨B, HB⟩ : ∃ B, Hid (@decide (s ∈ l) (Classical.propDecidable _) = B) := ⟨_, Lib.hid rfl⟩
  rw [HB.out]
  go_enter Tryd.func94, Tryd.ntmps94
  go_wp2
  go_loop [5] (fun i => ∃ k : Nat, k ≤ l.length ∧ i = .int .i64 k ∧ Hid (∀ j (_ : j < k) (hj : j < l.length), l[j] ≠ s)) (fun i => l.length - (intOf i).toNat)
  case atStart => exact ⟨0, Nat.zero_le _, rfl, Lib.hid fun j hj => absurd hj (Nat.not_lt_zero _)⟩
  case round =>
    obtain ⟨k, hk, rfl, HA⟩ := hrel
    by_cases hlt : k < l.length
    · have hkl : (k : Int) < (l.length : Int) := by omega
      obtain ⟨b, o, rfl, hb, hc⟩ := h (by omega)
      have hck := hc k hlt
      clear hc h
      by_cases hE : l[k] = s
      · have hE' : (l[k].toList == s.toList) = true := by rw [hE]; exact beq_self_eq_true _
        obtain rfl : B = true := HB.out.symm.trans (@decide_eq_true _ (Classical.propDecidable _) (by rw [← hE]; exact List.getElem_mem hlt))
        clear hE HA HB
        generalize l[k] = q at *
        go_wp2
        go_ret
        exact ⟨rfl, rfl⟩
      · have hE' : (l[k].toList == s.toList) = false := by rw [Bool.eq_false_iff]; intro h; exact hE (str_eq.1 h)
        have HA2 : Hid (∀ j (_ : j < k + 1) (hj : j < l.length), l[j] ≠ s) := Lib.hid fun j hj hl => by
          by_cases e : j = k
          · subst e; exact hE
          · exact HA.out j (by omega) hl
        clear hE HA
        generalize l[k] = q at *
        go_wp2
        go_round
        case rel => exact ⟨k + 1, by omega, by go_num, HA2⟩
        case measure => simp [intOf]; omega
    · obtain rfl : k = l.length := by omega
      obtain rfl : B = false := HB.out.symm.trans (@decide_eq_false _ (Classical.propDecidable _) fun hm => by
        obtain ⟨i, hi, e⟩ := List.getElem_of_mem hm
        exact HA.out i hi hi e)
      clear HA HB
      go_wp2
      go_ret
      exact ⟨rfl, rfl⟩

set_option maxRecDepth 20000 in
set_option maxHeartbeats 2000000 in
theorem unames_any (a : Option Addr) (c : Nat) (l : List ByteArray) (w : World) (h : StrsAt w a l) (hcap : l.length ≤ c) (hn : l.length ≤ 9223372036854775807) (hz : ∀ s ∈ l, s.size ≤ 9223372036854775807) (n : Nat) (hnl : n = l.length) :
    Calls Tryd.prog 77 #[.slice a n c] w fun e w' => e = .returned (.int .i64 (namesE l)) ∧ Below w.heap.size w w' := by
  subst hnl
  by_cases h8 : 8 < l.length
  · have h8' : (8 : Int) < (l.length : Int) := by omega
    rw [namesE_long h8]
    go_enter Tryd.func77, Tryd.ntmps77
    go_wp2
    go_ret
    exact ⟨rfl, Below.refl _ _⟩
  have h8' : ¬ (8 : Int) < (l.length : Int) := by omega
  have HBad := Lib.hid (fun i => namesE_bad (i := i) h8)
  have HOk := Lib.hid (namesE_ok h8)
  generalize namesE l = E at *
  go_enter Tryd.func77, Tryd.ntmps77
  go_wp2
  go_loopw [3] (fun i wr => ∃ k : Nat, k ≤ l.length ∧ i = .int .i64 k ∧ Hid (Below w.heap.size w wr) ∧ Hid (∀ j, j < k → ¬ nameBad l j)) (fun i _ => l.length - (intOf i).toNat)
  case atStart => exact ⟨0, Nat.zero_le _, rfl, Lib.hid (Below.refl _ _), Lib.hid fun j hj => absurd hj (Nat.not_lt_zero _)⟩
  case round =>
    obtain ⟨k, hk, rfl, HB, HA⟩ := hrel
    by_cases hlt : k < l.length
    · have hkl : (k : Int) < (l.length : Int) := by omega
      have hkc : (k : Int) ≤ (c : Int) := by omega
      have hw := h.below HB.out (Nat.le_refl _)
      have HC := Lib.hid (fun q => uIn_any a c (l.take k) l[k] (wr.drewN q) ((hw.take k hk).below (below_drewN (Below.refl wr.heap.size wr) q) (Nat.le_refl _)) (by rw [List.length_take]; omega) k (by rw [List.length_take]; omega))
      have HN1 := Lib.hid (fun u => refName_any l[k] u (hz _ (List.getElem_mem hlt)))
      obtain ⟨b, o, rfl, hb, hc⟩ := hw (by omega)
      have hck := hc k hlt
      clear hc hw
      by_cases hO : NameOk l[k]
      · rw [decide_eq_true hO] at HN1
        by_cases hM : l[k] ∈ l.take k
        · have HE := Lib.hid (HBad.out k ⟨hlt, Or.inr hM⟩)
          rw [@decide_eq_true _ (Classical.propDecidable _) hM] at HC
          clear hO hM HA HBad HOk h hz
          generalize l[k] = q at *
          go_wp2_with fail
          go_quiet (first
            | (go_at_call 68; exact Calls.quiet_of_same (HN1.out _))
            | (go_at_call 94; exact Calls.quiet_of_same (HC.out _)))
          have HB2 : Hid (Below w.heap.size w (wr.drewN nq)) := Lib.hid (below_drewN HB.out _)
          clear hck HB
          generalize wr.drewN nq = w2 at *
          go_wp2
          go_ret
          exact ⟨by rw [HE.out]; rfl, HB2.out⟩
        · have HA2 : Hid (∀ j, j < k + 1 → ¬ nameBad l j) := Lib.hid (upto_succ HA.out fun ⟨_, hx⟩ => hx.elim (fun y => y hO) hM)
          rw [@decide_eq_false _ (Classical.propDecidable _) hM] at HC
          clear hO hM HA HBad HOk h hz
          generalize l[k] = q at *
          go_wp2_with fail
          go_quiet (first
            | (go_at_call 68; exact Calls.quiet_of_same (HN1.out _))
            | (go_at_call 94; exact Calls.quiet_of_same (HC.out _)))
          have HB2 : Hid (Below w.heap.size w (wr.drewN nq)) := Lib.hid (below_drewN HB.out _)
          clear hck HB
          generalize wr.drewN nq = w2 at *
          go_wp2
          go_roundw
          case rel => exact ⟨k + 1, by omega, by go_num, HB2, HA2⟩
          case measure => simp [intOf]; omega
      · rw [decide_eq_false hO] at HN1
        have HE := Lib.hid (HBad.out k ⟨hlt, Or.inl hO⟩)
        clear hO HA HBad HOk h hz
        generalize l[k] = q at *
        go_wp2_with fail
        go_quiet (first
          | (go_at_call 68; exact Calls.quiet_of_same (HN1.out _))
          | (go_at_call 94; exact Calls.quiet_of_same (HC.out _)))
        have HB2 : Hid (Below w.heap.size w (wr.drewN nq)) := Lib.hid (below_drewN HB.out _)
        clear hck HB
        generalize wr.drewN nq = w2 at *
        go_wp2
        go_ret
        exact ⟨by rw [HE.out]; rfl, HB2.out⟩
    · obtain rfl : k = l.length := by omega
      have HE := Lib.hid (HOk.out fun i hi => HA.out i hi.1 hi)
      clear HA HBad HOk h hz
      go_wp2
      go_ret
      exact ⟨by rw [HE.out]; rfl, HB.out⟩


set_option maxRecDepth 20000 in
set_option maxHeartbeats 2000000 in
theorem urule_any (r : Rl) (w : World) (h1 : MtsAt w r.sa r.src) (h2 : MtsAt w r.ta r.tgt) (h3 : StrsAt w r.ea r.eqs) (hok : RlOk r) :
    Calls Tryd.prog 46 #[.agg #[.slice r.sa r.src.length r.sc, .slice r.ta r.tgt.length r.tc, .slice r.ea r.eqs.length r.ec]] w fun e w' => e = .returned (.int .i64 (ruleE r)) ∧ Below w.heap.size w w' := by
  obtain ⟨E, HE⟩ : ∃ E, Hid (ruleE r = E) := ⟨_, Lib.hid rfl⟩
  rw [HE.out]
  unfold ruleE at HE
  obtain ⟨sa, sc, src, ta, tc, tgt, ea, ec, eqs⟩ := r
  obtain ⟨⟨k1, z1⟩, ⟨k2, z2⟩, ⟨k3, z3⟩, k4⟩ := hok
  simp only at h1 h2 h3 k1 k2 k3 k4 z1 z2 z3 HE ⊢
  have k : maxLen = 9223372036854775807 := rfl
  have hA := (Below.refl w.heap.size w).alloc (Nat.le_refl _) (.cells #[.slice sa src.length sc, .slice ta tgt.length tc, .slice ea eqs.length ec] 57)
  have HC1 := Lib.hid (nCheckAll_any sa sc src _ (h1.below hA (Nat.le_refl _)) (by omega) (fun m hm => by have := (z1 m hm).1; omega))
  have HC2 := Lib.hid (fun u (hu : Below w.heap.size w u) => nCheckAll_any ta tc tgt u (h2.below hu (Nat.le_refl _)) (by omega) (fun m hm => by have := (z2 m hm).1; omega))
  have HN := Lib.hid (fun u (hu : Below w.heap.size w u) => unames_any ea ec eqs u (h3.below hu (Nat.le_refl _)) k4 (by omega) (fun s hs => by have := z3 s hs; omega) _ rfl)
  have HB := Lib.hid hA
  have HBlk := Lib.hid (heap_new w (.cells #[.slice sa src.length sc, .slice ta tgt.length tc, .slice ea eqs.length ec] 57))
  generalize checkAllE src = E1 at *
  generalize checkAllE tgt = E2 at *
  generalize namesE eqs = E3 at *
  clear h1 h2 h3 hA k1 k2 k3 k4 k z1 z2 z3
  go_enter Tryd.func46, Tryd.ntmps46
  go_wp2_with (go_at_call 76; refine HC1.out.mono ?_; rintro e w1 ⟨rfl, q1⟩; refine Hid.out ?_)
  refine Lib.hid ?_
  have HB1 := Lib.hid (HB.out.trans (q1.mono HB.out.size))
  have hb1 := (q1.block w.heap.size (by simp)).trans HBlk.out
  have c1 : w1.cell? ⟨w.heap.size, 1, none⟩ = some (.slice ta tgt.length tc) := cell_heap hb1
  have HBl1 := Lib.hid hb1
  have HC3 := Lib.hid (HC2.out w1 HB1.out)
  clear HC1 HB HBlk q1 hb1 HC2
  by_cases g1 : E1 = 0
  · subst g1
    rw [if_neg (by simp)] at HE
    go_wp2_with (go_at_call 76; refine HC3.out.mono ?_; rintro e w2 ⟨rfl, q2⟩; refine Hid.out ?_)
    refine Lib.hid ?_
    have HB2 := Lib.hid (HB1.out.trans (q2.mono HB1.out.size))
    have hb2 := (q2.block w.heap.size (lt_of_block HBl1.out)).trans HBl1.out
    have c2 : w2.cell? ⟨w.heap.size, 2, none⟩ = some (.slice ea eqs.length ec) := cell_heap hb2
    have HN2 := Lib.hid (HN.out w2 HB2.out)
    clear HC3 HBl1 q2 hb2 HN c1 HB1
    by_cases g2 : E2 = 0
    · subst g2
      rw [if_neg (by simp)] at HE
      go_wp2_with (go_at_call 77; refine HN2.out.mono ?_; rintro e w3 ⟨rfl, q3⟩)
      go_ret
      exact ⟨by rw [← HE.out]; rfl, HB2.out.trans (q3.mono HB2.out.size)⟩
    · rw [if_pos g2] at HE
      have g2' : (E2 == 0) = false := by simpa using g2
      clear g2
      go_wp2
      go_ret
      exact ⟨by rw [← HE.out]; rfl, HB2.out⟩
  · rw [if_pos g1] at HE
    have g1' : (E1 == 0) = false := by simpa using g1
    clear g1
    go_wp2
    go_ret
    exact ⟨by rw [← HE.out]; rfl, HB1.out⟩

set_option maxRecDepth 20000 in
set_option maxHeartbeats 4000000 in
theorem uroute_any (r : Rt) (w : World) (hm : MtsAt w r.ma r.ms) (hb : StrsAt w r.ba r.bys) (hok : RtOk r) :
    Calls Tryd.prog 45 #[.agg #[.int .i64 r.par, .slice r.ma r.ms.length r.mc, .bool r.co, .slice r.ba r.bys.length r.bc, .string r.rc, .int .i64 r.wt, .int .i64 r.iv, .int .i64 r.rp]] w fun e w' => e = .returned (.int .i64 (routeE r)) ∧ Below w.heap.size w w' := by
  obtain ⟨E, HE⟩ : ∃ E, Hid (routeE r = E) := ⟨_, Lib.hid rfl⟩
  rw [HE.out]
  unfold routeE at HE
  obtain ⟨par, ma, mc, ms, co, ba, bc, bys, rc, wt, iv, rp⟩ := r
  obtain ⟨⟨k1, z1⟩, ⟨⟨k2, z2⟩, k3⟩, k4⟩ := hok
  simp only at hm hb k1 k2 k3 k4 z1 z2 HE ⊢
  have k : maxLen = 9223372036854775807 := rfl
  have hA := (Below.refl w.heap.size w).alloc (Nat.le_refl _) (.cells #[.int .i64 par, .slice ma ms.length mc, .bool co, .slice ba bys.length bc, .string rc, .int .i64 wt, .int .i64 iv, .int .i64 rp] 55)
  have HC := Lib.hid (nCheckAll_any ma mc ms _ (hm.below hA (Nat.le_refl _)) (by omega) (fun m hm => by have := (z1 m hm).1; omega))
  have HN := Lib.hid (fun u (hu : Below w.heap.size w u) => unames_any ba bc bys u (hb.below hu (Nat.le_refl _)) k3 (by omega) (fun s hs => by have := z2 s hs; omega) _ rfl)
  have HM := Lib.hid (fun u => refName_any rc u (by omega))
  have HB := Lib.hid hA
  have HBlk := Lib.hid (heap_new w (.cells #[.int .i64 par, .slice ma ms.length mc, .bool co, .slice ba bys.length bc, .string rc, .int .i64 wt, .int .i64 iv, .int .i64 rp] 55))
  generalize checkAllE ms = E1 at *
  generalize namesE bys = E2 at *
  clear hm hb hA k1 k2 k3 k4 k z1 z2
  go_enter Tryd.func45, Tryd.ntmps45
  go_wp2_with (go_at_call 76; refine HC.out.mono ?_; rintro e w1 ⟨rfl, q1⟩; refine Hid.out ?_)
  refine Lib.hid ?_
  have HB1 := Lib.hid (HB.out.trans (q1.mono HB.out.size))
  have hb1 := (q1.block w.heap.size (by simp)).trans HBlk.out
  have c3 : w1.cell? ⟨w.heap.size, 3, none⟩ = some (.slice ba bys.length bc) := cell_heap hb1
  have HBl1 := Lib.hid hb1
  have HN1 := Lib.hid (HN.out w1 HB1.out)
  clear HC HB HBlk q1 hb1 HN
  by_cases h1 : E1 = 0
  · subst h1
    rw [if_neg (by simp)] at HE
    go_wp2_with (go_at_call 77; refine HN1.out.mono ?_; rintro e w2 ⟨rfl, q2⟩; refine Hid.out ?_)
    refine Lib.hid ?_
    have HB2 := Lib.hid (HB1.out.trans (q2.mono HB1.out.size))
    have hb2 := (q2.block w.heap.size (lt_of_block HBl1.out)).trans HBl1.out
    have c4 : w2.cell? ⟨w.heap.size, 4, none⟩ = some (.string rc) := cell_heap hb2
    have c5 : w2.cell? ⟨w.heap.size, 5, none⟩ = some (.int .i64 wt) := cell_heap hb2
    have c6 : w2.cell? ⟨w.heap.size, 6, none⟩ = some (.int .i64 iv) := cell_heap hb2
    have c7 : w2.cell? ⟨w.heap.size, 7, none⟩ = some (.int .i64 rp) := cell_heap hb2
    clear c3 HBl1 q2 hb2 HN1 HB1
    by_cases h2 : E2 = 0
    · subst h2
      rw [if_neg (by simp)] at HE
      by_cases h3 : NameOk rc
      · rw [if_neg (Classical.not_not.2 h3)] at HE
        rw [decide_eq_true h3] at HM
        clear h3
        have HT : Hid ((¬ (wt < 0 ∨ iv < 1 ∨ rp < 1 ∨ 1099511627776 < wt ∨ 1099511627776 < iv ∨ 1099511627776 < rp) → E = 0) ∧ ((wt < 0 ∨ iv < 1 ∨ rp < 1 ∨ 1099511627776 < wt ∨ 1099511627776 < iv ∨ 1099511627776 < rp) → E = 13)) := Lib.hid ⟨fun h => by
            rw [← HE.out, if_neg (Classical.not_not.2 ⟨by show wt = 0 ∨ (1 ≤ wt ∧ wt ≤ 1099511627776); omega, by show 1 ≤ iv ∧ iv ≤ 1099511627776; omega, by show 1 ≤ rp ∧ rp ≤ 1099511627776; omega⟩)], fun h => by
            rw [← HE.out, if_pos fun ⟨x, y, z⟩ => by have x' : wt = 0 ∨ (1 ≤ wt ∧ wt ≤ 1099511627776) := x; have y' : 1 ≤ iv ∧ iv ≤ 1099511627776 := y; have z' : 1 ≤ rp ∧ rp ≤ 1099511627776 := z; omega]⟩
        clear HE
        by_cases g1 : wt < 0
        · have HE2 := Lib.hid (HT.out.2 (by omega))
          clear HT
          go_wp2_with (go_at_call 68; refine (HM.out _).mono ?_; rintro e w3 ⟨rfl, rfl⟩)
          go_ret
          exact ⟨by rw [HE2.out]; rfl, HB2.out⟩
        by_cases g2 : iv < 1
        · have HE2 := Lib.hid (HT.out.2 (by omega))
          clear HT
          go_wp2_with (go_at_call 68; refine (HM.out _).mono ?_; rintro e w3 ⟨rfl, rfl⟩)
          go_ret
          exact ⟨by rw [HE2.out]; rfl, HB2.out⟩
        by_cases g3 : rp < 1
        · have HE2 := Lib.hid (HT.out.2 (by omega))
          clear HT
          go_wp2_with (go_at_call 68; refine (HM.out _).mono ?_; rintro e w3 ⟨rfl, rfl⟩)
          go_ret
          exact ⟨by rw [HE2.out]; rfl, HB2.out⟩
        by_cases g4 : 1099511627776 < wt
        · have HE2 := Lib.hid (HT.out.2 (by omega))
          clear HT
          go_wp2_with (go_at_call 68; refine (HM.out _).mono ?_; rintro e w3 ⟨rfl, rfl⟩)
          go_ret
          exact ⟨by rw [HE2.out]; rfl, HB2.out⟩
        by_cases g5 : 1099511627776 < iv
        · have HE2 := Lib.hid (HT.out.2 (by omega))
          clear HT
          go_wp2_with (go_at_call 68; refine (HM.out _).mono ?_; rintro e w3 ⟨rfl, rfl⟩)
          go_ret
          exact ⟨by rw [HE2.out]; rfl, HB2.out⟩
        by_cases g6 : 1099511627776 < rp
        · have HE2 := Lib.hid (HT.out.2 (by omega))
          clear HT
          go_wp2_with (go_at_call 68; refine (HM.out _).mono ?_; rintro e w3 ⟨rfl, rfl⟩)
          go_ret
          exact ⟨by rw [HE2.out]; rfl, HB2.out⟩
        · have HE2 := Lib.hid (HT.out.1 (by omega))
          clear HT
          go_wp2_with (go_at_call 68; refine (HM.out _).mono ?_; rintro e w3 ⟨rfl, rfl⟩)
          go_ret
          exact ⟨by rw [HE2.out]; rfl, HB2.out⟩
      · rw [if_pos h3] at HE
        rw [decide_eq_false h3] at HM
        clear h3
        go_wp2_with (go_at_call 68; refine (HM.out _).mono ?_; rintro e w3 ⟨rfl, rfl⟩)
        go_ret
        exact ⟨by rw [← HE.out]; rfl, HB2.out⟩
    · rw [if_pos h2] at HE
      have h2' : (E2 == 0) = false := by simpa using h2
      go_wp2
      go_ret
      exact ⟨by rw [← HE.out]; rfl, HB2.out⟩
  · rw [if_pos h1] at HE
    have h1' : (E1 == 0) = false := by simpa using h1
    go_wp2
    go_ret
    exact ⟨by rw [← HE.out]; rfl, HB1.out⟩


set_option maxRecDepth 20000 in
set_option maxHeartbeats 4000000 in
theorem uCheck_any (a : Option Addr) (c : Nat) (l : List Rt) (b : Option Addr) (d : Nat) (ls : List Rl) (pt rs : Int) (w : World) (hl : RtsAt w a l) (hls : RlsAt w b ls) (okl : ∀ r ∈ l, RtOk r) (okls : ∀ r ∈ ls, RlOk r) (hn : l.length ≤ 9223372036854775807) (hm : ls.length ≤ 9223372036854775807) :
    Calls Tryd.prog 19 #[.agg #[.slice a l.length c, .slice b ls.length d, .int .i64 pt, .int .i64 rs]] w fun e w' => e = .returned (.int .i64 (confE l ls pt rs)) ∧ Below w.heap.size w w' := by
  obtain ⟨E, HE⟩ : ∃ E, Hid (confE l ls pt rs = E) := ⟨_, Lib.hid rfl⟩
  rw [HE.out]
  unfold confE at HE
  have hA := (Below.refl w.heap.size w).alloc (Nat.le_refl _) (.cells #[.slice a l.length c, .slice b ls.length d, .int .i64 pt, .int .i64 rs] 41)
  have HB := Lib.hid hA
  by_cases h16 : 16 < l.length
  · have h16' : (16 : Int) < (l.length : Int) := by omega
    rw [if_pos (Or.inl h16)] at HE
    clear hl hls okl okls hA
    go_enter Tryd.func19, Tryd.ntmps19
    go_wp2
    go_ret
    exact ⟨by rw [← HE.out]; rfl, HB.out⟩
  have h16' : ¬ (16 : Int) < (l.length : Int) := by omega
  by_cases h8 : 8 < ls.length
  · have h8' : (8 : Int) < (ls.length : Int) := by omega
    rw [if_pos (Or.inr h8)] at HE
    clear hl hls okl okls hA
    go_enter Tryd.func19, Tryd.ntmps19
    go_wp2
    go_ret
    exact ⟨by rw [← HE.out]; rfl, HB.out⟩
  have h8' : ¬ (8 : Int) < (ls.length : Int) := by omega
  rw [if_neg (by omega)] at HE
  have HT := Lib.hid (utree_any a c l _ (hl.below hA (Nat.le_refl _)) hn)
  by_cases ht : TreeOk l
  · have HT2 : Hid (Calls Tryd.prog 44 #[.slice a l.length c] (w.alloc (.cells #[.slice a l.length c, .slice b ls.length d, .int .i64 pt, .int .i64 rs] 41)) fun e w' => e = .returned (.bool true) ∧ w' = w.alloc (.cells #[.slice a l.length c, .slice b ls.length d, .int .i64 pt, .int .i64 rs] 41)) := Lib.hid (HT.out.mono fun e w' ⟨⟨x, h1, h2⟩, h3⟩ => ⟨by rw [h1, h2.2 ht], h3⟩)
    have HE1 : Hid ((if firstE routeE l ≠ 0 then firstE routeE l else if firstE ruleE ls ≠ 0 then firstE ruleE ls else if ¬ (SpanOk pt ∧ SpanOk rs) then 13 else 0) = E) := Lib.hid ((if_pos ((treeB_iff l).2 ht)).symm.trans HE.out)
    have HRt := Lib.hid (fun k (hk : k < l.length) u (hu : Below w.heap.size w u) => uroute_any l[k] u)
    have HRl := Lib.hid (fun k (hk : k < ls.length) u (hu : Below w.heap.size w u) => urule_any ls[k] u)
    have HL := Lib.hid hl
    have HLs := Lib.hid hls
    have HBk : Hid (CfBlk (w.alloc (.cells #[.slice a l.length c, .slice b ls.length d, .int .i64 pt, .int .i64 rs] 41)) w.heap.size a l.length c b ls.length d pt rs) := Lib.hid (heap_new w _)
    have HO := Lib.hid okl
    have HOs := Lib.hid okls
    clear hl hls okl okls hA ht HE HT
    go_enter Tryd.func19, Tryd.ntmps19
    go_wp2_with (go_at_call 44; refine HT2.out.mono ?_; rintro e w1 ⟨rfl, rfl⟩)
    go_loopw [3] (fun i wr => ∃ k : Nat, k ≤ l.length ∧ i = .int .i64 k ∧ Hid (Below w.heap.size w wr) ∧ Hid (CfBlk wr w.heap.size a l.length c b ls.length d pt rs) ∧ Hid (∀ j (_ : j < k) (hj : j < l.length), routeE l[j] = 0)) (fun i _ => l.length - (intOf i).toNat)
    case atStart => exact ⟨0, Nat.zero_le _, rfl, HB, HBk, Lib.hid fun j hj => absurd hj (Nat.not_lt_zero _)⟩
    case round =>
      clear HB HBk
      obtain ⟨k, hk, rfl, HB, HBk, HA⟩ := hrel
      have cc0 : wr.cell? ⟨w.heap.size, 0, none⟩ = some (.slice a l.length c) := cell_heap HBk.out
      have cc1 : wr.cell? ⟨w.heap.size, 1, none⟩ = some (.slice b ls.length d) := cell_heap HBk.out
      by_cases hlt : k < l.length
      · have hkl : (k : Int) < (l.length : Int) := by omega
        obtain ⟨rb, ro, rfl, hrb, hr⟩ := HL.out (by omega)
        obtain ⟨hr1, hr2, hr3⟩ := hr k hlt
        have hcell : ∀ j v, (encR l[k])[j]? = some v → wr.cell? ⟨rb, ro + k * 8 + j, none⟩ = some v := fun j v hv => (HB.out.cell (p := ⟨rb, ro + k * 8 + j, none⟩) hrb).trans (hr1 j v hv)
        have c0 : wr.cell? ⟨rb, ro + k * 8, none⟩ = some (.int .i64 l[k].par) := hcell 0 _ rfl
        have c1 := hcell 1 _ rfl
        have c2 := hcell 2 _ rfl
        have c3 := hcell 3 _ rfl
        have c4 := hcell 4 _ rfl
        have c5 := hcell 5 _ rfl
        have c6 := hcell 6 _ rfl
        have c7 := hcell 7 _ rfl
        have HF := Lib.hid (firstE_hit hlt HA.out)
        have HA2 : Hid (routeE l[k] = 0 → ∀ j (_ : j < k + 1) (hj : j < l.length), routeE l[j] = 0) := Lib.hid fun h0 j hj hl => by
          by_cases e : j = k
          · subst e; exact h0
          · exact HA.out j (by omega) hl
        have bA := HB.out
        have HBA := Lib.hid bA
        have HBk2 := HBk
        have HC := Lib.hid (HRt.out k hlt _ bA (hr2.below bA (Nat.le_refl _)) (hr3.below bA (Nat.le_refl _)) (HO.out _ (List.getElem_mem hlt)))
        clear hr hr1 hr2 hr3 hcell bA HA
        generalize routeE l[k] = Ek at *
        generalize l[k].par = x0 at *
        generalize l[k].ma = x1 at *
        generalize l[k].ms.length = x2 at *
        generalize l[k].mc = x3 at *
        generalize l[k].co = x4 at *
        generalize l[k].ba = x5 at *
        generalize l[k].bys.length = x6 at *
        generalize l[k].bc = x7 at *
        generalize l[k].rc = x8 at *
        generalize l[k].wt = x9 at *
        generalize l[k].iv = x10 at *
        generalize l[k].rp = x11 at *
        go_wp2_with (go_at_call 45; refine HC.out.mono ?_; rintro e w2 ⟨rfl, q2⟩; refine Hid.out ?_)
        refine Lib.hid ?_
        have HB2 := Lib.hid (HBA.out.trans (q2.mono HBA.out.size))
        have HBk3 := Lib.hid (HBk2.out.below q2)
        clear q2 c0 c1 c2 c3 c4 c5 c6 c7 HC HBk2 HBA cc0 cc1
        by_cases hE : Ek = 0
        · subst hE
          have HA3 := Lib.hid (HA2.out rfl)
          clear HA2 HF
          go_wp2
          go_roundw
          case rel => exact ⟨k + 1, by omega, by go_num, HB2, HBk3, HA3⟩
          case measure => simp [intOf]; omega
        · have HE2 : Hid (E = Ek) := Lib.hid (by rw [← HE1.out, HF.out hE, if_pos hE])
          have hE' : (Ek == 0) = false := by simpa using hE
          clear hE HA2 HF
          go_wp2
          go_ret
          exact ⟨by rw [HE2.out]; rfl, HB2.out⟩
      · obtain rfl : k = l.length := by omega
        have HE2 : Hid ((if firstE ruleE ls ≠ 0 then firstE ruleE ls else if ¬ (SpanOk pt ∧ SpanOk rs) then 13 else 0) = E) := Lib.hid (by
          rw [← HE1.out, firstE_none fun i hi => HA.out i hi hi]
          rfl)
        clear HA HE1 HRt HL HO
        go_wp2
        clear cc0 cc1
        go_loopw [5] (fun i wr => ∃ k : Nat, k ≤ ls.length ∧ i = .int .i64 k ∧ Hid (Below w.heap.size w wr) ∧ Hid (CfBlk wr w.heap.size a l.length c b ls.length d pt rs) ∧ Hid (∀ j (_ : j < k) (hj : j < ls.length), ruleE ls[j] = 0)) (fun i _ => ls.length - (intOf i).toNat)
        case atStart => exact ⟨0, Nat.zero_le _, rfl, HB, HBk, Lib.hid fun j hj => absurd hj (Nat.not_lt_zero _)⟩
        case round =>
          clear HB HBk
          obtain ⟨k, hk2, rfl, HB, HBk, HA⟩ := hrel
          have cc1 : wr.cell? ⟨w.heap.size, 1, none⟩ = some (.slice b ls.length d) := cell_heap HBk.out
          by_cases hlt2 : k < ls.length
          · have hkl : (k : Int) < (ls.length : Int) := by omega
            obtain ⟨rb, ro, rfl, hrb, hr⟩ := HLs.out (by omega)
            obtain ⟨hr1, hr2, hr3, hr4⟩ := hr k hlt2
            have hcell : ∀ j v, (encL ls[k])[j]? = some v → wr.cell? ⟨rb, ro + k * 3 + j, none⟩ = some v := fun j v hv => (HB.out.cell (p := ⟨rb, ro + k * 3 + j, none⟩) hrb).trans (hr1 j v hv)
            have c0 : wr.cell? ⟨rb, ro + k * 3, none⟩ = some (.slice ls[k].sa ls[k].src.length ls[k].sc) := hcell 0 _ rfl
            have c1 := hcell 1 _ rfl
            have c2 := hcell 2 _ rfl
            have HF := Lib.hid (firstE_hit hlt2 HA.out)
            have HA2 : Hid (ruleE ls[k] = 0 → ∀ j (_ : j < k + 1) (hj : j < ls.length), ruleE ls[j] = 0) := Lib.hid fun h0 j hj hl => by
              by_cases e : j = k
              · subst e; exact h0
              · exact HA.out j (by omega) hl
            have bA := HB.out
            have HBA := Lib.hid bA
            have HBk2 := HBk
            have HC := Lib.hid (HRl.out k hlt2 _ bA (hr2.below bA (Nat.le_refl _)) (hr3.below bA (Nat.le_refl _)) (hr4.below bA (Nat.le_refl _)) (HOs.out _ (List.getElem_mem hlt2)))
            clear hr hr1 hr2 hr3 hr4 hcell bA HA
            generalize ruleE ls[k] = Ek at *
            generalize ls[k].sa = x1 at *
            generalize ls[k].src.length = x2 at *
            generalize ls[k].sc = x3 at *
            generalize ls[k].ta = x4 at *
            generalize ls[k].tgt.length = x5 at *
            generalize ls[k].tc = x6 at *
            generalize ls[k].ea = x7 at *
            generalize ls[k].eqs.length = x8 at *
            generalize ls[k].ec = x9 at *
            go_wp2_with (go_at_call 46; refine HC.out.mono ?_; rintro e w2 ⟨rfl, q2⟩; refine Hid.out ?_)
            refine Lib.hid ?_
            have HB2 := Lib.hid (HBA.out.trans (q2.mono HBA.out.size))
            have HBk3 := Lib.hid (HBk2.out.below q2)
            clear q2 c0 c1 c2 HC HBk2 HBA cc1
            by_cases hE : Ek = 0
            · subst hE
              have HA3 := Lib.hid (HA2.out rfl)
              clear HA2 HF
              go_wp2
              go_roundw
              case rel => exact ⟨k + 1, by omega, by go_num, HB2, HBk3, HA3⟩
              case measure => simp [intOf]; omega
            · have HE3 : Hid (E = Ek) := Lib.hid (by rw [← HE2.out, HF.out hE, if_pos hE])
              have hE' : (Ek == 0) = false := by simpa using hE
              clear hE HA2 HF
              go_wp2
              go_ret
              exact ⟨by rw [HE3.out]; rfl, HB2.out⟩
          · obtain rfl : k = ls.length := by omega
            have HE3 : Hid ((if ¬ (SpanOk pt ∧ SpanOk rs) then (13 : Int) else 0) = E) := Lib.hid (by
              rw [← HE2.out, firstE_none fun i hi => HA.out i hi hi]
              rfl)
            have c2 : wr.cell? ⟨w.heap.size, 2, none⟩ = some (.int .i64 pt) := cell_heap HBk.out
            have c3 : wr.cell? ⟨w.heap.size, 3, none⟩ = some (.int .i64 rs) := cell_heap HBk.out
            have HT : Hid ((¬ (pt < 1 ∨ rs < 1 ∨ 1099511627776 < pt ∨ 1099511627776 < rs) → E = 0) ∧ ((pt < 1 ∨ rs < 1 ∨ 1099511627776 < pt ∨ 1099511627776 < rs) → E = 13)) := Lib.hid ⟨fun h => by
                rw [← HE3.out, if_neg (Classical.not_not.2 ⟨by unfold SpanOk; omega, by unfold SpanOk; omega⟩)], fun h => by
                rw [← HE3.out, if_pos fun ⟨x, y⟩ => by unfold SpanOk at x y; omega]⟩
            clear HA HE2 HRl HLs HOs HBk HE3
            by_cases g1 : pt < 1
            · have HE4 := Lib.hid (HT.out.2 (by omega))
              clear HT
              go_wp2
              go_ret
              exact ⟨by rw [HE4.out]; rfl, HB.out⟩
            by_cases g2 : rs < 1
            · have HE4 := Lib.hid (HT.out.2 (by omega))
              clear HT
              go_wp2
              go_ret
              exact ⟨by rw [HE4.out]; rfl, HB.out⟩
            by_cases g3 : 1099511627776 < pt
            · have HE4 := Lib.hid (HT.out.2 (by omega))
              clear HT
              go_wp2
              go_ret
              exact ⟨by rw [HE4.out]; rfl, HB.out⟩
            by_cases g4 : 1099511627776 < rs
            · have HE4 := Lib.hid (HT.out.2 (by omega))
              clear HT
              go_wp2
              go_ret
              exact ⟨by rw [HE4.out]; rfl, HB.out⟩
            · have HE4 := Lib.hid (HT.out.1 (by omega))
              clear HT
              go_wp2
              go_ret
              exact ⟨by rw [HE4.out]; rfl, HB.out⟩
  · have HT2 : Hid (Calls Tryd.prog 44 #[.slice a l.length c] (w.alloc (.cells #[.slice a l.length c, .slice b ls.length d, .int .i64 pt, .int .i64 rs] 41)) fun e w' => e = .returned (.bool false) ∧ w' = w.alloc (.cells #[.slice a l.length c, .slice b ls.length d, .int .i64 pt, .int .i64 rs] 41)) := Lib.hid (HT.out.mono fun e w' ⟨⟨x, h1, h2⟩, h3⟩ => ⟨by
      cases x with
      | true => exact absurd (h2.1 rfl) ht
      | false => exact h1, h3⟩)
    have HE2 : Hid (10 = E) := Lib.hid ((if_neg (fun k => ht ((treeB_iff l).1 k))).symm.trans HE.out)
    clear hl hls okl okls hA ht HE HT
    go_enter Tryd.func19, Tryd.ntmps19
    go_wp2_with (go_at_call 44; refine HT2.out.mono ?_; rintro e w1 ⟨rfl, rfl⟩)
    go_ret
    exact ⟨by rw [← HE2.out]; rfl, HB.out⟩


/-- A configuration is light. -/
def LightC (l : List Rt) (ls : List Rl) : Prop := l.length ≤ 20 ∧ ls.length ≤ 12 ∧ (∀ i (hi : i < l.length), l[i].ms.length ≤ 12 ∧ l[i].bys.length ≤ 12) ∧ ∀ i (hi : i < ls.length), ls[i].src.length ≤ 12 ∧ ls[i].tgt.length ≤ 12 ∧ ls[i].eqs.length ≤ 12

set_option maxRecDepth 20000 in
set_option maxHeartbeats 4000000 in
theorem uLight_any (a : Option Addr) (c : Nat) (l : List Rt) (b : Option Addr) (d : Nat) (ls : List Rl) (pt rs : Int) (w : World) (hl : RtsAt w a l) (hls : RlsAt w b ls) (hn : l.length ≤ 9223372036854775807) (hm : ls.length ≤ 9223372036854775807) :
    Calls Tryd.prog 17 #[.agg #[.slice a l.length c, .slice b ls.length d, .int .i64 pt, .int .i64 rs]] w fun e w' => Tells (LightC l ls) e ∧ Below w.heap.size w w' := by
  have hA := (Below.refl w.heap.size w).alloc (Nat.le_refl _) (.cells #[.slice a l.length c, .slice b ls.length d, .int .i64 pt, .int .i64 rs] 41)
  have HB := Lib.hid hA
  have HNo : Hid (¬ LightC l ls → Tells (LightC l ls) (.returned (.bool false))) := Lib.hid fun h => ⟨false, rfl, by simp [h]⟩
  have HYes : Hid (LightC l ls → Tells (LightC l ls) (.returned (.bool true))) := Lib.hid fun h => ⟨true, rfl, by simp [h]⟩
  have HX1 : Hid (LightC l ls → l.length ≤ 20 ∧ ls.length ≤ 12) := Lib.hid fun h => ⟨h.1, h.2.1⟩
  have HX2 : Hid (LightC l ls → ∀ i (hi : i < l.length), l[i].ms.length ≤ 12 ∧ l[i].bys.length ≤ 12) := Lib.hid fun h => h.2.2.1
  have HX3 : Hid (LightC l ls → ∀ i (hi : i < ls.length), ls[i].src.length ≤ 12 ∧ ls[i].tgt.length ≤ 12 ∧ ls[i].eqs.length ≤ 12) := Lib.hid fun h => h.2.2.2
  by_cases h16 : 20 < l.length
  · have h16' : (20 : Int) < (l.length : Int) := by omega
    have HT := Lib.hid (HNo.out fun h => by have := (HX1.out h).1; omega)
    generalize LightC l ls = P at *
    clear hl hls hA HX2 HX3
    go_enter Tryd.func17, Tryd.ntmps17
    go_wp2
    go_ret
    exact ⟨HT.out, HB.out⟩
  have h16' : ¬ (20 : Int) < (l.length : Int) := by omega
  by_cases h8 : 12 < ls.length
  · have h8' : (12 : Int) < (ls.length : Int) := by omega
    have HT := Lib.hid (HNo.out fun h => by have := (HX1.out h).2; omega)
    generalize LightC l ls = P at *
    clear hl hls hA HX2 HX3
    go_enter Tryd.func17, Tryd.ntmps17
    go_wp2
    go_ret
    exact ⟨HT.out, HB.out⟩
  have h8' : ¬ (12 : Int) < (ls.length : Int) := by omega
  have HAll : Hid ((∀ i (hi : i < l.length), l[i].ms.length ≤ 12 ∧ l[i].bys.length ≤ 12) → (∀ i (hi : i < ls.length), ls[i].src.length ≤ 12 ∧ ls[i].tgt.length ≤ 12 ∧ ls[i].eqs.length ≤ 12) → LightC l ls) := Lib.hid fun h1 h2 => ⟨by omega, by omega, h1, h2⟩
  have HL := Lib.hid hl
  have HLs := Lib.hid hls
  have HBk : Hid (CfBlk (w.alloc (.cells #[.slice a l.length c, .slice b ls.length d, .int .i64 pt, .int .i64 rs] 41)) w.heap.size a l.length c b ls.length d pt rs) := Lib.hid (heap_new w _)
  generalize LightC l ls = P at *
  clear hl hls hA HX1
  go_enter Tryd.func17, Tryd.ntmps17
  go_wp2
  go_loopw [3] (fun i wr => ∃ k : Nat, k ≤ l.length ∧ i = .int .i64 k ∧ Hid (Below w.heap.size w wr) ∧ Hid (CfBlk wr w.heap.size a l.length c b ls.length d pt rs) ∧ Hid (∀ j (_ : j < k) (hj : j < l.length), l[j].ms.length ≤ 12 ∧ l[j].bys.length ≤ 12)) (fun i _ => l.length - (intOf i).toNat)
  case atStart => exact ⟨0, Nat.zero_le _, rfl, HB, HBk, Lib.hid fun j hj => absurd hj (Nat.not_lt_zero _)⟩
  case round =>
    clear HB HBk
    obtain ⟨k, hk, rfl, HB, HBk, HA⟩ := hrel
    have cc0 : wr.cell? ⟨w.heap.size, 0, none⟩ = some (.slice a l.length c) := cell_heap HBk.out
    have cc1 : wr.cell? ⟨w.heap.size, 1, none⟩ = some (.slice b ls.length d) := cell_heap HBk.out
    by_cases hlt : k < l.length
    · have hkl : (k : Int) < (l.length : Int) := by omega
      obtain ⟨rb, ro, rfl, hrb, hr⟩ := HL.out (by omega)
      obtain ⟨hr1, -, -⟩ := hr k hlt
      have c1 : wr.cell? ⟨rb, ro + k * 8 + 1, none⟩ = some (.slice l[k].ma l[k].ms.length l[k].mc) := (HB.out.cell (p := ⟨rb, ro + k * 8 + 1, none⟩) hrb).trans (hr1 1 _ rfl)
      have c3 : wr.cell? ⟨rb, ro + k * 8 + 3, none⟩ = some (.slice l[k].ba l[k].bys.length l[k].bc) := (HB.out.cell (p := ⟨rb, ro + k * 8 + 3, none⟩) hrb).trans (hr1 3 _ rfl)
      clear hr hr1
      have HN1 : Hid (¬ (l[k].ms.length ≤ 12 ∧ l[k].bys.length ≤ 12) → ¬ P) := Lib.hid fun h hp => h (HX2.out hp k hlt)
      have HA2 : Hid (l[k].ms.length ≤ 12 ∧ l[k].bys.length ≤ 12 → ∀ j (_ : j < k + 1) (hj : j < l.length), l[j].ms.length ≤ 12 ∧ l[j].bys.length ≤ 12) := Lib.hid fun h0 j hj hl => by
        by_cases e : j = k
        · subst e; exact h0
        · exact HA.out j (by omega) hl
      generalize l[k].ma = x1 at *
      generalize l[k].mc = x3 at *
      generalize l[k].ba = x5 at *
      generalize l[k].bc = x7 at *
      generalize l[k].ms.length = x2 at *
      generalize l[k].bys.length = x6 at *
      clear HA
      by_cases g1 : 12 < x2
      · have g1' : (12 : Int) < (x2 : Int) := by omega
        have HT := Lib.hid (HNo.out (HN1.out fun h => by omega))
        clear HN1 HA2 HX2 HX3 HAll
        go_wp2
        go_ret
        exact ⟨HT.out, HB.out⟩
      have g1' : ¬ (12 : Int) < (x2 : Int) := by omega
      by_cases g2 : 12 < x6
      · have g2' : (12 : Int) < (x6 : Int) := by omega
        have HT := Lib.hid (HNo.out (HN1.out fun h => by omega))
        clear HN1 HA2 HX2 HX3 HAll
        go_wp2
        go_ret
        exact ⟨HT.out, HB.out⟩
      · have g2' : ¬ (12 : Int) < (x6 : Int) := by omega
        have HA3 := Lib.hid (HA2.out ⟨by omega, by omega⟩)
        clear HN1 HA2
        go_wp2
        go_roundw
        case rel => exact ⟨k + 1, by omega, by go_num, HB, HBk, HA3⟩
        case measure => simp [intOf]; omega
    · obtain rfl : k = l.length := by omega
      have HAl := Lib.hid (fun h2 => HAll.out (fun i hi => HA.out i hi hi) h2)
      clear HA HAll HX2 HL
      go_wp2
      clear cc0 cc1
      go_loopw [4] (fun i wr => ∃ k : Nat, k ≤ ls.length ∧ i = .int .i64 k ∧ Hid (Below w.heap.size w wr) ∧ Hid (CfBlk wr w.heap.size a l.length c b ls.length d pt rs) ∧ Hid (∀ j (_ : j < k) (hj : j < ls.length), ls[j].src.length ≤ 12 ∧ ls[j].tgt.length ≤ 12 ∧ ls[j].eqs.length ≤ 12)) (fun i _ => ls.length - (intOf i).toNat)
      case atStart => exact ⟨0, Nat.zero_le _, rfl, HB, HBk, Lib.hid fun j hj => absurd hj (Nat.not_lt_zero _)⟩
      case round =>
        clear HB HBk
        obtain ⟨k, hk2, rfl, HB, HBk, HA⟩ := hrel
        have cc1 : wr.cell? ⟨w.heap.size, 1, none⟩ = some (.slice b ls.length d) := cell_heap HBk.out
        by_cases hlt2 : k < ls.length
        · have hkl : (k : Int) < (ls.length : Int) := by omega
          obtain ⟨rb, ro, rfl, hrb, hr⟩ := HLs.out (by omega)
          obtain ⟨hr1, -, -, -⟩ := hr k hlt2
          have c0 : wr.cell? ⟨rb, ro + k * 3, none⟩ = some (.slice ls[k].sa ls[k].src.length ls[k].sc) := (HB.out.cell (p := ⟨rb, ro + k * 3, none⟩) hrb).trans (hr1 0 _ rfl)
          have c1 : wr.cell? ⟨rb, ro + k * 3 + 1, none⟩ = some (.slice ls[k].ta ls[k].tgt.length ls[k].tc) := (HB.out.cell (p := ⟨rb, ro + k * 3 + 1, none⟩) hrb).trans (hr1 1 _ rfl)
          have c2 : wr.cell? ⟨rb, ro + k * 3 + 2, none⟩ = some (.slice ls[k].ea ls[k].eqs.length ls[k].ec) := (HB.out.cell (p := ⟨rb, ro + k * 3 + 2, none⟩) hrb).trans (hr1 2 _ rfl)
          clear hr hr1
          have HN1 : Hid (¬ (ls[k].src.length ≤ 12 ∧ ls[k].tgt.length ≤ 12 ∧ ls[k].eqs.length ≤ 12) → ¬ P) := Lib.hid fun h hp => h (HX3.out hp k hlt2)
          have HA2 : Hid (ls[k].src.length ≤ 12 ∧ ls[k].tgt.length ≤ 12 ∧ ls[k].eqs.length ≤ 12 → ∀ j (_ : j < k + 1) (hj : j < ls.length), ls[j].src.length ≤ 12 ∧ ls[j].tgt.length ≤ 12 ∧ ls[j].eqs.length ≤ 12) := Lib.hid fun h0 j hj hl => by
            by_cases e : j = k
            · subst e; exact h0
            · exact HA.out j (by omega) hl
          generalize ls[k].sa = x1 at *
          generalize ls[k].sc = x3 at *
          generalize ls[k].ta = x5 at *
          generalize ls[k].tc = x7 at *
          generalize ls[k].ea = x8 at *
          generalize ls[k].ec = x9 at *
          generalize ls[k].src.length = y1 at *
          generalize ls[k].tgt.length = y2 at *
          generalize ls[k].eqs.length = y3 at *
          clear HA
          by_cases g1 : 12 < y1
          · have g1' : (12 : Int) < (y1 : Int) := by omega
            have HT := Lib.hid (HNo.out (HN1.out fun h => by omega))
            clear HN1 HA2 HX3 HAl
            go_wp2
            go_ret
            exact ⟨HT.out, HB.out⟩
          have g1' : ¬ (12 : Int) < (y1 : Int) := by omega
          by_cases g2 : 12 < y2
          · have g2' : (12 : Int) < (y2 : Int) := by omega
            have HT := Lib.hid (HNo.out (HN1.out fun h => by omega))
            clear HN1 HA2 HX3 HAl
            go_wp2
            go_ret
            exact ⟨HT.out, HB.out⟩
          have g2' : ¬ (12 : Int) < (y2 : Int) := by omega
          by_cases g3 : 12 < y3
          · have g3' : (12 : Int) < (y3 : Int) := by omega
            have HT := Lib.hid (HNo.out (HN1.out fun h => by omega))
            clear HN1 HA2 HX3 HAl
            go_wp2
            go_ret
            exact ⟨HT.out, HB.out⟩
          · have g3' : ¬ (12 : Int) < (y3 : Int) := by omega
            have HA3 := Lib.hid (HA2.out ⟨by omega, by omega, by omega⟩)
            clear HN1 HA2
            go_wp2
            go_roundw
            case rel => exact ⟨k + 1, by omega, by go_num, HB, HBk, HA3⟩
            case measure => simp [intOf]; omega
        · obtain rfl : k = ls.length := by omega
          have HT := Lib.hid (HYes.out (HAl.out fun i hi => HA.out i hi hi))
          clear HA HAl HX3
          go_wp2
          go_ret
          exact ⟨HT.out, HB.out⟩

end Go.Proofs.YtbkejafjlapmnaaDoor
