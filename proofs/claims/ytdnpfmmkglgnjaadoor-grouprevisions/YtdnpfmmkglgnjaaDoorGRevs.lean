/-
  The reference's Revision, walked. GroupRevisions, walked: any alerts have the revision that the document says, and any text the counts that it says.
-/
import Derived.Test.YtdnpfmmkglgnjaaDoorGHSort
import Derived.Test.YtdnpfmmkglgnjaaDoorG6
import Derived.Test.YtdnpfmmkglgnjaaDoorGHCnt
namespace Go.Proofs.YtdnpfmmkglgnjaaDoor
open Go.RowKit

set_option maxHeartbeats 400000 in
theorem arFires_any (a : Option Addr) (n c : Nat) (s e now : Int) (w : World) : Calls Tryd.prog 38 #[.agg #[.slice a n c, .int .i64 s, .int .i64 e], .int .i64 now] w fun r w' => r = .returned (.bool (firesP s e now)) ∧ Below w.heap.size w w' := by
  have d1 := (Below.refl w.heap.size w).alloc (Nat.le_refl _) (.cells #[.slice a n c, .int .i64 s, .int .i64 e] 34)
  unfold firesP
  by_cases h1 : s ≤ now
  · go_enter Tryd.func38, Tryd.ntmps38
    go_wp2
    go_ret
    exact ⟨by simp [h1], d1⟩
  · go_enter Tryd.func38, Tryd.ntmps38
    go_wp2
    go_ret
    exact ⟨by simp; omega, d1⟩
theorem putInt_ne (n : Int) : putInt n ≠ [] := by simp [putInt]

set_option maxHeartbeats 4000000 in
set_option maxRecDepth 100000 in
theorem hRevision_any (a : Option Addr) (c : Nat) (L : List Rw) (now : Int) (w : World) (h : AlsAt w a L) (hl : L.length ≤ 40) (hL : ∀ r ∈ L, RwLight r) (n : Nat) (hn : n = L.length) :
    Calls Tryd.prog 14 #[.slice a n c, .int .i64 now] w fun e w' => e = .returned (.string ⟨(revL L now).toArray⟩) ∧ Below w.heap.size w w' := by
  by_cases h0 : n = 0
  · have e0 : revL L now = [] := by unfold revL; rw [if_pos (by omega)]
    have HE := Lib.hid e0
    subst h0
    clear e0 hn
    go_enter Tryd.func14, Tryd.ntmps14
    go_wp2
    go_ret
    exact ⟨by rw [HE.out]; rfl, Below.refl _ _⟩
  · obtain ⟨i0, hi, hi0, hi1, hi2⟩ := info_parts infoBytes
    have HBK := Lib.hid (hSorted_any a c L w h hl hL n hn)
    have HRV : Hid (revL L now = putList (partsR (sortR L) now)) := Lib.hid (by unfold revL; rw [if_neg (by omega)])
    have HLM : Hid (∀ r ∈ sortR L, RwLight r) := Lib.hid fun r hr => hL r ((sortR_perm L).mem_iff.1 hr)
    have hM := sortR_len L
    have hMn : (sortR L).length ≤ n ∧ n ≤ (sortR L).length := by omega
    have hn40 : n ≤ 40 := by omega
    have hnz : ((n : Int) == 0) = false := by rw [beq_eq_false_iff_ne]; omega
    have HPQ : Hid (∀ w' e, SrtPost w w' n L e → ∃ a' c', e = .returned (.slice a' n c') ∧ AlsAt w' a' (sortR L) ∧ Below w.heap.size w w') := Lib.hid fun w' e h => h
    generalize sortR L = M at *
    clear h hl hL hn hM h0
    go_enter Tryd.func14, Tryd.ntmps14
    go_wp2_with (go_at_call 37; refine HBK.out.mono ?_; intro e w1 hp1; obtain ⟨a1, c1, rfl, hk1, hb1⟩ := HPQ.out _ _ hp1; refine Hid.out ?_)
    refine Lib.hid ?_
    have hs1 := hb1.size
    have HK1 := Lib.hid hk1
    clear HBK hk1 hp1 HPQ
    go_wp2
    go_loopw [6, 7] (fun v i wr => ∃ (k : Nat) (a7 : Option Addr) (n7 c7 : Nat) (vs : List Value), k ≤ n ∧ i = .int .i64 k ∧ v = .slice a7 n7 c7 ∧ RowOf wr w1.heap.size (.slice a7 n7 c7) vs (partsR (M.take k) now) ∧ Below w1.heap.size w1 wr) (fun _ i _ => n - (intOf i).toNat)
    case atStart => exact ⟨0, none, 0, 0, [], Nat.zero_le _, rfl, rfl, RowOf.nil _ _, Below.refl _ _⟩
    case round =>
      obtain ⟨k, a7, n7, c7, vs, hk, rfl, rfl, hrow, hnx⟩ := hrel
      have hsr := hnx.size
      by_cases hlt : k < n
      · have hkl : (k : Int) < (n : Int) := by omega
        have hkM : k < M.length := by omega
        obtain ⟨g, o, rfl, hgl, hc⟩ := HK1.out (by omega)
        obtain ⟨hc1, hc2, hc3, hpa⟩ := hc k hkM
        have hC := (show C3 w1 g (o + k * 3) M[k] from ⟨hgl, hc1, hc2, hc3⟩).below hnx (Nat.le_refl _)
        have hpr := hpa.below hnx (Nat.le_refl _)
        have hli := HLM.out M[k] (List.getElem_mem _)
        have hlen := hrow.len
        rw [partsR_len, List.length_take] at hlen
        have hlb : vs.length ≤ 80 := by omega
        clear hlen hc hc1 hc2 hc3 hpa
        have HM := Lib.hid (partsR_take M now k hkM)
        have HFN : Hid (fireN M[k] now = if firesP M[k].st M[k].en now then 1 else 0) := Lib.hid rfl
        generalize M[k] = r0 at *
        have hkz := keyZ r0
        have hke := hli.key_le
        have HF := Lib.hid (arFires_any r0.ad r0.ps.length r0.cp r0.st r0.en now wr)
        have HC3 := Lib.hid hC
        obtain ⟨-, e1, e2, e3⟩ := hC
        cases hf : firesP r0.st r0.en now with
        | true =>
          have hfz : fireN r0 now = 1 := by rw [HFN.out, hf]; rfl
          rw [hfz] at HM
          rw [hf] at HF
          clear hfz HFN hf
          go_wp2_with (go_at_call 38; refine HF.out.mono ?_; rintro e w2 ⟨rfl, hb2⟩; refine Hid.out ?_)
          refine Lib.hid ?_
          have hs2 := hb2.size
          obtain ⟨-, f1, -, -⟩ := HC3.out.below hb2 (Nat.le_refl _)
          have HKy := Lib.hid (refKey_light r0 w2 (hpr.below hb2 (Nat.le_refl _)) hli)
          clear e1 e2 e3 HF
          go_wp2_with (go_at_call 39; refine HKy.out.mono ?_; rintro e w3 ⟨rfl, hb3⟩; refine Hid.out ?_)
          refine Lib.hid ?_
          have hs3 := hb3.size
          have HT := Lib.hid (refText_any ⟨r0.key.toArray⟩ (by omega) w3)
          rw [keyB] at HT
          clear HKy f1
          go_wp2_with (go_at_call 21; refine HT.out.mono ?_; rintro e w4 ⟨a4, k4, c4, rfl, ho4, hq4, hb4⟩; refine Hid.out ?_)
          refine Lib.hid ?_
          have hs4 := hb4.size
          have HI := Lib.hid (refInt_any 1 (by omega) (by omega) w4)
          clear HT
          go_wp2_with (go_at_call 20; refine HI.out.mono ?_; rintro e w5 ⟨a5, k5, c5, rfl, ho5, hq5, hb5⟩; refine Hid.out ?_)
          refine Lib.hid ?_
          have hs5 := hb5.size
          have e5 : Below wr.heap.size wr w5 := ((hb2.trans (hb3.mono hs2)).trans (hb4.mono (by omega))).trans (hb5.mono (by omega))
          have hrow5 := hrow.below e5
          go_wp2_with (at_builtin; refine wpList_append_lies _ (by rfl) _ _ 39 (by rfl) w1.heap.size 37 i0 (.slice none 0 0) 1 24 Tryd.underlying39 hi hi0 hi1 hi2 rfl (by decide) (.slice a7 n7 c7) vs.length vs (by rfl) (hrow5.own.alloc _) ⟨w5.heap.size, 0, none⟩ 2 2 [.slice (some a4) k4 c4, .slice (some a5) k5 c5] (by rfl) rfl (World.news_of_block (cs := #[.slice (some a4) k4 c4, .slice (some a5) k5 c5]) (heap_alloc_new _ _)) (by intro u' hu'; simp at hu'; rcases hu' with rfl | rfl <;> rfl) (by decide) (by unfold maxLen; omega) (by omega) (by simp; omega) (w5.heap.size + 1) (by simp) ?_; refine Hid.out ?_)
          refine Lib.hid ?_
          intro g6 cap w6 hown6 hgrow6 hat6 hlt6
          have hrow6 : RowOf w6 w1.heap.size (.slice (some ⟨g6, 0, none⟩) (vs.length + 2) cap) (vs ++ [.slice (some a4) k4 c4, .slice (some a5) k5 c5]) (partsR (M.take (k + 1)) now) := by
            rw [HM.out]
            refine hrow.steps e5 rfl (fun j hj => ?_) ?_ hown6 hgrow6 (hat6.imp (fun e => e.symm) (fun e => by rw [e]; rfl))
            · match j, hj with
              | 0, _ => exact ho4.below hb5 (Nat.le_refl _)
              | 1, _ => exact ho5
            · intro y hy q n' c' e
              simp only [List.mem_cons, List.not_mem_nil, or_false] at hy
              rcases hy with rfl | rfl
              · simp only [Value.slice.injEq, Option.some.injEq] at e
                obtain ⟨rfl, -, -⟩ := e
                have := src_lt ho4 (putText_ne _)
                omega
              · simp only [Value.slice.injEq, Option.some.injEq] at e
                obtain ⟨rfl, -, -⟩ := e
                have := src_lt ho5 (putInt_ne _)
                omega
          have hnx6 : Below w1.heap.size w1 w6 := ((hnx.trans (e5.mono hsr)).alloc (by omega) _).grown hgrow6 (by simp; omega) (fun j hj => (hrow.own.lt j hj).1)
          clear hown6 hgrow6 hat6
          go_wp2
          go_roundw
          case rel => exact ⟨k + 1, _, _, _, _, by omega, by go_num, rfl, hrow6, hnx6⟩
          case measure => simp [intOf]; omega
        | false =>
          have hfz : fireN r0 now = 0 := by rw [HFN.out, hf]; rfl
          rw [hfz] at HM
          rw [hf] at HF
          clear hfz HFN hf
          go_wp2_with (go_at_call 38; refine HF.out.mono ?_; rintro e w2 ⟨rfl, hb2⟩; refine Hid.out ?_)
          refine Lib.hid ?_
          have hs2 := hb2.size
          obtain ⟨-, f1, -, -⟩ := HC3.out.below hb2 (Nat.le_refl _)
          have HKy := Lib.hid (refKey_light r0 w2 (hpr.below hb2 (Nat.le_refl _)) hli)
          clear e1 e2 e3 HF
          go_wp2_with (go_at_call 39; refine HKy.out.mono ?_; rintro e w3 ⟨rfl, hb3⟩; refine Hid.out ?_)
          refine Lib.hid ?_
          have hs3 := hb3.size
          have HT := Lib.hid (refText_any ⟨r0.key.toArray⟩ (by omega) w3)
          rw [keyB] at HT
          clear HKy f1
          go_wp2_with (go_at_call 21; refine HT.out.mono ?_; rintro e w4 ⟨a4, k4, c4, rfl, ho4, hq4, hb4⟩; refine Hid.out ?_)
          refine Lib.hid ?_
          have hs4 := hb4.size
          have HI := Lib.hid (refInt_any 0 (by omega) (by omega) w4)
          clear HT
          go_wp2_with (go_at_call 20; refine HI.out.mono ?_; rintro e w5 ⟨a5, k5, c5, rfl, ho5, hq5, hb5⟩; refine Hid.out ?_)
          refine Lib.hid ?_
          have hs5 := hb5.size
          have e5 : Below wr.heap.size wr w5 := ((hb2.trans (hb3.mono hs2)).trans (hb4.mono (by omega))).trans (hb5.mono (by omega))
          have hrow5 := hrow.below e5
          go_wp2_with (at_builtin; refine wpList_append_lies _ (by rfl) _ _ 39 (by rfl) w1.heap.size 37 i0 (.slice none 0 0) 1 24 Tryd.underlying39 hi hi0 hi1 hi2 rfl (by decide) (.slice a7 n7 c7) vs.length vs (by rfl) (hrow5.own.alloc _) ⟨w5.heap.size, 0, none⟩ 2 2 [.slice (some a4) k4 c4, .slice (some a5) k5 c5] (by rfl) rfl (World.news_of_block (cs := #[.slice (some a4) k4 c4, .slice (some a5) k5 c5]) (heap_alloc_new _ _)) (by intro u' hu'; simp at hu'; rcases hu' with rfl | rfl <;> rfl) (by decide) (by unfold maxLen; omega) (by omega) (by simp; omega) (w5.heap.size + 1) (by simp) ?_; refine Hid.out ?_)
          refine Lib.hid ?_
          intro g6 cap w6 hown6 hgrow6 hat6 hlt6
          have hrow6 : RowOf w6 w1.heap.size (.slice (some ⟨g6, 0, none⟩) (vs.length + 2) cap) (vs ++ [.slice (some a4) k4 c4, .slice (some a5) k5 c5]) (partsR (M.take (k + 1)) now) := by
            rw [HM.out]
            refine hrow.steps e5 rfl (fun j hj => ?_) ?_ hown6 hgrow6 (hat6.imp (fun e => e.symm) (fun e => by rw [e]; rfl))
            · match j, hj with
              | 0, _ => exact ho4.below hb5 (Nat.le_refl _)
              | 1, _ => exact ho5
            · intro y hy q n' c' e
              simp only [List.mem_cons, List.not_mem_nil, or_false] at hy
              rcases hy with rfl | rfl
              · simp only [Value.slice.injEq, Option.some.injEq] at e
                obtain ⟨rfl, -, -⟩ := e
                have := src_lt ho4 (putText_ne _)
                omega
              · simp only [Value.slice.injEq, Option.some.injEq] at e
                obtain ⟨rfl, -, -⟩ := e
                have := src_lt ho5 (putInt_ne _)
                omega
          have hnx6 : Below w1.heap.size w1 w6 := ((hnx.trans (e5.mono hsr)).alloc (by omega) _).grown hgrow6 (by simp; omega) (fun j hj => (hrow.own.lt j hj).1)
          clear hown6 hgrow6 hat6
          go_wp2
          go_roundw
          case rel => exact ⟨k + 1, _, _, _, _, by omega, by go_num, rfl, hrow6, hnx6⟩
          case measure => simp [intOf]; omega
      · obtain rfl : k = n := by omega
        rw [List.take_of_length_le (by omega)] at hrow
        obtain ⟨hn7, hparts⟩ := hrow.parts
        have hfl := flatR_le now M HLM.out
        have HL := refList_any a7 c7 (partsR M now) wr hparts (by rw [partsR_len]; omega) (by omega)
        rw [← hn7] at HL
        have HLq := Lib.hid HL
        clear hparts hn7 hfl HL
        go_wp2_with (go_at_call 22; refine HLq.out.mono ?_; rintro e w4 ⟨a4, k4, c4, rfl, ho4, hb4⟩; refine Hid.out ?_)
        refine Lib.hid ?_
        have hcv := src_string ho4
        go_wp2
        go_ret
        exact ⟨by rw [HRV.out]; rfl, (hb1.trans (hnx.mono hs1)).trans (hb4.mono (by omega))⟩


set_option maxHeartbeats 4000000 in
set_option maxRecDepth 100000 in
theorem revs_walk (a : Option Addr) (c : Nat) (L : List Rw) (now : Int) (s : ByteArray) (w : World) (hv : VarsOk w.heap.size w) (h : AlsAt w a L) (hl : L.length ≤ 9223372036854775807) (hz : ∀ r ∈ L, r.ps.length ≤ 9223372036854775807 ∧ ∀ p ∈ r.ps, p.1.size ≤ 9223372036854775807 ∧ p.2.size ≤ 9223372036854775807) (hss : s.size ≤ 9223372036854775807) :
    Calls Tryd.prog 4 #[.slice a L.length c, .int .i64 now, .string s] w fun e w' => e = .returned (.bool true) ∧ Below w.heap.size w w' := by
  have HLi := Lib.hid (hLight_any a c L 40 w h hl hz _ rfl)
  have HA := Lib.hid (fun W (hb : Below w.heap.size w W) => gawake_any w.heap.size W hb.size (hv.on hb))
  cases hli : lightB L 40 with
  | false =>
    rw [hli] at HLi
    have HA1 := Lib.hid (HA.out _ (Below.refl _ _))
    clear h hz
    go_enter Tryd.func4, Tryd.ntmps4
    go_wp2_with (first
      | (go_at_call 10; refine HLi.out.mono ?_; rintro e w1 ⟨rfl, rfl⟩)
      | (go_at_call 9; refine HA1.out.mono ?_; rintro e w2 ⟨rfl, hb2⟩; refine Hid.out ?_))
    refine Lib.hid ?_
    have HB := Lib.hid hb2
    clear hb2
    go_wp2
    go_ret
    exact ⟨rfl, HB.out⟩
  | true =>
    obtain ⟨h40, hL⟩ := lightB_yes hli
    rw [hli] at HLi
    have h40' : L.length ≤ 40 := by omega
    by_cases h5 : 5000 < s.size
    · have h5z : (5000 : Int) < (s.size : Int) := by omega
      have HA1 := Lib.hid (HA.out _ (Below.refl _ _))
      clear h hz hL
      go_enter Tryd.func4, Tryd.ntmps4
      go_wp2_with (first
        | (go_at_call 10; refine HLi.out.mono ?_; rintro e w1 ⟨rfl, rfl⟩)
        | (go_at_call 9; refine HA1.out.mono ?_; rintro e w2 ⟨rfl, hb2⟩; refine Hid.out ?_))
      refine Lib.hid ?_
      have HB := Lib.hid hb2
      clear hb2
      go_wp2
      go_ret
      exact ⟨rfl, HB.out⟩
    · have h5z : ¬ (5000 : Int) < (s.size : Int) := by omega
      have HC1 := Lib.hid (gCounts_any s w.heap.size w (by omega) (Nat.le_refl _) hv)
      have HC2 := Lib.hid (fun W => hCounts_any s W (by omega))
      have HR1 := Lib.hid (fun W (hb : Below w.heap.size w W) => gRevision_any a c L now w.heap.size W (h.below hb (Nat.le_refl _)) h40' hL hb.size (hv.on hb) _ rfl)
      have HR2 := Lib.hid (fun W (hb : Below w.heap.size w W) => hRevision_any a c L now W (h.below hb (Nat.le_refl _)) h40' hL _ rfl)
      clear h hz hL
      generalize countsP s.data.toList = R at *
      generalize (⟨(revL L now).toArray⟩ : ByteArray) = sr at *
      go_enter Tryd.func4, Tryd.ntmps4
      go_wp2_with (first
        | (go_at_call 10; refine HLi.out.mono ?_; rintro e w1 ⟨rfl, rfl⟩)
        | (go_at_call 11; refine HC1.out.mono ?_; rintro e w2 ⟨rfl, hb2⟩; refine Hid.out ?_))
      refine Lib.hid ?_
      have HC3 := Lib.hid (HC2.out w2)
      clear HC1 HC2 HLi
      go_wp2_with (go_at_call 12; refine HC3.out.mono ?_; rintro e w3 ⟨rfl, hb3⟩; refine Hid.out ?_)
      refine Lib.hid ?_
      have d3 := hb2.trans (hb3.mono hb2.size)
      have HR3 := Lib.hid (HR1.out w3 d3)
      clear HC3 HR1 hb2 hb3
      go_wp2_with (go_at_call 13; refine HR3.out.mono ?_; rintro e w4 ⟨rfl, hb4⟩; refine Hid.out ?_)
      refine Lib.hid ?_
      have d4 := d3.trans (hb4.mono d3.size)
      have HR4 := Lib.hid (HR2.out w4 d4)
      clear HR2 HR3 d3 hb4
      go_wp2_with (go_at_call 14; refine HR4.out.mono ?_; rintro e w5 ⟨rfl, hb5⟩; refine Hid.out ?_)
      refine Lib.hid ?_
      have d5 := d4.trans (hb5.mono d4.size)
      have HA5 := Lib.hid (HA.out w5 d5)
      have HB5 := Lib.hid d5
      clear HR4 HA d4 hb5 d5
      go_wp2_with (go_at_call 9; refine HA5.out.mono ?_; rintro e w6 ⟨rfl, hb6⟩; refine Hid.out ?_)
      refine Lib.hid ?_
      have HB6 := Lib.hid (HB5.out.trans (hb6.mono HB5.out.size))
      clear hb6 HA5 HB5
      go_wp2
      go_ret
      exact ⟨rfl, HB6.out⟩

end Go.Proofs.YtdnpfmmkglgnjaaDoor
