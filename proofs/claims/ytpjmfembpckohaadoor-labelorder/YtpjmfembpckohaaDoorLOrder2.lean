/-
  The walk of LabelOrder, where the pairs are sorted.
-/
import Derived.Test.YtpjmfembpckohaaDoorLOrder1
import Derived.Test.YtpjmfembpckohaaDoorLAwake
namespace Go.Proofs.YtpjmfembpckohaaDoor
open Go.RowKit

theorem keep_two {w w' : World} {B b x y : Nat} {v1 v2 : Value} (hb : Below B w w') (hx : b < B) (h : w.cell? ⟨b, x, none⟩ = some v1 ∧ w.cell? ⟨b, y, none⟩ = some v2) : w'.cell? ⟨b, x, none⟩ = some v1 ∧ w'.cell? ⟨b, y, none⟩ = some v2 :=
  ⟨by rw [hb.cell (p := ⟨b, x, none⟩) hx]; exact h.1, by rw [hb.cell (p := ⟨b, y, none⟩) hx]; exact h.2⟩

set_option maxHeartbeats 4000000 in
set_option maxRecDepth 100000 in
theorem order_ok (a : Option Addr) (c : Nat) (ps : List Pr) (w : World) (h : PairsAt w a ps) (hl : ps.length ≤ 4398046511102) (hv : TabOk w.heap.size w) (hE : sortE ps = 0) :
    Calls Tryd.prog 7 #[.slice a ps.length c] w fun e w' => e = .returned (.bool true) ∧ Below w.heap.size w w' := by
  obtain ⟨i0, hi, hi0, hi1, hi2⟩ := info_parts infoPair
  have HS := Lib.hid (Sort_any a c ps w h ps.length rfl)
  rw [hE] at HS
  go_enter Tryd.func7, Tryd.ntmps7
  go_wp2_with (go_at_call 13; refine HS.out.mono ?_; rintro e w1 ⟨a1, k1, c1, qs, rfl, hk, hheld, hb1, hne, hz⟩; have hkk := Lib.hid hk; have hnn := Lib.hid hne; have hzz := Lib.hid hz; clear hk hne hz; refine Hid.out ?_)
  refine Lib.hid ?_
  have hs1 := hb1.size
  have hsub : IntKind.i64.wrap ((ps.length : Int) - 1) = (ps.length : Int) - 1 := by rw [IntKind.wrap_i64]; omega
  go_wp2
  clear hsub
  go_loopw [5, 6] (fun v i wr => ∃ (k : Nat) (a5 : Option Addr) (n5 c5 : Nat), k ≤ ps.length ∧ i = .int .i64 ((k : Int) - 1) ∧ v = .slice a5 n5 c5 ∧ OwnP wr w1.heap.size (.slice a5 n5 c5) (ps.drop k).reverse ∧ Below w1.heap.size w1 wr) (fun _ i _ => (intOf i + 1).toNat)
  case atStart => exact ⟨ps.length, none, 0, 0, Nat.le_refl _, rfl, rfl, by rw [List.drop_length]; exact World.ownsRow_nil _ _ _ _, Below.refl _ _⟩
  case round =>
    obtain ⟨k, a5, n5, c5, hk, rfl, rfl, hown, hnx⟩ := hrel
    have hs2 := hnx.size
    cases k with
    | succ j =>
      have hji : ((j + 1 : Nat) : Int) - 1 = (j : Int) := by omega
      rw [hji]
      have hjl : j < ps.length := by omega
      obtain ⟨b, o, rfl, hc⟩ := (h.below hb1 (Nat.le_refl _)) (by omega)
      obtain ⟨hc1, hc2⟩ := hc j hjl
      rw [← hnx.cell (p := ⟨b, o + j * 2, none⟩) (World.block_lt_of_cell? w1 _ hc1)] at hc1
      rw [← hnx.cell (p := ⟨b, o + j * 2 + 1, none⟩) (World.block_lt_of_cell? w1 _ hc2)] at hc2
      have hj0 : (0 : Int) ≤ (j : Int) := by omega
      have hrev : (ps.drop j).reverse = (ps.drop (j + 1)).reverse ++ [ps[j]] := by rw [List.drop_eq_getElem_cons hjl, List.reverse_cons]
      have HREV := Lib.hid hrev
      have hlen : (ps.drop (j + 1)).reverse.length ≤ ps.length := by simp
      have hlen2 : (ps.drop (j + 1)).reverse.length + 1 ≤ 4398046511103 := by simp; omega
      clear hrev hji hc
      generalize (ps.drop (j + 1)).reverse = rs at *
      generalize ps[j] = pj at *
      obtain ⟨s1, s2⟩ := pj
      go_wp2_with (at_builtin; refine wpList_append_own _ rfl _ _ 22 rfl w1.heap.size 35 i0 _ 2 32 Tryd.underlying22 hi hi0 hi1 hi2 rfl (by decide) _ _ _ rfl (hown.alloc _) ⟨wr.heap.size, 0, none⟩ 1 1 [.string s1, .string s2] rfl rfl (World.news_of_block (cs := #[.string s1, .string s2]) (heap_alloc_new _ _)) (by intro u' hu'; simp at hu'; rcases hu' with rfl | rfl <;> rfl) (by unfold maxLen; omega) (by omega) (by simp; omega) ?_; refine Hid.out ?_)
      refine Lib.hid ?_
      intro v2 w2 hown2 hgrow _
      have hnx2 : Below w1.heap.size w1 w2 := (hnx.alloc hs2 _).grown hgrow (by simp; omega) (fun k hk => (hown.lt k hk).1)
      have hown3 : OwnP w2 w1.heap.size v2 (ps.drop j).reverse := by
        rw [HREV.out]
        unfold OwnP
        rw [cellsP_append, List.length_append]
        exact hown2
      obtain ⟨a6, c6, rfl, -, -, -⟩ := hown3.form
      have hw : IntKind.i64.wrap ((j : Int) - 1) = (j : Int) - 1 := by rw [IntKind.wrap_i64]; omega
      clear hown2 hgrow
      go_wp2
      go_roundw
      case rel => exact ⟨j, _, _, _, by omega, rfl, rfl, hown3, hnx2⟩
      case measure => simp [intOf]
    | zero =>
      rw [List.drop_zero] at hown
      obtain ⟨a6, c6, hv6, hat6, -, -⟩ := hown.form
      injection hv6 with e1 e2 e3
      subst e1 e3
      have hperm : ps.reverse.Perm ps := List.reverse_perm ps
      have HB := Lib.hid (Sort_any a5 c5 ps.reverse wr hat6 n5 e2)
      rw [sortE_perm hperm, hE] at HB
      have hneg : ((0 : Nat) : Int) - 1 = -1 := by omega
      rw [hneg]
      clear e2 hneg hown hat6
      go_wp2_with (go_at_call 13; refine HB.out.mono ?_; rintro e w3 ⟨a3, k3, c3, qs3, rfl, hk3, hheld3, hb3, hne3, hz3⟩; have hkk3 := Lib.hid hk3; have hzz3 := Lib.hid hz3; clear hk3 hne3 hz3; refine Hid.out ?_)
      refine Lib.hid ?_
      have hn3 := (hb1.trans (hnx.mono hs1)).trans (hb3.mono (by omega))
      have hs3 := hn3.size
      obtain ⟨hp1, hr1⟩ := hzz.out trivial
      obtain ⟨hp3, hr3⟩ := hzz3.out trivial
      obtain rfl : qs3 = qs := rise_eq (hp3.trans (hperm.trans hp1.symm)) hr3 hr1
      have hbx : Below w1.heap.size w1 w3 := hnx.trans (hb3.mono hs2)
      have hatA := hheld.at.below hbx (Nat.le_refl _)
      have hatB := hheld3.at
      have hatL := h.below hn3 (Nat.le_refl _)
      have hql : qs3.length = ps.length := hp1.length_eq
      have HQL := Lib.hid hql
      have HP := Lib.hid hp1
      have HR := Lib.hid hr1
      clear hp3 hr3 hheld hheld3 hbx hp1 hr1 hql hzz hzz3 hnn h hperm
      go_wp2
      go_loopw [9] (fun i wr => ∃ k : Nat, k ≤ ps.length ∧ i = .int .i64 k ∧ Below w3.heap.size w3 wr) (fun i _ => ps.length - (intOf i).toNat)
      case atStart => exact ⟨0, Nat.zero_le _, rfl, Below.refl _ _⟩
      case round =>
        obtain ⟨k, hk', rfl, hb4⟩ := hrel
        have hs4 := hb4.size
        by_cases hlt : k < ps.length
        · have hkl : (k : Int) < (ps.length : Int) := by omega
          obtain ⟨b, o, rfl, hc⟩ := (hatL.below hb4 (Nat.le_refl _)) (by omega)
          obtain ⟨hc1, hc2⟩ := hc k hlt
          have hmem := HP.out.mem_iff.2 (List.getElem_mem hlt)
          have hget := getV_of_once (rise_once HR.out) hmem
          have hatQ := (hatA.below hb4 (Nat.le_refl _)).below ((Below.refl _ _).drew) (Nat.le_refl _)
          have hbl := World.block_lt_of_cell? wr _ hc1
          have HG := Lib.hid (Get_any a1 c1 qs3 ps[k].1 wr.drew hatQ (by rw [HQL.out]; omega) k1 hkk.out)
          rw [hget] at HG
          clear hmem hget hatQ hc
          generalize ps[k].1 = s1 at *
          generalize ps[k].2 = s2 at *
          go_wp2
          go_region_held3 (fun w' => w'.cell? ⟨b, o + k * 2, none⟩ = some (.string s1) ∧ w'.cell? ⟨b, o + k * 2 + 1, none⟩ = some (.string s2)) (first | go_keep | (exact keep_two hb5 (by simpa using hbl) (by assumption)))
            (first | (go_at_call 19; refine HG.out.mono ?_; rintro e w5 ⟨rfl, hb5⟩))
          have hn5 : Below w3.heap.size w3 w5 := hb4.drew.trans (hb5.mono (by simp; omega))
          go_wp2
          go_roundw
          case rel => exact ⟨k + 1, by omega, by go_num, hn5⟩
          case measure => simp [intOf]; omega
        · obtain rfl : k = ps.length := by omega
          have hn4 := hn3.trans (hb4.mono hs3)
          have hatA4 := hatA.below hb4 (Nat.le_refl _)
          have hatB4 := hatB.below hb4 (Nat.le_refl _)
          have HS4 := Lib.hid (Sort_any a1 c1 qs3 wr hatA4 k1 hkk.out)
          rw [sortE_perm HP.out, hE] at HS4
          have hs4' := hn4.size
          clear hatL
          go_wp2_with (go_at_call 13; refine HS4.out.mono ?_; rintro e w6 ⟨a6, k6, c6, qs6, rfl, hk6, hheld6, hb6, hne6, hz6⟩; have hkk6 := Lib.hid hk6; have hzz6 := Lib.hid hz6; clear hk6 hne6 hz6; refine Hid.out ?_)
          refine Lib.hid ?_
          obtain ⟨hp6, hr6⟩ := hzz6.out trivial
          obtain rfl : qs6 = qs3 := rise_eq hp6 hr6 HR.out
          have hn6 := hn4.trans (hb6.mono hs4')
          have hs6 := hn6.size
          have hatA6 := hatA4.below hb6 (Nat.le_refl _)
          have hatB6 := hatB4.below hb6 (Nat.le_refl _)
          have hatC6 := hheld6.at
          have HC := Lib.hid (Check_any a1 c1 qs6 w6 hatA6)
          have hce : checkE qs6 = 0 := by
            have h0 := hE
            unfold sortE at h0
            unfold checkE
            rw [partsE_perm HP.out]
            split at h0
            · rename_i hx
              exact absurd h0 hx
            · rename_i hx
              rw [if_neg hx, if_pos HR.out]
          rw [hce, ← hkk.out] at HC
          have hkeq : ((k1 : Int) == (ps.length : Int)) = true := by rw [hkk.out, HQL.out]; simp
          have HSA := Lib.hid (fun w7 (hb : Below w6.heap.size w6 w7) => Same_any a1 a3 c1 c3 qs6 qs6 w7 (hatA6.below hb (Nat.le_refl _)) (hatB6.below hb (Nat.le_refl _)) (by rw [HQL.out]; omega) k1 k3 hkk.out hkk3.out)
          have HSB := Lib.hid (fun w7 (hb : Below w6.heap.size w6 w7) => Same_any a1 a6 c1 c6 qs6 qs6 w7 (hatA6.below hb (Nat.le_refl _)) (hatC6.below hb (Nat.le_refl _)) (by rw [HQL.out]; omega) k1 k6 hkk.out hkk6.out)
          simp only [decide_true] at HSA HSB
          have hv6 := hv.on hn6
          clear hce hp6 hr6 hheld6 hatA hatB hatA4 hatB4 hatA6 hatB6 hatC6
          go_wp2_with (go_at_call 10; refine HC.out.mono ?_; rintro e w7 ⟨rfl, hb7⟩; refine Hid.out ?_)
          refine Lib.hid ?_
          have hs7 := hb7.size
          go_wp2_with (go_at_call 15; refine (HSA.out _ hb7).mono ?_; rintro e w8 ⟨rfl, hb8⟩; refine Hid.out ?_)
          refine Lib.hid ?_
          have hn8 : Below w6.heap.size w6 w8 := hb7.trans (hb8.mono hs7)
          have hs8 := hn8.size
          go_wp2_with (go_at_call 15; refine (HSB.out _ hn8).mono ?_; rintro e w9 ⟨rfl, hb9⟩; refine Hid.out ?_)
          refine Lib.hid ?_
          have hn9 := (hn6.trans (hn8.mono hs6)).trans (hb9.mono (by omega))
          have hs9 := hn9.size
          go_wp2_with (go_at_call 12; refine (awake_any w.heap.size _ hs9 (hv.on hn9)).mono ?_; rintro e wA ⟨rfl, hbA⟩; refine Hid.out ?_)
          refine Lib.hid ?_
          go_wp2
          go_ret
          exact ⟨rfl, hn9.trans (hbA.mono hs9)⟩

end Go.Proofs.YtpjmfembpckohaaDoor
