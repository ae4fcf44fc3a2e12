/-
  The walk of LabelOrder.
-/
import Derived.Test.YtpjmfembpckohaaDoorLSame
import Derived.Test.YtpjmfembpckohaaDoorLAwake
namespace Go.Proofs.YtpjmfembpckohaaDoor
open Go.RowKit

set_option maxHeartbeats 2000000 in
set_option maxRecDepth 100000 in
theorem order_err (a : Option Addr) (c : Nat) (ps : List Pr) (w : World) (h : PairsAt w a ps) (hl : ps.length ≤ 4398046511102) (hv : TabOk w.heap.size w) (hE : sortE ps ≠ 0) :
    Calls Tryd.prog 7 #[.slice a ps.length c] w fun e w' => e = .returned (.bool true) ∧ Below w.heap.size w w' := by
  obtain ⟨i0, hi, hi0, hi1, hi2⟩ := info_parts infoPair
  have HS := Lib.hid (Sort_any a c ps w h ps.length rfl)
  go_enter Tryd.func7, Tryd.ntmps7
  go_wp2_with (go_at_call 13; refine HS.out.mono ?_; rintro e w1 ⟨a1, k1, c1, qs, rfl, hk, hheld, hb1, hne, hz⟩; have hkk := Lib.hid hk; have hnn := Lib.hid hne; have hzz := Lib.hid hz; clear hk hne hz; refine Hid.out ?_)
  refine Lib.hid ?_
  have hs1 := hb1.size
  have hsub : IntKind.i64.wrap ((ps.length : Int) - 1) = (ps.length : Int) - 1 := by rw [IntKind.wrap_i64]; omega
  go_wp2
  clear hsub
  go_loopw [5, 6] (fun v i wr => ∃ (k : Nat) (a5 : Option Addr) (n5 c5 : Nat), k ≤ ps.length ∧ i = .int .i64 ((k : Int) - 1) ∧ v = .slice a5 n5 c5 ∧ OwnP wr w1.heap.size (.slice a5 n5 c5) (ps.drop k).reverse ∧ Below w1.heap.size w1 wr) (fun _ i _ => (intOf i + 1).toNat)
  case atStart => exact ⟨ps.length, none, 0, 0, Nat.le_refl _, rfl, rfl, by rw [List.drop_length]; exact World.ownsRow_nil _ _ _ _, Below.refl _ _⟩
  case round =>
    obtain ⟨k, a5, n5, c5, hk, rfl, rfl, hown, hnx⟩ := hrel
    have hs2 := hnx.size
    cases k with
    | succ j =>
      have hji : ((j + 1 : Nat) : Int) - 1 = (j : Int) := by omega
      rw [hji]
      have hjl : j < ps.length := by omega
      obtain ⟨b, o, rfl, hc⟩ := (h.below hb1 (Nat.le_refl _)) (by omega)
      obtain ⟨hc1, hc2⟩ := hc j hjl
      rw [← hnx.cell (p := ⟨b, o + j * 2, none⟩) (World.block_lt_of_cell? w1 _ hc1)] at hc1
      rw [← hnx.cell (p := ⟨b, o + j * 2 + 1, none⟩) (World.block_lt_of_cell? w1 _ hc2)] at hc2
      have hj0 : (0 : Int) ≤ (j : Int) := by omega
      have hrev : (ps.drop j).reverse = (ps.drop (j + 1)).reverse ++ [ps[j]] := by rw [List.drop_eq_getElem_cons hjl, List.reverse_cons]
      have HREV := Lib.hid hrev
      have hlen : (ps.drop (j + 1)).reverse.length ≤ ps.length := by simp
      have hlen2 : (ps.drop (j + 1)).reverse.length + 1 ≤ 4398046511103 := by simp; omega
      clear hrev hji hc
      generalize (ps.drop (j + 1)).reverse = rs at *
      generalize ps[j] = pj at *
      obtain ⟨s1, s2⟩ := pj
      go_wp2_with (at_builtin; refine wpList_append_own _ rfl _ _ 22 rfl w1.heap.size 35 i0 _ 2 32 Tryd.underlying22 hi hi0 hi1 hi2 rfl (by decide) _ _ _ rfl (hown.alloc _) ⟨wr.heap.size, 0, none⟩ 1 1 [.string s1, .string s2] rfl rfl (World.news_of_block (cs := #[.string s1, .string s2]) (heap_alloc_new _ _)) (by intro u' hu'; simp at hu'; rcases hu' with rfl | rfl <;> rfl) (by unfold maxLen; omega) (by omega) (by simp; omega) ?_; refine Hid.out ?_)
      refine Lib.hid ?_
      intro v2 w2 hown2 hgrow _
      have hnx2 : Below w1.heap.size w1 w2 := (hnx.alloc hs2 _).grown hgrow (by simp; omega) (fun k hk => (hown.lt k hk).1)
      have hown3 : OwnP w2 w1.heap.size v2 (ps.drop j).reverse := by
        rw [HREV.out]
        unfold OwnP
        rw [cellsP_append, List.length_append]
        exact hown2
      obtain ⟨a6, c6, rfl, -, -, -⟩ := hown3.form
      have hw : IntKind.i64.wrap ((j : Int) - 1) = (j : Int) - 1 := by rw [IntKind.wrap_i64]; omega
      clear hown2 hgrow
      go_wp2
      go_roundw
      case rel => exact ⟨j, _, _, _, by omega, rfl, rfl, hown3, hnx2⟩
      case measure => simp [intOf]
    | zero =>
      rw [List.drop_zero] at hown
      obtain ⟨a6, c6, hv6, hat6, -, -⟩ := hown.form
      injection hv6 with e1 e2 e3
      subst e1 e3
      have hperm : ps.reverse.Perm ps := List.reverse_perm ps
      have HB := Lib.hid (Sort_any a5 c5 ps.reverse wr hat6 n5 e2)
      rw [sortE_perm hperm] at HB
      have hneg : ((0 : Nat) : Int) - 1 = -1 := by omega
      rw [hneg]
      clear e2 hneg hown hat6
      go_wp2_with (go_at_call 13; refine HB.out.mono ?_; rintro e w3 ⟨a3, k3, c3, qs3, rfl, hk3, hheld3, hb3, hne3, hz3⟩; have hkk3 := Lib.hid hk3; have hzz3 := Lib.hid hz3; clear hk3 hne3 hz3; refine Hid.out ?_)
      refine Lib.hid ?_
      have hn3 := (hb1.trans (hnx.mono hs1)).trans (hb3.mono (by omega))
      have hs3 := hn3.size
      have h0' : (sortE ps != 0) = true := by simpa using hE
      have hk0 : k1 = 0 := by rw [hkk.out, hnn.out hE]; rfl
      have hv3 := hv.on hn3
      have hbe : (sortE ps == sortE ps) = true := by simp
      subst hk0
      generalize sortE ps = E at *
      clear hheld hheld3 h
      go_wp2_with (go_at_call 12; refine (awake_any w.heap.size _ hs3 hv3).mono ?_; rintro e w4 ⟨rfl, hb4⟩; refine Hid.out ?_)
      refine Lib.hid ?_
      go_wp2
      go_ret
      exact ⟨rfl, hn3.trans (hb4.mono hs3)⟩

end Go.Proofs.YtpjmfembpckohaaDoor
